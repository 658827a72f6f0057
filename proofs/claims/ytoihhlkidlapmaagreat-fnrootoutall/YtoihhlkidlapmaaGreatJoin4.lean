/- Texts of this proof, one behind the other; each says at its head what it shows. -/
import Derived.Test.YtoihhlkidlapmaaGreatJoin3
import Derived.Maps.AppendAt
import Derived.StillTailTactics
namespace Go.Proofs.YtoihhlkidlapmaaGreat
open Go.RowKit Go.Shelf
def TextsAt (W : World) (a : Option Addr) (ps : List ByteArray) : Prop := ps = [] ∨ ∃ b o, a = some ⟨b, o, .none⟩ ∧ b < W.heap.size ∧ ∀ (i : Nat) x, ps[i]? = some x → W.cell? ⟨b, o + i, .none⟩ = some (.string x)
theorem TextsAt.get {W : World} {a : Option Addr} {ps : List ByteArray} (h : TextsAt W a ps) (hne : ps ≠ []) : ∃ b o, a = some ⟨b, o, .none⟩ ∧ b < W.heap.size ∧ ∀ (i : Nat) x, ps[i]? = some x → W.cell? ⟨b, o + i, .none⟩ = some (.string x) := h.resolve_left hne
def Asc (ps : List ByteArray) : Prop := ∀ (i j : Nat) x y, i < j → ps[i]? = some x → ps[j]? = some y → ltS x y = true
def placeP (ps : List ByteArray) (q : ByteArray) : Nat := (ps.takeWhile fun x => ltS x q).length
def thereP (ps : List ByteArray) (q : ByteArray) : Bool := (ps[placeP ps q]?).any fun x => eqS x q
theorem placeP_of : ∀ (ps : List ByteArray) (q : ByteArray) (k : Nat), k ≤ ps.length → (∀ (i : Nat) x, i < k → ps[i]? = some x → ltS x q = true) → (∀ x, ps[k]? = some x → ltS x q = false) → placeP ps q = k
  | [], _, k, hk, _, _ => by simp at hk; subst hk; rfl
  | e :: es, p, 0, _, _, h2 => by
    have := h2 e rfl
    unfold placeP; rw [List.takeWhile_cons]; simp [this]
  | e :: es, p, k + 1, hk, h1, h2 => by
    have h0 := h1 0 e (Nat.succ_pos _) rfl
    have ih := placeP_of es p k (by simpa using hk) (fun i x hi hx => h1 (i + 1) x (by omega) (by simpa using hx)) (fun x hx => h2 x (by simpa using hx))
    unfold placeP at ih ⊢
    rw [List.takeWhile_cons]; simp [h0, ih]
theorem isNaN1_any (s : ByteArray) (w : World) : Calls Tryz.prog 211 #[.string s] w fun e w' => e = .returned (.bool false) ∧ w' = w := by
  go_enter Tryz.func211, Tryz.ntmps211
  go_wp2
  go_ret
  exact ⟨by simp, rfl⟩
theorem isNaN2_any (s : ByteArray) (w : World) : Calls Tryz.prog 257 #[.string s] w fun e w' => e = .returned (.bool false) ∧ w' = w := by
  go_enter Tryz.func257, Tryz.ntmps257
  go_wp2
  go_ret
  exact ⟨by simp, rfl⟩
theorem Less_any (x y : ByteArray) (w : World) : Calls Tryz.prog 197 #[.string x, .string y] w fun e w' => e = .returned (.bool (ltS x y)) ∧ w' = w := by
  have E := hid (show ltS x y = Op.bytesLess x.toList y.toList from rfl)
  go_enter Tryz.func197, Tryz.ntmps197
  go_wp2_with (go_at_call 257; refine (isNaN2_any _ _).mono ?_; rintro e w' ⟨rfl, rfl⟩)
  go_ret
  exact ⟨by rw [unhid E]; rfl, rfl⟩
set_option maxRecDepth 100000 in
set_option maxHeartbeats 4000000 in
theorem BinarySearch_any (ps : List ByteArray) (a : Option Addr) (cap : Nat) (q : ByteArray) (w : World) (hlen : ps.length ≤ 1048576) (hs : Asc ps) (h : TextsAt w a ps) :
    Calls Tryz.prog 139 #[.slice a ps.length cap, .string q] w fun x w' => x = .returned (.tuple #[.int .i64 (placeP ps q), .bool (thereP ps q)]) ∧ w' = w := by
  have HS := hid hs
  clear hs
  go_enter Tryz.func139, Tryz.ntmps139
  go_wp2_with fail
  go_loop [7, 8, 9] (fun i j _ => ∃ (k m : Nat), k ≤ m ∧ m ≤ ps.length ∧ i = .int .i64 k ∧ j = .int .i64 m ∧ Hid (∀ (t : Nat) x, t < k → ps[t]? = some x → ltS x q = true) ∧ Hid (∀ (t : Nat) x, m ≤ t → ps[t]? = some x → ltS x q = false)) (fun i j _ => (intOf j).toNat - (intOf i).toNat)
  case atStart => exact ⟨0, ps.length, Nat.zero_le _, Nat.le_refl _, rfl, rfl, hid (fun t x ht => by omega), hid (fun t x ht hx => by have := (List.getElem?_eq_some_iff.1 hx).1; omega)⟩
  case round =>
    obtain ⟨k, m, hkm, hm, rfl, rfl, hlo, hhi⟩ := hrel
    by_cases hlt : k < m
    · obtain ⟨x, hx⟩ : ∃ x, ps[(k + m) / 2]? = some x := ⟨ps[(k + m) / 2], List.getElem?_eq_getElem (by omega)⟩
      obtain ⟨b, o, rfl, hbl, hc⟩ := h.get (by intro e; subst e; simp at hm; omega)
      have c0 := hc _ x hx
      have HX := hid hx
      have HC := hid hc
      have hlt' : (k : Int) < m := by omega
      have hsm : (k : Int) + m ≤ 4194304 := by omega
      have hall : ∀ (t : Nat) y, t ≤ (k + m) / 2 → ps[t]? = some y → ltS x q = true → ltS y q = true := fun t y ht hy hq => by
        by_cases e : t = (k + m) / 2
        · subst e; rw [hx] at hy; cases hy; exact hq
        · exact lt_tra _ _ _ (unhid HS t _ y x (by omega) hy hx) hq
      have hnone : ∀ (t : Nat) y, (k + m) / 2 ≤ t → ps[t]? = some y → ltS x q = false → ltS y q = false := fun t y ht hy hq => by
        by_cases e : t = (k + m) / 2
        · subst e; rw [hx] at hy; cases hy; exact hq
        · cases hyq : ltS y q
          · rfl
          · have := lt_tra _ _ _ (unhid HS _ t x y (by omega) hx hy) hyq
            unfold ltS at hq; rw [this] at hq; cases hq
      have HA := hid (And.intro hall hnone)
      clear hc hx h hall hnone
      go_wp2_with fail
      refine (Less_any x q _).mono ?_
      rintro r w' ⟨rfl, rfl⟩
      cases hq : ltS x q
      · go_wp2_with fail
        go_round
        case rel => exact ⟨k, (k + m) / 2, by omega, by omega, rfl, by go_num, hlo, hid (fun t y ht hy => (unhid HA).2 t y ht hy hq)⟩
        case measure => simp [intOf]; omega
      · go_wp2_with fail
        go_round
        case rel => exact ⟨(k + m) / 2 + 1, m, by omega, hm, by go_num, rfl, hid (fun t y ht hy => (unhid HA).1 t y (by omega) hy hq), hhi⟩
        case measure => simp [intOf]; omega
    · have hkm' : k = m := by omega
      subst hkm'
      have hlt' : ¬ (k : Int) < k := by omega
      have hpl : placeP ps q = k := placeP_of ps q k hm (unhid hlo) (fun x hx => unhid hhi k x (Nat.le_refl _) hx)
      by_cases hkl : k < ps.length
      · obtain ⟨x, hx⟩ : ∃ x, ps[k]? = some x := ⟨ps[k], List.getElem?_eq_getElem hkl⟩
        obtain ⟨b, o, rfl, hbl, hc⟩ := h.get (by intro e; subst e; simp at hkl)
        have c0 := hc _ x hx
        have hth : thereP ps q = (x.toList == q.toList) := by unfold thereP; rw [hpl, hx]; rfl
        have HP := hid (And.intro hpl hth)
        have hkl' : (k : Int) < ps.length := by omega
        clear hpl hth hx hc h
        cases he : (x.toList == q.toList)
        all_goals
          go_wp2_with (go_at_call 211; refine (isNaN1_any _ _).mono ?_; rintro e w' ⟨rfl, rfl⟩)
          go_ret2
          exact ⟨by rw [(unhid HP).1, (unhid HP).2, he]; rfl, rfl⟩
      · have hth : thereP ps q = false := by unfold thereP; rw [hpl, List.getElem?_eq_none (by omega)]; rfl
        have HP := hid (And.intro hpl hth)
        have hkl' : ¬ (k : Int) < ps.length := by omega
        clear hpl hth h
        go_wp2_with fail
        go_ret2
        exact ⟨by rw [(unhid HP).1, (unhid HP).2]; rfl, rfl⟩
end Go.Proofs.YtoihhlkidlapmaaGreat

namespace Go.Proofs.YtoihhlkidlapmaaGreat
open Go.RowKit Go.Shelf
theorem infoNode : (Tryz.prog.info? 121).map (fun i => (i.zero, i.size, i.bytes)) = some (some .nilIface, 1, 16) := by kernel_rfl
theorem ownsRow_sh {W : World} {base : Nat} {e : TypeId} {size : Nat} {v : Value} {n : Nat} {xs : List Value} (h : W.ownsRow base e size v n xs) : (v = .slice .none 0 0 ∧ n = 0) ∨ ∃ g cap, v = .slice (some ⟨g, 0, .none⟩) n cap ∧ n ≤ cap := by
  rcases h.2 with h | ⟨g, cap, cur, rfl, _, _, hc, _⟩
  · exact .inl h
  · exact .inr ⟨_, _, rfl, hc⟩
theorem nodeV_one (e : Ent) : (nodeV e).oneCell' = true := by
  unfold nodeV; split
  · rfl
  · split <;> rfl
set_option maxRecDepth 100000 in
set_option maxHeartbeats 4000000 in
theorem InsertS_end (N : Nat) (v : Value) (n : Nat) (xs : List Value) (b : Nat) (p : ByteArray) (w : World) (hn : n ≤ 1000) (hN : N ≤ w.heap.size) (h : w.ownsRow N 9 1 v n xs) (hb : w.cell? ⟨b, 0, .none⟩ = some (.string p)) :
    Calls Tryz.prog 234 #[v, .int .i64 n, .slice (some ⟨b, 0, .none⟩) 1 1] w fun x w' => ∃ v', x = .returned v' ∧ w'.ownsRow N 9 1 v' (n + 1) (xs ++ [.string p]) ∧ w.grownBy w' v.ownBlock ∧ (v'.ownBlock = v.ownBlock ∨ v'.ownBlock = some w.heap.size) := by
  obtain ⟨i0, hi, hz0, hz1, hz2⟩ := info_parts info9
  have H := hid h
  have hnew : ∀ (j : Nat) u, [.string p][j]? = some u → w.cell? ((⟨b, 0, .none⟩ : Addr).add j) = some u := fun j u hj => by
    match j with
    | 0 => simp at hj; subst hj; exact hb
    | j + 1 => simp at hj
  have HN := hid hnew
  clear hnew
  rcases ownsRow_sh h with ⟨rfl, rfl⟩ | ⟨g, cap, rfl, hc⟩
  · clear h
    go_enter Tryz.func234, Tryz.ntmps234
    go_wp2_with (at_builtin; refine wpList_append_own_at _ rfl _ _ 24 rfl N 9 i0 (.string ⟨#[]⟩) 1 16 Tryz.underlying24 hi hz0 hz1 hz2 rfl (by decide) _ _ _ rfl (unhid H) ⟨b, 0, .none⟩ 1 1 [.string p] rfl rfl (unhid HN) ?c2 ?c3 ?c4 ?c5 ?_)
    case c2 => intro u hu; simp at hu; subst hu; rfl
    case c3 => unfold maxLen; omega
    case c4 => omega
    case c5 => exact hN
    intro v' w1 hown hgrow _ hat
    have HH := hid (And.intro hown (And.intro hgrow hat))
    clear hown hgrow hat
    go_wp2_with fail
    go_ret
    exact ⟨_, rfl, (unhid HH).1, (unhid HH).2⟩
  · clear h
    by_cases hcn : cap = n
    · subst hcn
      go_enter Tryz.func234, Tryz.ntmps234
      go_wp2_with (at_builtin; refine wpList_append_own_at _ rfl _ _ 24 rfl N 9 i0 (.string ⟨#[]⟩) 1 16 Tryz.underlying24 hi hz0 hz1 hz2 rfl (by decide) _ _ _ rfl (unhid H) ⟨b, 0, .none⟩ 1 1 [.string p] rfl rfl (unhid HN) ?c2 ?c3 ?c4 ?c5 ?_)
      case c2 => intro u hu; simp at hu; subst hu; rfl
      case c3 => unfold maxLen; omega
      case c4 => omega
      case c5 => exact hN
      intro v' w1 hown hgrow _ hat
      have HH := hid (And.intro hown (And.intro hgrow hat))
      clear hown hgrow hat
      go_wp2_with fail
      go_ret
      exact ⟨_, rfl, (unhid HH).1, (unhid HH).2⟩
    · have hcn' : ¬ n = cap := fun e => hcn e.symm
      go_enter Tryz.func234, Tryz.ntmps234
      go_wp2_with (at_builtin; refine wpList_append_own_at _ rfl _ _ 24 rfl N 9 i0 (.string ⟨#[]⟩) 1 16 Tryz.underlying24 hi hz0 hz1 hz2 rfl (by decide) _ _ _ rfl (unhid H) ⟨b, 0, .none⟩ 1 1 [.string p] rfl rfl (unhid HN) ?c2 ?c3 ?c4 ?c5 ?_)
      case c2 => intro u hu; simp at hu; subst hu; rfl
      case c3 => unfold maxLen; omega
      case c4 => omega
      case c5 => exact hN
      intro v' w1 hown hgrow _ hat
      have HH := hid (And.intro hown (And.intro hgrow hat))
      clear hown hgrow hat
      go_wp2_with fail
      go_ret
      exact ⟨_, rfl, (unhid HH).1, (unhid HH).2⟩
set_option maxRecDepth 100000 in
set_option maxHeartbeats 4000000 in
theorem InsertN_end (N : Nat) (v : Value) (n : Nat) (xs : List Value) (b : Nat) (e : Ent) (w : World) (hn : n ≤ 1000) (hN : N ≤ w.heap.size) (h : w.ownsRow N 121 1 v n xs) (hb : w.cell? ⟨b, 0, .none⟩ = some (nodeV e)) :
    Calls Tryz.prog 235 #[v, .int .i64 n, .slice (some ⟨b, 0, .none⟩) 1 1] w fun x w' => ∃ v', x = .returned v' ∧ w'.ownsRow N 121 1 v' (n + 1) (xs ++ [nodeV e]) ∧ w.grownBy w' v.ownBlock ∧ (v'.ownBlock = v.ownBlock ∨ v'.ownBlock = some w.heap.size) := by
  obtain ⟨i0, hi, hz0, hz1, hz2⟩ := info_parts infoNode
  have H := hid h
  have hnew : ∀ (j : Nat) u, [nodeV e][j]? = some u → w.cell? ((⟨b, 0, .none⟩ : Addr).add j) = some u := fun j u hj => by
    match j with
    | 0 => simp at hj; subst hj; exact hb
    | j + 1 => simp at hj
  have HN := hid hnew
  clear hnew
  rcases ownsRow_sh h with ⟨rfl, rfl⟩ | ⟨g, cap, rfl, hc⟩
  · clear h
    go_enter Tryz.func235, Tryz.ntmps235
    go_wp2_with (at_builtin; refine wpList_append_own_at _ rfl _ _ 113 rfl N 121 i0 (.nilIface) 1 16 Tryz.underlying113 hi hz0 hz1 hz2 rfl (by decide) _ _ _ rfl (unhid H) ⟨b, 0, .none⟩ 1 1 [nodeV e] rfl rfl (unhid HN) ?c2 ?c3 ?c4 ?c5 ?_)
    case c2 => intro u hu; simp at hu; subst hu; exact nodeV_one e
    case c3 => unfold maxLen; omega
    case c4 => omega
    case c5 => exact hN
    intro v' w1 hown hgrow _ hat
    have HH := hid (And.intro hown (And.intro hgrow hat))
    clear hown hgrow hat
    go_wp2_with fail
    go_ret
    exact ⟨_, rfl, (unhid HH).1, (unhid HH).2⟩
  · clear h
    by_cases hcn : cap = n
    · subst hcn
      go_enter Tryz.func235, Tryz.ntmps235
      go_wp2_with (at_builtin; refine wpList_append_own_at _ rfl _ _ 113 rfl N 121 i0 (.nilIface) 1 16 Tryz.underlying113 hi hz0 hz1 hz2 rfl (by decide) _ _ _ rfl (unhid H) ⟨b, 0, .none⟩ 1 1 [nodeV e] rfl rfl (unhid HN) ?c2 ?c3 ?c4 ?c5 ?_)
      case c2 => intro u hu; simp at hu; subst hu; exact nodeV_one e
      case c3 => unfold maxLen; omega
      case c4 => omega
      case c5 => exact hN
      intro v' w1 hown hgrow _ hat
      have HH := hid (And.intro hown (And.intro hgrow hat))
      clear hown hgrow hat
      go_wp2_with fail
      go_ret
      exact ⟨_, rfl, (unhid HH).1, (unhid HH).2⟩
    · have hcn' : ¬ n = cap := fun e => hcn e.symm
      go_enter Tryz.func235, Tryz.ntmps235
      go_wp2_with (at_builtin; refine wpList_append_own_at _ rfl _ _ 113 rfl N 121 i0 (.nilIface) 1 16 Tryz.underlying113 hi hz0 hz1 hz2 rfl (by decide) _ _ _ rfl (unhid H) ⟨b, 0, .none⟩ 1 1 [nodeV e] rfl rfl (unhid HN) ?c2 ?c3 ?c4 ?c5 ?_)
      case c2 => intro u hu; simp at hu; subst hu; exact nodeV_one e
      case c3 => unfold maxLen; omega
      case c4 => omega
      case c5 => exact hN
      intro v' w1 hown hgrow _ hat
      have HH := hid (And.intro hown (And.intro hgrow hat))
      clear hown hgrow hat
      go_wp2_with fail
      go_ret
      exact ⟨_, rfl, (unhid HH).1, (unhid HH).2⟩
end Go.Proofs.YtoihhlkidlapmaaGreat

namespace Go.Proofs.YtoihhlkidlapmaaGreat
open Go.RowKit Go.Shelf
def pathsOf (es : List Ent) : List ByteArray := es.map (·.path)
def TreeAt (W : World) (N bt : Nat) (es : List Ent) : Prop := ∃ vp vn, W.heap[bt]? = some (.cells #[vp, vn] 117 (0, 0)) ∧ W.ownsRow N 9 1 vp es.length (es.map fun e => .string e.path) ∧ W.ownsRow N 121 1 vn es.length (es.map nodeV)
theorem TreeAt.lt {W : World} {N bt : Nat} {es : List Ent} (h : TreeAt W N bt es) : bt < W.heap.size := by
  obtain ⟨vp, vn, h1, _⟩ := h; exact (Array.getElem?_eq_some_iff.1 h1).1
theorem ownsRow_kept {w w' : World} {base : Nat} {e : TypeId} {size : Nat} {v : Value} {n : Nat} {xs : List Value} (h : w.ownsRow base e size v n xs) (hk : ∀ g, v.ownBlock = some g → w'.heap[g]? = w.heap[g]?) : w'.ownsRow base e size v n xs := by
  refine ⟨h.1, ?_⟩
  rcases h.2 with h1 | ⟨g, cap, cur, rfl, h2, h3, h4⟩
  · exact .inl h1
  · exact .inr ⟨g, cap, cur, rfl, h2, by rw [hk g rfl]; exact h3, h4⟩
theorem TreeAt.below {W W' : World} {N bt : Nat} {es : List Ent} (h : TreeAt W N bt es) (hb : Below W.heap.size W W') : TreeAt W' N bt es := by
  obtain ⟨vp, vn, h1, h2, h3⟩ := h
  exact ⟨vp, vn, (hb.block bt (Array.getElem?_eq_some_iff.1 h1).1).trans h1, ownsRow_kept h2 (fun g e => hb.block g (h2.lt g e).2), ownsRow_kept h3 (fun g e => hb.block g (h3.lt g e).2)⟩
theorem texts_of {W : World} {N : Nat} {v : Value} {es : List Ent} (h : W.ownsRow N 9 1 v es.length (es.map fun e => .string e.path)) : ∃ a cap, v = .slice a (pathsOf es).length cap ∧ TextsAt W a (pathsOf es) := by
  have hl : (pathsOf es).length = es.length := by simp [pathsOf]
  rcases h.2 with ⟨rfl, h0⟩ | ⟨g, cap, cur, rfl, _, hg, hc, _, hsz, hcells⟩
  · exact ⟨.none, 0, by rw [hl, h0], .inl (by rw [← List.length_eq_zero_iff, hl, h0])⟩
  · refine ⟨_, cap, by rw [hl], .inr ⟨g, 0, rfl, (Array.getElem?_eq_some_iff.1 hg).1, fun i x hi => ?_⟩⟩
    have hil : i < es.length := by rw [← hl]; exact (List.getElem?_eq_some_iff.1 hi).1
    have h1 : (cur.toList.take (es.length * 1))[i]? = some (.string x) := by
      rw [hcells, List.getElem?_map]
      unfold pathsOf at hi
      rw [List.getElem?_map] at hi
      cases he : es[i]? with
      | none => rw [he] at hi; cases hi
      | some e => rw [he] at hi; cases hi; rfl
    rw [List.getElem?_take_of_lt (by omega), Array.getElem?_toList] at h1
    simp [World.cell?, hg, h1]
theorem node_of {W : World} {N : Nat} {v : Value} {es : List Ent} {i : Nat} {e : Ent} (h : W.ownsRow N 121 1 v es.length (es.map nodeV)) (he : es[i]? = some e) : ∃ g cap, v = .slice (some ⟨g, 0, .none⟩) es.length cap ∧ W.cell? ⟨g, i, .none⟩ = some (nodeV e) ∧ es.length ≤ cap := by
  have hil : i < es.length := (List.getElem?_eq_some_iff.1 he).1
  rcases h.2 with ⟨rfl, h0⟩ | ⟨g, cap, cur, rfl, _, hg, hc, _, hsz, hcells⟩
  · omega
  · refine ⟨g, cap, rfl, ?_, hc⟩
    have h1 : (cur.toList.take (es.length * 1))[i]? = some (nodeV e) := by rw [hcells, List.getElem?_map, he]; rfl
    rw [List.getElem?_take_of_lt (by omega), Array.getElem?_toList] at h1
    simp [World.cell?, hg, h1]
theorem placeP_E : ∀ (es : List Ent) (p : ByteArray), placeP (pathsOf es) p = placeE es p
  | [], _ => rfl
  | e :: es, p => by
    have ih := placeP_E es p
    unfold placeP placeE pathsOf at *
    rw [List.map_cons, List.takeWhile_cons, List.takeWhile_cons]
    cases ltS e.path p
    · rfl
    · simp only [if_true, List.length_cons, ih]
theorem thereP_E (es : List Ent) (p : ByteArray) : thereP (pathsOf es) p = thereE es p := by
  unfold thereP thereE
  rw [placeP_E]
  unfold pathsOf
  rw [List.getElem?_map]
  cases es[placeE es p]? <;> rfl
theorem there_get {es : List Ent} {p : ByteArray} (h : thereE es p = true) : ∃ e, es[placeE es p]? = some e ∧ e.path = p := by
  unfold thereE at h
  cases hx : es[placeE es p]? with
  | none => rw [hx] at h; cases h
  | some e => rw [hx] at h; exact ⟨e, rfl, (eqS_iff _ _).1 h⟩
def getV (es : List Ent) (p : ByteArray) : Value := if thereE es p then nodeV (entFn es (placeE es p)) else .nilIface
set_option maxRecDepth 100000 in
set_option maxHeartbeats 2000000 in
theorem mapGet_any (N bt : Nat) (es : List Ent) (p : ByteArray) (w : World) (hn : es.length ≤ 1000) (ha : Asc (pathsOf es)) (h : TreeAt w N bt es) :
    Calls Tryz.prog 82 #[.pointer (some ⟨bt, 0, .none⟩), .string p] w fun x w' => x = .returned (.tuple #[getV es p, .bool (thereE es p)]) ∧ w' = w := by
  obtain ⟨vp, vn, h1, h2, h3⟩ := h
  have c0 : w.cell? ⟨bt, 0, .none⟩ = some vp := by simp [World.cell?, h1]
  have c1 : w.cell? ⟨bt, 1, .none⟩ = some vn := by simp [World.cell?, h1]
  obtain ⟨a, cap, rfl, hT⟩ := texts_of h2
  have hl : (pathsOf es).length ≤ 1048576 := by simp [pathsOf]; omega
  have HT := hid (And.intro hl (And.intro ha hT))
  clear hT ha hl h2
  cases ht : thereE es p
  · have E := hid (show getV es p = .nilIface by unfold getV; rw [ht]; rfl)
    clear h1 h3
    go_enter Tryz.func82, Tryz.ntmps82
    go_wp2_with fail
    refine (BinarySearch_any (pathsOf es) a cap p _ (unhid HT).1 (unhid HT).2.1 (unhid HT).2.2).mono ?_
    rintro x w2 ⟨rfl, rfl⟩
    rw [thereP_E, ht]
    go_wp2_with fail
    go_ret2
    exact ⟨by rw [unhid E]; rfl, rfl⟩
  · obtain ⟨e, he, _⟩ := there_get ht
    obtain ⟨g, cap2, rfl, hc, hle⟩ := node_of h3 he
    have hpl : placeE es p < es.length := (List.getElem?_eq_some_iff.1 he).1
    have E := hid (show getV es p = nodeV e by unfold getV; rw [ht, entFn_get he]; rfl)
    clear h1 h3 he
    go_enter Tryz.func82, Tryz.ntmps82
    go_wp2_with fail
    refine (BinarySearch_any (pathsOf es) a cap p _ (unhid HT).1 (unhid HT).2.1 (unhid HT).2.2).mono ?_
    rintro x w2 ⟨rfl, rfl⟩
    rw [thereP_E, ht, placeP_E]
    go_wp2_with fail
    go_ret2
    exact ⟨by rw [unhid E]; rfl, rfl⟩
end Go.Proofs.YtoihhlkidlapmaaGreat

namespace Go.Proofs.YtoihhlkidlapmaaGreat
open Go.RowKit Go.Shelf
set_option maxRecDepth 100000 in
set_option maxHeartbeats 4000000 in
theorem isDir_no (w : World) : Calls Tryz.prog 258 #[.nilIface] w fun x w' => x = .returned (.bool false) ∧ Below w.heap.size w w' := by
  have hta : ∀ w, (Instr.typeAssert .nilIface 121 176 true).run Tryz.prog w = .ok (.tuple #[.agg #[.int .i64 0], .bool false]) w := fun _ => by kernel_rfl
  go_enter Tryz.func258, Tryz.ntmps258
  go_wp2_with fail
  go_ret
  exact ⟨rfl, (Below.refl _ _).alloc (Nat.le_refl _) _⟩
set_option maxRecDepth 100000 in
set_option maxHeartbeats 4000000 in
theorem isDir_node (e : Ent) (w : World) : Calls Tryz.prog 258 #[nodeV e] w fun x w' => x = .returned (.bool (e.kind == 1)) ∧ Below w.heap.size w w' := by
  by_cases k1 : e.kind = 1
  · rw [show nodeV e = .iface 176 (.agg #[.int .i64 e.mode]) by unfold nodeV; rw [if_pos k1]]
    have hta : ∀ w, (Instr.typeAssert (.iface 176 (.agg #[.int .i64 e.mode])) 121 176 true).run Tryz.prog w = .ok (.tuple #[.agg #[.int .i64 e.mode], .bool true]) w := fun _ => by kernel_rfl
    rw [k1]
    clear k1
    go_enter Tryz.func258, Tryz.ntmps258
    go_wp2_with fail
    go_ret
    exact ⟨rfl, (Below.refl _ _).alloc (Nat.le_refl _) _⟩
  · rw [show (e.kind == 1) = false by simpa using k1]
    by_cases k2 : e.kind = 2
    · rw [show nodeV e = .iface 178 (.agg #[.int .i64 e.mode, .string e.text]) by unfold nodeV; rw [if_neg k1, if_pos k2]]
      have hta : ∀ w, (Instr.typeAssert (.iface 178 (.agg #[.int .i64 e.mode, .string e.text])) 121 176 true).run Tryz.prog w = .ok (.tuple #[.agg #[.int .i64 0], .bool false]) w := fun _ => by kernel_rfl
      clear k1 k2
      go_enter Tryz.func258, Tryz.ntmps258
      go_wp2_with fail
      go_ret
      exact ⟨rfl, (Below.refl _ _).alloc (Nat.le_refl _) _⟩
    · rw [show nodeV e = .iface 180 (.agg #[.string e.text]) by unfold nodeV; rw [if_neg k1, if_neg k2]]
      have hta : ∀ w, (Instr.typeAssert (.iface 180 (.agg #[.string e.text])) 121 176 true).run Tryz.prog w = .ok (.tuple #[.agg #[.int .i64 0], .bool false]) w := fun _ => by kernel_rfl
      clear k1 k2
      go_enter Tryz.func258, Tryz.ntmps258
      go_wp2_with fail
      go_ret
      exact ⟨rfl, (Below.refl _ _).alloc (Nat.le_refl _) _⟩
theorem isDir_get (es : List Ent) (p : ByteArray) (he : p.toList.isEmpty = false) (w : World) : Calls Tryz.prog 258 #[getV es p] w fun x w' => x = .returned (.bool (dirE es p)) ∧ Below w.heap.size w w' := by
  cases ht : thereE es p
  · rw [show getV es p = .nilIface by unfold getV; rw [ht]; rfl, show dirE es p = false by unfold dirE; rw [he, ht]; rfl]
    exact isDir_no w
  · rw [show getV es p = nodeV (entFn es (placeE es p)) by unfold getV; rw [ht]; rfl, show dirE es p = ((entFn es (placeE es p)).kind == 1) by unfold dirE; rw [he, ht]; simp]
    exact isDir_node _ w
set_option maxRecDepth 100000 in
set_option maxHeartbeats 4000000 in
theorem hasPlace_any (N bt : Nat) (es : List Ent) (p : ByteArray) (w : World) (hp : p.size ≤ maxLen) (hn : es.length ≤ 1000) (ha : Asc (pathsOf es)) (h : TreeAt w N bt es) :
    Calls Tryz.prog 210 #[.pointer (some ⟨bt, 0, .none⟩), .string p] w fun x w' => x = .returned (.bool (dirE es (pathUpS p))) ∧ Below w.heap.size w w' := by
  have HH := hid h
  have HA := hid ha
  clear h ha
  cases he : (pathUpS p).toList.isEmpty
  · have HE := hid he
    go_enter Tryz.func210, Tryz.ntmps210
    go_wp2_with fail
    refine (PathUp_any p hp _).mono ?_
    rintro x w2 ⟨rfl, hb⟩
    have HB := hid hb
    clear hb
    go_wp2_with fail
    refine (mapGet_any N bt es (pathUpS p) w2 hn (unhid HA) ((unhid HH).below (unhid HB))).mono ?_
    rintro x w3 ⟨rfl, hw3⟩
    rw [hw3]
    clear hw3
    have ISD := hid (isDir_get es (pathUpS p) (unhid HE) w2)
    generalize getV es (pathUpS p) = gv at *
    generalize thereE es (pathUpS p) = gt at *
    go_wp2_with fail
    refine (unhid ISD).mono ?_
    rintro x w4 ⟨rfl, hb⟩
    go_wp2_with fail
    go_ret
    exact ⟨rfl, (unhid HB).trans (hb.mono (unhid HB).size)⟩
  · have E := hid (show dirE es (pathUpS p) = true by unfold dirE; rw [he]; rfl)
    go_enter Tryz.func210, Tryz.ntmps210
    go_wp2_with fail
    refine (PathUp_any p hp _).mono ?_
    rintro x w2 ⟨rfl, hb⟩
    have HB := hid hb
    clear hb
    go_wp2_with fail
    go_ret
    exact ⟨by rw [unhid E]; rfl, unhid HB⟩
end Go.Proofs.YtoihhlkidlapmaaGreat

namespace Go.Proofs.YtoihhlkidlapmaaGreat
open Go.RowKit Go.Shelf
theorem type_ne {W : World} {g b : Nat} {cur cur' : Array Value} {e e' : TypeId} {f f' : Nat × Nat} (h : W.heap[g]? = some (.cells cur e f)) (h' : W.heap[b]? = some (.cells cur' e' f')) (hne : e ≠ e') : g ≠ b := by
  rintro rfl; rw [h] at h'; cases h'; exact hne rfl
theorem row_ne {W : World} {N n b size : Nat} {v : Value} {e e' : TypeId} {xs : List Value} {cur' : Array Value} {f' : Nat × Nat} (h : W.ownsRow N e size v n xs) (h' : W.heap[b]? = some (.cells cur' e' f')) (hne : e ≠ e') : some b ≠ v.ownBlock := by
  intro eq
  rcases h.2 with ⟨rfl, _⟩ | ⟨g, cap, cur, rfl, _, hg, _⟩
  · cases eq
  · cases eq; exact type_ne hg h' hne rfl
def Apart (o : Obj) : Prop := ∀ cs t f, o = .cells cs t f → t ≠ 9 ∧ t ≠ 121
theorem two_cells {W : World} {bt : Nat} {u v : Value} {t : TypeId} (h : W.heap[bt]? = some (.cells #[u, v] t (0, 0))) : W.cell? ⟨bt, 0, .none⟩ = some u ∧ W.cell? ⟨bt, 1, .none⟩ = some v ∧ W.frozen? ⟨bt, 0, .none⟩ = false ∧ W.frozen? ⟨bt, 1, .none⟩ = false := by
  refine ⟨?_, ?_, ?_, ?_⟩ <;> simp [World.cell?, World.frozen?, h]
theorem nodeV_shape (e : Ent) : ∃ T nv, nodeV e = .iface T nv := by
  unfold nodeV; split
  · exact ⟨_, _, rfl⟩
  · split <;> exact ⟨_, _, rfl⟩
set_option maxRecDepth 100000 in
set_option maxHeartbeats 4000000 in
theorem mapPut_end (N bt : Nat) (es : List Ent) (e : Ent) (w : World) (hn : es.length ≤ 900) (ha : Asc (pathsOf es)) (hN : N ≤ bt) (hpl : placeE es e.path = es.length) (h : TreeAt w N bt es) :
    Calls Tryz.prog 172 #[.pointer (some ⟨bt, 0, .none⟩), .string e.path, nodeV e] w fun x w' => (∃ v, x = .returned v) ∧ TreeAt w' N bt (es ++ [e]) ∧ Below N w w' ∧ ∀ k o, k ≠ bt → w.heap[k]? = some o → Apart o → w'.heap[k]? = some o := by
  have hbl := h.lt
  obtain ⟨vp, vn, h1, h2, h3⟩ := h
  obtain ⟨a, cap, hva, hT⟩ := texts_of h2
  have hpn : (pathsOf es).length = es.length := by simp [pathsOf]
  have hl : (pathsOf es).length ≤ 1048576 := by omega
  have ht : thereP (pathsOf es) e.path = false := by rw [thereP_E]; unfold thereE; rw [hpl, List.getElem?_eq_none (Nat.le_refl _)]; rfl
  have hpp : placeP (pathsOf es) e.path = es.length := by rw [placeP_E, hpl]
  have hS := BinarySearch_any (pathsOf es) a cap e.path w hl ha hT
  rw [hpp, ht, hpn] at hS
  rw [hpn] at hva
  subst hva
  obtain ⟨T, nv, hV⟩ := nodeV_shape e
  have hIN := fun v n xs b w => InsertN_end N v n xs b e w
  simp only [hV] at hIN
  rw [hV]
  have HV := hid hV
  have HIN := hid hIN
  clear hV hIN
  have HS := hid hS
  obtain ⟨c0, c1, f0, f1⟩ := two_cells h1
  have H2 := hid h2
  have H3 := hid h3
  have H1 := hid h1
  clear hT ha hl ht hpp h1 h2 h3 hpn hpl hS
  go_enter Tryz.func172, Tryz.ntmps172
  go_wp2_with fail
  refine (unhid HS).mono ?_
  rintro x w1 ⟨rfl, hw1⟩
  rw [hw1]
  clear hw1
  go_wp2_with fail
  refine (InsertS_end N _ es.length _ w.heap.size e.path (w.alloc (.cells #[.string e.path] 9)) (by omega) (by simp; omega) ((unhid H2).alloc _) (cell_new_l w _ _).1).mono ?_
  rintro x w2 ⟨v2, rfl, hown2, hgrow2, -⟩
  obtain ⟨g2, cap2, rfl⟩ := ownsRow_succ hown2
  have h1a : (w.alloc (.cells #[.string e.path] 9)).heap[bt]? = some (.cells #[.slice a es.length cap, vn] 117 (0, 0)) := (Below.heap_alloc _ _ _ hbl).trans (unhid H1)
  have h12 : w2.heap[bt]? = some (.cells #[.slice a es.length cap, vn] 117 (0, 0)) := (hgrow2.block bt (by simp; omega) (row_ne ((unhid H2).alloc (.cells #[.string e.path] 9)) h1a (by decide))).trans h1a
  obtain ⟨c0, c1, f0, f1⟩ := two_cells h12
  have h32 : w2.ownsRow N 121 1 vn es.length (es.map nodeV) := by
    refine ownsRow_kept ((unhid H3).alloc (.cells #[.string e.path] 9)) (fun g hg => hgrow2.block g (((unhid H3).alloc (.cells #[.string e.path] 9)).lt g hg).2 ?_)
    rcases ((unhid H3).alloc (.cells #[.string e.path] 9)).2 with ⟨rfl, _⟩ | ⟨g', cap', cur', rfl, _, hgc, _⟩
    · cases hg
    · cases hg; exact row_ne ((unhid H2).alloc (.cells #[.string e.path] 9)) hgc (by decide)
  have hg2w : g2 ≠ bt := fun eq => by
    rcases hown2.2 with ⟨h, _⟩ | ⟨g', cap', cur', hv, _, hgc, _⟩
    · cases h
    · cases hv; exact type_ne hgc h12 (by decide) eq
  have HB2 := hid (And.intro hown2 (And.intro hgrow2 (And.intro h12 h32)))
  have hsz2 : w.heap.size + 1 ≤ w2.heap.size := by have := hgrow2.size; simpa using this
  clear hown2 hgrow2 h12 h32 h1a
  go_wp2_with fail
  obtain ⟨W3, hW3⟩ : ∃ W3, W3 = (w2.setCell ⟨bt, 0, .none⟩ (.slice (some ⟨g2, 0, .none⟩) (es.length + 1) cap2)).alloc (.cells #[.iface T nv] 121) := ⟨_, rfl⟩
  rw [← hW3]
  obtain ⟨hown2, hgrow2, h12, h32⟩ := unhid HB2
  have hbl2 : bt < w2.heap.size := by omega
  have h13 : W3.heap[bt]? = some (.cells #[.slice (some ⟨g2, 0, .none⟩) (es.length + 1) cap2, vn] 117 (0, 0)) := by
    rw [hW3, Below.heap_alloc _ _ _ (by simp; omega), heap_setCell_same _ bt 0 _ _ _ h12]; rfl
  have hk3 : ∀ g, g < w2.heap.size → g ≠ bt → W3.heap[g]? = w2.heap[g]? := fun g hg hne => by
    rw [hW3, Below.heap_alloc _ _ _ (by simpa using hg), Below.heap_setCell _ _ _ _ hne]
  have h33 : W3.ownsRow N 121 1 vn es.length (es.map nodeV) := ownsRow_kept h32 (fun g hg => hk3 g (h32.lt g hg).2 (fun eq => (row_ne h32 h12 (by decide)) (by rw [hg, eq])))
  have hown3 : W3.ownsRow N 9 1 (.slice (some ⟨g2, 0, .none⟩) (es.length + 1) cap2) (es.length + 1) (es.map (fun e => .string e.path) ++ [.string e.path]) := ownsRow_kept hown2 (fun g hg => hk3 g (hown2.lt g hg).2 (fun eq => by cases hg; exact hg2w eq))
  have hs3 : W3.heap.size = w2.heap.size + 1 := by rw [hW3]; simp
  have hc3 : W3.cell? ⟨w2.heap.size, 0, .none⟩ = some (.iface T nv) := by
    rw [hW3]; have := (cell_new_l (w2.setCell ⟨bt, 0, .none⟩ (.slice (some ⟨g2, 0, .none⟩) (es.length + 1) cap2)) (.iface T nv) 121).1; simpa using this
  refine (unhid HIN vn es.length _ w2.heap.size W3 (by omega) (by omega) h33 hc3).mono ?_
  rintro x w4 ⟨v4, rfl, hown4, hgrow4, -⟩
  obtain ⟨g4, cap4, rfl⟩ := ownsRow_succ hown4
  have h14 : w4.heap[bt]? = some (.cells #[.slice (some ⟨g2, 0, .none⟩) (es.length + 1) cap2, vn] 117 (0, 0)) := (hgrow4.block bt (by omega) (row_ne h33 h13 (by decide))).trans h13
  have hrow4 : w4.ownsRow N 9 1 (.slice (some ⟨g2, 0, .none⟩) (es.length + 1) cap2) (es.length + 1) (es.map (fun e => .string e.path) ++ [.string e.path]) := ownsRow_kept hown3 (fun g hg => hgrow4.block g (hown3.lt g hg).2 (by
    rcases hown3.2 with ⟨h, _⟩ | ⟨g', cap', cur', hv, _, hgc, _⟩
    · cases h
    · cases hv; cases hg; exact row_ne h33 hgc (by decide)))
  obtain ⟨c0, c1, f0, f1⟩ := two_cells h14
  have hg4w : g4 ≠ bt := fun eq => by
    rcases hown4.2 with ⟨h, _⟩ | ⟨g', cap', cur', hv, _, hgc, _⟩
    · cases h
    · cases hv; exact type_ne hgc h14 (by decide) eq
  have hF : TreeAt (w4.setCell ⟨bt, 1, .none⟩ (.slice (some ⟨g4, 0, .none⟩) (es.length + 1) cap4)) N bt (es ++ [e]) := by
    refine ⟨.slice (some ⟨g2, 0, .none⟩) (es.length + 1) cap2, .slice (some ⟨g4, 0, .none⟩) (es.length + 1) cap4, ?_, ?_, ?_⟩
    · rw [heap_setCell_same _ bt 1 _ _ _ h14]; rfl
    · rw [List.length_append, List.map_append]
      exact ownsRow_kept hrow4 (fun g hg => Below.heap_setCell _ _ _ _ (fun eq => by cases hg; exact hg2w eq))
    · rw [List.length_append, List.map_append]
      rw [← unhid HV] at hown4
      exact ownsRow_kept hown4 (fun g hg => Below.heap_setCell _ _ _ _ (fun eq => by cases hg; exact hg4w eq))
  have hB : Below N w (w4.setCell ⟨bt, 1, .none⟩ (.slice (some ⟨g4, 0, .none⟩) (es.length + 1) cap4)) := by
    have b1 : Below N w (w.alloc (.cells #[.string e.path] 9)) := (Below.refl _ _).alloc (by omega) _
    have b2 : Below N w w2 := b1.grown hgrow2 (by simp; omega) (fun g hg => (((unhid H2).alloc (.cells #[.string e.path] 9)).lt g hg).1)
    have b3 : Below N w W3 := by rw [hW3]; exact (b2.setCell hN _).alloc (by simp; omega) _
    have b4 : Below N w w4 := b3.grown hgrow4 (by omega) (fun g hg => (h33.lt g hg).1)
    exact b4.setCell hN _
  have hO : ∀ k o, k ≠ bt → w.heap[k]? = some o → Apart o → (w4.setCell ⟨bt, 1, .none⟩ (.slice (some ⟨g4, 0, .none⟩) (es.length + 1) cap4)).heap[k]? = some o := by
    intro k o hk ho hap
    have hkl : k < w.heap.size := (Array.getElem?_eq_some_iff.1 ho).1
    have a1 : (w.alloc (.cells #[.string e.path] 9)).heap[k]? = some o := (Below.heap_alloc _ _ _ hkl).trans ho
    have a2 : w2.heap[k]? = some o := (hgrow2.block k (by simp; omega) (fun eq => by
      rcases ((unhid H2).alloc (.cells #[.string e.path] 9)).2 with ⟨h, _⟩ | ⟨g', cap', cur', hv, _, hgc, _⟩
      · rw [h] at eq; cases eq
      · rw [hv] at eq; cases eq; rw [a1] at hgc; cases hgc; exact (hap _ _ _ rfl).1 rfl)).trans a1
    have a3 : W3.heap[k]? = some o := (hk3 k (by omega) hk).trans a2
    have a4 : w4.heap[k]? = some o := (hgrow4.block k (by omega) (fun eq => by
      rcases h33.2 with ⟨h, _⟩ | ⟨g', cap', cur', hv, _, hgc, _⟩
      · rw [h] at eq; cases eq
      · rw [hv] at eq; cases eq; rw [a3] at hgc; cases hgc; exact (hap _ _ _ rfl).2 rfl)).trans a3
    exact (Below.heap_setCell _ _ _ _ hk).trans a4
  have HF := hid (And.intro hF (And.intro hB hO))
  clear hF hB hO hown4 hgrow4 h14 hrow4 h13 hk3 h33 hown3 hc3 hW3 hown2 hgrow2 h12 h32 HB2
  go_wp2_with fail
  go_end0
  exact ⟨⟨_, rfl⟩, unhid HF⟩
end Go.Proofs.YtoihhlkidlapmaaGreat

namespace Go.Proofs.YtoihhlkidlapmaaGreat
open Go.RowKit Go.Shelf
def putB (es : List Ent) (e : Ent) : Bool := entB e && (dirE es (pathUpS e.path) && decide (es.length ≠ 16))
def nextE (es : List Ent) (e : Ent) : List Ent := if putB es e then es ++ [e] else es
theorem nextE_no {es : List Ent} {e : Ent} (h : putB es e = false) : nextE es e = es := by unfold nextE; rw [h]; rfl
theorem nextE_yes {es : List Ent} {e : Ent} (h : putB es e = true) : nextE es e = es ++ [e] := by unfold nextE; rw [h]; rfl
def Kept (N bt : Nat) (w w' : World) : Prop := Below N w w' ∧ ∀ k o, k ≠ bt → w.heap[k]? = some o → Apart o → w'.heap[k]? = some o
theorem Kept.of_below {N bt : Nat} {w w' : World} (h : Below w.heap.size w w') (hN : N ≤ w.heap.size) : Kept N bt w w' := ⟨h.mono hN, fun k _ _ ho _ => (h.block k (Array.getElem?_eq_some_iff.1 ho).1).trans ho⟩
theorem Kept.trans {N bt : Nat} {a b c : World} (h : Kept N bt a b) (g : Kept N bt b c) : Kept N bt a c := ⟨h.1.trans g.1, fun k o hk ho hap => g.2 k o hk (h.2 k o hk ho hap) hap⟩
set_option maxRecDepth 100000 in
set_option maxHeartbeats 8000000 in
theorem putEntry_end (N bt : Nat) (es : List Ent) (e : Ent) (w : World) (hp : e.path.size ≤ maxLen) (htx : e.text.size ≤ maxLen) (hn : es.length ≤ 16) (ha : Asc (pathsOf es)) (hN : N ≤ bt) (hpl : placeE es e.path = es.length) (h : TreeAt w N bt es) :
    Calls Tryz.prog 138 #[.pointer (some ⟨bt, 0, .none⟩), .agg e.vals] w fun x w' => x = .returned (.bool (putB es e)) ∧ TreeAt w' N bt (nextE es e) ∧ Kept N bt w w' := by
  have hbl := h.lt
  have hth : thereE es e.path = false := by unfold thereE; rw [hpl, List.getElem?_eq_none (Nat.le_refl _)]; rfl
  have hgv : getV es e.path = .nilIface := by unfold getV; rw [hth]; rfl
  have HT := hid (And.intro hth (And.intro hgv (And.intro ha hpl)))
  have hNw : N ≤ w.heap.size := by omega
  have h0 : TreeAt (w.alloc (.cells #[.string e.path, .int .i64 e.kind, .int .i64 e.mode, .string e.text] 57)) N bt es := h.below ((Below.refl _ w).alloc (Nat.le_refl _) _)
  have hk0 : Kept N bt w (w.alloc (.cells #[.string e.path, .int .i64 e.kind, .int .i64 e.mode, .string e.text] 57)) := Kept.of_below ((Below.refl _ w).alloc (Nat.le_refl _) _) hNw
  have hnw := World.alloc_heap_new w (.cells #[.string e.path, .int .i64 e.kind, .int .i64 e.mode, .string e.text] 57)
  have hs0 : w.heap.size < (w.alloc (.cells #[.string e.path, .int .i64 e.kind, .int .i64 e.mode, .string e.text] 57)).heap.size := by simp
  have H0 := hid (And.intro h0 hk0)
  have X0 := hid (show (w.alloc (.cells #[.string e.path, .int .i64 e.kind, .int .i64 e.mode, .string e.text] 57)).cell? ⟨w.heap.size, 0, .none⟩ = some (.string e.path) by unfold World.cell?; dsimp only; rw [hnw]; rfl)
  have X1 := hid (show (w.alloc (.cells #[.string e.path, .int .i64 e.kind, .int .i64 e.mode, .string e.text] 57)).cell? ⟨w.heap.size, 1, .none⟩ = some (.int .i64 e.kind) by unfold World.cell?; dsimp only; rw [hnw]; rfl)
  clear hth hgv ha hpl h h0 hk0 hnw
  have hN0 := hid (nodeOf_any e hp htx (w.alloc (.cells #[.string e.path, .int .i64 e.kind, .int .i64 e.mode, .string e.text] 57)))
  cases he : entB e
  · have E := hid (show putB es e = false by unfold putB; rw [he]; rfl)
    go_enter Tryz.func138, Tryz.ntmps138
    unfold Ent.vals
    go_wp2_with fail
    refine (unhid hN0).mono ?_
    rintro x w1 ⟨⟨v, rfl, hv, -⟩, hb⟩
    rw [he]
    have HK := hid (And.intro ((unhid H0).1.below hb) ((unhid H0).2.trans (Kept.of_below hb (by simp; omega))))
    clear hb
    go_wp2_with fail
    go_ret
    exact ⟨by rw [unhid E]; rfl, by rw [nextE_no (unhid E)]; exact (unhid HK).1, (unhid HK).2⟩
  · cases hd : dirE es (pathUpS e.path)
    · have E := hid (show putB es e = false by unfold putB; rw [hd]; simp)
      go_enter Tryz.func138, Tryz.ntmps138
      unfold Ent.vals
      go_wp2_with fail
      refine (unhid hN0).mono ?_
      rintro x w1 ⟨⟨v, rfl, hv, -⟩, hb⟩
      rw [he]
      have HK := hid (And.intro ((unhid H0).1.below hb) ((unhid H0).2.trans (Kept.of_below hb (by simp; omega))))
      have c0 := (hb.cell (p := ⟨w.heap.size, 0, .none⟩) hs0).trans (unhid X0)
      clear hb
      go_wp2_with fail
      refine (hasPlace_any N bt es e.path w1 hp (by omega) (unhid HT).2.2.1 (unhid HK).1).mono ?_
      rintro x w2 ⟨rfl, hb⟩
      rw [hd]
      have HK2 := hid (And.intro ((unhid HK).1.below hb) ((unhid HK).2.trans (Kept.of_below hb (Nat.le_trans hNw (unhid HK).2.1.size))))
      clear hb
      go_wp2_with fail
      go_ret
      exact ⟨by rw [unhid E]; rfl, by rw [nextE_no (unhid E)]; exact (unhid HK2).1, (unhid HK2).2⟩
    · by_cases h16 : es.length = 16
      · have E := hid (show putB es e = false by unfold putB; rw [h16]; simp)
        go_enter Tryz.func138, Tryz.ntmps138
        unfold Ent.vals
        go_wp2_with fail
        refine (unhid hN0).mono ?_
        rintro x w1 ⟨⟨v, rfl, hv, -⟩, hb⟩
        rw [he]
        have HK := hid (And.intro ((unhid H0).1.below hb) ((unhid H0).2.trans (Kept.of_below hb (by simp; omega))))
        have c0 := (hb.cell (p := ⟨w.heap.size, 0, .none⟩) hs0).trans (unhid X0)
        have hs1 := Nat.lt_of_lt_of_le hs0 hb.size
        clear hb
        go_wp2_with fail
        refine (hasPlace_any N bt es e.path w1 hp (by omega) (unhid HT).2.2.1 (unhid HK).1).mono ?_
        rintro x w2 ⟨rfl, hb⟩
        rw [hd]
        have HK2 := hid (And.intro ((unhid HK).1.below hb) ((unhid HK).2.trans (Kept.of_below hb (Nat.le_trans hNw (unhid HK).2.1.size))))
        have d0 := (hb.cell (p := ⟨w.heap.size, 0, .none⟩) hs1).trans c0
        clear hb c0
        go_wp2_with fail
        go_quiet ((go_at_call 82; refine Calls.quiet_of_same (v := .tuple #[.nilIface, .bool false]) ((mapGet_any N bt es e.path _ (by omega) (unhid HT).2.2.1 ((unhid HK2).1.below (drewN_below _ _))).mono ?_); rintro x w3 ⟨rfl, rfl⟩; exact ⟨by rw [(unhid HT).2.1, (unhid HT).1], rfl⟩))
        have HK3 := hid (And.intro ((unhid HK2).1.below (drewN_below w2 nq)) ((unhid HK2).2.trans (Kept.of_below (drewN_below w2 nq) (Nat.le_trans hNw (unhid HK2).2.1.size))))
        have d3 : (w2.drewN nq).cell? ⟨w.heap.size, 0, .none⟩ = some (.string e.path) := d0
        clear d0
        generalize w2.drewN nq = w3 at HK3 d3 ⊢
        go_wp2_with fail
        go_quiet (fail)
        have HK4 := hid (And.intro ((unhid HK3).1.below (drewN_below w3 nq)) ((unhid HK3).2.trans (Kept.of_below (drewN_below w3 nq) (Nat.le_trans hNw (unhid HK3).2.1.size))))
        have d4 : (w3.drewN nq).cell? ⟨w.heap.size, 0, .none⟩ = some (.string e.path) := d3
        clear d3
        generalize w3.drewN nq = w4 at HK4 d4 ⊢
        obtain ⟨vp, vn, t1, t2, t3⟩ := (unhid HK4).1
        obtain ⟨c0, c1, f0, f1⟩ := two_cells t1
        obtain ⟨va, vcap, rfl⟩ : ∃ va vcap, vp = .slice va es.length vcap := by
          rcases ownsRow_sh t2 with ⟨rfl, h0⟩ | ⟨g, cap, rfl, _⟩
          · exact ⟨.none, 0, by rw [h0]⟩
          · exact ⟨_, _, rfl⟩
        clear t1 t2 t3 c1 f0 f1
        have h16' : ((es.length : Int) == 16) = true := by simp [h16]
        clear h16
        go_wp2_with fail
        go_ret
        exact ⟨by rw [unhid E]; rfl, by rw [nextE_no (unhid E)]; exact (unhid HK4).1, (unhid HK4).2⟩
      · have E := hid (show putB es e = true by unfold putB; rw [he, hd]; simpa using h16)
        go_enter Tryz.func138, Tryz.ntmps138
        unfold Ent.vals
        go_wp2_with fail
        refine (unhid hN0).mono ?_
        rintro x w1 ⟨⟨v, rfl, -, hv⟩, hb⟩
        obtain rfl := hv he
        rw [he]
        have HK := hid (And.intro ((unhid H0).1.below hb) ((unhid H0).2.trans (Kept.of_below hb (by simp; omega))))
        have c0 := (hb.cell (p := ⟨w.heap.size, 0, .none⟩) hs0).trans (unhid X0)
        have hs1 := Nat.lt_of_lt_of_le hs0 hb.size
        clear hb hv
        go_wp2_with fail
        refine (hasPlace_any N bt es e.path w1 hp (by omega) (unhid HT).2.2.1 (unhid HK).1).mono ?_
        rintro x w2 ⟨rfl, hb⟩
        rw [hd]
        have HK2 := hid (And.intro ((unhid HK).1.below hb) ((unhid HK).2.trans (Kept.of_below hb (Nat.le_trans hNw (unhid HK).2.1.size))))
        have d0 := (hb.cell (p := ⟨w.heap.size, 0, .none⟩) hs1).trans c0
        clear hb c0
        go_wp2_with fail
        go_quiet ((go_at_call 82; refine Calls.quiet_of_same (v := .tuple #[.nilIface, .bool false]) ((mapGet_any N bt es e.path _ (by omega) (unhid HT).2.2.1 ((unhid HK2).1.below (drewN_below _ _))).mono ?_); rintro x w3 ⟨rfl, rfl⟩; exact ⟨by rw [(unhid HT).2.1, (unhid HT).1], rfl⟩))
        have HK3 := hid (And.intro ((unhid HK2).1.below (drewN_below w2 nq)) ((unhid HK2).2.trans (Kept.of_below (drewN_below w2 nq) (Nat.le_trans hNw (unhid HK2).2.1.size))))
        have d3 : (w2.drewN nq).cell? ⟨w.heap.size, 0, .none⟩ = some (.string e.path) := d0
        clear d0
        generalize w2.drewN nq = w3 at HK3 d3 ⊢
        go_wp2_with fail
        go_quiet (fail)
        have HK4 := hid (And.intro ((unhid HK3).1.below (drewN_below w3 nq)) ((unhid HK3).2.trans (Kept.of_below (drewN_below w3 nq) (Nat.le_trans hNw (unhid HK3).2.1.size))))
        have d4 : (w3.drewN nq).cell? ⟨w.heap.size, 0, .none⟩ = some (.string e.path) := d3
        clear d3
        generalize w3.drewN nq = w4 at HK4 d4 ⊢
        obtain ⟨vp, vn, t1, t2, t3⟩ := (unhid HK4).1
        obtain ⟨c0, c1, f0, f1⟩ := two_cells t1
        obtain ⟨va, vcap, rfl⟩ : ∃ va vcap, vp = .slice va es.length vcap := by
          rcases ownsRow_sh t2 with ⟨rfl, h0⟩ | ⟨g, cap, rfl, _⟩
          · exact ⟨.none, 0, by rw [h0]⟩
          · exact ⟨_, _, rfl⟩
        clear t1 t2 t3 c1 f0 f1
        have h16' : ((es.length : Int) == 16) = false := by rw [beq_eq_false_iff_ne]; omega
        clear h16
        go_wp2_with fail
        have HP := hid (mapPut_end N bt es e w4.drew (by omega) (unhid HT).2.2.1 hN (unhid HT).2.2.2 ((unhid HK4).1.below (drew_below _)))
        go_region_with (go_at_call 172; refine (unhid HP).mono ?_; rintro x w5 ⟨⟨y, rfl⟩, hT5, hB5, hO5⟩; have HK5 := hid (And.intro hT5 ((unhid HK4).2.trans ((Kept.of_below (drew_below w4) (Nat.le_trans hNw (unhid HK4).2.1.size)).trans ⟨hB5, hO5⟩))); clear hT5 hB5 hO5)
        all_goals
          go_wp2_with fail
          go_ret
          exact ⟨by rw [unhid E]; rfl, by rw [nextE_yes (unhid E)]; exact (unhid HK5).1, (unhid HK5).2⟩
end Go.Proofs.YtoihhlkidlapmaaGreat

namespace Go.Proofs.YtoihhlkidlapmaaGreat
open Go.RowKit Go.Shelf
def okI (es : List Ent) (i : Nat) : Bool := (i == 0 || ltS (entFn es (i - 1)).path (entFn es i).path) && putB (es.take i) (entFn es i)
theorem lt_take : ∀ (l : List UInt8) (i : Nat), i < l.length → Op.bytesLess (l.take i) l = true
  | [], _, h => by simp at h
  | _ :: _, 0, _ => rfl
  | a :: l, i + 1, h => by
    simp only [List.take_succ_cons, Op.bytesLess, Bool.or_eq_true, Bool.and_eq_true, beq_iff_eq]
    exact .inr ⟨trivial, lt_take l i (by simpa using h)⟩
theorem up_less {p : ByteArray} (h : (upS p).toList.isEmpty = false) : ltS (upS p) p = true := by
  unfold upS at h ⊢
  have hl := lastIx_lt 47 p.data.toList
  split
  · rename_i hi; rw [if_pos hi] at h; rw [Lib.toList_data] at h; cases h
  · unfold ltS
    rw [Lib.toList_data, Lib.toList_data, Lib.extract_data]
    simp only [Nat.sub_zero, List.drop_zero]
    exact lt_take _ _ (by omega)
theorem ent_get {es : List Ent} {i : Nat} (hi : i < es.length) : es[i]? = some (entFn es i) := by
  have := List.getElem?_eq_getElem hi
  rw [this, ← entFn_get this]
theorem asc_of {es : List Ent} {n : Nat} (_ : n ≤ es.length) (h : ∀ i, i < n → i = 0 ∨ ltS (entFn es (i - 1)).path (entFn es i).path = true) : ∀ i j, i < j → j < n → ltS (entFn es i).path (entFn es j).path = true := by
  intro i j hij hj
  induction j with
  | zero => omega
  | succ j ih =>
    have hs := (h (j + 1) hj).resolve_left (by omega)
    rw [Nat.add_sub_cancel] at hs
    by_cases e : i = j
    · subst e; exact hs
    · exact lt_tra _ _ _ (ih (by omega) (by omega)) hs
theorem place_at {es : List Ent} {j m : Nat} {q : ByteArray} (hj : j < m) (hm : m ≤ es.length) (hq : (entFn es j).path = q) (hasc : ∀ i, i < j → ltS (entFn es i).path q = true) : placeE (es.take m) q = j := by
  have hl : (es.take m).length = m := by rw [List.length_take]; omega
  have hg : ∀ i, i < m → (es.take m)[i]? = some (entFn es i) := fun i hi => by rw [List.getElem?_take_of_lt hi]; exact ent_get (by omega)
  refine place_of _ q j (by omega) (fun i e hi he => ?_) (fun e he => ?_)
  · rw [hg i (by omega)] at he; cases he; exact hasc i hi
  · rw [hg j hj] at he; cases he; rw [hq]; exact lt_irr _
theorem there_at {es : List Ent} {j m : Nat} {q : ByteArray} (hj : j < m) (hm : m ≤ es.length) (hq : (entFn es j).path = q) (hasc : ∀ i, i < j → ltS (entFn es i).path q = true) : thereE (es.take m) q = true ∧ entFn (es.take m) (placeE (es.take m) q) = entFn es j := by
  have hp := place_at hj hm hq hasc
  have hg : (es.take m)[j]? = some (entFn es j) := by rw [List.getElem?_take_of_lt hj]; exact ent_get (by omega)
  refine ⟨?_, by rw [hp]; exact entFn_get hg⟩
  unfold thereE
  rw [hp, hg]
  show eqS _ _ = true
  rw [hq]; exact (eqS_iff _ _).2 rfl
theorem dir_take {es : List Ent} {i : Nat} {q : ByteArray} (hi : i < es.length) (hs : ∀ a b, a < b → b < es.length → ltS (entFn es a).path (entFn es b).path = true) (hq : q.toList.isEmpty = false → ltS q (entFn es i).path = true) : dirE es q = dirE (es.take i) q := by
  unfold dirE
  cases he : q.toList.isEmpty
  · simp only [Bool.false_or]
    have hql := hq he
    rw [Bool.eq_iff_iff]
    constructor
    · intro h
      rw [Bool.and_eq_true] at h
      obtain ⟨e, hj, hpe⟩ := there_get h.1
      have hjl : placeE es q < es.length := (List.getElem?_eq_some_iff.1 hj).1
      have hfe : (entFn es (placeE es q)).path = q := by rw [entFn_get hj]; exact hpe
      have hji : placeE es q < i := by
        rcases Nat.lt_trichotomy (placeE es q) i with h1 | h1 | h1
        · exact h1
        · rw [h1] at hfe; rw [← hfe] at hql; have := lt_irr (entFn es i).path.toList; unfold ltS at hql; rw [this] at hql; cases hql
        · have h2 := hs i (placeE es q) h1 hjl
          rw [hfe] at h2
          have h3 := lt_tra _ _ _ h2 hql
          rw [lt_irr] at h3; cases h3
      obtain ⟨t1, t2⟩ := there_at (m := i) hji (by omega) hfe (fun a ha => by rw [← hfe]; exact hs a _ ha hjl)
      rw [t1, t2]; exact h.2
    · intro h
      rw [Bool.and_eq_true] at h
      obtain ⟨e, hj, hpe⟩ := there_get h.1
      have hjl : placeE (es.take i) q < (es.take i).length := (List.getElem?_eq_some_iff.1 hj).1
      rw [List.length_take] at hjl
      have hji : placeE (es.take i) q < i := by omega
      have hj' : es[placeE (es.take i) q]? = some e := by rw [List.getElem?_take_of_lt hji] at hj; exact hj
      have hfe : (entFn es (placeE (es.take i) q)).path = q := by rw [entFn_get hj']; exact hpe
      have hall : ∀ a, a < placeE (es.take i) q → ltS (entFn es a).path q = true := fun a ha => by rw [← hfe]; exact hs a _ ha (by omega)
      obtain ⟨t1, t2⟩ := there_at (m := es.length) (j := placeE (es.take i) q) (by omega) (Nat.le_refl _) hfe hall
      rw [List.take_of_length_le (Nat.le_refl _)] at t1 t2
      rw [t1, t2]
      have h2 := h.2
      rw [entFn_get hj] at h2
      rw [entFn_get hj']; exact h2
  · simp
theorem ent_path {e : Ent} (h : entB e = true) : pathUpS e.path = upS e.path := by
  unfold entB at h
  rw [Bool.and_eq_true] at h
  unfold pathUpS; rw [if_pos h.1]
theorem treeB_eq (es : List Ent) : treeB es = (List.range es.length).all (okI es) := by
  rw [Bool.eq_iff_iff]
  unfold treeB
  simp only [Bool.and_eq_true, List.all_eq_true, List.mem_range, decide_eq_true_eq]
  constructor
  · rintro ⟨⟨h1, h2⟩, h3⟩ i hi
    have hs : ∀ i, i < es.length → i = 0 ∨ ltS (entFn es (i - 1)).path (entFn es i).path = true := fun i hi => by
      have := h1 i hi; unfold sortAt at this; simp only [Bool.and_eq_true, Bool.or_eq_true, beq_iff_eq] at this; exact this.2
    have he : entB (entFn es i) = true := by have := h1 i hi; unfold sortAt at this; simp only [Bool.and_eq_true] at this; exact this.1
    have hd := h2 i hi
    rw [dir_take hi (asc_of (Nat.le_refl _) hs) (fun hq => up_less hq), ← ent_path he] at hd
    unfold okI putB
    rw [he, hd]
    have hl : (es.take i).length = i := by rw [List.length_take]; omega
    rw [hl]
    simp only [Bool.and_eq_true, Bool.or_eq_true, beq_iff_eq, decide_eq_true_eq, Bool.true_and]
    exact ⟨hs i hi, by omega⟩
  · intro h
    have hs : ∀ i, i < es.length → i = 0 ∨ ltS (entFn es (i - 1)).path (entFn es i).path = true := fun i hi => by
      have := h i hi; unfold okI at this; simp only [Bool.and_eq_true, Bool.or_eq_true, beq_iff_eq] at this; exact this.1
    have hp : ∀ i, i < es.length → entB (entFn es i) = true ∧ dirE (es.take i) (pathUpS (entFn es i).path) = true ∧ i ≠ 16 := fun i hi => by
      have := h i hi
      unfold okI putB at this
      have hl : (es.take i).length = i := by rw [List.length_take]; omega
      rw [hl] at this
      simp only [Bool.and_eq_true, decide_eq_true_eq] at this
      exact ⟨this.2.1, this.2.2.1, this.2.2.2⟩
    refine ⟨⟨fun i hi => ?_, fun i hi => ?_⟩, ?_⟩
    · unfold sortAt
      simp only [Bool.and_eq_true, Bool.or_eq_true, beq_iff_eq]
      exact ⟨(hp i hi).1, hs i hi⟩
    · have hd := (hp i hi).2.1
      rw [ent_path (hp i hi).1] at hd
      rw [dir_take hi (asc_of (Nat.le_refl _) hs) (fun hq => up_less hq)]
      exact hd
    · rcases Nat.lt_or_ge 16 es.length with h16 | h16
      · exact absurd rfl (hp 16 h16).2.2
      · exact h16
theorem asc_take {es : List Ent} {k : Nat} (hk : k ≤ es.length) (h : (List.range k).all (okI es) = true) : Asc (pathsOf (es.take k)) := by
  rw [List.all_eq_true] at h
  have hs : ∀ i, i < k → i = 0 ∨ ltS (entFn es (i - 1)).path (entFn es i).path = true := fun i hi => by
    have := h i (List.mem_range.2 hi); unfold okI at this; simp only [Bool.and_eq_true, Bool.or_eq_true, beq_iff_eq] at this; exact this.1
  have ha := asc_of hk hs
  intro i j x y hij hx hy
  unfold pathsOf at hx hy
  rw [List.getElem?_map] at hx hy
  have hl : (es.take k).length = k := by rw [List.length_take]; omega
  have hj : j < k := by
    rcases Nat.lt_or_ge j k with h | h
    · exact h
    · rw [List.getElem?_eq_none (by omega)] at hy; cases hy
  rw [List.getElem?_take_of_lt (by omega), ent_get (by omega)] at hx
  rw [List.getElem?_take_of_lt hj, ent_get (by omega)] at hy
  cases hx; cases hy
  exact ha i j hij hj
theorem place_end {es : List Ent} {k : Nat} (hk : k < es.length) (h : (List.range k).all (okI es) = true) (hl : k = 0 ∨ ltS (entFn es (k - 1)).path (entFn es k).path = true) : placeE (es.take k) (entFn es k).path = (es.take k).length := by
  rw [List.all_eq_true] at h
  have hs : ∀ i, i < k + 1 → i = 0 ∨ ltS (entFn es (i - 1)).path (entFn es i).path = true := fun i hi => by
    by_cases e : i = k
    · subst e; exact hl
    · have := h i (List.mem_range.2 (by omega)); unfold okI at this; simp only [Bool.and_eq_true, Bool.or_eq_true, beq_iff_eq] at this; exact this.1
  have ha := asc_of (n := k + 1) (by omega) hs
  have hlen : (es.take k).length = k := by rw [List.length_take]; omega
  rw [hlen]
  refine place_of _ _ k (by omega) (fun i e hi he => ?_) (fun e he => ?_)
  · rw [List.getElem?_take_of_lt hi, ent_get (by omega)] at he; cases he; exact ha i k hi (by omega)
  · rw [List.getElem?_eq_none (by omega)] at he; cases he
end Go.Proofs.YtoihhlkidlapmaaGreat

namespace Go.Proofs.YtoihhlkidlapmaaGreat
open Go.RowKit Go.Shelf
set_option maxRecDepth 100000 in
set_option maxHeartbeats 4000000 in
theorem entryOf_dir (p : ByteArray) (m : Int) (w : World) :
    Calls Tryz.prog 83 #[.string p, .iface 176 (.agg #[.int .i64 m])] w fun x w' => x = .returned (.agg #[.string p, .int .i64 1, .int .i64 m, .string ⟨#[]⟩]) ∧ Below w.heap.size w w' := by
  have hta4 : ∀ w, (Instr.typeAssert (.iface 176 (.agg #[.int .i64 m])) 121 176 true).run Tryz.prog w = .ok (.tuple #[.agg #[.int .i64 m], .bool true]) w := fun _ => by kernel_rfl
  have hb : ∀ o1 o2 o3, Below w.heap.size w ((((w.alloc o1).alloc o2).alloc o3).drew) := fun o1 o2 o3 => ((((Below.refl _ w).alloc (Nat.le_refl _) _).alloc (by simp) _).alloc (by simp; omega) _).drew
  have HB := hid hb
  clear hb
  go_enter Tryz.func83, Tryz.ntmps83
  go_wp2_with fail
  go_region
  all_goals
    go_wp2_with fail
    refine bodyPost_ret (v := .agg #[.string p, .int .i64 1, .int .i64 m, .string ⟨#[]⟩]) (by simp [results, Tryz.results83, go_sem]) rfl ⟨rfl, ?_⟩
    exact unhid HB _ _ _
set_option maxRecDepth 100000 in
set_option maxHeartbeats 4000000 in
theorem entryOf_file (p : ByteArray) (m : Int) (t : ByteArray) (w : World) :
    Calls Tryz.prog 83 #[.string p, .iface 178 (.agg #[.int .i64 m, .string t])] w fun x w' => x = .returned (.agg #[.string p, .int .i64 2, .int .i64 m, .string t]) ∧ Below w.heap.size w w' := by
  have hta4 : ∀ w, (Instr.typeAssert (.iface 178 (.agg #[.int .i64 m, .string t])) 121 176 true).run Tryz.prog w = .ok (.tuple #[.agg #[.int .i64 0], .bool false]) w := fun _ => by kernel_rfl
  have hta5 : ∀ w, (Instr.typeAssert (.iface 178 (.agg #[.int .i64 m, .string t])) 121 178 true).run Tryz.prog w = .ok (.tuple #[.agg #[.int .i64 m, .string t], .bool true]) w := fun _ => by kernel_rfl
  have hb : ∀ o1 o2 o3, Below w.heap.size w ((((w.alloc o1).alloc o2).alloc o3).drew) := fun o1 o2 o3 => ((((Below.refl _ w).alloc (Nat.le_refl _) _).alloc (by simp) _).alloc (by simp; omega) _).drew
  have HB := hid hb
  clear hb
  go_enter Tryz.func83, Tryz.ntmps83
  go_wp2_with fail
  go_region
  all_goals
    go_wp2_with fail
    refine bodyPost_ret (v := .agg #[.string p, .int .i64 2, .int .i64 m, .string t]) (by simp [results, Tryz.results83, go_sem]) rfl ⟨rfl, ?_⟩
    exact unhid HB _ _ _
set_option maxRecDepth 100000 in
set_option maxHeartbeats 4000000 in
theorem entryOf_link (p : ByteArray) (t : ByteArray) (w : World) :
    Calls Tryz.prog 83 #[.string p, .iface 180 (.agg #[.string t])] w fun x w' => x = .returned (.agg #[.string p, .int .i64 3, .int .i64 0, .string t]) ∧ Below w.heap.size w w' := by
  have hta4 : ∀ w, (Instr.typeAssert (.iface 180 (.agg #[.string t])) 121 176 true).run Tryz.prog w = .ok (.tuple #[.agg #[.int .i64 0], .bool false]) w := fun _ => by kernel_rfl
  have hta5 : ∀ w, (Instr.typeAssert (.iface 180 (.agg #[.string t])) 121 178 true).run Tryz.prog w = .ok (.tuple #[.agg #[.int .i64 0, .string ⟨#[]⟩], .bool false]) w := fun _ => by kernel_rfl
  have hta6 : ∀ w, (Instr.typeAssert (.iface 180 (.agg #[.string t])) 121 180 true).run Tryz.prog w = .ok (.tuple #[.agg #[.string t], .bool true]) w := fun _ => by kernel_rfl
  have hb : ∀ o1 o2 o3, Below w.heap.size w ((((w.alloc o1).alloc o2).alloc o3).drew) := fun o1 o2 o3 => ((((Below.refl _ w).alloc (Nat.le_refl _) _).alloc (by simp) _).alloc (by simp; omega) _).drew
  have HB := hid hb
  clear hb
  go_enter Tryz.func83, Tryz.ntmps83
  go_wp2_with fail
  go_region
  all_goals
    go_wp2_with fail
    refine bodyPost_ret (v := .agg #[.string p, .int .i64 3, .int .i64 0, .string t]) (by simp [results, Tryz.results83, go_sem]) rfl ⟨rfl, ?_⟩
    exact unhid HB _ _ _
theorem entryOf_any (e : Ent) (he : entB e = true) (w : World) : Calls Tryz.prog 83 #[.string e.path, nodeV e] w fun x w' => x = .returned (.agg e.vals) ∧ Below w.heap.size w w' := by
  obtain ⟨p, k, m, t⟩ := e
  unfold entB at he
  dsimp only at he ⊢
  rw [Bool.and_eq_true] at he
  have he2 := he.2
  unfold nodeV Ent.vals
  dsimp only
  by_cases k1 : k = 1
  · rw [if_pos k1] at he2 ⊢
    rw [Bool.and_eq_true] at he2
    have ht : t = ⟨#[]⟩ := ba_ext (List.isEmpty_iff.1 he2.2)
    subst k1; subst ht
    exact entryOf_dir p m w
  · rw [if_neg k1] at he2 ⊢
    by_cases k2 : k = 2
    · rw [if_pos k2]; subst k2; exact entryOf_file p m t w
    · rw [if_neg k2] at he2 ⊢
      simp only [Bool.and_eq_true, beq_iff_eq] at he2
      rw [he2.1, he2.2.1]; exact entryOf_link p t w
end Go.Proofs.YtoihhlkidlapmaaGreat

namespace Go.Proofs.YtoihhlkidlapmaaGreat
open Go.RowKit Go.Shelf
theorem set_nothing {w : World} {g j : Nat} {v : Value} {cur : Array Value} {t : TypeId} (h : w.heap[g]? = some (.cells cur t (0, 0))) (hc : cur[j]? = some v) : Below (w.heap.size + 1) w (w.setCell ⟨g, j, .none⟩ v) := by
  refine ⟨rfl, rfl, rfl, by simp, fun k _ => ?_⟩
  by_cases e : k = g
  · subst e
    rw [heap_setCell_same w k j cur t v h, h]
    have : cur.setIfInBounds j v = cur := by
      apply Array.ext_getElem?
      intro i
      rw [Array.getElem?_setIfInBounds]
      by_cases ei : j = i
      · subst ei
        rw [if_pos rfl, if_pos (Array.getElem?_eq_some_iff.1 hc).1, hc]
      · rw [if_neg ei]
    rw [this]
  · exact Below.heap_setCell w _ v k e
set_option maxRecDepth 100000 in
set_option maxHeartbeats 4000000 in
theorem mapPut_again (N bt : Nat) (es : List Ent) (e : Ent) (w : World) (hn : es.length ≤ 900) (ha : Asc (pathsOf es)) (hj : es[placeE es e.path]? = some e) (h : TreeAt w N bt es) :
    Calls Tryz.prog 172 #[.pointer (some ⟨bt, 0, .none⟩), .string e.path, nodeV e] w fun x w' => (∃ v, x = .returned v) ∧ Below w.heap.size w w' := by
  have hbl := h.lt
  obtain ⟨vp, vn, h1, h2, h3⟩ := h
  obtain ⟨a, cap, hva, hT⟩ := texts_of h2
  have hpn : (pathsOf es).length = es.length := by simp [pathsOf]
  have hl : (pathsOf es).length ≤ 1048576 := by omega
  have ht : thereP (pathsOf es) e.path = true := by rw [thereP_E]; unfold thereE; rw [hj]; exact (eqS_iff _ _).2 rfl
  have hjl : placeE es e.path < es.length := (List.getElem?_eq_some_iff.1 hj).1
  have hS := BinarySearch_any (pathsOf es) a cap e.path w hl ha hT
  rw [placeP_E, ht, hpn] at hS
  rw [hpn] at hva
  subst hva
  obtain ⟨T, nv, hV⟩ := nodeV_shape e
  obtain ⟨g, cap2, cur, rfl, hg, hcj⟩ : ∃ g cap2 cur, vn = .slice (some ⟨g, 0, .none⟩) es.length cap2 ∧ w.heap[g]? = some (.cells cur 121 (0, 0)) ∧ cur[placeE es e.path]? = some (nodeV e) := by
    rcases h3.2 with ⟨rfl, h0⟩ | ⟨g, cap, cur, rfl, _, hg, hc, _, hsz, hcells⟩
    · omega
    · refine ⟨g, cap, cur, rfl, hg, ?_⟩
      have hq : (cur.toList.take (es.length * 1))[placeE es e.path]? = some (nodeV e) := by rw [hcells, List.getElem?_map, hj]; rfl
      rwa [List.getElem?_take_of_lt (by omega), Array.getElem?_toList] at hq
  rw [hV] at hcj ⊢
  have n0 : w.cell? ⟨g, placeE es e.path, .none⟩ = some (.iface T nv) := by simp [World.cell?, hg, hcj]
  have m0 : w.frozen? ⟨g, placeE es e.path, .none⟩ = false := by simp [World.frozen?, hg]
  have HS := hid hS
  have HN := hid (set_nothing hg hcj)
  obtain ⟨c0, c1, f0, f1⟩ := two_cells h1
  clear hT ha hl ht h1 h2 h3 hpn hj hS hV hg hcj
  generalize placeE es e.path = j at HS HN hjl n0 m0
  go_enter Tryz.func172, Tryz.ntmps172
  go_wp2_with fail
  refine (unhid HS).mono ?_
  rintro x w1 ⟨rfl, hw1⟩
  rw [hw1]
  clear hw1
  go_wp2_with fail
  first | go_end0 | refine bodyPost_ret (results_none rfl _ _ _) rfl ?_
  exact ⟨⟨_, rfl⟩, (unhid HN).mono (Nat.le_succ _)⟩
set_option maxRecDepth 100000 in
set_option maxHeartbeats 8000000 in
theorem putEntry_again (N bt : Nat) (es : List Ent) (e : Ent) (w : World) (hp : e.path.size ≤ maxLen) (htx : e.text.size ≤ maxLen) (hn : es.length ≤ 20) (ha : Asc (pathsOf es)) (he : entB e = true) (hd : dirE es (pathUpS e.path) = true) (hj : es[placeE es e.path]? = some e) (h : TreeAt w N bt es) :
    Calls Tryz.prog 138 #[.pointer (some ⟨bt, 0, .none⟩), .agg e.vals] w fun x w' => x = .returned (.bool true) ∧ Below w.heap.size w w' := by
  have hbl := h.lt
  have hth : thereE es e.path = true := by unfold thereE; rw [hj]; exact (eqS_iff _ _).2 rfl
  have hgv : getV es e.path = nodeV e := by unfold getV; rw [hth, entFn_get hj]; rfl
  have HT := hid (And.intro hth (And.intro hgv (And.intro ha hj)))
  have h0 : TreeAt (w.alloc (.cells #[.string e.path, .int .i64 e.kind, .int .i64 e.mode, .string e.text] 57)) N bt es := h.below ((Below.refl _ w).alloc (Nat.le_refl _) _)
  have hk0 : Below w.heap.size w (w.alloc (.cells #[.string e.path, .int .i64 e.kind, .int .i64 e.mode, .string e.text] 57)) := (Below.refl _ w).alloc (Nat.le_refl _) _
  have hnw := World.alloc_heap_new w (.cells #[.string e.path, .int .i64 e.kind, .int .i64 e.mode, .string e.text] 57)
  have hs0 : w.heap.size < (w.alloc (.cells #[.string e.path, .int .i64 e.kind, .int .i64 e.mode, .string e.text] 57)).heap.size := by simp
  have H0 := hid (And.intro h0 hk0)
  have X0 := hid (show (w.alloc (.cells #[.string e.path, .int .i64 e.kind, .int .i64 e.mode, .string e.text] 57)).cell? ⟨w.heap.size, 0, .none⟩ = some (.string e.path) by unfold World.cell?; dsimp only; rw [hnw]; rfl)
  have X1 := hid (show (w.alloc (.cells #[.string e.path, .int .i64 e.kind, .int .i64 e.mode, .string e.text] 57)).cell? ⟨w.heap.size, 1, .none⟩ = some (.int .i64 e.kind) by unfold World.cell?; dsimp only; rw [hnw]; rfl)
  have hN0 := hid (nodeOf_any e hp htx (w.alloc (.cells #[.string e.path, .int .i64 e.kind, .int .i64 e.mode, .string e.text] 57)))
  clear hth hgv ha hj h h0 hk0 hnw
  have HE := hid he
  have HD := hid hd
  go_enter Tryz.func138, Tryz.ntmps138
  unfold Ent.vals
  go_wp2_with fail
  refine (unhid hN0).mono ?_
  rintro x w1 ⟨⟨v, rfl, -, hv⟩, hb⟩
  obtain rfl := hv (unhid HE)
  rw [unhid HE]
  have HK := hid (And.intro ((unhid H0).1.below hb) ((unhid H0).2.trans (hb.mono (Nat.le_of_lt hs0))))
  have c0 := (hb.cell (p := ⟨w.heap.size, 0, .none⟩) hs0).trans (unhid X0)
  have c1 := (hb.cell (p := ⟨w.heap.size, 1, .none⟩) hs0).trans (unhid X1)
  have hs1 := Nat.lt_of_lt_of_le hs0 hb.size
  clear hb hv
  go_wp2_with fail
  refine (hasPlace_any N bt es e.path w1 hp (by omega) (unhid HT).2.2.1 (unhid HK).1).mono ?_
  rintro x w2 ⟨rfl, hb⟩
  rw [unhid HD]
  have HK2 := hid (And.intro ((unhid HK).1.below hb) ((unhid HK).2.trans (hb.mono (Nat.le_of_lt hs1))))
  have d0 := (hb.cell (p := ⟨w.heap.size, 0, .none⟩) hs1).trans c0
  have d1 := (hb.cell (p := ⟨w.heap.size, 1, .none⟩) hs1).trans c1
  have hs2 := Nat.lt_of_lt_of_le hs1 hb.size
  clear hb c0 c1
  go_wp2_with fail
  go_quiet ((go_at_call 82; refine Calls.quiet_of_same (v := .tuple #[nodeV e, .bool true]) ((mapGet_any N bt es e.path _ (by omega) (unhid HT).2.2.1 ((unhid HK2).1.below (drewN_below _ _))).mono ?_); rintro x w3 ⟨rfl, rfl⟩; exact ⟨by rw [(unhid HT).2.1, (unhid HT).1], rfl⟩))
  have HK3 := hid (And.intro ((unhid HK2).1.below (drewN_below w2 nq)) ((unhid HK2).2.trans (drewN_below w2 nq)))
  have d30 : (w2.drewN nq).cell? ⟨w.heap.size, 0, .none⟩ = some (.string e.path) := d0
  have d31 : (w2.drewN nq).cell? ⟨w.heap.size, 1, .none⟩ = some (.int .i64 e.kind) := d1
  have hs3 : w.heap.size < (w2.drewN nq).heap.size := hs2
  clear d0 d1
  generalize w2.drewN nq = w3 at HK3 d30 d31 hs3 ⊢
  have g0 := BW.cell (B := w3.heap.size) hs3 d30
  have g1 := BW.cell (B := w3.heap.size) hs3 d31
  go_wp2_with fail
  have hfd : ∀ w, (Instr.field 57 (.agg #[.string e.path, .int .i64 e.kind, .int .i64 e.mode, .string e.text]) 1).run Tryz.prog w = .ok (.int .i64 e.kind) w := fun _ => by kernel_rfl
  have hba := @BW.all w3.heap.size w3
  refine calm_region w3.heap.size (by kernel_rfl) (by kernel_rfl) ?_
  repeat (go_big_quiet_step ((go_at_call 83; exact Calls.bw (v := .agg #[.string e.path, .int .i64 e.kind, .int .i64 e.mode, .string e.text]) (Nat.le_refl _) (entryOf_any e (unhid HE) _))))
  refine wpQuiet_nil ?_
  intro w4 hw
  obtain ⟨x, hx⟩ := hw
  have hB4 : Below w3.heap.size w3 w4 := by rw [hx]; exact x.h
  clear hx x
  have HK4 := hid (And.intro ((unhid HK3).1.below hB4) ((unhid HK3).2.trans (hB4.mono (Nat.le_of_lt hs3))))
  have d4 := (hB4.cell (p := ⟨w.heap.size, 0, .none⟩) hs3).trans d30
  have hs4 := Nat.lt_of_lt_of_le hs3 hB4.size
  clear hB4 hba g0 g1 d30 d31 hfd
  go_wp2_with fail
  have HP := hid (mapPut_again N bt es e w4.drew (by omega) (unhid HT).2.2.1 (unhid HT).2.2.2 ((unhid HK4).1.below (drew_below _)))
  go_region_with (go_at_call 172; refine (unhid HP).mono ?_; rintro x w5 ⟨⟨y, rfl⟩, hB5⟩; have HK5 := hid (((unhid HK4).2.trans (drew_below w4)).trans (hB5.mono (Nat.le_of_lt hs4))); clear hB5)
  all_goals
    go_wp2_with fail
    go_ret
    exact ⟨rfl, unhid HK5⟩
end Go.Proofs.YtoihhlkidlapmaaGreat

namespace Go.Proofs.YtoihhlkidlapmaaGreat
open Go.RowKit Go.Shelf
def RowsAt (W : World) (N : Nat) (vp vn : Value) (es : List Ent) : Prop := W.ownsRow N 9 1 vp es.length (es.map fun e => .string e.path) ∧ W.ownsRow N 121 1 vn es.length (es.map nodeV)
def keptE (es : List Ent) : List Ent := if treeB es then es else []
theorem keptE_no {es : List Ent} (h : treeB es = false) : keptE es = [] := by unfold keptE; rw [h]; rfl
theorem keptE_yes {es : List Ent} (h : treeB es = true) : keptE es = es := by unfold keptE; rw [h]; rfl
theorem rowsAt_nil (W : World) (N : Nat) : RowsAt W N (.slice .none 0 0) (.slice .none 0 0) [] := ⟨World.ownsRow_nil _ _ _ _, World.ownsRow_nil _ _ _ _⟩
theorem okI_16 {es : List Ent} {k : Nat} (hk : k ≤ es.length) (h : (List.range k).all (okI es) = true) : k ≤ 16 := by
  rw [List.all_eq_true] at h
  rcases Nat.lt_or_ge 16 k with hlt | hge
  · have := h 16 (List.mem_range.2 hlt)
    unfold okI putB at this
    have hl : (es.take 16).length = 16 := by rw [List.length_take]; omega
    rw [hl] at this
    simp at this
  · exact hge
theorem apart_of {cs : Array Value} {t : TypeId} {f : Nat × Nat} (h : t ≠ 9 ∧ t ≠ 121) : Apart (.cells cs t f) := fun _ _ _ e => by cases e; exact h
def InTest (w : World) (es : List Ent) (k B : Nat) (e : Ent) (w' : World) : Prop :=
  (Below w.heap.size w w' ∧ w'.heap[w.heap.size]? = some (.cells #[.slice .none 0 0, .slice .none 0 0] 117 (0, 0)) ∧ w'.heap[B]? = some (.cells #[.string e.path, .int .i64 e.kind, .int .i64 e.mode, .string e.text] 57 (0, 0))) ∧
    (TreeAt w' w.heap.size (w.heap.size + 1) (es.take k) ∨ (okI es k = true ∧ TreeAt w' w.heap.size (w.heap.size + 1) (es.take (k + 1))))
theorem inTest_put {w : World} {es : List Ent} {k B : Nat} {e : Ent} (hB : w.heap.size + 1 < B) (hlt : k < es.length) (he : es[k]? = some e) (hall : (List.range k).all (okI es) = true) (zp : e.path.size ≤ maxLen) (zt : e.text.size ≤ maxLen) (hor : k = 0 ∨ ltS (entFn es (k - 1)).path e.path = true) (W : World) (h : InTest w es k B e W) :
    Calls Tryz.prog 138 #[.pointer (some ⟨w.heap.size + 1, 0, .none⟩), .agg #[.string e.path, .int .i64 e.kind, .int .i64 e.mode, .string e.text]] W fun x w' => x = .returned (.bool (okI es k)) ∧ InTest w es k B e w' := by
  have hf := entFn_get he
  have hk16 := okI_16 (Nat.le_of_lt hlt) hall
  have hlk : (es.take k).length = k := by rw [List.length_take]; omega
  have hok : okI es k = putB (es.take k) e := by
    unfold okI; rw [hf]
    rcases hor with h0 | h0
    · rw [h0]; rfl
    · rw [h0]; simp
  have hor' : k = 0 ∨ ltS (entFn es (k - 1)).path (entFn es k).path = true := by rw [hf]; exact hor
  obtain ⟨⟨b1, b2, b3⟩, hT⟩ := h
  rcases hT with hT | ⟨hyes, hT⟩
  · have hpe := place_end hlt hall hor'
    rw [hf] at hpe
    refine (putEntry_end w.heap.size (w.heap.size + 1) (es.take k) e W zp zt (by omega) (asc_take (Nat.le_of_lt hlt) hall) (by omega) hpe hT).mono ?_
    rintro x w2 ⟨rfl, hT2, hK2⟩
    refine ⟨by rw [hok], ⟨b1.trans hK2.1, hK2.2 _ _ (by omega) b2 (apart_of (by decide)), hK2.2 _ _ (by omega) b3 (apart_of (by decide))⟩, ?_⟩
    cases hp : putB (es.take k) e
    · rw [nextE_no hp] at hT2; exact .inl hT2
    · rw [nextE_yes hp] at hT2
      exact .inr ⟨by rw [hok, hp], by rw [List.take_add_one, he]; exact hT2⟩
  · have hall1 : (List.range (k + 1)).all (okI es) = true := all_range_snoc hall hyes
    have hput : putB (es.take k) e = true := by rw [← hok]; exact hyes
    unfold putB at hput
    simp only [Bool.and_eq_true] at hput
    have hl1 : (es.take (k + 1)).length = k + 1 := by rw [List.length_take]; omega
    have ha := asc_take (k := k + 1) (by omega) hall1
    rw [List.all_eq_true] at hall1
    have hs : ∀ i, i < k + 1 → i = 0 ∨ ltS (entFn es (i - 1)).path (entFn es i).path = true := fun i hi => by
      have := hall1 i (List.mem_range.2 hi); unfold okI at this; simp only [Bool.and_eq_true, Bool.or_eq_true, beq_iff_eq] at this; exact this.1
    have hasc := asc_of (es := es) (n := k + 1) (by omega) hs
    have hfn : ∀ i, i < k + 1 → entFn (es.take (k + 1)) i = entFn es i := fun i hi => entFn_get (by rw [List.getElem?_take_of_lt hi]; exact ent_get (by omega))
    have hd : dirE (es.take (k + 1)) (pathUpS e.path) = true := by
      rw [dir_take (es := es.take (k + 1)) (i := k) (by omega) (fun a b hab hb => by rw [hfn a (by omega), hfn b (by omega)]; exact hasc a b hab (by omega)) (fun hq => by rw [hfn k (by omega), hf, ent_path hput.1] at *; exact up_less hq)]
      rw [List.take_take, Nat.min_eq_left (Nat.le_succ k)]
      exact hput.2.1
    have hpl : placeE (es.take (k + 1)) e.path = k := place_at (by omega) (by omega) (by rw [hf]) (fun i hi => by rw [← hf]; exact hasc i k hi (by omega))
    refine (putEntry_again w.heap.size (w.heap.size + 1) (es.take (k + 1)) e W zp zt (by omega) ha hput.1 hd (by rw [hpl, List.getElem?_take_of_lt (by omega)]; exact he) hT).mono ?_
    rintro x w2 ⟨rfl, hB2⟩
    have hlt2 := hT.lt
    have hBl : B < W.heap.size := (Array.getElem?_eq_some_iff.1 b3).1
    exact ⟨by rw [hyes], ⟨b1.trans (hB2.mono (by omega)), (hB2.block _ (by omega)).trans b2, (hB2.block _ hBl).trans b3⟩, .inr ⟨hyes, hT.below hB2⟩⟩
theorem le_not_less (x y : List UInt8) : (Op.bytesLess x y || x == y) = !Op.bytesLess y x := by
  cases h1 : Op.bytesLess x y
  · cases h2 : Op.bytesLess y x
    · rw [lt_tot x y h1 h2]; simp
    · have : x ≠ y := fun e => by subst e; rw [lt_irr] at h2; cases h2
      simp [this]
  · cases h2 : Op.bytesLess y x
    · simp
    · have := lt_tra x y x h1 h2
      rw [lt_irr] at this; cases this
theorem ownsRow_slice {W : World} {N n size : Nat} {v : Value} {e : TypeId} {xs : List Value} (h : W.ownsRow N e size v n xs) : ∃ a cap, v = .slice a n cap := by
  rcases h.2 with ⟨rfl, rfl⟩ | ⟨g, cap, cur, rfl, _⟩
  · exact ⟨_, _, rfl⟩
  · exact ⟨_, _, rfl⟩
def InRow (w : World) (w' : World) (xs : List Ent) : Prop := Below w.heap.size w w' ∧ w'.heap[w.heap.size]? = some (.cells #[.slice .none 0 0, .slice .none 0 0] 117 (0, 0)) ∧ TreeAt w' w.heap.size (w.heap.size + 1) xs
def nextK (es : List Ent) (k : Nat) : Nat := if okI es k then k + 1 else k
theorem nextK_yes {es : List Ent} {k : Nat} (h : okI es k = true) : nextK es k = k + 1 := by unfold nextK; rw [h]; rfl
theorem inRow_put {w : World} {es : List Ent} {k : Nat} {e : Ent} (hlt : k < es.length) (he : es[k]? = some e) (hall : (List.range k).all (okI es) = true) (zp : e.path.size ≤ maxLen) (zt : e.text.size ≤ maxLen) (hor : k = 0 ∨ ltS (entFn es (k - 1)).path e.path = true) (W : World) (h : InRow w W (es.take k)) :
    Calls Tryz.prog 138 #[.pointer (some ⟨w.heap.size + 1, 0, .none⟩), .agg #[.string e.path, .int .i64 e.kind, .int .i64 e.mode, .string e.text]] W fun x w' => x = .returned (.bool (okI es k)) ∧ Hid (InRow w w' (es.take (nextK es k))) := by
  have hf := entFn_get he
  have hk16 := okI_16 (Nat.le_of_lt hlt) hall
  have hlk : (es.take k).length = k := by rw [List.length_take]; omega
  have hok : okI es k = putB (es.take k) e := by
    unfold okI; rw [hf]
    rcases hor with h0 | h0
    · rw [h0]; rfl
    · rw [h0]; simp
  have hor' : k = 0 ∨ ltS (entFn es (k - 1)).path (entFn es k).path = true := by rw [hf]; exact hor
  obtain ⟨b1, b2, hT⟩ := h
  have hpe := place_end hlt hall hor'
  rw [hf] at hpe
  refine (putEntry_end w.heap.size (w.heap.size + 1) (es.take k) e W zp zt (by omega) (asc_take (Nat.le_of_lt hlt) hall) (by omega) hpe hT).mono ?_
  rintro x w2 ⟨rfl, hT2, hK2⟩
  refine ⟨by rw [hok], hid ⟨b1.trans hK2.1, hK2.2 _ _ (by omega) b2 (apart_of (by decide)), ?_⟩⟩
  unfold nextK
  rw [hok]
  cases hp : putB (es.take k) e
  · rw [nextE_no hp] at hT2; exact hT2
  · rw [nextE_yes hp] at hT2
    show TreeAt w2 w.heap.size (w.heap.size + 1) (es.take (k + 1))
    rw [List.take_add_one, he]; exact hT2
theorem still_of_quiet {P : Program} {o : Oper} {a : Act} {wq : World} {K : Act → Prop} (h : o.quiet P a (fun w' => ∃ x : CW (fun w' => w' = wq), w' = x.w) K) : o.still P a wq K := by
  obtain ⟨v, h1, h2⟩ := h
  have h3 := h1 wq ⟨⟨wq, rfl⟩, rfl⟩
  unfold Oper.quietAt at h3
  unfold Oper.still
  generalize (execOp a.eval o).run P wq = r at h3
  unfold Oper.quietUpon at h3
  unfold Oper.stillUpon
  split at h3
  · exact ⟨h3.1, by rw [h3.2]; exact h2⟩
  · exact ⟨h3.1, by rw [← h3.2]; exact h2⟩
  · refine ⟨h3.1, v, h3.2.mono ?_, h2⟩
    rintro e w2 ⟨he, x, hx⟩
    exact ⟨he, hx.trans x.h⟩
  · exact absurd h3 (by simp)
theorem stills_of_quiet {P : Program} {ops : Array Oper} {wq : World} {Q : Act → Prop} : ∀ (l : List Oper) (a : Act), wpQuiet P ops (fun w' => ∃ x : CW (fun w' => w' = wq), w' = x.w) Q l a → wpStill P ops wq Q l a
  | [], _, h => h
  | o :: rest, a, h => by
    unfold wpQuiet at h
    unfold wpStill
    split at h
    · rename_i hw
      rw [if_pos hw]
      exact Oper.still_mono (fun a' h' => stills_of_quiet rest a' h') (still_of_quiet h)
    · rename_i hw
      rw [if_neg hw]
      exact stills_of_quiet rest _ h
theorem still_tail_at {P : Program} {id : Nat} {Q : Exit → Act → World → Prop} {a : Act} {w : World} {l : List Oper} (n : Nat) (wq : World) (hq : wq = w.drew) (hm : P.follows .mixedOrders = true) (hB : Region.lexTailB .any l.toArray n = true)
    (h : wpQuiet P l.toArray (fun w' => ∃ x : CW (fun w' => w' = wq), w' = x.w) (fun a' => wpList P l.toArray Q (l.drop n) a' wq) (l.take n) a) : (Code.region id l.toArray true).wp P Q a w := by
  subst hq; exact wp_region_still_tail n hm hB (stills_of_quiet _ _ h)
set_option maxRecDepth 100000 in
set_option maxHeartbeats 8000000 in
theorem treeOf_any (es : List Ent) (a : Option Addr) (cap : Nat) (w : World) (hs : smallE es) (h : EntsAt w a es) :
    Calls Tryz.prog 81 #[.slice a es.length cap] w fun x w' => ∃ vp vn, x = .returned (.tuple #[.agg #[vp, vn], .bool (treeB es)]) ∧ RowsAt w' w.heap.size vp vn (keptE es) ∧ Below w.heap.size w w' := by
  obtain ⟨hlen, hz⟩ := hs
  have HH := hid h
  have HZ := hid hz
  have ET := hid (treeB_eq es)
  clear h hz
  have hst : ∃ W0, W0 = (w.alloc (.cells #[.slice .none 0 0, .slice .none 0 0] 117)).alloc (.cells #[.slice .none 0 0, .slice .none 0 0] 117) := ⟨_, rfl⟩
  obtain ⟨W0, hW0⟩ := hst
  have hb0 : Below w.heap.size w W0 := by rw [hW0]; exact ((Below.refl _ w).alloc (Nat.le_refl _) _).alloc (by simp) _
  have hr0 : W0.heap[w.heap.size]? = some (.cells #[.slice .none 0 0, .slice .none 0 0] 117 (0, 0)) := by rw [hW0, Below.heap_alloc _ _ _ (by simp)]; exact World.alloc_heap_new _ _
  have ht0 : TreeAt W0 w.heap.size (w.heap.size + 1) [] := ⟨.slice .none 0 0, .slice .none 0 0, by rw [hW0]; have := World.alloc_heap_new (w.alloc (.cells #[.slice .none 0 0, .slice .none 0 0] 117)) (.cells #[.slice .none 0 0, .slice .none 0 0] 117); rwa [World.size_alloc] at this, World.ownsRow_nil _ _ _ _, World.ownsRow_nil _ _ _ _⟩
  have H00 := hid (And.intro hb0 (And.intro hr0 ht0))
  have HW0 := hid hW0
  clear hb0 hr0 ht0 hW0
  go_enter Tryz.func81, Tryz.ntmps81
  go_wp2_with fail
  rw [← unhid HW0]
  go_loopw [5, 6, 10] (fun _ _ i wr => ∃ k : Nat, k ≤ es.length ∧ i = .int .i64 k ∧ Hid ((List.range k).all (okI es) = true) ∧ Hid (Below w.heap.size w wr ∧ wr.heap[w.heap.size]? = some (.cells #[.slice .none 0 0, .slice .none 0 0] 117 (0, 0)) ∧ TreeAt wr w.heap.size (w.heap.size + 1) (es.take k))) (fun _ _ i _ => es.length - (intOf i).toNat)
  case atStart => exact ⟨0, Nat.zero_le _, rfl, hid rfl, H00⟩
  case round =>
    clear H00 HW0
    obtain ⟨k, hk, rfl, hall, HST⟩ := hrel
    by_cases hlt : k < es.length
    · obtain ⟨e, he⟩ : ∃ e, es[k]? = some e := ⟨es[k], List.getElem?_eq_getElem hlt⟩
      obtain ⟨b, o, rfl, hbl, hc⟩ := (unhid HH).get (by intro e; subst e; simp at hlt)
      obtain ⟨hB, hr, hT⟩ := unhid HST
      obtain ⟨c0, c1, c2, c3⟩ := (hc k e he).below hB hbl
      obtain ⟨z1, z2⟩ := unhid HZ e (List.mem_of_getElem? he)
      have hf := entFn_get he
      have zp : e.path.size ≤ maxLen := by unfold maxLen; omega
      have zt : e.text.size ≤ maxLen := by unfold maxLen; omega
      have hk16 := okI_16 hk (unhid hall)
      have hlk : (es.take k).length = k := by rw [List.length_take]; omega
      have hNl : w.heap.size + 1 < wr.heap.size := hT.lt
      have hC0 : InTest w es k wr.heap.size e (wr.alloc (.cells #[.string e.path, .int .i64 e.kind, .int .i64 e.mode, .string e.text] 57)).drew := by
        refine ⟨⟨(hB.alloc hB.size _).drew, ?_, ?_⟩, .inl (hT.below (((Below.refl _ _).alloc (Nat.le_refl _) _).drew))⟩
        · show (wr.alloc _).heap[_]? = _
          rw [Below.heap_alloc _ _ _ (by omega)]; exact hr
        · exact World.alloc_heap_new wr _
      have HC0 := hid hC0
      have he' := he
      obtain ⟨wq, hq⟩ : ∃ wq, wq = (wr.alloc (.cells #[.string e.path, .int .i64 e.kind, .int .i64 e.mode, .string e.text] 57)).drew := ⟨_, rfl⟩
      have HQ : Hid (InRow w wq (es.take k)) := by
        have hC1 := hC0
        rw [← hq] at hC1
        refine hid ⟨hC1.1.1, hC1.1.2.1, ?_⟩
        rw [hq]; exact hT.below (((Below.refl _ _).alloc (Nat.le_refl _) _).drew)
      have hwb : wq.heap[wr.heap.size]? = some (.cells #[.string e.path, .int .i64 e.kind, .int .i64 e.mode, .string e.text] 57 (0, 0)) := by rw [hq]; exact World.alloc_heap_new wr _
      have p0 : wq.cell? ⟨wr.heap.size, 0, .none⟩ = some (.string e.path) := by simp [World.cell?, hwb]
      have p1 : wq.cell? ⟨wr.heap.size, 1, .none⟩ = some (.int .i64 e.kind) := by simp [World.cell?, hwb]
      have p2 : wq.cell? ⟨wr.heap.size, 2, .none⟩ = some (.int .i64 e.mode) := by simp [World.cell?, hwb]
      have p3 : wq.cell? ⟨wr.heap.size, 3, .none⟩ = some (.string e.text) := by simp [World.cell?, hwb]
      have HP := hid (And.intro p0 (And.intro p1 (And.intro p2 p3)))
      have HQE := hid hq
      clear hwb p0 p1 p2 p3 hq
      have hno : okI es k = false → treeB es = false := fun h => by rw [unhid ET]; exact all_range_no hlt h
      have HNO := hid hno
      have tt : ∀ w5, okI es k = true → InTest w es k wr.heap.size e w5 → w5.heap.size = w5.heap.size := fun _ _ _ => rfl
      clear tt
      have hbox : ∀ (x : CW (InTest w es k wr.heap.size e)), x.w.cell? ⟨wr.heap.size, 0, .none⟩ = some (.string e.path) ∧ x.w.cell? ⟨wr.heap.size, 1, .none⟩ = some (.int .i64 e.kind) ∧ x.w.cell? ⟨wr.heap.size, 2, .none⟩ = some (.int .i64 e.mode) ∧ x.w.cell? ⟨wr.heap.size, 3, .none⟩ = some (.string e.text) := fun x => by
        have := x.h.1.2.2
        refine ⟨?_, ?_, ?_, ?_⟩ <;> simp [World.cell?, this]
      have q0 := fun x => (hbox x).1
      have q1 := fun x => (hbox x).2.1
      have q2 := fun x => (hbox x).2.2.1
      have q3 := fun x => (hbox x).2.2.2
      have hNl' : w.heap.size + 1 < wr.heap.size := hNl
      clear hbox
      rcases k with _ | j
      · have PUT := hid (inTest_put hNl hlt he (unhid hall) zp zt (.inl rfl))
        simp only [Nat.zero_mul, Nat.add_zero] at c0 c1 c2 c3
        clear hc he hf HST hT hB hr hC0
        cases hok : okI es 0
        · have E := hid (unhid HNO hok)
          go_wp2_with fail
          have HCx := @CW.all (InTest w es 0 wr.heap.size e) _ (unhid HC0)
          refine class_region (InTest w es 0 wr.heap.size e) (unhid HC0) (by kernel_rfl) (by kernel_rfl) ?_
          repeat (go_big_quiet_step ((go_at_call 138; refine Calls.cw (v := .bool false) ((unhid PUT _ (CW.h _)).mono ?_); rintro r w2 ⟨rfl, hC⟩; exact ⟨by rw [hok], hC⟩)))
          refine wpQuiet_nil ?_
          intro w5 hw
          obtain ⟨x, hx⟩ := hw
          have hC5 : InTest w es 0 wr.heap.size e w5 := by rw [hx]; exact x.h
          clear hx x HCx q0 q1 q2 q3
          obtain ⟨⟨hB5, hr5, -⟩, -⟩ := hC5
          obtain ⟨d0, d1, e0, e1⟩ := two_cells hr5
          have HR6 := hid hB5
          clear hB5 hr5
          go_wp2_with fail
          refine bodyPost_ret (v := .tuple #[.agg #[.slice .none 0 0, .slice .none 0 0], .bool false]) (by simp [results, Tryz.results81, go_sem, World.cell?_setCell_same', d0, d1]) rfl ⟨_, _, by rw [unhid E], by rw [keptE_no (unhid E)]; exact rowsAt_nil _ _, ((unhid HR6).setCell (Nat.le_refl _) _).setCell (Nat.le_refl _) _⟩
        · have PUT2 := hid (inRow_put (w := w) hlt he' (unhid hall) zp zt (.inl rfl) wq (unhid HQ))
          rw [hok, nextK_yes hok] at PUT2
          have HY := hid hok
          clear PUT q0 q1 q2 q3 HC0 hno HNO he'
          go_wp2_with fail
          refine still_tail_at 15 wq (unhid HQE) (by kernel_rfl) (by kernel_rfl) ?_
          clear HQE
          have HCx := @CW.all (fun w' => w' = wq) wq rfl
          have q0 : ∀ x : CW (fun w' => w' = wq), x.w.cell? ⟨wr.heap.size, 0, .none⟩ = some (.string e.path) := fun x => by rw [x.h]; exact (unhid HP).1
          have q1 : ∀ x : CW (fun w' => w' = wq), x.w.cell? ⟨wr.heap.size, 1, .none⟩ = some (.int .i64 e.kind) := fun x => by rw [x.h]; exact (unhid HP).2.1
          have q2 : ∀ x : CW (fun w' => w' = wq), x.w.cell? ⟨wr.heap.size, 2, .none⟩ = some (.int .i64 e.mode) := fun x => by rw [x.h]; exact (unhid HP).2.2.1
          have q3 : ∀ x : CW (fun w' => w' = wq), x.w.cell? ⟨wr.heap.size, 3, .none⟩ = some (.string e.text) := fun x => by rw [x.h]; exact (unhid HP).2.2.2
          simp only [List.take_succ_cons, List.take_zero, List.drop_succ_cons, List.drop_zero]
          repeat (go_big_quiet_step (fail))
          refine wpQuiet_nil ?_
          clear HCx q0 q1 q2 q3 HP HQ c0 c1 c2 c3 hok
          go_wp2_with (go_at_call 138; refine (unhid PUT2).mono ?_; rintro r w2 ⟨rfl, HR2⟩)
          refine ⟨⟨1, by omega, rfl, hid (all_range_snoc (unhid hall) (unhid HY)), HR2⟩, ?_⟩
          show es.length - 1 < es.length - 0
          omega
      · obtain ⟨pv, hpv⟩ : ∃ pv, es[j]? = some pv := ⟨es[j], List.getElem?_eq_getElem (by omega)⟩
        obtain ⟨g0, -, -, -⟩ := (hc j pv hpv).below hB hbl
        have hpf := entFn_get hpv
        have HG : Hid (wq.cell? ⟨b, o + j * 4, .none⟩ = some (.string pv.path)) := by
          have hbw : b < wr.heap.size := Nat.lt_of_lt_of_le hbl hB.size
          refine hid ?_
          rw [unhid HQE]
          exact (((Below.refl wr.heap.size wr).alloc (Nat.le_refl _) _).drew.cell (p := ⟨b, o + j * 4, .none⟩) hbw).trans g0
        have hj1 : (0 : Int) < ((j + 1 : Nat) : Int) := by omega
        cases hls : ltS pv.path e.path
        · have E : Hid (treeB es = false) := hid (unhid HNO (by unfold okI; rw [hf, show (j + 1 - 1) = j from rfl, hpf, hls]; simp))
          have hbl2 : (Op.bytesLess e.path.toList pv.path.toList || e.path.toList == pv.path.toList) = true := by rw [le_not_less, show Op.bytesLess pv.path.toList e.path.toList = false from hls]; rfl
          clear q0 q1 q2 q3 HC0 hc he hf HST hT hB hr hC0 he' g0 hpf hpv hls hno HNO
          go_wp2_with fail
          refine still_tail_at 15 wq (unhid HQE) (by kernel_rfl) (by kernel_rfl) ?_
          clear HQE
          have HCx := @CW.all (fun w' => w' = wq) wq rfl
          have q0 : ∀ x : CW (fun w' => w' = wq), x.w.cell? ⟨wr.heap.size, 0, .none⟩ = some (.string e.path) := fun x => by rw [x.h]; exact (unhid HP).1
          have q1 : ∀ x : CW (fun w' => w' = wq), x.w.cell? ⟨wr.heap.size, 1, .none⟩ = some (.int .i64 e.kind) := fun x => by rw [x.h]; exact (unhid HP).2.1
          have q2 : ∀ x : CW (fun w' => w' = wq), x.w.cell? ⟨wr.heap.size, 2, .none⟩ = some (.int .i64 e.mode) := fun x => by rw [x.h]; exact (unhid HP).2.2.1
          have q3 : ∀ x : CW (fun w' => w' = wq), x.w.cell? ⟨wr.heap.size, 3, .none⟩ = some (.string e.text) := fun x => by rw [x.h]; exact (unhid HP).2.2.2
          have q4 : ∀ x : CW (fun w' => w' = wq), x.w.cell? ⟨b, o + j * 4, .none⟩ = some (.string pv.path) := fun x => by rw [x.h]; exact unhid HG
          simp only [List.take_succ_cons, List.take_zero, List.drop_succ_cons, List.drop_zero]
          repeat (go_big_quiet_step (fail))
          refine wpQuiet_nil ?_
          clear HCx q0 q1 q2 q3 q4 HP HG c0 c1 c2 c3
          obtain ⟨hB5, hr5, -⟩ := unhid HQ
          obtain ⟨d0, d1, e0, e1⟩ := two_cells hr5
          have HR6 := hid hB5
          clear HQ hB5 hr5
          go_wp2_with fail
          refine bodyPost_ret (v := .tuple #[.agg #[.slice .none 0 0, .slice .none 0 0], .bool false]) (by simp [results, Tryz.results81, go_sem, World.cell?_setCell_same', d0, d1]) rfl ⟨_, _, by rw [unhid E], by rw [keptE_no (unhid E)]; exact rowsAt_nil _ _, ((unhid HR6).setCell (Nat.le_refl _) _).setCell (Nat.le_refl _) _⟩
        · have PUT2 := hid (inRow_put (w := w) hlt he' (unhid hall) zp zt (.inr (by show ltS (entFn es j).path e.path = true; rw [hpf]; exact hls)) wq (unhid HQ))
          have hbl2 : (Op.bytesLess e.path.toList pv.path.toList || e.path.toList == pv.path.toList) = false := by rw [le_not_less, show Op.bytesLess pv.path.toList e.path.toList = true from hls]; rfl
          clear q0 q1 q2 q3 HC0 hc he hf HST hT hB hr hC0 he' g0 hpf hpv hls
          cases hok : okI es (j + 1)
          · rw [hok] at PUT2
            have E := hid (unhid HNO hok)
            clear hno HNO hok
            go_wp2_with fail
            refine still_tail_at 15 wq (unhid HQE) (by kernel_rfl) (by kernel_rfl) ?_
            clear HQE
            have HCx := @CW.all (fun w' => w' = wq) wq rfl
            have q0 : ∀ x : CW (fun w' => w' = wq), x.w.cell? ⟨wr.heap.size, 0, .none⟩ = some (.string e.path) := fun x => by rw [x.h]; exact (unhid HP).1
            have q1 : ∀ x : CW (fun w' => w' = wq), x.w.cell? ⟨wr.heap.size, 1, .none⟩ = some (.int .i64 e.kind) := fun x => by rw [x.h]; exact (unhid HP).2.1
            have q2 : ∀ x : CW (fun w' => w' = wq), x.w.cell? ⟨wr.heap.size, 2, .none⟩ = some (.int .i64 e.mode) := fun x => by rw [x.h]; exact (unhid HP).2.2.1
            have q3 : ∀ x : CW (fun w' => w' = wq), x.w.cell? ⟨wr.heap.size, 3, .none⟩ = some (.string e.text) := fun x => by rw [x.h]; exact (unhid HP).2.2.2
            have q4 : ∀ x : CW (fun w' => w' = wq), x.w.cell? ⟨b, o + j * 4, .none⟩ = some (.string pv.path) := fun x => by rw [x.h]; exact unhid HG
            simp only [List.take_succ_cons, List.take_zero, List.drop_succ_cons, List.drop_zero]
            repeat (go_big_quiet_step (fail))
            refine wpQuiet_nil ?_
            clear HCx q0 q1 q2 q3 q4 HP HQ HG c0 c1 c2 c3
            go_wp2_with (go_at_call 138; refine (unhid PUT2).mono ?_; rintro r w2 ⟨rfl, HR2⟩; obtain ⟨hB5, hr5, -⟩ := unhid HR2; obtain ⟨d0, d1, e0, e1⟩ := two_cells hr5; have HR6 := hid hB5; clear HR2 hB5 hr5)
            refine bodyPost_ret (v := .tuple #[.agg #[.slice .none 0 0, .slice .none 0 0], .bool false]) (by simp [results, Tryz.results81, go_sem, World.cell?_setCell_same', d0, d1]) rfl ⟨_, _, by rw [unhid E], by rw [keptE_no (unhid E)]; exact rowsAt_nil _ _, ((unhid HR6).setCell (Nat.le_refl _) _).setCell (Nat.le_refl _) _⟩
          · rw [hok, nextK_yes hok] at PUT2
            have HY := hid hok
            clear hno HNO hok
            go_wp2_with fail
            refine still_tail_at 15 wq (unhid HQE) (by kernel_rfl) (by kernel_rfl) ?_
            clear HQE
            have HCx := @CW.all (fun w' => w' = wq) wq rfl
            have q0 : ∀ x : CW (fun w' => w' = wq), x.w.cell? ⟨wr.heap.size, 0, .none⟩ = some (.string e.path) := fun x => by rw [x.h]; exact (unhid HP).1
            have q1 : ∀ x : CW (fun w' => w' = wq), x.w.cell? ⟨wr.heap.size, 1, .none⟩ = some (.int .i64 e.kind) := fun x => by rw [x.h]; exact (unhid HP).2.1
            have q2 : ∀ x : CW (fun w' => w' = wq), x.w.cell? ⟨wr.heap.size, 2, .none⟩ = some (.int .i64 e.mode) := fun x => by rw [x.h]; exact (unhid HP).2.2.1
            have q3 : ∀ x : CW (fun w' => w' = wq), x.w.cell? ⟨wr.heap.size, 3, .none⟩ = some (.string e.text) := fun x => by rw [x.h]; exact (unhid HP).2.2.2
            have q4 : ∀ x : CW (fun w' => w' = wq), x.w.cell? ⟨b, o + j * 4, .none⟩ = some (.string pv.path) := fun x => by rw [x.h]; exact unhid HG
            simp only [List.take_succ_cons, List.take_zero, List.drop_succ_cons, List.drop_zero]
            repeat (go_big_quiet_step (fail))
            refine wpQuiet_nil ?_
            clear HCx q0 q1 q2 q3 q4 HP HQ HG c0 c1 c2 c3
            go_wp2_with (go_at_call 138; refine (unhid PUT2).mono ?_; rintro r w2 ⟨rfl, HR2⟩)
            refine ⟨⟨j + 2, by omega, by rw [show ((j + 2 : Nat) : Int) = (j : Int) + 1 + 1 by omega], hid (all_range_snoc (unhid hall) (unhid HY)), HR2⟩, ?_⟩
            show es.length - ((j : Int) + 1 + 1).toNat < es.length - (((j + 1 : Nat) : Int)).toNat
            omega
    · have hke : k = es.length := by omega
      obtain ⟨hB, hr, vp, vn, t1, t2, t3⟩ := unhid HST
      rw [hke, List.take_of_length_le (Nat.le_refl _)] at t2 t3
      have hok : treeB es = true := by rw [unhid ET, ← hke]; exact unhid hall
      obtain ⟨c0, c1, f0, f1⟩ := two_cells t1
      obtain ⟨d0, d1, e0, e1⟩ := two_cells hr
      have r1 := hid (row_ne t2 hr (by decide))
      have r2 := hid (row_ne t3 hr (by decide))
      obtain ⟨ap, cp, rfl⟩ := ownsRow_slice t2
      obtain ⟨an, cn, rfl⟩ := ownsRow_slice t3
      have HE := hid hB
      have HROWS := hid (And.intro t2 t3)
      have HOK := hid hok
      clear hB t1 t2 t3 hr hok HST
      go_wp2_with fail
      refine bodyPost_ret (v := .tuple #[.agg #[.slice ap es.length cp, .slice an es.length cn], .bool true]) (by simp [results, Tryz.results81, go_sem, World.cell?_setCell_same', d0, d1]) rfl ⟨_, _, by rw [unhid HOK], ?_, ((unhid HE).setCell (Nat.le_refl _) _).setCell (Nat.le_refl _) _⟩
      rw [keptE_yes (unhid HOK)]
      refine ⟨ownsRow_kept (unhid HROWS).1 (fun g hg => ?_), ownsRow_kept (unhid HROWS).2 (fun g hg => ?_)⟩
      · have hne : g ≠ w.heap.size := fun eq => unhid r1 (by rw [hg, eq])
        rw [Below.heap_setCell _ _ _ _ hne, Below.heap_setCell _ _ _ _ hne]
      · have hne : g ≠ w.heap.size := fun eq => unhid r2 (by rw [hg, eq])
        rw [Below.heap_setCell _ _ _ _ hne, Below.heap_setCell _ _ _ _ hne]
end Go.Proofs.YtoihhlkidlapmaaGreat

namespace Go.Proofs.YtoihhlkidlapmaaGreat
open Go.RowKit Go.Shelf
set_option maxRecDepth 100000 in
set_option maxHeartbeats 2000000 in
theorem treeOkP_any (es : List Ent) (a : Option Addr) (cap : Nat) (w : World) (hs : smallE es) (h : EntsAt w a es) :
    Calls Tryz.prog 46 #[.slice a es.length cap] w fun x w' => x = .returned (.bool (treeB es)) ∧ Below w.heap.size w w' := by
  have H := hid (treeOf_any es a cap w hs h)
  clear hs h
  go_enter Tryz.func46, Tryz.ntmps46
  go_wp2_with (go_at_call 81; refine (unhid H).mono ?_; rintro x w1 ⟨vp, vn, rfl, ⟨t2, t3⟩, hB⟩; obtain ⟨ap, cp, rfl⟩ := ownsRow_slice t2; obtain ⟨an, cn, rfl⟩ := ownsRow_slice t3; clear t2 t3)
  go_ret
  exact ⟨rfl, hB.alloc hB.size _⟩
end Go.Proofs.YtoihhlkidlapmaaGreat
