/- The library's Insert at a row's end. -/
import Derived.Test.YtlnehebihfeegaaSearch
namespace Go.Proofs.Ytlnehebihfeegaa
open Go.RowKit Go.Shelf

theorem infoNode : (Try.prog.info? 63).map (fun i => (i.zero, i.size, i.bytes)) = some (some .nilIface, 1, 16) := by kernel_rfl
theorem ownsRow_sh {W : World} {base : Nat} {e : TypeId} {size : Nat} {v : Value} {n : Nat} {xs : List Value} (h : W.ownsRow base e size v n xs) : (v = .slice .none 0 0 ∧ n = 0) ∨ ∃ g cap, v = .slice (some ⟨g, 0, .none⟩) n cap ∧ n ≤ cap := by
  rcases h.2 with h | ⟨g, cap, cur, rfl, _, _, hc, _⟩
  · exact .inl h
  · exact .inr ⟨_, _, rfl, hc⟩
theorem nodeV_one (e : Ent) : (nodeV e).oneCell' = true := by
  unfold nodeV; split
  · rfl
  · split <;> rfl

set_option maxRecDepth 100000 in
set_option maxHeartbeats 4000000 in
theorem InsertS_end (N : Nat) (v : Value) (n : Nat) (xs : List Value) (b : Nat) (p : ByteArray) (w : World) (hn : n ≤ 1000) (hN : N ≤ w.heap.size) (h : w.ownsRow N 9 1 v n xs) (hb : w.cell? ⟨b, 0, .none⟩ = some (.string p)) :
    Calls Try.prog 84 #[v, .int .i64 n, .slice (some ⟨b, 0, .none⟩) 1 1] w fun x w' => ∃ v', x = .returned v' ∧ w'.ownsRow N 9 1 v' (n + 1) (xs ++ [.string p]) ∧ w.grownBy w' v.ownBlock := by
  obtain ⟨i0, hi, hz0, hz1, hz2⟩ := info_parts info9
  have H := hid h
  have hnew : ∀ (j : Nat) u, [.string p][j]? = some u → w.cell? ((⟨b, 0, .none⟩ : Addr).add j) = some u := fun j u hj => by
    match j with
    | 0 => simp at hj; subst hj; exact hb
    | j + 1 => simp at hj
  have HN := hid hnew
  clear hnew
  rcases ownsRow_sh h with ⟨rfl, rfl⟩ | ⟨g, cap, rfl, hc⟩
  · clear h
    go_enter Try.func84, Try.ntmps84
    go_wp2_with (at_builtin; refine wpList_append_own _ rfl _ _ 54 rfl N 9 i0 (.string ⟨#[]⟩) 1 16 Try.underlying54 hi hz0 hz1 hz2 rfl (by decide) _ _ _ rfl (unhid H) ⟨b, 0, .none⟩ 1 1 [.string p] rfl rfl (unhid HN) ?c2 ?c3 ?c4 ?c5 ?_)
    case c2 => intro u hu; simp at hu; subst hu; rfl
    case c3 => unfold maxLen; omega
    case c4 => omega
    case c5 => exact hN
    intro v' w1 hown hgrow _
    have HH := hid (And.intro hown hgrow)
    clear hown hgrow
    go_wp2_with fail
    go_ret
    exact ⟨_, rfl, (unhid HH).1, (unhid HH).2⟩
  · clear h
    by_cases hcn : cap = n
    · subst hcn
      go_enter Try.func84, Try.ntmps84
      go_wp2_with (at_builtin; refine wpList_append_own _ rfl _ _ 54 rfl N 9 i0 (.string ⟨#[]⟩) 1 16 Try.underlying54 hi hz0 hz1 hz2 rfl (by decide) _ _ _ rfl (unhid H) ⟨b, 0, .none⟩ 1 1 [.string p] rfl rfl (unhid HN) ?c2 ?c3 ?c4 ?c5 ?_)
      case c2 => intro u hu; simp at hu; subst hu; rfl
      case c3 => unfold maxLen; omega
      case c4 => omega
      case c5 => exact hN
      intro v' w1 hown hgrow _
      have HH := hid (And.intro hown hgrow)
      clear hown hgrow
      go_wp2_with fail
      go_ret
      exact ⟨_, rfl, (unhid HH).1, (unhid HH).2⟩
    · have hcn' : ¬ n = cap := fun e => hcn e.symm
      go_enter Try.func84, Try.ntmps84
      go_wp2_with (at_builtin; refine wpList_append_own _ rfl _ _ 54 rfl N 9 i0 (.string ⟨#[]⟩) 1 16 Try.underlying54 hi hz0 hz1 hz2 rfl (by decide) _ _ _ rfl (unhid H) ⟨b, 0, .none⟩ 1 1 [.string p] rfl rfl (unhid HN) ?c2 ?c3 ?c4 ?c5 ?_)
      case c2 => intro u hu; simp at hu; subst hu; rfl
      case c3 => unfold maxLen; omega
      case c4 => omega
      case c5 => exact hN
      intro v' w1 hown hgrow _
      have HH := hid (And.intro hown hgrow)
      clear hown hgrow
      go_wp2_with fail
      go_ret
      exact ⟨_, rfl, (unhid HH).1, (unhid HH).2⟩

set_option maxRecDepth 100000 in
set_option maxHeartbeats 4000000 in
theorem InsertN_end (N : Nat) (v : Value) (n : Nat) (xs : List Value) (b : Nat) (e : Ent) (w : World) (hn : n ≤ 1000) (hN : N ≤ w.heap.size) (h : w.ownsRow N 63 1 v n xs) (hb : w.cell? ⟨b, 0, .none⟩ = some (nodeV e)) :
    Calls Try.prog 85 #[v, .int .i64 n, .slice (some ⟨b, 0, .none⟩) 1 1] w fun x w' => ∃ v', x = .returned v' ∧ w'.ownsRow N 63 1 v' (n + 1) (xs ++ [nodeV e]) ∧ w.grownBy w' v.ownBlock := by
  obtain ⟨i0, hi, hz0, hz1, hz2⟩ := info_parts infoNode
  have H := hid h
  have hnew : ∀ (j : Nat) u, [nodeV e][j]? = some u → w.cell? ((⟨b, 0, .none⟩ : Addr).add j) = some u := fun j u hj => by
    match j with
    | 0 => simp at hj; subst hj; exact hb
    | j + 1 => simp at hj
  have HN := hid hnew
  clear hnew
  rcases ownsRow_sh h with ⟨rfl, rfl⟩ | ⟨g, cap, rfl, hc⟩
  · clear h
    go_enter Try.func85, Try.ntmps85
    go_wp2_with (at_builtin; refine wpList_append_own _ rfl _ _ 55 rfl N 63 i0 (.nilIface) 1 16 Try.underlying55 hi hz0 hz1 hz2 rfl (by decide) _ _ _ rfl (unhid H) ⟨b, 0, .none⟩ 1 1 [nodeV e] rfl rfl (unhid HN) ?c2 ?c3 ?c4 ?c5 ?_)
    case c2 => intro u hu; simp at hu; subst hu; exact nodeV_one e
    case c3 => unfold maxLen; omega
    case c4 => omega
    case c5 => exact hN
    intro v' w1 hown hgrow _
    have HH := hid (And.intro hown hgrow)
    clear hown hgrow
    go_wp2_with fail
    go_ret
    exact ⟨_, rfl, (unhid HH).1, (unhid HH).2⟩
  · clear h
    by_cases hcn : cap = n
    · subst hcn
      go_enter Try.func85, Try.ntmps85
      go_wp2_with (at_builtin; refine wpList_append_own _ rfl _ _ 55 rfl N 63 i0 (.nilIface) 1 16 Try.underlying55 hi hz0 hz1 hz2 rfl (by decide) _ _ _ rfl (unhid H) ⟨b, 0, .none⟩ 1 1 [nodeV e] rfl rfl (unhid HN) ?c2 ?c3 ?c4 ?c5 ?_)
      case c2 => intro u hu; simp at hu; subst hu; exact nodeV_one e
      case c3 => unfold maxLen; omega
      case c4 => omega
      case c5 => exact hN
      intro v' w1 hown hgrow _
      have HH := hid (And.intro hown hgrow)
      clear hown hgrow
      go_wp2_with fail
      go_ret
      exact ⟨_, rfl, (unhid HH).1, (unhid HH).2⟩
    · have hcn' : ¬ n = cap := fun e => hcn e.symm
      go_enter Try.func85, Try.ntmps85
      go_wp2_with (at_builtin; refine wpList_append_own _ rfl _ _ 55 rfl N 63 i0 (.nilIface) 1 16 Try.underlying55 hi hz0 hz1 hz2 rfl (by decide) _ _ _ rfl (unhid H) ⟨b, 0, .none⟩ 1 1 [nodeV e] rfl rfl (unhid HN) ?c2 ?c3 ?c4 ?c5 ?_)
      case c2 => intro u hu; simp at hu; subst hu; exact nodeV_one e
      case c3 => unfold maxLen; omega
      case c4 => omega
      case c5 => exact hN
      intro v' w1 hown hgrow _
      have HH := hid (And.intro hown hgrow)
      clear hown hgrow
      go_wp2_with fail
      go_ret
      exact ⟨_, rfl, (unhid HH).1, (unhid HH).2⟩

end Go.Proofs.Ytlnehebihfeegaa
