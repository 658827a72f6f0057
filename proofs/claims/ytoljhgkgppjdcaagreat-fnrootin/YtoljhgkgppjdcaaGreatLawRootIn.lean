/- A pack that was put in is in as a whole, or not at all; taken out again all is as it was. -/
import Derived.Test.YtoljhgkgppjdcaaGreatJoin16
namespace Go.Proofs.YtoljhgkgppjdcaaGreat
open Go.ChangeShapes Go.WideShapes Go.ChangeAt Go.RowKit Go.Shelf

set_option maxRecDepth 100000 in
set_option maxHeartbeats 16000000 in
theorem walk_FnRootIn (a0 : Option Addr) (len0 cap0 : Nat) (w : World) (h0 : Code w w.heap.size a0 len0) (hc0 : len0 ≤ cap0) :
    Calls Tryz.prog 4 #[.slice a0 len0 cap0] w fun e w' => e = .returned (.bool true) ∧ Below w.heap.size w w' := by
  have H0 := hid h0
  clear h0
  by_cases hl0 : (1048576 : Int) < len0
  · go_enter Tryz.func4, Tryz.ntmps4
    go_wp2_with fail
    go_ret
    exact ⟨rfl, Below.refl _ _⟩
  go_enter Tryz.func4, Tryz.ntmps4
  have K := hid (KW.start w)
  go_wp2_with fail
  refine (DrawRootIn_any w a0 len0 cap0 (code_on (unhid H0) ((unhid K).now)) (by omega) hc0).mono ?_
  rintro e W1 ⟨v, ps, cs, pk, rfl, hD, hat, hP, hb⟩
  obtain ⟨ra, rc, rfl, hr⟩ := dr_rr hD
  have hp : PR W1 cs.toList pk := ⟨hat, hP.small⟩
  obtain ⟨p0, p1, p2, p3, hcs⟩ := hp.cells
  obtain rfl : cs = #[.string (PackD.name pk), .string (PackD.version pk), .slice p0 (PackD.needs pk).length p1, .slice p2 (PackD.tree pk).length p3] := by apply Array.ext'; exact hcs
  have K := hid ((unhid K).step hb)
  have K := hid ((unhid K).row hr)
  have K := hid ((unhid K).pack hp)
  have Dr := hid (And.intro hD.ok hP)
  clear hb hr hp hD hat hP hcs
  obtain ⟨Xx, HXx⟩ : ∃ X, Hid (rootInP ⟨ps⟩ pk = X) := ⟨_, hid rfl⟩
  obtain ⟨kx, Hkx⟩ : ∃ k, Hid (rootInC ⟨ps⟩ pk = k) := ⟨_, hid rfl⟩
  go_wp2_with fail
  obtain ⟨hx0, hx1, -⟩ := two_boxes W1 (.cells #[.slice ra ps.length rc] 25) (.cells #[.string (PackD.name pk), .string (PackD.version pk), .slice p0 (PackD.needs pk).length p1, .slice p2 (PackD.tree pk).length p3] 37)
  have hb := alloc2_below W1 (.cells #[.slice ra ps.length rc] 25) (.cells #[.string (PackD.name pk), .string (PackD.version pk), .slice p0 (PackD.needs pk).length p1, .slice p2 (PackD.tree pk).length p3] 37)
  generalize ((W1.alloc (.cells #[.slice ra ps.length rc] 25)).alloc (.cells #[.string (PackD.name pk), .string (PackD.version pk), .slice p0 (PackD.needs pk).length p1, .slice p2 (PackD.tree pk).length p3] 37)) = W2 at hx0 hx1 hb ⊢
  have K := hid ((unhid K).step hb)
  have K := hid ((unhid K).box hx0)
  have K := hid ((unhid K).box hx1)
  clear hb hx0 hx1
  refine ((implIn_r ((unhid K).now.1.1.1.2) ((unhid K).now.1.1.2)).mono (fun _ _ h => turned_in (unhid HXx) (unhid Hkx) h)).mono ?_
  rintro e W3 ⟨xa, xc, rfl, hr, hb⟩
  have K := hid ((unhid K).step hb)
  clear hb
  have K := hid ((unhid K).row hr)
  clear hr
  have Brk0 := fun x => Go.Lib.cell?_alloc_some x (cell_arrS ((unhid K).now.1.1.2) 0 _ rfl)
  have Bpk0 := fun x => Go.Lib.cell?_alloc_some x (cell_arrS ((unhid K).now.1.2) 0 _ rfl)
  have Bpk1 := fun x => Go.Lib.cell?_alloc_some x (cell_arrS ((unhid K).now.1.2) 1 _ rfl)
  have Bpk2 := fun x => Go.Lib.cell?_alloc_some x (cell_arrS ((unhid K).now.1.2) 2 _ rfl)
  have Bpk3 := fun x => Go.Lib.cell?_alloc_some x (cell_arrS ((unhid K).now.1.2) 3 _ rfl)
  go_wp2_with fail
  clear Brk0 Bpk0 Bpk1 Bpk2 Bpk3
  have hx0 := World.alloc_heap_new W3 (.cells #[.slice xa Xx.length xc] 25)
  have hb := (Below.refl W3.heap.size W3).alloc (Nat.le_refl _) (.cells #[.slice xa Xx.length xc] 25)
  generalize (W3.alloc (.cells #[.slice xa Xx.length xc] 25)) = W4 at hx0 hb ⊢
  have K := hid ((unhid K).step hb)
  have K := hid ((unhid K).box hx0)
  clear hb hx0
  refine ((specIn_r ((unhid K).now.1.1.1.1.1.2) ((unhid K).now.1.1.1.1.2)).mono (fun _ _ h => turned_in (unhid HXx) (unhid Hkx) h)).mono ?_
  rintro e W5 ⟨ya, yc, rfl, hr, hb⟩
  have K := hid ((unhid K).step hb)
  clear hb
  have K := hid ((unhid K).row hr)
  clear hr
  have e1 := int_ne_self kx
  have e2 := int_eq_self kx
  have Brk0 := fun x => Go.Lib.cell?_alloc_some x (cell_arrS ((unhid K).now.1.1.1.1.2) 0 _ rfl)
  have Bpk0 := fun x => Go.Lib.cell?_alloc_some x (cell_arrS ((unhid K).now.1.1.1.2) 0 _ rfl)
  have Bpk1 := fun x => Go.Lib.cell?_alloc_some x (cell_arrS ((unhid K).now.1.1.1.2) 1 _ rfl)
  have Bpk2 := fun x => Go.Lib.cell?_alloc_some x (cell_arrS ((unhid K).now.1.1.1.2) 2 _ rfl)
  have Bpk3 := fun x => Go.Lib.cell?_alloc_some x (cell_arrS ((unhid K).now.1.1.1.2) 3 _ rfl)
  have Bxk0 := fun x => Go.Lib.cell?_alloc_some x (cell_arrS ((unhid K).now.1.2) 0 _ rfl)
  go_wp2_with fail
  clear Brk0 Bpk0 Bpk1 Bpk2 Bpk3 Bxk0
  have hx0 := World.alloc_heap_new W5 (.cells #[.slice ya Xx.length yc] 25)
  have hb := (Below.refl W5.heap.size W5).alloc (Nat.le_refl _) (.cells #[.slice ya Xx.length yc] 25)
  generalize (W5.alloc (.cells #[.slice ya Xx.length yc] 25)) = W6 at hx0 hb ⊢
  have K := hid ((unhid K).step hb)
  have K := hid ((unhid K).box hx0)
  clear hb hx0
  refine (jsRoot_r ((unhid K).now.1.1.1.2) ((unhid K).now.1.2)).mono ?_
  rintro e W7 ⟨rfl, hb⟩
  have K := hid ((unhid K).step hb)
  clear hb
  have Brk0 := cell_arrS ((unhid K).now.1.1.1.1.1.2) 0 _ rfl
  have Bpk0 := cell_arrS ((unhid K).now.1.1.1.1.2) 0 _ rfl
  have Bpk1 := cell_arrS ((unhid K).now.1.1.1.1.2) 1 _ rfl
  have Bpk2 := cell_arrS ((unhid K).now.1.1.1.1.2) 2 _ rfl
  have Bpk3 := cell_arrS ((unhid K).now.1.1.1.1.2) 3 _ rfl
  have Bxk0 := cell_arrS ((unhid K).now.1.1.2) 0 _ rfl
  have Byk0 := cell_arrS ((unhid K).now.2) 0 _ rfl
  go_wp2_with fail
  clear Brk0 Bpk0 Bpk1 Bpk2 Bpk3 Bxk0 Byk0
  refine (specOk_r ((unhid K).now.1.1.1.1.1.1.1.2)).mono ?_
  rintro e W8 ⟨rfl, hb⟩
  have K := hid ((unhid K).step hb)
  clear hb
  cases hok : rootOk_0 ⟨ps⟩
  case false =>
    have Brk0 := cell_arrS ((unhid K).now.1.1.1.1.1.2) 0 _ rfl
    have Bpk0 := cell_arrS ((unhid K).now.1.1.1.1.2) 0 _ rfl
    have Bpk1 := cell_arrS ((unhid K).now.1.1.1.1.2) 1 _ rfl
    have Bpk2 := cell_arrS ((unhid K).now.1.1.1.1.2) 2 _ rfl
    have Bpk3 := cell_arrS ((unhid K).now.1.1.1.1.2) 3 _ rfl
    have Bxk0 := cell_arrS ((unhid K).now.1.1.2) 0 _ rfl
    have Byk0 := cell_arrS ((unhid K).now.2) 0 _ rfl
    go_wp2_with fail
    clear Brk0 Bpk0 Bpk1 Bpk2 Bpk3 Bxk0 Byk0
    refine (jsRoot_r ((unhid K).now.1.1.1.2) ((unhid K).now.1.2)).mono ?_
    rintro e W9 ⟨rfl, hb⟩
    have K := hid ((unhid K).step hb)
    clear hb
    have Brk0 := cell_arrS ((unhid K).now.1.1.1.1.1.2) 0 _ rfl
    have Bpk0 := cell_arrS ((unhid K).now.1.1.1.1.2) 0 _ rfl
    have Bpk1 := cell_arrS ((unhid K).now.1.1.1.1.2) 1 _ rfl
    have Bpk2 := cell_arrS ((unhid K).now.1.1.1.1.2) 2 _ rfl
    have Bpk3 := cell_arrS ((unhid K).now.1.1.1.1.2) 3 _ rfl
    have Bxk0 := cell_arrS ((unhid K).now.1.1.2) 0 _ rfl
    have Byk0 := cell_arrS ((unhid K).now.2) 0 _ rfl
    go_wp2_with fail
    clear Brk0 Bpk0 Bpk1 Bpk2 Bpk3 Bxk0 Byk0
    go_ret
    exact ⟨rfl, (unhid K).now.1.1.1.1.1.1.1.1⟩
  case true =>
    have HOK := hid hok
    by_cases h1 : kx = 0
    · subst h1
      have HF := hid (put_law (unhid HXx) (unhid Hkx))
      clear hok
      have Brk0 := cell_arrS ((unhid K).now.1.1.1.1.1.2) 0 _ rfl
      have Bpk0 := cell_arrS ((unhid K).now.1.1.1.1.2) 0 _ rfl
      have Bpk1 := cell_arrS ((unhid K).now.1.1.1.1.2) 1 _ rfl
      have Bpk2 := cell_arrS ((unhid K).now.1.1.1.1.2) 2 _ rfl
      have Bpk3 := cell_arrS ((unhid K).now.1.1.1.1.2) 3 _ rfl
      have Bxk0 := cell_arrS ((unhid K).now.1.1.2) 0 _ rfl
      have Byk0 := cell_arrS ((unhid K).now.2) 0 _ rfl
      go_wp2_with fail
      clear Brk0 Bpk0 Bpk1 Bpk2 Bpk3 Bxk0 Byk0
      refine (tree_r ((unhid K).now.1.1.1.2)).mono ?_
      rintro e W10 ⟨ta, tc, rfl, hr, hb⟩
      have K := hid ((unhid K).step hb)
      clear hb
      have K := hid ((unhid K).ents hr)
      clear hr
      have K := hid ((unhid K).mark)
      have Brk0 := cell_arrS ((unhid K).now.1.1.1.1.1.1.1.2) 0 _ rfl
      have Bpk0 := cell_arrS ((unhid K).now.1.1.1.1.1.1.2) 0 _ rfl
      have Bpk1 := cell_arrS ((unhid K).now.1.1.1.1.1.1.2) 1 _ rfl
      have Bpk2 := cell_arrS ((unhid K).now.1.1.1.1.1.1.2) 2 _ rfl
      have Bpk3 := cell_arrS ((unhid K).now.1.1.1.1.1.1.2) 3 _ rfl
      have Bxk0 := cell_arrS ((unhid K).now.1.1.1.1.2) 0 _ rfl
      have Byk0 := cell_arrS ((unhid K).now.1.1.2) 0 _ rfl
      go_wp2_with fail
      clear Brk0 Bpk0 Bpk1 Bpk2 Bpk3 Bxk0 Byk0
      go_loopw [10] (fun i wr => ∃ k : Nat, k ≤ (treeOfP pk).length ∧ i = .int .i64 (k : Int) ∧ Hid (Below W10.heap.size W10 wr)) (fun i _ => (treeOfP pk).length - (intOf i).toNat)
      case atStart => exact ⟨0, Nat.zero_le _, rfl, hid (Below.refl _ _)⟩
      case round =>
        obtain ⟨k, hk, rfl, HBr⟩ := hrel
        have hb := unhid HBr
        have K := hid ((unhid K).step hb)
        clear hb HBr
        have hpl := (PR.tree ((unhid K).now.1.1.1.1.1.1.1.1.2)).2
        have htl : (treeOfP pk).length ≤ 1048576 := ((unhid K).now.1.1.1.1.1.1.1.1.2).small.tree.1
        by_cases hlt : k < (treeOfP pk).length
        · have hne0 : treeOfP pk ≠ [] := by intro e; rw [e] at hlt; simp at hlt
          obtain ⟨e, he⟩ : ∃ e, (treeOfP pk)[k]? = some e := ⟨(treeOfP pk)[k], List.getElem?_eq_getElem hlt⟩
          have HEI := hid ((unhid HF).1 e (List.mem_of_getElem? he))
          have hlt2 : k < (PackD.tree pk).length := by omega
          obtain ⟨b, o, hp2, hbl, hc⟩ := (PR.tree ((unhid K).now.1.1.1.1.1.1.1.1.2)).1.get hne0
          have hce := hc k e he
          subst hp2
          have K := hid ((unhid K).ent hbl hce)
          obtain ⟨c0, c1, c2, c3⟩ := hce
          clear hc he hne0 hbl
          have Brk0 := cell_arrS ((unhid K).now.1.1.1.1.1.1.1.1.2) 0 _ rfl
          have Bpk0 := cell_arrS ((unhid K).now.1.1.1.1.1.1.1.2) 0 _ rfl
          have Bpk1 := cell_arrS ((unhid K).now.1.1.1.1.1.1.1.2) 1 _ rfl
          have Bpk2 := cell_arrS ((unhid K).now.1.1.1.1.1.1.1.2) 2 _ rfl
          have Bpk3 := cell_arrS ((unhid K).now.1.1.1.1.1.1.1.2) 3 _ rfl
          have Bxk0 := cell_arrS ((unhid K).now.1.1.1.1.1.2) 0 _ rfl
          have Byk0 := cell_arrS ((unhid K).now.1.1.1.2) 0 _ rfl
          go_wp2_with fail
          clear Brk0 Bpk0 Bpk1 Bpk2 Bpk3 Bxk0 Byk0
          clear c0 c1 c2 c3
          refine (get_r e.path ((unhid K).now.1.1.2) (unhid HEI).1 (unhid HEI).2).mono ?_
          rintro e W11 ⟨rfl, hb⟩
          have K := hid ((unhid K).step hb)
          clear hb
          have Brk0 := fun x => Go.Lib.cell?_alloc_some x (cell_arrS ((unhid K).now.1.1.1.1.1.1.1.1.2) 0 _ rfl)
          have Bpk0 := fun x => Go.Lib.cell?_alloc_some x (cell_arrS ((unhid K).now.1.1.1.1.1.1.1.2) 0 _ rfl)
          have Bpk1 := fun x => Go.Lib.cell?_alloc_some x (cell_arrS ((unhid K).now.1.1.1.1.1.1.1.2) 1 _ rfl)
          have Bpk2 := fun x => Go.Lib.cell?_alloc_some x (cell_arrS ((unhid K).now.1.1.1.1.1.1.1.2) 2 _ rfl)
          have Bpk3 := fun x => Go.Lib.cell?_alloc_some x (cell_arrS ((unhid K).now.1.1.1.1.1.1.1.2) 3 _ rfl)
          have Bxk0 := fun x => Go.Lib.cell?_alloc_some x (cell_arrS ((unhid K).now.1.1.1.1.1.2) 0 _ rfl)
          have Byk0 := fun x => Go.Lib.cell?_alloc_some x (cell_arrS ((unhid K).now.1.1.1.2) 0 _ rfl)
          obtain ⟨c0, c1, c2, c3⟩ := ((unhid K).now.2).2
          have d0 := fun x => Go.Lib.cell?_alloc_some x c0
          have d1 := fun x => Go.Lib.cell?_alloc_some x c1
          have d2 := fun x => Go.Lib.cell?_alloc_some x c2
          have d3 := fun x => Go.Lib.cell?_alloc_some x c3
          have hne := fun w => ne_ents e e w
          rw [eqV_self] at hne
          unfold Ent.vals at hne
          clear c0 c1 c2 c3
          go_wp2_with fail
          clear d0 d1 d2 d3 Brk0 Bpk0 Bpk1 Bpk2 Bpk3 Bxk0 Byk0
          have hx0 := World.alloc_heap_new W11 (.cells #[.string e.path, .int .i64 e.kind, .int .i64 e.mode, .string e.text] 32)
          have hb := (Below.refl W11.heap.size W11).alloc (Nat.le_refl _) (.cells #[.string e.path, .int .i64 e.kind, .int .i64 e.mode, .string e.text] 32)
          generalize (W11.alloc (.cells #[.string e.path, .int .i64 e.kind, .int .i64 e.mode, .string e.text] 32)) = W12 at hx0 hb ⊢
          have K := hid ((unhid K).step hb)
          have K := hid ((unhid K).box hx0)
          clear hb hx0
          have Brk0 := cell_arrS ((unhid K).now.1.1.1.1.1.1.1.1.1.2) 0 _ rfl
          have Bpk0 := cell_arrS ((unhid K).now.1.1.1.1.1.1.1.1.2) 0 _ rfl
          have Bpk1 := cell_arrS ((unhid K).now.1.1.1.1.1.1.1.1.2) 1 _ rfl
          have Bpk2 := cell_arrS ((unhid K).now.1.1.1.1.1.1.1.1.2) 2 _ rfl
          have Bpk3 := cell_arrS ((unhid K).now.1.1.1.1.1.1.1.1.2) 3 _ rfl
          have Bxk0 := cell_arrS ((unhid K).now.1.1.1.1.1.1.2) 0 _ rfl
          have Byk0 := cell_arrS ((unhid K).now.1.1.1.1.2) 0 _ rfl
          have Bek0 := cell_arrS ((unhid K).now.2) 0 _ rfl
          have Bek1 := cell_arrS ((unhid K).now.2) 1 _ rfl
          have Bek2 := cell_arrS ((unhid K).now.2) 2 _ rfl
          have Bek3 := cell_arrS ((unhid K).now.2) 3 _ rfl
          obtain ⟨c0, c1, c2, c3⟩ := ((unhid K).now.1.2).2
          go_quiet (fail)
          go_wp2_with fail
          go_roundw
          case rel => exact ⟨k + 1, by omega, by go_num, hid (((unhid K).now.1.1.2).trans (drewN_below _ _))⟩
          case measure => simp [intOf]; omega
        · have hlt2 : ¬ k < (PackD.tree pk).length := by omega
          clear hlt hk
          have Brk0 := cell_arrS ((unhid K).now.1.1.1.1.1.1.1.2) 0 _ rfl
          have Bpk0 := cell_arrS ((unhid K).now.1.1.1.1.1.1.2) 0 _ rfl
          have Bpk1 := cell_arrS ((unhid K).now.1.1.1.1.1.1.2) 1 _ rfl
          have Bpk2 := cell_arrS ((unhid K).now.1.1.1.1.1.1.2) 2 _ rfl
          have Bpk3 := cell_arrS ((unhid K).now.1.1.1.1.1.1.2) 3 _ rfl
          have Bxk0 := cell_arrS ((unhid K).now.1.1.1.1.2) 0 _ rfl
          have Byk0 := cell_arrS ((unhid K).now.1.1.2) 0 _ rfl
          go_wp2_with fail
          clear Brk0 Bpk0 Bpk1 Bpk2 Bpk3 Bxk0 Byk0
          refine (out_r ((unhid K).now.1.1.1.1.1.2) (unhid HF).2.2.1 (unhid HF).2.1 ((unhid K).now.1.1.1.1.1.1.1.1.1.2).small ((unhid K).now.1.1.1.1.1.1.1.1.1.2).few).mono ?_
          rintro e W13 ⟨za, zc, rfl, hr, hb⟩
          have K := hid ((unhid K).step hb)
          clear hb
          have K := hid ((unhid K).row hr)
          clear hr
          obtain ⟨Xv, HXv⟩ : ∃ X, Hid (rootInP ⟨Xx⟩ pk = X) := ⟨_, hid rfl⟩
          have Brk0 := fun x => Go.Lib.cell?_alloc_some x (cell_arrS ((unhid K).now.1.1.1.1.1.1.1.1.2) 0 _ rfl)
          have Bpk0 := fun x => Go.Lib.cell?_alloc_some x (cell_arrS ((unhid K).now.1.1.1.1.1.1.1.2) 0 _ rfl)
          have Bpk1 := fun x => Go.Lib.cell?_alloc_some x (cell_arrS ((unhid K).now.1.1.1.1.1.1.1.2) 1 _ rfl)
          have Bpk2 := fun x => Go.Lib.cell?_alloc_some x (cell_arrS ((unhid K).now.1.1.1.1.1.1.1.2) 2 _ rfl)
          have Bpk3 := fun x => Go.Lib.cell?_alloc_some x (cell_arrS ((unhid K).now.1.1.1.1.1.1.1.2) 3 _ rfl)
          have Bxk0 := fun x => Go.Lib.cell?_alloc_some x (cell_arrS ((unhid K).now.1.1.1.1.1.2) 0 _ rfl)
          have Byk0 := fun x => Go.Lib.cell?_alloc_some x (cell_arrS ((unhid K).now.1.1.1.2) 0 _ rfl)
          go_wp2_with fail
          clear Brk0 Bpk0 Bpk1 Bpk2 Bpk3 Bxk0 Byk0
          have hx0 := World.alloc_heap_new W13 (.cells #[.slice za ps.length zc] 25)
          have hb := (Below.refl W13.heap.size W13).alloc (Nat.le_refl _) (.cells #[.slice za ps.length zc] 25)
          generalize (W13.alloc (.cells #[.slice za ps.length zc] 25)) = W14 at hx0 hb ⊢
          have K := hid ((unhid K).step hb)
          have K := hid ((unhid K).box hx0)
          clear hb hx0
          refine ((implIn_r ((unhid K).now.1.1.1.1.1.1.1.2) ((unhid K).now.1.1.1.1.1.1.1.1.1.1.2)).mono (fun _ _ h => turned_in (unhid HXv) (unhid HF).2.2.2.1 h)).mono ?_
          rintro e W15 ⟨va, vc, rfl, hr, hb⟩
          have K := hid ((unhid K).step hb)
          clear hb
          have K := hid ((unhid K).row hr)
          clear hr
          have Brk0 := fun x => Go.Lib.cell?_alloc_some x (cell_arrS ((unhid K).now.1.1.1.1.1.1.1.1.1.1.2) 0 _ rfl)
          have Bpk0 := fun x => Go.Lib.cell?_alloc_some x (cell_arrS ((unhid K).now.1.1.1.1.1.1.1.1.1.2) 0 _ rfl)
          have Bpk1 := fun x => Go.Lib.cell?_alloc_some x (cell_arrS ((unhid K).now.1.1.1.1.1.1.1.1.1.2) 1 _ rfl)
          have Bpk2 := fun x => Go.Lib.cell?_alloc_some x (cell_arrS ((unhid K).now.1.1.1.1.1.1.1.1.1.2) 2 _ rfl)
          have Bpk3 := fun x => Go.Lib.cell?_alloc_some x (cell_arrS ((unhid K).now.1.1.1.1.1.1.1.1.1.2) 3 _ rfl)
          have Bxk0 := fun x => Go.Lib.cell?_alloc_some x (cell_arrS ((unhid K).now.1.1.1.1.1.1.1.2) 0 _ rfl)
          have Byk0 := fun x => Go.Lib.cell?_alloc_some x (cell_arrS ((unhid K).now.1.1.1.1.1.2) 0 _ rfl)
          have Bzk0 := fun x => Go.Lib.cell?_alloc_some x (cell_arrS ((unhid K).now.1.2) 0 _ rfl)
          go_wp2_with fail
          clear Brk0 Bpk0 Bpk1 Bpk2 Bpk3 Bxk0 Byk0 Bzk0
          have hx0 := World.alloc_heap_new W15 (.cells #[.slice va Xv.length vc] 25)
          have hb := (Below.refl W15.heap.size W15).alloc (Nat.le_refl _) (.cells #[.slice va Xv.length vc] 25)
          generalize (W15.alloc (.cells #[.slice va Xv.length vc] 25)) = W16 at hx0 hb ⊢
          have K := hid ((unhid K).step hb)
          have K := hid ((unhid K).box hx0)
          clear hb hx0
          have Brk0 : ∀ x : CW (fun w' => Below W16.heap.size W16 w'), x.w.cell? ⟨W1.heap.size, 0, none⟩ = some (.slice ra ps.length rc) := fun x => cell_arrS ((x.h.block _ (Array.getElem?_eq_some_iff.1 ((unhid K).now.1.1.1.1.1.1.1.1.1.1.1.2)).1).trans ((unhid K).now.1.1.1.1.1.1.1.1.1.1.1.2)) 0 _ rfl
          have Bxk0 : ∀ x : CW (fun w' => Below W16.heap.size W16 w'), x.w.cell? ⟨W3.heap.size, 0, none⟩ = some (.slice xa Xx.length xc) := fun x => cell_arrS ((x.h.block _ (Array.getElem?_eq_some_iff.1 ((unhid K).now.1.1.1.1.1.1.1.1.2)).1).trans ((unhid K).now.1.1.1.1.1.1.1.1.2)) 0 _ rfl
          have Bzk0 : ∀ x : CW (fun w' => Below W16.heap.size W16 w'), x.w.cell? ⟨W13.heap.size, 0, none⟩ = some (.slice za ps.length zc) := fun x => cell_arrS ((x.h.block _ (Array.getElem?_eq_some_iff.1 ((unhid K).now.1.1.2)).1).trans ((unhid K).now.1.1.2)) 0 _ rfl
          have hba : ∀ {q : Prop}, (CW (fun w' => Below W16.heap.size W16 w') → q) ↔ q := CW.all (Below.refl _ W16)
          go_wp2_with fail
          refine held_begin (fun w' => Below W16.heap.size W16 w') (by kernel_rfl) (drew_belowS _) ?_
          have HC := hid (drew_belowS (B := W16.heap.size) W16)
          refine held_here [true] (by kernel_rfl) (by kernel_rfl) (fun _ _ _ _ _ h => h) (unhid HC) ?_
          dsimp only [pick]
          repeat (go_big_quiet_step (fail))
          refine wpQuiet_nil ?_
          have hb := unhid HC
          generalize W16.drew = W17 at HC hb ⊢
          have K := hid ((unhid K).step hb)
          clear hb
          refine held_call 1 17 109 (enters_of Tryz.func17 (by kernel_rfl) rfl) #[.agg #[.slice xa Xx.length xc]] (by kernel_rfl) (by kernel_rfl) rfl rfl rfl rfl rfl ?_
          refine ((show Calls Tryz.prog 17 #[.agg #[.slice xa Xx.length xc]] W17 fun x w' => x = .returned (.bool true) ∧ Below W17.heap.size W17 w' from (implOk_r ((unhid K).now.1.1.1.1.1.1.1.1.1.2)).mono (fun _ _ h => ⟨by rw [h.1, (unhid HF).2.2.2.2], h.2⟩))).mono ?_
          rintro x W18 ⟨rfl, hb⟩
          have K := hid ((unhid K).step hb)
          have HC := hid ((unhid HC).trans (hb.mono (unhid HC).size))
          refine ⟨_, rfl, unhid HC, ?_⟩
          simp only [Act.put, List.setIfInBounds_toArray, List.set_cons_zero, List.set_cons_succ]
          clear hb
          refine held_here [false, false, true, true, true, true, true, true, true] (by kernel_rfl) (by kernel_rfl) (fun _ _ _ _ _ h => h) (unhid HC) ?_
          dsimp only [pick]
          repeat (go_big_quiet_step (fail))
          refine wpQuiet_nil ?_
          refine held_call 9 24 117 (enters_of Tryz.func24 (by kernel_rfl) rfl) #[.agg #[.slice za ps.length zc], .agg #[.slice ra ps.length rc]] (by kernel_rfl) (by kernel_rfl) rfl rfl rfl rfl rfl ?_
          refine (jsRoot_r ((unhid K).now.1.1.1.2) ((unhid K).now.1.1.1.1.1.1.1.1.1.1.1.1.1.2)).mono ?_
          rintro x W19 ⟨rfl, hb⟩
          have K := hid ((unhid K).step hb)
          have HC := hid ((unhid HC).trans (hb.mono (unhid HC).size))
          refine ⟨_, rfl, unhid HC, ?_⟩
          simp only [Act.put, List.setIfInBounds_toArray, List.set_cons_zero, List.set_cons_succ]
          clear hb
          refine held_here [false, false, false, false, false, false, false, false, false, false, true, true, true, true, true, true, true, false, true] (by kernel_rfl) (by kernel_rfl) (fun _ _ _ _ _ h => h) (unhid HC) ?_
          dsimp only [pick]
          repeat (go_big_quiet_step (fail))
          refine wpQuiet_nil ?_
          refine held_call 17 14 125 (enters_of Tryz.func14 (by kernel_rfl) rfl) #[.agg #[.slice za ps.length zc]] (by kernel_rfl) (by kernel_rfl) rfl rfl rfl rfl rfl ?_
          refine (tree_r ((unhid K).now.1.1.1.2)).mono ?_
          rintro x W20 ⟨sa, sc, rfl, hr, hb⟩
          have K := hid ((unhid K).step hb)
          have HC := hid ((unhid HC).trans (hb.mono (unhid HC).size))
          have K := hid ((unhid K).ents hr)
          refine ⟨_, rfl, unhid HC, ?_⟩
          simp only [Act.put, List.setIfInBounds_toArray, List.set_cons_zero, List.set_cons_succ]
          clear hb hr
          refine held_call 19 14 127 (enters_of Tryz.func14 (by kernel_rfl) rfl) #[.agg #[.slice ra ps.length rc]] (by kernel_rfl) (by kernel_rfl) rfl rfl rfl rfl rfl ?_
          refine (tree_r ((unhid K).now.1.1.1.1.1.1.1.1.1.1.1.1.1.1.2)).mono ?_
          rintro x W21 ⟨ua, uc, rfl, hr, hb⟩
          have K := hid ((unhid K).step hb)
          have HC := hid ((unhid HC).trans (hb.mono (unhid HC).size))
          have K := hid ((unhid K).ents hr)
          refine ⟨_, rfl, unhid HC, ?_⟩
          simp only [Act.put, List.setIfInBounds_toArray, List.set_cons_zero, List.set_cons_succ]
          clear hb hr
          refine held_call 20 15 128 (enters_of Tryz.func15 (by kernel_rfl) rfl) #[.slice sa (rootTreeE ⟨ps⟩).length sc, .slice ua (rootTreeE ⟨ps⟩).length uc] (by kernel_rfl) (by kernel_rfl) rfl rfl rfl rfl rfl ?_
          refine (jsTree_r ((unhid K).now.1.2) ((unhid K).now.2)).mono ?_
          rintro x W22 ⟨rfl, hb⟩
          have K := hid ((unhid K).step hb)
          have HC := hid ((unhid HC).trans (hb.mono (unhid HC).size))
          refine ⟨_, rfl, unhid HC, ?_⟩
          simp only [Act.put, List.setIfInBounds_toArray, List.set_cons_zero, List.set_cons_succ]
          clear hb
          refine held_here [false, false, false, false, false, false, false, false, false, false, false, false, false, false, false, false, false, false, false, false, false, true, true] (by kernel_rfl) (by kernel_rfl) (fun _ _ _ _ _ h => h) (unhid HC) ?_
          dsimp only [pick]
          repeat (go_big_quiet_step (fail))
          refine wpQuiet_nil ?_
          refine held_done (by kernel_rfl) ?_
          clear hba HC Brk0 Bxk0 Bzk0
          go_wp2_with fail
          go_ret
          exact ⟨rfl, (unhid K).now.1.1.1.1.1.1.1.1.1.1.1.1.1.1.1.1⟩
    · have e3 : (kx != 0) = true := by rw [bne_iff_ne]; exact h1
      have hxr : Xx = ps := (unhid HXx).symm.trans (rin_not (unhid HOK) (by rw [unhid Hkx]; exact h1))
      subst hxr
      have Brk0 := cell_arrS ((unhid K).now.1.1.1.1.1.2) 0 _ rfl
      have Bpk0 := cell_arrS ((unhid K).now.1.1.1.1.2) 0 _ rfl
      have Bpk1 := cell_arrS ((unhid K).now.1.1.1.1.2) 1 _ rfl
      have Bpk2 := cell_arrS ((unhid K).now.1.1.1.1.2) 2 _ rfl
      have Bpk3 := cell_arrS ((unhid K).now.1.1.1.1.2) 3 _ rfl
      have Bxk0 := cell_arrS ((unhid K).now.1.1.2) 0 _ rfl
      have Byk0 := cell_arrS ((unhid K).now.2) 0 _ rfl
      go_wp2_with fail
      clear Brk0 Bpk0 Bpk1 Bpk2 Bpk3 Bxk0 Byk0
      refine (jsRoot_r ((unhid K).now.1.1.1.2) ((unhid K).now.1.1.1.1.1.1.1.2)).mono ?_
      rintro e W23 ⟨rfl, hb⟩
      have K := hid ((unhid K).step hb)
      clear hb
      have Brk0 := cell_arrS ((unhid K).now.1.1.1.1.1.2) 0 _ rfl
      have Bpk0 := cell_arrS ((unhid K).now.1.1.1.1.2) 0 _ rfl
      have Bpk1 := cell_arrS ((unhid K).now.1.1.1.1.2) 1 _ rfl
      have Bpk2 := cell_arrS ((unhid K).now.1.1.1.1.2) 2 _ rfl
      have Bpk3 := cell_arrS ((unhid K).now.1.1.1.1.2) 3 _ rfl
      have Bxk0 := cell_arrS ((unhid K).now.1.1.2) 0 _ rfl
      have Byk0 := cell_arrS ((unhid K).now.2) 0 _ rfl
      go_wp2_with fail
      clear Brk0 Bpk0 Bpk1 Bpk2 Bpk3 Bxk0 Byk0
      go_ret
      exact ⟨rfl, (unhid K).now.1.1.1.1.1.1.1.1⟩

set_option maxRecDepth 100000 in
set_option maxHeartbeats 1000000 in
theorem lifted_FnRootIn (os : Os) (started : os.Started) (H : Type) (enc : TypeId × Value → H) :
    ReturnsInHanded {} Tryz.checked os 4 .any (Rows.fnRootInSpec.pre6 enc Tryz.prog Tryz.f4 Rows.fnRootInRow.domain false) (Rows.fnRootInSpec.post enc Tryz.prog Tryz.f4 false true false false) := by
  refine returnsInHanded_of_change (C := Tryz.checked) own started (by kernel_rfl) Tryz.func4
    (ChangeSpec.witness6 (enc := enc) (C := Tryz.checked) false ⟨#[], #[.slice none 0 0], []⟩ 8 (by kernel_rfl) (by kernel_rfl) (by kernel_rfl) (by kernel_rfl)) ?_
  intro W base args ds gs before hval0 hW _ _
  have hval : ∀ (j : Nat) t v, Tryz.f4.params[j]? = some t → args[j]? = some v → Value.okWide Tryz.prog W .any base t v := hval0
  have hW' := hW
  obtain ⟨p, q, hA0, hV, rfl, hfz, hnd⟩ := hW
  have hA : DataW.TrodAll enc Tryz.prog W 0 (fun _ => true) true Tryz.f4.params.toList args.toList ds p := hA0
  rw [Tryz.params4] at hA hval
  obtain ⟨v0, vs0, d0, ds0, p0, q0, e0, rfl, rfl, h0, r0⟩ := trodAll_cons hA
  obtain ⟨rfl, rfl, rfl⟩ := trodAll_nil r0
  obtain rfl : args = #[v0] := by cases args; simp_all
  obtain ⟨rfl, rfl⟩ := trodVars_none hV
  have hlt : ∀ x ∈ p0, x.block < W.heap.size := fun x hx => by simpa using hW'.lt x (by simpa using hx)
  have t0 := h0
  have l0 : ∀ x ∈ p0, x.block < W.heap.size := fun x hx => hlt x (by simp [hx])
  obtain ⟨a0, len0, cap0, rfl⟩ := okWide_slice Tryz.underlying22 (hval 0 22 v0 rfl rfl)
  obtain ⟨hc0, hn0⟩ := code_of h0 l0
  clear hA0 hval0
  refine (walk_FnRootIn a0 len0 cap0 W hc0 hn0).mono fun e W' ⟨he, hb⟩ => ?_
  subst he
  exact ⟨_, rfl, post_below (gs := []) (pv := []) hW' (fun _ _ _ => trodAll_cons_mk (shut_bool Tryz.underlying4 _) trodAll_mk0) (trodAll_cons_mk (Below.trod laidOut (by kernel_rfl) (of_decide_eq_true (by kernel_rfl)) t0 hb l0) trodAll_mk0) rfl (by simp) hb⟩

theorem fnRootIn_holds : Rows.FnRootInSaid :=
  OpenClaim.holds_of_wide 4 Tryz.f4 rfl rfl rfl rfl rfl rfl rfl ⟨rfl, rfl, rfl, rfl, rfl⟩ rfl rfl rfl rfl rfl (by kernel_rfl) Tryz.func4 (by kernel_rfl)
    (of_decide_eq_true (by kernel_rfl)) (by unfold Func.isWrapper; first | (rw [if_pos (by decide +kernel)]; kernel_rfl) | (rw [if_neg (by decide +kernel)]; exact ⟨rfl, rfl⟩))
    (fun os started H enc _ => lifted_FnRootIn os started H enc)
end Go.Proofs.YtoljhgkgppjdcaaGreat
