/- A later pack in the place of an elder one is as if that never was there. -/
import Derived.Test.YtoljhgkgppjdcaaGreatJoin16
namespace Go.Proofs.YtoljhgkgppjdcaaGreat
open Go.ChangeShapes Go.WideShapes Go.ChangeAt Go.RowKit Go.Shelf

set_option maxRecDepth 100000 in
set_option maxHeartbeats 16000000 in
theorem walk_FnRootSwap (a0 : Option Addr) (len0 cap0 : Nat) (w : World) (h0 : Code w w.heap.size a0 len0) (hc0 : len0 ≤ cap0) :
    Calls Tryz.prog 5 #[.slice a0 len0 cap0] w fun e w' => e = .returned (.bool true) ∧ Below w.heap.size w w' := by
  have H0 := hid h0
  clear h0
  by_cases hl0 : (1048576 : Int) < len0
  · go_enter Tryz.func5, Tryz.ntmps5
    go_wp2_with fail
    go_ret
    exact ⟨rfl, Below.refl _ _⟩
  go_enter Tryz.func5, Tryz.ntmps5
  have K := hid (KW.start w)
  go_wp2_with fail
  refine (DrawRootSwap_any w a0 len0 cap0 (code_on (unhid H0) ((unhid K).now)) (by omega) hc0).mono ?_
  rintro e W1 ⟨v, ps, cs, pk, rfl, hD, hat, hP, hb⟩
  obtain ⟨ra, rc, rfl, hr⟩ := dr_rr hD
  have hp : PR W1 cs.toList pk := ⟨hat, hP.small⟩
  obtain ⟨p0, p1, p2, p3, hcs⟩ := hp.cells
  obtain rfl : cs = #[.string (PackD.name pk), .string (PackD.version pk), .slice p0 (PackD.needs pk).length p1, .slice p2 (PackD.tree pk).length p3] := by apply Array.ext'; exact hcs
  have K := hid ((unhid K).step hb)
  have K := hid ((unhid K).row hr)
  have K := hid ((unhid K).pack hp)
  have Dr := hid (And.intro hD.ok hP)
  clear hb hr hp hD hat hP hcs
  obtain ⟨Xx, HXx⟩ : ∃ X, Hid (rootSwapP ⟨ps⟩ pk = X) := ⟨_, hid rfl⟩
  obtain ⟨kx, Hkx⟩ : ∃ k, Hid (rootSwapC ⟨ps⟩ pk = k) := ⟨_, hid rfl⟩
  go_wp2_with fail
  obtain ⟨hx0, hx1, -⟩ := two_boxes W1 (.cells #[.slice ra ps.length rc] 25) (.cells #[.string (PackD.name pk), .string (PackD.version pk), .slice p0 (PackD.needs pk).length p1, .slice p2 (PackD.tree pk).length p3] 37)
  have hb := alloc2_below W1 (.cells #[.slice ra ps.length rc] 25) (.cells #[.string (PackD.name pk), .string (PackD.version pk), .slice p0 (PackD.needs pk).length p1, .slice p2 (PackD.tree pk).length p3] 37)
  generalize ((W1.alloc (.cells #[.slice ra ps.length rc] 25)).alloc (.cells #[.string (PackD.name pk), .string (PackD.version pk), .slice p0 (PackD.needs pk).length p1, .slice p2 (PackD.tree pk).length p3] 37)) = W2 at hx0 hx1 hb ⊢
  have K := hid ((unhid K).step hb)
  have K := hid ((unhid K).box hx0)
  have K := hid ((unhid K).box hx1)
  clear hb hx0 hx1
  refine (implSwap_r ((unhid K).now.1.1.1.2) ((unhid K).now.1.1.2) (unhid HXx) (unhid Hkx)).mono ?_
  rintro e W3 ⟨xa, xc, rfl, hr, hb⟩
  have K := hid ((unhid K).step hb)
  clear hb
  have K := hid ((unhid K).row hr)
  clear hr
  have Brk0 := fun x => Go.Lib.cell?_alloc_some x (cell_arrS ((unhid K).now.1.1.2) 0 _ rfl)
  have Bpk0 := fun x => Go.Lib.cell?_alloc_some x (cell_arrS ((unhid K).now.1.2) 0 _ rfl)
  have Bpk1 := fun x => Go.Lib.cell?_alloc_some x (cell_arrS ((unhid K).now.1.2) 1 _ rfl)
  have Bpk2 := fun x => Go.Lib.cell?_alloc_some x (cell_arrS ((unhid K).now.1.2) 2 _ rfl)
  have Bpk3 := fun x => Go.Lib.cell?_alloc_some x (cell_arrS ((unhid K).now.1.2) 3 _ rfl)
  go_wp2_with fail
  clear Brk0 Bpk0 Bpk1 Bpk2 Bpk3
  have hx0 := World.alloc_heap_new W3 (.cells #[.slice xa Xx.length xc] 25)
  have hb := (Below.refl W3.heap.size W3).alloc (Nat.le_refl _) (.cells #[.slice xa Xx.length xc] 25)
  generalize (W3.alloc (.cells #[.slice xa Xx.length xc] 25)) = W4 at hx0 hb ⊢
  have K := hid ((unhid K).step hb)
  have K := hid ((unhid K).box hx0)
  clear hb hx0
  refine (specSwap_r ((unhid K).now.1.1.1.1.1.2) ((unhid K).now.1.1.1.1.2) (unhid HXx) (unhid Hkx)).mono ?_
  rintro e W5 ⟨ya, yc, rfl, hr, hb⟩
  have K := hid ((unhid K).step hb)
  clear hb
  have K := hid ((unhid K).row hr)
  clear hr
  have e1 := int_ne_self kx
  have e2 := int_eq_self kx
  have Brk0 := fun x => Go.Lib.cell?_alloc_some x (cell_arrS ((unhid K).now.1.1.1.1.2) 0 _ rfl)
  have Bpk0 := fun x => Go.Lib.cell?_alloc_some x (cell_arrS ((unhid K).now.1.1.1.2) 0 _ rfl)
  have Bpk1 := fun x => Go.Lib.cell?_alloc_some x (cell_arrS ((unhid K).now.1.1.1.2) 1 _ rfl)
  have Bpk2 := fun x => Go.Lib.cell?_alloc_some x (cell_arrS ((unhid K).now.1.1.1.2) 2 _ rfl)
  have Bpk3 := fun x => Go.Lib.cell?_alloc_some x (cell_arrS ((unhid K).now.1.1.1.2) 3 _ rfl)
  have Bxk0 := fun x => Go.Lib.cell?_alloc_some x (cell_arrS ((unhid K).now.1.2) 0 _ rfl)
  go_wp2_with fail
  clear Brk0 Bpk0 Bpk1 Bpk2 Bpk3 Bxk0
  have hx0 := World.alloc_heap_new W5 (.cells #[.slice ya Xx.length yc] 25)
  have hb := (Below.refl W5.heap.size W5).alloc (Nat.le_refl _) (.cells #[.slice ya Xx.length yc] 25)
  generalize (W5.alloc (.cells #[.slice ya Xx.length yc] 25)) = W6 at hx0 hb ⊢
  have K := hid ((unhid K).step hb)
  have K := hid ((unhid K).box hx0)
  clear hb hx0
  refine (jsRoot_r ((unhid K).now.1.1.1.2) ((unhid K).now.1.2)).mono ?_
  rintro e W7 ⟨rfl, hb⟩
  have K := hid ((unhid K).step hb)
  clear hb
  have Brk0 := cell_arrS ((unhid K).now.1.1.1.1.1.2) 0 _ rfl
  have Bpk0 := cell_arrS ((unhid K).now.1.1.1.1.2) 0 _ rfl
  have Bpk1 := cell_arrS ((unhid K).now.1.1.1.1.2) 1 _ rfl
  have Bpk2 := cell_arrS ((unhid K).now.1.1.1.1.2) 2 _ rfl
  have Bpk3 := cell_arrS ((unhid K).now.1.1.1.1.2) 3 _ rfl
  have Bxk0 := cell_arrS ((unhid K).now.1.1.2) 0 _ rfl
  have Byk0 := cell_arrS ((unhid K).now.2) 0 _ rfl
  go_wp2_with fail
  clear Brk0 Bpk0 Bpk1 Bpk2 Bpk3 Bxk0 Byk0
  refine (swSpecOk_r ((unhid K).now.1.1.1.1.1.1.1.2)).mono ?_
  rintro e W8 ⟨rfl, hb⟩
  have K := hid ((unhid K).step hb)
  clear hb
  cases hok : rootOk_0 ⟨ps⟩
  case false =>
    have Brk0 := cell_arrS ((unhid K).now.1.1.1.1.1.2) 0 _ rfl
    have Bpk0 := cell_arrS ((unhid K).now.1.1.1.1.2) 0 _ rfl
    have Bpk1 := cell_arrS ((unhid K).now.1.1.1.1.2) 1 _ rfl
    have Bpk2 := cell_arrS ((unhid K).now.1.1.1.1.2) 2 _ rfl
    have Bpk3 := cell_arrS ((unhid K).now.1.1.1.1.2) 3 _ rfl
    have Bxk0 := cell_arrS ((unhid K).now.1.1.2) 0 _ rfl
    have Byk0 := cell_arrS ((unhid K).now.2) 0 _ rfl
    go_wp2_with fail
    clear Brk0 Bpk0 Bpk1 Bpk2 Bpk3 Bxk0 Byk0
    refine (jsRoot_r ((unhid K).now.1.1.1.2) ((unhid K).now.1.2)).mono ?_
    rintro e W9 ⟨rfl, hb⟩
    have K := hid ((unhid K).step hb)
    clear hb
    have Brk0 := cell_arrS ((unhid K).now.1.1.1.1.1.2) 0 _ rfl
    have Bpk0 := cell_arrS ((unhid K).now.1.1.1.1.2) 0 _ rfl
    have Bpk1 := cell_arrS ((unhid K).now.1.1.1.1.2) 1 _ rfl
    have Bpk2 := cell_arrS ((unhid K).now.1.1.1.1.2) 2 _ rfl
    have Bpk3 := cell_arrS ((unhid K).now.1.1.1.1.2) 3 _ rfl
    have Bxk0 := cell_arrS ((unhid K).now.1.1.2) 0 _ rfl
    have Byk0 := cell_arrS ((unhid K).now.2) 0 _ rfl
    go_wp2_with fail
    clear Brk0 Bpk0 Bpk1 Bpk2 Bpk3 Bxk0 Byk0
    go_ret
    exact ⟨rfl, (unhid K).now.1.1.1.1.1.1.1.1⟩
  case true =>
    have HOK := hid hok
    by_cases h1 : kx = 0
    · subst h1
      have HF := hid (swap_law (unhid HOK) (unhid HXx) (unhid Hkx))
      clear hok
      obtain ⟨Xu, HXu⟩ : ∃ X, Hid (rootSwapP ⟨Xx⟩ pk = X) := ⟨_, hid rfl⟩
      have Brk0 := cell_arrS ((unhid K).now.1.1.1.1.1.2) 0 _ rfl
      have Bpk0 := cell_arrS ((unhid K).now.1.1.1.1.2) 0 _ rfl
      have Bpk1 := cell_arrS ((unhid K).now.1.1.1.1.2) 1 _ rfl
      have Bpk2 := cell_arrS ((unhid K).now.1.1.1.1.2) 2 _ rfl
      have Bpk3 := cell_arrS ((unhid K).now.1.1.1.1.2) 3 _ rfl
      have Bxk0 := cell_arrS ((unhid K).now.1.1.2) 0 _ rfl
      have Byk0 := cell_arrS ((unhid K).now.2) 0 _ rfl
      go_wp2_with fail
      clear Brk0 Bpk0 Bpk1 Bpk2 Bpk3 Bxk0 Byk0
      refine (implSwap_r ((unhid K).now.1.1.1.2) ((unhid K).now.1.1.1.1.1.1.2) (unhid HXu) (unhid HF).2.1).mono ?_
      rintro e W10 ⟨ua, uc, rfl, hr, hb⟩
      have K := hid ((unhid K).step hb)
      clear hb
      have K := hid ((unhid K).row hr)
      clear hr
      obtain ⟨Xz, HXz⟩ : ∃ X, Hid (rootOutP ⟨ps⟩ (PackD.name pk) = X) := ⟨_, hid rfl⟩
      obtain ⟨kz, Hkz⟩ : ∃ k, Hid (rootOutC ⟨ps⟩ (PackD.name pk) = k) := ⟨_, hid rfl⟩
      have Brk0 := fun x => Go.Lib.cell?_alloc_some x (cell_arrS ((unhid K).now.1.1.1.1.1.1.2) 0 _ rfl)
      have Bpk0 := fun x => Go.Lib.cell?_alloc_some x (cell_arrS ((unhid K).now.1.1.1.1.1.2) 0 _ rfl)
      have Bpk1 := fun x => Go.Lib.cell?_alloc_some x (cell_arrS ((unhid K).now.1.1.1.1.1.2) 1 _ rfl)
      have Bpk2 := fun x => Go.Lib.cell?_alloc_some x (cell_arrS ((unhid K).now.1.1.1.1.1.2) 2 _ rfl)
      have Bpk3 := fun x => Go.Lib.cell?_alloc_some x (cell_arrS ((unhid K).now.1.1.1.1.1.2) 3 _ rfl)
      have Bxk0 := fun x => Go.Lib.cell?_alloc_some x (cell_arrS ((unhid K).now.1.1.1.2) 0 _ rfl)
      have Byk0 := fun x => Go.Lib.cell?_alloc_some x (cell_arrS ((unhid K).now.1.2) 0 _ rfl)
      go_wp2_with fail
      clear Brk0 Bpk0 Bpk1 Bpk2 Bpk3 Bxk0 Byk0
      have hx0 := World.alloc_heap_new W10 (.cells #[.slice ua Xu.length uc] 25)
      have hb := (Below.refl W10.heap.size W10).alloc (Nat.le_refl _) (.cells #[.slice ua Xu.length uc] 25)
      generalize (W10.alloc (.cells #[.slice ua Xu.length uc] 25)) = W11 at hx0 hb ⊢
      have K := hid ((unhid K).step hb)
      have K := hid ((unhid K).box hx0)
      clear hb hx0
      refine (swOut_r ((unhid K).now.1.1.1.1.1.1.1.1.1.2) (unhid HXz) (unhid Hkz)).mono ?_
      rintro e W12 ⟨za, zc, rfl, hr, hb⟩
      have K := hid ((unhid K).step hb)
      clear hb
      have K := hid ((unhid K).row hr)
      clear hr
      by_cases h2 : kz = 0
      · subst h2
        have HG := hid ((unhid HF).2.2 (unhid Hkz))
        rw [unhid HXz] at HG
        have Brk0 := fun x => Go.Lib.cell?_alloc_some x (cell_arrS ((unhid K).now.1.1.1.1.1.1.1.1.2) 0 _ rfl)
        have Bpk0 := fun x => Go.Lib.cell?_alloc_some x (cell_arrS ((unhid K).now.1.1.1.1.1.1.1.2) 0 _ rfl)
        have Bpk1 := fun x => Go.Lib.cell?_alloc_some x (cell_arrS ((unhid K).now.1.1.1.1.1.1.1.2) 1 _ rfl)
        have Bpk2 := fun x => Go.Lib.cell?_alloc_some x (cell_arrS ((unhid K).now.1.1.1.1.1.1.1.2) 2 _ rfl)
        have Bpk3 := fun x => Go.Lib.cell?_alloc_some x (cell_arrS ((unhid K).now.1.1.1.1.1.1.1.2) 3 _ rfl)
        have Bxk0 := fun x => Go.Lib.cell?_alloc_some x (cell_arrS ((unhid K).now.1.1.1.1.1.2) 0 _ rfl)
        have Byk0 := fun x => Go.Lib.cell?_alloc_some x (cell_arrS ((unhid K).now.1.1.1.2) 0 _ rfl)
        have Buk0 := fun x => Go.Lib.cell?_alloc_some x (cell_arrS ((unhid K).now.1.2) 0 _ rfl)
        go_wp2_with fail
        clear Brk0 Bpk0 Bpk1 Bpk2 Bpk3 Bxk0 Byk0 Buk0
        have hx0 := World.alloc_heap_new W12 (.cells #[.slice za Xz.length zc] 25)
        have hb := (Below.refl W12.heap.size W12).alloc (Nat.le_refl _) (.cells #[.slice za Xz.length zc] 25)
        generalize (W12.alloc (.cells #[.slice za Xz.length zc] 25)) = W13 at hx0 hb ⊢
        have K := hid ((unhid K).step hb)
        have K := hid ((unhid K).box hx0)
        clear hb hx0
        refine ((implIn_r ((unhid K).now.1.2) ((unhid K).now.1.1.1.1.1.1.1.1.1.1.2)).mono (fun _ _ h => turned_in (unhid HG).2 (unhid HG).1 h)).mono ?_
        rintro e W14 ⟨va, vc, rfl, hr, hb⟩
        have K := hid ((unhid K).step hb)
        clear hb
        have K := hid ((unhid K).row hr)
        clear hr
        have Brk0 := fun x => Go.Lib.cell?_alloc_some x (cell_arrS ((unhid K).now.1.1.1.1.1.1.1.1.1.1.2) 0 _ rfl)
        have Bpk0 := fun x => Go.Lib.cell?_alloc_some x (cell_arrS ((unhid K).now.1.1.1.1.1.1.1.1.1.2) 0 _ rfl)
        have Bpk1 := fun x => Go.Lib.cell?_alloc_some x (cell_arrS ((unhid K).now.1.1.1.1.1.1.1.1.1.2) 1 _ rfl)
        have Bpk2 := fun x => Go.Lib.cell?_alloc_some x (cell_arrS ((unhid K).now.1.1.1.1.1.1.1.1.1.2) 2 _ rfl)
        have Bpk3 := fun x => Go.Lib.cell?_alloc_some x (cell_arrS ((unhid K).now.1.1.1.1.1.1.1.1.1.2) 3 _ rfl)
        have Bxk0 := fun x => Go.Lib.cell?_alloc_some x (cell_arrS ((unhid K).now.1.1.1.1.1.1.1.2) 0 _ rfl)
        have Byk0 := fun x => Go.Lib.cell?_alloc_some x (cell_arrS ((unhid K).now.1.1.1.1.1.2) 0 _ rfl)
        have Buk0 := fun x => Go.Lib.cell?_alloc_some x (cell_arrS ((unhid K).now.1.1.1.2) 0 _ rfl)
        have Bzk0 := fun x => Go.Lib.cell?_alloc_some x (cell_arrS ((unhid K).now.1.2) 0 _ rfl)
        go_wp2_with fail
        clear Brk0 Bpk0 Bpk1 Bpk2 Bpk3 Bxk0 Byk0 Buk0 Bzk0
        have hx0 := World.alloc_heap_new W14 (.cells #[.slice va Xx.length vc] 25)
        have hb := (Below.refl W14.heap.size W14).alloc (Nat.le_refl _) (.cells #[.slice va Xx.length vc] 25)
        generalize (W14.alloc (.cells #[.slice va Xx.length vc] 25)) = W15 at hx0 hb ⊢
        have K := hid ((unhid K).step hb)
        have K := hid ((unhid K).box hx0)
        clear hb hx0
        refine (show Calls Tryz.prog 17 #[.agg #[.slice xa Xx.length xc]] W15 fun x w' => x = .returned (.bool true) ∧ Below W15.heap.size W15 w' from (swOk_r ((unhid K).now.1.1.1.1.1.1.1.1.1.2)).mono (fun _ _ h => ⟨by rw [h.1, (unhid HF).1], h.2⟩)).mono ?_
        rintro e W16 ⟨rfl, hb⟩
        have K := hid ((unhid K).step hb)
        clear hb
        have Brk0 := cell_arrS ((unhid K).now.1.1.1.1.1.1.1.1.1.1.1.2) 0 _ rfl
        have Bpk0 := cell_arrS ((unhid K).now.1.1.1.1.1.1.1.1.1.1.2) 0 _ rfl
        have Bpk1 := cell_arrS ((unhid K).now.1.1.1.1.1.1.1.1.1.1.2) 1 _ rfl
        have Bpk2 := cell_arrS ((unhid K).now.1.1.1.1.1.1.1.1.1.1.2) 2 _ rfl
        have Bpk3 := cell_arrS ((unhid K).now.1.1.1.1.1.1.1.1.1.1.2) 3 _ rfl
        have Bxk0 := cell_arrS ((unhid K).now.1.1.1.1.1.1.1.1.2) 0 _ rfl
        have Byk0 := cell_arrS ((unhid K).now.1.1.1.1.1.1.2) 0 _ rfl
        have Buk0 := cell_arrS ((unhid K).now.1.1.1.1.2) 0 _ rfl
        have Bzk0 := cell_arrS ((unhid K).now.1.1.2) 0 _ rfl
        have Bvk0 := cell_arrS ((unhid K).now.2) 0 _ rfl
        go_wp2_with fail
        clear Brk0 Bpk0 Bpk1 Bpk2 Bpk3 Bxk0 Byk0 Buk0 Bzk0 Bvk0
        refine (jsRoot_r ((unhid K).now.1.2) ((unhid K).now.1.1.1.1.1.1.1.1.1.2)).mono ?_
        rintro e W17 ⟨rfl, hb⟩
        have K := hid ((unhid K).step hb)
        clear hb
        have Brk0 := cell_arrS ((unhid K).now.1.1.1.1.1.1.1.1.1.1.1.2) 0 _ rfl
        have Bpk0 := cell_arrS ((unhid K).now.1.1.1.1.1.1.1.1.1.1.2) 0 _ rfl
        have Bpk1 := cell_arrS ((unhid K).now.1.1.1.1.1.1.1.1.1.1.2) 1 _ rfl
        have Bpk2 := cell_arrS ((unhid K).now.1.1.1.1.1.1.1.1.1.1.2) 2 _ rfl
        have Bpk3 := cell_arrS ((unhid K).now.1.1.1.1.1.1.1.1.1.1.2) 3 _ rfl
        have Bxk0 := cell_arrS ((unhid K).now.1.1.1.1.1.1.1.1.2) 0 _ rfl
        have Byk0 := cell_arrS ((unhid K).now.1.1.1.1.1.1.2) 0 _ rfl
        have Buk0 := cell_arrS ((unhid K).now.1.1.1.1.2) 0 _ rfl
        have Bzk0 := cell_arrS ((unhid K).now.1.1.2) 0 _ rfl
        have Bvk0 := cell_arrS ((unhid K).now.2) 0 _ rfl
        go_wp2_with fail
        clear Brk0 Bpk0 Bpk1 Bpk2 Bpk3 Bxk0 Byk0 Buk0 Bzk0 Bvk0
        go_ret
        exact ⟨rfl, (unhid K).now.1.1.1.1.1.1.1.1.1.1.1.1.1.1⟩
      · have e3 : (kz != 0) = true := by rw [bne_iff_ne]; exact h2
        have Brk0 := fun x => Go.Lib.cell?_alloc_some x (cell_arrS ((unhid K).now.1.1.1.1.1.1.1.1.2) 0 _ rfl)
        have Bpk0 := fun x => Go.Lib.cell?_alloc_some x (cell_arrS ((unhid K).now.1.1.1.1.1.1.1.2) 0 _ rfl)
        have Bpk1 := fun x => Go.Lib.cell?_alloc_some x (cell_arrS ((unhid K).now.1.1.1.1.1.1.1.2) 1 _ rfl)
        have Bpk2 := fun x => Go.Lib.cell?_alloc_some x (cell_arrS ((unhid K).now.1.1.1.1.1.1.1.2) 2 _ rfl)
        have Bpk3 := fun x => Go.Lib.cell?_alloc_some x (cell_arrS ((unhid K).now.1.1.1.1.1.1.1.2) 3 _ rfl)
        have Bxk0 := fun x => Go.Lib.cell?_alloc_some x (cell_arrS ((unhid K).now.1.1.1.1.1.2) 0 _ rfl)
        have Byk0 := fun x => Go.Lib.cell?_alloc_some x (cell_arrS ((unhid K).now.1.1.1.2) 0 _ rfl)
        have Buk0 := fun x => Go.Lib.cell?_alloc_some x (cell_arrS ((unhid K).now.1.2) 0 _ rfl)
        go_wp2_with fail
        clear Brk0 Bpk0 Bpk1 Bpk2 Bpk3 Bxk0 Byk0 Buk0
        have hx0 := World.alloc_heap_new W12 (.cells #[.slice za Xz.length zc] 25)
        have hb := (Below.refl W12.heap.size W12).alloc (Nat.le_refl _) (.cells #[.slice za Xz.length zc] 25)
        generalize (W12.alloc (.cells #[.slice za Xz.length zc] 25)) = W18 at hx0 hb ⊢
        have K := hid ((unhid K).step hb)
        have K := hid ((unhid K).box hx0)
        clear hb hx0
        refine (show Calls Tryz.prog 17 #[.agg #[.slice xa Xx.length xc]] W18 fun x w' => x = .returned (.bool true) ∧ Below W18.heap.size W18 w' from (swOk_r ((unhid K).now.1.1.1.1.1.1.1.2)).mono (fun _ _ h => ⟨by rw [h.1, (unhid HF).1], h.2⟩)).mono ?_
        rintro e W19 ⟨rfl, hb⟩
        have K := hid ((unhid K).step hb)
        clear hb
        have Brk0 := cell_arrS ((unhid K).now.1.1.1.1.1.1.1.1.1.2) 0 _ rfl
        have Bpk0 := cell_arrS ((unhid K).now.1.1.1.1.1.1.1.1.2) 0 _ rfl
        have Bpk1 := cell_arrS ((unhid K).now.1.1.1.1.1.1.1.1.2) 1 _ rfl
        have Bpk2 := cell_arrS ((unhid K).now.1.1.1.1.1.1.1.1.2) 2 _ rfl
        have Bpk3 := cell_arrS ((unhid K).now.1.1.1.1.1.1.1.1.2) 3 _ rfl
        have Bxk0 := cell_arrS ((unhid K).now.1.1.1.1.1.1.2) 0 _ rfl
        have Byk0 := cell_arrS ((unhid K).now.1.1.1.1.2) 0 _ rfl
        have Buk0 := cell_arrS ((unhid K).now.1.1.2) 0 _ rfl
        have Bzk0 := cell_arrS ((unhid K).now.2) 0 _ rfl
        go_wp2_with fail
        clear Brk0 Bpk0 Bpk1 Bpk2 Bpk3 Bxk0 Byk0 Buk0 Bzk0
        go_ret
        exact ⟨rfl, (unhid K).now.1.1.1.1.1.1.1.1.1.1.1.1⟩
    · have e3 : (kx != 0) = true := by rw [bne_iff_ne]; exact h1
      have hxr : Xx = ps := (unhid HXx).symm.trans (swap_not (unhid HOK) (by rw [unhid Hkx]; exact h1))
      subst hxr
      have Brk0 := cell_arrS ((unhid K).now.1.1.1.1.1.2) 0 _ rfl
      have Bpk0 := cell_arrS ((unhid K).now.1.1.1.1.2) 0 _ rfl
      have Bpk1 := cell_arrS ((unhid K).now.1.1.1.1.2) 1 _ rfl
      have Bpk2 := cell_arrS ((unhid K).now.1.1.1.1.2) 2 _ rfl
      have Bpk3 := cell_arrS ((unhid K).now.1.1.1.1.2) 3 _ rfl
      have Bxk0 := cell_arrS ((unhid K).now.1.1.2) 0 _ rfl
      have Byk0 := cell_arrS ((unhid K).now.2) 0 _ rfl
      go_wp2_with fail
      clear Brk0 Bpk0 Bpk1 Bpk2 Bpk3 Bxk0 Byk0
      refine (jsRoot_r ((unhid K).now.1.1.1.2) ((unhid K).now.1.1.1.1.1.1.1.2)).mono ?_
      rintro e W20 ⟨rfl, hb⟩
      have K := hid ((unhid K).step hb)
      clear hb
      have Brk0 := cell_arrS ((unhid K).now.1.1.1.1.1.2) 0 _ rfl
      have Bpk0 := cell_arrS ((unhid K).now.1.1.1.1.2) 0 _ rfl
      have Bpk1 := cell_arrS ((unhid K).now.1.1.1.1.2) 1 _ rfl
      have Bpk2 := cell_arrS ((unhid K).now.1.1.1.1.2) 2 _ rfl
      have Bpk3 := cell_arrS ((unhid K).now.1.1.1.1.2) 3 _ rfl
      have Bxk0 := cell_arrS ((unhid K).now.1.1.2) 0 _ rfl
      have Byk0 := cell_arrS ((unhid K).now.2) 0 _ rfl
      go_wp2_with fail
      clear Brk0 Bpk0 Bpk1 Bpk2 Bpk3 Bxk0 Byk0
      go_ret
      exact ⟨rfl, (unhid K).now.1.1.1.1.1.1.1.1⟩

set_option maxRecDepth 100000 in
set_option maxHeartbeats 1000000 in
theorem lifted_FnRootSwap (os : Os) (started : os.Started) (H : Type) (enc : TypeId × Value → H) :
    ReturnsInHanded {} Tryz.checked os 5 .any (Rows.fnRootSwapSpec.pre6 enc Tryz.prog Tryz.f5 Rows.fnRootSwapRow.domain false) (Rows.fnRootSwapSpec.post enc Tryz.prog Tryz.f5 false true false false) := by
  refine returnsInHanded_of_change (C := Tryz.checked) own started (by kernel_rfl) Tryz.func5
    (ChangeSpec.witness6 (enc := enc) (C := Tryz.checked) false ⟨#[], #[.slice none 0 0], []⟩ 8 (by kernel_rfl) (by kernel_rfl) (by kernel_rfl) (by kernel_rfl)) ?_
  intro W base args ds gs before hval0 hW _ _
  have hval : ∀ (j : Nat) t v, Tryz.f5.params[j]? = some t → args[j]? = some v → Value.okWide Tryz.prog W .any base t v := hval0
  have hW' := hW
  obtain ⟨p, q, hA0, hV, rfl, hfz, hnd⟩ := hW
  have hA : DataW.TrodAll enc Tryz.prog W 0 (fun _ => true) true Tryz.f5.params.toList args.toList ds p := hA0
  rw [Tryz.params5] at hA hval
  obtain ⟨v0, vs0, d0, ds0, p0, q0, e0, rfl, rfl, h0, r0⟩ := trodAll_cons hA
  obtain ⟨rfl, rfl, rfl⟩ := trodAll_nil r0
  obtain rfl : args = #[v0] := by cases args; simp_all
  obtain ⟨rfl, rfl⟩ := trodVars_none hV
  have hlt : ∀ x ∈ p0, x.block < W.heap.size := fun x hx => by simpa using hW'.lt x (by simpa using hx)
  have t0 := h0
  have l0 : ∀ x ∈ p0, x.block < W.heap.size := fun x hx => hlt x (by simp [hx])
  obtain ⟨a0, len0, cap0, rfl⟩ := okWide_slice Tryz.underlying22 (hval 0 22 v0 rfl rfl)
  obtain ⟨hc0, hn0⟩ := code_of h0 l0
  clear hA0 hval0
  refine (walk_FnRootSwap a0 len0 cap0 W hc0 hn0).mono fun e W' ⟨he, hb⟩ => ?_
  subst he
  exact ⟨_, rfl, post_below (gs := []) (pv := []) hW' (fun _ _ _ => trodAll_cons_mk (shut_bool Tryz.underlying4 _) trodAll_mk0) (trodAll_cons_mk (Below.trod laidOut (by kernel_rfl) (of_decide_eq_true (by kernel_rfl)) t0 hb l0) trodAll_mk0) rfl (by simp) hb⟩

theorem fnRootSwap_holds : Rows.FnRootSwapSaid :=
  OpenClaim.holds_of_wide 5 Tryz.f5 rfl rfl rfl rfl rfl rfl rfl ⟨rfl, rfl, rfl, rfl, rfl⟩ rfl rfl rfl rfl rfl (by kernel_rfl) Tryz.func5 (by kernel_rfl)
    (of_decide_eq_true (by kernel_rfl)) (by unfold Func.isWrapper; first | (rw [if_pos (by decide +kernel)]; kernel_rfl) | (rw [if_neg (by decide +kernel)]; exact ⟨rfl, rfl⟩))
    (fun os started H enc _ => lifted_FnRootSwap os started H enc)
end Go.Proofs.YtoljhgkgppjdcaaGreat
