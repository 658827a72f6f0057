/- Texts of this proof, one behind the other; each says at its head what it shows. -/
import Derived.Test.YtoihhlkidlapmaaGreatJoin11
import Derived.Test.YtoihhlkidlapmaaGreatJoin7
import Derived.Test.YtoihhlkidlapmaaGreatJoin2
import Derived.Deep.CutBlock
import Derived.Test.YtoihhlkidlapmaaGreatJoin12
/- Packs that are drawn. -/
namespace Go.Proofs.YtoihhlkidlapmaaGreat
open Go.RowKit Go.Shelf

/-- What the draw of packs gives. -/
structure PQ (w : World) (b : Nat) (a : Option Addr) (len cap q : Nat) (W : World) (v : Value) (L : List (It packC)) : Prop where
  row : NRow packC 34 W w.heap.size v L
  ok : ∀ d ∈ itD L, DPk d
  few : L.length ≤ 5
  rd : ∃ p', p' ≤ q ∧ Rd W b a len cap p'
  grown : w.grownBy W (some b)
def names4 : Array Value := #[.string ⟨#[111, 110, 101]⟩, .string ⟨#[116, 119, 111]⟩, .string ⟨#[116, 104, 114, 101, 101]⟩, .string ⟨#[122, 105, 112]⟩]
theorem names4_at (k : Nat) (hk : k < 4) : ∃ x, drawn x ∧ names4[k]? = some (.string x) := by
  match k, hk with
  | 0, _ => exact ⟨_, by unfold drawn; decide, rfl⟩
  | 1, _ => exact ⟨_, by unfold drawn; decide, rfl⟩
  | 2, _ => exact ⟨_, by unfold drawn; decide, rfl⟩
  | 3, _ => exact ⟨_, by unfold drawn; decide, rfl⟩
/-- What holds while packs are drawn. -/
def PI (w : World) (b : Nat) (a : Option Addr) (len cap p k : Nat) (v : Value) (L : List (It packC)) (wr : World) : Prop :=
  wr.heap[w.heap.size + 1]? = some (.cells names4 9 (0, 0)) ∧ w.heap.size + 1 < wr.heap.size ∧ NRow packC 34 wr w.heap.size v L ∧ (∀ k, (v.ownBlock = some k ∨ k ∈ itF L) → k ≠ w.heap.size + 1) ∧ (∀ d ∈ itD L, DPk d) ∧ L.length ≤ k ∧ w.grownBy wr (some b) ∧ ∃ p', p' ≤ p + k * 4 ∧ Rd wr b a len cap p'
theorem items_newF {W w3 : World} {N : Nat} {v : Value} {L : List (It packC)} {cs : List Value} {d : packC.D} {F : List Nat} (h : NRow packC 34 W N v L) (hN : N ≤ W.heap.size) (hfr : ∀ k, N ≤ k → k < W.heap.size → w3.heap[k]? = W.heap[k]?) (hown : packC.own w3 cs d F) (hF : ∀ k ∈ F, W.heap.size ≤ k) :
    NRow packC 34 w3 N v L ∧ Items packC w3 N (L ++ [(cs, d, F)]) ∧ (∀ g, v.ownBlock = some g → g ∉ itF [((cs, d, F) : It packC)]) := by
  have h3 := h.frame (fun k hk => hfr k (h.base k hk).1 (h.base k hk).2)
  refine ⟨h3, h3.items.snoc hown (M := W.heap.size) h.items.lt hF hN, fun g hg hk => ?_⟩
  have h1 := (h.base g (.inl hg)).2
  have h2 := hF g (by simpa [itF] using hk)
  omega
theorem need_one {W : World} {gm : Nat} {nm : ByteArray} {N : Nat} (h : W.heap[gm]? = some (.cells #[.string nm, .int .i64 0, .string ⟨#[]⟩] 36)) (hN : N ≤ gm) : NRow needC 36 W N (.slice (some ⟨gm, 0, none⟩) 1 1) [(([.string nm, .int .i64 0, .string ⟨#[]⟩], (⟨nm, 0, ⟨#[]⟩⟩ : NeedD), []) : It needC)] :=
  ⟨⟨rfl, .inr ⟨gm, 1, _, rfl, hN, h, Nat.le_refl _, by decide, rfl, rfl⟩⟩, need_items W N nm ⟨#[]⟩ 0, fun g _ hk => by simp [itF] at hk⟩
theorem dpk_of {name ver : ByteArray} {nL : List (It needC)} (hn : drawn name) (hv : short ver) (hl : nL.length ≤ 1) (hs : ∀ n ∈ itD nL, (NeedD.name n).size ≤ 100 ∧ (NeedD.version n).size ≤ 100) : DPk (⟨name, ver, itD nL, dEnts []⟩ : PackD) := by
  have h1 := drawn_short hn
  have h2 : ver.size ≤ 100 := hv
  have ht : treeOfP (⟨name, ver, itD nL, dEnts []⟩ : PackD) = [] := entsD_back []
  refine ⟨⟨show name.size ≤ 1048576 by omega, show ver.size ≤ 1048576 by omega, ⟨show (itD nL).length ≤ 1048576 by rw [itD_len]; omega, fun d hd => ?_⟩, ?_⟩, hn, by rw [ht]; exact fun e he => by cases he⟩
  · have := hs d hd
    exact ⟨by omega, by omega⟩
  · show smallE (entsD (dEnts []))
    rw [entsD_back]
    exact ⟨by simp, fun e he => by cases he⟩

set_option maxRecDepth 100000 in
set_option maxHeartbeats 16000000 in
theorem l11Packs_any (w : World) (b : Nat) (a : Option Addr) (len cap p : Nat) (h : Rd w b a len cap p) (hp : p ≤ 100000) :
    Calls Tryz.prog 58 #[.pointer (some ⟨b, 0, none⟩)] w fun x w' => ∃ v L, x = .returned v ∧ PQ w b a len cap (p + 300) w' v L := by
  have hbl := h.lt
  have H := hid ((h.alloc (.cells #[] 34)).alloc (.cells names4 9))
  have hR0 := two_boxes w (.cells #[] 34) (.cells names4 9)
  have hN0 := NRow.frame (W' := (w.alloc (.cells #[] 34)).alloc (.cells names4 9)) (NRow.empty (K := packC) (e := 34) w w.heap.size (Nat.le_refl _)) (fun k hk => World.grownBy_alloc (w.alloc (.cells #[] 34)) (.cells names4 9) none |>.block k ((NRow.empty (K := packC) (e := 34) w w.heap.size (Nat.le_refl _)).base k hk).2 (by intro e; cases e))
  have hG0 : w.grownBy ((w.alloc (.cells #[] 34)).alloc (.cells names4 9)) (some b) := grown_trans (World.grownBy_alloc w _ (some b)) (World.grownBy_alloc _ _ (some b))
  have hen : names4 = #[.string ⟨#[111, 110, 101]⟩, .string ⟨#[116, 119, 111]⟩, .string ⟨#[116, 104, 114, 101, 101]⟩, .string ⟨#[122, 105, 112]⟩] := rfl
  clear h
  go_enter Tryz.func58, Tryz.ntmps58
  go_upto_region 3 with fail
  rw [← hen]
  generalize (w.alloc (.cells #[] 34)).alloc (.cells names4 9) = w0 at H hR0 hG0 hN0 ⊢
  obtain ⟨hX0, hNm0, hS0⟩ := hR0
  have HP := hid (show PI w b a len cap p 0 (.slice (some ⟨w.heap.size, 0, none⟩) 0 0) [] w0 from ⟨hNm0, hS0, hN0, (fun k hk => by
    rcases hk with hk | hk
    · have : w.heap.size = k := by injection hk
      omega
    · cases hk), (fun d hd => by cases hd), Nat.le_refl _, hG0, p, by omega, unhid H⟩)
  clear hX0 hNm0 hS0 hN0 hG0 H hen
  go_wp2_with fail
  go_loopw [3, 5, 6] (fun v i s6 wr => ∃ (k : Nat) (L : List (It packC)), k ≤ 4 ∧ i = .int .i64 (k : Int) ∧ Hid (PI w b a len cap p k v L wr)) (fun _ i _ _ => 4 - (intOf i).toNat)
  case atStart => exact ⟨0, [], by omega, rfl, HP⟩
  case round =>
    clear HP
    obtain ⟨k, L, hk, rfl, HI⟩ := hrel
    obtain ⟨hNm, hz, hN, hap, hok, hfew, hG, p', hp', hRd⟩ := unhid HI
    obtain ⟨va, vc, rfl⟩ := nrow_slice hN
    by_cases hk4 : k < 4
    · have hk0 : (k : Int) < 4 := by omega
      clear HI
      go_wp2_with fail
      refine (pick_any wr b a len cap p' hRd (by omega) 4 (by omega) (by omega)).mono ?_
      rintro e w1 ⟨m, hm, rfl, hR1, hG1⟩
      have hNm1 := (hG1.block _ hz (by intro e; injection e; omega)).trans hNm
      have hz1 := Nat.lt_of_lt_of_le hz hG1.size
      have hN1 : NRow packC 34 w1 w.heap.size (.slice va L.length vc) L := nrow_grown hN hG1 hbl
      have hGw1 := grown_trans hG hG1
      have HLT := hid (fun g (e : (Value.slice va L.length vc).ownBlock = some g ∨ g ∈ itF L) => (hN1.base g e).2)
      clear hRd hN hNm hz hG hG1
      by_cases h0 : m = 0
      · subst h0
        go_wp2_with fail
        go_roundw
        case rel => exact ⟨k + 1, L, by omega, by go_num, hid ⟨hNm1, hz1, hN1, hap, hok, by omega, hGw1, p' + 1, by omega, hR1⟩⟩
        case measure => simp [intOf]; omega
      · have hm0 : (0 : Int) < (m : Int) := by omega
        obtain ⟨name, hname, hne⟩ := names4_at k hk4
        go_upto_region 7 with fail
        go_cut [6] from 9 to 37 (fun s6 wx => ∃ (g : Nat) (ver : ByteArray), s6 = .pointer (some ⟨g, 0, none⟩) ∧ Hid (short ver ∧ w1.grownBy wx (some b) ∧ w1.heap.size ≤ g ∧ g < wx.heap.size ∧ wx.heap[g]? = some (.cells #[.string name, .string ver, .slice none 0 0, .slice none 0 0] 34 (0, 0)) ∧ Rd wx b a len cap (p' + 2)))
        case first =>
          have hC0 : w1.grownBy w1.drew (some b) := ⟨rfl, rfl, rfl, Nat.le_refl _, fun _ _ _ => rfl⟩
          have gn : ∀ x : CW (fun w' => w1.grownBy w' (some b)), x.w.cell? ⟨w.heap.size + 1, k, none⟩ = some (.string name) := fun x => cell_arrS ((x.h.block _ hz1 (by intro e; injection e; omega)).trans hNm1) k _ hne
          have hba : ∀ {q : Prop}, (CW (fun w' => w1.grownBy w' (some b)) → q) ↔ q := CW.all hC0
          refine held_begin (fun w' => w1.grownBy w' (some b)) (by kernel_rfl) hC0 ?_
          refine held_here [true, true, true, true, true] (by kernel_rfl) (by kernel_rfl) (fun _ _ _ _ _ h => h) hC0 ?_
          dsimp only [pick]
          repeat (go_big_quiet_step (fail))
          refine wpQuiet_nil ?_
          have hR2 := hR1.of_below (drew_belowS (B := w1.heap.size) w1)
          have hlb1 : b < w1.heap.size := hR1.lt
          clear hba gn hN1 hNm1 hGw1 hR1 hok
          generalize w1.drew = w2 at hC0 hR2 ⊢
          refine held_op2 5 7 (by kernel_rfl) (by kernel_rfl) rfl rfl (fun KK hK => ?_) (fun KK hK => ?_)
          · refine call_op 111 23 (enters_of Tryz.func111 (by kernel_rfl) rfl) #[.pointer (some ⟨b, 0, none⟩)] rfl rfl rfl rfl ?_
            refine (l11Version_any w2 b a len cap (p' + 1) hR2 (by omega)).mono ?_
            rintro x w3 ⟨ver, hver, rfl, hR3, hG3⟩
            have hC3 := grown_trans hC0 hG3
            refine ⟨_, rfl, hK.out _ _ hC3 ?_⟩
            simp only [Act.put, List.setIfInBounds_toArray, List.set_cons_zero, List.set_cons_succ]
            clear hK KK hC0 hR2 hG3
            have hba : ∀ {q : Prop}, (CW (fun w' => w1.grownBy w' (some b)) → q) ↔ q := CW.all hC3
            refine held_here [false, false, false, false, false, false, true] (by kernel_rfl) (by kernel_rfl) (fun _ _ _ _ _ h => h) hC3 ?_
            dsimp only [pick]
            repeat (go_big_quiet_step (fail))
            refine wpQuiet_nil ?_
            clear hba
            refine held_op 7 (by kernel_rfl) (by kernel_rfl) rfl (fun KK hK => ?_)
            go_simp
            have hX4 := World.alloc_heap_new w3 (.cells #[.string ⟨#[]⟩, .string ⟨#[]⟩, .slice none 0 0, .slice none 0 0] 34)
            have hG34 : w3.grownBy (w3.alloc (.cells #[.string ⟨#[]⟩, .string ⟨#[]⟩, .slice none 0 0, .slice none 0 0] 34)) (some b) := World.grownBy_alloc w3 _ (some b)
            have hR4 := hR3.alloc (.cells #[.string ⟨#[]⟩, .string ⟨#[]⟩, .slice none 0 0, .slice none 0 0] 34)
            have hz4 : w3.heap.size < (w3.alloc (.cells #[.string ⟨#[]⟩, .string ⟨#[]⟩, .slice none 0 0, .slice none 0 0] 34)).heap.size := by simp
            have hC4 := grown_trans hC3 hG34
            refine hK.out _ _ hC4 ?_
            clear hK KK hG34
            generalize w3.alloc (.cells #[.string ⟨#[]⟩, .string ⟨#[]⟩, .slice none 0 0, .slice none 0 0] 34) = w4 at hX4 hR4 hz4 hC4 ⊢
            have hg3 : w1.heap.size ≤ w3.heap.size := hC3.size
            obtain ⟨c0, f0⟩ := cell_fz hX4 0 _ rfl
            obtain ⟨c1, f1⟩ := cell_fz hX4 1 _ rfl
            obtain ⟨c2, f2⟩ := cell_fz hX4 2 _ rfl
            obtain ⟨c3, f3⟩ := cell_fz hX4 3 _ rfl
            refine held_op 8 (by kernel_rfl) (by kernel_rfl) rfl (fun KK hK => ?_)
            go_simp
            have hB5 : Below w1.heap.size w4 ((((w4.setCell ⟨w3.heap.size, 0, none⟩ (.string name)).setCell ⟨w3.heap.size, 1, none⟩ (.string ver)).setCell ⟨w3.heap.size, 2, none⟩ (.slice none 0 0)).setCell ⟨w3.heap.size, 3, none⟩ (.slice none 0 0)) := setsW_below [.string name, .string ver, .slice none 0 0, .slice none 0 0] w4 w4 w1.heap.size (w3.heap.size) 0 (Below.refl _ _) hg3
            have hC5 := grown_low hC4 hB5
            refine hK.out _ _ hC5 ?_
            have hX5 := set4_same w4 (w3.heap.size) _ _ _ _ _ (.string name) (.string ver) (.slice none 0 0) (.slice none 0 0) hX4
            have HQ := hid (And.intro hver (And.intro hC5 (And.intro hg3 (And.intro (show w3.heap.size < ((((w4.setCell ⟨w3.heap.size, 0, none⟩ (.string name)).setCell ⟨w3.heap.size, 1, none⟩ (.string ver)).setCell ⟨w3.heap.size, 2, none⟩ (.slice none 0 0)).setCell ⟨w3.heap.size, 3, none⟩ (.slice none 0 0)).heap.size by simp; omega) (And.intro hX5 (Rd.low hR4 hB5 (by omega)))))))
            clear hK KK c0 f0 c1 f1 c2 f2 c3 f3 hX4 hX5 hC4 hB5 hR4
            refine held_done (by kernel_rfl) ?_
            go_wp2_with fail
            go_meet
            case rel => exact ⟨w3.heap.size, ver, rfl, HQ⟩
          · go_simp
            have hX3 := World.alloc_heap_new w2 (.cells #[.string ⟨#[]⟩, .string ⟨#[]⟩, .slice none 0 0, .slice none 0 0] 34)
            have hG23 : w2.grownBy (w2.alloc (.cells #[.string ⟨#[]⟩, .string ⟨#[]⟩, .slice none 0 0, .slice none 0 0] 34)) (some b) := World.grownBy_alloc w2 _ (some b)
            have hR3 := hR2.alloc (.cells #[.string ⟨#[]⟩, .string ⟨#[]⟩, .slice none 0 0, .slice none 0 0] 34)
            have hz3 : w2.heap.size < (w2.alloc (.cells #[.string ⟨#[]⟩, .string ⟨#[]⟩, .slice none 0 0, .slice none 0 0] 34)).heap.size := by simp
            have hC3 := grown_trans hC0 hG23
            have hb2 : b < w2.heap.size := hR2.lt
            refine hK.out _ _ hC3 ?_
            clear hK KK hG23
            generalize w2.alloc (.cells #[.string ⟨#[]⟩, .string ⟨#[]⟩, .slice none 0 0, .slice none 0 0] 34) = w3 at hX3 hR3 hz3 hC3 ⊢
            have hg3 : w1.heap.size ≤ w2.heap.size := hC0.size
            refine held_call 5 111 23 (enters_of Tryz.func111 (by kernel_rfl) rfl) #[.pointer (some ⟨b, 0, none⟩)] (by kernel_rfl) (by kernel_rfl) rfl rfl rfl rfl rfl ?_
            refine (l11Version_any w3 b a len cap (p' + 1) hR3 (by omega)).mono ?_
            rintro x w4 ⟨ver, hver, rfl, hR4, hG4⟩
            have hC4 := grown_trans hC3 hG4
            have hX4 := (hG4.block w2.heap.size hz3 (by intro e; injection e; omega)).trans hX3
            have hz4 : w2.heap.size < w4.heap.size := Nat.lt_of_lt_of_le hz3 hG4.size
            refine ⟨_, rfl, hC4, ?_⟩
            simp only [Act.put, List.setIfInBounds_toArray, List.set_cons_zero, List.set_cons_succ]
            have hba : ∀ {q : Prop}, (CW (fun w' => w1.grownBy w' (some b)) → q) ↔ q := CW.all hC4
            refine held_here [false, false, false, false, false, false, true] (by kernel_rfl) (by kernel_rfl) (fun _ _ _ _ _ h => h) hC4 ?_
            dsimp only [pick]
            repeat (go_big_quiet_step (fail))
            refine wpQuiet_nil ?_
            clear hba
            obtain ⟨c0, f0⟩ := cell_fz hX4 0 _ rfl
            obtain ⟨c1, f1⟩ := cell_fz hX4 1 _ rfl
            obtain ⟨c2, f2⟩ := cell_fz hX4 2 _ rfl
            obtain ⟨c3, f3⟩ := cell_fz hX4 3 _ rfl
            refine held_op 8 (by kernel_rfl) (by kernel_rfl) rfl (fun KK hK => ?_)
            go_simp
            have hB5 : Below w1.heap.size w4 ((((w4.setCell ⟨w2.heap.size, 0, none⟩ (.string name)).setCell ⟨w2.heap.size, 1, none⟩ (.string ver)).setCell ⟨w2.heap.size, 2, none⟩ (.slice none 0 0)).setCell ⟨w2.heap.size, 3, none⟩ (.slice none 0 0)) := setsW_below [.string name, .string ver, .slice none 0 0, .slice none 0 0] w4 w4 w1.heap.size (w2.heap.size) 0 (Below.refl _ _) hg3
            have hC5 := grown_low hC4 hB5
            refine hK.out _ _ hC5 ?_
            have hX5 := set4_same w4 (w2.heap.size) _ _ _ _ _ (.string name) (.string ver) (.slice none 0 0) (.slice none 0 0) hX4
            have HQ := hid (And.intro hver (And.intro hC5 (And.intro hg3 (And.intro (show w2.heap.size < ((((w4.setCell ⟨w2.heap.size, 0, none⟩ (.string name)).setCell ⟨w2.heap.size, 1, none⟩ (.string ver)).setCell ⟨w2.heap.size, 2, none⟩ (.slice none 0 0)).setCell ⟨w2.heap.size, 3, none⟩ (.slice none 0 0)).heap.size by simp; omega) (And.intro hX5 (Rd.low hR4 hB5 (by omega)))))))
            clear hK KK c0 f0 c1 f1 c2 f2 c3 f3 hX4 hX5 hC4 hB5 hR4
            refine held_done (by kernel_rfl) ?_
            go_wp2_with fail
            go_meet
            case rel => exact ⟨w2.heap.size, ver, rfl, HQ⟩
        case rest =>
          rename World => w3
          obtain ⟨g, ver, rfl, HC⟩ := hcut
          obtain ⟨hver, hC3, hg1, hg2, hX3, hR3⟩ := unhid HC
          have hlb1 : b < w1.heap.size := hR1.lt
          clear HC hR1
          go_wp2_with fail
          refine (pick_any w3 b a len cap (p' + 2) hR3 (by omega) 2 (by omega) (by omega)).mono ?_
          rintro e w4 ⟨m2, hm2, rfl, hR4, hG4⟩
          have hC4 := grown_trans hC3 hG4
          have hX4 := (hG4.block g hg2 (by intro e; injection e; omega)).trans hX3
          have hg4 : g < w4.heap.size := Nat.lt_of_lt_of_le hg2 hG4.size
          clear hR3 hC3 hX3 hG4 hg2
          by_cases h2 : m2 = 0
          · subst h2
            have hNm4 := (hC4.block _ hz1 (by intro e; injection e; omega)).trans hNm1
            go_wp2_with fail
            refine (of_any drawn w4 b a len cap (p' + 3) hR4 (by omega) (w.heap.size + 1) 4 4 (by omega) (by omega) (by omega) (fun j hj => by
              obtain ⟨x, h1, h2⟩ := names4_at j hj
              exact ⟨x, h1, cell_arrS hNm4 j _ h2⟩)).mono ?_
            rintro e w5 ⟨nm, hnm, rfl, hR5, hG5⟩
            have hC5 := grown_trans hC4 hG5
            have hX5 := (hG5.block g hg4 (by intro e; injection e; omega)).trans hX4
            have hg5 : g < w5.heap.size := Nat.lt_of_lt_of_le hg4 hG5.size
            have hX6 : (w5.alloc (.cells #[.string nm, .int .i64 0, .string ⟨#[]⟩] 36)).heap[g]? = some (.cells #[.string name, .string ver, .slice none 0 0, .slice none 0 0] 34 (0, 0)) := ((Below.refl w5.heap.size w5).alloc (Nat.le_refl _) _ |>.block g hg5).trans hX5
            obtain ⟨c2, f2⟩ := cell_fz hX6 2 _ rfl
            clear hR4 hC4 hX4 hG5 hNm4
            go_upto_region 10 with fail
            clear c2 f2 hX6
            have hs6 : (w5.setCell ⟨g, 2, none⟩ (.slice (some ⟨w5.heap.size, 0, none⟩) 1 1)).heap.size = w5.heap.size := by simp
            have hX6 := heap_setCell_same w5 g 2 _ _ (.slice (some ⟨w5.heap.size, 0, none⟩) 1 1) hX5
            have hBw : Below g w5 (w5.setCell ⟨g, 2, none⟩ (.slice (some ⟨w5.heap.size, 0, none⟩) 1 1)) := (Below.refl _ w5).setCell (p := ⟨g, 2, none⟩) (Nat.le_refl _) _
            have hR6 := Rd.low hR5 hBw (by omega)
            have hC6 : w1.grownBy (w5.setCell ⟨g, 2, none⟩ (.slice (some ⟨w5.heap.size, 0, none⟩) 1 1)) (some b) := grown_low hC5 (hBw.mono (by omega))
            generalize w5.setCell ⟨g, 2, none⟩ (.slice (some ⟨w5.heap.size, 0, none⟩) 1 1) = w6 at hs6 hX6 hR6 hC6 ⊢
            have hX7 := ((Below.refl w6.heap.size w6).alloc (Nat.le_refl _) (.cells #[.string nm, .int .i64 0, .string ⟨#[]⟩] 36)).block g (by omega) |>.trans hX6
            have hY7 := World.alloc_heap_new w6 (.cells #[.string nm, .int .i64 0, .string ⟨#[]⟩] 36)
            rw [hs6] at hY7
            have hR7 := hR6.alloc (.cells #[.string nm, .int .i64 0, .string ⟨#[]⟩] 36)
            have hC7 := grown_trans hC6 (World.grownBy_alloc w6 (.cells #[.string nm, .int .i64 0, .string ⟨#[]⟩] 36) (some b))
            have hq7 : w5.heap.size < (w6.alloc (.cells #[.string nm, .int .i64 0, .string ⟨#[]⟩] 36)).heap.size := by simp; omega
            have hg7 : g < (w6.alloc (.cells #[.string nm, .int .i64 0, .string ⟨#[]⟩] 36)).heap.size := by omega
            have hw15 := hC5.size
            generalize w6.alloc (.cells #[.string nm, .int .i64 0, .string ⟨#[]⟩] 36) = w7 at hX7 hY7 hR7 hC7 hg7 hq7 ⊢
            have hmn := drawn_short hnm
            have hK7 : DK w7 w1.heap.size (.slice (some ⟨w5.heap.size, 0, none⟩) 1 1) [(([.string nm, .int .i64 0, .string ⟨#[]⟩], (⟨nm, 0, ⟨#[]⟩⟩ : NeedD), []) : It needC)] (.slice none 0 0) [] := ⟨need_one hY7 hw15, NRow.none w7 _, rfl, fun g _ e => by cases e⟩
            have hdp : DPk (⟨name, ver, itD [(([.string nm, .int .i64 0, .string ⟨#[]⟩], (⟨nm, 0, ⟨#[]⟩⟩ : NeedD), []) : It needC)], dEnts []⟩ : PackD) := dpk_of hname hver (Nat.le_refl _) (fun n hn => by
              have hn' := List.mem_singleton.1 (show n ∈ [(⟨nm, 0, ⟨#[]⟩⟩ : NeedD)] from hn)
              rw [hn']
              exact ⟨hmn, show (0 : Nat) ≤ 100 by omega⟩)
            clear hX6 hR6 hC6 hs6 hBw hg4 hX5 hg5 hR5 hC5 hw15
            obtain ⟨F7, hown7, hF7⟩ := hK7.own name ver
            have hnew := World.alloc_heap_new w7 (.cells #[.string name, .string ver, (.slice (some ⟨w5.heap.size, 0, none⟩) 1 1), .slice none 0 0] 34)
            have hb8 : Below w7.heap.size w7 (w7.alloc (.cells #[.string name, .string ver, (.slice (some ⟨w5.heap.size, 0, none⟩) 1 1), .slice none 0 0] 34)) := (Below.refl _ w7).alloc (Nat.le_refl _) _
            have hown8 := packC.frame hown7 (fun j hj => hb8.block j (hF7 j hj).2)
            obtain ⟨q1, q2, q3⟩ := items_newF hN1 (Nat.le_trans (Nat.le_of_lt (by omega : w.heap.size < w.heap.size + 1)) (Nat.le_of_lt hz1)) (fun j h1 h2 => (hb8.block j (Nat.lt_of_lt_of_le h2 hC7.size)).trans (hC7.block j h2 (by intro e; injection e; omega))) hown8 (fun j hj => (hF7 j hj).1)
            have HQ := hid (And.intro q1 (And.intro q2 q3))
            have HCL := hid (show ∀ j u, (itCells [(([.string name, .string ver, (.slice (some ⟨w5.heap.size, 0, none⟩) 1 1), .slice none 0 0], (⟨name, ver, itD [(([.string nm, .int .i64 0, .string ⟨#[]⟩], (⟨nm, 0, ⟨#[]⟩⟩ : NeedD), []) : It needC)], dEnts []⟩ : PackD), F7) : It packC)])[j]? = some u → (w7.alloc (.cells #[.string name, .string ver, (.slice (some ⟨w5.heap.size, 0, none⟩) 1 1), .slice none 0 0] 34)).cell? ⟨w7.heap.size, 0 + j, none⟩ = some u from fun j u hj => by
              rw [Nat.zero_add]
              refine cell_arrS hnew j u ?_
              have hj' : [.string name, .string ver, (.slice (some ⟨w5.heap.size, 0, none⟩) 1 1), .slice none 0 0][j]? = some u := by simpa [itCells] using hj
              simpa using hj')
            have HL := hid (show L.length + 1 ≤ 4194304 by omega)
            have HSZ := hid (show w.heap.size ≤ (w7.alloc (.cells #[.string name, .string ver, (.slice (some ⟨w5.heap.size, 0, none⟩) 1 1), .slice none 0 0] 34)).heap.size from Nat.le_trans (by have := hC7.size; omega) hb8.size)
            have HB8 := hid hb8
            have HG7 := hid (grown_trans hGw1 hC7)
            have HF7 := hid hF7
            have HNM := hid ((hC7.block _ hz1 (by intro e; injection e; omega)).trans hNm1)
            have hs7 := hC7.size
            obtain ⟨c0, -⟩ := cell_fz hX7 0 _ rfl
            obtain ⟨c1, -⟩ := cell_fz hX7 1 _ rfl
            obtain ⟨c2, -⟩ := cell_fz hX7 2 _ rfl
            obtain ⟨c3, -⟩ := cell_fz hX7 3 _ rfl
            clear hown7 hF7 hnew hb8 hown8 q1 q2 q3 hK7 hX7 hC7 hNm1 hN1 hGw1
            go_wp2_with (at_builtin; refine wp_items etPack onePack _ rfl _ _ rfl w.heap.size _ L [(([.string name, .string ver, (.slice (some ⟨w5.heap.size, 0, none⟩) 1 1), .slice none 0 0], (⟨name, ver, itD [(([.string nm, .int .i64 0, .string ⟨#[]⟩], (⟨nm, 0, ⟨#[]⟩⟩ : NeedD), []) : It needC)], dEnts []⟩ : PackD), F7) : It packC)] w7.heap.size 0 1 (unhid HQ).1 (unhid HQ).2.1 (unhid HQ).2.2 (unhid HCL) (unhid HL) (unhid HSZ) rfl rfl ?_)
            intro v' w9 hgr
            have hb8 := unhid HB8
            have hG79 : w7.grownBy w9 (Value.slice va L.length vc).ownBlock := grown_transR (below_grown _ hb8) hgr.by_
            have hB79 : Below w.heap.size w7 w9 := ⟨hG79.os, hG79.tape, hG79.output, hG79.size, fun j hj => hG79.block j (by omega) (fun e => by have := ((unhid HQ).1.base j (.inl e.symm)).1; omega)⟩
            have hgrow : w.grownBy w9 (some b) := grown_low (unhid HG7) hB79
            have hR9 := Rd.low hR7 hB79 hbl
            have HI := hid (show PI w b a len cap p (k + 1) v' (L ++ [(([.string name, .string ver, (.slice (some ⟨w5.heap.size, 0, none⟩) 1 1), .slice none 0 0], (⟨name, ver, itD [(([.string nm, .int .i64 0, .string ⟨#[]⟩], (⟨nm, 0, ⟨#[]⟩⟩ : NeedD), []) : It needC)], dEnts []⟩ : PackD), F7) : It packC)]) w9 from
              ⟨(hG79.block _ (by omega) (fun e => hap _ (.inl e.symm) rfl)).trans (unhid HNM), Nat.lt_of_lt_of_le (by omega) hG79.size, hgr.row, (fun j hj => by
                rcases hj with hj | hj
                · rcases hgr.block with h | h
                  · exact hap j (.inl (h ▸ hj))
                  · rw [h] at hj; injection hj with hj
                    have := hb8.size; omega
                · rw [itF_app] at hj
                  rcases List.mem_append.1 hj with hj | hj
                  · exact hap j (.inr hj)
                  · have := ((unhid HF7) j (by simpa [itF] using hj)).1; omega), (fun d hd => by
                rw [itD_app] at hd
                rcases List.mem_append.1 hd with hd | hd
                · exact hok d hd
                · rw [List.mem_singleton.1 (show d ∈ [(⟨name, ver, itD [(([.string nm, .int .i64 0, .string ⟨#[]⟩], (⟨nm, 0, ⟨#[]⟩⟩ : NeedD), []) : It needC)], dEnts []⟩ : PackD)] from hd)]; exact hdp), by simp; omega, hgrow, _, by omega, hR9⟩)
            clear hgr hb8 hG79 hgrow hR9 HQ HCL HB8 HG7 HF7 HNM c0 c1 c2 c3 hR7
            go_wp2_with fail
            go_roundw
            case rel => exact ⟨k + 1, _, by omega, by go_num, HI⟩
            case measure => simp [intOf]; omega
          · have h2i : ((m2 : Int) == 0) = false := by rw [beq_eq_false_iff_ne]; omega
            have h2j : ¬ ((m2 : Int) = 0) := by omega
            go_upto_region 10 with fail
            have hX7 := hX4
            have hR7 := hR4
            have hC7 := hC4
            have hg7 := hg4
            have hK7 : DK w4 w1.heap.size (.slice none 0 0) [] (.slice none 0 0) [] := ⟨NRow.none w4 _, NRow.none w4 _, rfl, fun g e => by cases e⟩
            have hdp : DPk (⟨name, ver, itD ([] : List (It needC)), dEnts []⟩ : PackD) := dpk_of hname hver (by simp) (fun n hn => by cases hn)
            clear hX4 hR4 hC4 hg4
            generalize w4 = w7 at *
            obtain ⟨F7, hown7, hF7⟩ := hK7.own name ver
            have hnew := World.alloc_heap_new w7 (.cells #[.string name, .string ver, (.slice none 0 0), .slice none 0 0] 34)
            have hb8 : Below w7.heap.size w7 (w7.alloc (.cells #[.string name, .string ver, (.slice none 0 0), .slice none 0 0] 34)) := (Below.refl _ w7).alloc (Nat.le_refl _) _
            have hown8 := packC.frame hown7 (fun j hj => hb8.block j (hF7 j hj).2)
            obtain ⟨q1, q2, q3⟩ := items_newF hN1 (Nat.le_trans (Nat.le_of_lt (by omega : w.heap.size < w.heap.size + 1)) (Nat.le_of_lt hz1)) (fun j h1 h2 => (hb8.block j (Nat.lt_of_lt_of_le h2 hC7.size)).trans (hC7.block j h2 (by intro e; injection e; omega))) hown8 (fun j hj => (hF7 j hj).1)
            have HQ := hid (And.intro q1 (And.intro q2 q3))
            have HCL := hid (show ∀ j u, (itCells [(([.string name, .string ver, (.slice none 0 0), .slice none 0 0], (⟨name, ver, itD [], dEnts []⟩ : PackD), F7) : It packC)])[j]? = some u → (w7.alloc (.cells #[.string name, .string ver, (.slice none 0 0), .slice none 0 0] 34)).cell? ⟨w7.heap.size, 0 + j, none⟩ = some u from fun j u hj => by
              rw [Nat.zero_add]
              refine cell_arrS hnew j u ?_
              have hj' : [.string name, .string ver, (.slice none 0 0), .slice none 0 0][j]? = some u := by simpa [itCells] using hj
              simpa using hj')
            have HL := hid (show L.length + 1 ≤ 4194304 by omega)
            have HSZ := hid (show w.heap.size ≤ (w7.alloc (.cells #[.string name, .string ver, (.slice none 0 0), .slice none 0 0] 34)).heap.size from Nat.le_trans (by have := hC7.size; omega) hb8.size)
            have HB8 := hid hb8
            have HG7 := hid (grown_trans hGw1 hC7)
            have HF7 := hid hF7
            have HNM := hid ((hC7.block _ hz1 (by intro e; injection e; omega)).trans hNm1)
            have hs7 := hC7.size
            obtain ⟨c0, -⟩ := cell_fz hX7 0 _ rfl
            obtain ⟨c1, -⟩ := cell_fz hX7 1 _ rfl
            obtain ⟨c2, -⟩ := cell_fz hX7 2 _ rfl
            obtain ⟨c3, -⟩ := cell_fz hX7 3 _ rfl
            clear hown7 hF7 hnew hb8 hown8 q1 q2 q3 hK7 hX7 hC7 hNm1 hN1 hGw1
            go_wp2_with (at_builtin; refine wp_items etPack onePack _ rfl _ _ rfl w.heap.size _ L [(([.string name, .string ver, (.slice none 0 0), .slice none 0 0], (⟨name, ver, itD [], dEnts []⟩ : PackD), F7) : It packC)] w7.heap.size 0 1 (unhid HQ).1 (unhid HQ).2.1 (unhid HQ).2.2 (unhid HCL) (unhid HL) (unhid HSZ) rfl rfl ?_)
            intro v' w9 hgr
            have hb8 := unhid HB8
            have hG79 : w7.grownBy w9 (Value.slice va L.length vc).ownBlock := grown_transR (below_grown _ hb8) hgr.by_
            have hB79 : Below w.heap.size w7 w9 := ⟨hG79.os, hG79.tape, hG79.output, hG79.size, fun j hj => hG79.block j (by omega) (fun e => by have := ((unhid HQ).1.base j (.inl e.symm)).1; omega)⟩
            have hgrow : w.grownBy w9 (some b) := grown_low (unhid HG7) hB79
            have hR9 := Rd.low hR7 hB79 hbl
            have HI := hid (show PI w b a len cap p (k + 1) v' (L ++ [(([.string name, .string ver, (.slice none 0 0), .slice none 0 0], (⟨name, ver, itD [], dEnts []⟩ : PackD), F7) : It packC)]) w9 from
              ⟨(hG79.block _ (by omega) (fun e => hap _ (.inl e.symm) rfl)).trans (unhid HNM), Nat.lt_of_lt_of_le (by omega) hG79.size, hgr.row, (fun j hj => by
                rcases hj with hj | hj
                · rcases hgr.block with h | h
                  · exact hap j (.inl (h ▸ hj))
                  · rw [h] at hj; injection hj with hj
                    have := hb8.size; omega
                · rw [itF_app] at hj
                  rcases List.mem_append.1 hj with hj | hj
                  · exact hap j (.inr hj)
                  · have := ((unhid HF7) j (by simpa [itF] using hj)).1; omega), (fun d hd => by
                rw [itD_app] at hd
                rcases List.mem_append.1 hd with hd | hd
                · exact hok d hd
                · rw [List.mem_singleton.1 (show d ∈ [(⟨name, ver, itD [], dEnts []⟩ : PackD)] from hd)]; exact hdp), by simp; omega, hgrow, _, by omega, hR9⟩)
            clear hgr hb8 hG79 hgrow hR9 HQ HCL HB8 HG7 HF7 HNM c0 c1 c2 c3 hR7
            go_wp2_with fail
            go_roundw
            case rel => exact ⟨k + 1, _, by omega, by go_num, HI⟩
            case measure => simp [intOf]; omega
    · have e4 : k = 4 := by omega
      subst e4
      clear HI
      go_wp2_with fail
      refine (pick_any wr b a len cap p' hRd (by omega) 10 (by omega) (by omega)).mono ?_
      rintro e w1 ⟨m, hm, rfl, hR1, hG1⟩
      have hN1 : NRow packC 34 w1 w.heap.size (.slice va L.length vc) L := nrow_grown hN hG1 hbl
      have hGw1 := grown_trans hG hG1
      clear hRd hN hNm hz hG hG1 hap
      by_cases h0 : m = 0
      · subst h0
        go_wp2_with fail
        refine (l11AnyPack_any w1 b a len cap (p' + 1) hR1 (by omega)).mono ?_
        rintro e w7 ⟨name, ver, nv, nL, tv, ts, rfl, hname, hQ⟩
        have hdp := hQ.pack hname
        have hC7 := hQ.grown
        obtain ⟨p7, hp7, hR7⟩ := hQ.rd
        have hK7 := hQ.k
        clear hQ hR1
        obtain ⟨F7, hown7, hF7⟩ := hK7.own name ver
        have hnew := World.alloc_heap_new w7 (.cells #[.string name, .string ver, nv, tv] 34)
        have hb8 : Below w7.heap.size w7 (w7.alloc (.cells #[.string name, .string ver, nv, tv] 34)) := (Below.refl _ w7).alloc (Nat.le_refl _) _
        have hown8 := packC.frame hown7 (fun j hj => hb8.block j (hF7 j hj).2)
        obtain ⟨q1, q2, q3⟩ := items_newF hN1 hGw1.size (fun j h1 h2 => (hb8.block j (Nat.lt_of_lt_of_le h2 hC7.size)).trans (hC7.block j h2 (by intro e; injection e; omega))) hown8 (fun j hj => by have := (hF7 j hj).1; omega)
        have HQ := hid (And.intro q1 (And.intro q2 q3))
        have HCL := hid (show ∀ j u, (itCells [(([.string name, .string ver, nv, tv], (⟨name, ver, itD nL, dEnts ts⟩ : PackD), F7) : It packC)])[j]? = some u → (w7.alloc (.cells #[.string name, .string ver, nv, tv] 34)).cell? ⟨w7.heap.size, 0 + j, none⟩ = some u from fun j u hj => by
          rw [Nat.zero_add]
          refine cell_arrS hnew j u ?_
          have hj' : [.string name, .string ver, nv, tv][j]? = some u := by simpa [itCells] using hj
          simpa using hj')
        have HL := hid (show L.length + 1 ≤ 4194304 by omega)
        have HSZ := hid (show w.heap.size ≤ (w7.alloc (.cells #[.string name, .string ver, nv, tv] 34)).heap.size from Nat.le_trans (Nat.le_trans hGw1.size hC7.size) hb8.size)
        have HB8 := hid hb8
        have HG7 := hid (grown_trans hGw1 hC7)
        clear hown7 hnew hb8 hown8 q1 q2 q3 hK7 hC7 hN1 hGw1 hF7
        go_wp2_with (at_builtin; refine wp_items etPack onePack _ rfl _ _ rfl w.heap.size _ L [(([.string name, .string ver, nv, tv], (⟨name, ver, itD nL, dEnts ts⟩ : PackD), F7) : It packC)] w7.heap.size 0 1 (unhid HQ).1 (unhid HQ).2.1 (unhid HQ).2.2 (unhid HCL) (unhid HL) (unhid HSZ) rfl rfl ?_)
        intro v' w9 hgr
        have hb8 := unhid HB8
        have hG79 : w7.grownBy w9 (Value.slice va L.length vc).ownBlock := grown_transR (below_grown _ hb8) hgr.by_
        have hB79 : Below w.heap.size w7 w9 := ⟨hG79.os, hG79.tape, hG79.output, hG79.size, fun j hj => hG79.block j (Nat.lt_of_lt_of_le hj (unhid HG7).size) (fun e => by have := ((unhid HQ).1.base j (.inl e.symm)).1; omega)⟩
        have HF := hid (show PQ w b a len cap (p + 300) w9 v' (L ++ [(([.string name, .string ver, nv, tv], (⟨name, ver, itD nL, dEnts ts⟩ : PackD), F7) : It packC)]) from
          ⟨hgr.row, (fun d hd => by
            rw [itD_app] at hd
            rcases List.mem_append.1 hd with hd | hd
            · exact hok d hd
            · rw [List.mem_singleton.1 (show d ∈ [(⟨name, ver, itD nL, dEnts ts⟩ : PackD)] from hd)]; exact hdp), by simp; omega, ⟨p7, by omega, Rd.low hR7 hB79 hbl⟩, grown_low (unhid HG7) hB79⟩)
        obtain ⟨ra, rc, rfl⟩ := grew_slice hgr
        clear hgr hb8 hG79 hB79 HQ HCL HB8 HG7 hR7
        go_wp2_with fail
        go_ret
        exact ⟨_, _, rfl, unhid HF⟩
      · have h0' : ((m : Int) == 0) = false := by rw [beq_eq_false_iff_ne]; omega
        have h0i : ¬ ((m : Int) = 0) := by omega
        have HF := hid (show PQ w b a len cap (p + 300) w1 (.slice va L.length vc) L from ⟨hN1, hok, by omega, ⟨p' + 1, by omega, hR1⟩, hGw1⟩)
        clear hN1 hR1 hGw1
        go_wp2_with fail
        go_ret
        exact ⟨_, _, rfl, unhid HF⟩
end Go.Proofs.YtoihhlkidlapmaaGreat

/- What the laws of closures draw. -/
namespace Go.Proofs.YtoihhlkidlapmaaGreat
open Go.RowKit Go.Shelf

/-- Packs and names that are drawn. -/
structure DC (W : World) (v V : Value) (ps : List packC.D) (xs : List ByteArray) : Prop where
  packs : rowAt packC W v ps
  names : rowAt txtC W V xs
  ok : ∀ d ∈ ps, DPk d
  few : ps.length ≤ 5
  fewx : xs.length ≤ 3
  short : ∀ x ∈ xs, short x
theorem DC.below {W W' : World} {v V : Value} {ps : List packC.D} {xs : List ByteArray} (h : DC W v V ps xs) (hb : Below W.heap.size W W') : DC W' v V ps xs := ⟨h.packs.below hb, h.names.below hb, h.ok, h.few, h.fewx, h.short⟩
theorem DC.small {W : World} {v V : Value} {ps : List packC.D} {xs : List ByteArray} (h : DC W v V ps xs) : smallPs ps := ⟨by have := h.few; omega, fun d hd => (h.ok d hd).small⟩
theorem ownsRow_frame {W W' : World} {N e n size : Nat} {v : Value} {xs : List Value} (h : W.ownsRow N e size v n xs) (hk : ∀ k, N ≤ k → k < W.heap.size → W'.heap[k]? = W.heap[k]?) : W'.ownsRow N e size v n xs := by
  refine ⟨h.1, ?_⟩
  rcases h.2 with h0 | ⟨g, cap, cur, hv, hg, hh, h2⟩
  · exact .inl h0
  · exact .inr ⟨g, cap, cur, hv, hg, (hk g hg (Array.getElem?_eq_some_iff.1 hh).1).trans hh, h2⟩
theorem own_ge {W : World} {N n : Nat} {v : Value} {xs : List ByteArray} (h : W.ownsRow N 9 1 v n (xs.map Value.string)) : ∀ k, v.ownBlock = some k → N ≤ k ∧ k < W.heap.size := fun k hk => by
  rcases h.2 with ⟨rfl, _⟩ | ⟨g, cap, cur, rfl, hg, hh, _⟩
  · cases hk
  · have : g = k := by injection hk
    subst this
    exact ⟨hg, (Array.getElem?_eq_some_iff.1 hh).1⟩
/-- What holds while names are drawn. -/
def NI (w : World) (a : Option Addr) (len cap m : Nat) (v : Value) (xs : List ByteArray) (wr : World) : Prop :=
  wr.ownsRow (w.heap.size + 1) 9 1 v xs.length (xs.map Value.string) ∧ xs.length + m ≤ 3 ∧ (∀ x ∈ xs, short x) ∧ Below w.heap.size w wr ∧ w.heap.size < wr.heap.size ∧ ∃ p', p' + m ≤ 4 ∧ Rd wr w.heap.size a len cap p'
set_option maxRecDepth 100000 in
set_option maxHeartbeats 8000000 in
theorem DrawClosure_any (w : World) (a : Option Addr) (len cap : Nat) (h : Code w w.heap.size a len) (hl : len ≤ 1048576) (hc : len ≤ cap) :
    Calls Tryz.prog 15 #[.slice a len cap] w fun x w' => ∃ v V ps xs, x = .returned (.tuple #[v, V]) ∧ DC w' v V ps xs ∧ Below w.heap.size w w' := by
  have H := hid h
  clear h
  go_enter Tryz.func15, Tryz.ntmps15
  go_wp2_with fail
  refine (l1Open_any w a len cap (unhid H) hl hc).mono ?_
  rintro e w1 ⟨rfl, ⟨l', c', hR⟩, hB1⟩
  have hlt1 := hR.lt
  have hO := ownsRow_lowerS (ownsRow_made0 w1) (N := w.heap.size + 1) (by omega)
  have hR1 := hR.alloc (.cells #[] 9)
  have hB := hB1.trans (((Below.refl _ w1).alloc (Nat.le_refl _) (.cells #[] 9)).mono hB1.size)
  have hz : w.heap.size < (w1.alloc (.cells #[] 9)).heap.size := by simp; omega
  have HB0 := hid hlt1
  clear H hB1 hR
  go_wp2_with fail
  generalize w1.alloc (.cells #[] 9) = w2 at hO hR1 hB hz ⊢
  refine (pick_any w2 w.heap.size a l' c' 0 hR1 (by omega) 4 (by omega) (by omega)).mono ?_
  rintro e w3 ⟨m, hm, rfl, hR3, hG⟩
  have HN := hid (show NI w a l' c' m (.slice (some ⟨w1.heap.size, 0, none⟩) 0 0) [] w3 from ⟨ownsRow_frame hO (fun k h1 h2 => hG.block k h2 (by intro e; injection e; omega)), by simp; omega, (fun x hx => by cases hx), hB.trans (grown_below hG (Nat.le_refl _) hB.size), Nat.lt_of_lt_of_le hz hG.size, 1, by omega, hR3⟩)
  clear hO hR1 hB hz hG hR3
  go_wp2_with fail
  go_loopw [5, 6] (fun v n wr => ∃ (m : Nat) (xs : List ByteArray), n = .int .i64 (m : Int) ∧ Hid (NI w a l' c' m v xs wr)) (fun _ n _ => (intOf n).toNat)
  case atStart => exact ⟨m, [], rfl, HN⟩
  case round =>
    clear HN
    obtain ⟨m, xs, rfl, HI⟩ := hrel
    obtain ⟨hO, hfew, hsh, hB, hz, p', hp', hR⟩ := unhid HI
    obtain ⟨va, vc, rfl, -, -, -⟩ := ownsRow_txts hO
    clear HI
    by_cases h0 : m = 0
    · subst h0
      have HO := hid hO
      clear hO
      go_wp2_with fail
      refine (l11Packs_any wr w.heap.size a l' c' p' hR (by omega)).mono ?_
      rintro e w4 ⟨v, L, rfl, hQ⟩
      have hN4 := ownsRow_at (ownsRow_frame (W' := w4) (unhid HO) (fun k h1 h2 => hQ.grown.block k h2 (by intro e; injection e; omega)))
      have hP4 : rowAt packC w4 v (itD L) := by obtain ⟨F, h1, _⟩ := hQ.row.own; exact h1.toAt
      obtain ⟨ua, uc, rfl⟩ := nrow_slice hQ.row
      have HF := hid (And.intro (show DC w4 (.slice ua L.length uc) (.slice va xs.length vc) (itD L) xs from ⟨hP4, hN4, hQ.ok, by rw [itD_len]; exact hQ.few, by omega, hsh⟩) (hB.trans (grown_below hQ.grown (Nat.le_refl _) hB.size)))
      clear hN4 hP4 hQ hR hB HO
      go_wp2_with fail
      exact bodyPost_ret (v := .tuple #[.slice ua L.length uc, .slice va xs.length vc]) (by simp [results, Tryz.results15, go_sem]) rfl ⟨_, _, _, _, rfl, (unhid HF).1, (unhid HF).2⟩
    · have hm0 : (0 : Int) < (m : Int) := by omega
      have HO := hid hO
      clear hO
      go_wp2_with fail
      refine (of_any short _ w.heap.size a l' c' p' (hR.alloc _) (by omega) wr.heap.size 5 5 (by omega) (by omega) (by omega) ?h5).mono ?_
      case h5 => exact fun k hk => row_short_at _ _ _ _ rfl (by kernel_rfl) k hk
      rintro e w3 ⟨x, hx, rfl, hR3, hG⟩
      have hG3 := grown_trans (World.grownBy_alloc wr _ (some w.heap.size)) hG
      have hO3 := ownsRow_frame (W' := w3) (unhid HO) (fun k h1 h2 => hG3.block k h2 (by intro e; injection e; omega))
      have hO4 := ownsRow_belowS hO3 ((Below.refl w3.heap.size w3).alloc (Nat.le_refl _) (.cells #[.string x] 9))
      have hx4 : (w3.alloc (.cells #[.string x] 9)).cell? ⟨w3.heap.size, 0, none⟩ = some (.string x) := cell_arrS (World.alloc_heap_new w3 (.cells #[.string x] 9)) 0 _ rfl
      have hR4 := hR3.alloc (.cells #[.string x] 9)
      have hz4 : w.heap.size + 1 ≤ (w3.alloc (.cells #[.string x] 9)).heap.size := by have := hG3.size; simp; omega
      have hB4 := hB.trans ((grown_below hG3 (Nat.le_refl _) hB.size).alloc (Nat.le_trans hB.size hG3.size) (.cells #[.string x] 9))
      have H4 := hid (And.intro hO4 (And.intro hx4 (And.intro hR4 (And.intro hz4 hB4))))
      have HLEN := hid (show xs.length ≤ 4294967296 by omega)
      clear hG hG3 hO3 hO4 hx4 hR4 hz4 hB4 hR3 hR hB HO
      go_wp2_with (at_builtin; refine wp_name rfl _ _ rfl (w.heap.size + 1) _ xs x _ rfl rfl (unhid H4).1 (unhid H4).2.1 (unhid HLEN) (unhid H4).2.2.2.1 ?_)
      intro v' w5 hO5 hg5
      have hO5 : w5.ownsRow (w.heap.size + 1) 9 1 v' (xs ++ [x]).length ((xs ++ [x]).map Value.string) := by simpa using hO5
      obtain ⟨na, nc, rfl, -, -, -⟩ := ownsRow_txts hO5
      have hb5 : Below (w.heap.size + 1) (w3.alloc (.cells #[.string x] 9)) w5 := ⟨hg5.os, hg5.tape, hg5.output, hg5.size, fun k hk => hg5.block k (Nat.lt_of_lt_of_le hk (unhid H4).2.2.2.1) (fun e => by have := (own_ge (unhid H4).1 k e.symm).1; omega)⟩
      have HX := hid (show NI w a l' c' (m - 1) (.slice na (xs ++ [x]).length nc) (xs ++ [x]) w5 from ⟨hO5, by rw [List.length_append]; simp; omega, (fun y hy => by
        rcases List.mem_append.1 hy with hy | hy
        · exact hsh y hy
        · rw [List.mem_singleton.1 hy]; exact hx), (unhid H4).2.2.2.2.trans (hb5.mono (by omega)), Nat.lt_of_lt_of_le (unhid H4).2.2.2.1 hb5.size, p' + 1, by omega, Rd.low (unhid H4).2.2.1 hb5 (by omega)⟩)
      clear hO5 hg5 hb5 H4
      go_wp2_with fail
      go_roundw
      case rel => exact ⟨m - 1, _, by go_num, HX⟩
      case measure => simp [intOf]; omega
end Go.Proofs.YtoihhlkidlapmaaGreat

/- The laws of closures: what comes of Closure as mathematics, the contracts, and what keeps. -/
namespace Go.Proofs.YtoihhlkidlapmaaGreat
open Go.RowKit Go.Shelf Go.Maps

theorem needs_code {α : Type} {f : α → List α → List α × Int} (hf : ∀ y o, (f y o).2 = 0 ∨ (f y o).2 = 3 ∨ (f y o).2 = 4) : ∀ (ns : List (α × Bool)) (out : List α), (needsF f ns out).2 = 0 ∨ (needsF f ns out).2 = 3 ∨ (needsF f ns out).2 = 4
  | [], _ => .inl rfl
  | n :: ns, out => by
    rw [needsF]
    split
    · exact .inr (.inl rfl)
    · split
      · exact needs_code hf ns _
      · exact hf _ _
theorem cls_code {α : Type} [DecidableEq α] (G : α → Option (List (α × Bool))) : ∀ (f : Nat) (x : α) (out op : List α), (clsF G f x out op).2 = 0 ∨ (clsF G f x out op).2 = 3 ∨ (clsF G f x out op).2 = 4
  | 0, _, _, _ => .inr (.inr rfl)
  | f + 1, x, out, op => by
    rw [clsF]
    split
    · exact .inl rfl
    · cases G x with
      | none => exact .inr (.inl rfl)
      | some ns =>
        dsimp only
        split
        · exact .inr (.inr rfl)
        · split
          · exact .inl rfl
          · exact needs_code (fun y o => cls_code G f y o (op ++ [x])) ns out
theorem closeL_code {α : Type} {f : α → List α → List α × Int} (hf : ∀ y o, (f y o).2 = 0 ∨ (f y o).2 = 3 ∨ (f y o).2 = 4) : ∀ (xs out : List α), (closeL f xs out).2 = 0 ∨ (closeL f xs out).2 = 3 ∨ (closeL f xs out).2 = 4
  | [], _ => .inl rfl
  | x :: xs, out => by
    rw [closeL]
    split
    · exact closeL_code hf xs _
    · exact hf _ _
theorem closure_code {ps : List packC.D} (h : packsCode ps = 0) (xs : List ByteArray) : closure_1 ps xs = 0 ∨ closure_1 ps xs = 3 ∨ closure_1 ps xs = 4 := by
  unfold closure_1 closeR
  rw [if_pos h]
  exact closeL_code (fun y o => cls_code _ _ _ _ _) _ _
theorem closure_form {ps : List packC.D} (h : packsCode ps ≠ 0) (xs : List ByteArray) : closure_1 ps xs = packsCode ps ∧ closure_0 ps xs = [] ∧ (packsCode ps = 1 ∨ packsCode ps = 2) := by
  refine ⟨by unfold closure_1 closeR; rw [if_neg h], by unfold closure_0 closeR; rw [if_neg h], ?_⟩
  unfold packsCode at h ⊢
  split
  · rename_i h1
    rw [if_pos h1] at h
    split
    · exact .inr rfl
    · rename_i h2
      rw [if_neg h2] at h
      exact absurd rfl h
  · exact .inl rfl
theorem closure_nil (ps : List packC.D) : closure_0 ps [] = [] ∧ closure_1 ps [] = packsCode ps := by
  unfold closure_0 closure_1 closeR
  split
  · rename_i h; exact ⟨rfl, h.symm⟩
  · exact ⟨rfl, rfl⟩
theorem closure_nobody {ps : List packC.D} (h : packsCode ps = 0) {x : ByteArray} (hx : x ∉ namesP ps) : closure_1 ps [x] = 3 := by
  unfold closure_1 closeR
  rw [if_pos h]
  have e : clsF (graphP ps) (ps.length + 1) x [] [] = ([], 3) := by
    rw [clsF, if_neg (by simp), graph_none hx]
  rw [closeL, e]
  rfl
/-- What is needed is again all that is needed. -/
theorem closure_again {ps : List packC.D} {xs : List ByteArray} (h : closure_1 ps xs = 0) : closure_0 ps (closure_0 ps xs) = closure_0 ps xs ∧ closure_1 ps (closure_0 ps xs) = 0 := by
  obtain ⟨hc, hg, -, -⟩ := closure_good h
  have hl := good_len hg
  generalize closure_0 ps xs = out at hg hl ⊢
  have e : closeL (fun x o => clsF (graphP ps) (ps.length + 1) x o []) out [] = (out, 0) := by
    by_cases h0 : ps.length = 0
    · have : out = [] := List.length_eq_zero_iff.1 (by omega)
      subst this
      rfl
    · have := close_again (N := ps.length + 1) (by omega) hg out.length 0 (by omega)
      simpa using this
  unfold closure_0 closure_1 closeR
  rw [if_pos hc, e]
  exact ⟨rfl, rfl⟩
/-- Whoever is in the list has what it needs ahead of it. -/
theorem good_needs {ps : List packC.D} {out : List ByteArray} (hn : (namesP ps).Nodup) (hg : GoodL (graphP ps) out) {k i j : Nat} {x : ByteArray} {p : packC.D} {n : needC.D} (hx : out[k]? = some x) (hp : ps[i]? = some p) (he : PackD.name p = x) (hj : (needsOf p)[j]? = some n) : NeedD.name n ∈ out.take k := by
  obtain ⟨-, ns, h1, h2⟩ := hg k x hx
  subst he
  rw [graph_at hn hp] at h1
  cases h1
  exact (h2 _ (List.mem_of_getElem? (asks_get (ps := ps) hj))).2
theorem close_take {α : Type} {f : α → List α → List α × Int} : ∀ (xs out : List α), (closeL f xs out).2 = 0 → ∀ i, (closeL f (xs.take i) out).2 = 0
  | [], out, h, i => by rw [List.take_nil]; rfl
  | x :: xs, out, h, 0 => rfl
  | x :: xs, out, h, i + 1 => by
    rw [List.take_succ_cons, closeL]
    rw [closeL] at h
    split
    · rename_i h2
      rw [if_pos h2] at h
      exact close_take xs _ h i
    · rename_i h2
      rw [if_neg h2] at h
      exact absurd h h2
/-- What comes of the first names. -/
def sumL (ps : List packC.D) (xs : List ByteArray) (i : Nat) : List ByteArray := (closeL (fun x o => clsF (graphP ps) (ps.length + 1) x o []) (xs.take i) []).1
theorem sum_0 (ps : List packC.D) (xs : List ByteArray) : sumL ps xs 0 = [] := rfl
theorem sum_all {ps : List packC.D} {xs : List ByteArray} (h : closure_1 ps xs = 0) : sumL ps xs xs.length = closure_0 ps xs := by
  unfold sumL
  rw [List.take_length, (closure_good h).2.2.1]
theorem sum_step {ps : List packC.D} {xs : List ByteArray} (h : closure_1 ps xs = 0) {i : Nat} {x : ByteArray} (hx : xs[i]? = some x) :
    closure_1 ps [x] = 0 ∧ sumL ps xs (i + 1) = moreF (sumL ps xs i) (closure_0 ps [x]) ∧ (∃ t, closure_0 ps [x] = t ++ [x]) ∧ ∀ y ∈ closure_0 ps [x], y ∈ closure_0 ps xs := by
  obtain ⟨hc, hg, he, -⟩ := closure_good h
  have hall : (closeL (fun x o => clsF (graphP ps) (ps.length + 1) x o []) xs []).2 = 0 := by rw [he]
  have h1 := close_take xs [] hall i
  have h2 := close_take xs [] hall (i + 1)
  obtain ⟨hgi, -, -⟩ := close_ok (G := graphP ps) (N := ps.length + 1) (xs.take i) [] h1 (good_nil _)
  obtain ⟨a1, a2⟩ := close_at hx h1
  have hz : (clsF (graphP ps) (ps.length + 1) x (closeL (fun x o => clsF (graphP ps) (ps.length + 1) x o []) (xs.take i) []).1 []).2 = 0 := by
    by_cases hz : (clsF (graphP ps) (ps.length + 1) x (closeL (fun x o => clsF (graphP ps) (ps.length + 1) x o []) (xs.take i) []).1 []).2 = 0
    · exact hz
    · rw [a1 hz] at hall
      exact absurd hall hz
  have hl : (namesP ps).length = ps.length := namesP_len ps
  obtain ⟨b1, b2, t, b3⟩ := cls_one (G := graphP ps) (V := namesP ps) (B := (closeL (fun x o => clsF (graphP ps) (ps.length + 1) x o []) (xs.take i) []).1) (fun z hz => graph_in hz) hgi (x := x) (by rw [hl]; exact hz)
  rw [hl] at b1 b2 b3
  have e0 : closure_0 ps [x] = (clsF (graphP ps) (ps.length + 1) x [] []).1 := by
    unfold closure_0 closeR
    rw [if_pos hc, closeL, if_pos b1, closeL]
  have e1 : closure_1 ps [x] = 0 := by
    unfold closure_1 closeR
    rw [if_pos hc, closeL, if_pos b1, closeL]
  have e2 : sumL ps xs (i + 1) = moreF (sumL ps xs i) (closure_0 ps [x]) := by
    unfold sumL
    rw [a2 hz, b2, e0]
  refine ⟨e1, e2, ⟨t, by rw [e0]; exact b3⟩, fun y hy => ?_⟩
  have hin : y ∈ sumL ps xs (i + 1) := by rw [e2]; exact mem_more.2 (.inr hy)
  have hsp : closeL (fun x o => clsF (graphP ps) (ps.length + 1) x o []) (xs.take (i + 1) ++ xs.drop (i + 1)) [] = (closure_0 ps xs, 0) := by rw [List.take_append_drop]; exact he
  rw [close_app _ _ _ h2] at hsp
  obtain ⟨hg2, -, -⟩ := close_ok (G := graphP ps) (N := ps.length + 1) (xs.take (i + 1)) [] h2 (good_nil _)
  obtain ⟨-, ⟨t2, ht2⟩, -⟩ := close_ok (G := graphP ps) (N := ps.length + 1) (xs.drop (i + 1)) _ (by rw [hsp]) hg2
  rw [hsp] at ht2
  have ht2 : closure_0 ps xs = sumL ps xs (i + 1) ++ t2 := ht2
  rw [ht2]
  exact List.mem_append_left _ hin

/-- Texts that are read. -/
structure TR (W : World) (a : Option Addr) (c : Nat) (xs : List ByteArray) : Prop where
  row : rowAt txtC W (.slice a xs.length c) xs
  few : xs.length ≤ 1000
  small : ∀ x ∈ xs, x.size ≤ 1048576
theorem TR.below {W W' : World} {a : Option Addr} {c : Nat} {xs : List ByteArray} (h : TR W a c xs) (hb : Below W.heap.size W W') : TR W' a c xs := ⟨h.row.below hb, h.few, h.small⟩
theorem TR.txts {W : World} {a : Option Addr} {c : Nat} {xs : List ByteArray} (h : TR W a c xs) : TxtsAt W a xs ∧ (a = none → c = 0) ∧ xs.length ≤ c := by
  obtain ⟨a', c', e, h1, h2, h3⟩ := rowAt_txts h.row
  injection e with e1 _ e3
  subst e1 e3
  exact ⟨h1, h2, h3⟩
theorem TR.nil (W : World) : TR W none 0 [] := ⟨row0 W, Nat.zero_le _, fun x hx => by cases hx⟩
theorem TR.one {W : World} {g : Nat} {x : ByteArray} (h : W.heap[g]? = some (.cells #[.string x] 9 (0, 0))) (hx : x.size ≤ 1048576) : TR W (some ⟨g, 0, none⟩) 1 [x] :=
  ⟨rowAt_of_txts (xs := [x]) (.inr ⟨g, 0, rfl, (Array.getElem?_eq_some_iff.1 h).1, fun i y hi => by
    rw [Nat.zero_add]
    cases i with
    | zero => simp at hi; subst hi; exact cell_arrS h 0 _ rfl
    | succ i => simp at hi⟩) (fun e => by cases e) (Nat.le_refl _), by simp, fun y hy => by rw [List.mem_singleton.1 hy]; exact hx⟩
theorem TR.get {W : World} {a : Option Addr} {c : Nat} {xs : List ByteArray} (h : TR W a c xs) {i : Nat} {x : ByteArray} (hi : xs[i]? = some x) : ∃ b o, a = some ⟨b, o, none⟩ ∧ b < W.heap.size ∧ W.cell? ⟨b, o + i, none⟩ = some (.string x) := by
  obtain ⟨b, o, h1, h2, h3⟩ := h.txts.1.get (by intro e; subst e; simp at hi)
  exact ⟨b, o, h1, h2, h3 i x hi⟩
theorem dc_rr {W : World} {v V : Value} {ps : List packC.D} {xs : List ByteArray} (h : DC W v V ps xs) : ∃ a c, v = .slice a ps.length c ∧ RR W a c ps := by
  obtain ⟨a, c, rfl, -⟩ := rowAt.slice h.packs
  exact ⟨a, c, rfl, h.packs, h.small, by have := h.few; omega⟩
theorem dc_tr {W : World} {v V : Value} {ps : List packC.D} {xs : List ByteArray} (h : DC W v V ps xs) : ∃ a c, V = .slice a xs.length c ∧ TR W a c xs := by
  obtain ⟨a, c, rfl, -⟩ := rowAt_txts h.names
  exact ⟨a, c, rfl, h.names, by have := h.fewx; omega, fun x hx => by have : x.size ≤ 100 := h.short x hx; omega⟩
theorem KW.txts {Φ : World → Prop} {W : World} (h : KW Φ W) {a : Option Addr} {c : Nat} {xs : List ByteArray} (hr : TR W a c xs) : KW (fun W => Φ W ∧ TR W a c xs) W := h.add (fun _ _ hb hp => hp.below hb) hr
theorem dpk_name {ps : List packC.D} (h : ∀ d ∈ ps, DPk d) {x : ByteArray} (hx : x ∈ namesP ps) : drawn x := by
  obtain ⟨i, hi⟩ := List.getElem?_of_mem hx
  obtain ⟨p, hp, rfl⟩ := namesP_some hi
  exact (h p (List.mem_of_getElem? hp)).name
theorem nobodys_no (h : drawn ⟨#[110, 111, 98, 111, 100, 121, 115]⟩) : False := by
  unfold drawn at h
  revert h
  decide
def CloT (ps : List packC.D) (xs : List ByteArray) (W : World) (x : Ending) (w' : World) : Prop := ∃ a c, x = .returned (.tuple #[.slice a (closure_0 ps xs).length c, .int .i64 (closure_1 ps xs)]) ∧ TR w' a c (closure_0 ps xs) ∧ Below W.heap.size W w'
theorem cloT_of {ps : List packC.D} {xs : List ByteArray} {W w' : World} {v : Value} (hs : smallPs ps) (hf : ps.length ≤ 100) (ho : w'.ownsRow W.heap.size 9 1 v (closure_0 ps xs).length ((closure_0 ps xs).map Value.string)) (hb : Below W.heap.size W w') : CloT ps xs W (.returned (.tuple #[v, .int .i64 (closure_1 ps xs)])) w' := by
  obtain ⟨a, c, rfl, -, -, -⟩ := ownsRow_txts ho
  obtain ⟨h1, h2⟩ := closure_in ps xs
  exact ⟨a, c, rfl, ⟨ownsRow_at ho, by omega, fun x hx => names_small hs x (h2 x hx)⟩, hb⟩
theorem implClo_r {W : World} {pa xa : Option Addr} {pc xc : Nat} {ps : List packC.D} {xs : List ByteArray} (h : RR W pa pc ps) (hx : TR W xa xc xs) : Calls Tryz.prog 16 #[.slice pa ps.length pc, .slice xa xs.length xc] W (CloT ps xs W) := by
  refine (implClosure_any ps pa pc xs _ W h.small (by have := hx.few; omega) (fun x hm => le_maxLen (hx.small x hm)) h.row hx.row).mono ?_
  rintro e w' ⟨v, rfl, ho, hb⟩
  exact cloT_of h.small h.few ho hb
theorem specClo_r {W : World} {pa xa : Option Addr} {pc xc : Nat} {ps : List packC.D} {xs : List ByteArray} (h : RR W pa pc ps) (hx : TR W xa xc xs) : Calls Tryz.prog 17 #[.slice pa ps.length pc, .slice xa xs.length xc] W (CloT ps xs W) := by
  refine (specClosure_any ps pa pc xs _ W h.small (by have := hx.few; omega) h.row hx.row).mono ?_
  rintro e w' ⟨⟨v, rfl, ho⟩, hb⟩
  exact cloT_of h.small h.few ho hb
set_option maxRecDepth 100000 in
set_option maxHeartbeats 4000000 in
theorem jsTexts_t {xs : List ByteArray} {a b : Option Addr} {cap cap2 : Nat} {w : World} (hx : TR w a cap xs) (hy : TR w b cap2 xs) :
    Calls Tryz.prog 18 #[.slice a xs.length cap, .slice b xs.length cap2] w fun r w' => r = .returned (.bool true) ∧ Below w.heap.size w w' := by
  have h := hx.txts.1
  have h2 := hy.txts.1
  have hlen := hx.few
  clear hx hy
  have hl' : ((xs.length : Int) != (xs.length : Int)) = false := by simp
  go_enter Tryz.func18, Tryz.ntmps18
  go_wp2_with fail
  go_loopw [5] (fun i wr => ∃ k : Nat, k ≤ xs.length ∧ i = .int .i64 k ∧ Below w.heap.size w wr) (fun i _ => xs.length - (intOf i).toNat)
  case atStart => exact ⟨0, Nat.zero_le _, rfl, Below.refl _ _⟩
  case round =>
    obtain ⟨k, hk, rfl, hB⟩ := hrel
    by_cases hlt : k < xs.length
    · obtain ⟨e, he⟩ : ∃ e, xs[k]? = some e := ⟨xs[k], List.getElem?_eq_getElem hlt⟩
      obtain ⟨bb, o, rfl, hbl, hc⟩ := h.get (by intro e; subst e; simp at hlt)
      obtain ⟨bb2, o2, rfl, hbl2, hc2⟩ := h2.get (by intro e; subst e; simp at hlt)
      have c0 := (hB.cell (p := ⟨bb, o + k, .none⟩) hbl).trans (hc k e he)
      have d0 := (hB.cell (p := ⟨bb2, o2 + k, .none⟩) hbl2).trans (hc2 k e he)
      have HB := hid hB
      have HH := hid (And.intro h (And.intro h2 (And.intro hc hc2)))
      have hq : (e.toList != e.toList) = false := by simp
      clear hc hc2 hB he h h2
      go_wp2_with fail
      go_quiet (fail)
      go_wp2_with fail
      go_roundw
      case rel => exact ⟨k + 1, by omega, by go_num, ⟨(unhid HB).os, (unhid HB).tape, (unhid HB).output, (unhid HB).size, (unhid HB).block⟩⟩
      case measure => simp [intOf]; omega
    · have e : k = xs.length := by omega
      subst e
      go_wp2_with fail
      go_ret
      exact ⟨rfl, hB⟩
theorem mem_take_succ {xs : List ByteArray} {k : Nat} {x y : ByteArray} (hx : xs[k]? = some x) : y ∈ xs.take (k + 1) ↔ y ∈ xs.take k ∨ y = x := by
  rw [List.take_add_one, hx]; simp
set_option maxRecDepth 100000 in
set_option maxHeartbeats 4000000 in
theorem jsHas_t {xs : List ByteArray} {a : Option Addr} {cap : Nat} {w : World} (y : ByteArray) (hx : TR w a cap xs) :
    Calls Tryz.prog 19 #[.slice a xs.length cap, .string y] w fun r w' => r = .returned (.bool (memB y xs)) ∧ Below w.heap.size w w' := by
  have h := hx.txts.1
  have hlen := hx.few
  clear hx
  go_enter Tryz.func19, Tryz.ntmps19
  go_wp2_with fail
  go_loopw [5] (fun i wr => ∃ k : Nat, k ≤ xs.length ∧ i = .int .i64 k ∧ Hid (y ∉ xs.take k) ∧ Below w.heap.size w wr) (fun i _ => xs.length - (intOf i).toNat)
  case atStart => exact ⟨0, Nat.zero_le _, rfl, hid (by simp), Below.refl _ _⟩
  case round =>
    obtain ⟨k, hk, rfl, HN, hB⟩ := hrel
    by_cases hlt : k < xs.length
    · obtain ⟨e, he⟩ : ∃ e, xs[k]? = some e := ⟨xs[k], List.getElem?_eq_getElem hlt⟩
      obtain ⟨bb, o, rfl, hbl, hc⟩ := h.get (by intro e; subst e; simp at hlt)
      have c0 := (hB.cell (p := ⟨bb, o + k, .none⟩) hbl).trans (hc k e he)
      have HB := hid hB
      have HH := hid (And.intro h hc)
      have HE := hid he
      clear hc hB he h
      by_cases hey : e = y
      · have hq : (e.toList == y.toList) = true := by rw [hey]; simp
        have HM := hid (memB_yes (show y ∈ xs from List.mem_of_getElem? (hey ▸ unhid HE)))
        clear hey
        go_wp2_with fail
        go_ret
        exact ⟨by rw [unhid HM]; rfl, ⟨(unhid HB).os, (unhid HB).tape, (unhid HB).output, (unhid HB).size, (unhid HB).block⟩⟩
      · have hq : (e.toList == y.toList) = false := by
          rw [beq_eq_false_iff_ne]
          intro h
          exact hey (bytes_eq (by rw [← Lib.toList_data, ← Lib.toList_data]; exact h))
        have HN2 := hid (show y ∉ xs.take (k + 1) from fun hm => ((mem_take_succ (unhid HE)).1 hm).elim (unhid HN) (fun h => hey h.symm))
        clear hey
        go_wp2_with fail
        go_roundw
        case rel => exact ⟨k + 1, by omega, by go_num, HN2, ⟨(unhid HB).os, (unhid HB).tape, (unhid HB).output, (unhid HB).size, (unhid HB).block⟩⟩
        case measure => simp [intOf]; omega
    · have e : k = xs.length := by omega
      subst e
      have HM := hid (memB_no (show y ∉ xs by have := unhid HN; rwa [List.take_length] at this))
      go_wp2_with fail
      go_ret
      exact ⟨by rw [unhid HM]; rfl, hB⟩
theorem TR.take {W : World} {a : Option Addr} {c : Nat} {xs : List ByteArray} (h : TR W a c xs) {n : Nat} (hn : n ≤ xs.length) : TR W a c (xs.take n) := by
  obtain ⟨h1, h2, h3⟩ := h.txts
  refine ⟨rowAt_of_txts ?_ h2 (by rw [List.length_take]; omega), by rw [List.length_take]; have := h.few; omega, fun x hx => h.small x (List.mem_of_mem_take hx)⟩
  rcases h1 with h1 | ⟨b, o, e, hb, hc⟩
  · exact .inl (by rw [h1, List.take_nil])
  · refine .inr ⟨b, o, e, hb, fun i x hi => hc i x ?_⟩
    have hl : i < (xs.take n).length := (List.getElem?_eq_some_iff.1 hi).1
    rw [List.length_take] at hl
    rwa [List.getElem?_take_of_lt (by omega)] at hi
theorem jsHas_n {xs : List ByteArray} {a : Option Addr} {cap : Nat} {w : World} (y : ByteArray) (hx : TR w a cap xs) {n : Nat} (hn : n ≤ xs.length) :
    Calls Tryz.prog 19 #[.slice a n cap, .string y] w fun r w' => r = .returned (.bool (memB y (xs.take n))) ∧ Below w.heap.size w w' := by
  have h := jsHas_t y (hx.take hn)
  rwa [List.length_take, Nat.min_eq_left hn] at h
end Go.Proofs.YtoihhlkidlapmaaGreat

/- The laws of closures: a row that a law appends to. -/
namespace Go.Proofs.YtoihhlkidlapmaaGreat
open Go.RowKit Go.Shelf Go.Maps

theorem implClo_o {W : World} {pa xa : Option Addr} {pc xc : Nat} {ps : List packC.D} {xs : List ByteArray} (h : RR W pa pc ps) (hx : TR W xa xc xs) : Calls Tryz.prog 16 #[.slice pa ps.length pc, .slice xa xs.length xc] W (fun x w' => ∃ a c, x = .returned (.tuple #[.slice a (closure_0 ps xs).length c, .int .i64 (closure_1 ps xs)]) ∧ TR w' a c (closure_0 ps xs) ∧ (∀ b o, a = some ⟨b, o, none⟩ → W.heap.size ≤ b) ∧ Below W.heap.size W w') := by
  refine (implClosure_any ps pa pc xs _ W h.small (by have := hx.few; omega) (fun x hm => le_maxLen (hx.small x hm)) h.row hx.row).mono ?_
  rintro e w' ⟨v, rfl, ho, hb⟩
  obtain ⟨a, c, rfl, -, -, hg⟩ := ownsRow_txts ho
  obtain ⟨h1, h2⟩ := closure_in ps xs
  have h3 := h.few
  exact ⟨a, c, rfl, ⟨ownsRow_at ho, by omega, fun x hx => names_small h.small x (h2 x hx)⟩, fun b o e => (hg b o e).2.1, hb⟩
theorem TR.sub {W : World} {b o c : Nat} {xs : List ByteArray} (h : TR W (some ⟨b, o, none⟩) c xs) {i : Nat} {x : ByteArray} (hi : xs[i]? = some x) : TR W (some ⟨b, o + i, none⟩) (c - i) [x] := by
  have hl := (List.getElem?_eq_some_iff.1 hi).1
  obtain ⟨b', o', e, hb, hc⟩ := h.get hi
  cases e
  have := h.txts.2.2
  exact ⟨rowAt_of_txts (xs := [x]) (.inr ⟨b, o + i, rfl, hb, fun j y hj => by
    cases j with
    | zero => simp at hj; subst hj; simpa using hc
    | succ j => simp at hj⟩) (fun e => by cases e) (by show 1 ≤ c - i; omega), by simp, fun y hy => by rw [List.mem_singleton.1 hy]; exact h.small x (List.mem_of_getElem? hi)⟩
theorem TR.frame {W W' : World} {b o c : Nat} {xs : List ByteArray} (h : TR W (some ⟨b, o, none⟩) c xs) (hb : W'.heap[b]? = W.heap[b]?) : TR W' (some ⟨b, o, none⟩) c xs := by
  obtain ⟨h1, h2, h3⟩ := h.txts
  refine ⟨rowAt_of_txts ?_ h2 h3, h.few, h.small⟩
  rcases h1 with h1 | ⟨b', o', e, hl, hc⟩
  · exact .inl h1
  · cases e
    refine .inr ⟨b, o, rfl, ?_, fun i x hi => (World.cell?_of_block (w := W) hb).trans (hc i x hi)⟩
    have e1 : W.heap[b]? = some W.heap[b] := Array.getElem?_eq_getElem hl
    rw [e1] at hb
    exact (Array.getElem?_eq_some_iff.1 hb).1
theorem app_nameB (w : World) (base ty : Nat) (v : Value) (xs : List ByteArray) (x : ByteArray) (g : Nat) (hown : w.ownsRow base 9 1 v xs.length (xs.map Value.string)) (h : w.cell? ⟨g, 0, none⟩ = some (.string x)) (hn : xs.length ≤ 4294967296) (hb : base ≤ w.heap.size) :
    ∃ v' w', (Builtin.append_ #[24, 24] ty #[v, .slice (some ⟨g, 0, none⟩) 1 1]).run Tryz.prog w = .ok v' w' ∧ w'.ownsRow base 9 1 v' (xs ++ [x]).length ((xs ++ [x]).map Value.string) ∧ w.grownBy w' v.ownBlock ∧ (v'.ownBlock = v.ownBlock ∨ v'.ownBlock = some w.heap.size) := by
  obtain ⟨i0, hi, hz0, hz1, hz2⟩ := info_parts infoStr
  obtain ⟨v', w', hr, h2, h3, _, h5⟩ := run_append_own_at (P := Tryz.prog) w base 24 ty 9 i0 (.string ⟨#[]⟩) 1 16 Tryz.underlying24 hi hz0 hz1 hz2 rfl (by decide) v xs.length _ hown ⟨g, 0, none⟩ 1 1 [.string x] (by simp) (by
    intro j u hj
    have : j = 0 := by
      have := (List.getElem?_eq_some_iff.1 hj).1
      simpa using this
    subst this
    simp at hj
    subst hj
    exact h) (str_oneN x) (by unfold maxLen; omega) (by omega) hb
  refine ⟨v', w', hr, ?_, h3, h5⟩
  rw [List.map_append, List.length_append]
  exact h2
theorem wp_nameB {ops : Array Oper} {rest : List Oper} {o : Oper} {a : Act} {w : World} {Q : Exit → Act → World → Prop} (hgd : o.guard = none) (s y : Operand) (ho : o.op = .call { callee := .builtin .append, args := #[s, y], argTypes := #[24, 24] })
    (base : Nat) (v : Value) (xs : List ByteArray) (x : ByteArray) (g : Nat) (hs : a.eval s = v) (hx : a.eval y = .slice (some ⟨g, 0, none⟩) 1 1) (hown : w.ownsRow base 9 1 v xs.length (xs.map Value.string)) (h : w.cell? ⟨g, 0, none⟩ = some (.string x)) (hn : xs.length ≤ 4294967296) (hb : base ≤ w.heap.size)
    (hk : ∀ v' w', w'.ownsRow base 9 1 v' (xs ++ [x]).length ((xs ++ [x]).map Value.string) → w.grownBy w' v.ownBlock → (v'.ownBlock = v.ownBlock ∨ v'.ownBlock = some w.heap.size) → wpList Tryz.prog ops Q rest (a.put o.dst v') w') : wpList Tryz.prog ops Q (o :: rest) a w := by
  refine wpList_plain hgd fun K hK => ?_
  obtain ⟨v', w', hr, h2, h3, h4⟩ := app_nameB w base o.type v xs x g hown h hn hb
  unfold Oper.wp execOp
  simp only [ho, resolve, invoke, builtin, Sem.run_bind, Sem.run_pure, Result.andThen_ok, List.map_toArray, List.map_cons, List.map_nil, hs, hx, hr]
  exact hK _ _ (hk v' w' h2 h3 h4)
theorem sum_len (ps : List packC.D) {xs : List ByteArray} (h : closure_1 ps xs = 0) (i : Nat) : (sumL ps xs i).length ≤ ps.length ∧ ∀ y ∈ sumL ps xs i, y ∈ namesP ps := by
  obtain ⟨-, -, he, -⟩ := closure_good h
  have h1 := close_take xs [] (by rw [he]) i
  obtain ⟨g, -, -⟩ := close_ok (G := graphP ps) (N := ps.length + 1) (xs.take i) [] h1 (good_nil _)
  exact ⟨good_len g, good_in g⟩
theorem more_len {α : Type} [DecidableEq α] (B y : List α) : (moreF B y).length ≤ B.length + y.length := by
  unfold moreF
  rw [List.length_append]
  have := List.length_filter_le (fun z => decide (z ∉ B)) y
  omega
theorem more_same {B one : List ByteArray} (hn : one.Nodup) {j : Nat} {y : ByteArray} (hy : one[j]? = some y) (h : y ∈ moreF B (one.take j)) : moreF B (one.take (j + 1)) = moreF B (one.take j) := by
  rw [List.take_add_one, hy]
  refine more_in (fun z hz => ?_)
  rw [List.mem_singleton.1 (show z ∈ [y] from hz)]
  rcases mem_more.1 h with h | h
  · exact h
  · obtain ⟨i, hi⟩ := List.getElem?_of_mem h
    have hl := (List.getElem?_eq_some_iff.1 hi).1
    rw [List.length_take] at hl
    rw [List.getElem?_take_of_lt (by omega)] at hi
    have := nodup_inj hn hi hy
    omega
theorem more_next {B one : List ByteArray} {j : Nat} {y : ByteArray} (hy : one[j]? = some y) (h : y ∉ moreF B (one.take j)) : moreF B (one.take (j + 1)) = moreF B (one.take j) ++ [y] := by
  rw [List.take_add_one, hy]
  exact more_snoc (fun hb => h (mem_more.2 (.inl hb)))
theorem more_nil (B : List ByteArray) : moreF B [] = B := by unfold moreF; simp
/-- The texts of a row that is owned, read. -/
theorem TR.of_owns {W : World} {N : Nat} {a : Option Addr} {c : Nat} {xs : List ByteArray} (h : W.ownsRow N 9 1 (.slice a xs.length c) xs.length (xs.map Value.string)) (hf : xs.length ≤ 1000) (hs : ∀ x ∈ xs, x.size ≤ 1048576) : TR W a c xs := ⟨ownsRow_at h, hf, hs⟩
end Go.Proofs.YtoihhlkidlapmaaGreat

/- What one needs is among what several need. -/
namespace Go.Proofs.YtoihhlkidlapmaaGreat
open Go.ChangeShapes Go.WideShapes Go.ChangeAt Go.RowKit Go.Shelf

set_option maxRecDepth 100000 in
set_option maxHeartbeats 16000000 in
theorem walk_FnClosureOne (a0 : Option Addr) (len0 cap0 : Nat) (w : World) (h0 : Code w w.heap.size a0 len0) (hc0 : len0 ≤ cap0) :
    Calls Tryz.prog 5 #[.slice a0 len0 cap0] w fun e w' => e = .returned (.bool true) ∧ Below w.heap.size w w' := by
  have H0 := hid h0
  clear h0
  by_cases hl0 : (1048576 : Int) < len0
  · go_enter Tryz.func5, Tryz.ntmps5
    go_wp2_with fail
    go_ret
    exact ⟨rfl, Below.refl _ _⟩
  go_enter Tryz.func5, Tryz.ntmps5
  have K := hid (KW.start w)
  go_wp2_with fail
  refine (DrawClosure_any w a0 len0 cap0 (code_on (unhid H0) ((unhid K).now)) (by omega) hc0).mono ?_
  rintro e W1 ⟨v, V, ps, xs, rfl, hD, hb⟩
  obtain ⟨pa, pc, rfl, hr⟩ := dc_rr hD
  obtain ⟨xa, xc, rfl, hx⟩ := dc_tr hD
  have K := hid ((unhid K).step hb)
  have K := hid ((unhid K).row hr)
  have K := hid ((unhid K).txts hx)
  have HDN := hid (fun x (hx : x ∈ namesP ps) => dpk_name hD.ok hx)
  have HD3 := hid hD.fewx
  clear hb hr hx hD
  go_wp2_with fail
  refine (implClo_r ((unhid K).now.1.2) ((unhid K).now.2)).mono ?_
  rintro e W2 ⟨oa, oc, rfl, hx, hb⟩
  have K := hid ((unhid K).step hb)
  clear hb
  have K := hid ((unhid K).txts hx)
  clear hx
  go_wp2_with fail
  refine (specClo_r ((unhid K).now.1.1.2) ((unhid K).now.1.2)).mono ?_
  rintro e W3 ⟨ta, tc, rfl, hx, hb⟩
  have K := hid ((unhid K).step hb)
  clear hb
  have K := hid ((unhid K).txts hx)
  clear hx
  obtain ⟨k, Hk⟩ : ∃ k, Hid (closure_1 ps xs = k) := ⟨_, hid rfl⟩
  rw [unhid Hk]
  have e1 := int_ne_self k
  have e2 := int_eq_self k
  go_wp2_with fail
  refine (jsTexts_t ((unhid K).now.1.2) ((unhid K).now.2)).mono ?_
  rintro e W4 ⟨rfl, hb⟩
  have K := hid ((unhid K).step hb)
  clear hb
  by_cases h0 : k = 0
  · subst h0
    go_wp2_with fail
    have hO := ownsRow_made0 W4
    have hB := (Below.refl W4.heap.size W4).alloc (Nat.le_refl _) (.cells #[] 9)
    generalize W4.alloc (.cells #[] 9) = Ws at hO hB ⊢
    have HO0 := hid hO
    have HB0 := hid hB
    clear hO hB
    go_loopw [9, 10, 11, 12, 13] (fun s i _ _ _ wr => ∃ m : Nat, m ≤ xs.length ∧ i = .int .i64 (m : Int) ∧ Hid (wr.ownsRow W4.heap.size 9 1 s (sumL ps xs m).length ((sumL ps xs m).map Value.string)) ∧ Hid (Below W4.heap.size W4 wr)) (fun _ i _ _ _ _ => xs.length - (intOf i).toNat)
    case atStart => exact ⟨0, Nat.zero_le _, rfl, HO0, HB0⟩
    case round =>
      clear HO0 HB0
      obtain ⟨m, hm, rfl, HO, HBr⟩ := hrel
      obtain ⟨sa, sc, rfl, -, -, -⟩ := ownsRow_txts (unhid HO)
      have Kr := hid ((unhid K).step (unhid HBr))
      have hlx := unhid HD3
      by_cases hlt : m < xs.length
      · obtain ⟨x, hx⟩ : ∃ x, xs[m]? = some x := ⟨xs[m], List.getElem?_eq_getElem hlt⟩
        obtain ⟨xb, xo, rfl, hxb, c0⟩ := ((unhid Kr).now.1.1.2).get hx
        obtain ⟨s1, s2, ⟨t, s3⟩, s4⟩ := sum_step (unhid Hk) hx
        have HS2 := hid s2
        have HS4 := hid s4
        have HX := hid hx
        have hcap := ((unhid Kr).now.1.1.2).txts.2.2
        have hm1 : m + 1 - m = 1 := by omega
        have hm2 : ((m : Int) + 1).toNat = m + 1 := by omega
        have HC0 := hid c0
        clear s2 s4 c0
        have CL := implClo_o ((unhid Kr).now.1.1.1.2) (((unhid Kr).now.1.1.2).sub hx)
        have CL := hid CL
        clear hx
        go_wp2_with fail
        refine (unhid CL).mono ?_
        rintro e w2 ⟨na, nc, rfl, hN, hnb, hb⟩
        rw [s1]
        have hO2 := ownsRow_belowS (unhid HO) hb
        have HBr := hid ((unhid HBr).trans (hb.mono (unhid HBr).size))
        have Kr := hid ((unhid Kr).step hb)
        have HND1 := hid (good_nodup (closure_good s1).2.1)
        have hsum := sum_len ps (unhid Hk) m
        have hone := closure_in ps [x]
        have hlp := ((unhid Kr).now.1.1.1.2).few
        have hlast : (closure_0 ps [x])[t.length]? = some x := by rw [s3]; simp
        have hlen : (closure_0 ps [x]).length = t.length + 1 := by rw [s3]; simp
        have HSM := hid ((unhid Kr).now.1.1.1.2).small
        clear s3 s1
        generalize closure_0 ps [x] = one at *
        generalize t.length = tl at *
        obtain ⟨ob, oo, rfl, hob, l0⟩ := hN.get hlast
        have hge := hnb ob oo rfl
        have d0 := (hb.cell (p := ⟨xb, xo + m, none⟩) hxb).trans (unhid HC0)
        have hown := own_ge (unhid HO)
        have HAP := hid (show ∀ k, (Value.slice sa (sumL ps xs m).length sc).ownBlock = some k → k ≠ ob from fun k e => by have := (hown k e).2; omega)
        have HN := hid hN
        have HO2 := hid hO2
        have hxx := txt_iff x x
        rw [decide_eq_true rfl] at hxx
        have HLEN := hid hlen
        have htl : tl ≤ 100 := by have := hone.1; omega
        have hti : ((tl : Int) + 1 - 1).toNat = tl := by omega
        rw [hlen]
        clear hO2 hb hN hnb hlast hown HO hlen
        go_wp2_with fail
        go_quiet (fail)
        have hdn : Below w2.heap.size w2 (w2.drewN nq) := ⟨rfl, rfl, rfl, Nat.le_refl _, fun _ _ => rfl⟩
        generalize w2.drewN nq = wq at hdn ⊢
        have HBr := hid ((unhid HBr).trans (hdn.mono (unhid HBr).size))
        have HO2 := hid (ownsRow_belowS (unhid HO2) hdn)
        have HN := hid ((unhid HN).below hdn)
        clear hdn l0 d0 Kr CL HC0 hxx
        go_wp2_with fail
        have HO2 := hid (show wq.ownsRow W4.heap.size 9 1 (.slice sa (sumL ps xs m).length sc) (moreF (sumL ps xs m) (one.take 0)).length ((moreF (sumL ps xs m) (one.take 0)).map Value.string) by rw [List.take_zero, more_nil]; exact unhid HO2)
        go_loopw [9, 13] (fun s i wr => ∃ j : Nat, j ≤ tl + 1 ∧ i = .int .i64 (j : Int) ∧ Hid (wr.ownsRow W4.heap.size 9 1 s (moreF (sumL ps xs m) (one.take j)).length ((moreF (sumL ps xs m) (one.take j)).map Value.string)) ∧ Hid (∀ k, s.ownBlock = some k → k ≠ ob) ∧ Hid (Below W4.heap.size W4 wr) ∧ Hid (TR wr (some ⟨ob, oo, none⟩) nc one)) (fun _ i _ => tl + 1 - (intOf i).toNat)
        case atStart => exact ⟨0, by omega, rfl, HO2, HAP, HBr, HN⟩
        case round =>
          clear HO2 HAP HBr HN
          obtain ⟨j, hj, rfl, HO, HAP, HBr, HN⟩ := hrel
          obtain ⟨sa, sc, rfl, -, -, -⟩ := ownsRow_txts (unhid HO)
          have hmf : (moreF (sumL ps xs m) (one.take j)).length ≤ 1000 := by
            have h1 := more_len (sumL ps xs m) (one.take j)
            rw [List.length_take] at h1
            omega
          have HMS := hid (show ∀ z ∈ moreF (sumL ps xs m) (one.take j), z.size ≤ 1048576 from fun z hz => by
            rcases mem_more.1 hz with h | h
            · exact names_small (unhid HSM) z (hsum.2 z h)
            · exact names_small (unhid HSM) z (hone.2 z (List.mem_of_mem_take h)))
          have Kr := hid ((unhid K).step (unhid HBr))
          by_cases hjl : j < tl + 1
          · obtain ⟨y, hy⟩ : ∃ y, one[j]? = some y := ⟨one[j]'(by rw [unhid HLEN]; exact hjl), List.getElem?_eq_getElem _⟩
            obtain ⟨_, _, e, hyb, c0⟩ := (unhid HN).get hy
            cases e
            have HM := hid (memB_yes (unhid HS4 y (List.mem_of_getElem? hy)))
            have HY := hid hy
            clear hy
            go_wp2_with fail
            refine (jsHas_t y ((unhid Kr).now.1.2)).mono ?_
            rintro e w3 ⟨rfl, hb⟩
            rw [unhid HM]
            have c1 := (hb.cell (p := ⟨ob, oo + j, none⟩) hyb).trans c0
            have hyb3 := Nat.lt_of_lt_of_le hyb hb.size
            have HBr := hid ((unhid HBr).trans (hb.mono (unhid HBr).size))
            have HO := hid (ownsRow_belowS (unhid HO) hb)
            have HN := hid ((unhid HN).below hb)
            clear hb c0 HM Kr
            go_wp2_with fail
            refine (jsHas_t y (TR.of_owns (unhid HO) hmf (unhid HMS))).mono ?_
            rintro e w4 ⟨rfl, hb⟩
            have c2 := (hb.cell (p := ⟨ob, oo + j, none⟩) hyb3).trans c1
            have HBr := hid ((unhid HBr).trans (hb.mono (unhid HBr).size))
            have HO := hid (ownsRow_belowS (unhid HO) hb)
            have HN := hid ((unhid HN).below hb)
            have hyb4 := Nat.lt_of_lt_of_le hyb3 hb.size
            clear hb c1
            by_cases hin : y ∈ moreF (sumL ps xs m) (one.take j)
            · rw [memB_yes hin]
              have e := more_same (unhid HND1) (unhid HY) hin
              have HOn := hid (show w4.ownsRow W4.heap.size 9 1 (.slice sa (moreF (sumL ps xs m) (one.take j)).length sc) (moreF (sumL ps xs m) (one.take (j + 1))).length ((moreF (sumL ps xs m) (one.take (j + 1))).map Value.string) by rw [e]; exact unhid HO)
              clear e hin
              go_wp2_with fail
              go_roundw
              case rel => exact ⟨j + 1, by omega, by go_num, HOn, HAP, HBr, HN⟩
              case measure => simp [intOf]; omega
            · rw [memB_no hin]
              have e := more_next (unhid HY) hin
              have hbs := (unhid HBr).size
              have hx5 : (w4.alloc (.cells #[.string y] 9)).cell? ⟨w4.heap.size, 0, none⟩ = some (.string y) := cell_arrS (World.alloc_heap_new w4 (.cells #[.string y] 9)) 0 _ rfl
              have hb5 := (Below.refl w4.heap.size w4).alloc (Nat.le_refl _) (.cells #[.string y] 9)
              have H5 := hid (And.intro (ownsRow_belowS (unhid HO) hb5) (And.intro hx5 (show W4.heap.size ≤ (w4.alloc (.cells #[.string y] 9)).heap.size from Nat.le_trans hbs hb5.size)))
              have HLE := hid (show (moreF (sumL ps xs m) (one.take j)).length ≤ 4294967296 by omega)
              have HB5 := hid hb5
              have HE := hid e
              clear e hin hx5 hb5
              go_wp2_with (at_builtin; refine wp_nameB rfl _ _ rfl W4.heap.size _ (moreF (sumL ps xs m) (one.take j)) y _ rfl rfl (unhid H5).1 (unhid H5).2.1 (unhid HLE) (unhid H5).2.2 ?_)
              intro v' w6 hO6 hg6 hblk
              have hO6 : w6.ownsRow W4.heap.size 9 1 v' (moreF (sumL ps xs m) (one.take (j + 1))).length ((moreF (sumL ps xs m) (one.take (j + 1))).map Value.string) := by rw [unhid HE]; simpa using hO6
              obtain ⟨za, zc, rfl, -, -, -⟩ := ownsRow_txts hO6
              have hown := own_ge (unhid H5).1
              have HN6 := hid ((unhid HN).frame (W' := w6) ((hg6.block ob (Nat.lt_of_lt_of_le hyb4 (unhid HB5).size) (fun e => unhid HAP ob e.symm rfl)).trans ((unhid HB5).block ob hyb4)))
              have HB6 := hid (((unhid HBr).trans ((unhid HB5).mono hbs)).trans (⟨hg6.os, hg6.tape, hg6.output, hg6.size, fun k hk => hg6.block k (Nat.lt_of_lt_of_le hk (unhid H5).2.2) (fun e => by have := (hown k e.symm).1; omega)⟩ : Below W4.heap.size (w4.alloc (.cells #[.string y] 9)) w6))
              have HAP6 := hid (show ∀ k, (Value.slice za (moreF (sumL ps xs m) (one.take (j + 1))).length zc).ownBlock = some k → k ≠ ob from fun k e => by
                rcases hblk with h | h
                · exact unhid HAP k (by rw [← h]; exact e)
                · have h2 := h.symm.trans e
                  injection h2 with h2
                  omega)
              have HO6 := hid hO6
              clear hO6 hg6 hblk hown H5 HB5 c2
              go_wp2_with fail
              go_roundw
              case rel => exact ⟨j + 1, by omega, by go_num, HO6, HAP6, HB6, HN6⟩
              case measure => simp [intOf]; omega
          · have e : j = tl + 1 := by omega
            subst e
            have HOn := hid (show wr.ownsRow W4.heap.size 9 1 (.slice sa (moreF (sumL ps xs m) (one.take (tl + 1))).length sc) (sumL ps xs (m + 1)).length ((sumL ps xs (m + 1)).map Value.string) by
              have e2 : moreF (sumL ps xs m) (one.take (tl + 1)) = sumL ps xs (m + 1) := by rw [unhid HS2, ← unhid HLEN, List.take_length]
              rw [← e2]; exact unhid HO)
            clear HO HN HAP hmf HMS Kr
            go_wp2_with fail
            go_roundw
            case rel => exact ⟨m + 1, by omega, by go_num, HOn, HBr⟩
            case measure => simp [intOf]; omega
      · have e : m = xs.length := by omega
        subst e
        have hsum := sum_all (unhid Hk)
        have hO := unhid HO
        have hlo := ((unhid Kr).now.1.2).few
        have hso := ((unhid Kr).now.1.2).small
        rw [hsum] at hO
        rw [hsum]
        have HT := hid (TR.of_owns hO hlo hso)
        clear hO hsum hso HBr HO hm hlt hlx
        go_wp2_with fail
        refine (jsTexts_t (unhid HT) ((unhid Kr).now.1.2)).mono ?_
        rintro e w2 ⟨rfl, hb⟩
        have Kr := hid ((unhid Kr).step hb)
        go_wp2_with fail
        go_ret
        exact ⟨rfl, (unhid Kr).now.1.1.1.1⟩
  · have e3 : (k != 0) = true := by rw [bne_iff_ne]; exact h0
    go_wp2_with fail
    refine (jsTexts_t ((unhid K).now.1.2) ((unhid K).now.2)).mono ?_
    rintro e W5 ⟨rfl, hb⟩
    have K := hid ((unhid K).step hb)
    clear hb
    go_wp2_with fail
    go_ret
    exact ⟨rfl, (unhid K).now.1.1.1.1⟩
end Go.Proofs.YtoihhlkidlapmaaGreat
