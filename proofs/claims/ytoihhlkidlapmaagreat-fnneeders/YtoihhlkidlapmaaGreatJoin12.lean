/- Texts of this proof, one behind the other; each says at its head what it shows. -/
import Derived.Test.YtoihhlkidlapmaaGreatJoin10
import Derived.Test.YtoihhlkidlapmaaGreatJoin6
import Derived.Test.YtoihhlkidlapmaaGreatJoin1
import Derived.Deep.CutBlock
import Derived.Test.YtoihhlkidlapmaaGreatJoin11
import Derived.Test.YtoihhlkidlapmaaGreatJoin5
import Derived.Maps.OwnRows
import Derived.Maps.GroupsBeside
/- Packs that are drawn. -/
namespace Go.Proofs.YtoihhlkidlapmaaGreat
open Go.RowKit Go.Shelf

/-- What the draw of packs gives. -/
structure PQ (w : World) (b : Nat) (a : Option Addr) (len cap q : Nat) (W : World) (v : Value) (L : List (It packC)) : Prop where
  row : NRow packC 34 W w.heap.size v L
  ok : ∀ d ∈ itD L, DPk d
  few : L.length ≤ 5
  rd : ∃ p', p' ≤ q ∧ Rd W b a len cap p'
  grown : w.grownBy W (some b)
def names4 : Array Value := #[.string ⟨#[111, 110, 101]⟩, .string ⟨#[116, 119, 111]⟩, .string ⟨#[116, 104, 114, 101, 101]⟩, .string ⟨#[122, 105, 112]⟩]
theorem names4_at (k : Nat) (hk : k < 4) : ∃ x, drawn x ∧ names4[k]? = some (.string x) := by
  match k, hk with
  | 0, _ => exact ⟨_, by unfold drawn; decide, rfl⟩
  | 1, _ => exact ⟨_, by unfold drawn; decide, rfl⟩
  | 2, _ => exact ⟨_, by unfold drawn; decide, rfl⟩
  | 3, _ => exact ⟨_, by unfold drawn; decide, rfl⟩
/-- What holds while packs are drawn. -/
def PI (w : World) (b : Nat) (a : Option Addr) (len cap p k : Nat) (v : Value) (L : List (It packC)) (wr : World) : Prop :=
  wr.heap[w.heap.size + 1]? = some (.cells names4 9 (0, 0)) ∧ w.heap.size + 1 < wr.heap.size ∧ NRow packC 34 wr w.heap.size v L ∧ (∀ k, (v.ownBlock = some k ∨ k ∈ itF L) → k ≠ w.heap.size + 1) ∧ (∀ d ∈ itD L, DPk d) ∧ L.length ≤ k ∧ w.grownBy wr (some b) ∧ ∃ p', p' ≤ p + k * 4 ∧ Rd wr b a len cap p'
theorem items_newF {W w3 : World} {N : Nat} {v : Value} {L : List (It packC)} {cs : List Value} {d : packC.D} {F : List Nat} (h : NRow packC 34 W N v L) (hN : N ≤ W.heap.size) (hfr : ∀ k, N ≤ k → k < W.heap.size → w3.heap[k]? = W.heap[k]?) (hown : packC.own w3 cs d F) (hF : ∀ k ∈ F, W.heap.size ≤ k) :
    NRow packC 34 w3 N v L ∧ Items packC w3 N (L ++ [(cs, d, F)]) ∧ (∀ g, v.ownBlock = some g → g ∉ itF [((cs, d, F) : It packC)]) := by
  have h3 := h.frame (fun k hk => hfr k (h.base k hk).1 (h.base k hk).2)
  refine ⟨h3, h3.items.snoc hown (M := W.heap.size) h.items.lt hF hN, fun g hg hk => ?_⟩
  have h1 := (h.base g (.inl hg)).2
  have h2 := hF g (by simpa [itF] using hk)
  omega
theorem need_one {W : World} {gm : Nat} {nm : ByteArray} {N : Nat} (h : W.heap[gm]? = some (.cells #[.string nm, .int .i64 0, .string ⟨#[]⟩] 36)) (hN : N ≤ gm) : NRow needC 36 W N (.slice (some ⟨gm, 0, none⟩) 1 1) [(([.string nm, .int .i64 0, .string ⟨#[]⟩], (⟨nm, 0, ⟨#[]⟩⟩ : NeedD), []) : It needC)] :=
  ⟨⟨rfl, .inr ⟨gm, 1, _, rfl, hN, h, Nat.le_refl _, by decide, rfl, rfl⟩⟩, need_items W N nm ⟨#[]⟩ 0, fun g _ hk => by simp [itF] at hk⟩
theorem dpk_of {name ver : ByteArray} {nL : List (It needC)} (hn : drawn name) (hv : short ver) (hl : nL.length ≤ 1) (hs : ∀ n ∈ itD nL, (NeedD.name n).size ≤ 100 ∧ (NeedD.version n).size ≤ 100) : DPk (⟨name, ver, itD nL, dEnts []⟩ : PackD) := by
  have h1 := drawn_short hn
  have h2 : ver.size ≤ 100 := hv
  have ht : treeOfP (⟨name, ver, itD nL, dEnts []⟩ : PackD) = [] := entsD_back []
  refine ⟨⟨show name.size ≤ 1048576 by omega, show ver.size ≤ 1048576 by omega, ⟨show (itD nL).length ≤ 1048576 by rw [itD_len]; omega, fun d hd => ?_⟩, ?_⟩, hn, by rw [ht]; exact fun e he => by cases he⟩
  · have := hs d hd
    exact ⟨by omega, by omega⟩
  · show smallE (entsD (dEnts []))
    rw [entsD_back]
    exact ⟨by simp, fun e he => by cases he⟩

set_option maxRecDepth 100000 in
set_option maxHeartbeats 16000000 in
theorem l11Packs_any (w : World) (b : Nat) (a : Option Addr) (len cap p : Nat) (h : Rd w b a len cap p) (hp : p ≤ 100000) :
    Calls Tryz.prog 58 #[.pointer (some ⟨b, 0, none⟩)] w fun x w' => ∃ v L, x = .returned v ∧ PQ w b a len cap (p + 300) w' v L := by
  have hbl := h.lt
  have H := hid ((h.alloc (.cells #[] 34)).alloc (.cells names4 9))
  have hR0 := two_boxes w (.cells #[] 34) (.cells names4 9)
  have hN0 := NRow.frame (W' := (w.alloc (.cells #[] 34)).alloc (.cells names4 9)) (NRow.empty (K := packC) (e := 34) w w.heap.size (Nat.le_refl _)) (fun k hk => World.grownBy_alloc (w.alloc (.cells #[] 34)) (.cells names4 9) none |>.block k ((NRow.empty (K := packC) (e := 34) w w.heap.size (Nat.le_refl _)).base k hk).2 (by intro e; cases e))
  have hG0 : w.grownBy ((w.alloc (.cells #[] 34)).alloc (.cells names4 9)) (some b) := grown_trans (World.grownBy_alloc w _ (some b)) (World.grownBy_alloc _ _ (some b))
  have hen : names4 = #[.string ⟨#[111, 110, 101]⟩, .string ⟨#[116, 119, 111]⟩, .string ⟨#[116, 104, 114, 101, 101]⟩, .string ⟨#[122, 105, 112]⟩] := rfl
  clear h
  go_enter Tryz.func58, Tryz.ntmps58
  go_upto_region 3 with fail
  rw [← hen]
  generalize (w.alloc (.cells #[] 34)).alloc (.cells names4 9) = w0 at H hR0 hG0 hN0 ⊢
  obtain ⟨hX0, hNm0, hS0⟩ := hR0
  have HP := hid (show PI w b a len cap p 0 (.slice (some ⟨w.heap.size, 0, none⟩) 0 0) [] w0 from ⟨hNm0, hS0, hN0, (fun k hk => by
    rcases hk with hk | hk
    · have : w.heap.size = k := by injection hk
      omega
    · cases hk), (fun d hd => by cases hd), Nat.le_refl _, hG0, p, by omega, unhid H⟩)
  clear hX0 hNm0 hS0 hN0 hG0 H hen
  go_wp2_with fail
  go_loopw [3, 5, 6] (fun v i s6 wr => ∃ (k : Nat) (L : List (It packC)), k ≤ 4 ∧ i = .int .i64 (k : Int) ∧ Hid (PI w b a len cap p k v L wr)) (fun _ i _ _ => 4 - (intOf i).toNat)
  case atStart => exact ⟨0, [], by omega, rfl, HP⟩
  case round =>
    clear HP
    obtain ⟨k, L, hk, rfl, HI⟩ := hrel
    obtain ⟨hNm, hz, hN, hap, hok, hfew, hG, p', hp', hRd⟩ := unhid HI
    obtain ⟨va, vc, rfl⟩ := nrow_slice hN
    by_cases hk4 : k < 4
    · have hk0 : (k : Int) < 4 := by omega
      clear HI
      go_wp2_with fail
      refine (pick_any wr b a len cap p' hRd (by omega) 4 (by omega) (by omega)).mono ?_
      rintro e w1 ⟨m, hm, rfl, hR1, hG1⟩
      have hNm1 := (hG1.block _ hz (by intro e; injection e; omega)).trans hNm
      have hz1 := Nat.lt_of_lt_of_le hz hG1.size
      have hN1 : NRow packC 34 w1 w.heap.size (.slice va L.length vc) L := nrow_grown hN hG1 hbl
      have hGw1 := grown_trans hG hG1
      have HLT := hid (fun g (e : (Value.slice va L.length vc).ownBlock = some g ∨ g ∈ itF L) => (hN1.base g e).2)
      clear hRd hN hNm hz hG hG1
      by_cases h0 : m = 0
      · subst h0
        go_wp2_with fail
        go_roundw
        case rel => exact ⟨k + 1, L, by omega, by go_num, hid ⟨hNm1, hz1, hN1, hap, hok, by omega, hGw1, p' + 1, by omega, hR1⟩⟩
        case measure => simp [intOf]; omega
      · have hm0 : (0 : Int) < (m : Int) := by omega
        obtain ⟨name, hname, hne⟩ := names4_at k hk4
        go_upto_region 7 with fail
        go_cut [6] from 9 to 37 (fun s6 wx => ∃ (g : Nat) (ver : ByteArray), s6 = .pointer (some ⟨g, 0, none⟩) ∧ Hid (short ver ∧ w1.grownBy wx (some b) ∧ w1.heap.size ≤ g ∧ g < wx.heap.size ∧ wx.heap[g]? = some (.cells #[.string name, .string ver, .slice none 0 0, .slice none 0 0] 34 (0, 0)) ∧ Rd wx b a len cap (p' + 2)))
        case first =>
          have hC0 : w1.grownBy w1.drew (some b) := ⟨rfl, rfl, rfl, Nat.le_refl _, fun _ _ _ => rfl⟩
          have gn : ∀ x : CW (fun w' => w1.grownBy w' (some b)), x.w.cell? ⟨w.heap.size + 1, k, none⟩ = some (.string name) := fun x => cell_arrS ((x.h.block _ hz1 (by intro e; injection e; omega)).trans hNm1) k _ hne
          have hba : ∀ {q : Prop}, (CW (fun w' => w1.grownBy w' (some b)) → q) ↔ q := CW.all hC0
          refine held_begin (fun w' => w1.grownBy w' (some b)) (by kernel_rfl) hC0 ?_
          refine held_here [true, true, true, true, true] (by kernel_rfl) (by kernel_rfl) (fun _ _ _ _ _ h => h) hC0 ?_
          dsimp only [pick]
          repeat (go_big_quiet_step (fail))
          refine wpQuiet_nil ?_
          have hR2 := hR1.of_below (drew_belowS (B := w1.heap.size) w1)
          have hlb1 : b < w1.heap.size := hR1.lt
          clear hba gn hN1 hNm1 hGw1 hR1 hok
          generalize w1.drew = w2 at hC0 hR2 ⊢
          refine held_op2 5 7 (by kernel_rfl) (by kernel_rfl) rfl rfl (fun KK hK => ?_) (fun KK hK => ?_)
          · refine call_op 111 23 (enters_of Tryz.func111 (by kernel_rfl) rfl) #[.pointer (some ⟨b, 0, none⟩)] rfl rfl rfl rfl ?_
            refine (l11Version_any w2 b a len cap (p' + 1) hR2 (by omega)).mono ?_
            rintro x w3 ⟨ver, hver, rfl, hR3, hG3⟩
            have hC3 := grown_trans hC0 hG3
            refine ⟨_, rfl, hK.out _ _ hC3 ?_⟩
            simp only [Act.put, List.setIfInBounds_toArray, List.set_cons_zero, List.set_cons_succ]
            clear hK KK hC0 hR2 hG3
            have hba : ∀ {q : Prop}, (CW (fun w' => w1.grownBy w' (some b)) → q) ↔ q := CW.all hC3
            refine held_here [false, false, false, false, false, false, true] (by kernel_rfl) (by kernel_rfl) (fun _ _ _ _ _ h => h) hC3 ?_
            dsimp only [pick]
            repeat (go_big_quiet_step (fail))
            refine wpQuiet_nil ?_
            clear hba
            refine held_op 7 (by kernel_rfl) (by kernel_rfl) rfl (fun KK hK => ?_)
            go_simp
            have hX4 := World.alloc_heap_new w3 (.cells #[.string ⟨#[]⟩, .string ⟨#[]⟩, .slice none 0 0, .slice none 0 0] 34)
            have hG34 : w3.grownBy (w3.alloc (.cells #[.string ⟨#[]⟩, .string ⟨#[]⟩, .slice none 0 0, .slice none 0 0] 34)) (some b) := World.grownBy_alloc w3 _ (some b)
            have hR4 := hR3.alloc (.cells #[.string ⟨#[]⟩, .string ⟨#[]⟩, .slice none 0 0, .slice none 0 0] 34)
            have hz4 : w3.heap.size < (w3.alloc (.cells #[.string ⟨#[]⟩, .string ⟨#[]⟩, .slice none 0 0, .slice none 0 0] 34)).heap.size := by simp
            have hC4 := grown_trans hC3 hG34
            refine hK.out _ _ hC4 ?_
            clear hK KK hG34
            generalize w3.alloc (.cells #[.string ⟨#[]⟩, .string ⟨#[]⟩, .slice none 0 0, .slice none 0 0] 34) = w4 at hX4 hR4 hz4 hC4 ⊢
            have hg3 : w1.heap.size ≤ w3.heap.size := hC3.size
            obtain ⟨c0, f0⟩ := cell_fz hX4 0 _ rfl
            obtain ⟨c1, f1⟩ := cell_fz hX4 1 _ rfl
            obtain ⟨c2, f2⟩ := cell_fz hX4 2 _ rfl
            obtain ⟨c3, f3⟩ := cell_fz hX4 3 _ rfl
            refine held_op 8 (by kernel_rfl) (by kernel_rfl) rfl (fun KK hK => ?_)
            go_simp
            have hB5 : Below w1.heap.size w4 ((((w4.setCell ⟨w3.heap.size, 0, none⟩ (.string name)).setCell ⟨w3.heap.size, 1, none⟩ (.string ver)).setCell ⟨w3.heap.size, 2, none⟩ (.slice none 0 0)).setCell ⟨w3.heap.size, 3, none⟩ (.slice none 0 0)) := setsW_below [.string name, .string ver, .slice none 0 0, .slice none 0 0] w4 w4 w1.heap.size (w3.heap.size) 0 (Below.refl _ _) hg3
            have hC5 := grown_low hC4 hB5
            refine hK.out _ _ hC5 ?_
            have hX5 := set4_same w4 (w3.heap.size) _ _ _ _ _ (.string name) (.string ver) (.slice none 0 0) (.slice none 0 0) hX4
            have HQ := hid (And.intro hver (And.intro hC5 (And.intro hg3 (And.intro (show w3.heap.size < ((((w4.setCell ⟨w3.heap.size, 0, none⟩ (.string name)).setCell ⟨w3.heap.size, 1, none⟩ (.string ver)).setCell ⟨w3.heap.size, 2, none⟩ (.slice none 0 0)).setCell ⟨w3.heap.size, 3, none⟩ (.slice none 0 0)).heap.size by simp; omega) (And.intro hX5 (Rd.low hR4 hB5 (by omega)))))))
            clear hK KK c0 f0 c1 f1 c2 f2 c3 f3 hX4 hX5 hC4 hB5 hR4
            refine held_done (by kernel_rfl) ?_
            go_wp2_with fail
            go_meet
            case rel => exact ⟨w3.heap.size, ver, rfl, HQ⟩
          · go_simp
            have hX3 := World.alloc_heap_new w2 (.cells #[.string ⟨#[]⟩, .string ⟨#[]⟩, .slice none 0 0, .slice none 0 0] 34)
            have hG23 : w2.grownBy (w2.alloc (.cells #[.string ⟨#[]⟩, .string ⟨#[]⟩, .slice none 0 0, .slice none 0 0] 34)) (some b) := World.grownBy_alloc w2 _ (some b)
            have hR3 := hR2.alloc (.cells #[.string ⟨#[]⟩, .string ⟨#[]⟩, .slice none 0 0, .slice none 0 0] 34)
            have hz3 : w2.heap.size < (w2.alloc (.cells #[.string ⟨#[]⟩, .string ⟨#[]⟩, .slice none 0 0, .slice none 0 0] 34)).heap.size := by simp
            have hC3 := grown_trans hC0 hG23
            have hb2 : b < w2.heap.size := hR2.lt
            refine hK.out _ _ hC3 ?_
            clear hK KK hG23
            generalize w2.alloc (.cells #[.string ⟨#[]⟩, .string ⟨#[]⟩, .slice none 0 0, .slice none 0 0] 34) = w3 at hX3 hR3 hz3 hC3 ⊢
            have hg3 : w1.heap.size ≤ w2.heap.size := hC0.size
            refine held_call 5 111 23 (enters_of Tryz.func111 (by kernel_rfl) rfl) #[.pointer (some ⟨b, 0, none⟩)] (by kernel_rfl) (by kernel_rfl) rfl rfl rfl rfl rfl ?_
            refine (l11Version_any w3 b a len cap (p' + 1) hR3 (by omega)).mono ?_
            rintro x w4 ⟨ver, hver, rfl, hR4, hG4⟩
            have hC4 := grown_trans hC3 hG4
            have hX4 := (hG4.block w2.heap.size hz3 (by intro e; injection e; omega)).trans hX3
            have hz4 : w2.heap.size < w4.heap.size := Nat.lt_of_lt_of_le hz3 hG4.size
            refine ⟨_, rfl, hC4, ?_⟩
            simp only [Act.put, List.setIfInBounds_toArray, List.set_cons_zero, List.set_cons_succ]
            have hba : ∀ {q : Prop}, (CW (fun w' => w1.grownBy w' (some b)) → q) ↔ q := CW.all hC4
            refine held_here [false, false, false, false, false, false, true] (by kernel_rfl) (by kernel_rfl) (fun _ _ _ _ _ h => h) hC4 ?_
            dsimp only [pick]
            repeat (go_big_quiet_step (fail))
            refine wpQuiet_nil ?_
            clear hba
            obtain ⟨c0, f0⟩ := cell_fz hX4 0 _ rfl
            obtain ⟨c1, f1⟩ := cell_fz hX4 1 _ rfl
            obtain ⟨c2, f2⟩ := cell_fz hX4 2 _ rfl
            obtain ⟨c3, f3⟩ := cell_fz hX4 3 _ rfl
            refine held_op 8 (by kernel_rfl) (by kernel_rfl) rfl (fun KK hK => ?_)
            go_simp
            have hB5 : Below w1.heap.size w4 ((((w4.setCell ⟨w2.heap.size, 0, none⟩ (.string name)).setCell ⟨w2.heap.size, 1, none⟩ (.string ver)).setCell ⟨w2.heap.size, 2, none⟩ (.slice none 0 0)).setCell ⟨w2.heap.size, 3, none⟩ (.slice none 0 0)) := setsW_below [.string name, .string ver, .slice none 0 0, .slice none 0 0] w4 w4 w1.heap.size (w2.heap.size) 0 (Below.refl _ _) hg3
            have hC5 := grown_low hC4 hB5
            refine hK.out _ _ hC5 ?_
            have hX5 := set4_same w4 (w2.heap.size) _ _ _ _ _ (.string name) (.string ver) (.slice none 0 0) (.slice none 0 0) hX4
            have HQ := hid (And.intro hver (And.intro hC5 (And.intro hg3 (And.intro (show w2.heap.size < ((((w4.setCell ⟨w2.heap.size, 0, none⟩ (.string name)).setCell ⟨w2.heap.size, 1, none⟩ (.string ver)).setCell ⟨w2.heap.size, 2, none⟩ (.slice none 0 0)).setCell ⟨w2.heap.size, 3, none⟩ (.slice none 0 0)).heap.size by simp; omega) (And.intro hX5 (Rd.low hR4 hB5 (by omega)))))))
            clear hK KK c0 f0 c1 f1 c2 f2 c3 f3 hX4 hX5 hC4 hB5 hR4
            refine held_done (by kernel_rfl) ?_
            go_wp2_with fail
            go_meet
            case rel => exact ⟨w2.heap.size, ver, rfl, HQ⟩
        case rest =>
          rename World => w3
          obtain ⟨g, ver, rfl, HC⟩ := hcut
          obtain ⟨hver, hC3, hg1, hg2, hX3, hR3⟩ := unhid HC
          have hlb1 : b < w1.heap.size := hR1.lt
          clear HC hR1
          go_wp2_with fail
          refine (pick_any w3 b a len cap (p' + 2) hR3 (by omega) 2 (by omega) (by omega)).mono ?_
          rintro e w4 ⟨m2, hm2, rfl, hR4, hG4⟩
          have hC4 := grown_trans hC3 hG4
          have hX4 := (hG4.block g hg2 (by intro e; injection e; omega)).trans hX3
          have hg4 : g < w4.heap.size := Nat.lt_of_lt_of_le hg2 hG4.size
          clear hR3 hC3 hX3 hG4 hg2
          by_cases h2 : m2 = 0
          · subst h2
            have hNm4 := (hC4.block _ hz1 (by intro e; injection e; omega)).trans hNm1
            go_wp2_with fail
            refine (of_any drawn w4 b a len cap (p' + 3) hR4 (by omega) (w.heap.size + 1) 4 4 (by omega) (by omega) (by omega) (fun j hj => by
              obtain ⟨x, h1, h2⟩ := names4_at j hj
              exact ⟨x, h1, cell_arrS hNm4 j _ h2⟩)).mono ?_
            rintro e w5 ⟨nm, hnm, rfl, hR5, hG5⟩
            have hC5 := grown_trans hC4 hG5
            have hX5 := (hG5.block g hg4 (by intro e; injection e; omega)).trans hX4
            have hg5 : g < w5.heap.size := Nat.lt_of_lt_of_le hg4 hG5.size
            have hX6 : (w5.alloc (.cells #[.string nm, .int .i64 0, .string ⟨#[]⟩] 36)).heap[g]? = some (.cells #[.string name, .string ver, .slice none 0 0, .slice none 0 0] 34 (0, 0)) := ((Below.refl w5.heap.size w5).alloc (Nat.le_refl _) _ |>.block g hg5).trans hX5
            obtain ⟨c2, f2⟩ := cell_fz hX6 2 _ rfl
            clear hR4 hC4 hX4 hG5 hNm4
            go_upto_region 10 with fail
            clear c2 f2 hX6
            have hs6 : (w5.setCell ⟨g, 2, none⟩ (.slice (some ⟨w5.heap.size, 0, none⟩) 1 1)).heap.size = w5.heap.size := by simp
            have hX6 := heap_setCell_same w5 g 2 _ _ (.slice (some ⟨w5.heap.size, 0, none⟩) 1 1) hX5
            have hBw : Below g w5 (w5.setCell ⟨g, 2, none⟩ (.slice (some ⟨w5.heap.size, 0, none⟩) 1 1)) := (Below.refl _ w5).setCell (p := ⟨g, 2, none⟩) (Nat.le_refl _) _
            have hR6 := Rd.low hR5 hBw (by omega)
            have hC6 : w1.grownBy (w5.setCell ⟨g, 2, none⟩ (.slice (some ⟨w5.heap.size, 0, none⟩) 1 1)) (some b) := grown_low hC5 (hBw.mono (by omega))
            generalize w5.setCell ⟨g, 2, none⟩ (.slice (some ⟨w5.heap.size, 0, none⟩) 1 1) = w6 at hs6 hX6 hR6 hC6 ⊢
            have hX7 := ((Below.refl w6.heap.size w6).alloc (Nat.le_refl _) (.cells #[.string nm, .int .i64 0, .string ⟨#[]⟩] 36)).block g (by omega) |>.trans hX6
            have hY7 := World.alloc_heap_new w6 (.cells #[.string nm, .int .i64 0, .string ⟨#[]⟩] 36)
            rw [hs6] at hY7
            have hR7 := hR6.alloc (.cells #[.string nm, .int .i64 0, .string ⟨#[]⟩] 36)
            have hC7 := grown_trans hC6 (World.grownBy_alloc w6 (.cells #[.string nm, .int .i64 0, .string ⟨#[]⟩] 36) (some b))
            have hq7 : w5.heap.size < (w6.alloc (.cells #[.string nm, .int .i64 0, .string ⟨#[]⟩] 36)).heap.size := by simp; omega
            have hg7 : g < (w6.alloc (.cells #[.string nm, .int .i64 0, .string ⟨#[]⟩] 36)).heap.size := by omega
            have hw15 := hC5.size
            generalize w6.alloc (.cells #[.string nm, .int .i64 0, .string ⟨#[]⟩] 36) = w7 at hX7 hY7 hR7 hC7 hg7 hq7 ⊢
            have hmn := drawn_short hnm
            have hK7 : DK w7 w1.heap.size (.slice (some ⟨w5.heap.size, 0, none⟩) 1 1) [(([.string nm, .int .i64 0, .string ⟨#[]⟩], (⟨nm, 0, ⟨#[]⟩⟩ : NeedD), []) : It needC)] (.slice none 0 0) [] := ⟨need_one hY7 hw15, NRow.none w7 _, rfl, fun g _ e => by cases e⟩
            have hdp : DPk (⟨name, ver, itD [(([.string nm, .int .i64 0, .string ⟨#[]⟩], (⟨nm, 0, ⟨#[]⟩⟩ : NeedD), []) : It needC)], dEnts []⟩ : PackD) := dpk_of hname hver (Nat.le_refl _) (fun n hn => by
              have hn' := List.mem_singleton.1 (show n ∈ [(⟨nm, 0, ⟨#[]⟩⟩ : NeedD)] from hn)
              rw [hn']
              exact ⟨hmn, show (0 : Nat) ≤ 100 by omega⟩)
            clear hX6 hR6 hC6 hs6 hBw hg4 hX5 hg5 hR5 hC5 hw15
            obtain ⟨F7, hown7, hF7⟩ := hK7.own name ver
            have hnew := World.alloc_heap_new w7 (.cells #[.string name, .string ver, (.slice (some ⟨w5.heap.size, 0, none⟩) 1 1), .slice none 0 0] 34)
            have hb8 : Below w7.heap.size w7 (w7.alloc (.cells #[.string name, .string ver, (.slice (some ⟨w5.heap.size, 0, none⟩) 1 1), .slice none 0 0] 34)) := (Below.refl _ w7).alloc (Nat.le_refl _) _
            have hown8 := packC.frame hown7 (fun j hj => hb8.block j (hF7 j hj).2)
            obtain ⟨q1, q2, q3⟩ := items_newF hN1 (Nat.le_trans (Nat.le_of_lt (by omega : w.heap.size < w.heap.size + 1)) (Nat.le_of_lt hz1)) (fun j h1 h2 => (hb8.block j (Nat.lt_of_lt_of_le h2 hC7.size)).trans (hC7.block j h2 (by intro e; injection e; omega))) hown8 (fun j hj => (hF7 j hj).1)
            have HQ := hid (And.intro q1 (And.intro q2 q3))
            have HCL := hid (show ∀ j u, (itCells [(([.string name, .string ver, (.slice (some ⟨w5.heap.size, 0, none⟩) 1 1), .slice none 0 0], (⟨name, ver, itD [(([.string nm, .int .i64 0, .string ⟨#[]⟩], (⟨nm, 0, ⟨#[]⟩⟩ : NeedD), []) : It needC)], dEnts []⟩ : PackD), F7) : It packC)])[j]? = some u → (w7.alloc (.cells #[.string name, .string ver, (.slice (some ⟨w5.heap.size, 0, none⟩) 1 1), .slice none 0 0] 34)).cell? ⟨w7.heap.size, 0 + j, none⟩ = some u from fun j u hj => by
              rw [Nat.zero_add]
              refine cell_arrS hnew j u ?_
              have hj' : [.string name, .string ver, (.slice (some ⟨w5.heap.size, 0, none⟩) 1 1), .slice none 0 0][j]? = some u := by simpa [itCells] using hj
              simpa using hj')
            have HL := hid (show L.length + 1 ≤ 4194304 by omega)
            have HSZ := hid (show w.heap.size ≤ (w7.alloc (.cells #[.string name, .string ver, (.slice (some ⟨w5.heap.size, 0, none⟩) 1 1), .slice none 0 0] 34)).heap.size from Nat.le_trans (by have := hC7.size; omega) hb8.size)
            have HB8 := hid hb8
            have HG7 := hid (grown_trans hGw1 hC7)
            have HF7 := hid hF7
            have HNM := hid ((hC7.block _ hz1 (by intro e; injection e; omega)).trans hNm1)
            have hs7 := hC7.size
            obtain ⟨c0, -⟩ := cell_fz hX7 0 _ rfl
            obtain ⟨c1, -⟩ := cell_fz hX7 1 _ rfl
            obtain ⟨c2, -⟩ := cell_fz hX7 2 _ rfl
            obtain ⟨c3, -⟩ := cell_fz hX7 3 _ rfl
            clear hown7 hF7 hnew hb8 hown8 q1 q2 q3 hK7 hX7 hC7 hNm1 hN1 hGw1
            go_wp2_with (at_builtin; refine wp_items etPack onePack _ rfl _ _ rfl w.heap.size _ L [(([.string name, .string ver, (.slice (some ⟨w5.heap.size, 0, none⟩) 1 1), .slice none 0 0], (⟨name, ver, itD [(([.string nm, .int .i64 0, .string ⟨#[]⟩], (⟨nm, 0, ⟨#[]⟩⟩ : NeedD), []) : It needC)], dEnts []⟩ : PackD), F7) : It packC)] w7.heap.size 0 1 (unhid HQ).1 (unhid HQ).2.1 (unhid HQ).2.2 (unhid HCL) (unhid HL) (unhid HSZ) rfl rfl ?_)
            intro v' w9 hgr
            have hb8 := unhid HB8
            have hG79 : w7.grownBy w9 (Value.slice va L.length vc).ownBlock := grown_transR (below_grown _ hb8) hgr.by_
            have hB79 : Below w.heap.size w7 w9 := ⟨hG79.os, hG79.tape, hG79.output, hG79.size, fun j hj => hG79.block j (by omega) (fun e => by have := ((unhid HQ).1.base j (.inl e.symm)).1; omega)⟩
            have hgrow : w.grownBy w9 (some b) := grown_low (unhid HG7) hB79
            have hR9 := Rd.low hR7 hB79 hbl
            have HI := hid (show PI w b a len cap p (k + 1) v' (L ++ [(([.string name, .string ver, (.slice (some ⟨w5.heap.size, 0, none⟩) 1 1), .slice none 0 0], (⟨name, ver, itD [(([.string nm, .int .i64 0, .string ⟨#[]⟩], (⟨nm, 0, ⟨#[]⟩⟩ : NeedD), []) : It needC)], dEnts []⟩ : PackD), F7) : It packC)]) w9 from
              ⟨(hG79.block _ (by omega) (fun e => hap _ (.inl e.symm) rfl)).trans (unhid HNM), Nat.lt_of_lt_of_le (by omega) hG79.size, hgr.row, (fun j hj => by
                rcases hj with hj | hj
                · rcases hgr.block with h | h
                  · exact hap j (.inl (h ▸ hj))
                  · rw [h] at hj; injection hj with hj
                    have := hb8.size; omega
                · rw [itF_app] at hj
                  rcases List.mem_append.1 hj with hj | hj
                  · exact hap j (.inr hj)
                  · have := ((unhid HF7) j (by simpa [itF] using hj)).1; omega), (fun d hd => by
                rw [itD_app] at hd
                rcases List.mem_append.1 hd with hd | hd
                · exact hok d hd
                · rw [List.mem_singleton.1 (show d ∈ [(⟨name, ver, itD [(([.string nm, .int .i64 0, .string ⟨#[]⟩], (⟨nm, 0, ⟨#[]⟩⟩ : NeedD), []) : It needC)], dEnts []⟩ : PackD)] from hd)]; exact hdp), by simp; omega, hgrow, _, by omega, hR9⟩)
            clear hgr hb8 hG79 hgrow hR9 HQ HCL HB8 HG7 HF7 HNM c0 c1 c2 c3 hR7
            go_wp2_with fail
            go_roundw
            case rel => exact ⟨k + 1, _, by omega, by go_num, HI⟩
            case measure => simp [intOf]; omega
          · have h2i : ((m2 : Int) == 0) = false := by rw [beq_eq_false_iff_ne]; omega
            have h2j : ¬ ((m2 : Int) = 0) := by omega
            go_upto_region 10 with fail
            have hX7 := hX4
            have hR7 := hR4
            have hC7 := hC4
            have hg7 := hg4
            have hK7 : DK w4 w1.heap.size (.slice none 0 0) [] (.slice none 0 0) [] := ⟨NRow.none w4 _, NRow.none w4 _, rfl, fun g e => by cases e⟩
            have hdp : DPk (⟨name, ver, itD ([] : List (It needC)), dEnts []⟩ : PackD) := dpk_of hname hver (by simp) (fun n hn => by cases hn)
            clear hX4 hR4 hC4 hg4
            generalize w4 = w7 at *
            obtain ⟨F7, hown7, hF7⟩ := hK7.own name ver
            have hnew := World.alloc_heap_new w7 (.cells #[.string name, .string ver, (.slice none 0 0), .slice none 0 0] 34)
            have hb8 : Below w7.heap.size w7 (w7.alloc (.cells #[.string name, .string ver, (.slice none 0 0), .slice none 0 0] 34)) := (Below.refl _ w7).alloc (Nat.le_refl _) _
            have hown8 := packC.frame hown7 (fun j hj => hb8.block j (hF7 j hj).2)
            obtain ⟨q1, q2, q3⟩ := items_newF hN1 (Nat.le_trans (Nat.le_of_lt (by omega : w.heap.size < w.heap.size + 1)) (Nat.le_of_lt hz1)) (fun j h1 h2 => (hb8.block j (Nat.lt_of_lt_of_le h2 hC7.size)).trans (hC7.block j h2 (by intro e; injection e; omega))) hown8 (fun j hj => (hF7 j hj).1)
            have HQ := hid (And.intro q1 (And.intro q2 q3))
            have HCL := hid (show ∀ j u, (itCells [(([.string name, .string ver, (.slice none 0 0), .slice none 0 0], (⟨name, ver, itD [], dEnts []⟩ : PackD), F7) : It packC)])[j]? = some u → (w7.alloc (.cells #[.string name, .string ver, (.slice none 0 0), .slice none 0 0] 34)).cell? ⟨w7.heap.size, 0 + j, none⟩ = some u from fun j u hj => by
              rw [Nat.zero_add]
              refine cell_arrS hnew j u ?_
              have hj' : [.string name, .string ver, (.slice none 0 0), .slice none 0 0][j]? = some u := by simpa [itCells] using hj
              simpa using hj')
            have HL := hid (show L.length + 1 ≤ 4194304 by omega)
            have HSZ := hid (show w.heap.size ≤ (w7.alloc (.cells #[.string name, .string ver, (.slice none 0 0), .slice none 0 0] 34)).heap.size from Nat.le_trans (by have := hC7.size; omega) hb8.size)
            have HB8 := hid hb8
            have HG7 := hid (grown_trans hGw1 hC7)
            have HF7 := hid hF7
            have HNM := hid ((hC7.block _ hz1 (by intro e; injection e; omega)).trans hNm1)
            have hs7 := hC7.size
            obtain ⟨c0, -⟩ := cell_fz hX7 0 _ rfl
            obtain ⟨c1, -⟩ := cell_fz hX7 1 _ rfl
            obtain ⟨c2, -⟩ := cell_fz hX7 2 _ rfl
            obtain ⟨c3, -⟩ := cell_fz hX7 3 _ rfl
            clear hown7 hF7 hnew hb8 hown8 q1 q2 q3 hK7 hX7 hC7 hNm1 hN1 hGw1
            go_wp2_with (at_builtin; refine wp_items etPack onePack _ rfl _ _ rfl w.heap.size _ L [(([.string name, .string ver, (.slice none 0 0), .slice none 0 0], (⟨name, ver, itD [], dEnts []⟩ : PackD), F7) : It packC)] w7.heap.size 0 1 (unhid HQ).1 (unhid HQ).2.1 (unhid HQ).2.2 (unhid HCL) (unhid HL) (unhid HSZ) rfl rfl ?_)
            intro v' w9 hgr
            have hb8 := unhid HB8
            have hG79 : w7.grownBy w9 (Value.slice va L.length vc).ownBlock := grown_transR (below_grown _ hb8) hgr.by_
            have hB79 : Below w.heap.size w7 w9 := ⟨hG79.os, hG79.tape, hG79.output, hG79.size, fun j hj => hG79.block j (by omega) (fun e => by have := ((unhid HQ).1.base j (.inl e.symm)).1; omega)⟩
            have hgrow : w.grownBy w9 (some b) := grown_low (unhid HG7) hB79
            have hR9 := Rd.low hR7 hB79 hbl
            have HI := hid (show PI w b a len cap p (k + 1) v' (L ++ [(([.string name, .string ver, (.slice none 0 0), .slice none 0 0], (⟨name, ver, itD [], dEnts []⟩ : PackD), F7) : It packC)]) w9 from
              ⟨(hG79.block _ (by omega) (fun e => hap _ (.inl e.symm) rfl)).trans (unhid HNM), Nat.lt_of_lt_of_le (by omega) hG79.size, hgr.row, (fun j hj => by
                rcases hj with hj | hj
                · rcases hgr.block with h | h
                  · exact hap j (.inl (h ▸ hj))
                  · rw [h] at hj; injection hj with hj
                    have := hb8.size; omega
                · rw [itF_app] at hj
                  rcases List.mem_append.1 hj with hj | hj
                  · exact hap j (.inr hj)
                  · have := ((unhid HF7) j (by simpa [itF] using hj)).1; omega), (fun d hd => by
                rw [itD_app] at hd
                rcases List.mem_append.1 hd with hd | hd
                · exact hok d hd
                · rw [List.mem_singleton.1 (show d ∈ [(⟨name, ver, itD [], dEnts []⟩ : PackD)] from hd)]; exact hdp), by simp; omega, hgrow, _, by omega, hR9⟩)
            clear hgr hb8 hG79 hgrow hR9 HQ HCL HB8 HG7 HF7 HNM c0 c1 c2 c3 hR7
            go_wp2_with fail
            go_roundw
            case rel => exact ⟨k + 1, _, by omega, by go_num, HI⟩
            case measure => simp [intOf]; omega
    · have e4 : k = 4 := by omega
      subst e4
      clear HI
      go_wp2_with fail
      refine (pick_any wr b a len cap p' hRd (by omega) 10 (by omega) (by omega)).mono ?_
      rintro e w1 ⟨m, hm, rfl, hR1, hG1⟩
      have hN1 : NRow packC 34 w1 w.heap.size (.slice va L.length vc) L := nrow_grown hN hG1 hbl
      have hGw1 := grown_trans hG hG1
      clear hRd hN hNm hz hG hG1 hap
      by_cases h0 : m = 0
      · subst h0
        go_wp2_with fail
        refine (l11AnyPack_any w1 b a len cap (p' + 1) hR1 (by omega)).mono ?_
        rintro e w7 ⟨name, ver, nv, nL, tv, ts, rfl, hname, hQ⟩
        have hdp := hQ.pack hname
        have hC7 := hQ.grown
        obtain ⟨p7, hp7, hR7⟩ := hQ.rd
        have hK7 := hQ.k
        clear hQ hR1
        obtain ⟨F7, hown7, hF7⟩ := hK7.own name ver
        have hnew := World.alloc_heap_new w7 (.cells #[.string name, .string ver, nv, tv] 34)
        have hb8 : Below w7.heap.size w7 (w7.alloc (.cells #[.string name, .string ver, nv, tv] 34)) := (Below.refl _ w7).alloc (Nat.le_refl _) _
        have hown8 := packC.frame hown7 (fun j hj => hb8.block j (hF7 j hj).2)
        obtain ⟨q1, q2, q3⟩ := items_newF hN1 hGw1.size (fun j h1 h2 => (hb8.block j (Nat.lt_of_lt_of_le h2 hC7.size)).trans (hC7.block j h2 (by intro e; injection e; omega))) hown8 (fun j hj => by have := (hF7 j hj).1; omega)
        have HQ := hid (And.intro q1 (And.intro q2 q3))
        have HCL := hid (show ∀ j u, (itCells [(([.string name, .string ver, nv, tv], (⟨name, ver, itD nL, dEnts ts⟩ : PackD), F7) : It packC)])[j]? = some u → (w7.alloc (.cells #[.string name, .string ver, nv, tv] 34)).cell? ⟨w7.heap.size, 0 + j, none⟩ = some u from fun j u hj => by
          rw [Nat.zero_add]
          refine cell_arrS hnew j u ?_
          have hj' : [.string name, .string ver, nv, tv][j]? = some u := by simpa [itCells] using hj
          simpa using hj')
        have HL := hid (show L.length + 1 ≤ 4194304 by omega)
        have HSZ := hid (show w.heap.size ≤ (w7.alloc (.cells #[.string name, .string ver, nv, tv] 34)).heap.size from Nat.le_trans (Nat.le_trans hGw1.size hC7.size) hb8.size)
        have HB8 := hid hb8
        have HG7 := hid (grown_trans hGw1 hC7)
        clear hown7 hnew hb8 hown8 q1 q2 q3 hK7 hC7 hN1 hGw1 hF7
        go_wp2_with (at_builtin; refine wp_items etPack onePack _ rfl _ _ rfl w.heap.size _ L [(([.string name, .string ver, nv, tv], (⟨name, ver, itD nL, dEnts ts⟩ : PackD), F7) : It packC)] w7.heap.size 0 1 (unhid HQ).1 (unhid HQ).2.1 (unhid HQ).2.2 (unhid HCL) (unhid HL) (unhid HSZ) rfl rfl ?_)
        intro v' w9 hgr
        have hb8 := unhid HB8
        have hG79 : w7.grownBy w9 (Value.slice va L.length vc).ownBlock := grown_transR (below_grown _ hb8) hgr.by_
        have hB79 : Below w.heap.size w7 w9 := ⟨hG79.os, hG79.tape, hG79.output, hG79.size, fun j hj => hG79.block j (Nat.lt_of_lt_of_le hj (unhid HG7).size) (fun e => by have := ((unhid HQ).1.base j (.inl e.symm)).1; omega)⟩
        have HF := hid (show PQ w b a len cap (p + 300) w9 v' (L ++ [(([.string name, .string ver, nv, tv], (⟨name, ver, itD nL, dEnts ts⟩ : PackD), F7) : It packC)]) from
          ⟨hgr.row, (fun d hd => by
            rw [itD_app] at hd
            rcases List.mem_append.1 hd with hd | hd
            · exact hok d hd
            · rw [List.mem_singleton.1 (show d ∈ [(⟨name, ver, itD nL, dEnts ts⟩ : PackD)] from hd)]; exact hdp), by simp; omega, ⟨p7, by omega, Rd.low hR7 hB79 hbl⟩, grown_low (unhid HG7) hB79⟩)
        obtain ⟨ra, rc, rfl⟩ := grew_slice hgr
        clear hgr hb8 hG79 hB79 HQ HCL HB8 HG7 hR7
        go_wp2_with fail
        go_ret
        exact ⟨_, _, rfl, unhid HF⟩
      · have h0' : ((m : Int) == 0) = false := by rw [beq_eq_false_iff_ne]; omega
        have h0i : ¬ ((m : Int) = 0) := by omega
        have HF := hid (show PQ w b a len cap (p + 300) w1 (.slice va L.length vc) L from ⟨hN1, hok, by omega, ⟨p' + 1, by omega, hR1⟩, hGw1⟩)
        clear hN1 hR1 hGw1
        go_wp2_with fail
        go_ret
        exact ⟨_, _, rfl, unhid HF⟩
end Go.Proofs.YtoihhlkidlapmaaGreat

/- What the laws of closures draw. -/
namespace Go.Proofs.YtoihhlkidlapmaaGreat
open Go.RowKit Go.Shelf

/-- Packs and names that are drawn. -/
structure DC (W : World) (v V : Value) (ps : List packC.D) (xs : List ByteArray) : Prop where
  packs : rowAt packC W v ps
  names : rowAt txtC W V xs
  ok : ∀ d ∈ ps, DPk d
  few : ps.length ≤ 5
  fewx : xs.length ≤ 3
  short : ∀ x ∈ xs, short x
theorem DC.below {W W' : World} {v V : Value} {ps : List packC.D} {xs : List ByteArray} (h : DC W v V ps xs) (hb : Below W.heap.size W W') : DC W' v V ps xs := ⟨h.packs.below hb, h.names.below hb, h.ok, h.few, h.fewx, h.short⟩
theorem DC.small {W : World} {v V : Value} {ps : List packC.D} {xs : List ByteArray} (h : DC W v V ps xs) : smallPs ps := ⟨by have := h.few; omega, fun d hd => (h.ok d hd).small⟩
end Go.Proofs.YtoihhlkidlapmaaGreat

/- The laws of closures: what comes of Closure as mathematics, the contracts, and what keeps. -/
namespace Go.Proofs.YtoihhlkidlapmaaGreat
open Go.RowKit Go.Shelf Go.Maps

/-- Whoever is in the list has what it needs ahead of it. -/
theorem good_needs {ps : List packC.D} {out : List ByteArray} (hn : (namesP ps).Nodup) (hg : GoodL (graphP ps) out) {k i j : Nat} {x : ByteArray} {p : packC.D} {n : needC.D} (hx : out[k]? = some x) (hp : ps[i]? = some p) (he : PackD.name p = x) (hj : (needsOf p)[j]? = some n) : NeedD.name n ∈ out.take k := by
  obtain ⟨-, ns, h1, h2⟩ := hg k x hx
  subst he
  rw [graph_at hn hp] at h1
  cases h1
  exact (h2 _ (List.mem_of_getElem? (asks_get (ps := ps) hj))).2

/-- Texts that are read. -/
structure TR (W : World) (a : Option Addr) (c : Nat) (xs : List ByteArray) : Prop where
  row : rowAt txtC W (.slice a xs.length c) xs
  few : xs.length ≤ 1000
  small : ∀ x ∈ xs, x.size ≤ 1048576
theorem TR.below {W W' : World} {a : Option Addr} {c : Nat} {xs : List ByteArray} (h : TR W a c xs) (hb : Below W.heap.size W W') : TR W' a c xs := ⟨h.row.below hb, h.few, h.small⟩
theorem TR.txts {W : World} {a : Option Addr} {c : Nat} {xs : List ByteArray} (h : TR W a c xs) : TxtsAt W a xs ∧ (a = none → c = 0) ∧ xs.length ≤ c := by
  obtain ⟨a', c', e, h1, h2, h3⟩ := rowAt_txts h.row
  injection e with e1 _ e3
  subst e1 e3
  exact ⟨h1, h2, h3⟩
theorem TR.nil (W : World) : TR W none 0 [] := ⟨row0 W, Nat.zero_le _, fun x hx => by cases hx⟩
theorem TR.one {W : World} {g : Nat} {x : ByteArray} (h : W.heap[g]? = some (.cells #[.string x] 9 (0, 0))) (hx : x.size ≤ 1048576) : TR W (some ⟨g, 0, none⟩) 1 [x] :=
  ⟨rowAt_of_txts (xs := [x]) (.inr ⟨g, 0, rfl, (Array.getElem?_eq_some_iff.1 h).1, fun i y hi => by
    rw [Nat.zero_add]
    cases i with
    | zero => simp at hi; subst hi; exact cell_arrS h 0 _ rfl
    | succ i => simp at hi⟩) (fun e => by cases e) (Nat.le_refl _), by simp, fun y hy => by rw [List.mem_singleton.1 hy]; exact hx⟩
theorem TR.get {W : World} {a : Option Addr} {c : Nat} {xs : List ByteArray} (h : TR W a c xs) {i : Nat} {x : ByteArray} (hi : xs[i]? = some x) : ∃ b o, a = some ⟨b, o, none⟩ ∧ b < W.heap.size ∧ W.cell? ⟨b, o + i, none⟩ = some (.string x) := by
  obtain ⟨b, o, h1, h2, h3⟩ := h.txts.1.get (by intro e; subst e; simp at hi)
  exact ⟨b, o, h1, h2, h3 i x hi⟩
theorem KW.txts {Φ : World → Prop} {W : World} (h : KW Φ W) {a : Option Addr} {c : Nat} {xs : List ByteArray} (hr : TR W a c xs) : KW (fun W => Φ W ∧ TR W a c xs) W := h.add (fun _ _ hb hp => hp.below hb) hr
def CloT (ps : List packC.D) (xs : List ByteArray) (W : World) (x : Ending) (w' : World) : Prop := ∃ a c, x = .returned (.tuple #[.slice a (closure_0 ps xs).length c, .int .i64 (closure_1 ps xs)]) ∧ TR w' a c (closure_0 ps xs) ∧ Below W.heap.size W w'
theorem cloT_of {ps : List packC.D} {xs : List ByteArray} {W w' : World} {v : Value} (hs : smallPs ps) (hf : ps.length ≤ 100) (ho : w'.ownsRow W.heap.size 9 1 v (closure_0 ps xs).length ((closure_0 ps xs).map Value.string)) (hb : Below W.heap.size W w') : CloT ps xs W (.returned (.tuple #[v, .int .i64 (closure_1 ps xs)])) w' := by
  obtain ⟨a, c, rfl, -, -, -⟩ := ownsRow_txts ho
  obtain ⟨h1, h2⟩ := closure_in ps xs
  exact ⟨a, c, rfl, ⟨ownsRow_at ho, by omega, fun x hx => names_small hs x (h2 x hx)⟩, hb⟩
theorem implClo_r {W : World} {pa xa : Option Addr} {pc xc : Nat} {ps : List packC.D} {xs : List ByteArray} (h : RR W pa pc ps) (hx : TR W xa xc xs) : Calls Tryz.prog 16 #[.slice pa ps.length pc, .slice xa xs.length xc] W (CloT ps xs W) := by
  refine (implClosure_any ps pa pc xs _ W h.small (by have := hx.few; omega) (fun x hm => le_maxLen (hx.small x hm)) h.row hx.row).mono ?_
  rintro e w' ⟨v, rfl, ho, hb⟩
  exact cloT_of h.small h.few ho hb
set_option maxRecDepth 100000 in
set_option maxHeartbeats 4000000 in
theorem jsTexts_t {xs : List ByteArray} {a b : Option Addr} {cap cap2 : Nat} {w : World} (hx : TR w a cap xs) (hy : TR w b cap2 xs) :
    Calls Tryz.prog 18 #[.slice a xs.length cap, .slice b xs.length cap2] w fun r w' => r = .returned (.bool true) ∧ Below w.heap.size w w' := by
  have h := hx.txts.1
  have h2 := hy.txts.1
  have hlen := hx.few
  clear hx hy
  have hl' : ((xs.length : Int) != (xs.length : Int)) = false := by simp
  go_enter Tryz.func18, Tryz.ntmps18
  go_wp2_with fail
  go_loopw [5] (fun i wr => ∃ k : Nat, k ≤ xs.length ∧ i = .int .i64 k ∧ Below w.heap.size w wr) (fun i _ => xs.length - (intOf i).toNat)
  case atStart => exact ⟨0, Nat.zero_le _, rfl, Below.refl _ _⟩
  case round =>
    obtain ⟨k, hk, rfl, hB⟩ := hrel
    by_cases hlt : k < xs.length
    · obtain ⟨e, he⟩ : ∃ e, xs[k]? = some e := ⟨xs[k], List.getElem?_eq_getElem hlt⟩
      obtain ⟨bb, o, rfl, hbl, hc⟩ := h.get (by intro e; subst e; simp at hlt)
      obtain ⟨bb2, o2, rfl, hbl2, hc2⟩ := h2.get (by intro e; subst e; simp at hlt)
      have c0 := (hB.cell (p := ⟨bb, o + k, .none⟩) hbl).trans (hc k e he)
      have d0 := (hB.cell (p := ⟨bb2, o2 + k, .none⟩) hbl2).trans (hc2 k e he)
      have HB := hid hB
      have HH := hid (And.intro h (And.intro h2 (And.intro hc hc2)))
      have hq : (e.toList != e.toList) = false := by simp
      clear hc hc2 hB he h h2
      go_wp2_with fail
      go_quiet (fail)
      go_wp2_with fail
      go_roundw
      case rel => exact ⟨k + 1, by omega, by go_num, ⟨(unhid HB).os, (unhid HB).tape, (unhid HB).output, (unhid HB).size, (unhid HB).block⟩⟩
      case measure => simp [intOf]; omega
    · have e : k = xs.length := by omega
      subst e
      go_wp2_with fail
      go_ret
      exact ⟨rfl, hB⟩
theorem mem_take_succ {xs : List ByteArray} {k : Nat} {x y : ByteArray} (hx : xs[k]? = some x) : y ∈ xs.take (k + 1) ↔ y ∈ xs.take k ∨ y = x := by
  rw [List.take_add_one, hx]; simp
set_option maxRecDepth 100000 in
set_option maxHeartbeats 4000000 in
theorem jsHas_t {xs : List ByteArray} {a : Option Addr} {cap : Nat} {w : World} (y : ByteArray) (hx : TR w a cap xs) :
    Calls Tryz.prog 19 #[.slice a xs.length cap, .string y] w fun r w' => r = .returned (.bool (memB y xs)) ∧ Below w.heap.size w w' := by
  have h := hx.txts.1
  have hlen := hx.few
  clear hx
  go_enter Tryz.func19, Tryz.ntmps19
  go_wp2_with fail
  go_loopw [5] (fun i wr => ∃ k : Nat, k ≤ xs.length ∧ i = .int .i64 k ∧ Hid (y ∉ xs.take k) ∧ Below w.heap.size w wr) (fun i _ => xs.length - (intOf i).toNat)
  case atStart => exact ⟨0, Nat.zero_le _, rfl, hid (by simp), Below.refl _ _⟩
  case round =>
    obtain ⟨k, hk, rfl, HN, hB⟩ := hrel
    by_cases hlt : k < xs.length
    · obtain ⟨e, he⟩ : ∃ e, xs[k]? = some e := ⟨xs[k], List.getElem?_eq_getElem hlt⟩
      obtain ⟨bb, o, rfl, hbl, hc⟩ := h.get (by intro e; subst e; simp at hlt)
      have c0 := (hB.cell (p := ⟨bb, o + k, .none⟩) hbl).trans (hc k e he)
      have HB := hid hB
      have HH := hid (And.intro h hc)
      have HE := hid he
      clear hc hB he h
      by_cases hey : e = y
      · have hq : (e.toList == y.toList) = true := by rw [hey]; simp
        have HM := hid (memB_yes (show y ∈ xs from List.mem_of_getElem? (hey ▸ unhid HE)))
        clear hey
        go_wp2_with fail
        go_ret
        exact ⟨by rw [unhid HM]; rfl, ⟨(unhid HB).os, (unhid HB).tape, (unhid HB).output, (unhid HB).size, (unhid HB).block⟩⟩
      · have hq : (e.toList == y.toList) = false := by
          rw [beq_eq_false_iff_ne]
          intro h
          exact hey (bytes_eq (by rw [← Lib.toList_data, ← Lib.toList_data]; exact h))
        have HN2 := hid (show y ∉ xs.take (k + 1) from fun hm => ((mem_take_succ (unhid HE)).1 hm).elim (unhid HN) (fun h => hey h.symm))
        clear hey
        go_wp2_with fail
        go_roundw
        case rel => exact ⟨k + 1, by omega, by go_num, HN2, ⟨(unhid HB).os, (unhid HB).tape, (unhid HB).output, (unhid HB).size, (unhid HB).block⟩⟩
        case measure => simp [intOf]; omega
    · have e : k = xs.length := by omega
      subst e
      have HM := hid (memB_no (show y ∉ xs by have := unhid HN; rwa [List.take_length] at this))
      go_wp2_with fail
      go_ret
      exact ⟨by rw [unhid HM]; rfl, hB⟩
theorem TR.take {W : World} {a : Option Addr} {c : Nat} {xs : List ByteArray} (h : TR W a c xs) {n : Nat} (hn : n ≤ xs.length) : TR W a c (xs.take n) := by
  obtain ⟨h1, h2, h3⟩ := h.txts
  refine ⟨rowAt_of_txts ?_ h2 (by rw [List.length_take]; omega), by rw [List.length_take]; have := h.few; omega, fun x hx => h.small x (List.mem_of_mem_take hx)⟩
  rcases h1 with h1 | ⟨b, o, e, hb, hc⟩
  · exact .inl (by rw [h1, List.take_nil])
  · refine .inr ⟨b, o, e, hb, fun i x hi => hc i x ?_⟩
    have hl : i < (xs.take n).length := (List.getElem?_eq_some_iff.1 hi).1
    rw [List.length_take] at hl
    rwa [List.getElem?_take_of_lt (by omega)] at hi
end Go.Proofs.YtoihhlkidlapmaaGreat

/- Whom each name is needed by: a map of rows of places, by the program. -/
namespace Go.Proofs.YtoihhlkidlapmaaGreat
open Go.RowKit Go.Shelf Go.Maps Go.ChangeShapes

/-- The names that are needed, and where who needs them is. -/
def prs : Nat → List packC.D → List (ByteArray × Nat)
  | _, [] => []
  | i, p :: ps => (needsOf p).map (fun n : needC.D => (NeedD.name n, i)) ++ prs (i + 1) ps
theorem prs_snoc : ∀ (i : Nat) (ps : List packC.D) (p : packC.D), prs i (ps ++ [p]) = prs i ps ++ (needsOf p).map (fun n : needC.D => (NeedD.name n, i + ps.length))
  | i, [], p => by simp [prs]
  | i, q :: ps, p => by
    rw [List.cons_append, prs, prs, prs_snoc (i + 1) ps p, List.append_assoc, List.length_cons, show i + 1 + ps.length = i + (ps.length + 1) by omega]
theorem prs_take {ps : List packC.D} {k : Nat} {p : packC.D} (h : ps[k]? = some p) : prs 0 (ps.take (k + 1)) = prs 0 (ps.take k) ++ (needsOf p).map (fun n : needC.D => (NeedD.name n, k)) := by
  have hl := (List.getElem?_eq_some_iff.1 h).1
  rw [List.take_add_one, h]
  show prs 0 (ps.take k ++ [p]) = _
  rw [prs_snoc, List.length_take, Nat.min_eq_left (by omega), Nat.zero_add]
theorem mem_prs {x : ByteArray} {j : Nat} : ∀ {i : Nat} {ps : List packC.D}, (x, j) ∈ prs i ps ↔ ∃ k p, ps[k]? = some p ∧ j = i + k ∧ ∃ n ∈ needsOf p, NeedD.name n = x
  | i, [] => by simp [prs]
  | i, q :: ps => by
    rw [prs, List.mem_append, mem_prs (i := i + 1) (ps := ps), List.mem_map]
    constructor
    · rintro (⟨n, hn, e⟩ | ⟨k, p, h1, h2, h3⟩)
      · cases e; exact ⟨0, q, rfl, rfl, n, hn, rfl⟩
      · exact ⟨k + 1, p, h1, by omega, h3⟩
    · rintro ⟨k, p, h1, h2, n, h3, h4⟩
      cases k with
      | zero => cases h1; left; exact ⟨n, h3, by rw [h4, h2]; rfl⟩
      | succ k => right; exact ⟨k, p, h1, by omega, n, h3, h4⟩
theorem prs_len {c : Nat} : ∀ (i : Nat) (ps : List packC.D), (∀ p ∈ ps, (needsOf p).length ≤ c) → (prs i ps).length ≤ ps.length * c
  | i, [], _ => by simp [prs]
  | i, q :: ps, h => by
    have h1 := prs_len (i + 1) ps (fun p hp => h p (List.mem_cons_of_mem _ hp))
    have h2 := h q (by simp)
    rw [prs, List.length_append, List.length_map, List.length_cons, Nat.add_mul]
    omega
def placesOf (l : List (ByteArray × Nat)) (y : ByteArray) : List Int := (l.filter (fun c => decide (c.1 = y))).map (fun c => (c.2 : Int))
theorem places_same (l : List (ByteArray × Nat)) (x : ByteArray) (i : Nat) : placesOf (l ++ [(x, i)]) x = placesOf l x ++ [(i : Int)] := by
  unfold placesOf
  rw [List.filter_append, List.filter_cons_of_pos (by simp), List.filter_nil, List.map_append]
  rfl
theorem places_other (l : List (ByteArray × Nat)) {x y : ByteArray} (i : Nat) (h : y ≠ x) : placesOf (l ++ [(x, i)]) y = placesOf l y := by
  unfold placesOf
  rw [List.filter_append, List.filter_cons_of_neg (by simp; exact fun e => h e.symm), List.filter_nil, List.append_nil]
theorem mem_places {l : List (ByteArray × Nat)} {y : ByteArray} {z : Int} : z ∈ placesOf l y ↔ ∃ i : Nat, (y, i) ∈ l ∧ z = (i : Int) := by
  unfold placesOf
  rw [List.mem_map]
  constructor
  · rintro ⟨c, hc, rfl⟩
    rw [List.mem_filter, decide_eq_true_eq] at hc
    exact ⟨c.2, by rw [← hc.2]; exact hc.1, rfl⟩
  · rintro ⟨i, hi, rfl⟩
    exact ⟨(y, i), List.mem_filter.2 ⟨hi, by simp⟩, rfl⟩
theorem places_len (l : List (ByteArray × Nat)) (y : ByteArray) : (placesOf l y).length ≤ l.length := by
  unfold placesOf
  rw [List.length_map]
  exact List.length_filter_le _ _
theorem lits_inj {zs ys : List Int} (h : (lits .i64 zs : List (DataW Unit)) = lits .i64 ys) : zs = ys := by
  unfold lits at h
  exact (List.map_inj_right (fun a b e => by injection e with e; injection e)).1 h
/-- The map of who is needed by whom. -/
structure Groups (W : World) (b : Nat) (l : List (ByteArray × Nat)) (D : DataW Unit) : Prop where
  own : W.ownsGroups Tryz.prog 9 (b + 1) 3 .i64 b l.length D
  isMap : IsMap D
  at_ : ∀ y : ByteArray, (D.atKey (.string y.data.toList) .nil = .nil ∧ placesOf l y = []) ∨ D.atKey (.string y.data.toList) .nil = .slice (lits .i64 (placesOf l y)) []
theorem Groups.zs {W W' : World} {b n : Nat} {l : List (ByteArray × Nat)} {D : DataW Unit} (h : Groups W b l D) {y : ByteArray} {v : Value} {zs : List Int} (hat : D.atKey (.string y.data.toList) .nil = rowDatum .i64 v zs) (ho : W'.ownsInts n 3 .i64 v zs) : zs = placesOf l y := by
  rcases h.at_ y with ⟨h1, h2⟩ | h1
  · rcases ho.datum (H := Unit) with ⟨h3, h4⟩ | h3
    · rw [h4, h2]
    · rw [h1, h3] at hat; cases hat
  · rcases ho.datum (H := Unit) with ⟨h3, h4⟩ | h3
    · rw [h1, h3] at hat; cases hat
    · rw [h1, h3] at hat
      injection hat with hat _
      exact (lits_inj hat).symm
theorem own_any {v : Value} : v.ownBlock = none ∨ v.ownBlock ≠ none := by cases v.ownBlock <;> simp
theorem Groups.keep {W W' : World} {b : Nat} {l : List (ByteArray × Nat)} {D : DataW Unit} (h : Groups W b l D) (hb : Below W.heap.size W W') : Groups W' b l D :=
  ⟨h.own.kept (below_grown none hb) (by simp) (fun _ _ _ _ _ => own_any), h.isMap, h.at_⟩
theorem Groups.next {W W' : World} {b : Nat} {l : List (ByteArray × Nat)} {D : DataW Unit} (h : Groups W b l D) {x : ByteArray} {i : Nat} {v' : Value} {base : Nat} (ho : W'.ownsInts base 3 .i64 v' (placesOf l x ++ [(i : Int)])) {W2 : World}
    (h2 : W2.ownsGroups Tryz.prog 9 (b + 1) 3 .i64 b (l.length + 1) (D.put (.string x.data.toList) (rowDatum .i64 v' (placesOf l x ++ [(i : Int)])))) : Groups W2 b (l ++ [(x, i)]) (D.put (.string x.data.toList) (rowDatum .i64 v' (placesOf l x ++ [(i : Int)]))) := by
  refine ⟨by rw [List.length_append]; exact h2, h.isMap.put _ _, fun y => ?_⟩
  by_cases hyx : y = x
  · subst hyx
    rw [atKey_put_same h.isMap (isKey_str _), places_same]
    exact .inr (ho.datum_pos (by simp))
  · rw [atKey_put_other (fun e => hyx (bytes_eq (by injection e))), places_other _ _ hyx]
    exact h.at_ y
theorem zeroInts (w : World) : (zeroValue 88).run Tryz.prog w = .ok (.slice none 0 0) w := by kernel_rfl
theorem Groups.look {W : World} {b : Nat} {l : List (ByteArray × Nat)} {D : DataW Unit} (h : Groups W b l D) (hl : l.length < maxLen) {x : ByteArray} (hx : x.size ≤ maxLen) :
    ∃ v, (Instr.lookup 93 (.map (some b)) (.string x) false).run Tryz.prog W = .ok v W ∧ W.ownsInts (b + 1) 3 .i64 v (placesOf l x) ∧ W.groupBack Tryz.prog 93 9 (b + 1) 3 .i64 b l.length D (.string x) (.string x.data.toList) v := by
  obtain ⟨v, zs, h1, h2, h3, _, h5⟩ := h.own.at law9 Tryz.underlying93 (zeroInts W) hl (Go.WideMaps.keyOf_string_mk Tryz.underlying9 hx)
  have e := h.zs h2 h3
  subst e
  exact ⟨v, h1, h3, h5⟩
theorem look_op {ops : Array Oper} {Q : Exit → Act → World → Prop} {K : Act → World → Prop} {a : Act} {w : World} {o : Oper} {t : Nat} {m x : Operand} (d b : Nat) (key v : Value) (hop : o.op = Op.lookup t m x false) (hw : Region.wanted o (yielded ops a.tmps) = true) (hd : o.dst = some d) (hm : a.eval m = .map (some b)) (hx : a.eval x = key)
    (hrun : (Instr.lookup t (.map (some b)) key false).run Tryz.prog w = .ok v w) (hk : K (a.put (some d) v) w) : if Region.wanted o (yielded ops a.tmps) = true then Oper.wp Tryz.prog o a w K Q else K (a.put o.dst undef) w := by
  rw [if_pos hw]
  unfold Oper.wp
  simp [execOp, hop, hm, hx, hrun, Result.andThen]
  show K (a.put o.dst v) w
  rw [hd]
  exact hk
theorem app_intG (w : World) (base ty : Nat) (v : Value) (n : Nat) (xs : List Value) (x : Int) (g : Nat) (hown : w.ownsRow base 3 1 v n xs) (h : w.cell? ⟨g, 0, none⟩ = some (.int .i64 x)) (hn : n ≤ 4398046511104) (hb : base ≤ w.heap.size) :
    ∃ v' w', (Builtin.append_ #[88, 88] ty #[v, .slice (some ⟨g, 0, none⟩) 1 1]).run Tryz.prog w = .ok v' w' ∧ w'.ownsRow base 3 1 v' (n + 1) (xs ++ [.int .i64 x]) ∧ w.grownBy w' v.ownBlock ∧ (v'.ownBlock = v.ownBlock ∨ v'.ownBlock = some w.heap.size) := by
  obtain ⟨i0, hi, hz0, hz1, hz2⟩ := info_parts infoInt3
  obtain ⟨v', w', hr, h2, h3, _, h5⟩ := run_append_own_at (P := Tryz.prog) w base 88 ty 3 i0 (.int .i64 0) 1 8 Tryz.underlying88 hi hz0 hz1 hz2 rfl (by decide) v n xs hown ⟨g, 0, none⟩ 1 1 [.int .i64 x] (by simp) (by
    intro j u hj
    have : j = 0 := by
      have := (List.getElem?_eq_some_iff.1 hj).1
      simpa using this
    subst this
    simp at hj
    subst hj
    exact h) (int_oneN x) (by unfold maxLen; omega) (by omega) hb
  exact ⟨v', w', hr, h2, h3, h5⟩
theorem int_op {ops : Array Oper} {Q : Exit → Act → World → Prop} {K : Act → World → Prop} {a : Act} {w : World} {o : Oper} {s y : Operand} (d base : Nat) (v : Value) (n : Nat) (xs : List Value) (x : Int) (g : Nat)
    (hop : o.op = .call { callee := .builtin .append, args := #[s, y], argTypes := #[88, 88] }) (hw : Region.wanted o (yielded ops a.tmps) = true) (hd : o.dst = some d) (hs : a.eval s = v) (hx : a.eval y = .slice (some ⟨g, 0, none⟩) 1 1)
    (hown : w.ownsRow base 3 1 v n xs) (h : w.cell? ⟨g, 0, none⟩ = some (.int .i64 x)) (hn : n ≤ 4398046511104) (hb : base ≤ w.heap.size)
    (hk : ∀ v' w', w'.ownsRow base 3 1 v' (n + 1) (xs ++ [.int .i64 x]) → w.grownBy w' v.ownBlock → (v'.ownBlock = v.ownBlock ∨ v'.ownBlock = some w.heap.size) → K (a.put (some d) v') w') : if Region.wanted o (yielded ops a.tmps) = true then Oper.wp Tryz.prog o a w K Q else K (a.put o.dst undef) w := by
  rw [if_pos hw]
  obtain ⟨v', w', hr, h2, h3, h5⟩ := app_intG w base o.type v n xs x g hown h hn hb
  unfold Oper.wp execOp
  simp only [hop, resolve, invoke, builtin, Sem.run_bind, Sem.run_pure, Result.andThen_ok, List.map_toArray, List.map_cons, List.map_nil, hs, hx, hr]
  show K (a.put o.dst v') w'
  rw [hd]
  exact hk v' w' h2 h3 h5
theorem store_op {ops : Array Oper} {Q : Exit → Act → World → Prop} {K : Act → World → Prop} {a : Act} {w w2 : World} {o : Oper} {t : Nat} {m x u : Operand} (b : Nat) (key v : Value) (hop : o.op = Op.mapUpdate t m x u) (hw : Region.wanted o (yielded ops a.tmps) = true) (hm : a.eval m = .map (some b)) (hx : a.eval x = key) (hu : a.eval u = v)
    (hrun : (Instr.mapUpdate t (.map (some b)) key v).run Tryz.prog w = .ok () w2) (hk : K (a.put o.dst undef) w2) : if Region.wanted o (yielded ops a.tmps) = true then Oper.wp Tryz.prog o a w K Q else K (a.put o.dst undef) w := by
  rw [if_pos hw]
  unfold Oper.wp
  simp [execOp, hop, hm, hx, hu, hrun, Result.andThen]
  exact hk
theorem own_ne_box {W : World} {N e size n g T : Nat} {v : Value} {xs : List Value} {cs : Array Value} (h : W.ownsRow N e size v n xs) (hg : W.heap[g]? = some (.cells cs T (0, 0))) (hT : T ≠ e) : ∀ k, v.ownBlock = some k → k ≠ g := by
  intro k hk e1
  subst e1
  rcases h.2 with ⟨rfl, _⟩ | ⟨g2, cap, cur, rfl, _, hh, _⟩
  · cases hk
  · have : g2 = k := by injection hk
    subst this
    rw [hg] at hh
    injection hh with hh
    injection hh with _ hh
    exact hT hh
theorem groups_made (w : World) : Groups (w.alloc (.map #[] 0)) w.heap.size [] (.map []) := ⟨World.ownsGroups_made w Tryz.prog 9 3 .i64, isMap_empty, fun _ => .inl ⟨rfl, rfl⟩⟩
theorem mkMapG (W : World) (n : Nat) : (Instr.makeMap 93 (some (.int .i64 (n : Int)))).run Tryz.prog W = .ok (.map (some W.heap.size)) (W.alloc (.map #[] 0)) := by
  simp [Instr.makeMap, run_underlying Tryz.underlying93, asInt, asIntOf]

/-- One more place is put in. -/
theorem Groups.step {W : World} {b : Nat} {l : List (ByteArray × Nat)} {D : DataW Unit} (h : Groups W b l D) {x : ByteArray} {i : Nat} (hi : i ≤ 1048576) {v v' : Value} (ho : W.ownsInts (b + 1) 3 .i64 v (placesOf l x)) (hback : W.groupBack Tryz.prog 93 9 (b + 1) 3 .i64 b l.length D (.string x) (.string x.data.toList) v)
    {w1 : World} (hg : W.grownBy w1 v.ownBlock) (hown' : w1.ownsRow (b + 1) 3 1 v' ((placesOf l x).length + 1) ((placesOf l x).map (Value.int .i64) ++ [.int .i64 (i : Int)])) (hblk : v'.ownBlock = v.ownBlock ∨ ∃ g, v'.ownBlock = some g ∧ W.heap.size ≤ g) (hbl : b < W.heap.size) :
    ∃ w2 D2, (Instr.mapUpdate 93 (.map (some b)) (.string x) v').run Tryz.prog w1 = .ok () w2 ∧ Groups w2 b (l ++ [(x, i)]) D2 ∧ Below b W w2 ∧ W.heap.size ≤ w2.heap.size := by
  have h1 := ho.appended (v' := v') (x := (i : Int)) hown' (wf_nat hi)
  obtain ⟨w2, r1, r2, r3⟩ := hback w1 v' _ hg h1 (by rw [List.length_append]; have := places_len l x; simp; omega) hblk
  refine ⟨w2, _, r1, h.next h1 r2, ?_, Nat.le_trans hg.size r3.size⟩
  have hlt := ho.1.lt
  refine ((Below.refl b W).grown hg (by omega) (fun j hj => ?_)).grown r3 (by have := hg.size; omega) (fun j hj => by cases hj; exact Nat.le_refl _)
  have := (hlt j hj).1
  omega
set_option maxRecDepth 100000 in
set_option maxHeartbeats 16000000 in
theorem needersByName_any (ps : List packC.D) (v : Value) (w : World) (hs : smallPs ps) (h : rowAt packC w v ps) :
    Calls Tryz.prog 67 #[v] w fun x w' => ∃ D, x = .returned (.map (some w.heap.size)) ∧ Groups w' w.heap.size (prs 0 ps) D ∧ w.heap.size < w'.heap.size ∧ Below w.heap.size w w' := by
  obtain ⟨a, cap, rfl, -, -, h⟩ := h
  have hlen := hs.1
  have HSM := hid hs
  have H := hid h
  have HG0 := hid (groups_made w)
  have HB0 := hid (show Below w.heap.size w (w.alloc (.map #[] 0)) from (Below.refl _ w).alloc (Nat.le_refl _) _)
  have HZ0 := hid (show w.heap.size < (w.alloc (.map #[] 0)).heap.size by simp)
  have hmm := mkMapG w ps.length
  clear h hs
  go_enter Tryz.func67, Tryz.ntmps67
  go_wp2_with fail
  generalize w.alloc (.map #[] 0) = w1 at HG0 HB0 HZ0 ⊢
  clear hmm
  go_loopw [13] (fun i wr => ∃ (k : Nat) (D : DataW Unit), k ≤ ps.length ∧ i = .int .i64 (k : Int) ∧ Hid (Groups wr w.heap.size (prs 0 (ps.take k)) D) ∧ Hid (Below w.heap.size w wr) ∧ Hid (w.heap.size < wr.heap.size)) (fun i _ => ps.length - (intOf i).toNat)
  case atStart => exact ⟨0, _, Nat.zero_le _, rfl, HG0, HB0, HZ0⟩
  case round =>
    clear HG0 HB0 HZ0
    obtain ⟨k, D, hk, rfl, HG, HB, HZ⟩ := hrel
    by_cases hlt : k < ps.length
    · obtain ⟨p, hp⟩ : ∃ p, ps[k]? = some p := ⟨ps[k], List.getElem?_eq_getElem hlt⟩
      obtain ⟨b, o, rfl, hbl, hc⟩ := (unhid H).resolve_left (by intro e; subst e; simp at hlt)
      obtain ⟨na, nc, ta, tc, ⟨c0, c1, c2, c3⟩, hat⟩ := pack_cells (Below.refl w.heap.size w) hbl hc hp
      have c0 := ((unhid HB).cell (p := ⟨b, o + k * 4, none⟩) hbl).trans c0
      have c1 := ((unhid HB).cell (p := ⟨b, o + k * 4 + 1, none⟩) hbl).trans c1
      have c2 := ((unhid HB).cell (p := ⟨b, o + k * 4 + 2, none⟩) hbl).trans c2
      have c3 := ((unhid HB).cell (p := ⟨b, o + k * 4 + 3, none⟩) hbl).trans c3
      have HAT := hid hat
      have HP := hid hp
      have HSP := hid ((unhid HSM).2 p (List.mem_of_getElem? hp))
      have hb1 : Below wr.heap.size wr (wr.alloc (.cells #[.string (PackD.name p), .string (PackD.version p), .slice na (PackD.needs p).length nc, .slice ta (PackD.tree p).length tc] 34)) := (Below.refl _ wr).alloc (Nat.le_refl _) _
      have HG1 := hid (show Groups (wr.alloc (.cells #[.string (PackD.name p), .string (PackD.version p), .slice na (PackD.needs p).length nc, .slice ta (PackD.tree p).length tc] 34)) w.heap.size (prs 0 (ps.take k) ++ ((needsOf p).take 0).map (fun n : needC.D => (NeedD.name n, k))) D by rw [List.take_zero, List.map_nil, List.append_nil]; exact (unhid HG).keep hb1)
      have HB1 := hid ((unhid HB).trans (hb1.mono (unhid HB).size))
      have HZ1 := hid (Nat.lt_of_lt_of_le (unhid HZ) hb1.size)
      have hnl : (PackD.needs p).length ≤ 1048576 := (unhid HSP).needs.1
      have hql : (prs 0 (ps.take k)).length ≤ 1048576 * 1048576 := by
        have h1 := prs_len (c := 1048576) 0 (ps.take k) (fun q hq => ((unhid HSM).2 q (List.mem_of_mem_take hq)).needs.1)
        have h2 : (ps.take k).length ≤ 1048576 := by rw [List.length_take]; omega
        exact Nat.le_trans h1 (Nat.mul_le_mul_right _ h2)
      clear hc hp hbl hat hb1 HG HB HZ
      go_wp2_with fail
      generalize wr.alloc (.cells #[.string (PackD.name p), .string (PackD.version p), .slice na (PackD.needs p).length nc, .slice ta (PackD.tree p).length tc] 34) = w2 at HG1 HB1 HZ1 ⊢
      go_loopw [21] (fun j wx => ∃ (m : Nat) (D : DataW Unit), m ≤ (PackD.needs p).length ∧ j = .int .i64 (m : Int) ∧ Hid (Groups wx w.heap.size (prs 0 (ps.take k) ++ ((needsOf p).take m).map (fun n : needC.D => (NeedD.name n, k))) D) ∧ Hid (Below w.heap.size w wx) ∧ Hid (w.heap.size < wx.heap.size)) (fun j _ => (PackD.needs p).length - (intOf j).toNat)
      case atStart => exact ⟨0, D, Nat.zero_le _, rfl, HG1, HB1, HZ1⟩
      case round =>
        clear HG1 HB1 HZ1
        obtain ⟨m, D, hm, rfl, HG, HB, HZ⟩ := hrel
        by_cases hlm : m < (PackD.needs p).length
        · obtain ⟨n, hn⟩ : ∃ n, (needsOf p)[m]? = some n := ⟨(needsOf p)[m]'hlm, List.getElem?_eq_getElem hlm⟩
          obtain ⟨nb, no, rfl, hnb, d0, d1, d2⟩ := need_in (unhid HAT) hn
          have e0 := ((unhid HB).cell (p := ⟨nb, no + m * 3, none⟩) hnb).trans d0
          have e1 := ((unhid HB).cell (p := ⟨nb, no + m * 3 + 1, none⟩) hnb).trans d1
          have e2 := ((unhid HB).cell (p := ⟨nb, no + m * 3 + 2, none⟩) hnb).trans d2
          have HN := hid hn
          have hxs : (NeedD.name n).size ≤ maxLen := le_maxLen ((unhid HSP).needs.2 n (List.mem_of_getElem? hn)).1
          have hll : (prs 0 (ps.take k) ++ ((needsOf p).take m).map (fun n : needC.D => (NeedD.name n, k))).length ≤ 2199023255552 := by
            rw [List.length_append, List.length_map, List.length_take]; omega
          have hlx : (prs 0 (ps.take k) ++ ((needsOf p).take m).map (fun n : needC.D => (NeedD.name n, k))).length < maxLen := by unfold maxLen; omega
          clear d0 d1 d2 hn hnb c0 c1 c2 c3 hql
          go_upto_region 8 with fail
          clear e0 e1 e2
          have hX3 := World.alloc_heap_new wr (.cells #[.string (NeedD.name n), .int .i64 (NeedD.kind n), .string (NeedD.version n)] 36)
          have hb3 : Below wr.heap.size wr (wr.alloc (.cells #[.string (NeedD.name n), .int .i64 (NeedD.kind n), .string (NeedD.version n)] 36)) := (Below.refl _ wr).alloc (Nat.le_refl _) _
          have hz3 : wr.heap.size < (wr.alloc (.cells #[.string (NeedD.name n), .int .i64 (NeedD.kind n), .string (NeedD.version n)] 36)).heap.size := by simp
          generalize wr.alloc (.cells #[.string (NeedD.name n), .int .i64 (NeedD.kind n), .string (NeedD.version n)] 36) = w3 at hX3 hb3 hz3 ⊢
          have hG3 := (unhid HG).keep hb3
          have hB3 := (unhid HB).trans (hb3.mono (unhid HB).size)
          have hZ3 := Nat.lt_of_lt_of_le (unhid HZ) hb3.size
          have hC0 : (fun w' : World => w'.heap[wr.heap.size]? = some (.cells #[.string (NeedD.name n), .int .i64 (NeedD.kind n), .string (NeedD.version n)] 36 (0, 0))) w3.drew := hX3
          have gp : ∀ x : CW (fun w' : World => w'.heap[wr.heap.size]? = some (.cells #[.string (NeedD.name n), .int .i64 (NeedD.kind n), .string (NeedD.version n)] 36 (0, 0))), x.w.cell? ⟨wr.heap.size, 0, none⟩ = some (.string (NeedD.name n)) := fun x => cell_arrS x.h 0 _ rfl
          have hba : ∀ {q : Prop}, (CW (fun w' : World => w'.heap[wr.heap.size]? = some (.cells #[.string (NeedD.name n), .int .i64 (NeedD.kind n), .string (NeedD.version n)] 36 (0, 0))) → q) ↔ q := CW.all hC0
          clear HG HB HZ hb3
          refine heldE_begin 10 (fun w' : World => w'.heap[wr.heap.size]? = some (.cells #[.string (NeedD.name n), .int .i64 (NeedD.kind n), .string (NeedD.version n)] 36 (0, 0))) (by kernel_rfl) ?_
          refine heldE_here [true, true, true, true, true, true, false, true] (by kernel_rfl) (by kernel_rfl) (fun _ _ _ _ _ h => h) hC0 ?_
          dsimp only [pick]
          repeat (go_big_quiet_step (fail))
          refine wpQuiet_nil ?_
          have hG4 := hG3.keep (drew_belowS (B := w3.heap.size) w3)
          have hB4 : Below w.heap.size w w3.drew := hB3.trans ((drew_belowS (B := w3.heap.size) w3).mono hB3.size)
          have hz4 : wr.heap.size < w3.drew.heap.size := hz3
          have hZ4 : w.heap.size < w3.drew.heap.size := hZ3
          clear hba gp hX3 hG3 hB3 hz3 hZ3
          generalize w3.drew = w4 at *
          refine heldE_op2 6 8 (by kernel_rfl) (by kernel_rfl) rfl rfl (fun KK hK => ?_) (fun KK hK => ?_)
          · obtain ⟨v, hrun, hoi, hback⟩ := hG4.look hlx hxs
            refine look_op 31 w.heap.size (.string (NeedD.name n)) v rfl (by kernel_rfl) rfl rfl rfl hrun (hK.out _ _ hC0 ?_)
            simp only [Act.put, List.setIfInBounds_toArray, List.set_cons_zero, List.set_cons_succ]
            clear hK KK hrun
            have hX5 := World.alloc_heap_new w4 (.cells #[.int .i64 (k : Int)] 3)
            have hb5 : Below w4.heap.size w4 (w4.alloc (.cells #[.int .i64 (k : Int)] 3)) := (Below.refl _ w4).alloc (Nat.le_refl _) _
            have hz5 : w4.heap.size < (w4.alloc (.cells #[.int .i64 (k : Int)] 3)).heap.size := by simp
            have hC5 := (hb5.block wr.heap.size hz4).trans hC0
            refine heldE_op 8 (by kernel_rfl) (by kernel_rfl) rfl (fun KK hK => ?_)
            go_simp
            refine hK.out _ _ hC5 ?_
            clear hK KK
            generalize w4.alloc (.cells #[.int .i64 (k : Int)] 3) = w5 at hX5 hb5 hz5 hC5 ⊢
            have hoi5 : w5.ownsRow (w.heap.size + 1) 3 1 v (placesOf (prs 0 (ps.take k) ++ ((needsOf p).take m).map (fun n : needC.D => (NeedD.name n, k))) (NeedD.name n)).length ((placesOf (prs 0 (ps.take k) ++ ((needsOf p).take m).map (fun n : needC.D => (NeedD.name n, k))) (NeedD.name n)).map (Value.int .i64)) := hoi.1.kept (below_grown none hb5) own_any
            have hvb := own_ne_box hoi5 hC5 (by decide)
            refine heldE_op 9 (by kernel_rfl) (by kernel_rfl) rfl (fun KK hK => ?_)
            refine int_op 34 (w.heap.size + 1) v _ _ (k : Int) w4.heap.size rfl (by kernel_rfl) rfl rfl rfl hoi5 (cell_arrS hX5 0 _ rfl) (Nat.le_trans (places_len _ _) (Nat.le_trans hll (by omega))) (by omega) (fun v' w6 hown6 hg6 hblk => ?_)
            have hC6 := (hg6.block wr.heap.size (by omega) (fun e => hvb _ e.symm rfl)).trans hC5
            refine hK.out _ _ hC6 ?_
            simp only [Act.put, List.setIfInBounds_toArray, List.set_cons_zero, List.set_cons_succ]
            clear hK KK
            have hz6 := hg6.size
            obtain ⟨w7, D7, r1, r2, r3, r4⟩ := hG4.step (by omega) hoi hback (grown_transR (below_grown _ hb5) hg6) hown6 (by
              rcases hblk with h | h
              · exact .inl h
              · exact .inr ⟨_, h, by omega⟩) (by omega)
            have HG7 := hid (show Groups w7 w.heap.size (prs 0 (ps.take k) ++ ((needsOf p).take (m + 1)).map (fun n : needC.D => (NeedD.name n, k))) D7 by
              have e9 : (needsOf p).take (m + 1) = (needsOf p).take m ++ [n] := by rw [List.take_add_one, unhid HN]; rfl
              rw [e9, List.map_append, ← List.append_assoc]; exact r2)
            have HB7 := hid (show Below w.heap.size w w7 from hB4.trans r3)
            have HZ7 := hid (show w.heap.size < w7.heap.size by omega)
            refine heldE_last (by kernel_rfl) (by kernel_rfl) rfl (fun KK hK => ?_)
            refine store_op w.heap.size (.string (NeedD.name n)) v' rfl (by kernel_rfl) rfl rfl rfl r1 (hK.out _ _ ?_)
            clear hK KK r1 r2 r3 r4 hback hoi hoi5 hown6 hg6 hblk hC6 hC5 hC0 hX5 hb5 hG4 hB4
            refine heldE_done (by kernel_rfl) ?_
            go_wp2_with fail
            go_roundw
            case rel => exact ⟨m + 1, D7, by omega, by go_num, HG7, HB7, HZ7⟩
            case measure => simp [intOf]; omega
          · go_simp
            have hX5 := World.alloc_heap_new w4 (.cells #[.int .i64 (k : Int)] 3)
            have hb5 : Below w4.heap.size w4 (w4.alloc (.cells #[.int .i64 (k : Int)] 3)) := (Below.refl _ w4).alloc (Nat.le_refl _) _
            have hz5 : w4.heap.size < (w4.alloc (.cells #[.int .i64 (k : Int)] 3)).heap.size := by simp
            have hC5 := (hb5.block wr.heap.size hz4).trans hC0
            refine hK.out _ _ hC5 ?_
            clear hK KK
            generalize w4.alloc (.cells #[.int .i64 (k : Int)] 3) = w5 at hX5 hb5 hz5 hC5 ⊢
            have hG5 := hG4.keep hb5
            obtain ⟨v, hrun, hoi, hback⟩ := hG5.look hlx hxs
            refine heldE_op 6 (by kernel_rfl) (by kernel_rfl) rfl (fun KK hK => ?_)
            refine look_op 31 w.heap.size (.string (NeedD.name n)) v rfl (by kernel_rfl) rfl rfl rfl hrun (hK.out _ _ hC5 ?_)
            simp only [Act.put, List.setIfInBounds_toArray, List.set_cons_zero, List.set_cons_succ]
            clear hK KK hrun
            have hoi5 := hoi.1
            have hvb := own_ne_box hoi5 hC5 (by decide)
            refine heldE_op 9 (by kernel_rfl) (by kernel_rfl) rfl (fun KK hK => ?_)
            refine int_op 34 (w.heap.size + 1) v _ _ (k : Int) w4.heap.size rfl (by kernel_rfl) rfl rfl rfl hoi5 (cell_arrS hX5 0 _ rfl) (Nat.le_trans (places_len _ _) (Nat.le_trans hll (by omega))) (by omega) (fun v' w6 hown6 hg6 hblk => ?_)
            have hC6 := (hg6.block wr.heap.size (by omega) (fun e => hvb _ e.symm rfl)).trans hC5
            refine hK.out _ _ hC6 ?_
            simp only [Act.put, List.setIfInBounds_toArray, List.set_cons_zero, List.set_cons_succ]
            clear hK KK
            have hz6 := hg6.size
            obtain ⟨w7, D7, r1, r2, r3, r4⟩ := hG5.step (by omega) hoi hback (hg6) hown6 (by
              rcases hblk with h | h
              · exact .inl h
              · exact .inr ⟨_, h, by omega⟩) (by omega)
            have HG7 := hid (show Groups w7 w.heap.size (prs 0 (ps.take k) ++ ((needsOf p).take (m + 1)).map (fun n : needC.D => (NeedD.name n, k))) D7 by
              have e9 : (needsOf p).take (m + 1) = (needsOf p).take m ++ [n] := by rw [List.take_add_one, unhid HN]; rfl
              rw [e9, List.map_append, ← List.append_assoc]; exact r2)
            have HB7 := hid (show Below w.heap.size w w7 from (hB4.trans (hb5.mono hB4.size)).trans r3)
            have HZ7 := hid (show w.heap.size < w7.heap.size by omega)
            refine heldE_last (by kernel_rfl) (by kernel_rfl) rfl (fun KK hK => ?_)
            refine store_op w.heap.size (.string (NeedD.name n)) v' rfl (by kernel_rfl) rfl rfl rfl r1 (hK.out _ _ ?_)
            clear hK KK r1 r2 r3 r4 hback hoi hoi5 hown6 hg6 hblk hC6 hC5 hC0 hX5 hb5 hG4 hB4 hG5
            refine heldE_done (by kernel_rfl) ?_
            go_wp2_with fail
            go_roundw
            case rel => exact ⟨m + 1, D7, by omega, by go_num, HG7, HB7, HZ7⟩
            case measure => simp [intOf]; omega
        · have e : m = (PackD.needs p).length := by omega
          subst e
          have HG2 := hid (show Groups wr w.heap.size (prs 0 (ps.take (k + 1))) D by
            have h1 := unhid HG
            have e9 : List.take (PackD.needs p).length (needsOf p) = needsOf p := List.take_of_length_le (Nat.le_refl _)
            rw [e9] at h1
            rw [prs_take (unhid HP)]; exact h1)
          clear HG c0 c1 c2 c3
          go_wp2_with fail
          go_roundw
          case rel => exact ⟨k + 1, D, by omega, by go_num, HG2, HB, HZ⟩
          case measure => simp [intOf]; omega
    · have e : k = ps.length := by omega
      subst e
      have HG2 := hid (show Groups wr w.heap.size (prs 0 ps) D by have h1 := unhid HG; rwa [List.take_length] at h1)
      clear HG
      go_wp2_with fail
      go_ret
      exact ⟨D, rfl, unhid HG2, unhid HZ, unhid HB⟩
end Go.Proofs.YtoihhlkidlapmaaGreat

/- Who needs one of a name, at first or through others: round by round, as mathematics. -/
namespace Go.Proofs.YtoihhlkidlapmaaGreat

/-- Who needs one of a name, or of a set. -/
def ClosedT {α : Type} (L : List (α × List α)) (nm : α) (T : α → Prop) : Prop := ∀ p ∈ L, p.1 ≠ nm → (∃ n ∈ p.2, n = nm ∨ T n) → T p.1
def SoundT {α : Type} (L : List (α × List α)) (nm : α) (l : List α) : Prop := ∀ U : α → Prop, ClosedT L nm U → ∀ x ∈ l, U x
theorem same_set {α : Type} {L : List (α × List α)} {nm : α} {a b : List α} (ca : ClosedT L nm (· ∈ a)) (sa : SoundT L nm a) (cb : ClosedT L nm (· ∈ b)) (sb : SoundT L nm b) (x : α) : x ∈ a ↔ x ∈ b := ⟨sa _ cb x, sb _ ca x⟩
def asksN {α : Type} [DecidableEq α] (nm : α) (out : List α) (p : α × List α) : Bool := !decide (p.1 = nm) && p.2.any fun n => decide (n = nm) || decide (n ∈ out)
theorem asksN_iff {α : Type} [DecidableEq α] {nm : α} {out : List α} {p : α × List α} : asksN nm out p = true ↔ p.1 ≠ nm ∧ ∃ n ∈ p.2, n = nm ∨ n ∈ out := by
  unfold asksN
  simp
def stepN {α : Type} [DecidableEq α] (add : List α → α → List α) (nm : α) (out : List α) (p : α × List α) : List α := if asksN nm out p = true then add out p.1 else out
def roundsN {α : Type} [DecidableEq α] (add : List α → α → List α) (L : List (α × List α)) (nm : α) : Nat → List α
  | 0 => []
  | k + 1 => L.foldl (stepN add nm) (roundsN add L nm k)
structure AddsA {α : Type} (add : List α → α → List α) : Prop where
  mem : ∀ out s z, z ∈ add out s ↔ z ∈ out ∨ z = s
  same : ∀ out s, s ∈ out → add out s = out
  more : ∀ out s, s ∉ out → (add out s).length = out.length + 1
theorem fold_grow {α : Type} [DecidableEq α] {add : List α → α → List α} (ha : AddsA add) (nm : α) : ∀ (L : List (α × List α)) (out : List α), out.length ≤ (L.foldl (stepN add nm) out).length ∧ (∀ z ∈ out, z ∈ L.foldl (stepN add nm) out) ∧ ((L.foldl (stepN add nm) out).length = out.length → L.foldl (stepN add nm) out = out ∧ ∀ p ∈ L, asksN nm out p = true → p.1 ∈ out)
  | [], out => ⟨Nat.le_refl _, fun _ h => h, fun _ => ⟨rfl, fun p hp => by cases hp⟩⟩
  | p :: L, out => by
    obtain ⟨h1, h2, h3⟩ := fold_grow ha nm L (stepN add nm out p)
    rw [List.foldl_cons]
    have hs : stepN add nm out p = out ∧ (asksN nm out p = true → p.1 ∈ out) ∨ ((stepN add nm out p).length = out.length + 1 ∧ ∀ z ∈ out, z ∈ stepN add nm out p) := by
      unfold stepN
      by_cases hc : asksN nm out p = true
      · rw [if_pos hc]
        by_cases hm : p.1 ∈ out
        · exact .inl ⟨ha.same _ _ hm, fun _ => hm⟩
        · exact .inr ⟨ha.more _ _ hm, fun z hz => (ha.mem _ _ _).2 (.inl hz)⟩
      · rw [if_neg hc]; exact .inl ⟨rfl, fun h => absurd h hc⟩
    rcases hs with ⟨e, hm⟩ | ⟨e, hm⟩
    · rw [e] at h1 h2 h3 ⊢
      refine ⟨h1, h2, fun h => ⟨(h3 h).1, fun q hq ha => ?_⟩⟩
      rcases List.mem_cons.1 hq with rfl | hq
      · exact hm ha
      · exact (h3 h).2 q hq ha
    · exact ⟨by omega, fun z hz => h2 z (hm z hz), fun h => by omega⟩
theorem fold_stay {α : Type} [DecidableEq α] {add : List α → α → List α} (ha : AddsA add) (nm : α) : ∀ (L : List (α × List α)) (out : List α), (∀ p ∈ L, asksN nm out p = true → p.1 ∈ out) → L.foldl (stepN add nm) out = out
  | [], _, _ => rfl
  | p :: L, out, h => by
    have e : stepN add nm out p = out := by
      unfold stepN
      by_cases hc : asksN nm out p = true
      · rw [if_pos hc]; exact ha.same _ _ (h p (by simp) hc)
      · rw [if_neg hc]
    rw [List.foldl_cons, e]
    exact fold_stay ha nm L out (fun q hq => h q (List.mem_cons_of_mem _ hq))
theorem closed_iff {α : Type} [DecidableEq α] {L : List (α × List α)} {nm : α} {out : List α} : ClosedT L nm (· ∈ out) ↔ ∀ p ∈ L, asksN nm out p = true → p.1 ∈ out :=
  ⟨fun h p hp ha => h p hp (asksN_iff.1 ha).1 (asksN_iff.1 ha).2, fun h p hp h1 h2 => h p hp (asksN_iff.2 ⟨h1, h2⟩)⟩
theorem rounds_far {α : Type} [DecidableEq α] {add : List α → α → List α} (ha : AddsA add) (L : List (α × List α)) (nm : α) : ∀ k, ClosedT L nm (· ∈ roundsN add L nm k) ∨ k ≤ (roundsN add L nm k).length
  | 0 => .inr (Nat.zero_le _)
  | k + 1 => by
    obtain ⟨h1, h2, h3⟩ := fold_grow ha nm L (roundsN add L nm k)
    rcases rounds_far ha L nm k with h | h
    · refine .inl ?_
      have e : roundsN add L nm (k + 1) = roundsN add L nm k := fold_stay ha nm L _ (closed_iff.1 h)
      rw [e]; exact h
    · by_cases he : (L.foldl (stepN add nm) (roundsN add L nm k)).length = (roundsN add L nm k).length
      · obtain ⟨e, hc⟩ := h3 he
        refine .inl ?_
        have e : roundsN add L nm (k + 1) = roundsN add L nm k := e
        rw [e]; exact closed_iff.2 hc
      · refine .inr ?_
        show k + 1 ≤ (L.foldl (stepN add nm) (roundsN add L nm k)).length
        omega
theorem fold_sound {α : Type} [DecidableEq α] {add : List α → α → List α} (ha : AddsA add) {L0 : List (α × List α)} {nm : α} : ∀ (L : List (α × List α)) (out : List α), (∀ p ∈ L, p ∈ L0) → SoundT L0 nm out → SoundT L0 nm (L.foldl (stepN add nm) out)
  | [], _, _, h => h
  | p :: L, out, hL, h => by
    rw [List.foldl_cons]
    refine fold_sound ha L _ (fun q hq => hL q (List.mem_cons_of_mem _ hq)) ?_
    unfold stepN
    by_cases hc : asksN nm out p = true
    · rw [if_pos hc]
      intro U hU x hx
      rcases (ha.mem _ _ _).1 hx with hx | rfl
      · exact h U hU x hx
      · obtain ⟨h1, n, hn, h2⟩ := asksN_iff.1 hc
        exact hU p (hL p (by simp)) h1 ⟨n, hn, h2.imp id (h U hU n)⟩
    · rw [if_neg hc]; exact h
theorem fold_in {α : Type} [DecidableEq α] {add : List α → α → List α} (ha : AddsA add) {V : List α} {nm : α} : ∀ (L : List (α × List α)) (out : List α), (∀ p ∈ L, p.1 ∈ V) → (∀ x ∈ out, x ∈ V ∧ x ≠ nm) → ∀ x ∈ L.foldl (stepN add nm) out, x ∈ V ∧ x ≠ nm
  | [], _, _, h => h
  | p :: L, out, hL, h => by
    rw [List.foldl_cons]
    refine fold_in ha L _ (fun q hq => hL q (List.mem_cons_of_mem _ hq)) ?_
    unfold stepN
    by_cases hc : asksN nm out p = true
    · rw [if_pos hc]
      intro x hx
      rcases (ha.mem _ _ _).1 hx with hx | rfl
      · exact h x hx
      · exact ⟨hL p (by simp), (asksN_iff.1 hc).1⟩
    · rw [if_neg hc]; exact h
theorem rounds_facts {α : Type} [DecidableEq α] {add : List α → α → List α} (ha : AddsA add) (L : List (α × List α)) (nm : α) : ∀ k, SoundT L nm (roundsN add L nm k) ∧ ∀ x ∈ roundsN add L nm k, x ∈ L.map Prod.fst ∧ x ≠ nm
  | 0 => ⟨fun _ _ _ hx => (by cases hx), fun _ hx => (by cases hx)⟩
  | k + 1 => by
    obtain ⟨h1, h2⟩ := rounds_facts ha L nm k
    exact ⟨fold_sound ha L _ (fun _ h => h) h1, fold_in ha L _ (fun p hp => List.mem_map.2 ⟨p, hp, rfl⟩) h2⟩
theorem rounds_closed {α : Type} [DecidableEq α] {add : List α → α → List α} (ha : AddsA add) (L : List (α × List α)) (nm : α) (hn : ∀ k, (roundsN add L nm k).Nodup) : ClosedT L nm (· ∈ roundsN add L nm L.length) := by
  rcases rounds_far ha L nm L.length with h | h
  · exact h
  · intro p hp hne hx
    obtain ⟨_, h2⟩ := rounds_facts ha L nm L.length
    by_cases hm : p.1 ∈ roundsN add L nm L.length
    · exact hm
    · have := nodup_len (p.1 :: roundsN add L nm L.length) (L.map Prod.fst) (List.nodup_cons.2 ⟨hm, hn _⟩) (fun z hz => by
        rcases List.mem_cons.1 hz with rfl | hz
        · exact List.mem_map.2 ⟨p, hp, rfl⟩
        · exact (h2 z hz).1)
      rw [List.length_cons, List.length_map] at this
      omega
end Go.Proofs.YtoihhlkidlapmaaGreat

/- Needers, as mathematics over packs: what the model answers, and that whatever finds them all, sorted, is the same. -/
namespace Go.Proofs.YtoihhlkidlapmaaGreat
open Go.RowKit Go.Shelf Go.Maps Go.ChangeShapes

def edgesP (ps : List packC.D) : List (ByteArray × List ByteArray) := List.map (α := packC.D) (fun p => (PackD.name p, List.map (α := needC.D) (fun n => NeedD.name n) (needsOf p))) ps
theorem edges_len (ps : List packC.D) : (edgesP ps).length = ps.length := List.length_map _
theorem edges_at {ps : List packC.D} {i : Nat} {p : packC.D} (h : ps[i]? = some p) : (edgesP ps)[i]? = some (PackD.name p, List.map (α := needC.D) (fun n => NeedD.name n) (needsOf p)) := by
  unfold edgesP; rw [List.getElem?_map, h]; rfl
theorem mem_edges {ps : List packC.D} {c : ByteArray × List ByteArray} : c ∈ edgesP ps ↔ ∃ p ∈ ps, c = (PackD.name p, List.map (α := needC.D) (fun n => NeedD.name n) (needsOf p)) := by
  unfold edgesP
  rw [List.mem_map]
  constructor <;> rintro ⟨p, h1, h2⟩ <;> exact ⟨p, h1, h2.symm⟩
theorem edges_names (ps : List packC.D) : (edgesP ps).map Prod.fst = namesP ps := by
  unfold edgesP namesP
  rw [List.map_map]
  rfl
def ltT (a b : ByteArray) : Bool := !leB b.data.toList a.data.toList
/-- A text is put in where it belongs. -/
def insT (s : ByteArray) : List ByteArray → List ByteArray
  | [] => [s]
  | y :: ys => if ltT y s then y :: insT s ys else s :: y :: ys
def addT (out : List ByteArray) (s : ByteArray) : List ByteArray := if memB s out = true then out else insT s out
theorem mem_ins {s z : ByteArray} : ∀ {out : List ByteArray}, z ∈ insT s out ↔ z ∈ out ∨ z = s
  | [] => by simp [insT]
  | y :: ys => by
    rw [insT]
    split
    · rw [List.mem_cons, mem_ins, List.mem_cons, or_assoc]
    · rw [List.mem_cons, or_comm]
theorem ins_len {s : ByteArray} : ∀ {out : List ByteArray}, (insT s out).length = out.length + 1
  | [] => rfl
  | y :: ys => by
    rw [insT]
    split
    · rw [List.length_cons, ins_len, List.length_cons]
    · rfl
theorem addsT : AddsA addT where
  mem := fun out s z => by
    unfold addT
    split
    · rename_i h
      constructor
      · exact fun h => .inl h
      · rintro (h2 | rfl); exact h2; exact memB_iff.1 h
    · exact mem_ins
  same := fun out s h => by unfold addT; rw [if_pos (memB_yes h)]
  more := fun out s h => by unfold addT; rw [if_neg (fun e => h (memB_iff.1 e))]; exact ins_len
theorem lt_le {a b : ByteArray} (h : ltT a b = true) : leB a.data.toList b.data.toList = true := by
  have := leB_to a.data.toList b.data.toList
  unfold ltT at h
  cases h2 : leB b.data.toList a.data.toList with
  | true => rw [h2] at h; cases h
  | false => rw [h2, Bool.or_false] at this; exact this
theorem lt_ne {a b : ByteArray} (h : ltT a b = true) : a ≠ b := by
  rintro rfl
  unfold ltT at h
  have := leB_to a.data.toList a.data.toList
  rw [Bool.or_self] at this
  rw [this] at h; cases h
theorem lt_of_not {a b : ByteArray} (h : ltT a b = false) (hne : a ≠ b) : ltT b a = true := by
  unfold ltT at h ⊢
  have h1 : leB b.data.toList a.data.toList = true := by simpa using h
  cases h2 : leB a.data.toList b.data.toList with
  | false => rfl
  | true => exact absurd (bytes_eq (leB_anti h2 h1)) hne
theorem lt_trans {a b c : ByteArray} (h1 : ltT a b = true) (h2 : ltT b c = true) : ltT a c = true := by
  cases h : ltT a c with
  | true => rfl
  | false =>
    unfold ltT at h
    have h3 : leB c.data.toList a.data.toList = true := by simpa using h
    have h4 := leB_tr _ _ _ h3 (lt_le h1)
    unfold ltT at h2
    rw [h4] at h2; cases h2
/-- Ascending, none twice. -/
def AscT (xs : List ByteArray) : Prop := xs.Pairwise fun a b => ltT a b = true
theorem asc_nodup {xs : List ByteArray} (h : AscT xs) : xs.Nodup := List.Pairwise.imp (fun h => lt_ne h) h
theorem asc_ins {s : ByteArray} : ∀ {out : List ByteArray}, AscT out → s ∉ out → AscT (insT s out)
  | [], _, _ => List.pairwise_singleton _ _
  | y :: ys, h, hs => by
    have h' := List.pairwise_cons.1 h
    rw [insT]
    split
    · rename_i hlt
      refine List.pairwise_cons.2 ⟨fun z hz => ?_, asc_ins h'.2 (fun hm => hs (List.mem_cons_of_mem _ hm))⟩
      rcases mem_ins.1 hz with hz | rfl
      · exact h'.1 z hz
      · exact hlt
    · rename_i hlt
      have hsy : ltT s y = true := lt_of_not (by simpa using hlt) (fun e => hs (by rw [e]; simp))
      refine List.pairwise_cons.2 ⟨fun z hz => ?_, h⟩
      rcases List.mem_cons.1 hz with rfl | hz
      · exact hsy
      · exact lt_trans hsy (h'.1 z hz)
theorem asc_add {s : ByteArray} {out : List ByteArray} (h : AscT out) : AscT (addT out s) := by
  unfold addT
  split
  · exact h
  · rename_i hs; exact asc_ins h (fun e => hs (memB_yes e))
theorem asc_fold (nm : ByteArray) : ∀ (L : List (ByteArray × List ByteArray)) (out : List ByteArray), AscT out → AscT (L.foldl (stepN addT nm) out)
  | [], _, h => h
  | p :: L, out, h => by
    rw [List.foldl_cons]
    refine asc_fold nm L _ ?_
    unfold stepN
    split
    · exact asc_add h
    · exact h
theorem asc_rounds (L : List (ByteArray × List ByteArray)) (nm : ByteArray) : ∀ k, AscT (roundsN addT L nm k)
  | 0 => List.Pairwise.nil
  | k + 1 => asc_fold nm L _ (asc_rounds L nm k)
/-- Two ascending lists of the same are the same. -/
theorem asc_same : ∀ {a b : List ByteArray}, AscT a → AscT b → (∀ x, x ∈ a ↔ x ∈ b) → a = b
  | [], [], _, _, _ => rfl
  | [], y :: ys, _, _, h => by have := (h y).2 (by simp); simp at this
  | x :: xs, [], _, _, h => by have := (h x).1 (by simp); simp at this
  | x :: xs, y :: ys, ha, hb, h => by
    have ha' := List.pairwise_cons.1 ha
    have hb' := List.pairwise_cons.1 hb
    have e : x = y := by
      rcases List.mem_cons.1 ((h x).1 (by simp)) with e | hx
      · exact e
      · rcases List.mem_cons.1 ((h y).2 (by simp)) with e | hy
        · exact e.symm
        · exact absurd rfl (lt_ne (lt_trans (ha'.1 y hy) (hb'.1 x hx)))
    subst e
    congr 1
    refine asc_same ha'.2 hb'.2 (fun z => ⟨fun hz => ?_, fun hz => ?_⟩)
    · rcases List.mem_cons.1 ((h z).1 (List.mem_cons_of_mem _ hz)) with e | hz2
      · exact absurd e.symm (lt_ne (ha'.1 z hz))
      · exact hz2
    · rcases List.mem_cons.1 ((h z).2 (List.mem_cons_of_mem _ hz)) with e | hz2
      · exact absurd e.symm (lt_ne (hb'.1 z hz))
      · exact hz2
theorem sort_asc {xs : List ByteArray} (h : xs.Nodup) : AscT (sortT xs) := by
  have h1 := sortT_sorted xs
  have h2 : (sortT xs).Nodup := (sortT_perm xs).nodup_iff.2 h
  refine (List.pairwise_and_iff.2 ⟨h1, h2⟩).imp (fun {a b} h => ?_)
  have h3 : leB a.data.toList b.data.toList = true := h.1
  have h4 : a ≠ b := h.2
  cases hl : ltT a b with
  | true => rfl
  | false =>
    unfold ltT at hl
    have : leB b.data.toList a.data.toList = true := by simpa using hl
    exact absurd (bytes_eq (leB_anti h3 this)) h4
/-- Who needs one of a name. -/
def needersT (ps : List packC.D) (nm : ByteArray) : List ByteArray := roundsN addT (edgesP ps) nm ps.length
def needers_0 (ps : List packC.D) (nm : ByteArray) : List ByteArray := if packsCode ps = 0 then needersT ps nm else []
theorem needers_facts (ps : List packC.D) (nm : ByteArray) : AscT (needersT ps nm) ∧ SoundT (edgesP ps) nm (needersT ps nm) ∧ ClosedT (edgesP ps) nm (· ∈ needersT ps nm) ∧ ∀ x ∈ needersT ps nm, x ∈ namesP ps ∧ x ≠ nm := by
  obtain ⟨h1, h2⟩ := rounds_facts addsT (edgesP ps) nm ps.length
  have h3 := rounds_closed addsT (edgesP ps) nm (fun k => asc_nodup (asc_rounds _ _ k))
  rw [edges_len] at h3
  rw [edges_names] at h2
  exact ⟨asc_rounds _ _ _, h1, h3, h2⟩
theorem needers_sorted {ps : List packC.D} {nm : ByteArray} {rest : List ByteArray} (hn : rest.Nodup) (hs : SoundT (edgesP ps) nm rest) (hc : ClosedT (edgesP ps) nm (· ∈ rest)) : sortT rest = needersT ps nm := by
  obtain ⟨h1, h2, h3, -⟩ := needers_facts ps nm
  exact asc_same (sort_asc hn) h1 (fun x => ((sortT_perm rest).mem_iff).trans (same_set hc hs h3 h2 x))
/-- Those that were found so far, and where. -/
structure FoundS (ps : List packC.D) (nm : ByteArray) (rest : List ByteArray) (fnd : Nat → Bool) : Prop where
  nodup : rest.Nodup
  in_ : ∀ x ∈ rest, x ∈ namesP ps ∧ x ≠ nm
  sound : SoundT (edgesP ps) nm rest
  at_ : ∀ (i : Nat) (p : packC.D), ps[i]? = some p → (fnd i = true ↔ PackD.name p ∈ rest)
theorem found_none (ps : List packC.D) (nm : ByteArray) : FoundS ps nm [] (fun _ => false) := ⟨List.nodup_nil, fun x hx => (by cases hx), fun _ _ x hx => (by cases hx), fun i p _ => (by simp)⟩
theorem found_len {ps : List packC.D} {nm : ByteArray} {rest : List ByteArray} {fnd : Nat → Bool} (h : FoundS ps nm rest fnd) : rest.length ≤ ps.length := by
  have := nodup_len rest (namesP ps) h.nodup (fun x hx => (h.in_ x hx).1)
  rwa [namesP_len] at this
/-- All who need the first ones are found. -/
def DoneS (ps : List packC.D) (nm : ByteArray) (ys rest : List ByteArray) : Prop := ∀ y ∈ ys, ∀ (i : Nat) (p : packC.D), (y, i) ∈ prs 0 ps → ps[i]? = some p → PackD.name p ≠ nm → PackD.name p ∈ rest
theorem done_more {ps : List packC.D} {nm : ByteArray} {ys rest : List ByteArray} (h : DoneS ps nm ys rest) (x : ByteArray) : DoneS ps nm ys (rest ++ [x]) := fun y hy i p h1 h2 h3 => List.mem_append_left _ (h y hy i p h1 h2 h3)
theorem found_add {ps : List packC.D} {nm y : ByteArray} {rest : List ByteArray} {fnd : Nat → Bool} (hnd : (namesP ps).Nodup) (h : FoundS ps nm rest fnd) {i : Nat} {p : packC.D} (hp : ps[i]? = some p) (hf : fnd i = false) (hne : PackD.name p ≠ nm) (hy : y = nm ∨ y ∈ rest) (hi : (y, i) ∈ prs 0 ps) : FoundS ps nm (rest ++ [PackD.name p]) (fun j => if j = i then true else fnd j) := by
  have hnot : PackD.name p ∉ rest := fun hm => by rw [(h.at_ i p hp).2 hm] at hf; cases hf
  refine ⟨List.nodup_append.2 ⟨h.nodup, by simp, fun a ha b hb e => ?_⟩, fun x hx => ?_, fun U hU x hx => ?_, fun j q hq => ?_⟩
  · rw [List.mem_singleton.1 hb] at e; exact hnot (e ▸ ha)
  · rcases List.mem_append.1 hx with hx | hx
    · exact h.in_ x hx
    · rw [List.mem_singleton.1 hx]; exact ⟨List.mem_of_getElem? (namesP_get hp), hne⟩
  · rcases List.mem_append.1 hx with hx | hx
    · exact h.sound U hU x hx
    · rw [List.mem_singleton.1 hx]
      obtain ⟨k, q, h1, h2, n, h3, h4⟩ := mem_prs.1 hi
      rw [Nat.zero_add] at h2
      subst h2
      rw [hp] at h1
      cases h1
      refine hU (PackD.name p, List.map (α := needC.D) (fun n => NeedD.name n) (needsOf p)) (mem_edges.2 ⟨p, List.mem_of_getElem? hp, rfl⟩) hne ⟨y, List.mem_map.2 ⟨n, h3, h4⟩, ?_⟩
      exact hy.imp id (fun hy => h.sound U hU y hy)
  · by_cases e : j = i
    · subst e
      rw [hp] at hq
      cases hq
      simp
    · rw [if_neg e, h.at_ j q hq, List.mem_append]
      constructor
      · exact .inl
      · rintro (h | h)
        · exact h
        · exact absurd (nodup_inj hnd (namesP_get hq) (by rw [List.mem_singleton.1 h]; exact namesP_get hp)) e
theorem found_end {ps : List packC.D} {nm : ByteArray} {rest : List ByteArray} {fnd : Nat → Bool} (h : FoundS ps nm rest fnd) (hd : DoneS ps nm (nm :: rest) rest) : sortT rest = needersT ps nm := by
  refine needers_sorted h.nodup h.sound (fun c hc hne hx => ?_)
  obtain ⟨p, hp, rfl⟩ := mem_edges.1 hc
  obtain ⟨y, hy, hyr⟩ := hx
  obtain ⟨n, hn, e⟩ := List.mem_map.1 hy
  obtain ⟨i, hi⟩ := List.getElem?_of_mem hp
  exact hd y (by rcases hyr with h | h; exact List.mem_cons.2 (.inl h); exact List.mem_cons_of_mem _ h) i p (mem_prs.2 ⟨i, p, hi, by omega, n, hn, e⟩) hi hne
end Go.Proofs.YtoihhlkidlapmaaGreat

/- Needers, by the program. -/
namespace Go.Proofs.YtoihhlkidlapmaaGreat
open Go.RowKit Go.Shelf Go.Maps Go.ChangeShapes Go.Sort

theorem infoBoolF : (Tryz.prog.info? 4).map (fun i => (i.zero, i.size, i.bytes)) = some (some (.bool false), 1, 1) := by kernel_rfl
theorem mkFound (W : World) (n : Nat) (hn : n ≤ 1048576) : ∃ M : Array Value, (Instr.makeSlice 95 (.int .i64 (n : Int)) (.int .i64 (n : Int))).run Tryz.prog W = .ok (.slice (some ⟨W.heap.size, 0, .none⟩) n n) (W.alloc (.cells M 4)) ∧ M.size = n ∧ ∀ j, j < n → M[j]? = some (.bool false) := by
  obtain ⟨i, hi, hz0, hz1, hz2⟩ := info_parts infoBoolF
  refine ⟨madeCells #[.bool false] (n * 1), ?_, by simp [madeCells], fun j hj => ?_⟩
  · have := run_make (P := Tryz.prog) W 95 4 i _ Tryz.underlying95 hi hz0 .i64 .i64 n n (by omega) (Int.le_refl _) (by rw [hz2]; omega) (by omega)
    simpa [hz1, Value.cells] using this
  · have h2 : j % 1 = 0 := Nat.mod_one j
    simp [madeCells, hj, h2]
/-- A row of texts in memory of the call's own, wherever in its block. -/
def OffOwn (W : World) (N : Nat) (v : Value) (xs : List ByteArray) : Prop := (xs = [] ∧ ∃ a c, v = .slice a 0 c ∧ (a = none → c = 0)) ∨
  ∃ g o cap cur, v = .slice (some ⟨g, o, none⟩) xs.length cap ∧ N ≤ g ∧ W.heap[g]? = some (.cells cur 9 (0, 0)) ∧ xs.length ≤ cap ∧ o + xs.length ≤ cur.size ∧ ∀ (i : Nat) x, xs[i]? = some x → cur[o + i]? = some (.string x)
theorem OffOwn.at {W : World} {N : Nat} {v : Value} {xs : List ByteArray} (h : OffOwn W N v xs) : rowAt txtC W v xs := by
  rcases h with ⟨rfl, a, c, rfl, h⟩ | ⟨g, o, cap, cur, rfl, -, hh, h1, -, h2⟩
  · exact rowAt_of_txts (xs := []) (.inl rfl) h (Nat.zero_le _)
  · exact rowAt_of_txts (.inr ⟨g, o, rfl, (Array.getElem?_eq_some_iff.1 hh).1, fun i x hi => cell_arrS hh _ _ (h2 i x hi)⟩) (fun e => by cases e) h1
theorem sort_off (xs : List ByteArray) (g off cap : Nat) (cur : Array Value) (W : World) (hn : xs.length ≤ 4294967296) (hh : W.heap[g]? = some (.cells cur 9 (0, 0))) (hsz : off + xs.length ≤ cur.size) (hcell : ∀ (i : Nat) x, xs[i]? = some x → cur[off + i]? = some (.string x)) :
    Calls Tryz.prog 68 #[.slice (some ⟨g, off, none⟩) xs.length cap] W fun x w' => x = .returned (.tuple #[]) ∧ (∃ cur' : Array Value, w'.heap[g]? = some (.cells cur' 9 (0, 0)) ∧ cur'.size = cur.size ∧ ∀ (i : Nat) x, (sortT xs)[i]? = some x → cur'[off + i]? = some (.string x)) ∧ W.grownBy w' (some g) := by
  have hl : (xs.map fun x => x.data.toList).length = xs.length := List.length_map _
  have hH : Holds encStr W g off (xs.map fun x => x.data.toList).toArray := by
    intro j hj
    have hj' : j < xs.length := by simpa using hj
    have h1 := hcell j xs[j] (List.getElem?_eq_getElem hj')
    refine ⟨?_, by simp [World.frozen?, hh]⟩
    rw [cell_arrS hh _ _ h1]
    simp [hj', encStr]
  have := sh_slices_Sort_string g off cap (xs.map fun x => x.data.toList) W hH (Array.getElem?_eq_some_iff.1 hh).1 (by rw [hl]; omega)
  rw [hl] at this
  refine this.mono fun x w' ⟨h1, n, os, h2⟩ => ⟨h1, ⟨putCells encStr off ((xs.map fun x => x.data.toList).mergeSort fun x y => decide (x ≤ y)).toArray cur, ?_, by simp [putCells], fun i x hi => ?_⟩, ?_⟩
  · rw [h2, heap_grow_old _ _ (by simpa using (Array.getElem?_eq_some_iff.1 hh).1)]
    simp [putRow, mapBlock, Sort.ahead, Array.getElem?_modify, hh, onCells]
  · have hil : i < xs.length := by have := (List.getElem?_eq_some_iff.1 hi).1; rwa [sortT_len] at this
    unfold sortT at hi
    rw [List.getElem?_map] at hi
    have hm : i < ((xs.map fun x => x.data.toList).mergeSort leB).length := by rw [List.length_mergeSort, hl]; exact hil
    rw [List.getElem?_eq_getElem hm] at hi
    injection hi with hi
    subst hi
    have e : (fun x y : List UInt8 => decide (x ≤ y)) = leB := by funext x y; rfl
    rw [e]
    have hm2 : i < ((xs.map fun x => x.data.toList).mergeSort leB).toArray.size := by simpa using hm
    have hlt : off + i < cur.size := by omega
    simp [putCells, hlt, hil, encStr]
  · rw [h2]
    refine ⟨rfl, rfl, rfl, by simp, fun k hk hne => ?_⟩
    rw [heap_grow_old _ _ (by simpa using hk)]
    have : g ≠ k := fun e => hne (by rw [e])
    simp [putRow, mapBlock, Sort.ahead, Array.getElem?_modify, this]
theorem wp_nameL {ops : Array Oper} {rest : List Oper} {o : Oper} {a : Act} {w : World} {Q : Exit → Act → World → Prop} (hgd : o.guard = none) (s y : Operand) (ho : o.op = .call { callee := .builtin .append, args := #[s, y], argTypes := #[24, 24] })
    (base : Nat) (v : Value) (xs : List ByteArray) (x : ByteArray) (g : Nat) (hs : a.eval s = v) (hx : a.eval y = .slice (some ⟨g, 0, none⟩) 1 1) (hown : w.ownsRow base 9 1 v xs.length (xs.map Value.string)) (h : w.cell? ⟨g, 0, none⟩ = some (.string x)) (hn : xs.length ≤ 4294967296) (hb : base ≤ w.heap.size)
    (hk : ∀ v' w', w'.ownsRow base 9 1 v' (xs ++ [x]).length ((xs ++ [x]).map Value.string) → w.grownBy w' v.ownBlock → (v'.ownBlock = v.ownBlock ∨ v'.ownBlock = some w.heap.size) → wpList Tryz.prog ops Q rest (a.put o.dst v') w') : wpList Tryz.prog ops Q (o :: rest) a w := by
  refine wpList_plain hgd fun K hK => ?_
  obtain ⟨v', w', hr, h2, h3, h4⟩ := app_nameL w base o.type v xs x g hown h hn hb
  unfold Oper.wp execOp
  simp only [ho, resolve, invoke, builtin, Sem.run_bind, Sem.run_pure, Result.andThen_ok, List.map_toArray, List.map_cons, List.map_nil, hs, hx, hr]
  exact hK _ _ (hk v' w' h2 h3 h4)
theorem ints_cells {W : World} {base : Nat} {v : Value} {zs : List Int} (h : W.ownsInts base 3 .i64 v zs) : ∃ a c, v = .slice a zs.length c ∧ (zs = [] ∨ ∃ g, a = some ⟨g, 0, none⟩ ∧ v.ownBlock = some g ∧ g < W.heap.size ∧ ∀ (i : Nat) z, zs[i]? = some z → W.cell? ⟨g, i, none⟩ = some (.int .i64 z)) := by
  rcases h.1.2 with ⟨rfl, h0⟩ | ⟨g, cap, cur, rfl, hg, hh, hc, hm, hsz, hcur⟩
  · have : zs = [] := List.length_eq_zero_iff.1 h0
    subst this
    exact ⟨none, 0, rfl, .inl rfl⟩
  · refine ⟨_, cap, rfl, .inr ⟨g, rfl, rfl, (Array.getElem?_eq_some_iff.1 hh).1, fun i z hi => ?_⟩⟩
    have hl : i < zs.length := (List.getElem?_eq_some_iff.1 hi).1
    refine cell_arrS hh _ _ ?_
    rw [← Array.getElem?_toList, ← List.getElem?_take_of_lt (l := cur.toList) (i := i) (j := zs.length * 1) (by omega), hcur, List.getElem?_map, hi]; rfl
/-- What lies in memory while they are looked for. -/
structure NS (W1 : World) (fb : Nat) (nm : ByteArray) (ps : List packC.D) (rest : List ByteArray) (fnd : Nat → Bool) (nv : Value) (wr : World) : Prop where
  below : Below W1.heap.size W1 wr
  found : ∃ F : Array Value, wr.heap[fb]? = some (.cells F 4 (0, 0)) ∧ F.size = ps.length ∧ ∀ i, i < ps.length → F[i]? = some (.bool (fnd i))
  own : wr.ownsRow (fb + 1) 9 1 nv (nm :: rest).length ((nm :: rest).map Value.string)
  ge : W1.heap.size ≤ fb
  state : FoundS ps nm rest fnd
theorem NS.keep {W1 wr w' : World} {fb : Nat} {nm : ByteArray} {ps : List packC.D} {rest : List ByteArray} {fnd : Nat → Bool} {nv : Value} (h : NS W1 fb nm ps rest fnd nv wr) (hb : Below wr.heap.size wr w') : NS W1 fb nm ps rest fnd nv w' := by
  obtain ⟨F, h1, h2, h3⟩ := h.found
  exact ⟨h.below.trans (hb.mono h.below.size), ⟨F, (hb.block _ (Array.getElem?_eq_some_iff.1 h1).1).trans h1, h2, h3⟩, ownsRow_belowS h.own hb, h.ge, h.state⟩
end Go.Proofs.YtoihhlkidlapmaaGreat
