/- Texts of this proof, one behind the other; each says at its head what it shows. -/
import Derived.Test.YtlnpjiabdebmgaaGreatJoin11
import Derived.Test.YtlnpjiabdebmgaaGreatJoin12
import Derived.Test.YtlnpjiabdebmgaaGreatJoin7
import Derived.Test.YtlnpjiabdebmgaaGreatJoin8
/- Packs without one of a name, by the model: the row is new, its items are those that were there. -/
namespace Go.Proofs.YtlnpjiabdebmgaaGreat
open Go.RowKit Go.Shelf

def withoutP (q : ByteArray) (ps : List packC.D) : List packC.D := List.filter (α := packC.D) (fun p => !decide (PackD.name p = q)) ps
def withoutI (q : ByteArray) (L : List (It packC)) : List (It packC) := L.filter (fun t => !decide (PackD.name t.2.1 = q))
theorem withoutI_D (q : ByteArray) (L : List (It packC)) : itD (withoutI q L) = withoutP q (itD L) := by
  unfold itD withoutI withoutP
  rw [List.filter_map]
  rfl
theorem withoutI_sub (q : ByteArray) (L : List (It packC)) : (withoutI q L).Sublist L := List.filter_sublist
/-- The cells of an item of a row, one by one. -/
theorem item_cells {w W : World} {N : Nat} {v : Value} {L : List (It packC)} {k : Nat} {t : It packC} (h : NRow packC 31 w N v L) (ht : L[k]? = some t) (hb : Below w.heap.size w W) : ∃ (g cap : Nat) (na : Option Addr) (nc : Nat) (ta : Option Addr) (tc : Nat), v = .slice (some ⟨g, 0, none⟩) L.length cap ∧ g < w.heap.size ∧
    t.1 = [.string (PackD.name t.2.1), .string (PackD.version t.2.1), .slice na (PackD.needs t.2.1).length nc, .slice ta (PackD.tree t.2.1).length tc] ∧
    W.cell? ⟨g, k * 4, none⟩ = some (.string (PackD.name t.2.1)) ∧ W.cell? ⟨g, k * 4 + 1, none⟩ = some (.string (PackD.version t.2.1)) ∧ W.cell? ⟨g, k * 4 + 2, none⟩ = some (.slice na (PackD.needs t.2.1).length nc) ∧ W.cell? ⟨g, k * 4 + 3, none⟩ = some (.slice ta (PackD.tree t.2.1).length tc) := by
  have hkl := (List.getElem?_eq_some_iff.1 ht).1
  rcases h.row.2 with ⟨_, h0⟩ | ⟨g, cap, cur, hv, hN, hg, hc, _, hsz, hcells⟩
  · omega
  · have hown := h.items.each t (List.mem_of_getElem? ht)
    have hgl := (Array.getElem?_eq_some_iff.1 hg).1
    obtain ⟨v2, v3, F2, F3, e, _, h2, h3, _⟩ := packC_own hown
    obtain ⟨na, nc, rfl⟩ := rowOwn.slice h2
    obtain ⟨ta, tc, rfl⟩ := rowOwn.slice h3
    have key : ∀ j u, t.1[j]? = some u → W.cell? ⟨g, k * 4 + j, none⟩ = some u := fun j u hj => by
      have hj4 : j < packC.n := by rw [← packC.len hown]; exact (List.getElem?_eq_some_iff.1 hj).1
      have h1 := itCells_get (fun t ht => packC.len (h.items.each t ht)) k t ht j hj4
      have en : packC.n = 4 := rfl
      rw [en] at h1 hj4 hcells
      rw [hj, ← hcells, List.getElem?_take_of_lt (by omega), Array.getElem?_toList] at h1
      exact (hb.cell (p := ⟨g, k * 4 + j, none⟩) hgl).trans (cell_arrS hg _ _ h1)
    rw [e] at key
    exact ⟨g, cap, na, nc, ta, tc, hv, hgl, e, key 0 _ rfl, key 1 _ rfl, key 2 _ rfl, key 3 _ rfl⟩

set_option maxRecDepth 100000 in
set_option maxHeartbeats 4000000 in
theorem l9Without_any (L : List (It packC)) (v : Value) (q : ByteArray) (w : World) (N : Nat) (hN : N ≤ w.heap.size) (hs : L.length ≤ 1048576) (h : NRow packC 31 w N v L) :
    Calls Tryz.prog 134 #[v, .string q] w fun x w' => ∃ u, x = .returned u ∧ NRow packC 31 w' N u (withoutI q L) ∧ (∀ k, u.ownBlock = some k → w.heap.size ≤ k) ∧ Below w.heap.size w w' := by
  obtain ⟨a, cap, rfl⟩ := nrow_slice h
  have H := hid h
  clear h
  have HE0 := hid (NRow.empty (K := packC) (e := 31) w N hN)
  have HB0 := hid ((Below.refl w.heap.size w).alloc (Nat.le_refl _) (.cells #[] 31))
  go_enter Tryz.func134, Tryz.ntmps134
  go_wp2_with fail
  go_loopw [5, 6] (fun s i wr => ∃ (k : Nat) (ga : Option Addr) (n c : Nat), k ≤ L.length ∧ i = .int .i64 (k : Int) ∧ s = .slice ga n c ∧ Hid ((withoutI q (L.take k)).length = n ∧ n ≤ k) ∧ Hid (NRow packC 31 wr N (.slice ga n c) (withoutI q (L.take k))) ∧ Hid (∀ k, (Value.slice ga n c).ownBlock = some k → w.heap.size ≤ k) ∧ Hid (Below w.heap.size w wr)) (fun _ i _ => L.length - (intOf i).toNat)
  case atStart => exact ⟨0, _, 0, 0, Nat.zero_le _, rfl, rfl, hid ⟨by simp [withoutI], Nat.le_refl _⟩, hid (by simpa [withoutI] using unhid HE0), hid (fun k hk => by simp [Value.ownBlock] at hk; omega), HB0⟩
  case round =>
    clear HE0 HB0
    obtain ⟨k, ga, n, c, hk, rfl, rfl, HK, HR, HW, HB⟩ := hrel
    by_cases hlt : k < L.length
    · obtain ⟨t, ht⟩ : ∃ t, L[k]? = some t := ⟨L[k], List.getElem?_eq_getElem hlt⟩
      obtain ⟨g, cap', na, nc, ta, tc, hv, hgl, hcs, c0, c1, c2, c3⟩ := item_cells (unhid H) ht (unhid HB)
      obtain ⟨rfl, rfl⟩ : a = some ⟨g, 0, none⟩ ∧ cap = cap' := by injection hv with e1 _ e2; exact ⟨e1, e2⟩
      obtain ⟨cs, d, F⟩ := t
      dsimp only at hcs c0 c1 c2 c3
      subst hcs
      have hsn : withoutI q (L.take (k + 1)) = withoutI q (L.take k) ++ withoutI q [(([.string (PackD.name d), .string (PackD.version d), .slice na (PackD.needs d).length nc, .slice ta (PackD.tree d).length tc], d, F) : It packC)] := by rw [List.take_add_one, ht]; exact List.filter_append _ _
      have HE := hid hsn
      have HT := hid ht
      have hq := txt_iff (PackD.name d) q
      clear hv hgl hsn ht
      by_cases hxy : PackD.name d = q
      · rw [decide_eq_true hxy] at hq
        have HXY := hid hxy
        clear hxy
        go_wp2_with fail
        go_roundw
        case rel =>
          have e1 : withoutI q (L.take (k + 1)) = withoutI q (L.take k) := by rw [unhid HE, show withoutI q [(([.string (PackD.name d), .string (PackD.version d), .slice na (PackD.needs d).length nc, .slice ta (PackD.tree d).length tc], d, F) : It packC)] = [] by simp [withoutI, unhid HXY], List.append_nil]
          exact ⟨k + 1, ga, n, c, by omega, by go_num, rfl, hid ⟨by rw [e1]; exact (unhid HK).1, by have := (unhid HK).2; omega⟩, hid (by rw [e1]; exact unhid HR), HW, HB⟩
        case measure => simp [intOf]; omega
      · rw [decide_eq_false hxy] at hq
        have HXY := hid hxy
        clear hxy
        have e1 : withoutI q (L.take (k + 1)) = withoutI q (L.take k) ++ [(([.string (PackD.name d), .string (PackD.version d), .slice na (PackD.needs d).length nc, .slice ta (PackD.tree d).length tc], d, F) : It packC)] := by rw [unhid HE, show withoutI q [(([.string (PackD.name d), .string (PackD.version d), .slice na (PackD.needs d).length nc, .slice ta (PackD.tree d).length tc], d, F) : It packC)] = [(([.string (PackD.name d), .string (PackD.version d), .slice na (PackD.needs d).length nc, .slice ta (PackD.tree d).length tc], d, F) : It packC)] by simp [withoutI, unhid HXY]]
        have E1 := hid e1
        have hnew := World.alloc_heap_new wr (.cells #[.string (PackD.name d), .string (PackD.version d), .slice na (PackD.needs d).length nc, .slice ta (PackD.tree d).length tc] 31)
        have hba := (Below.refl wr.heap.size wr).alloc (Nat.le_refl _) (.cells #[.string (PackD.name d), .string (PackD.version d), .slice na (PackD.needs d).length nc, .slice ta (PackD.tree d).length tc] 31)
        have HC := hid (show ∀ j u, (itCells [(([.string (PackD.name d), .string (PackD.version d), .slice na (PackD.needs d).length nc, .slice ta (PackD.tree d).length tc], d, F) : It packC)])[j]? = some u → (wr.alloc (.cells #[.string (PackD.name d), .string (PackD.version d), .slice na (PackD.needs d).length nc, .slice ta (PackD.tree d).length tc] 31)).cell? ⟨wr.heap.size, 0 + j, none⟩ = some u from fun j u hj => by
          rw [Nat.zero_add]
          refine cell_arrS hnew j u ?_
          have hj' : [.string (PackD.name d), .string (PackD.version d), .slice na (PackD.needs d).length nc, .slice ta (PackD.tree d).length tc][j]? = some u := by simpa [itCells] using hj
          simpa using hj')
        have HRa := hid ((unhid HR).frame (W' := wr.alloc (.cells #[.string (PackD.name d), .string (PackD.version d), .slice na (PackD.needs d).length nc, .slice ta (PackD.tree d).length tc] 31)) (fun k' hk' => hba.block k' ((unhid HR).base k' hk').2))
        have HBa := hid ((unhid HB).alloc (unhid HB).size (.cells #[.string (PackD.name d), .string (PackD.version d), .slice na (PackD.needs d).length nc, .slice ta (PackD.tree d).length tc] 31))
        have hsub : (withoutI q (L.take (k + 1))).Sublist L := (withoutI_sub q _).trans (List.take_sublist _ _)
        have HM := hid (show Items packC (wr.alloc (.cells #[.string (PackD.name d), .string (PackD.version d), .slice na (PackD.needs d).length nc, .slice ta (PackD.tree d).length tc] 31)) N (withoutI q (L.take k) ++ [(([.string (PackD.name d), .string (PackD.version d), .slice na (PackD.needs d).length nc, .slice ta (PackD.tree d).length tc], d, F) : It packC)]) from by
          rw [← e1]
          exact ((unhid H).items.sub hsub).frame (fun k' hk' => (unhid HBa).block k' ((unhid H).items.lt k' ((itF_sub hsub).subset hk'))))
        have HA := hid (show ∀ g', (Value.slice ga n c).ownBlock = some g' → g' ∉ itF [(([.string (PackD.name d), .string (PackD.version d), .slice na (PackD.needs d).length nc, .slice ta (PackD.tree d).length tc], d, F) : It packC)] from fun g' hg' hm => by
          have h1 := unhid HW g' hg'
          have h2 := (unhid H).items.lt g' (mem_itF (List.mem_of_getElem? (unhid HT)) (by simpa [itF] using hm))
          omega)
        have HNS := hid (show N ≤ (wr.alloc (.cells #[.string (PackD.name d), .string (PackD.version d), .slice na (PackD.needs d).length nc, .slice ta (PackD.tree d).length tc] 31)).heap.size from Nat.le_trans hN (unhid HBa).size)
        clear hnew hba hsub e1
        go_wp2_with (at_builtin; refine wp_items etPack onePack _ rfl _ _ rfl N _ (withoutI q (L.take k)) [(([.string (PackD.name d), .string (PackD.version d), .slice na (PackD.needs d).length nc, .slice ta (PackD.tree d).length tc], d, F) : It packC)] wr.heap.size 0 1 (unhid HRa) (unhid HM) (unhid HA) (unhid HC) ?d1 (unhid HNS) rfl rfl ?_)
        case d1 => rw [(unhid HK).1]; simp only [List.length_singleton]; have := (unhid HK).2; omega
        intro v' w3 hg
        obtain ⟨ga', c', hv'⟩ := grew_slice hg
        have hl2 : (withoutI q (L.take k) ++ [(([.string (PackD.name d), .string (PackD.version d), .slice na (PackD.needs d).length nc, .slice ta (PackD.tree d).length tc], d, F) : It packC)]).length = n + 1 := by rw [List.length_append, (unhid HK).1]; rfl
        rw [hl2] at hv'
        subst hv'
        have HN := hid (show NRow packC 31 w3 N (.slice ga' (n + 1) c') (withoutI q (L.take (k + 1))) from by rw [unhid E1]; exact hg.row)
        have HW2 := hid (show ∀ k', (Value.slice ga' (n + 1) c').ownBlock = some k' → w.heap.size ≤ k' from fun k' hk' => by
          rcases hg.block with e | e
          · exact unhid HW k' (by rw [← e]; exact hk')
          · rw [e] at hk'
            have h1 := (unhid HBa).size
            simp only [Option.some.injEq] at hk'
            omega)
        have HB3 := hid ((unhid HBa).grown hg.by_ (unhid HBa).size (fun k hk => unhid HW k hk))
        have HK2 := hid (show (withoutI q (L.take (k + 1))).length = n + 1 ∧ n + 1 ≤ k + 1 from ⟨by rw [unhid E1]; exact hl2, by have := (unhid HK).2; omega⟩)
        clear hg HC HRa HBa HM hl2 HA HNS
        go_wp2_with fail
        go_roundw
        case rel => exact ⟨k + 1, ga', n + 1, c', by omega, by go_num, rfl, HK2, HN, HW2, HB3⟩
        case measure => simp [intOf]; omega
    · have e : k = L.length := by omega
      subst e
      go_wp2_with fail
      go_ret
      exact ⟨_, rfl, by have := unhid HR; rwa [List.take_length] at this, unhid HW, unhid HB⟩
end Go.Proofs.YtlnpjiabdebmgaaGreat

/- Packs copied, by the model. -/
namespace Go.Proofs.YtlnpjiabdebmgaaGreat
open Go.RowKit Go.Shelf

/-- Items appended, in a region that draws its order. -/
theorem op_items {K : CK} {t e : Nat} (hET : ET K t e) (h1 : OneC K) {ops : Array Oper} {o : Oper} {a : Act} (w : World) {Q : Exit → Act → World → Prop} {K' : Act → World → Prop} (d : Nat) (s x : Operand) (ho : o.op = .call { callee := .builtin .append, args := #[s, x], argTypes := #[t, t] }) (hw : Region.wanted o (yielded ops a.tmps) = true) (hd : o.dst = some d)
    (N : Nat) (v : Value) (L M : List (It K)) (b of c : Nat) (h : NRow K e w N v L) (hM : Items K w N (L ++ M)) (hap : ∀ g, v.ownBlock = some g → g ∉ itF M) (hcell : ∀ j u, (itCells M)[j]? = some u → w.cell? ⟨b, of + j, none⟩ = some u) (hn : L.length + M.length ≤ 4194304) (hN : N ≤ w.heap.size) (hs : a.eval s = v) (hx : a.eval x = .slice (some ⟨b, of, none⟩) M.length c)
    (hk : ∀ v' w', RowGrew K e w N v (L ++ M) v' w' → K' (a.put (some d) v') w') : if Region.wanted o (yielded ops a.tmps) = true then Oper.wp Tryz.prog o a w K' Q else K' (a.put o.dst undef) w := by
  rw [if_pos hw]
  obtain ⟨v', w', hr, h2, h3, h4, h5⟩ := app_items hET h1 w o.type N v L M b of c h hM hap hcell hn hN
  unfold Oper.wp execOp
  simp only [ho, resolve, invoke, builtin, Sem.run_bind, Sem.run_pure, Result.andThen_ok, List.map_toArray, List.map_cons, List.map_nil, hs, hx, hr]
  show K' (a.put o.dst v') w'
  rw [hd]
  refine hk v' w' ⟨h2, h3, h4, ?_⟩
  rw [h5, List.length_append]
  constructor
  · rintro ⟨rfl, h0⟩
    refine ⟨rfl, ?_⟩
    rcases h.row.2 with ⟨_, hl⟩ | ⟨g, cap, cur, hv, _⟩
    · omega
    · cases hv
  · rintro ⟨h0, h1⟩
    exact ⟨h0, by omega⟩
theorem NRow.lower {K : CK} {e : Nat} {W : World} {N M : Nat} {v : Value} {L : List (It K)} (h : NRow K e W N v L) (hM : M ≤ N) : NRow K e W M v L := by
  refine ⟨⟨h.row.1, ?_⟩, ⟨h.items.each, h.items.nodup, fun k hk => Nat.le_trans hM (h.items.base k hk)⟩, h.apart⟩
  rcases h.row.2 with h1 | ⟨g, cap, cur, hv, hN, hr⟩
  · exact .inl h1
  · exact .inr ⟨g, cap, cur, hv, by omega, hr⟩
/-- The boxes of a copy under way. -/
structure CopyW (w wr : World) (g : Nat) (v u : Value) : Prop where
  box : wr.heap[g]? = some (.cells #[v] 42 (0, 0))
  res : wr.heap[g + 1]? = some (.cells #[.slice none 0 0] 42 (0, 0))
  out : wr.heap[g + 1 + 1]? = some (.cells #[u] 42 (0, 0))
  size : g + 1 + 1 < wr.heap.size
  below : Below g w wr
theorem grown_trans {a b c : World} {r : Option Nat} (h : a.grownBy b r) (h2 : b.grownBy c r) : a.grownBy c r := ⟨h2.os.trans h.os, h2.tape.trans h.tape, h2.output.trans h.output, Nat.le_trans h.size h2.size, fun k hk hne => (h2.block k (Nat.lt_of_lt_of_le hk h.size) hne).trans (h.block k hk hne)⟩
theorem below_grown {a b : World} (r : Option Nat) (h : Below a.heap.size a b) : a.grownBy b r := ⟨h.os, h.tape, h.output, h.size, fun k hk _ => h.block k hk⟩
theorem CopyW.grown {w wr W : World} {g : Nat} {v u : Value} {r : Option Nat} (h : CopyW w wr g v u) (hg : wr.grownBy W r) (hr : ∀ k, r = some k → g + 1 + 1 < k) : CopyW w W g v u := by
  have hs := h.size
  have hb : ∀ k, k ≤ g + 1 + 1 → W.heap[k]? = wr.heap[k]? := fun k hk => hg.block k (by omega) (fun e => by have := hr k e.symm; omega)
  exact ⟨(hb _ (by omega)).trans h.box, (hb _ (by omega)).trans h.res, (hb _ (by omega)).trans h.out, Nat.lt_of_lt_of_le hs hg.size, h.below.grown hg (by omega) (fun k e => by have := hr k e; omega)⟩
theorem CopyW.store {w W : World} {g : Nat} {v u : Value} (h : CopyW w W g v u) (u' : Value) : CopyW w (W.setCell ⟨g + 1 + 1, 0, none⟩ u') g v u' :=
  ⟨(Below.heap_setCell _ _ _ _ (by dsimp only; omega)).trans h.box, (Below.heap_setCell _ _ _ _ (by dsimp only; omega)).trans h.res, heap_setCell_same W (g + 1 + 1) 0 _ _ u' h.out, by simpa using h.size, h.below.setCell (by dsimp only; omega) _⟩

set_option maxRecDepth 100000 in
set_option maxHeartbeats 8000000 in
theorem l9Copy_any (ps : List packC.D) (v : Value) (w : World) (hs : smallPs ps) (h : rowAt packC w v ps) :
    Calls Tryz.prog 75 #[.agg #[v]] w fun x w' => ∃ (u : Value) (L : List (It packC)), x = .returned (.agg #[u]) ∧ NRow packC 31 w' w.heap.size u L ∧ itD L = ps ∧ Below w.heap.size w w' := by
  obtain ⟨a, cap, rfl, -, -, h⟩ := h
  have hlen := hs.1
  have HSM := hid hs
  have H := hid h
  clear h hs
  go_enter Tryz.func75, Tryz.ntmps75
  go_wp2_with fail
  obtain ⟨hP, hR, hO, hS, hB⟩ := three_boxes w (.cells #[.slice a ps.length cap] 42) (.cells #[.slice none 0 0] 42) (.cells #[.slice none 0 0] 42)
  generalize ((w.alloc (.cells #[.slice a ps.length cap] 42)).alloc (.cells #[.slice none 0 0] 42)).alloc (.cells #[.slice none 0 0] 42) = W0 at hP hR hO hS hB ⊢
  have HC0 := hid (CopyW.mk hP hR hO hS hB)
  clear hP hR hO hS hB
  go_loopw [4] (fun i wr => ∃ (k : Nat) (L : List (It packC)) (ga : Option Addr) (c : Nat), k ≤ ps.length ∧ i = .int .i64 (k : Int) ∧ Hid (L.length = k) ∧ Hid (itD L = ps.take k) ∧ Hid (NRow packC 31 wr (w.heap.size + 1 + 1 + 1) (.slice ga k c) L) ∧ Hid (CopyW w wr w.heap.size (.slice a ps.length cap) (.slice ga k c))) (fun i _ => ps.length - (intOf i).toNat)
  case atStart => exact ⟨0, [], none, 0, Nat.zero_le _, rfl, hid rfl, hid (by simp [itD]), hid (NRow.none _ _), HC0⟩
  case round =>
    clear HC0
    obtain ⟨k, L, ga, c, hk, rfl, HK, HL, HR, HC⟩ := hrel
    have o0 := cell_arrS (unhid HC).box 0 _ rfl
    by_cases hlt : k < ps.length
    · obtain ⟨e, he⟩ : ∃ e, ps[k]? = some e := ⟨ps[k], List.getElem?_eq_getElem hlt⟩
      obtain ⟨b, o, rfl, hbl, hc⟩ := (unhid H).resolve_left (by intro e; subst e; simp at hlt)
      obtain ⟨na, nc, ta, tc, ⟨c0, c1, c2, c3⟩, hat⟩ := pack_cells (unhid HC).below hbl hc he
      have hsp := (unhid HSM).2 e (List.mem_of_getElem? he)
      have hsz : (PackD.needs e).length ≤ 4194304 ∧ (PackD.tree e).length ≤ 4194304 := ⟨by have := hsp.needs.1; omega, by have := hsp.tree.1; rw [entsD_len] at this; omega⟩
      have HE := hid he
      have hrb : ∀ k', (Value.slice ga k c).ownBlock = some k' → w.heap.size + 1 + 1 < k' := fun k' hk' => by have := ((unhid HR).base k' (.inl hk')).1; omega
      have cellx : ∀ (x : CW (fun w' => wr.grownBy w' (Value.slice ga k c).ownBlock)) (p : Addr) (u : Value), p.block ≤ w.heap.size + 1 + 1 → wr.cell? p = some u → x.w.cell? p = some u := fun x p u hp hu => x.h.cell hu (fun e => by have := hrb _ e.symm; omega)
      have gq0 : ∀ x : CW (fun w' => wr.grownBy w' (Value.slice ga k c).ownBlock), x.w.cell? ⟨w.heap.size, 0, none⟩ = some (.slice (some ⟨b, o, none⟩) ps.length cap) := fun x => cellx x _ _ (by dsimp only; omega) o0
      have gq1 : ∀ x : CW (fun w' => wr.grownBy w' (Value.slice ga k c).ownBlock), x.w.cell? ⟨w.heap.size + 1 + 1, 0, none⟩ = some (.slice ga k c) := fun x => cellx x _ _ (by dsimp only; omega) (cell_arrS (unhid HC).out 0 _ rfl)
      have gc0 : ∀ x : CW (fun w' => wr.grownBy w' (Value.slice ga k c).ownBlock), x.w.cell? ⟨b, o + k * 4, none⟩ = some (.string (PackD.name e)) := fun x => cellx x _ _ (by dsimp only; omega) c0
      have gc1 : ∀ x : CW (fun w' => wr.grownBy w' (Value.slice ga k c).ownBlock), x.w.cell? ⟨b, o + k * 4 + 1, none⟩ = some (.string (PackD.version e)) := fun x => cellx x _ _ (by dsimp only; omega) c1
      have gc2 : ∀ x : CW (fun w' => wr.grownBy w' (Value.slice ga k c).ownBlock), x.w.cell? ⟨b, o + k * 4 + 2, none⟩ = some (.slice na (PackD.needs e).length nc) := fun x => cellx x _ _ (by dsimp only; omega) c2
      have gc3 : ∀ x : CW (fun w' => wr.grownBy w' (Value.slice ga k c).ownBlock), x.w.cell? ⟨b, o + k * 4 + 3, none⟩ = some (.slice ta (PackD.tree e).length tc) := fun x => cellx x _ _ (by dsimp only; omega) c3
      have hd0 : wr.grownBy wr.drew (Value.slice ga k c).ownBlock := ⟨rfl, rfl, rfl, Nat.le_refl _, fun _ _ _ => rfl⟩
      have HD0 := hid hd0
      have hbd : Below wr.heap.size wr wr.drew := ⟨rfl, rfl, rfl, Nat.le_refl _, fun _ _ => rfl⟩
      have JN := hid (l9Pack_any e _ wr.drew hsz (packC.below hat hbd))
      have HBD := hid hbd
      clear hat hc he hbl hsp hsz hrb cellx c0 c1 c2 c3 hbd
      go_wp2_with fail
      clear o0
      have hba : ∀ {q : Prop}, (CW (fun w' => wr.grownBy w' (Value.slice ga k c).ownBlock) → q) ↔ q := CW.all hd0
      refine heldE_begin 11 (fun w' => wr.grownBy w' (Value.slice ga k c).ownBlock) (by kernel_rfl) ?_
      refine heldE_here [true, true, true, true, true, true, true] (by kernel_rfl) (by kernel_rfl) (fun _ _ _ _ _ h => h) hd0 ?_
      dsimp only [pick]
      repeat (go_big_quiet_step (fail))
      refine wpQuiet_nil ?_
      clear hba hd0 gq0 gq1 gc0 gc1 gc2 gc3
      refine heldE_op 7 (by kernel_rfl) (by kernel_rfl) rfl (fun K hK => ?_)
      refine call_op 127 20 (enters_of Tryz.func127 (by kernel_rfl) rfl) #[.agg #[.string (PackD.name e), .string (PackD.version e), .slice na (PackD.needs e).length nc, .slice ta (PackD.tree e).length tc]] rfl rfl rfl rfl ?_
      refine (unhid JN).mono ?_
      rintro x w2 ⟨cs, F, rfl, hown, hF, hb⟩
      obtain ⟨v2, v3, F2, F3, rfl, -, -, -, -⟩ := packC_own hown
      have hbb : Below wr.heap.size wr w2 := (unhid HBD).trans hb
      have hg2 := below_grown (Value.slice ga k c).ownBlock hbb
      have HX := hid (And.intro hbb (And.intro hown hF))
      refine ⟨_, rfl, hK.out _ _ hg2 ?_⟩
      clear hK K hown hF hb hbb JN HBD HD0
      simp only [Act.put, List.setIfInBounds_toArray, List.set_cons_zero, List.set_cons_succ]
      refine heldE_op 8 (by kernel_rfl) (by kernel_rfl) rfl (fun K hK => ?_)
      go_simp
      obtain ⟨hbb, hown, hF⟩ := unhid HX
      have hnew := World.alloc_heap_new w2 (.cells #[.string (PackD.name e), .string (PackD.version e), v2, v3] 31)
      have hb2 := (Below.refl w2.heap.size w2).alloc (Nat.le_refl _) (.cells #[.string (PackD.name e), .string (PackD.version e), v2, v3] 31)
      have hNs : w.heap.size + 1 + 1 + 1 ≤ wr.heap.size := (unhid HC).size
      obtain ⟨q1, q2, q3⟩ := items_new (unhid HR) hNs hbb hown (fun k hk => (hF k hk).1) hb2
      have hb3 := hbb.trans (hb2.mono hbb.size)
      have hg3 := below_grown (Value.slice ga k c).ownBlock hb3
      have hcl : ∀ j u, (itCells [(([.string (PackD.name e), .string (PackD.version e), v2, v3], e, F) : It packC)])[j]? = some u → (w2.alloc (.cells #[.string (PackD.name e), .string (PackD.version e), v2, v3] 31)).cell? ⟨w2.heap.size, 0 + j, none⟩ = some u := fun j u hj => by
        rw [Nat.zero_add]
        refine cell_arrS hnew j u ?_
        have hj' : [.string (PackD.name e), .string (PackD.version e), v2, v3][j]? = some u := by simpa [itCells] using hj
        simpa using hj'
      have hNs3 : w.heap.size + 1 + 1 + 1 ≤ (w2.alloc (.cells #[.string (PackD.name e), .string (PackD.version e), v2, v3] 31)).heap.size := Nat.le_trans hNs hb3.size
      refine hK.out _ _ hg3 ?_
      clear hK K hg2 hbb hown hF HX hnew hb2 hb3
      generalize w2.alloc (.cells #[.string (PackD.name e), .string (PackD.version e), v2, v3] 31) = w3 at *
      generalize w2.heap.size = gs at *
      refine heldE_op 9 (by kernel_rfl) (by kernel_rfl) rfl (fun K hK => ?_)
      refine op_items etPack onePack w3 22 _ _ rfl rfl rfl (w.heap.size + 1 + 1 + 1) (.slice ga k c) L [(([.string (PackD.name e), .string (PackD.version e), v2, v3], e, F) : It packC)] gs 0 1 q1 q2 q3 hcl (by rw [unhid HK]; simp only [List.length_singleton]; omega) hNs3 rfl rfl ?_
      intro v' w4 hg
      obtain ⟨ga', c', hv'⟩ := grew_slice hg
      have hl2 : (L ++ [(([.string (PackD.name e), .string (PackD.version e), v2, v3], e, F) : It packC)]).length = k + 1 := by rw [List.length_append, unhid HK]; rfl
      rw [hl2] at hv'
      subst hv'
      have hg4 := grown_trans hg3 hg.by_
      have HC4 := hid ((unhid HC).grown hg4 (fun k' hk' => by have := ((unhid HR).base k' (.inl hk')).1; omega))
      have HN := hid hg.row
      have HL2 := hid (show itD (L ++ [(([.string (PackD.name e), .string (PackD.version e), v2, v3], e, F) : It packC)]) = ps.take (k + 1) by
        rw [itD_app, unhid HL, List.take_add_one, unhid HE]; rfl)
      have HK2 := hid hl2
      generalize L ++ [(([.string (PackD.name e), .string (PackD.version e), v2, v3], e, F) : It packC)] = L2 at *
      refine hK.out _ _ hg4 ?_
      clear hK K hg hg3 hl2 q1 q2 q3 hcl hNs3
      simp only [Act.put, List.setIfInBounds_toArray, List.set_cons_zero, List.set_cons_succ]
      have hba : ∀ {q : Prop}, (CW (fun w' => wr.grownBy w' (Value.slice ga k c).ownBlock) → q) ↔ q := CW.all hg4
      refine heldE_here [false, false, false, false, false, false, false, false, false, false, true] (by kernel_rfl) (by kernel_rfl) (fun _ _ _ _ _ h => h) hg4 ?_
      dsimp only [pick]
      repeat (go_big_quiet_step (fail))
      refine wpQuiet_nil ?_
      clear hba hg4
      obtain ⟨o2, p2⟩ := cell_fz (unhid HC4).out 0 _ rfl
      refine heldE_last (by kernel_rfl) (by kernel_rfl) rfl (fun K hK => ?_)
      go_simp
      refine hK.out _ _ ?_
      clear hK K o2 p2
      refine heldE_done (by kernel_rfl) ?_
      have HC5 := hid ((unhid HC4).store (.slice ga' ((k + 1 : Nat)) c'))
      have HN5 := hid ((unhid HN).frame (W' := w4.setCell ⟨w.heap.size + 1 + 1, 0, none⟩ (.slice ga' ((k + 1 : Nat)) c')) (fun k' hk' => Below.heap_setCell _ _ _ _ (by have := ((unhid HN).base k' hk').1; dsimp only; omega)))
      clear HC4 HN HC HR
      go_wp2_with fail
      go_roundw
      case rel => exact ⟨k + 1, L2, ga', c', by omega, by go_num, HK2, HL2, HN5, HC5⟩
      case measure => simp [intOf]; omega
    · have e : k = ps.length := by omega
      subst e
      have HL2 := hid (show itD L = ps by have := unhid HL; rwa [List.take_length] at this)
      obtain ⟨o2, p2⟩ := cell_fz (unhid HC).out 0 _ rfl
      obtain ⟨o1, p1⟩ := cell_fz (unhid HC).res 0 _ rfl
      go_wp2_with fail
      refine bodyPost_ret (v := .agg #[.slice ga ps.length c]) (by simp [results, Tryz.results75, go_sem, World.cell?_setCell_same', o1]) rfl ⟨_, L, rfl, ((unhid HR).frame (fun k' hk' => Below.heap_setCell _ _ _ _ (by have := ((unhid HR).base k' hk').1; dsimp only; omega))).lower (by omega), unhid HL2, (unhid HC).below.setCell (by dsimp only; omega) _⟩
end Go.Proofs.YtlnpjiabdebmgaaGreat

/- A root of other packs, or the one that was, by the model. -/
namespace Go.Proofs.YtlnpjiabdebmgaaGreat
open Go.RowKit Go.Shelf

set_option maxRecDepth 100000 in
set_option maxHeartbeats 4000000 in
theorem l9Try_any (qs : List packC.D) (a1 : Option Addr) (n1 c1 : Nat) (v : Value) (w : World) (hs : smallPs qs) (hq : rowAt packC w v qs) :
    Calls Tryz.prog 125 #[.agg #[.slice a1 n1 c1], v] w fun x w' => ∃ r, x = .returned (.tuple #[.agg #[r], .int .i64 (rootCode qs)]) ∧ ((rootCode qs = 0 ∧ r = v) ∨ (rootCode qs ≠ 0 ∧ r = .slice a1 n1 c1)) ∧ Below w.heap.size w w' := by
  obtain ⟨a2, c2, rfl, -⟩ := rowAt.slice hq
  have HQ := hid hq
  clear hq
  go_enter Tryz.func125, Tryz.ntmps125
  go_wp2_with fail
  obtain ⟨hP, hR, hS, hB⟩ := two_boxesP w (.cells #[.slice a1 n1 c1] 42) (.cells #[.slice none 0 0] 42)
  generalize (w.alloc (.cells #[.slice a1 n1 c1] 42)).alloc (.cells #[.slice none 0 0] 42) = W0 at hP hR hS hB ⊢
  refine (l9Check_any qs _ W0 hs ((unhid HQ).below hB)).mono ?_
  rintro x w2 ⟨rfl, hb⟩
  obtain ⟨o0, p0⟩ := cell_fz ((hb.block _ (by omega)).trans hP) 0 _ rfl
  obtain ⟨o1, p1⟩ := cell_fz ((hb.block _ hS).trans hR) 0 _ rfl
  have HB := hid (hB.trans (hb.mono hB.size))
  clear hb hP hR hB
  by_cases h0 : rootCode qs = 0
  · have HE := hid h0
    rw [h0]
    go_wp2_with fail
    exact bodyPost_ret (v := .tuple #[.agg #[.slice a2 qs.length c2], .int .i64 0]) (by simp [results, Tryz.results125, go_sem, World.cell?_setCell_same', o1]) rfl ⟨_, by rw [unhid HE], .inl ⟨unhid HE, rfl⟩, (unhid HB).setCell (by dsimp only; omega) _⟩
  · have HE := hid h0
    go_wp2_with fail
    exact bodyPost_ret (v := .tuple #[.agg #[.slice a1 n1 c1], .int .i64 (rootCode qs)]) (by simp [results, Tryz.results125, go_sem, World.cell?_setCell_same', o1]) rfl ⟨_, rfl, .inr ⟨unhid HE, rfl⟩, (unhid HB).setCell (by dsimp only; omega) _⟩
def tryP (ps qs : List packC.D) : List packC.D := if rootCode qs = 0 then qs else ps
def hasB (q : ByteArray) (ps : List packC.D) : Bool := (namesP ps).any fun x => decide (x = q)
theorem hasB_iff (q : ByteArray) (ps : List packC.D) : hasB q ps = true ↔ q ∈ namesP ps := by simp [hasB]
def outCode (q : ByteArray) (ps : List packC.D) : Int := if hasB q ps then rootCode (withoutP q ps) else 3
def outP (q : ByteArray) (ps : List packC.D) : List packC.D := if hasB q ps then tryP ps (withoutP q ps) else ps
theorem without_small {q : ByteArray} {ps : List packC.D} (h : smallPs ps) : smallPs (withoutP q ps) := by
  refine ⟨Nat.le_trans (List.length_filter_le _ _) h.1, fun p hp => h.2 p ?_⟩
  unfold withoutP at hp
  exact (List.mem_filter.1 hp).1
/-- What a region with calls and a store at its end keeps. -/
def OutW (w : World) (g : Nat) (w' : World) : Prop := Below (g + 1) w w' ∧ ∃ z, w'.heap[g + 1]? = some (.cells #[z] 42 (0, 0))
theorem OutW.next {w w1 w2 : World} {g : Nat} (h : OutW w g w1) (hg : g + 1 < w1.heap.size) (hb : Below w1.heap.size w1 w2) : OutW w g w2 := by
  obtain ⟨h1, z, hz⟩ := h
  exact ⟨h1.trans (hb.mono (by omega)), z, (hb.block _ hg).trans hz⟩
theorem OutW.store {w w1 : World} {g : Nat} (h : OutW w g w1) (u : Value) : OutW w g (w1.setCell ⟨g + 1, 0, none⟩ u) := by
  obtain ⟨h1, z, hz⟩ := h
  exact ⟨h1.setCell (by dsimp only; omega) _, u, heap_setCell_same w1 (g + 1) 0 _ _ u hz⟩

set_option maxRecDepth 100000 in
set_option maxHeartbeats 4000000 in
theorem l9Out_any (L : List (It packC)) (u : Value) (q : ByteArray) (w : World) (N : Nat) (hN : N ≤ w.heap.size) (hs : smallPs (itD L)) (hp : NRow packC 31 w N u L) :
    Calls Tryz.prog 82 #[.agg #[u], .string q] w fun x w' => ∃ (r : Value) (L' : List (It packC)), x = .returned (.tuple #[.agg #[r], .int .i64 (outCode q (itD L))]) ∧ NRow packC 31 w' N r L' ∧ itD L' = outP q (itD L) ∧ Below w.heap.size w w' := by
  obtain ⟨a1, c1, rfl⟩ := nrow_slice hp
  have HP := hid hp
  have HA := hid (show rowAt packC w (.slice a1 L.length c1) (itD L) from by obtain ⟨F, h1, _⟩ := hp.own; exact h1.toAt)
  have HS := hid hs
  have hln := itD_len L
  generalize hps : itD L = ps at *
  have HPS := hid hps
  clear hp hps
  go_enter Tryz.func82, Tryz.ntmps82
  go_wp2_with fail
  obtain ⟨hP, hR, hS, hB⟩ := two_boxesP w (.cells #[.slice a1 L.length c1] 42) (.cells #[.slice none 0 0] 42)
  generalize (w.alloc (.cells #[.slice a1 L.length c1] 42)).alloc (.cells #[.slice none 0 0] 42) = W0 at hP hR hS hB ⊢
  have o0 := cell_arrS hP 0 _ rfl
  go_wp2_with fail
  refine (l8Pack_any ps _ q W0 hs.1 ((unhid HA).below hB)).mono ?_
  rintro x w2 ⟨⟨r, rfl, hr⟩, hb⟩
  clear o0
  have hP2 := (hb.block _ (by omega)).trans hP
  have hR2 := (hb.block _ hS).trans hR
  have hS2 : w.heap.size + 1 < w2.heap.size := Nat.lt_of_lt_of_le hS hb.size
  have hB2 := hB.trans (hb.mono hB.size)
  clear hb hP hR hB hS hs
  obtain ⟨o0, p0⟩ := cell_fz hP2 0 _ rfl
  obtain ⟨o1, p1⟩ := cell_fz hR2 0 _ rfl
  rcases hr with ⟨rfl, hno⟩ | ⟨k, rfl, hyes⟩
  · have hno2 : ¬ hasB q ps = true := fun e => hno ((hasB_iff q ps).1 e)
    have HE := hid (show 3 = outCode q ps ∧ ps = outP q ps from ⟨by unfold outCode; rw [if_neg hno2], by unfold outP; rw [if_neg hno2]⟩)
    have HB := hid hB2
    clear hno hno2 hP2 hR2 hB2
    go_wp2_with fail
    refine bodyPost_ret (v := .tuple #[.agg #[.slice a1 L.length c1], .int .i64 3]) (by simp [results, Tryz.results82, go_sem, World.cell?_setCell_same', o1]) rfl ⟨_, L, by rw [← (unhid HE).1], ?_, by rw [unhid HPS]; exact (unhid HE).2, (unhid HB).setCell (by dsimp only; omega) _⟩
    refine (unhid HP).frame (fun k hk => ?_)
    have h1 := ((unhid HP).base k hk).2
    rw [Below.heap_setCell _ _ _ _ (by dsimp only; omega), (unhid HB).block k h1]
  · have hm : hasB q ps = true := (hasB_iff q ps).2 (List.mem_of_getElem? hyes)
    have HE := hid (show rootCode (withoutP q ps) = outCode q ps ∧ tryP ps (withoutP q ps) = outP q ps from ⟨by unfold outCode; rw [if_pos hm], by unfold outP; rw [if_pos hm]⟩)
    have HB := hid hB2
    have hC0 : OutW w2 w.heap.size w2.drew := ⟨⟨rfl, rfl, rfl, Nat.le_refl _, fun _ _ => rfl⟩, _, hR2⟩
    have HC0 := hid hC0
    have HS2 := hid hS2
    clear hyes hm hR2 hB2 o1 p1 hP2
    go_wp2_with fail
    have gq0 : ∀ x : CW (OutW w2 w.heap.size), x.w.cell? ⟨w.heap.size, 0, none⟩ = some (.slice a1 L.length c1) := fun x => (x.h.1.cell (p := ⟨w.heap.size, 0, none⟩) (by dsimp only; omega)).trans o0
    have hba : ∀ {q : Prop}, (CW (OutW w2 w.heap.size) → q) ↔ q := CW.all hC0
    refine held_begin (OutW w2 w.heap.size) (by kernel_rfl) hC0 ?_
    refine held_here [true, true, true, true] (by kernel_rfl) (by kernel_rfl) (fun _ _ _ _ _ h => h) hC0 ?_
    dsimp only [pick]
    repeat (go_big_quiet_step (fail))
    refine wpQuiet_nil ?_
    clear hba gq0 hC0 o0 p0
    have hs0 : w.heap.size + 1 < w2.drew.heap.size := unhid HS2
    have hbd : Below w.heap.size w w2.drew := (unhid HB).trans ⟨rfl, rfl, rfl, Nat.le_refl _, fun _ _ => rfl⟩
    have HBD := hid hbd
    generalize w2.drew = w3 at *
    have hsL : L.length ≤ 1048576 := by have := (unhid HS).1; omega
    have hPd : NRow packC 31 w3 N (.slice a1 L.length c1) L := (unhid HP).frame (fun k hk => hbd.block k ((unhid HP).base k hk).2)
    refine held_call 4 134 16 (enters_of Tryz.func134 (by kernel_rfl) rfl) #[.slice a1 L.length c1, .string q] (by kernel_rfl) (by kernel_rfl) rfl rfl rfl rfl rfl ?_
    refine (l9Without_any L _ q w3 N (Nat.le_trans hN hbd.size) hsL hPd).mono ?_
    rintro x w4 ⟨v4, rfl, hN4, hW4, hb⟩
    have hC4 := (unhid HC0).next hs0 hb
    have hs4 := Nat.lt_of_lt_of_le hs0 hb.size
    have hb4 := hbd.trans (hb.mono hbd.size)
    have hat : rowAt packC w4 v4 (withoutP q ps) := by
      obtain ⟨F, h1, _⟩ := hN4.own
      have := h1.toAt
      rwa [withoutI_D, unhid HPS] at this
    refine ⟨_, rfl, hC4, ?_⟩
    simp only [Act.put, List.setIfInBounds_toArray, List.set_cons_zero, List.set_cons_succ]
    refine held_call 5 125 17 (enters_of Tryz.func125 (by kernel_rfl) rfl) #[.agg #[.slice a1 L.length c1], v4] (by kernel_rfl) (by kernel_rfl) rfl rfl rfl rfl rfl ?_
    refine (l9Try_any (withoutP q ps) a1 L.length c1 v4 w4 (without_small (unhid HS)) hat).mono ?_
    rintro x w5 ⟨r5, rfl, hat5, hb5⟩
    obtain ⟨ra, rn, rc, hr5⟩ : ∃ ra rn rc, r5 = .slice ra rn rc := by
      rcases hat5 with ⟨_, rfl⟩ | ⟨_, rfl⟩
      · obtain ⟨x, y, rfl⟩ := nrow_slice hN4
        exact ⟨_, _, _, rfl⟩
      · exact ⟨_, _, _, rfl⟩
    have hfin : ∃ L', itD L' = tryP ps (withoutP q ps) ∧ ∀ z, NRow packC 31 (w5.setCell ⟨w.heap.size + 1, 0, none⟩ z) N r5 L' := by
      rcases hat5 with ⟨h0, rfl⟩ | ⟨h0, rfl⟩
      · refine ⟨withoutI q L, by rw [withoutI_D, unhid HPS]; unfold tryP; rw [if_pos h0], fun z => hN4.frame (fun k hk => ?_)⟩
        have hl := (hN4.base k hk).2
        rw [Below.heap_setCell _ _ _ _ ?_, hb5.block k hl]
        dsimp only
        rcases hk with hk | hk
        · have := hW4 k hk; omega
        · have h2 := (unhid HP).items.lt k ((itF_sub (withoutI_sub q L)).subset hk)
          omega
      · refine ⟨L, by rw [unhid HPS]; unfold tryP; rw [if_neg h0], fun z => (unhid HP).frame (fun k hk => ?_)⟩
        have hl := ((unhid HP).base k hk).2
        rw [Below.heap_setCell _ _ _ _ (by dsimp only; omega), hb5.block k (Nat.lt_of_lt_of_le hl hb4.size), hb4.block k hl]
    subst hr5
    have HFIN := hid hfin
    clear hfin
    have hC5 := hC4.next hs4 hb5
    have hB5 := hb4.trans (hb5.mono hb4.size)
    refine ⟨_, rfl, hC5, ?_⟩
    simp only [Act.put, List.setIfInBounds_toArray, List.set_cons_zero, List.set_cons_succ]
    have HB5 := hid hB5
    clear hs0 hbd HBD HC0 hat hb hC4 hs4 hb4 hat5 hb5 hB5 HB hPd hN4 hW4
    have hba : ∀ {q : Prop}, (CW (OutW w2 w.heap.size) → q) ↔ q := CW.all hC5
    refine held_here [false, false, false, false, false, false, true, true] (by kernel_rfl) (by kernel_rfl) (fun _ _ _ _ _ h => h) hC5 ?_
    dsimp only [pick]
    repeat (go_big_quiet_step (fail))
    refine wpQuiet_nil ?_
    obtain ⟨z, hz⟩ := hC5.2
    obtain ⟨o1, p1⟩ := cell_fz hz 0 _ rfl
    have hC6 := hC5.store (.slice ra rn rc)
    clear hba
    refine held_op 8 (by kernel_rfl) (by kernel_rfl) rfl (fun K hK => ?_)
    go_simp
    refine hK.out _ _ hC6 ?_
    clear hK K
    have hba : ∀ {q : Prop}, (CW (OutW w2 w.heap.size) → q) ↔ q := CW.all hC6
    refine held_here [false, false, false, false, false, false, false, false, false, true] (by kernel_rfl) (by kernel_rfl) (fun _ _ _ _ _ h => h) hC6 ?_
    dsimp only [pick]
    repeat (go_big_quiet_step (fail))
    refine wpQuiet_nil ?_
    clear hba
    refine held_done (by kernel_rfl) ?_
    go_wp2_with fail
    obtain ⟨L', h1, h2⟩ := unhid HFIN
    exact bodyPost_ret (v := .tuple #[.agg #[.slice ra rn rc], .int .i64 (rootCode (withoutP q ps))]) (by simp [results, Tryz.results82, go_sem, World.cell?_setCell_same', o1]) rfl ⟨_, L', by rw [← (unhid HE).1], h2 _, by rw [h1]; exact (unhid HE).2, (unhid HB5).setCell (by dsimp only; omega) _⟩
end Go.Proofs.YtlnpjiabdebmgaaGreat

/- Roots copied, and turned, by the program. -/
namespace Go.Proofs.YtlnpjiabdebmgaaGreat
open Go.RowKit Go.Shelf

set_option maxRecDepth 100000 in
set_option maxHeartbeats 4000000 in
theorem cloneRoot_any (ps : List packC.D) (u : Value) (w : World) (hs : smallPs ps) (hp : rowAt packC w u ps) :
    Calls Tryz.prog 77 #[.agg #[u]] w fun x w' => ∃ (r : Value) (L : List (It packC)), x = .returned (.agg #[r]) ∧ NRow packC 31 w' w.heap.size r L ∧ itD L = ps ∧ Below w.heap.size w w' := by
  obtain ⟨a1, c1, rfl, -⟩ := rowAt.slice hp
  have HP := hid hp
  clear hp
  go_enter Tryz.func77, Tryz.ntmps77
  go_wp2_with fail
  obtain ⟨hP, hR, hS, hB⟩ := two_boxesP w (.cells #[.slice a1 ps.length c1] 42) (.cells #[.slice none 0 0] 42)
  generalize (w.alloc (.cells #[.slice a1 ps.length c1] 42)).alloc (.cells #[.slice none 0 0] 42) = W0 at hP hR hS hB ⊢
  refine (clonePacks_any ps _ W0 hs ((unhid HP).below hB)).mono ?_
  rintro x w2 ⟨r, L, rfl, hN, hL, hb⟩
  obtain ⟨o1, p1⟩ := cell_fz ((hb.block _ hS).trans hR) 0 _ rfl
  obtain ⟨ra, rc, rfl⟩ := nrow_slice hN
  have HN := hid hN
  have HL := hid hL
  have HB := hid (hB.trans (hb.mono hB.size))
  have HS := hid hS
  clear hb hP hR hB hN hL hS
  go_wp2_with fail
  refine bodyPost_ret (v := .agg #[.slice ra L.length rc]) (by simp [results, Tryz.results77, go_sem, World.cell?_setCell_same', o1]) rfl ⟨_, L, rfl, NRow.lower (N := W0.heap.size) ((unhid HN).frame (fun k hk => Below.heap_setCell _ _ _ _ ?_)) (by have := unhid HS; omega), unhid HL, (unhid HB).setCell (by dsimp only; omega) _⟩
  have := ((unhid HN).base k hk).1
  have := unhid HS
  dsimp only
  omega

set_option maxRecDepth 100000 in
set_option maxHeartbeats 4000000 in
theorem turnRoot_any (ps : List packC.D) (u : Value) (L : List (It packC)) (v : Value) (w : World) (N : Nat) (hN : N ≤ w.heap.size) (hs : smallPs ps) (hs2 : smallPs (itD L)) (hp : rowAt packC w u ps) (hq : NRow packC 31 w N v L) :
    Calls Tryz.prog 78 #[.agg #[u], v] w fun x w' => ∃ (r : Value) (L' : List (It packC)), x = .returned (.tuple #[.agg #[r], .int .i64 (rootCode (itD L))]) ∧ NRow packC 31 w' N r L' ∧ itD L' = tryP ps (itD L) ∧ Below w.heap.size w w' := by
  obtain ⟨a1, c1, rfl, -⟩ := rowAt.slice hp
  obtain ⟨a2, c2, rfl⟩ := nrow_slice hq
  have HP := hid hp
  have HQ := hid hq
  have hat : rowAt packC w (.slice a2 L.length c2) (itD L) := by obtain ⟨F, h1, _⟩ := hq.own; exact h1.toAt
  have HA := hid hat
  clear hp hq hat
  go_enter Tryz.func78, Tryz.ntmps78
  go_wp2_with fail
  obtain ⟨hP, hR, hS, hB⟩ := two_boxesP w (.cells #[.slice a1 ps.length c1] 42) (.cells #[.slice none 0 0] 42)
  generalize (w.alloc (.cells #[.slice a1 ps.length c1] 42)).alloc (.cells #[.slice none 0 0] 42) = W0 at hP hR hS hB ⊢
  refine (packsWrong_any (itD L) _ W0 hs2 ((unhid HA).below hB)).mono ?_
  rintro x w2 ⟨rfl, hb⟩
  have hP2 := (hb.block _ (by omega)).trans hP
  have hR2 := (hb.block _ hS).trans hR
  have hS2 : w.heap.size + 1 < w2.heap.size := Nat.lt_of_lt_of_le hS hb.size
  have hB2 := hB.trans (hb.mono hB.size)
  obtain ⟨o0, p0⟩ := cell_fz hP2 0 _ rfl
  obtain ⟨o1, p1⟩ := cell_fz hR2 0 _ rfl
  clear hb hP hR hB hS hP2
  by_cases h0 : rootCode (itD L) = 0
  · have HE := hid h0
    have HB := hid hB2
    clear hB2
    rw [h0]
    go_wp2_with fail
    refine bodyPost_ret (v := .tuple #[.agg #[.slice a2 L.length c2], .int .i64 0]) (by simp [results, Tryz.results78, go_sem, World.cell?_setCell_same', o1]) rfl ⟨_, L, by rw [unhid HE], (unhid HQ).frame (fun k hk => ?_), by unfold tryP; rw [if_pos (unhid HE)], (unhid HB).setCell (by dsimp only; omega) _⟩
    have := ((unhid HQ).base k hk).2
    rw [Below.heap_setCell _ _ _ _ (by dsimp only; omega), (unhid HB).block k this]
  · have HE := hid h0
    have JN := hid (cloneRoot_any ps _ w2 hs ((unhid HP).below hB2))
    have HB := hid hB2
    have HS2 := hid hS2
    have HR2 := hid hR2
    clear hB2 hS2 hR2 o1 p1
    go_wp2_with fail
    refine (unhid JN).mono ?_
    rintro x w3 ⟨r, L', rfl, hN3, hL3, hb3⟩
    obtain ⟨ra, rc, rfl⟩ := nrow_slice hN3
    obtain ⟨o1, p1⟩ := cell_fz ((hb3.block _ (unhid HS2)).trans (unhid HR2)) 0 _ rfl
    have HN3 := hid hN3
    have HL3 := hid hL3
    have HB3 := hid ((unhid HB).trans (hb3.mono (unhid HB).size))
    clear hN3 hL3 hb3 JN
    go_wp2_with fail
    refine bodyPost_ret (v := .tuple #[.agg #[.slice ra L'.length rc], .int .i64 (rootCode (itD L))]) (by simp [results, Tryz.results78, go_sem, World.cell?_setCell_same', o1]) rfl ⟨_, L', rfl, NRow.lower (N := w2.heap.size) ((unhid HN3).frame (fun k hk => Below.heap_setCell _ _ _ _ ?_)) (by have := (unhid HB).size; omega), by unfold tryP; rw [if_neg (unhid HE)]; exact unhid HL3, (unhid HB3).setCell (by dsimp only; omega) _⟩
    have := ((unhid HN3).base k hk).1
    have := unhid HS2
    dsimp only
    omega
end Go.Proofs.YtlnpjiabdebmgaaGreat

/- RootOut, by the model and by the program. -/
namespace Go.Proofs.YtlnpjiabdebmgaaGreat
open Go.RowKit Go.Shelf

def rootOutC (d : RootD) (q : ByteArray) : Int := if rootOk_0 d = true then outCode q d.packs else 1
def rootOutP (d : RootD) (q : ByteArray) : List packC.D := if rootOk_0 d = true then outP q d.packs else []
def RootOutR (d : RootD) (q : ByteArray) (w : World) (x : Ending) (w' : World) : Prop := ∃ (r : Value) (L : List (It packC)), x = .returned (.tuple #[.agg #[r], .int .i64 (rootOutC d q)]) ∧ NRow packC 31 w' w.heap.size r L ∧ itD L = rootOutP d q ∧ Below w.heap.size w w'
set_option maxRecDepth 100000 in
set_option maxHeartbeats 4000000 in
theorem specRootOut_any (d : RootD) (a1 : Option Addr) (c1 : Nat) (q : ByteArray) (w : World) (hs : smallPs d.packs) (hp : rowAt packC w (.slice a1 d.packs.length c1) d.packs) :
    Calls Tryz.prog 32 #[.agg #[.slice a1 d.packs.length c1], .string q] w (RootOutR d q w) := by
  have HP := hid hp
  clear hp
  go_enter Tryz.func32, Tryz.ntmps32
  go_wp2_with fail
  obtain ⟨hP, hR, hS, hB⟩ := two_boxesP w (.cells #[.slice a1 d.packs.length c1] 42) (.cells #[.slice none 0 0] 42)
  generalize (w.alloc (.cells #[.slice a1 d.packs.length c1] 42)).alloc (.cells #[.slice none 0 0] 42) = W0 at hP hR hS hB ⊢
  have o0 := cell_arrS hP 0 _ rfl
  go_wp2_with fail
  refine (specRootOk_any d a1 c1 W0 hs ((unhid HP).below hB)).mono ?_
  rintro x w2 ⟨rfl, hb⟩
  clear o0
  have hP2 := (hb.block _ (by omega)).trans hP
  have hR2 := (hb.block _ hS).trans hR
  have hS2 : w.heap.size + 1 < w2.heap.size := Nat.lt_of_lt_of_le hS hb.size
  have hB2 := hB.trans (hb.mono hB.size)
  clear hb hP hR hB hS
  obtain ⟨o0, p0⟩ := cell_fz hP2 0 _ rfl
  obtain ⟨o1, p1⟩ := cell_fz hR2 0 _ rfl
  have HB := hid hB2
  have HS2 := hid hS2
  have HR2 := hid hR2
  cases hok : rootOk_0 d with
  | false =>
    have HE := hid hok
    clear hP2 hR2 hB2 hS2
    go_wp2_with fail
    exact bodyPost_ret (v := .tuple #[.agg #[.slice none 0 0], .int .i64 1]) (by simp [results, Tryz.results32, go_sem, World.cell?_setCell_same', o1]) rfl ⟨_, [], by unfold rootOutC; rw [unhid HE]; rfl, NRow.none _ _, by unfold rootOutP; rw [unhid HE]; rfl, (unhid HB).setCell (by dsimp only; omega) _⟩
  | true =>
    have HE := hid hok
    have JN := hid (l9Copy_any d.packs _ w2 hs ((unhid HP).below hB2))
    clear hP2 hR2 hB2 hS2 o1 p1
    go_wp2_with fail
    refine (unhid JN).mono ?_
    rintro x w3 ⟨u, L, rfl, hN3, hL3, hb3⟩
    obtain ⟨ra, rc, rfl⟩ := nrow_slice hN3
    clear JN
    have HB3 := hid hb3
    have JN := hid (l9Out_any L (.slice ra L.length rc) q w3 w2.heap.size hb3.size (by rw [hL3]; exact hs) hN3)
    have HL3 := hid hL3
    clear hN3 hL3 hb3
    go_wp2_with fail
    refine (unhid JN).mono ?_
    rintro x w4 ⟨r, L', rfl, hN4, hL4, hb4⟩
    obtain ⟨rb, rd, rfl⟩ := nrow_slice hN4
    have hb24 := (unhid HB3).trans (hb4.mono (unhid HB3).size)
    obtain ⟨o1, p1⟩ := cell_fz ((hb24.block _ (unhid HS2)).trans (unhid HR2)) 0 _ rfl
    have HN4 := hid hN4
    have HL4 := hid hL4
    have HB4 := hid ((unhid HB).trans (hb24.mono (unhid HB).size))
    clear hN4 hL4 hb4 hb24 JN
    have hoc : outCode q (itD L) = rootOutC d q := by unfold rootOutC; rw [if_pos (unhid HE), unhid HL3]
    rw [hoc]
    have HX := hid (show outP q (itD L) = rootOutP d q by unfold rootOutP; rw [if_pos (unhid HE), unhid HL3])
    clear hoc hok
    generalize hoc : rootOutC d q = oc
    have HOC := hid hoc
    clear hoc
    go_wp2_with fail
    refine bodyPost_ret (v := .tuple #[.agg #[.slice rb L'.length rd], .int .i64 oc]) (by simp [results, Tryz.results32, go_sem, World.cell?_setCell_same', o1]) rfl ⟨_, L', by rw [unhid HOC], NRow.lower (N := w2.heap.size) ((unhid HN4).frame (fun k hk => Below.heap_setCell _ _ _ _ ?_)) (by have := (unhid HB).size; omega), by rw [unhid HL4, unhid HX], (unhid HB4).setCell (by dsimp only; omega) _⟩
    have := ((unhid HN4).base k hk).1
    have := unhid HS2
    dsimp only
    omega
theorem without_place {ps : List packC.D} {q : ByteArray} {i : Nat} (hf : formB ps = true) (hi : (namesP ps)[i]? = some q) : withoutP q ps = ps.take i ++ ps.drop (i + 1) := by
  have ha := form_asc hf
  obtain ⟨p, hp, hpn⟩ := namesP_some hi
  have hil := (List.getElem?_eq_some_iff.1 hp).1
  have hone : ∀ (j : Nat) (x : packC.D), ps[j]? = some x → j ≠ i → (!decide (PackD.name x = q)) = true := fun j x hx hne => by
    simp only [Bool.not_eq_true', decide_eq_false_iff_not]
    intro e
    have := namesP_get hx
    rw [e] at this
    exact hne (asc_inj ha this hi)
  have hsp : ps = ps.take i ++ (p :: ps.drop (i + 1)) := by
    have h1 : ps.drop i = p :: ps.drop (i + 1) := by
      rw [List.drop_eq_getElem_cons hil]
      congr 1
      have := List.getElem?_eq_getElem hil
      rw [hp] at this
      exact (Option.some.inj this).symm
    rw [← h1, List.take_append_drop]
  have e1 : List.filter (α := packC.D) (fun p => !decide (PackD.name p = q)) (ps.take i) = ps.take i := List.filter_eq_self.2 (fun x hx => by
    obtain ⟨j, hj⟩ := List.getElem?_of_mem hx
    have hji : j < i := by have := (List.getElem?_eq_some_iff.1 hj).1; rw [List.length_take] at this; omega
    rw [List.getElem?_take_of_lt hji] at hj
    exact hone j x hj (by omega))
  have e2 : List.filter (α := packC.D) (fun p => !decide (PackD.name p = q)) (ps.drop (i + 1)) = ps.drop (i + 1) := List.filter_eq_self.2 (fun x hx => by
    obtain ⟨j, hj⟩ := List.getElem?_of_mem hx
    rw [List.getElem?_drop] at hj
    exact hone _ x hj (by omega))
  have e3 : List.filter (α := packC.D) (fun p => !decide (PackD.name p = q)) (p :: ps.drop (i + 1)) = ps.drop (i + 1) := by
    rw [List.filter_cons_of_neg (by simp [hpn]), e2]
  have : withoutP q ps = List.filter (α := packC.D) (fun p => !decide (PackD.name p = q)) (ps.take i ++ (p :: ps.drop (i + 1))) := by unfold withoutP; rw [← hsp]
  rw [this, List.filter_append, e1, e3]
theorem ok_form {ps : List packC.D} (h : rootCode ps = 0) : formB ps = true := by
  cases hf : formB ps with
  | true => rfl
  | false => rw [code_form hf] at h; cases h
theorem ok_len {ps : List packC.D} (h : rootCode ps = 0) : ps.length ≤ 5 := by
  rcases Nat.lt_or_ge 5 ps.length with hl | hl
  · rw [code_full (ok_form h) (by omega)] at h; cases h
  · exact hl
set_option maxRecDepth 100000 in
set_option maxHeartbeats 8000000 in
theorem implRootOut_any (d : RootD) (a1 : Option Addr) (c1 : Nat) (q : ByteArray) (w : World) (hs : smallPs d.packs) (hp : rowAt packC w (.slice a1 d.packs.length c1) d.packs) :
    Calls Tryz.prog 33 #[.agg #[.slice a1 d.packs.length c1], .string q] w (RootOutR d q w) := by
  have HP := hid hp
  clear hp
  go_enter Tryz.func33, Tryz.ntmps33
  go_wp2_with fail
  obtain ⟨hP, hR, hS, hB⟩ := two_boxesP w (.cells #[.slice a1 d.packs.length c1] 42) (.cells #[.slice none 0 0] 42)
  generalize (w.alloc (.cells #[.slice a1 d.packs.length c1] 42)).alloc (.cells #[.slice none 0 0] 42) = W0 at hP hR hS hB ⊢
  have o0 := cell_arrS hP 0 _ rfl
  go_wp2_with fail
  refine (implRootOk_any d a1 c1 W0 hs ((unhid HP).below hB)).mono ?_
  rintro x w2 ⟨rfl, hb⟩
  clear o0
  have hP2 := (hb.block _ (by omega)).trans hP
  have hR2 := (hb.block _ hS).trans hR
  have hS2 : w.heap.size + 1 < w2.heap.size := Nat.lt_of_lt_of_le hS hb.size
  have hB2 := hB.trans (hb.mono hB.size)
  clear hb hP hR hB hS
  obtain ⟨o0, p0⟩ := cell_fz hP2 0 _ rfl
  obtain ⟨o1, p1⟩ := cell_fz hR2 0 _ rfl
  have HB := hid hB2
  cases hok : rootOk_0 d with
  | false =>
    have HE := hid hok
    clear hP2 hR2 hB2 hS2
    go_wp2_with fail
    exact bodyPost_ret (v := .tuple #[.agg #[.slice none 0 0], .int .i64 1]) (by simp [results, Tryz.results33, go_sem, World.cell?_setCell_same', o1]) rfl ⟨_, [], by unfold rootOutC; rw [unhid HE]; rfl, NRow.none _ _, by unfold rootOutP; rw [unhid HE]; rfl, (unhid HB).setCell (by dsimp only; omega) _⟩
  | true =>
    have HE := hid hok
    have hrc := rootOk_yes hok
    have HF := hid (ok_form hrc)
    have hlen := ok_len hrc
    have JN := hid (packPlace_any d.packs _ q w2 hs.1 (form_asc (unhid HF)) ((unhid HP).below hB2))
    clear o1 p1
    go_wp2_with fail
    refine (unhid JN).mono ?_
    rintro x w3 ⟨rfl, hb3⟩
    clear JN o0 p0
    have hP3 := (hb3.block _ (by omega)).trans hP2
    have hR3 := (hb3.block _ hS2).trans hR2
    have hS3 : w.heap.size + 1 < w3.heap.size := Nat.lt_of_lt_of_le hS2 hb3.size
    have hB3 := hB2.trans (hb3.mono hB2.size)
    clear hP2 hR2 hS2 hB2 hb3 HB
    obtain ⟨o0, p0⟩ := cell_fz hP3 0 _ rfl
    have HB := hid hB3
    have HS3 := hid hS3
    have HR3 := hid hR3
    cases hth : thereP (namesP d.packs) q with
    | false =>
      have hno2 : ¬ hasB q d.packs = true := fun e => there_no (form_asc (unhid HF)) hth ((hasB_iff q _).1 e)
      have HX := hid (show 3 = rootOutC d q ∧ d.packs = rootOutP d q from ⟨by unfold rootOutC outCode; rw [if_pos hok, if_neg hno2], by unfold rootOutP outP; rw [if_pos hok, if_neg hno2]⟩)
      have JN := hid (cloneRoot_any d.packs _ w3 hs ((unhid HP).below hB3))
      clear hno2 hP3 hR3 hB3 hS3
      go_wp2_with fail
      refine (unhid JN).mono ?_
      rintro x w4 ⟨r, L', rfl, hN4, hL4, hb4⟩
      obtain ⟨rb, rd, rfl⟩ := nrow_slice hN4
      obtain ⟨o1, p1⟩ := cell_fz ((hb4.block _ (unhid HS3)).trans (unhid HR3)) 0 _ rfl
      have HN4 := hid hN4
      have HL4 := hid hL4
      have HB4 := hid ((unhid HB).trans (hb4.mono (unhid HB).size))
      clear hN4 hL4 hb4 JN
      go_wp2_with fail
      refine bodyPost_ret (v := .tuple #[.agg #[.slice rb L'.length rd], .int .i64 3]) (by simp [results, Tryz.results33, go_sem, World.cell?_setCell_same', o1]) rfl ⟨_, L', by rw [← (unhid HX).1], NRow.lower (N := w3.heap.size) ((unhid HN4).frame (fun k hk => Below.heap_setCell _ _ _ _ ?_)) (by have := (unhid HB).size; omega), by rw [unhid HL4]; exact (unhid HX).2, (unhid HB4).setCell (by dsimp only; omega) _⟩
      have := ((unhid HN4).base k hk).1
      have := unhid HS3
      dsimp only
      omega
    | true =>
      have hm := thereT_mem hth
      have hyes : hasB q d.packs = true := (hasB_iff q _).2 (List.mem_of_getElem? hm)
      have hwp := without_place (unhid HF) hm
      have hil : placeP (namesP d.packs) q < d.packs.length := by have := (List.getElem?_eq_some_iff.1 hm).1; rwa [namesP_len] at this
      generalize placeP (namesP d.packs) q = i at *
      have HX := hid (show rootCode (d.packs.take i ++ d.packs.drop (i + 1)) = rootOutC d q ∧ tryP d.packs (d.packs.take i ++ d.packs.drop (i + 1)) = rootOutP d q from ⟨by unfold rootOutC outCode; rw [if_pos hok, if_pos hyes, hwp], by unfold rootOutP outP; rw [if_pos hok, if_pos hyes, hwp]⟩)
      have hC0 : OutW w3 w.heap.size w3.drew := ⟨⟨rfl, rfl, rfl, Nat.le_refl _, fun _ _ => rfl⟩, _, hR3⟩
      have HC0 := hid hC0
      clear hm hyes hwp hth hP3 hR3 hB3 hS3
      go_wp2_with fail
      have gq0 : ∀ x : CW (OutW w3 w.heap.size), x.w.cell? ⟨w.heap.size, 0, none⟩ = some (.slice a1 d.packs.length c1) := fun x => (x.h.1.cell (p := ⟨w.heap.size, 0, none⟩) (by dsimp only; omega)).trans o0
      have hba : ∀ {q : Prop}, (CW (OutW w3 w.heap.size) → q) ↔ q := CW.all hC0
      refine held_begin (OutW w3 w.heap.size) (by kernel_rfl) hC0 ?_
      refine held_here [true, true, true, false, true, true, true] (by kernel_rfl) (by kernel_rfl) (fun _ _ _ _ _ h => h) hC0 ?_
      dsimp only [pick]
      repeat (go_big_quiet_step (fail))
      refine wpQuiet_nil ?_
      clear hba gq0 hC0 o0 p0
      have hs0 : w.heap.size + 1 < w3.drew.heap.size := unhid HS3
      have hbd : Below w.heap.size w w3.drew := (unhid HB).trans ⟨rfl, rfl, rfl, Nat.le_refl _, fun _ _ => rfl⟩
      clear HR3
      generalize w3.drew = w4 at *
      refine held_call 3 84 26 (enters_of Tryz.func84 (by kernel_rfl) rfl) #[.slice a1 d.packs.length c1] (by kernel_rfl) (by kernel_rfl) rfl rfl rfl rfl rfl ?_
      refine (clonePacks_any d.packs _ w4 hs ((unhid HP).below hbd)).mono ?_
      rintro x w5 ⟨v5, L, rfl, hN5, hL5, hb5⟩
      have hC5 := (unhid HC0).next hs0 hb5
      have hs5 := Nat.lt_of_lt_of_le hs0 hb5.size
      have hB5 := hbd.trans (hb5.mono hbd.size)
      have hL5l : L.length = d.packs.length := by rw [← hL5, itD_len]
      refine ⟨_, rfl, hC5, ?_⟩
      simp only [Act.put, List.setIfInBounds_toArray, List.set_cons_zero, List.set_cons_succ]
      refine held_call 7 83 30 (enters_of Tryz.func83 (by kernel_rfl) rfl) #[v5, .int .i64 (i : Int), .int .i64 ((i + 1 : Nat) : Int)] (by kernel_rfl) (by kernel_rfl) rfl rfl rfl rfl (by simp [Act.eval]) ?_
      refine (Delete_any L v5 i w5 w4.heap.size (by omega) hN5).mono ?_
      rintro x w6 ⟨v6, rfl, hN6, hg6, _⟩
      have hb6 : Below w4.heap.size w5 w6 := (Below.refl _ w5).grown hg6 hb5.size (fun k hk => (hN5.base k (.inl hk)).1)
      have hb46 : Below w4.heap.size w4 w6 := hb5.trans hb6
      have hC6 := (unhid HC0).next hs0 hb46
      have hs6 := Nat.lt_of_lt_of_le hs0 hb46.size
      have hB6 := hbd.trans (hb46.mono hbd.size)
      have hD6 : itD (L.take i ++ L.drop (i + 1)) = d.packs.take i ++ d.packs.drop (i + 1) := by rw [itD_app, itD_take, itD_drop, hL5]
      have hs2 : smallPs (itD (L.take i ++ L.drop (i + 1))) := by
        rw [hD6]
        refine ⟨by rw [List.length_append, List.length_take, List.length_drop]; have := hs.1; omega, fun p hp => ?_⟩
        rcases List.mem_append.1 hp with hp | hp
        · exact hs.2 p (List.mem_of_mem_take hp)
        · exact hs.2 p (List.mem_of_mem_drop hp)
      refine ⟨_, rfl, hC6, ?_⟩
      simp only [Act.put, List.setIfInBounds_toArray, List.set_cons_zero, List.set_cons_succ]
      refine held_call 8 78 31 (enters_of Tryz.func78 (by kernel_rfl) rfl) #[.agg #[.slice a1 d.packs.length c1], v6] (by kernel_rfl) (by kernel_rfl) rfl rfl rfl rfl rfl ?_
      refine (turnRoot_any d.packs _ (L.take i ++ L.drop (i + 1)) v6 w6 w4.heap.size hb46.size hs hs2 ((unhid HP).below hB6) hN6).mono ?_
      rintro x w7 ⟨r7, L', rfl, hN7, hL7, hb7⟩
      obtain ⟨rb, rd, rfl⟩ := nrow_slice hN7
      have hC7 := hC6.next hs6 hb7
      have hB7 := hB6.trans (hb7.mono hB6.size)
      rw [hD6] at hL7 ⊢
      rw [(unhid HX).1]
      have HN7 := hid hN7
      have HL7 := hid (hL7.trans (unhid HX).2)
      have HB7 := hid hB7
      have HS4 := hid hs0
      have HBD := hid hbd
      generalize hoc : rootOutC d q = oc
      have HOC := hid hoc
      refine ⟨_, rfl, hC7, ?_⟩
      simp only [Act.put, List.setIfInBounds_toArray, List.set_cons_zero, List.set_cons_succ]
      clear hoc hs0 hbd HC0 hN5 hL5 hb5 hC5 hs5 hB5 hL5l hN6 hg6 hb6 hb46 hC6 hs6 hB6 hD6 hs2 hN7 hL7 hb7 hB7 HX
      have hba : ∀ {q : Prop}, (CW (OutW w3 w.heap.size) → q) ↔ q := CW.all hC7
      refine held_here [false, false, false, false, false, false, false, false, false, true, true] (by kernel_rfl) (by kernel_rfl) (fun _ _ _ _ _ h => h) hC7 ?_
      dsimp only [pick]
      repeat (go_big_quiet_step (fail))
      refine wpQuiet_nil ?_
      obtain ⟨z, hz⟩ := hC7.2
      obtain ⟨o1, p1⟩ := cell_fz hz 0 _ rfl
      have hC8 := hC7.store (.slice rb L'.length rd)
      clear hba
      refine held_op 11 (by kernel_rfl) (by kernel_rfl) rfl (fun K hK => ?_)
      go_simp
      refine hK.out _ _ hC8 ?_
      clear hK K
      have hba : ∀ {q : Prop}, (CW (OutW w3 w.heap.size) → q) ↔ q := CW.all hC8
      refine held_here [false, false, false, false, false, false, false, false, false, false, false, false, true] (by kernel_rfl) (by kernel_rfl) (fun _ _ _ _ _ h => h) hC8 ?_
      dsimp only [pick]
      repeat (go_big_quiet_step (fail))
      refine wpQuiet_nil ?_
      clear hba
      refine held_done (by kernel_rfl) ?_
      go_wp2_with fail
      refine bodyPost_ret (v := .tuple #[.agg #[.slice rb L'.length rd], .int .i64 oc]) (by simp [results, Tryz.results33, go_sem, World.cell?_setCell_same', o1]) rfl ⟨_, L', by rw [unhid HOC], NRow.lower (N := w4.heap.size) ((unhid HN7).frame (fun k hk => Below.heap_setCell _ _ _ _ ?_)) (by have := (unhid HBD).size; omega), unhid HL7, (unhid HB7).setCell (by dsimp only; omega) _⟩
      have := ((unhid HN7).base k hk).1
      have := unhid HS4
      dsimp only
      omega
end Go.Proofs.YtlnpjiabdebmgaaGreat

/- RootOut of copies in memory of their own. -/
namespace Go.Proofs.YtlnpjiabdebmgaaGreat
open Go.RowKit Go.Shelf

def rootOut_0 (d : RootD) (q : ByteArray) : RootD := ⟨rootOutP d q⟩
def rootOut_1 (d : RootD) (q : ByteArray) : Int := rootOutC d q
theorem rootOut_sub (d : RootD) (q : ByteArray) : (rootOutP d q).Sublist d.packs := by
  unfold rootOutP outP tryP
  split
  · split
    · split
      · exact List.filter_sublist
      · exact List.Sublist.refl _
    · exact List.Sublist.refl _
  · exact List.nil_sublist _
theorem cntR_sub {K : CK} {A B : List K.D} (h : A.Sublist B) : cntR K A ≤ cntR K B := by
  induction h with
  | slnil => exact Nat.le_refl _
  | cons a _ ih => exact Nat.le_trans ih (by simp [cntR])
  | cons_cons a _ ih => simp only [cntR]; omega
theorem rootOut_small (d : RootD) (q : ByteArray) (h : rootC.sz d ≤ 1048576 ∧ rootC.big d) (_ : q.size ≤ 1048576) (_ : rootC.sz d ≤ 1048576) : (rootC.big (rootOut_0 d q)) ∧ (cntVRoot (rootOut_0 d q)) ≤ 9000000 := by
  have hs := rootOut_sub d q
  have hb : d.packs.length ≤ maxLen ∧ ∀ p ∈ d.packs, packC.big p := h.2
  refine ⟨show (rootOutP d q).length ≤ maxLen ∧ ∀ p ∈ rootOutP d q, packC.big p from ⟨Nat.le_trans hs.length_le hb.1, fun p hp => hb.2 p (hs.subset hp)⟩, ?_⟩
  have h1 : cntVRoot (rootOut_0 d q) ≤ cntVRoot d := cntR_sub hs
  have h2 := cntVRoot_le d
  omega
def RootOutV (d : RootD) (q : ByteArray) (W : World) (r : Ending) (W' : World) : Prop := ∃ (u : Value) (G : List Nat), r = .returned (.tuple #[u, .int .i64 (rootOut_1 d q)]) ∧ (aggK rootC).own W' u (rootOut_0 d q) G ∧ (∀ k ∈ G, W.heap.size ≤ k ∧ k < W'.heap.size) ∧ Below W.heap.size W W'
theorem rootOut_v {d : RootD} {q : ByteArray} {W : World} {r : Ending} {W' : World} (h : RootOutR d q W r W') : ∃ (u : Value) (G : List Nat), r = .returned (.tuple #[u, .int .i64 (rootOut_1 d q)]) ∧ (aggK rootC).own W' u (rootOut_0 d q) G ∧ (∀ k ∈ G, W.heap.size ≤ k ∧ k < W'.heap.size) ∧ Below W.heap.size W W' := by
  obtain ⟨r, L, rfl, hN, hL, hb⟩ := h
  obtain ⟨F, ho, hf⟩ := hN.own
  rw [hL] at ho
  exact ⟨.agg #[r], F, rfl, ⟨[r], rfl, rootC_mk ⟨r, F, rfl, rfl, ho⟩⟩, hf, hb⟩
theorem rootOut_spec (d0 : RootD) (d1 : ByteArray) (v : Value) (F : List Nat) (W : World) (hs : rootC.sz d0 ≤ 1048576 ∧ rootC.big d0) (_ : d1.size ≤ 1048576) (h : (aggK rootC).own W v d0 F) : Calls Tryz.prog 32 #[v, .string d1] W fun r W' => ∃ (u : Value) (G : List Nat), r = .returned (.tuple #[u, .int .i64 (rootOut_1 d0 d1)]) ∧ (aggK rootC).own W' u (rootOut_0 d0 d1) G ∧ (∀ k ∈ G, W.heap.size ≤ k ∧ k < W'.heap.size) ∧ Below W.heap.size W W' := by
  obtain ⟨a, c, rfl, h1, _⟩ := root_in h
  exact (specRootOut_any d0 a c d1 W (root_small hs.1) h1).mono (fun _ _ h => rootOut_v h)
theorem rootOut_impl (d0 : RootD) (d1 : ByteArray) (v : Value) (F : List Nat) (W : World) (hs : rootC.sz d0 ≤ 1048576 ∧ rootC.big d0) (_ : d1.size ≤ 1048576) (h : (aggK rootC).own W v d0 F) : Calls Tryz.prog 33 #[v, .string d1] W fun r W' => ∃ (u : Value) (G : List Nat), r = .returned (.tuple #[u, .int .i64 (rootOut_1 d0 d1)]) ∧ (aggK rootC).own W' u (rootOut_0 d0 d1) G ∧ (∀ k ∈ G, W.heap.size ≤ k ∧ k < W'.heap.size) ∧ Below W.heap.size W W' := by
  obtain ⟨a, c, rfl, h1, _⟩ := root_in h
  exact (implRootOut_any d0 a c d1 W (root_small hs.1) h1).mono (fun _ _ h => rootOut_v h)
end Go.Proofs.YtlnpjiabdebmgaaGreat
