/- An entry put into a tree: what the program answers, and its model. -/
import Derived.Test.YtlnehebihfeegaaSpecPut
import Derived.Test.YtlnehebihfeegaaTreeFold
namespace Go.Proofs.Ytlnehebihfeegaa
open Go.RowKit Go.Shelf

def putR (es : List Ent) (e : Ent) : List Ent := if treeB es then putL es e else []
def putOk (es : List Ent) (e : Ent) : Bool := treeB es && okPut es e
theorem tree_16 {es : List Ent} (h : treeB es = true) : es.length ≤ 16 := by
  have := (kept_asc es).2; rwa [keptE_yes h] at this
theorem tree_asc {es : List Ent} (h : treeB es = true) : Asc (pathsOf es) := by
  have := (kept_asc es).1; rwa [keptE_yes h] at this
theorem tree_all {es : List Ent} (h : treeB es = true) : ∀ x ∈ es, entB x = true := fun x hx => by
  obtain ⟨i, hi⟩ := List.getElem?_of_mem hx
  exact tree_ent h hi

theorem putL_len (es : List Ent) (e : Ent) : (putL es e).length ≤ es.length + 1 := by
  unfold putL
  split
  · exact putT_len es e
  · omega
theorem putL_all {es : List Ent} {e : Ent} (h : ∀ x ∈ es, entB x = true) : ∀ x ∈ putL es e, entB x = true := fun x hx => by
  unfold putL at hx
  cases hk : okPut es e
  · rw [hk] at hx; exact h x hx
  · rw [hk] at hx
    rcases putT_mem hx with h1 | h1
    · exact h x h1
    · subst h1; unfold okPut at hk; simp only [Bool.and_eq_true] at hk; exact hk.1

set_option maxRecDepth 100000 in
set_option maxHeartbeats 2000000 in
theorem specTreePut_any (es : List Ent) (e : Ent) (b o cap : Nat) (w : World) (hs : smallE es) (hc : es.length ≤ cap) (hp : e.path.size ≤ 1048576) (ht : e.text.size ≤ 1048576) (h : ∀ (i : Nat) e, es[i]? = some e → EntAt w b (o + i * 4) e) (hb : b < w.heap.size) :
    Calls Try.prog 30 #[.slice (some ⟨b, o, none⟩) es.length cap, .agg e.vals] w fun x w' => ∃ v, x = .returned (.tuple #[v, .bool (putOk es e)]) ∧ w'.ownsRow w.heap.size 27 4 v (putR es e).length (valsOf (putR es e)) ∧ Below w.heap.size w w' := by
  obtain ⟨w1, hw1⟩ : ∃ w1, w1 = w.alloc (.cells #[.string e.path, .int .i64 e.kind, .int .i64 e.mode, .string e.text] 27) := ⟨_, rfl⟩
  have hB1 : Below w.heap.size w w1 := by rw [hw1]; exact (Below.refl _ w).alloc (Nat.le_refl _) _
  have hbx1 : w1.heap[w.heap.size]? = some (.cells #[.string e.path, .int .i64 e.kind, .int .i64 e.mode, .string e.text] 27 (0, 0)) := by rw [hw1]; exact World.alloc_heap_new _ _
  have hE1 := entAt_below h (.inr hb) hB1
  have hb1 : b < w1.heap.size := Nat.lt_of_lt_of_le hb hB1.size
  have hat1 : EntsAt w1 (some ⟨b, o, none⟩) es := .inr ⟨b, o, rfl, hb1, hE1⟩
  have OK := hid (specTreeOk_any es (some ⟨b, o, none⟩) cap w1 hs hat1)
  have H1 := hid (And.intro hB1 (And.intro hbx1 hE1))
  have HW1 := hid hw1
  have HS := hid hs
  clear hB1 hbx1 hE1 hat1 hw1 h hs
  go_enter Try.func30, Try.ntmps30
  unfold Ent.vals
  go_wp2_with fail
  rw [← unhid HW1]
  refine (unhid OK).mono ?_
  rintro x w2 ⟨rfl, hB2⟩
  have hl1 : w.heap.size < w1.heap.size := (Array.getElem?_eq_some_iff.1 (unhid H1).2.1).1
  have H2 := hid (show Below w.heap.size w w2 ∧ w2.heap[w.heap.size]? = some (.cells #[.string e.path, .int .i64 e.kind, .int .i64 e.mode, .string e.text] 27 (0, 0)) ∧ ∀ (i : Nat) e, es[i]? = some e → EntAt w2 b (o + i * 4) e from ⟨(unhid H1).1.trans (hB2.mono (unhid H1).1.size), (hB2.block _ hl1).trans (unhid H1).2.1, entAt_below (unhid H1).2.2 (.inr hb1) hB2⟩)
  have hb2 : b < w2.heap.size := Nat.lt_of_lt_of_le hb1 hB2.size
  clear hB2 H1 OK HW1 hl1 hb1
  cases htb : treeB es
  · have E := hid (show putR es e = [] ∧ putOk es e = false by unfold putR putOk; rw [htb]; exact ⟨rfl, rfl⟩)
    have HF := hid (And.intro (owns_empty w2 w.heap.size (unhid H2).1.size 27) ((unhid H2).1.alloc (unhid H2).1.size (.cells #[] 27)))
    go_wp2_with fail
    go_ret2
    exact ⟨_, by rw [(unhid E).2]; rfl, by rw [(unhid E).1]; exact (unhid HF).1, (unhid HF).2⟩
  · have E := hid (show putR es e = putL es e ∧ putOk es e = okPut es e by unfold putR putOk; rw [htb]; exact ⟨rfl, rfl⟩)
    obtain ⟨⟨d0, d1, d2, d3⟩, -⟩ := four_cells (unhid H2).2.1
    go_wp2_with fail
    refine (l2Put_any es e b o cap w2 (tree_16 htb) hc hp ht (unhid H2).2.2 hb2).mono ?_
    rintro x w3 ⟨v, rfl, hown, hB3⟩
    obtain ⟨va, vc, rfl⟩ := ownsRow_slice hown
    have HF := hid (And.intro (ownsRow_base hown (unhid H2).1.size) ((unhid H2).1.trans (hB3.mono (unhid H2).1.size)))
    clear hown hB3
    go_wp2_with fail
    go_ret2
    exact ⟨_, by rw [(unhid E).2]; rfl, by rw [(unhid E).1]; exact (unhid HF).1, (unhid HF).2⟩

set_option maxRecDepth 100000 in
set_option maxHeartbeats 2000000 in
theorem treePut_any (es : List Ent) (e : Ent) (a : Option Addr) (cap : Nat) (w : World) (hs : smallE es) (hp : e.path.size ≤ 1048576) (ht : e.text.size ≤ 1048576) (h : EntsAt w a es) :
    Calls Try.prog 16 #[.slice a es.length cap, .agg e.vals] w fun x w' => ∃ v, x = .returned (.tuple #[v, .bool (putOk es e)]) ∧ w'.ownsRow w.heap.size 27 4 v (putR es e).length (valsOf (putR es e)) ∧ Below w.heap.size w w' := by
  obtain ⟨wA, hwA⟩ : ∃ wA, wA = w.alloc (.cells #[.string e.path, .int .i64 e.kind, .int .i64 e.mode, .string e.text] 27) := ⟨_, rfl⟩
  have hsz : wA.heap.size = w.heap.size + 1 := by rw [hwA]; simp
  have hBA : Below w.heap.size w wA := by rw [hwA]; exact (Below.refl _ w).alloc (Nat.le_refl _) _
  have hbox : wA.heap[w.heap.size]? = some (.cells #[.string e.path, .int .i64 e.kind, .int .i64 e.mode, .string e.text] 27 (0, 0)) := by rw [hwA]; exact World.alloc_heap_new _ _
  have H := hid (treeOf_any es a cap wA hs (h.below (by rw [hwA]; exact (Below.refl _ w).alloc (Nat.le_refl _) _)))
  have HA := hid (And.intro hsz (And.intro hBA hbox))
  have HWA := hid hwA
  clear hs h hwA hsz hBA hbox
  go_enter Try.func16, Try.ntmps16
  unfold Ent.vals
  go_wp2_with fail
  rw [← unhid HWA]
  refine (unhid H).mono ?_
  rintro x w1 ⟨vp, vn, rfl, ⟨t2, t3⟩, hB⟩
  obtain ⟨ap, cp, rfl⟩ := ownsRow_slice t2
  obtain ⟨an, cn, rfl⟩ := ownsRow_slice t3
  obtain ⟨hsz, hBA, hbox⟩ := unhid HA
  obtain ⟨wt, hwt⟩ : ∃ wt, wt = w1.alloc (.cells #[.slice ap (keptE es).length cp, .slice an (keptE es).length cn] 59) := ⟨_, rfl⟩
  have hB1 : Below w.heap.size w w1 := hBA.trans (hB.mono (by omega))
  have hBt : Below w1.heap.size w1 wt := by rw [hwt]; exact (Below.refl _ w1).alloc (Nat.le_refl _) _
  have hBT : Below w.heap.size w wt := hB1.trans (hBt.mono hB1.size)
  have hT : TreeAt wt wA.heap.size w1.heap.size (keptE es) := ⟨_, _, by rw [hwt]; exact World.alloc_heap_new _ _, ownsRow_kept t2 (fun g e => hBt.block g (t2.lt g e).2), ownsRow_kept t3 (fun g e => hBt.block g (t3.lt g e).2)⟩
  have hw1 : wA.heap.size ≤ w1.heap.size := hB.size
  have hbt : wt.heap[w.heap.size]? = some (.cells #[.string e.path, .int .i64 e.kind, .int .i64 e.mode, .string e.text] 27 (0, 0)) := (hBt.block _ (by omega)).trans ((hB.block _ (by omega)).trans hbox)
  have HT := hid (And.intro hBT (And.intro hbt hT))
  have HWT := hid hwt
  clear hT hBT hBt hB1 hB t2 t3 hbox hBA HA HWA H
  cases htb : treeB es
  · have E := hid (show putR es e = [] ∧ putOk es e = false by unfold putR putOk; rw [htb]; exact ⟨rfl, rfl⟩)
    have HK := hid (keptE_no htb)
    clear hbt hwt
    go_wp2_with fail
    rw [← unhid HWT]
    refine (entries_any wA.heap.size w1.heap.size (keptE es) wt (by rw [unhid HK]; simp) (by rw [unhid HK]; simp) (unhid HT).2.2).mono ?_
    rintro x w2 ⟨v, rfl, hown, hB2⟩
    obtain ⟨va, vc, rfl⟩ := ownsRow_slice hown
    have HF := hid (And.intro (ownsRow_base hown (unhid HT).1.size) ((unhid HT).1.trans (hB2.mono (unhid HT).1.size)))
    clear hown hB2
    go_wp2_with fail
    go_ret2
    exact ⟨_, by rw [(unhid E).2]; rfl, by rw [(unhid E).1, ← unhid HK]; exact (unhid HF).1, (unhid HF).2⟩
  · have E := hid (show putR es e = putL es e ∧ putOk es e = okPut es e by unfold putR putOk; rw [htb]; exact ⟨rfl, rfl⟩)
    rw [keptE_yes htb] at HT HWT ⊢
    have hl16 := tree_16 htb
    have PUT := hid (putEntry_any wA.heap.size w1.heap.size es e wt (by unfold maxLen; omega) (by unfold maxLen; omega) hl16 (tree_asc htb) (tree_all htb) hw1 (unhid HT).2.2)
    obtain ⟨⟨d0, d1, d2, d3⟩, -⟩ := four_cells (unhid HT).2.1
    rw [unhid HWT] at d0 d1 d2 d3
    clear hbt hwt
    go_wp2_with fail
    rw [← unhid HWT]
    refine (unhid PUT).mono ?_
    rintro x w2 ⟨rfl, hT2, hK2⟩
    have hB2 : Below w.heap.size w w2 := (unhid HT).1.trans (hK2.1.mono (by omega))
    have ENT := hid (entries_any wA.heap.size w1.heap.size (putL es e) w2 (by have := putL_len es e; omega) (putL_all (tree_all htb)) hT2)
    have HB2 := hid hB2
    clear hT2 hK2 hB2 PUT HT d0 d1 d2 d3
    go_wp2_with fail
    refine (unhid ENT).mono ?_
    rintro x w3 ⟨v, rfl, hown, hB3⟩
    obtain ⟨va, vc, rfl⟩ := ownsRow_slice hown
    have HF := hid (And.intro (ownsRow_base hown (unhid HB2).size) ((unhid HB2).trans (hB3.mono (unhid HB2).size)))
    clear hown hB3
    go_wp2_with fail
    go_ret2
    exact ⟨_, by rw [(unhid E).2]; rfl, by rw [(unhid E).1]; exact (unhid HF).1, (unhid HF).2⟩
end Go.Proofs.Ytlnehebihfeegaa
