/- Texts of this proof, one behind the other; each says at its head what it shows. -/
import Derived.Test.YtaefjibnnbdaaaaJoin6
import Derived.Test.YtaefjibnnbdaaaaJoin12
/- What the draw of two trees gives. -/
namespace Go.Proofs.Ytaefjibnnbdaaaa
open Go.RowKit

/-- Two drawn rows. -/
structure Drawn2 (w W : World) (v : Value) (es : List Ent) (v2 : Value) (fs : List Ent) : Prop where
  a : Drawn w W v es
  b : Drawn w W v2 fs
theorem of_rows : (#[Value.string ⟨#[100, 111, 99, 47, 42, 42]⟩, .string ⟨#[98, 105, 110, 47, 42, 42]⟩, .string ⟨#[98, 42]⟩] : Array Value).toList.all shortV = true := by decide

set_option maxRecDepth 100000 in
set_option maxHeartbeats 4000000 in
theorem DrawTreeJoin_any (w : World) (a : Option Addr) (len cap : Nat) (h : Code w w.heap.size a len) (hl : len ≤ 1048576) (hc : len ≤ cap) :
    Calls Try.prog 32 #[.slice a len cap] w fun x w' => ∃ v v2, x = .returned (.tuple #[v, v2]) ∧ ∃ es fs, Drawn2 w w' v es v2 fs := by
  have H := hid h
  clear h
  go_enter Try.func32, Try.ntmps32
  go_wp2_with fail
  refine (l1Open_any w a len cap (unhid H) hl hc).mono ?_
  rintro e w1 ⟨rfl, ⟨l', c', hR⟩, hB⟩
  have HR := hid hR
  have HB := hid hB
  clear hR hB H
  go_wp2_with fail
  refine (l11AnyTree_any w1 _ a l' c' 0 (unhid HR) (by omega)).mono ?_
  rintro e w2 ⟨v, rfl, es, hT⟩
  have HT := hid hT
  have hlt := (unhid HR).lt
  clear hT HR
  go_wp2_with fail
  obtain ⟨q, hq, hR⟩ := (unhid HT).rd
  refine (pick_any w2 _ a l' c' q hR (by omega) 3 (by omega) (by omega)).mono ?_
  rintro e w3 ⟨r, hr, rfl, hR3, hG3⟩
  have HT3 := hid ((unhid HT).read hlt hG3 (q := q + 1) ⟨_, Nat.le_refl _, hR3⟩)
  clear hR hR3 hG3 HT
  have hlt3 : w.heap.size < w3.heap.size := Nat.lt_of_lt_of_le hlt (unhid HT3).grown.size
  by_cases h0 : r = 0
  · subst h0
    go_wp2_with fail
    obtain ⟨q3, hq3, hR⟩ := (unhid HT3).rd
    refine (l11Tree_any w3 _ a l' c' q3 hR (by omega)).mono ?_
    rintro e w4 ⟨v2, rfl, fs, hS⟩
    have HT4 := hid ((unhid HT3).read hlt hS.grown (q := q3 + 50) hS.rd)
    have HS4 := hid hS
    clear hR hS HT3
    go_wp2_with fail
    obtain ⟨q4, hq4, hR⟩ := (unhid HS4).rd
    have hlt4 : w.heap.size < w4.heap.size := Nat.lt_of_lt_of_le hlt3 (unhid HS4).grown.size
    refine (of_any short _ _ a l' c' q4 (hR.alloc _) (by omega) w4.heap.size 3 3 (by omega) (by omega) (by omega) ?h5).mono ?_
    case h5 => exact fun k hk => row_short2 _ _ _ _ rfl of_rows k hk
    rintro e w5 ⟨gl, hgl, rfl, hR5, hG0⟩
    have hG5 := grown_trans (World.grownBy_alloc w4 _ (some w.heap.size)) hG0
    have HT5 := hid ((unhid HT4).read hlt hG5 (q := q4 + 1) ⟨_, Nat.le_refl _, hR5⟩)
    have HS5 := hid ((unhid HS4).read (q := q4 + 1) hlt3 hG5 ⟨_, Nat.le_refl _, hR5⟩)
    clear hR hR5 hG0 hG5 HT4 HS4
    obtain ⟨g2, c2, rfl, ho⟩ := (unhid HS5).v
    obtain ⟨e1, e2, e3, e4⟩ := TreeV.ents ho
    have hsm : smallE fs := ⟨by have := (unhid HS5).few; omega, fun e he => ⟨by have := nice_short ((unhid HS5).nice e he).1; omega, by have : e.text.size ≤ 100 := ((unhid HS5).nice e he).2; omega⟩⟩
    have hgs : gl.size ≤ 100 := hgl
    have PT := hid (specTreePart_full fs gl g2 0 c2 w5 hsm (by omega) e1 e2)
    clear ho e1 e2 e3 e4 hsm
    go_wp2_with fail
    refine (unhid PT).mono ?_
    rintro e w6 ⟨v6, rfl, ho6, hB6, hs6⟩
    have hlt5 : w.heap.size ≤ w5.heap.size := Nat.le_trans (Nat.le_of_lt hlt) (unhid HT5).grown.size
    have hsub : ∀ x ∈ partR gl fs, x ∈ fs := fun x hx => by
      have := (List.mem_filter.1 hx).1
      cases ht : treeB fs
      · rw [keptE_no ht] at this; cases this
      · rw [keptE_yes ht] at this; exact this
    have HF := hid (show Drawn2 w w6 v es v6 (partR gl fs) from ⟨(drawn_of (unhid HT5) (unhid HB) (Nat.le_refl _)).later hB6, ⟨(treeV_of (ownsRow_base ho6 hlt5) hs6), fun e he => (unhid HS5).nice e (hsub e he), by have h1 := partL_len gl (keptE fs); have h2 := (kept_asc fs).2; unfold partR; omega, ((drawn_of (w := w) (unhid HT5) (unhid HB) (Nat.le_refl _)).later hB6).below⟩⟩)
    clear ho6 hB6 hs6 HT5 HS5 PT
    go_wp2_with fail
    go_ret2
    exact ⟨_, _, rfl, _, _, unhid HF⟩
  · have h0' : ((r : Int) == 0) = false := by rw [beq_eq_false_iff_ne]; omega
    go_wp2_with fail
    obtain ⟨q3, hq3, hR⟩ := (unhid HT3).rd
    refine (l11AnyTree_any w3 _ a l' c' q3 hR (by omega)).mono ?_
    rintro e w4 ⟨v2, rfl, fs, hS⟩
    have hD1 := drawn_of (w := w) ((unhid HT3).read hlt hS.grown (q := q3 + 70) hS.rd) (unhid HB) (Nat.le_refl _)
    have HF := hid (show Drawn2 w w4 v es v2 fs from ⟨hD1, ⟨hS.v.base (by omega), hS.nice, hS.few, hD1.below⟩⟩)
    clear hR hS hD1 HT3
    go_wp2_with fail
    go_ret2
    exact ⟨_, _, rfl, _, _, unhid HF⟩
end Go.Proofs.Ytaefjibnnbdaaaa
