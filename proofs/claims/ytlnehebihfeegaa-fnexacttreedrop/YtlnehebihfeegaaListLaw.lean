/- What a law over an answer that is a row of entries keeps from call to call. -/
import Derived.Test.YtlnehebihfeegaaSpecCopy
namespace Go.Proofs.Ytlnehebihfeegaa
open Go.RowKit Go.Shelf

/-- The model's answer, the argument's copy and the program's answer lie one behind the other; nothing that was there ahead has changed. -/
structure St (w W : World) (aS aX aG : Option Addr) (M1 M2 M3 : Nat) (rs xs gs : List Ent) : Prop where
  b : Below w.heap.size w W
  s : RowIn W aS w.heap.size M1 rs
  x : RowIn W aX M1 M2 xs
  g : RowIn W aG M2 M3 gs
  m1 : w.heap.size ≤ M1
  m2 : M1 ≤ M2
  m3 : M2 ≤ M3
  m4 : M3 ≤ W.heap.size
theorem St.below {w W W' : World} {aS aX aG : Option Addr} {M1 M2 M3 : Nat} {rs xs gs : List Ent} (h : St w W aS aX aG M1 M2 M3 rs xs gs) (hb : Below W.heap.size W W') : St w W' aS aX aG M1 M2 M3 rs xs gs :=
  ⟨h.b.trans (hb.mono h.b.size), h.s.below hb, h.x.below hb, h.g.below hb, h.m1, h.m2, h.m3, Nat.le_trans h.m4 hb.size⟩
theorem St.markX {w W W' : World} {aS aX aG : Option Addr} {M1 M2 M3 : Nat} {rs xs xs' gs : List Ent} (h : St w W aS aX aG M1 M2 M3 rs xs gs) (hs : Spares M1 M2 W W') (hx : RowIn W' aX M1 M2 xs') : St w W' aS aX aG M1 M2 M3 rs xs' gs :=
  ⟨hs.below h.b h.m1, hs.row h.s (.inl (Nat.le_refl _)), hx, hs.row h.g (.inr (Nat.le_refl _)), h.m1, h.m2, h.m3, Nat.le_trans h.m4 hs.size⟩
theorem St.markG {w W W' : World} {aS aX aG : Option Addr} {M1 M2 M3 : Nat} {rs xs gs gs' : List Ent} (h : St w W aS aX aG M1 M2 M3 rs xs gs) (hs : Spares M2 M3 W W') (hg : RowIn W' aG M2 M3 gs') : St w W' aS aX aG M1 M2 M3 rs xs gs' :=
  ⟨hs.below h.b (Nat.le_trans h.m1 h.m2), hs.row h.s (.inl h.m2), hs.row h.x (.inl (Nat.le_refl _)), hg, h.m1, h.m2, h.m3, Nat.le_trans h.m4 hs.size⟩
theorem St.init (w : World) : St w w none none none w.heap.size w.heap.size w.heap.size [] [] [] :=
  ⟨Below.refl _ _, .inl rfl, .inl rfl, .inl rfl, Nat.le_refl _, Nat.le_refl _, Nat.le_refl _, Nat.le_refl _⟩
theorem St.init_b {w W : World} (h : Below w.heap.size w W) : St w W none none none w.heap.size w.heap.size w.heap.size [] [] [] :=
  ⟨h, .inl rfl, .inl rfl, .inl rfl, Nat.le_refl _, Nat.le_refl _, Nat.le_refl _, h.size⟩
/-- The model has answered. -/
theorem St.setS {w W W' : World} {aS : Option Addr} {rs : List Ent} (h : Below w.heap.size w W) (hb : Below W.heap.size W W') (hs : RowIn W' aS W.heap.size W'.heap.size rs) : St w W' aS none none W'.heap.size W'.heap.size W'.heap.size rs [] [] :=
  ⟨h.trans (hb.mono h.size), hs.wide h.size (Nat.le_refl _), .inl rfl, .inl rfl, Nat.le_trans h.size hb.size, Nat.le_refl _, Nat.le_refl _, Nat.le_refl _⟩
/-- The argument was copied. -/
theorem St.setX {w W W' : World} {aS aX : Option Addr} {M : Nat} {rs xs : List Ent} (h : St w W aS none none M M M rs [] []) (hb : Below W.heap.size W W') (hx : RowIn W' aX W.heap.size W'.heap.size xs) : St w W' aS aX none M W'.heap.size W'.heap.size rs xs [] :=
  ⟨h.b.trans (hb.mono h.b.size), h.s.below hb, hx.wide h.m4 (Nat.le_refl _), .inl rfl, h.m1, Nat.le_trans h.m4 hb.size, Nat.le_refl _, Nat.le_refl _⟩
/-- The program has answered. -/
theorem St.setG {w W W' : World} {aS aX aG : Option Addr} {M1 M2 M3 : Nat} {rs xs gs : List Ent} (h : St w W aS aX none M1 M2 M3 rs xs []) (hb : Below W.heap.size W W') (hg : RowIn W' aG W.heap.size W'.heap.size gs) : St w W' aS aX aG M1 M2 W'.heap.size rs xs gs :=
  ⟨h.b.trans (hb.mono h.b.size), h.s.below hb, h.x.below hb, hg.wide (Nat.le_trans h.m3 h.m4) (Nat.le_refl _), h.m1, h.m2, Nat.le_trans h.m3 (Nat.le_trans h.m4 hb.size), Nat.le_refl _⟩
theorem EntRow.rowIn {W : World} {g N M : Nat} {es : List Ent} (x : EntRow W g 27 es.length (entFn es)) (hN : N ≤ g) (hM : g < M) : RowIn W (some ⟨g, 0, none⟩) N M es := by
  obtain ⟨cur, h1, h2, h3⟩ := x
  exact .inr ⟨g, rfl, hN, hM, cur, h1, by omega, h3⟩
theorem EntRow.ents {W : World} {g : Nat} {es : List Ent} (x : EntRow W g 27 es.length (entFn es)) : ∀ (i : Nat) e, es[i]? = some e → EntAt W g (0 + i * 4) e := fun i e hi => by
  have := (x.cells i (List.getElem?_eq_some_iff.1 hi).1).1
  rw [entFn_get hi] at this
  rwa [Nat.zero_add]
theorem RowIn.len_marks {W : World} {a : Option Addr} {N M q n : Nat} (h : RowIn W a N M (marks q n)) : EntsAt W a (marks q n) := h.at
end Go.Proofs.Ytlnehebihfeegaa
