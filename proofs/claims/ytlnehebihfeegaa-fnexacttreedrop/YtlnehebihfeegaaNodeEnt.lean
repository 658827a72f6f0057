/- The entry of what stands at a path. -/
import Derived.Test.YtlnehebihfeegaaTreeMath
namespace Go.Proofs.Ytlnehebihfeegaa
open Go.RowKit Go.Shelf

set_option maxRecDepth 100000 in
set_option maxHeartbeats 4000000 in
theorem entryOf_dir (p : ByteArray) (m : Int) (w : World) :
    Calls Try.prog 44 #[.string p, .iface 105 (.agg #[.int .i64 m])] w fun x w' => x = .returned (.agg #[.string p, .int .i64 1, .int .i64 m, .string ⟨#[]⟩]) ∧ Below w.heap.size w w' := by
  have hta4 : ∀ w, (Instr.typeAssert (.iface 105 (.agg #[.int .i64 m])) 63 105 true).run Try.prog w = .ok (.tuple #[.agg #[.int .i64 m], .bool true]) w := fun _ => by kernel_rfl
  have hb : ∀ o1 o2 o3, Below w.heap.size w ((((w.alloc o1).alloc o2).alloc o3).drew) := fun o1 o2 o3 => ((((Below.refl _ w).alloc (Nat.le_refl _) _).alloc (by simp) _).alloc (by simp; omega) _).drew
  have HB := hid hb
  clear hb
  go_enter Try.func44, Try.ntmps44
  go_wp2_with fail
  go_region
  all_goals
    go_wp2_with fail
    refine bodyPost_ret (v := .agg #[.string p, .int .i64 1, .int .i64 m, .string ⟨#[]⟩]) (by simp [results, Try.results44, go_sem]) rfl ⟨rfl, ?_⟩
    exact unhid HB _ _ _

set_option maxRecDepth 100000 in
set_option maxHeartbeats 4000000 in
theorem entryOf_file (p : ByteArray) (m : Int) (t : ByteArray) (w : World) :
    Calls Try.prog 44 #[.string p, .iface 107 (.agg #[.int .i64 m, .string t])] w fun x w' => x = .returned (.agg #[.string p, .int .i64 2, .int .i64 m, .string t]) ∧ Below w.heap.size w w' := by
  have hta4 : ∀ w, (Instr.typeAssert (.iface 107 (.agg #[.int .i64 m, .string t])) 63 105 true).run Try.prog w = .ok (.tuple #[.agg #[.int .i64 0], .bool false]) w := fun _ => by kernel_rfl
  have hta5 : ∀ w, (Instr.typeAssert (.iface 107 (.agg #[.int .i64 m, .string t])) 63 107 true).run Try.prog w = .ok (.tuple #[.agg #[.int .i64 m, .string t], .bool true]) w := fun _ => by kernel_rfl
  have hb : ∀ o1 o2 o3, Below w.heap.size w ((((w.alloc o1).alloc o2).alloc o3).drew) := fun o1 o2 o3 => ((((Below.refl _ w).alloc (Nat.le_refl _) _).alloc (by simp) _).alloc (by simp; omega) _).drew
  have HB := hid hb
  clear hb
  go_enter Try.func44, Try.ntmps44
  go_wp2_with fail
  go_region
  all_goals
    go_wp2_with fail
    refine bodyPost_ret (v := .agg #[.string p, .int .i64 2, .int .i64 m, .string t]) (by simp [results, Try.results44, go_sem]) rfl ⟨rfl, ?_⟩
    exact unhid HB _ _ _

set_option maxRecDepth 100000 in
set_option maxHeartbeats 4000000 in
theorem entryOf_link (p : ByteArray) (t : ByteArray) (w : World) :
    Calls Try.prog 44 #[.string p, .iface 102 (.agg #[.string t])] w fun x w' => x = .returned (.agg #[.string p, .int .i64 3, .int .i64 0, .string t]) ∧ Below w.heap.size w w' := by
  have hta4 : ∀ w, (Instr.typeAssert (.iface 102 (.agg #[.string t])) 63 105 true).run Try.prog w = .ok (.tuple #[.agg #[.int .i64 0], .bool false]) w := fun _ => by kernel_rfl
  have hta5 : ∀ w, (Instr.typeAssert (.iface 102 (.agg #[.string t])) 63 107 true).run Try.prog w = .ok (.tuple #[.agg #[.int .i64 0, .string ⟨#[]⟩], .bool false]) w := fun _ => by kernel_rfl
  have hta6 : ∀ w, (Instr.typeAssert (.iface 102 (.agg #[.string t])) 63 102 true).run Try.prog w = .ok (.tuple #[.agg #[.string t], .bool true]) w := fun _ => by kernel_rfl
  have hb : ∀ o1 o2 o3, Below w.heap.size w ((((w.alloc o1).alloc o2).alloc o3).drew) := fun o1 o2 o3 => ((((Below.refl _ w).alloc (Nat.le_refl _) _).alloc (by simp) _).alloc (by simp; omega) _).drew
  have HB := hid hb
  clear hb
  go_enter Try.func44, Try.ntmps44
  go_wp2_with fail
  go_region
  all_goals
    go_wp2_with fail
    refine bodyPost_ret (v := .agg #[.string p, .int .i64 3, .int .i64 0, .string t]) (by simp [results, Try.results44, go_sem]) rfl ⟨rfl, ?_⟩
    exact unhid HB _ _ _

theorem entryOf_any (e : Ent) (he : entB e = true) (w : World) : Calls Try.prog 44 #[.string e.path, nodeV e] w fun x w' => x = .returned (.agg e.vals) ∧ Below w.heap.size w w' := by
  obtain ⟨p, k, m, t⟩ := e
  unfold entB at he
  dsimp only at he ⊢
  rw [Bool.and_eq_true] at he
  have he2 := he.2
  unfold nodeV Ent.vals
  dsimp only
  by_cases k1 : k = 1
  · rw [if_pos k1] at he2 ⊢
    rw [Bool.and_eq_true] at he2
    have ht : t = ⟨#[]⟩ := ba_ext (List.isEmpty_iff.1 he2.2)
    subst k1; subst ht
    exact entryOf_dir p m w
  · rw [if_neg k1] at he2 ⊢
    by_cases k2 : k = 2
    · rw [if_pos k2]; subst k2; exact entryOf_file p m t w
    · rw [if_neg k2] at he2 ⊢
      simp only [Bool.and_eq_true, beq_iff_eq] at he2
      rw [he2.1, he2.2.1]; exact entryOf_link p t w
end Go.Proofs.Ytlnehebihfeegaa
