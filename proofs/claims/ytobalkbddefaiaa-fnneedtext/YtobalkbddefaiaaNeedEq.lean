/- Needs are compared. -/
import Derived.Test.YtobalkbddefaiaaSpecNeedGet
namespace Go.Proofs.Ytobalkbddefaiaa
open Go.RowKit Go.Shelf

theorem in_strN (d : Nat) (a b : ByteArray) (w : World) : (Op.equalIn (d + 1) 9 (.string a) (.string b)).run Try.prog w = .ok (a == b) w := by
  simp [Op.equalIn, run_underlying Try.underlying9]
theorem in_intN (d : Nat) (k m : Int) (w : World) : (Op.equalIn (d + 1) 3 (.int .i64 k) (.int .i64 m)).run Try.prog w = .ok (k == m) w := by
  simp [Op.equalIn, run_underlying Try.underlying3]
theorem in_need (d : Nat) (n v : ByteArray) (k : Int) (w : World) : (Op.equalIn (d + 1 + 1) 30 (.agg #[.string n, .int .i64 k, .string v]) (.agg #[.string n, .int .i64 k, .string v])).run Try.prog w = .ok true w := by
  have h0 : (program).run Try.prog w = .ok Try.prog w := by kernel_rfl
  have h1 : Try.prog.stoodInHeld 30 = false := by kernel_rfl
  have e0 : (part 9 #[.string n, .int .i64 k, .string v] 0).run Try.prog w = .ok (.string n) w := by kernel_rfl
  have e1 : (part 3 #[.string n, .int .i64 k, .string v] 1).run Try.prog w = .ok (.int .i64 k) w := by kernel_rfl
  have e2 : (part 9 #[.string n, .int .i64 k, .string v] 2).run Try.prog w = .ok (.string v) w := by kernel_rfl
  have b1 : (n == n) = true := by rw [beq_toListBytes]; simp
  have b2 : (v == v) = true := by rw [beq_toListBytes]; simp
  unfold Op.equalIn
  simp only [Sem.run_bind, run_underlying Try.underlying30, Result.andThen_ok, h0, h1, Bool.false_eq_true, if_false, List.forIn_toArray, List.forIn_cons, List.forIn_nil]
  rw [if_pos (by decide)]
  simp only [Sem.run_bind, e0, in_strN, Result.andThen_ok, b1, Bool.not_true, Bool.false_eq_true, if_false, Sem.run_pure]
  rw [if_pos (by decide)]
  simp only [Sem.run_bind, e1, in_intN, Result.andThen_ok, beq_self_eq_true, Bool.not_true, Bool.false_eq_true, if_false, Sem.run_pure]
  rw [if_pos (by decide)]
  simp [Sem.run_bind, e2, in_strN, Sem.run_pure, b2]
theorem ne_need (n v : ByteArray) (k : Int) (w : World) : (binOp .neq 30 (.agg #[.string n, .int .i64 k, .string v]) (.agg #[.string n, .int .i64 k, .string v])).run Try.prog w = .ok (.bool false) w := by
  simp only [binOp]
  simp [Op.equal, Op.maxDepth, in_need 9998]
theorem eq_need (n v : ByteArray) (k : Int) (w : World) : (binOp .eql 30 (.agg #[.string n, .int .i64 k, .string v]) (.agg #[.string n, .int .i64 k, .string v])).run Try.prog w = .ok (.bool true) w := by
  simp only [binOp]
  simp [Op.equal, Op.maxDepth, in_need 9998]
end Go.Proofs.Ytobalkbddefaiaa
