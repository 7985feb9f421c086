/-
  Three numbers held against three: what it answers; no conditions.
-/
import Derived.Test.YtdmcbdogpeidjaaTri
import Derived.ChangeKeysEq
namespace Go.Proofs.Ytdmcbdogpeidjaa
open Go.RowKit
set_option linter.unusedVariables false
set_option linter.unusedSimpArgs false
theorem info2 : (Try.prog.info? 2).isSome = true := by kernel_rfl
theorem cell2 : Try.prog.cellsOf 2 = 1 := by kernel_rfl
theorem part3 (x y z : Int) (w : World) : (part 2 #[.int .i64 x, .int .i64 y, .int .i64 z] 0).run Try.prog w = .ok (.int .i64 x) w ∧ (part 2 #[.int .i64 x, .int .i64 y, .int .i64 z] 1).run Try.prog w = .ok (.int .i64 y) w ∧ (part 2 #[.int .i64 x, .int .i64 y, .int .i64 z] 2).run Try.prog w = .ok (.int .i64 z) w := ⟨by kernel_rfl, by kernel_rfl, by kernel_rfl⟩
theorem eqi2 (d : Nat) (x y : Int) (w : World) : (Op.equalIn (d + 1) 2 (.int .i64 x) (.int .i64 y)).run Try.prog w = .ok (x == y) w := by
  simp [Op.equalIn, run_underlying Try.underlying2, Result.andThen]
theorem neq3 (a0 a1 a2 b0 b1 b2 : Int) (w : World) : (binOp .neq 62 (.agg #[.int .i64 a0, .int .i64 a1, .int .i64 a2]) (.agg #[.int .i64 b0, .int .i64 b1, .int .i64 b2])).run Try.prog w = .ok (.bool (!((a0 == b0) && (a1 == b1) && (a2 == b2)))) w := by
  obtain ⟨i, hi⟩ := Option.isSome_iff_exists.1 info2
  obtain ⟨p0, p1, p2⟩ := part3 a0 a1 a2 w
  obtain ⟨q0, q1, q2⟩ := part3 b0 b1 b2 w
  have h1 : (Op.equal 62 (.agg #[.int .i64 a0, .int .i64 a1, .int .i64 a2]) (.agg #[.int .i64 b0, .int .i64 b1, .int .i64 b2])).run Try.prog w = .ok ((a0 == b0) && (a1 == b1) && (a2 == b2)) w := by
    have e : Op.maxDepth = 9998 + 1 + 1 := by decide
    unfold Op.equal
    rw [e]
    generalize 9998 = D
    rw [run_equalIn_array w (D + 1) _ _ Try.underlying62 hi, cell2]
    simp only [show List.range 3 = [0, 1, 2] from rfl, Op.eqItems, Sem.run_bind, Nat.zero_mul, Nat.one_mul, p0, p1, p2, q0, q1, q2, Result.andThen_ok, eqi2, Nat.mul_one]
    cases h0 : (a0 == b0) <;> cases h1 : (a1 == b1) <;> cases h2 : (a2 == b2) <;> simp [Result.andThen_ok, p0, p1, p2, q0, q1, q2, eqi2, h0, h1, h2]
  simp [binOp, h1]
end Go.Proofs.Ytdmcbdogpeidjaa
