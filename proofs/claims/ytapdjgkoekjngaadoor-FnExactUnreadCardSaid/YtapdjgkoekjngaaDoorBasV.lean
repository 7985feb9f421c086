/-
  Worries: two numbers in memory; their comparison; nothing that was there is written.
-/
import Derived.Test.YtapdjgkoekjngaaDoorCopyL
import Derived.Test.YtapdjgkoekjngaaDoorUnP
namespace Go.Proofs.YtapdjgkoekjngaaDoor
open Go.RowKit
set_option linter.unusedVariables false
set_option linter.unusedSimpArgs false
namespace V
abbrev Kl := Int × Int
set_option maxHeartbeats 800000 in
theorem eqv_any (x y : Int) (w : World) : Calls Tryd.prog 39 #[.agg #[.int .i64 x, .int .i64 y], .agg #[.int .i64 x, .int .i64 y]] w fun e w' => e = .returned (.bool true) ∧ Below w.heap.size w w' := by
  have e1 : (x != x) = false := by simp
  have e2 : (y != y) = false := by simp
  go_enter Tryd.func39, Tryd.ntmps39
  go_wp2
  go_ret
  exact ⟨rfl, (((Below.refl _ _).alloc (Nat.le_refl _) _).alloc (by simp) _)⟩
end V
end Go.Proofs.YtapdjgkoekjngaaDoor
