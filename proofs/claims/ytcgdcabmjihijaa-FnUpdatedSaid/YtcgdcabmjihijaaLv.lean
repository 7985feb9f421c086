/-
  Contracts of the leaves: bounds, secrets, locks; nothing is written.
-/
import Derived.Test.YtcgdcabmjihijaaDgP
namespace Go.Proofs.Ytcgdcabmjihijaa
open Go.RowKit
set_option linter.unusedVariables false
set_option linter.unusedSimpArgs false

set_option maxHeartbeats 400000 in
theorem in_any (x lo hi : Int) (v : Bool) (w : World) (hv : (decide (lo ≤ x) && decide (x ≤ hi)) = v) :
    Calls Try.prog 18 #[.int .i64 x, .int .i64 lo, .int .i64 hi] w fun e w' => e = .returned (.bool v) ∧ w' = w := by
  subst hv
  by_cases h1 : lo ≤ x
  · by_cases h2 : x ≤ hi
    · go_enter Try.func18, Try.ntmps18
      go_wp2
      go_ret
      exact ⟨ret_bool (by simp [h1, h2]), rfl⟩
    · go_enter Try.func18, Try.ntmps18
      go_wp2
      go_ret
      exact ⟨ret_bool (by simp [h2]), rfl⟩
  · have hd : decide (lo ≤ x) = false := by simpa using h1
    go_enter Try.func18, Try.ntmps18
    go_wp2
    go_ret
    exact ⟨ret_bool (by simp), rfl⟩
theorem fl_b {lo x hi : Int} (v : Bool) (h : v = true ↔ lo ≤ x ∧ x ≤ hi) : (decide (lo ≤ x) && decide (x ≤ hi)) = v := by
  rw [Bool.eq_iff_iff]; simpa using h.symm
abbrev lkv (f t s : Int) : Value := .agg #[.int .i64 f, .int .i64 t, .int .i64 s]
def LkOk (f t s : Int) : Prop := (0 ≤ f ∧ f ≤ t ∧ t ≤ 1000000000) ∧ (1 ≤ s ∧ s ≤ 1000000006)
end Go.Proofs.Ytcgdcabmjihijaa
