/-
  Contracts of the leaves: bounds, secrets, locks; nothing is written.
-/
import Derived.Test.YtpdnceeniokemaaDgP
namespace Go.Proofs.Ytpdnceeniokemaa
open Go.RowKit
set_option linter.unusedVariables false
set_option linter.unusedSimpArgs false

set_option maxHeartbeats 400000 in
theorem in_any (x lo hi : Int) (v : Bool) (w : World) (hv : (decide (lo ≤ x) && decide (x ≤ hi)) = v) :
    Calls Try.prog 58 #[.int .i64 x, .int .i64 lo, .int .i64 hi] w fun e w' => e = .returned (.bool v) ∧ w' = w := by
  subst hv
  by_cases h1 : lo ≤ x
  · by_cases h2 : x ≤ hi
    · go_enter Try.func58, Try.ntmps58
      go_wp2
      go_ret
      exact ⟨ret_bool (by simp [h1, h2]), rfl⟩
    · go_enter Try.func58, Try.ntmps58
      go_wp2
      go_ret
      exact ⟨ret_bool (by simp [h2]), rfl⟩
  · have hd : decide (lo ≤ x) = false := by simpa using h1
    go_enter Try.func58, Try.ntmps58
    go_wp2
    go_ret
    exact ⟨ret_bool (by simp), rfl⟩
set_option maxHeartbeats 400000 in
theorem isec_any (x : Int) (v : Bool) (w : World) (hv : (decide (1 ≤ x) && decide (x ≤ 1000000006)) = v) :
    Calls Try.prog 56 #[.int .i64 x] w fun e w' => e = .returned (.bool v) ∧ w' = w := by
  subst hv
  by_cases h1 : 1 ≤ x
  · by_cases h2 : x ≤ 1000000006
    · have h3 : x < 1000000007 := by omega
      go_enter Try.func56, Try.ntmps56
      go_wp2
      go_ret
      exact ⟨ret_bool (by simp [h1, h2, h3]), rfl⟩
    · have hd : decide (x < 1000000007) = false := by simp; omega
      go_enter Try.func56, Try.ntmps56
      go_wp2
      go_ret
      exact ⟨ret_bool (by simp [h2]), rfl⟩
  · have hd : decide (1 ≤ x) = false := by simpa using h1
    go_enter Try.func56, Try.ntmps56
    go_wp2
    go_ret
    exact ⟨ret_bool (by simp), rfl⟩
theorem fl_b {lo x hi : Int} (v : Bool) (h : v = true ↔ lo ≤ x ∧ x ≤ hi) : (decide (lo ≤ x) && decide (x ≤ hi)) = v := by
  rw [Bool.eq_iff_iff]; simpa using h.symm
abbrev lkv (f t s : Int) : Value := .agg #[.int .i64 f, .int .i64 t, .int .i64 s]
set_option maxHeartbeats 800000 in
theorem tolk_any (f t s : Int) (w : World) : Calls Try.prog 48 #[lkv f t s] w fun e w' => e = .returned (lkv f t s) ∧ Below w.heap.size w w' := by
  go_enter Try.func48, Try.ntmps48
  go_wp2
  refine bodyPost_ret (v := lkv f t s) (by simp [results, Try.results48, go_sem]) rfl ⟨rfl, ?_⟩
  exact ((((Below.refl _ _).alloc (Nat.le_refl _) _).alloc (by simp) _).alloc (by simp; omega) _)
def LkOk (f t s : Int) : Prop := (0 ≤ f ∧ f ≤ t ∧ t ≤ 1000000000) ∧ (1 ≤ s ∧ s ≤ 1000000006)
set_option maxHeartbeats 800000 in
theorem ilk_any (f t s : Int) (v : Bool) (w : World) (hv : v = true ↔ LkOk f t s) : Calls Try.prog 57 #[lkv f t s] w fun e w' => e = .returned (.bool v) ∧ Below w.heap.size w w' := by
  have hv' := hide hv
  clear hv
  by_cases h1 : 0 ≤ f
  rotate_left
  · have g1 : decide (0 ≤ f) = false := by simpa using h1
    go_enter Try.func57, Try.ntmps57
    go_wp2
    go_ret
    exact ⟨ret_bool (by rw [Bool.eq_iff_iff, unhide hv']; simp [LkOk]; omega), (Below.refl _ _).alloc (Nat.le_refl _) _⟩
  have g1 : decide (0 ≤ f) = true := by simpa using h1
  by_cases h2 : f ≤ t
  rotate_left
  · have g2 : decide (f ≤ t) = false := by simpa using h2
    go_enter Try.func57, Try.ntmps57
    go_wp2
    go_ret
    exact ⟨ret_bool (by rw [Bool.eq_iff_iff, unhide hv']; simp [LkOk]; omega), (Below.refl _ _).alloc (Nat.le_refl _) _⟩
  have g2 : decide (f ≤ t) = true := by simpa using h2
  by_cases h3 : t ≤ 1000000000
  rotate_left
  · have g3 : decide (t ≤ 1000000000) = false := by simpa using h3
    go_enter Try.func57, Try.ntmps57
    go_wp2
    go_ret
    exact ⟨ret_bool (by rw [Bool.eq_iff_iff, unhide hv']; simp [LkOk]; omega), (Below.refl _ _).alloc (Nat.le_refl _) _⟩
  have g3 : decide (t ≤ 1000000000) = true := by simpa using h3
  have hs : Hid ((decide (1 ≤ s) && decide (s ≤ 1000000006)) = v) := hide (fl_b v (by rw [unhide hv']; simp only [LkOk]; constructor <;> intro h <;> omega))
  go_enter Try.func57, Try.ntmps57
  go_wp2_with fail
  refine (isec_any s v _ (unhide hs)).mono ?_
  rintro e w1 ⟨rfl, rfl⟩
  go_wp2
  go_ret
  exact ⟨rfl, (Below.refl _ _).alloc (Nat.le_refl _) _⟩

end Go.Proofs.Ytpdnceeniokemaa
