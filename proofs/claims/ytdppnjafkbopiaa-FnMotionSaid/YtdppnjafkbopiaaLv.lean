/-
  Contracts of the leaves: bounds, the less and the greater of two; nothing is written.
-/
import Derived.Test.YtdppnjafkbopiaaMm
import Derived.Test.YtdppnjafkbopiaaPcP
namespace Go.Proofs.Ytdppnjafkbopiaa
open Go.RowKit
set_option linter.unusedVariables false
set_option linter.unusedSimpArgs false

set_option maxHeartbeats 400000 in
theorem in_any (x lo hi : Int) (v : Bool) (w : World) (hv : (decide (lo ≤ x) && decide (x ≤ hi)) = v) :
    Calls Try.prog 38 #[.int .i64 x, .int .i64 lo, .int .i64 hi] w fun e w' => e = .returned (.bool v) ∧ w' = w := by
  subst hv
  by_cases h1 : lo ≤ x
  · by_cases h2 : x ≤ hi
    · go_enter Try.func38, Try.ntmps38
      go_wp2
      go_ret
      exact ⟨ret_bool (by simp [h1, h2]), rfl⟩
    · go_enter Try.func38, Try.ntmps38
      go_wp2
      go_ret
      exact ⟨ret_bool (by simp [h2]), rfl⟩
  · have hd : decide (lo ≤ x) = false := by simpa using h1
    go_enter Try.func38, Try.ntmps38
    go_wp2
    go_ret
    exact ⟨ret_bool (by simp), rfl⟩
set_option maxHeartbeats 400000 in
theorem sbyte_any (x : Int) (v : Bool) (w : World) (hv : (decide (0 ≤ x) && decide (x ≤ 255)) = v) :
    Calls Try.prog 37 #[.int .i64 x] w fun e w' => e = .returned (.bool v) ∧ w' = w := by
  go_enter Try.func37, Try.ntmps37
  go_wp2_with fail
  refine (in_any x (0) 255 v _ hv).mono ?_
  rintro e w1 ⟨rfl, rfl⟩
  go_wp2
  go_ret
  exact ⟨rfl, rfl⟩
set_option maxHeartbeats 400000 in
theorem ipx_any (x : Int) (v : Bool) (w : World) (hv : (decide (0 ≤ x) && decide (x ≤ 255)) = v) :
    Calls Try.prog 33 #[.int .i64 x] w fun e w' => e = .returned (.bool v) ∧ w' = w := by
  subst hv
  by_cases h1 : 0 ≤ x
  · by_cases h2 : x ≤ 255
    · go_enter Try.func33, Try.ntmps33
      go_wp2
      go_ret
      exact ⟨ret_bool (by simp [h1, h2]), rfl⟩
    · have hd : decide (x ≤ 255) = false := by simpa using h2
      go_enter Try.func33, Try.ntmps33
      go_wp2
      go_ret
      exact ⟨ret_bool (by simp [h2]), rfl⟩
  · have hd : decide (0 ≤ x) = false := by simpa using h1
    go_enter Try.func33, Try.ntmps33
    go_wp2
    go_ret
    exact ⟨ret_bool (by simp [h1]), rfl⟩
set_option maxHeartbeats 400000 in
theorem iwi_any (x m : Int) (v : Bool) (w : World) (hv : (decide (0 ≤ x) && decide (x < m)) = v) :
    Calls Try.prog 13 #[.int .i64 x, .int .i64 m] w fun e w' => e = .returned (.bool v) ∧ w' = w := by
  subst hv
  by_cases h1 : 0 ≤ x
  · by_cases h2 : x < m
    · go_enter Try.func13, Try.ntmps13
      go_wp2
      go_ret
      exact ⟨ret_bool (by simp [h1, h2]), rfl⟩
    · have hd : decide (x < m) = false := by simpa using h2
      go_enter Try.func13, Try.ntmps13
      go_wp2
      go_ret
      exact ⟨ret_bool (by simp [h2]), rfl⟩
  · have hd : decide (0 ≤ x) = false := by simpa using h1
    go_enter Try.func13, Try.ntmps13
    go_wp2
    go_ret
    exact ⟨ret_bool (by simp [h1]), rfl⟩
theorem min_any (a b v : Int) (w : World) (hv : min a b = v) : Calls Try.prog 30 #[.int .i64 a, .int .i64 b] w fun e w' => e = .returned (.int .i64 v) ∧ w' = w := by
  subst hv
  by_cases h : a < b
  · go_enter Try.func30, Try.ntmps30
    go_wp2
    go_ret
    exact ⟨ret_int (by omega), rfl⟩
  · go_enter Try.func30, Try.ntmps30
    go_wp2
    go_ret
    exact ⟨ret_int (by omega), rfl⟩
theorem max_any (a b v : Int) (w : World) (hv : max a b = v) : Calls Try.prog 31 #[.int .i64 a, .int .i64 b] w fun e w' => e = .returned (.int .i64 v) ∧ w' = w := by
  subst hv
  by_cases h : b < a
  · go_enter Try.func31, Try.ntmps31
    go_wp2
    go_ret
    exact ⟨ret_int (by omega), rfl⟩
  · go_enter Try.func31, Try.ntmps31
    go_wp2
    go_ret
    exact ⟨ret_int (by omega), rfl⟩
theorem abs_any (a v : Int) (w : World) (hb : -1000000000 ≤ a ∧ a ≤ 1000000000) (hv : max a (-a) = v) : Calls Try.prog 29 #[.int .i64 a] w fun e w' => e = .returned (.int .i64 v) ∧ w' = w := by
  subst hv
  obtain ⟨b0, b1⟩ := hb
  by_cases h : a < 0
  · go_enter Try.func29, Try.ntmps29
    go_wp2
    go_ret
    exact ⟨ret_int (by omega), rfl⟩
  · go_enter Try.func29, Try.ntmps29
    go_wp2
    go_ret
    exact ⟨ret_int (by omega), rfl⟩
/-- a side, as both sides ask for it -/
theorem side_b (n : Int) : decide (Side4 n) = ((decide (4 ≤ n) && decide (n ≤ 16)) && decide (n % 4 = 0)) := by
  rw [Bool.eq_iff_iff, decide_eq_true_iff, side4_iff]; simp
set_option maxHeartbeats 400000 in
theorem sside_any (n : Int) (v : Bool) (w : World) (hv : decide (Side4 n) = v) : Calls Try.prog 36 #[.int .i64 n] w fun e w' => e = .returned (.bool v) ∧ w' = w := by
  rw [side_b] at hv
  cases h1 : (decide (4 ≤ n) && decide (n ≤ 16)) with
  | true =>
    rw [h1] at hv
    have hh : 4 ≤ n ∧ n ≤ 16 := by simpa using h1
    obtain ⟨h4, h16⟩ := hh
    by_cases h2 : n % 4 = 0
    · have e : (n % 4 == 0) = true := by simpa using h2
      go_enter Try.func36, Try.ntmps36
      go_wp2_with fail
      refine (in_any n 4 16 true _ h1).mono ?_
      rintro e w1 ⟨rfl, rfl⟩
      go_wp2
      go_ret
      exact ⟨ret_bool (by rw [← hv]; simp [h2]), rfl⟩
    · have e : (n % 4 == 0) = false := by simpa using h2
      go_enter Try.func36, Try.ntmps36
      go_wp2_with fail
      refine (in_any n 4 16 true _ h1).mono ?_
      rintro e w1 ⟨rfl, rfl⟩
      go_wp2
      go_ret
      exact ⟨ret_bool (by rw [← hv]; simp [h2]), rfl⟩
  | false =>
    rw [h1] at hv
    go_enter Try.func36, Try.ntmps36
    go_wp2_with fail
    refine (in_any n 4 16 false _ h1).mono ?_
    rintro e w1 ⟨rfl, rfl⟩
    go_wp2
    go_ret
    exact ⟨ret_bool (by rw [← hv]; simp), rfl⟩
set_option maxHeartbeats 400000 in
theorem iside_any (n : Int) (v : Bool) (w : World) (hv : decide (Side4 n) = v) : Calls Try.prog 32 #[.int .i64 n] w fun e w' => e = .returned (.bool v) ∧ w' = w := by
  rw [side_b] at hv
  by_cases h1 : 4 ≤ n
  · by_cases h2 : n ≤ 16
    · by_cases h3 : n % 4 = 0
      · have e : (n % 4 == 0) = true := by simpa using h3
        go_enter Try.func32, Try.ntmps32
        go_wp2
        go_ret
        exact ⟨ret_bool (by rw [← hv]; simp [h1, h2, h3]), rfl⟩
      · have e : (n % 4 == 0) = false := by simpa using h3
        go_enter Try.func32, Try.ntmps32
        go_wp2
        go_ret
        exact ⟨ret_bool (by rw [← hv]; simp [h1, h2, h3]), rfl⟩
    · have hd : decide (n ≤ 16) = false := by simpa using h2
      go_enter Try.func32, Try.ntmps32
      go_wp2
      go_ret
      exact ⟨ret_bool (by rw [← hv]; simp; intros; omega), rfl⟩
  · have hd : decide (4 ≤ n) = false := by simpa using h1
    go_enter Try.func32, Try.ntmps32
    go_wp2
    go_ret
    exact ⟨ret_bool (by rw [← hv]; simp; intros; omega), rfl⟩

end Go.Proofs.Ytdppnjafkbopiaa
