/-
  Contracts of the program's leaves over nodes: what is no number, which bit a sign has, inputs, kinds; nothing that was there is written.
-/
import Derived.Test.YtfblnnnnkjphjaaZr
import Derived.Laws.Externs
namespace Go.Proofs.Ytfblnnnnkjphjaa
open Go.RowKit
set_option linter.unusedVariables false
set_option linter.unusedSimpArgs false

theorem run_bits (x : Nat) (w : World) : (callFunc 43 #[.float .f64 x]).run Try.prog w = .ok (.value (.int .u64 x)) w := by
  rw [run_callFunc_extern Try.func43 (by kernel_rfl) (by kernel_rfl) (by kernel_rfl) (e := Extern.MathFloatBits.float64bits) (by kernel_rfl)]
  rfl
theorem nan_no {x : Nat} (h : ¬ NaN x) (w : World) : Calls Try.prog 38 #[.float .f64 x] w fun e w' => e = .returned (.bool false) ∧ w' = w := by
  have h1 := order_self h
  clear h
  go_enter Try.func38, Try.ntmps38
  go_wp2
  go_ret
  exact ⟨rfl, rfl⟩
theorem nan_yes {x : Nat} (h : NaN x) (w : World) : Calls Try.prog 38 #[.float .f64 x] w fun e w' => e = .returned (.bool true) ∧ w' = w := by
  have h1 := order_nan_left (y := x) h
  clear h
  go_enter Try.func38, Try.ntmps38
  go_wp2
  go_ret
  exact ⟨rfl, rfl⟩
theorem sign_no (w : World) : Calls Try.prog 39 #[.float .f64 0] w fun e w' => e = .returned (.bool false) ∧ w' = w := by
  have hb := run_bits 0
  go_enter Try.func39, Try.ntmps39
  go_wp2
  go_ret
  exact ⟨rfl, rfl⟩
theorem sign_yes (w : World) : Calls Try.prog 39 #[.float .f64 9223372036854775808] w fun e w' => e = .returned (.bool true) ∧ w' = w := by
  have hb := run_bits 9223372036854775808
  go_enter Try.func39, Try.ntmps39
  go_wp2
  go_ret
  exact ⟨ret_bool (by first | kernel_rfl | (simp [wrap64]; done) | (unfold wrap64; decide)), rfl⟩
theorem nn0 : ¬ NaN 0 := by unfold NaN; decide
theorem nn1 : ¬ NaN 9223372036854775808 := by unfold NaN; decide

set_option maxHeartbeats 800000 in
theorem same0_any (v : Nat) (B : Bool) (w : World) (hv : v < 18446744073709551616) (hB : decide (v = 0) = B) :
    Calls Try.prog 32 #[.float .f64 v, .float .f64 0] w fun e w' => e = .returned (.bool B) ∧ w' = w := by
  by_cases hn : NaN v
  · have hz : B = false := by rw [← hB]; simp; intro e; rw [e] at hn; exact nn0 hn
    subst hz
    have hn' := hide hn
    clear hn hB hv
    go_enter Try.func32, Try.ntmps32
    go_wp2_with fail
    refine (nan_yes (unhide hn') _).mono ?_
    rintro e w1 ⟨rfl, hw1⟩
    have hw2 := hw1.symm
    subst hw2
    go_wp2_with fail
    refine (nan_yes (unhide hn') _).mono ?_
    rintro e w1 ⟨rfl, hw1⟩
    have hw2 := hw1.symm
    subst hw2
    go_wp2_with fail
    refine (nan_no nn0 _).mono ?_
    rintro e w1 ⟨rfl, hw1⟩
    have hw2 := hw1.symm
    subst hw2
    go_wp2
    go_ret
    exact ⟨rfl, rfl⟩
  have hn' := hide hn
  clear hn
  by_cases ho : FloatKind.f64.format.order v 0 = some .eq
  rotate_left
  · have hz : B = false := by rw [← hB]; simp; intro e; rw [e] at ho; exact ho zero_self
    subst hz
    have ho' : (FloatKind.f64.format.order v 0 == some .eq) = false := by simpa using ho
    clear hB hv
    go_enter Try.func32, Try.ntmps32
    go_wp2_with fail
    refine (nan_no (unhide hn') _).mono ?_
    rintro e w1 ⟨rfl, hw1⟩
    have hw2 := hw1.symm
    subst hw2
    go_wp2_with fail
    refine (nan_no nn0 _).mono ?_
    rintro e w1 ⟨rfl, hw1⟩
    have hw2 := hw1.symm
    subst hw2
    go_wp2
    go_ret
    exact ⟨rfl, rfl⟩
  rcases zero_order hv ho with rfl | rfl
  · have hz : B = true := by rw [← hB]; rfl
    subst hz
    clear hB hv
    go_enter Try.func32, Try.ntmps32
    go_wp2_with fail
    refine (nan_no nn0 _).mono ?_
    rintro e w1 ⟨rfl, hw1⟩
    have hw2 := hw1.symm
    subst hw2
    go_wp2_with fail
    refine (nan_no nn0 _).mono ?_
    rintro e w1 ⟨rfl, hw1⟩
    have hw2 := hw1.symm
    subst hw2
    go_wp2_with fail
    refine (sign_no _).mono ?_
    rintro e w1 ⟨rfl, hw1⟩
    have hw2 := hw1.symm
    subst hw2
    go_wp2_with fail
    refine (sign_no _).mono ?_
    rintro e w1 ⟨rfl, hw1⟩
    have hw2 := hw1.symm
    subst hw2
    go_wp2
    go_ret
    exact ⟨rfl, rfl⟩
  · have hz : B = false := by rw [← hB]; rfl
    subst hz
    clear hB hv
    go_enter Try.func32, Try.ntmps32
    go_wp2_with fail
    refine (nan_no nn1 _).mono ?_
    rintro e w1 ⟨rfl, hw1⟩
    have hw2 := hw1.symm
    subst hw2
    go_wp2_with fail
    refine (nan_no nn0 _).mono ?_
    rintro e w1 ⟨rfl, hw1⟩
    have hw2 := hw1.symm
    subst hw2
    go_wp2_with fail
    refine (sign_yes _).mono ?_
    rintro e w1 ⟨rfl, hw1⟩
    have hw2 := hw1.symm
    subst hw2
    go_wp2_with fail
    refine (sign_no _).mono ?_
    rintro e w1 ⟨rfl, hw1⟩
    have hw2 := hw1.symm
    subst hw2
    go_wp2
    go_ret
    exact ⟨rfl, rfl⟩
set_option maxHeartbeats 400000 in
theorem inp_no (n i : Int) (B : Bool) (w : World) (hB : (n == 0) = B) : Calls Try.prog 31 #[.int .i64 n, .bool false, .int .i64 i] w fun e w' => e = .returned (.bool B) ∧ w' = w := by
  go_enter Try.func31, Try.ntmps31
  go_wp2
  go_ret
  exact ⟨ret_bool (by first | rfl | simp [hB] | (rw [← hB]; rfl)), rfl⟩
set_option maxHeartbeats 400000 in
theorem inp_yes (n i : Int) (B : Bool) (w : World) (hB : decide (InOk n i) = B) : Calls Try.prog 31 #[.int .i64 n, .bool true, .int .i64 i] w fun e w' => e = .returned (.bool B) ∧ w' = w := by
  subst hB
  by_cases h0 : 0 ≤ n
  · by_cases h1 : n < i
    · go_enter Try.func31, Try.ntmps31
      go_wp2
      go_ret
      exact ⟨ret_bool (by simp [InOk, h0, h1]), rfl⟩
    · have hd : decide (n < i) = false := by simpa using h1
      go_enter Try.func31, Try.ntmps31
      go_wp2
      go_ret
      exact ⟨ret_bool (by symm; rw [decide_eq_false_iff_not]; unfold InOk; omega), rfl⟩
  · have hd : decide (0 ≤ n) = false := by simpa using h0
    go_enter Try.func31, Try.ntmps31
    go_wp2
    go_ret
    exact ⟨ret_bool (by symm; rw [decide_eq_false_iff_not]; unfold InOk; omega), rfl⟩

set_option maxHeartbeats 400000 in
theorem kind1 (w : World) : Calls Try.prog 30 #[.int .i64 1] w fun e w' => e = .returned (.agg #[.bool false, .bool false, .bool false]) ∧ Below w.heap.size w w' := by
  go_enter Try.func30, Try.ntmps30
  go_wp2
  exact bodyPost_ret (v := .agg #[.bool false, .bool false, .bool false]) (by simp [results, Try.results30, go_sem]) rfl ⟨rfl, ((Below.refl _ _).alloc (Nat.le_refl _) _)⟩

set_option maxHeartbeats 400000 in
theorem kind2 (w : World) : Calls Try.prog 30 #[.int .i64 2] w fun e w' => e = .returned (.agg #[.bool true, .bool false, .bool true]) ∧ Below w.heap.size w w' := by
  go_enter Try.func30, Try.ntmps30
  go_wp2
  exact bodyPost_ret (v := .agg #[.bool true, .bool false, .bool true]) (by simp [results, Try.results30, go_sem]) rfl ⟨rfl, ((Below.refl _ _).alloc (Nat.le_refl _) _)⟩

set_option maxHeartbeats 400000 in
theorem kind3 (w : World) : Calls Try.prog 30 #[.int .i64 3] w fun e w' => e = .returned (.agg #[.bool true, .bool false, .bool true]) ∧ Below w.heap.size w w' := by
  go_enter Try.func30, Try.ntmps30
  go_wp2
  exact bodyPost_ret (v := .agg #[.bool true, .bool false, .bool true]) (by simp [results, Try.results30, go_sem]) rfl ⟨rfl, ((Below.refl _ _).alloc (Nat.le_refl _) _)⟩

set_option maxHeartbeats 400000 in
theorem kind4 (w : World) : Calls Try.prog 30 #[.int .i64 4] w fun e w' => e = .returned (.agg #[.bool true, .bool true, .bool true]) ∧ Below w.heap.size w w' := by
  go_enter Try.func30, Try.ntmps30
  go_wp2
  exact bodyPost_ret (v := .agg #[.bool true, .bool true, .bool true]) (by simp [results, Try.results30, go_sem]) rfl ⟨rfl, ((Below.refl _ _).alloc (Nat.le_refl _) _)⟩

set_option maxHeartbeats 400000 in
theorem kind5 (w : World) : Calls Try.prog 30 #[.int .i64 5] w fun e w' => e = .returned (.agg #[.bool true, .bool false, .bool true]) ∧ Below w.heap.size w w' := by
  go_enter Try.func30, Try.ntmps30
  go_wp2
  exact bodyPost_ret (v := .agg #[.bool true, .bool false, .bool true]) (by simp [results, Try.results30, go_sem]) rfl ⟨rfl, ((Below.refl _ _).alloc (Nat.le_refl _) _)⟩

set_option maxHeartbeats 400000 in
theorem kind6 (w : World) : Calls Try.prog 30 #[.int .i64 6] w fun e w' => e = .returned (.agg #[.bool true, .bool false, .bool false]) ∧ Below w.heap.size w w' := by
  go_enter Try.func30, Try.ntmps30
  go_wp2
  exact bodyPost_ret (v := .agg #[.bool true, .bool false, .bool false]) (by simp [results, Try.results30, go_sem]) rfl ⟨rfl, ((Below.refl _ _).alloc (Nat.le_refl _) _)⟩

set_option maxHeartbeats 400000 in
theorem kind7 (w : World) : Calls Try.prog 30 #[.int .i64 7] w fun e w' => e = .returned (.agg #[.bool true, .bool false, .bool false]) ∧ Below w.heap.size w w' := by
  go_enter Try.func30, Try.ntmps30
  go_wp2
  exact bodyPost_ret (v := .agg #[.bool true, .bool false, .bool false]) (by simp [results, Try.results30, go_sem]) rfl ⟨rfl, ((Below.refl _ _).alloc (Nat.le_refl _) _)⟩

end Go.Proofs.Ytfblnnnnkjphjaa
