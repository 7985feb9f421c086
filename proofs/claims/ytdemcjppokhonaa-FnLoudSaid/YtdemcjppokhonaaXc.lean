/-
  What the law asks of the numbers, at each of the thousand it may pick.
-/
import Derived.Test.YtdemcjppokhonaaDl
namespace Go.Proofs.Ytdemcjppokhonaa
open Go Go.RowKit
set_option maxRecDepth 100000
theorem xc_0 : ((List.range 50).all fun k => xc (floatOfInt .f64 ((1 : Int) + ((50 * 0 + k : Nat) : Int)))) = true := by decide +kernel
theorem xc_1 : ((List.range 50).all fun k => xc (floatOfInt .f64 ((1 : Int) + ((50 * 1 + k : Nat) : Int)))) = true := by decide +kernel
theorem xc_2 : ((List.range 50).all fun k => xc (floatOfInt .f64 ((1 : Int) + ((50 * 2 + k : Nat) : Int)))) = true := by decide +kernel
theorem xc_3 : ((List.range 50).all fun k => xc (floatOfInt .f64 ((1 : Int) + ((50 * 3 + k : Nat) : Int)))) = true := by decide +kernel
theorem xc_4 : ((List.range 50).all fun k => xc (floatOfInt .f64 ((1 : Int) + ((50 * 4 + k : Nat) : Int)))) = true := by decide +kernel
theorem xc_5 : ((List.range 50).all fun k => xc (floatOfInt .f64 ((1 : Int) + ((50 * 5 + k : Nat) : Int)))) = true := by decide +kernel
theorem xc_6 : ((List.range 50).all fun k => xc (floatOfInt .f64 ((1 : Int) + ((50 * 6 + k : Nat) : Int)))) = true := by decide +kernel
theorem xc_7 : ((List.range 50).all fun k => xc (floatOfInt .f64 ((1 : Int) + ((50 * 7 + k : Nat) : Int)))) = true := by decide +kernel
theorem xc_8 : ((List.range 50).all fun k => xc (floatOfInt .f64 ((1 : Int) + ((50 * 8 + k : Nat) : Int)))) = true := by decide +kernel
theorem xc_9 : ((List.range 50).all fun k => xc (floatOfInt .f64 ((1 : Int) + ((50 * 9 + k : Nat) : Int)))) = true := by decide +kernel
theorem xc_10 : ((List.range 50).all fun k => xc (floatOfInt .f64 ((1 : Int) + ((50 * 10 + k : Nat) : Int)))) = true := by decide +kernel
theorem xc_11 : ((List.range 50).all fun k => xc (floatOfInt .f64 ((1 : Int) + ((50 * 11 + k : Nat) : Int)))) = true := by decide +kernel
theorem xc_12 : ((List.range 50).all fun k => xc (floatOfInt .f64 ((1 : Int) + ((50 * 12 + k : Nat) : Int)))) = true := by decide +kernel
theorem xc_13 : ((List.range 50).all fun k => xc (floatOfInt .f64 ((1 : Int) + ((50 * 13 + k : Nat) : Int)))) = true := by decide +kernel
theorem xc_14 : ((List.range 50).all fun k => xc (floatOfInt .f64 ((1 : Int) + ((50 * 14 + k : Nat) : Int)))) = true := by decide +kernel
theorem xc_15 : ((List.range 50).all fun k => xc (floatOfInt .f64 ((1 : Int) + ((50 * 15 + k : Nat) : Int)))) = true := by decide +kernel
theorem xc_16 : ((List.range 50).all fun k => xc (floatOfInt .f64 ((1 : Int) + ((50 * 16 + k : Nat) : Int)))) = true := by decide +kernel
theorem xc_17 : ((List.range 50).all fun k => xc (floatOfInt .f64 ((1 : Int) + ((50 * 17 + k : Nat) : Int)))) = true := by decide +kernel
theorem xc_18 : ((List.range 50).all fun k => xc (floatOfInt .f64 ((1 : Int) + ((50 * 18 + k : Nat) : Int)))) = true := by decide +kernel
theorem xc_19 : ((List.range 50).all fun k => xc (floatOfInt .f64 ((1 : Int) + ((50 * 19 + k : Nat) : Int)))) = true := by decide +kernel
theorem xc_at (j : Int) (h0 : 0 ≤ j) (h1 : j < 1000) : xc (floatOfInt .f64 (1 + j)) = true := by
  obtain ⟨n, rfl⟩ : ∃ n : Nat, j = n := ⟨j.toNat, by omega⟩
  have hd : n = 50 * (n / 50) + n % 50 := by omega
  have hm : n % 50 < 50 := by omega
  have hq : n / 50 < 20 := by omega
  generalize n / 50 = c at *
  generalize n % 50 = k at *
  subst hd
  have hk := List.mem_range.2 hm
  have hc : c = 0 ∨ c = 1 ∨ c = 2 ∨ c = 3 ∨ c = 4 ∨ c = 5 ∨ c = 6 ∨ c = 7 ∨ c = 8 ∨ c = 9 ∨ c = 10 ∨ c = 11 ∨ c = 12 ∨ c = 13 ∨ c = 14 ∨ c = 15 ∨ c = 16 ∨ c = 17 ∨ c = 18 ∨ c = 19 := by omega
  rcases hc with rfl | rfl | rfl | rfl | rfl | rfl | rfl | rfl | rfl | rfl | rfl | rfl | rfl | rfl | rfl | rfl | rfl | rfl | rfl | rfl
  · exact List.all_eq_true.1 xc_0 k hk
  · exact List.all_eq_true.1 xc_1 k hk
  · exact List.all_eq_true.1 xc_2 k hk
  · exact List.all_eq_true.1 xc_3 k hk
  · exact List.all_eq_true.1 xc_4 k hk
  · exact List.all_eq_true.1 xc_5 k hk
  · exact List.all_eq_true.1 xc_6 k hk
  · exact List.all_eq_true.1 xc_7 k hk
  · exact List.all_eq_true.1 xc_8 k hk
  · exact List.all_eq_true.1 xc_9 k hk
  · exact List.all_eq_true.1 xc_10 k hk
  · exact List.all_eq_true.1 xc_11 k hk
  · exact List.all_eq_true.1 xc_12 k hk
  · exact List.all_eq_true.1 xc_13 k hk
  · exact List.all_eq_true.1 xc_14 k hk
  · exact List.all_eq_true.1 xc_15 k hk
  · exact List.all_eq_true.1 xc_16 k hk
  · exact List.all_eq_true.1 xc_17 k hk
  · exact List.all_eq_true.1 xc_18 k hk
  · exact List.all_eq_true.1 xc_19 k hk
end Go.Proofs.Ytdemcjppokhonaa
