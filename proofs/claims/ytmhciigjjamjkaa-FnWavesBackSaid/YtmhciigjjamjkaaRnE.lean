/-
  Waves and back in whole numbers: n times what was. No conditions.
-/
import Derived.Test.YtmhciigjjamjkaaRnD
namespace Go.Proofs.Ytmhciigjjamjkaa.Rn
open Go.Proofs.Ytmhciigjjamjkaa.Ie
set_option linter.unusedVariables false
set_option linter.unusedSimpArgs false

theorem back1 (X Y : Nat → Int) (i : Nat) (hi : i < 1) : sm (fun k => sm1 X Y (fS false 1 k) 1) (fS true 1 i) 1 = (2 * (1 * X i), 0, 2 * (1 * Y i), 0) := by
  obtain rfl : i = 0 := by omega
  simp [sm, sm1, fS, rp, mlt, ad4]
theorem back2 (X Y : Nat → Int) (i : Nat) (hi : i < 2) : sm (fun k => sm1 X Y (fS false 2 k) 2) (fS true 2 i) 2 = (2 * (2 * X i), 0, 2 * (2 * Y i), 0) := by
  rcases (show i = 0 ∨ i = 1 by omega) with rfl | rfl
  all_goals
    simp only [sm, sm1, fS, rp, mlt, ad4, Nat.reduceMul, Nat.reduceMod, Nat.reduceDiv, Nat.reduceSub, Nat.reduceAdd, Bool.false_eq_true, if_false, if_true, Nat.zero_add, Prod.mk.injEq]
    refine ⟨by omega, by omega, by omega, by omega⟩
theorem back4 (X Y : Nat → Int) (i : Nat) (hi : i < 4) : sm (fun k => sm1 X Y (fS false 4 k) 4) (fS true 4 i) 4 = (2 * (4 * X i), 0, 2 * (4 * Y i), 0) := by
  rcases (show i = 0 ∨ i = 1 ∨ i = 2 ∨ i = 3 by omega) with rfl | rfl | rfl | rfl
  all_goals
    simp only [sm, sm1, fS, rp, mlt, ad4, Nat.reduceMul, Nat.reduceMod, Nat.reduceDiv, Nat.reduceSub, Nat.reduceAdd, Bool.false_eq_true, if_false, if_true, Nat.zero_add, Prod.mk.injEq]
    refine ⟨by omega, by omega, by omega, by omega⟩
theorem back8_0 (X Y : Nat → Int) : sm (fun k => sm1 X Y (fS false 8 k) 8) (fS true 8 0) 8 = (2 * (8 * X 0), 0, 2 * (8 * Y 0), 0) := by
  simp only [sm, sm1, fS, rp, mlt, ad4, Nat.reduceMul, Nat.reduceMod, Nat.reduceDiv, Nat.reduceSub, Nat.reduceAdd, Bool.false_eq_true, if_false, if_true, Nat.zero_add, Prod.mk.injEq]
  refine ⟨by omega, by omega, by omega, by omega⟩
theorem back8_1 (X Y : Nat → Int) : sm (fun k => sm1 X Y (fS false 8 k) 8) (fS true 8 1) 8 = (2 * (8 * X 1), 0, 2 * (8 * Y 1), 0) := by
  simp only [sm, sm1, fS, rp, mlt, ad4, Nat.reduceMul, Nat.reduceMod, Nat.reduceDiv, Nat.reduceSub, Nat.reduceAdd, Bool.false_eq_true, if_false, if_true, Nat.zero_add, Prod.mk.injEq]
  refine ⟨by omega, by omega, by omega, by omega⟩
theorem back8_2 (X Y : Nat → Int) : sm (fun k => sm1 X Y (fS false 8 k) 8) (fS true 8 2) 8 = (2 * (8 * X 2), 0, 2 * (8 * Y 2), 0) := by
  simp only [sm, sm1, fS, rp, mlt, ad4, Nat.reduceMul, Nat.reduceMod, Nat.reduceDiv, Nat.reduceSub, Nat.reduceAdd, Bool.false_eq_true, if_false, if_true, Nat.zero_add, Prod.mk.injEq]
  refine ⟨by omega, by omega, by omega, by omega⟩
theorem back8_3 (X Y : Nat → Int) : sm (fun k => sm1 X Y (fS false 8 k) 8) (fS true 8 3) 8 = (2 * (8 * X 3), 0, 2 * (8 * Y 3), 0) := by
  simp only [sm, sm1, fS, rp, mlt, ad4, Nat.reduceMul, Nat.reduceMod, Nat.reduceDiv, Nat.reduceSub, Nat.reduceAdd, Bool.false_eq_true, if_false, if_true, Nat.zero_add, Prod.mk.injEq]
  refine ⟨by omega, by omega, by omega, by omega⟩
theorem back8_4 (X Y : Nat → Int) : sm (fun k => sm1 X Y (fS false 8 k) 8) (fS true 8 4) 8 = (2 * (8 * X 4), 0, 2 * (8 * Y 4), 0) := by
  simp only [sm, sm1, fS, rp, mlt, ad4, Nat.reduceMul, Nat.reduceMod, Nat.reduceDiv, Nat.reduceSub, Nat.reduceAdd, Bool.false_eq_true, if_false, if_true, Nat.zero_add, Prod.mk.injEq]
  refine ⟨by omega, by omega, by omega, by omega⟩
theorem back8_5 (X Y : Nat → Int) : sm (fun k => sm1 X Y (fS false 8 k) 8) (fS true 8 5) 8 = (2 * (8 * X 5), 0, 2 * (8 * Y 5), 0) := by
  simp only [sm, sm1, fS, rp, mlt, ad4, Nat.reduceMul, Nat.reduceMod, Nat.reduceDiv, Nat.reduceSub, Nat.reduceAdd, Bool.false_eq_true, if_false, if_true, Nat.zero_add, Prod.mk.injEq]
  refine ⟨by omega, by omega, by omega, by omega⟩
theorem back8_6 (X Y : Nat → Int) : sm (fun k => sm1 X Y (fS false 8 k) 8) (fS true 8 6) 8 = (2 * (8 * X 6), 0, 2 * (8 * Y 6), 0) := by
  simp only [sm, sm1, fS, rp, mlt, ad4, Nat.reduceMul, Nat.reduceMod, Nat.reduceDiv, Nat.reduceSub, Nat.reduceAdd, Bool.false_eq_true, if_false, if_true, Nat.zero_add, Prod.mk.injEq]
  refine ⟨by omega, by omega, by omega, by omega⟩
theorem back8_7 (X Y : Nat → Int) : sm (fun k => sm1 X Y (fS false 8 k) 8) (fS true 8 7) 8 = (2 * (8 * X 7), 0, 2 * (8 * Y 7), 0) := by
  simp only [sm, sm1, fS, rp, mlt, ad4, Nat.reduceMul, Nat.reduceMod, Nat.reduceDiv, Nat.reduceSub, Nat.reduceAdd, Bool.false_eq_true, if_false, if_true, Nat.zero_add, Prod.mk.injEq]
  refine ⟨by omega, by omega, by omega, by omega⟩
theorem back8 (X Y : Nat → Int) (i : Nat) (hi : i < 8) : sm (fun k => sm1 X Y (fS false 8 k) 8) (fS true 8 i) 8 = (2 * (8 * X i), 0, 2 * (8 * Y i), 0) := by
  rcases (show i = 0 ∨ i = 1 ∨ i = 2 ∨ i = 3 ∨ i = 4 ∨ i = 5 ∨ i = 6 ∨ i = 7 by omega) with rfl | rfl | rfl | rfl | rfl | rfl | rfl | rfl
  · exact back8_0 X Y
  · exact back8_1 X Y
  · exact back8_2 X Y
  · exact back8_3 X Y
  · exact back8_4 X Y
  · exact back8_5 X Y
  · exact back8_6 X Y
  · exact back8_7 X Y
theorem backN (X Y : Nat → Int) {n : Nat} (hn : okN n) (i : Nat) (hi : i < n) : sm (fun k => sm1 X Y (fS false n k) n) (fS true n i) n = (2 * (n * X i), 0, 2 * (n * Y i), 0) := by
  rcases hn with rfl | rfl | rfl | rfl
  · exact back1 X Y i hi
  · exact back2 X Y i hi
  · exact back4 X Y i hi
  · exact back8 X Y i hi
end Go.Proofs.Ytmhciigjjamjkaa.Rn
