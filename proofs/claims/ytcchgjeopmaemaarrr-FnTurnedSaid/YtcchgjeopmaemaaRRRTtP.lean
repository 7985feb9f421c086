/-
  Plain: a block turned twice is sixteen times itself; no program is named.
-/
import Derived.Test.YtcchgjeopmaemaaRRRTnP
namespace Go.Proofs.YtcchgjeopmaemaaRRR
set_option linter.unusedVariables false
set_option linter.unusedSimpArgs false

theorem trn_trn (f : Nat → Int) (i : Nat) (hi : i < 16) : trn (trn f) i = 16 * f i := by
  have hc : i = 0 ∨ i = 1 ∨ i = 2 ∨ i = 3 ∨ i = 4 ∨ i = 5 ∨ i = 6 ∨ i = 7 ∨ i = 8 ∨ i = 9 ∨ i = 10 ∨ i = 11 ∨ i = 12 ∨ i = 13 ∨ i = 14 ∨ i = 15 := by omega
  rcases hc with rfl | rfl | rfl | rfl | rfl | rfl | rfl | rfl | rfl | rfl | rfl | rfl | rfl | rfl | rfl | rfl
  all_goals
    simp only [trn, asl, four, Nat.reduceMod, Nat.reduceDiv, Nat.reduceMul, Nat.reduceAdd]
    omega
/-- what is turned twice, as a list -/
theorem trnOf_twice {l : List Int} (h : TnOk l) (h2 : TnOk (trnOf l)) : trnOf (trnOf l) = fl (fun i => 16 * nth l i) 16 := by
  rw [trn_yes h2, trn_yes h]
  apply fl_eq
  intro i hi
  rw [trn_eq (g := trn (nth l)) (fun j hj => nth_fl _ hj) i hi]
  exact trn_trn _ i hi
end Go.Proofs.YtcchgjeopmaemaaRRR
