/-
  Contracts of the model's draws for Extract and Lift: they answer some list of clips in memory of its own and two numbers, and write into nothing that was there.
-/
import Derived.Test.YtfcjdempigoiiaaDrT
namespace Go.Proofs.Ytfcjdempigoiiaa
open Go.RowKit
set_option linter.unusedVariables false
set_option linter.unusedSimpArgs false

theorem below_gr {W w w1 : World} {g : Nat} (h : Below W.heap.size W w) (hg : w.grownBy w1 (some g)) (hB : W.heap.size ≤ g) : Below W.heap.size W w1 := below_grown h hg hB

end Go.Proofs.Ytfcjdempigoiiaa
