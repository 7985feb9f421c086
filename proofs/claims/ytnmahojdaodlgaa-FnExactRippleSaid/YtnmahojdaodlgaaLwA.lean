/-
  Bounds of the answers, and how facts are carried on; no conditions.
-/
import Derived.Test.YtnmahojdaodlgaaCopy
import Derived.Test.YtnmahojdaodlgaaEdP
namespace Go.Proofs.Ytnmahojdaodlgaa
open Go.RowKit
set_option linter.unusedVariables false
set_option linter.unusedSimpArgs false
theorem outl_edit {x : List Kl} {p : Prop} [Decidable p] : (outL (if p then edit x else none)).length ≤ 300 := by
  split
  · exact edit_len x
  · exact Nat.zero_le _
theorem carryK {W w : World} {a : Option Addr} {l : List Kl} (h : Kls W a l) (hb : Below W.heap.size W w) : Kls w a l := h.below hb
end Go.Proofs.Ytnmahojdaodlgaa
