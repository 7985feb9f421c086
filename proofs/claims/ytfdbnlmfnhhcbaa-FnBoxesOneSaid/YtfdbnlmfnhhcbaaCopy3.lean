/-
  A copy of a list of boxes: each of its byte lists lies somewhere; as tos_any besides.
-/
import Derived.Test.YtfdbnlmfnhhcbaaCopy2
namespace Go.Proofs.Ytfdbnlmfnhhcbaa
open Go.RowKit
set_option linter.unusedVariables false
set_option linter.unusedSimpArgs false

end Go.Proofs.Ytfdbnlmfnhhcbaa
