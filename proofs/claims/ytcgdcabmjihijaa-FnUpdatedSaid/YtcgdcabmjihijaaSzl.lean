/-
  How the law weighs a list of assets: the contract; nothing that was there is written.
-/
import Derived.Test.YtcgdcabmjihijaaCopyL
namespace Go.Proofs.Ytcgdcabmjihijaa
open Go.RowKit
set_option linter.unusedVariables false
set_option linter.unusedSimpArgs false

end Go.Proofs.Ytcgdcabmjihijaa
