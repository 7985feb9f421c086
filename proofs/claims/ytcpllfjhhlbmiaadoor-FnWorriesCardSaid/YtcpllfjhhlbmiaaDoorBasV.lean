/-
  Worries: two numbers in memory; their comparison; nothing that was there is written.
-/
import Derived.Test.YtcpllfjhhlbmiaaDoorCopyL
import Derived.Test.YtcpllfjhhlbmiaaDoorUnP
namespace Go.Proofs.YtcpllfjhhlbmiaaDoor
open Go.RowKit
set_option linter.unusedVariables false
set_option linter.unusedSimpArgs false
namespace V
abbrev Kl := Int × Int
end V
end Go.Proofs.YtcpllfjhhlbmiaaDoor
