/-
  Closed facts of the program that the frame of each law's proof takes; no conditions.
-/
import Derived.Test.YtffibbcombjkcaaRows
import Derived.ProofKit
import Derived.OpenShut
import Derived.ShutString
import Derived.ChangeOld
import Derived.Lib.SmallJoins
namespace Go.Proofs.Ytffibbcombjkcaa
theorem own : ownKnob Try.prog.godebug = none := by kernel_rfl
theorem laidOut : laidOutB Try.prog = true := by kernel_rfl
theorem cells35 : Try.prog.cellsOf 35 = 3 := by kernel_rfl
end Go.Proofs.Ytffibbcombjkcaa
