/-
  No cell of these rows narrows 'for every input' (looked for: loops, veiled, ifaces, maps, wideKeys, modest, calm, conditions, laid).
  DERIVED. THE GIVEN ROWS OF THIS SEAT. 8 by the template 'for every input the law returns true; each argument reads behind the call as it read before'; 0 by the template 'total and deterministic' (their statements: YtdmcbdogpeidjaaTotals.lean).
  GIVEN WITH THE SEED: the statements are not yours to turn. If you find one false, say at which input.
  Laid BY PROGRAM, IN A SANDBOX (cutbox-rows.mjs): the forced cells as the released guide's own fill.sh prints them over the translation 68b2589373e7a258… (all of the seat's roots in one cut). By AI agents, Wed Nov 11 2026. No macro, syntax, notation, axiom, sorry.
-/
import Derived.Test.YtdmcbdogpeidjaaChecked
import GoSem.Claim
import GoSem.ClaimJoined
import GoSem.ClaimMapViews
import Derived.JoinedTies
import Derived.KernelRfl
namespace Go.Proofs.Ytdmcbdogpeidjaa
/- THE CELL 'sum', in the pinned program and in every row, IS THE sha256 OF THE DUMP (.gsa) THAT YtdmcbdogpeidjaaProg.lean LOADS. Nothing in Lean hashes anything: it is a label: what it is worth is what the hold of that sum in a sandbox is worth. -/
noncomputable def Try.pinned : Pinned := { name := "ytdmcbdogpeidjaa", sum := "68b2589373e7a2585fd6d697c25f79bbcd5b751b0f3a3235f0da309c2ae02e60", checked := Try.checked }
namespace Rows
def none {H : Type} : Left H := { results := [], args := [] }

/-- 'laws.FnCubeBounds': WHATEVER THE INPUT: true; the input reads as it did. -/
def fnCubeBoundsSpec : ChangeSpec := { name := "fnCubeBounds", fn := fun _ => fun
  | [d] => { results := [.lit (.bool true)], args := [d] }
  | _ => none }
def fnCubeBoundsRow : OpenClaim := { program := "ytdmcbdogpeidjaa", sum := "68b2589373e7a2585fd6d697c25f79bbcd5b751b0f3a3235f0da309c2ae02e60", func := "loop.example/g00066/laws.FnCubeBounds", spec := "fnCubeBounds", apart := false }
def FnCubeBoundsSaid : Prop := fnCubeBoundsRow.holds Try.pinned (OpenSpec.ofChange fnCubeBoundsSpec)

/-- ITS FALSE NEIGHBOUR: 'it returns false'. Refute it at one input. -/
def fnCubeBoundsWrong : ChangeSpec := { name := "fnCubeBounds", fn := fun _ => fun
  | [d] => { results := [.lit (.bool false)], args := [d] }
  | _ => none }
def FnCubeBoundsWrongFalsely : Prop := fnCubeBoundsRow.holds Try.pinned (OpenSpec.ofChange fnCubeBoundsWrong)

/-- 'laws.FnScope': WHATEVER THE INPUT: true; the input reads as it did. -/
def fnScopeSpec : ChangeSpec := { name := "fnScope", fn := fun _ => fun
  | [d] => { results := [.lit (.bool true)], args := [d] }
  | _ => none }
def fnScopeRow : OpenClaim := { program := "ytdmcbdogpeidjaa", sum := "68b2589373e7a2585fd6d697c25f79bbcd5b751b0f3a3235f0da309c2ae02e60", func := "loop.example/g00066/laws.FnScope", spec := "fnScope", apart := false }
def FnScopeSaid : Prop := fnScopeRow.holds Try.pinned (OpenSpec.ofChange fnScopeSpec)

/-- ITS FALSE NEIGHBOUR: 'it returns false'. Refute it at one input. -/
def fnScopeWrong : ChangeSpec := { name := "fnScope", fn := fun _ => fun
  | [d] => { results := [.lit (.bool false)], args := [d] }
  | _ => none }
def FnScopeWrongFalsely : Prop := fnScopeRow.holds Try.pinned (OpenSpec.ofChange fnScopeWrong)

/-- 'laws.FnKeyed': WHATEVER THE INPUT: true; the input reads as it did. -/
def fnKeyedSpec : ChangeSpec := { name := "fnKeyed", fn := fun _ => fun
  | [d] => { results := [.lit (.bool true)], args := [d] }
  | _ => none }
def fnKeyedRow : OpenClaim := { program := "ytdmcbdogpeidjaa", sum := "68b2589373e7a2585fd6d697c25f79bbcd5b751b0f3a3235f0da309c2ae02e60", func := "loop.example/g00066/laws.FnKeyed", spec := "fnKeyed", apart := false }
def FnKeyedSaid : Prop := fnKeyedRow.holds Try.pinned (OpenSpec.ofChange fnKeyedSpec)

/-- ITS FALSE NEIGHBOUR: 'it returns false'. Refute it at one input. -/
def fnKeyedWrong : ChangeSpec := { name := "fnKeyed", fn := fun _ => fun
  | [d] => { results := [.lit (.bool false)], args := [d] }
  | _ => none }
def FnKeyedWrongFalsely : Prop := fnKeyedRow.holds Try.pinned (OpenSpec.ofChange fnKeyedWrong)

/-- 'laws.FnExactMatrix': WHATEVER THE INPUT: true; the input reads as it did. -/
def fnExactMatrixSpec : ChangeSpec := { name := "fnExactMatrix", fn := fun _ => fun
  | [d1, d2] => { results := [.lit (.bool true)], args := [d1, d2] }
  | _ => none }
def fnExactMatrixRow : OpenClaim := { program := "ytdmcbdogpeidjaa", sum := "68b2589373e7a2585fd6d697c25f79bbcd5b751b0f3a3235f0da309c2ae02e60", func := "loop.example/g00066/laws.FnExactMatrix", spec := "fnExactMatrix", apart := false }
def FnExactMatrixSaid : Prop := fnExactMatrixRow.holds Try.pinned (OpenSpec.ofChange fnExactMatrixSpec)

/-- ITS FALSE NEIGHBOUR: 'it returns false'. Refute it at one input. -/
def fnExactMatrixWrong : ChangeSpec := { name := "fnExactMatrix", fn := fun _ => fun
  | [d1, d2] => { results := [.lit (.bool false)], args := [d1, d2] }
  | _ => none }
def FnExactMatrixWrongFalsely : Prop := fnExactMatrixRow.holds Try.pinned (OpenSpec.ofChange fnExactMatrixWrong)

/-- 'laws.FnExactCurve': WHATEVER THE INPUT: true; the input reads as it did. -/
def fnExactCurveSpec : ChangeSpec := { name := "fnExactCurve", fn := fun _ => fun
  | [d1, d2] => { results := [.lit (.bool true)], args := [d1, d2] }
  | _ => none }
def fnExactCurveRow : OpenClaim := { program := "ytdmcbdogpeidjaa", sum := "68b2589373e7a2585fd6d697c25f79bbcd5b751b0f3a3235f0da309c2ae02e60", func := "loop.example/g00066/laws.FnExactCurve", spec := "fnExactCurve", apart := false }
def FnExactCurveSaid : Prop := fnExactCurveRow.holds Try.pinned (OpenSpec.ofChange fnExactCurveSpec)

/-- ITS FALSE NEIGHBOUR: 'it returns false'. Refute it at one input. -/
def fnExactCurveWrong : ChangeSpec := { name := "fnExactCurve", fn := fun _ => fun
  | [d1, d2] => { results := [.lit (.bool false)], args := [d1, d2] }
  | _ => none }
def FnExactCurveWrongFalsely : Prop := fnExactCurveRow.holds Try.pinned (OpenSpec.ofChange fnExactCurveWrong)

/-- 'laws.FnExactCube': WHATEVER THE INPUT: true; the input reads as it did. -/
def fnExactCubeSpec : ChangeSpec := { name := "fnExactCube", fn := fun _ => fun
  | [d1, d2, d3] => { results := [.lit (.bool true)], args := [d1, d2, d3] }
  | _ => none }
def fnExactCubeRow : OpenClaim := { program := "ytdmcbdogpeidjaa", sum := "68b2589373e7a2585fd6d697c25f79bbcd5b751b0f3a3235f0da309c2ae02e60", func := "loop.example/g00066/laws.FnExactCube", spec := "fnExactCube", apart := false }
def FnExactCubeSaid : Prop := fnExactCubeRow.holds Try.pinned (OpenSpec.ofChange fnExactCubeSpec)

/-- ITS FALSE NEIGHBOUR: 'it returns false'. Refute it at one input. -/
def fnExactCubeWrong : ChangeSpec := { name := "fnExactCube", fn := fun _ => fun
  | [d1, d2, d3] => { results := [.lit (.bool false)], args := [d1, d2, d3] }
  | _ => none }
def FnExactCubeWrongFalsely : Prop := fnExactCubeRow.holds Try.pinned (OpenSpec.ofChange fnExactCubeWrong)

/-- 'laws.FnExactScope': WHATEVER THE INPUT: true; the input reads as it did. -/
def fnExactScopeSpec : ChangeSpec := { name := "fnExactScope", fn := fun _ => fun
  | [d] => { results := [.lit (.bool true)], args := [d] }
  | _ => none }
def fnExactScopeRow : OpenClaim := { program := "ytdmcbdogpeidjaa", sum := "68b2589373e7a2585fd6d697c25f79bbcd5b751b0f3a3235f0da309c2ae02e60", func := "loop.example/g00066/laws.FnExactScope", spec := "fnExactScope", apart := false }
def FnExactScopeSaid : Prop := fnExactScopeRow.holds Try.pinned (OpenSpec.ofChange fnExactScopeSpec)

/-- ITS FALSE NEIGHBOUR: 'it returns false'. Refute it at one input. -/
def fnExactScopeWrong : ChangeSpec := { name := "fnExactScope", fn := fun _ => fun
  | [d] => { results := [.lit (.bool false)], args := [d] }
  | _ => none }
def FnExactScopeWrongFalsely : Prop := fnExactScopeRow.holds Try.pinned (OpenSpec.ofChange fnExactScopeWrong)

/-- 'laws.FnExactKeyMask': WHATEVER THE INPUT: true; the input reads as it did. -/
def fnExactKeyMaskSpec : ChangeSpec := { name := "fnExactKeyMask", fn := fun _ => fun
  | [d1, d2, d3, d4] => { results := [.lit (.bool true)], args := [d1, d2, d3, d4] }
  | _ => none }
def fnExactKeyMaskRow : OpenClaim := { program := "ytdmcbdogpeidjaa", sum := "68b2589373e7a2585fd6d697c25f79bbcd5b751b0f3a3235f0da309c2ae02e60", func := "loop.example/g00066/laws.FnExactKeyMask", spec := "fnExactKeyMask", apart := false }
def FnExactKeyMaskSaid : Prop := fnExactKeyMaskRow.holds Try.pinned (OpenSpec.ofChange fnExactKeyMaskSpec)

/-- ITS FALSE NEIGHBOUR: 'it returns false'. Refute it at one input. -/
def fnExactKeyMaskWrong : ChangeSpec := { name := "fnExactKeyMask", fn := fun _ => fun
  | [d1, d2, d3, d4] => { results := [.lit (.bool false)], args := [d1, d2, d3, d4] }
  | _ => none }
def FnExactKeyMaskWrongFalsely : Prop := fnExactKeyMaskRow.holds Try.pinned (OpenSpec.ofChange fnExactKeyMaskWrong)

/- THE SECOND FORM. 'bulk': how many values and letters a reading holds, each counted each time it is reached (what is shared counts as often as it is met; a slice's spare places count too). A statement '..UptoSaid' is the law's where the arguments, and the package variables that the reading takes, are together of bulk at most 1048576: NARROWER than '..Said'. Prove '..Said' where nothing that the law and all that it calls make is longer than what came in: it says more and counts as full. Else prove '..UptoSaid'. A law counts once. -/
mutual
def uptoBulk {H : Type} : DataW H → Nat
  | .lit (.string bytes) => bytes.length + 1
  | .lit _ => 1
  | .nil => 1
  | .ptr d => uptoBulk d + 1
  | .slice elems spare => uptoBulkAll elems + uptoBulkAll spare + 1
  | .agg parts => uptoBulkAll parts + 1
  | .iface _ d => uptoBulk d + 1
  | .map entries => uptoBulkEntries entries + 1
  | .held _ => 1
def uptoBulkAll {H : Type} : List (DataW H) → Nat
  | [] => 0
  | d :: r => uptoBulk d + uptoBulkAll r
def uptoBulkEntries {H : Type} : List (Lit × DataW H) → Nat
  | [] => 0
  | x :: r => uptoBulkEntry x + uptoBulkEntries r
def uptoBulkEntry {H : Type} : Lit × DataW H → Nat
  | (.string bytes, d) => bytes.length + uptoBulk d + 1
  | (_, d) => uptoBulk d + 1
 end
def uptoSmall : (H : Type) → List (DataW H) → Bool := fun _ ds => decide (uptoBulkAll ds ≤ 1048576)
def OpenSpec.upto (s : _root_.Go.ChangeSpec) : _root_.Go.OpenSpec := { _root_.Go.OpenSpec.ofChange s with cond := some uptoSmall }

/-- 'laws.FnCubeBounds', WHERE WHAT IT READS IS OF BULK AT MOST 1048576: true; the input reads as it did. -/
def fnCubeBoundsUptoRow : OpenClaim := { program := "ytdmcbdogpeidjaa", sum := "68b2589373e7a2585fd6d697c25f79bbcd5b751b0f3a3235f0da309c2ae02e60", func := "loop.example/g00066/laws.FnCubeBounds", spec := "fnCubeBounds", apart := false, narrowed := true }
def FnCubeBoundsUptoSaid : Prop := fnCubeBoundsUptoRow.holds Try.pinned (OpenSpec.upto fnCubeBoundsSpec)

/-- 'laws.FnScope', WHERE WHAT IT READS IS OF BULK AT MOST 1048576: true; the input reads as it did. -/
def fnScopeUptoRow : OpenClaim := { program := "ytdmcbdogpeidjaa", sum := "68b2589373e7a2585fd6d697c25f79bbcd5b751b0f3a3235f0da309c2ae02e60", func := "loop.example/g00066/laws.FnScope", spec := "fnScope", apart := false, narrowed := true }
def FnScopeUptoSaid : Prop := fnScopeUptoRow.holds Try.pinned (OpenSpec.upto fnScopeSpec)

/-- 'laws.FnKeyed', WHERE WHAT IT READS IS OF BULK AT MOST 1048576: true; the input reads as it did. -/
def fnKeyedUptoRow : OpenClaim := { program := "ytdmcbdogpeidjaa", sum := "68b2589373e7a2585fd6d697c25f79bbcd5b751b0f3a3235f0da309c2ae02e60", func := "loop.example/g00066/laws.FnKeyed", spec := "fnKeyed", apart := false, narrowed := true }
def FnKeyedUptoSaid : Prop := fnKeyedUptoRow.holds Try.pinned (OpenSpec.upto fnKeyedSpec)

/-- 'laws.FnExactMatrix', WHERE WHAT IT READS IS OF BULK AT MOST 1048576: true; the input reads as it did. -/
def fnExactMatrixUptoRow : OpenClaim := { program := "ytdmcbdogpeidjaa", sum := "68b2589373e7a2585fd6d697c25f79bbcd5b751b0f3a3235f0da309c2ae02e60", func := "loop.example/g00066/laws.FnExactMatrix", spec := "fnExactMatrix", apart := false, narrowed := true }
def FnExactMatrixUptoSaid : Prop := fnExactMatrixUptoRow.holds Try.pinned (OpenSpec.upto fnExactMatrixSpec)

/-- 'laws.FnExactCurve', WHERE WHAT IT READS IS OF BULK AT MOST 1048576: true; the input reads as it did. -/
def fnExactCurveUptoRow : OpenClaim := { program := "ytdmcbdogpeidjaa", sum := "68b2589373e7a2585fd6d697c25f79bbcd5b751b0f3a3235f0da309c2ae02e60", func := "loop.example/g00066/laws.FnExactCurve", spec := "fnExactCurve", apart := false, narrowed := true }
def FnExactCurveUptoSaid : Prop := fnExactCurveUptoRow.holds Try.pinned (OpenSpec.upto fnExactCurveSpec)

/-- 'laws.FnExactCube', WHERE WHAT IT READS IS OF BULK AT MOST 1048576: true; the input reads as it did. -/
def fnExactCubeUptoRow : OpenClaim := { program := "ytdmcbdogpeidjaa", sum := "68b2589373e7a2585fd6d697c25f79bbcd5b751b0f3a3235f0da309c2ae02e60", func := "loop.example/g00066/laws.FnExactCube", spec := "fnExactCube", apart := false, narrowed := true }
def FnExactCubeUptoSaid : Prop := fnExactCubeUptoRow.holds Try.pinned (OpenSpec.upto fnExactCubeSpec)

/-- 'laws.FnExactScope', WHERE WHAT IT READS IS OF BULK AT MOST 1048576: true; the input reads as it did. -/
def fnExactScopeUptoRow : OpenClaim := { program := "ytdmcbdogpeidjaa", sum := "68b2589373e7a2585fd6d697c25f79bbcd5b751b0f3a3235f0da309c2ae02e60", func := "loop.example/g00066/laws.FnExactScope", spec := "fnExactScope", apart := false, narrowed := true }
def FnExactScopeUptoSaid : Prop := fnExactScopeUptoRow.holds Try.pinned (OpenSpec.upto fnExactScopeSpec)

/-- 'laws.FnExactKeyMask', WHERE WHAT IT READS IS OF BULK AT MOST 1048576: true; the input reads as it did. -/
def fnExactKeyMaskUptoRow : OpenClaim := { program := "ytdmcbdogpeidjaa", sum := "68b2589373e7a2585fd6d697c25f79bbcd5b751b0f3a3235f0da309c2ae02e60", func := "loop.example/g00066/laws.FnExactKeyMask", spec := "fnExactKeyMask", apart := false, narrowed := true }
def FnExactKeyMaskUptoSaid : Prop := fnExactKeyMaskUptoRow.holds Try.pinned (OpenSpec.upto fnExactKeyMaskSpec)

end Rows
end Go.Proofs.Ytdmcbdogpeidjaa
