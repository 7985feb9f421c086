/-
  No cell of these rows narrows 'for every input' (looked for: loops, veiled, ifaces, maps, wideKeys, modest, calm, conditions, laid).
  DERIVED. THE GIVEN ROWS OF THIS SEAT. 8 by the template 'for every input the law returns true; each argument reads behind the call as it read before'; 0 by the template 'total and deterministic' (their statements: YtffibbcombjkcaaTotals.lean).
  GIVEN WITH THE SEED: the statements are not yours to turn. If you find one false, say at which input.
  Laid BY PROGRAM, IN A SANDBOX (cutbox-rows.mjs): the forced cells as the released guide's own fill.sh prints them over the translation ba4e5a0ad14df30f… (all of the seat's roots in one cut). By AI agents, Wed Nov 11 2026. No macro, syntax, notation, axiom, sorry.
-/
import Derived.Test.YtffibbcombjkcaaChecked
import GoSem.Claim
import GoSem.ClaimJoined
import GoSem.ClaimMapViews
import Derived.JoinedTies
import Derived.KernelRfl
namespace Go.Proofs.Ytffibbcombjkcaa
/- THE CELL 'sum', in the pinned program and in every row, IS THE sha256 OF THE DUMP (.gsa) THAT YtffibbcombjkcaaProg.lean LOADS. Nothing in Lean hashes anything: it is a label: what it is worth is what the hold of that sum in a sandbox is worth. -/
noncomputable def Try.pinned : Pinned := { name := "ytffibbcombjkcaa", sum := "ba4e5a0ad14df30f5fb22c4757464a5be054eaf95505f90d8110ec9f7603e2df", checked := Try.checked }
namespace Rows
def none {H : Type} : Left H := { results := [], args := [] }

/-- 'laws.FnTimeBack': WHATEVER THE INPUT: true; the input reads as it did. -/
def fnTimeBackSpec : ChangeSpec := { name := "fnTimeBack", fn := fun _ => fun
  | [d] => { results := [.lit (.bool true)], args := [d] }
  | _ => none }
def fnTimeBackRow : OpenClaim := { program := "ytffibbcombjkcaa", sum := "ba4e5a0ad14df30f5fb22c4757464a5be054eaf95505f90d8110ec9f7603e2df", func := "loop.example/g00066/laws.FnTimeBack", spec := "fnTimeBack", recurses := true, apart := false }
def FnTimeBackSaid : Prop := fnTimeBackRow.holds Try.pinned (OpenSpec.ofChange fnTimeBackSpec)

/-- ITS FALSE NEIGHBOUR: 'it returns false'. Refute it at one input. -/
def fnTimeBackWrong : ChangeSpec := { name := "fnTimeBack", fn := fun _ => fun
  | [d] => { results := [.lit (.bool false)], args := [d] }
  | _ => none }
def FnTimeBackWrongFalsely : Prop := fnTimeBackRow.holds Try.pinned (OpenSpec.ofChange fnTimeBackWrong)

/-- 'laws.FnRates': WHATEVER THE INPUT: true; the input reads as it did. -/
def fnRatesSpec : ChangeSpec := { name := "fnRates", fn := fun _ => fun
  | [d] => { results := [.lit (.bool true)], args := [d] }
  | _ => none }
def fnRatesRow : OpenClaim := { program := "ytffibbcombjkcaa", sum := "ba4e5a0ad14df30f5fb22c4757464a5be054eaf95505f90d8110ec9f7603e2df", func := "loop.example/g00066/laws.FnRates", spec := "fnRates", apart := false }
def FnRatesSaid : Prop := fnRatesRow.holds Try.pinned (OpenSpec.ofChange fnRatesSpec)

/-- ITS FALSE NEIGHBOUR: 'it returns false'. Refute it at one input. -/
def fnRatesWrong : ChangeSpec := { name := "fnRates", fn := fun _ => fun
  | [d] => { results := [.lit (.bool false)], args := [d] }
  | _ => none }
def FnRatesWrongFalsely : Prop := fnRatesRow.holds Try.pinned (OpenSpec.ofChange fnRatesWrong)

/-- 'laws.FnExactRateOk': WHATEVER THE INPUT: true; the input reads as it did. -/
def fnExactRateOkSpec : ChangeSpec := { name := "fnExactRateOk", fn := fun _ => fun
  | [d] => { results := [.lit (.bool true)], args := [d] }
  | _ => none }
def fnExactRateOkRow : OpenClaim := { program := "ytffibbcombjkcaa", sum := "ba4e5a0ad14df30f5fb22c4757464a5be054eaf95505f90d8110ec9f7603e2df", func := "loop.example/g00066/laws.FnExactRateOk", spec := "fnExactRateOk", apart := false }
def FnExactRateOkSaid : Prop := fnExactRateOkRow.holds Try.pinned (OpenSpec.ofChange fnExactRateOkSpec)

/-- ITS FALSE NEIGHBOUR: 'it returns false'. Refute it at one input. -/
def fnExactRateOkWrong : ChangeSpec := { name := "fnExactRateOk", fn := fun _ => fun
  | [d] => { results := [.lit (.bool false)], args := [d] }
  | _ => none }
def FnExactRateOkWrongFalsely : Prop := fnExactRateOkRow.holds Try.pinned (OpenSpec.ofChange fnExactRateOkWrong)

/-- 'laws.FnExactBase': WHATEVER THE INPUT: true; the input reads as it did. -/
def fnExactBaseSpec : ChangeSpec := { name := "fnExactBase", fn := fun _ => fun
  | [d] => { results := [.lit (.bool true)], args := [d] }
  | _ => none }
def fnExactBaseRow : OpenClaim := { program := "ytffibbcombjkcaa", sum := "ba4e5a0ad14df30f5fb22c4757464a5be054eaf95505f90d8110ec9f7603e2df", func := "loop.example/g00066/laws.FnExactBase", spec := "fnExactBase", apart := false }
def FnExactBaseSaid : Prop := fnExactBaseRow.holds Try.pinned (OpenSpec.ofChange fnExactBaseSpec)

/-- ITS FALSE NEIGHBOUR: 'it returns false'. Refute it at one input. -/
def fnExactBaseWrong : ChangeSpec := { name := "fnExactBase", fn := fun _ => fun
  | [d] => { results := [.lit (.bool false)], args := [d] }
  | _ => none }
def FnExactBaseWrongFalsely : Prop := fnExactBaseRow.holds Try.pinned (OpenSpec.ofChange fnExactBaseWrong)

/-- 'laws.FnExactTimeText': WHATEVER THE INPUT: true; the input reads as it did. -/
def fnExactTimeTextSpec : ChangeSpec := { name := "fnExactTimeText", fn := fun _ => fun
  | [d1, d2] => { results := [.lit (.bool true)], args := [d1, d2] }
  | _ => none }
def fnExactTimeTextRow : OpenClaim := { program := "ytffibbcombjkcaa", sum := "ba4e5a0ad14df30f5fb22c4757464a5be054eaf95505f90d8110ec9f7603e2df", func := "loop.example/g00066/laws.FnExactTimeText", spec := "fnExactTimeText", recurses := true, apart := false }
def FnExactTimeTextSaid : Prop := fnExactTimeTextRow.holds Try.pinned (OpenSpec.ofChange fnExactTimeTextSpec)

/-- ITS FALSE NEIGHBOUR: 'it returns false'. Refute it at one input. -/
def fnExactTimeTextWrong : ChangeSpec := { name := "fnExactTimeText", fn := fun _ => fun
  | [d1, d2] => { results := [.lit (.bool false)], args := [d1, d2] }
  | _ => none }
def FnExactTimeTextWrongFalsely : Prop := fnExactTimeTextRow.holds Try.pinned (OpenSpec.ofChange fnExactTimeTextWrong)

/-- 'laws.FnExactTimeRead': WHATEVER THE INPUT: true; the input reads as it did. -/
def fnExactTimeReadSpec : ChangeSpec := { name := "fnExactTimeRead", fn := fun _ => fun
  | [d1, d2] => { results := [.lit (.bool true)], args := [d1, d2] }
  | _ => none }
def fnExactTimeReadRow : OpenClaim := { program := "ytffibbcombjkcaa", sum := "ba4e5a0ad14df30f5fb22c4757464a5be054eaf95505f90d8110ec9f7603e2df", func := "loop.example/g00066/laws.FnExactTimeRead", spec := "fnExactTimeRead", recurses := true, apart := false }
def FnExactTimeReadSaid : Prop := fnExactTimeReadRow.holds Try.pinned (OpenSpec.ofChange fnExactTimeReadSpec)

/-- ITS FALSE NEIGHBOUR: 'it returns false'. Refute it at one input. -/
def fnExactTimeReadWrong : ChangeSpec := { name := "fnExactTimeRead", fn := fun _ => fun
  | [d1, d2] => { results := [.lit (.bool false)], args := [d1, d2] }
  | _ => none }
def FnExactTimeReadWrongFalsely : Prop := fnExactTimeReadRow.holds Try.pinned (OpenSpec.ofChange fnExactTimeReadWrong)

/-- 'laws.FnExactInstant': WHATEVER THE INPUT: true; the input reads as it did. -/
def fnExactInstantSpec : ChangeSpec := { name := "fnExactInstant", fn := fun _ => fun
  | [d1, d2, d3] => { results := [.lit (.bool true)], args := [d1, d2, d3] }
  | _ => none }
def fnExactInstantRow : OpenClaim := { program := "ytffibbcombjkcaa", sum := "ba4e5a0ad14df30f5fb22c4757464a5be054eaf95505f90d8110ec9f7603e2df", func := "loop.example/g00066/laws.FnExactInstant", spec := "fnExactInstant", apart := false }
def FnExactInstantSaid : Prop := fnExactInstantRow.holds Try.pinned (OpenSpec.ofChange fnExactInstantSpec)

/-- ITS FALSE NEIGHBOUR: 'it returns false'. Refute it at one input. -/
def fnExactInstantWrong : ChangeSpec := { name := "fnExactInstant", fn := fun _ => fun
  | [d1, d2, d3] => { results := [.lit (.bool false)], args := [d1, d2, d3] }
  | _ => none }
def FnExactInstantWrongFalsely : Prop := fnExactInstantRow.holds Try.pinned (OpenSpec.ofChange fnExactInstantWrong)

/-- 'laws.FnExactFrameIn': WHATEVER THE INPUT: true; the input reads as it did. -/
def fnExactFrameInSpec : ChangeSpec := { name := "fnExactFrameIn", fn := fun _ => fun
  | [d1, d2, d3] => { results := [.lit (.bool true)], args := [d1, d2, d3] }
  | _ => none }
def fnExactFrameInRow : OpenClaim := { program := "ytffibbcombjkcaa", sum := "ba4e5a0ad14df30f5fb22c4757464a5be054eaf95505f90d8110ec9f7603e2df", func := "loop.example/g00066/laws.FnExactFrameIn", spec := "fnExactFrameIn", apart := false }
def FnExactFrameInSaid : Prop := fnExactFrameInRow.holds Try.pinned (OpenSpec.ofChange fnExactFrameInSpec)

/-- ITS FALSE NEIGHBOUR: 'it returns false'. Refute it at one input. -/
def fnExactFrameInWrong : ChangeSpec := { name := "fnExactFrameIn", fn := fun _ => fun
  | [d1, d2, d3] => { results := [.lit (.bool false)], args := [d1, d2, d3] }
  | _ => none }
def FnExactFrameInWrongFalsely : Prop := fnExactFrameInRow.holds Try.pinned (OpenSpec.ofChange fnExactFrameInWrong)

/- THE SECOND FORM. 'bulk': how many values and letters a reading holds, each counted each time it is reached (what is shared counts as often as it is met; a slice's spare places count too). A statement '..UptoSaid' is the law's where the arguments, and the package variables that the reading takes, are together of bulk at most 1048576: NARROWER than '..Said'. Prove '..Said' where nothing that the law and all that it calls make is longer than what came in: it says more and counts as full. Else prove '..UptoSaid'. A law counts once. -/
mutual
def uptoBulk {H : Type} : DataW H → Nat
  | .lit (.string bytes) => bytes.length + 1
  | .lit _ => 1
  | .nil => 1
  | .ptr d => uptoBulk d + 1
  | .slice elems spare => uptoBulkAll elems + uptoBulkAll spare + 1
  | .agg parts => uptoBulkAll parts + 1
  | .iface _ d => uptoBulk d + 1
  | .map entries => uptoBulkEntries entries + 1
  | .held _ => 1
def uptoBulkAll {H : Type} : List (DataW H) → Nat
  | [] => 0
  | d :: r => uptoBulk d + uptoBulkAll r
def uptoBulkEntries {H : Type} : List (Lit × DataW H) → Nat
  | [] => 0
  | x :: r => uptoBulkEntry x + uptoBulkEntries r
def uptoBulkEntry {H : Type} : Lit × DataW H → Nat
  | (.string bytes, d) => bytes.length + uptoBulk d + 1
  | (_, d) => uptoBulk d + 1
 end
def uptoSmall : (H : Type) → List (DataW H) → Bool := fun _ ds => decide (uptoBulkAll ds ≤ 1048576)
def OpenSpec.upto (s : _root_.Go.ChangeSpec) : _root_.Go.OpenSpec := { _root_.Go.OpenSpec.ofChange s with cond := some uptoSmall }

/-- 'laws.FnTimeBack', WHERE WHAT IT READS IS OF BULK AT MOST 1048576: true; the input reads as it did. -/
def fnTimeBackUptoRow : OpenClaim := { program := "ytffibbcombjkcaa", sum := "ba4e5a0ad14df30f5fb22c4757464a5be054eaf95505f90d8110ec9f7603e2df", func := "loop.example/g00066/laws.FnTimeBack", spec := "fnTimeBack", recurses := true, apart := false, narrowed := true }
def FnTimeBackUptoSaid : Prop := fnTimeBackUptoRow.holds Try.pinned (OpenSpec.upto fnTimeBackSpec)

/-- 'laws.FnRates', WHERE WHAT IT READS IS OF BULK AT MOST 1048576: true; the input reads as it did. -/
def fnRatesUptoRow : OpenClaim := { program := "ytffibbcombjkcaa", sum := "ba4e5a0ad14df30f5fb22c4757464a5be054eaf95505f90d8110ec9f7603e2df", func := "loop.example/g00066/laws.FnRates", spec := "fnRates", apart := false, narrowed := true }
def FnRatesUptoSaid : Prop := fnRatesUptoRow.holds Try.pinned (OpenSpec.upto fnRatesSpec)

/-- 'laws.FnExactRateOk', WHERE WHAT IT READS IS OF BULK AT MOST 1048576: true; the input reads as it did. -/
def fnExactRateOkUptoRow : OpenClaim := { program := "ytffibbcombjkcaa", sum := "ba4e5a0ad14df30f5fb22c4757464a5be054eaf95505f90d8110ec9f7603e2df", func := "loop.example/g00066/laws.FnExactRateOk", spec := "fnExactRateOk", apart := false, narrowed := true }
def FnExactRateOkUptoSaid : Prop := fnExactRateOkUptoRow.holds Try.pinned (OpenSpec.upto fnExactRateOkSpec)

/-- 'laws.FnExactBase', WHERE WHAT IT READS IS OF BULK AT MOST 1048576: true; the input reads as it did. -/
def fnExactBaseUptoRow : OpenClaim := { program := "ytffibbcombjkcaa", sum := "ba4e5a0ad14df30f5fb22c4757464a5be054eaf95505f90d8110ec9f7603e2df", func := "loop.example/g00066/laws.FnExactBase", spec := "fnExactBase", apart := false, narrowed := true }
def FnExactBaseUptoSaid : Prop := fnExactBaseUptoRow.holds Try.pinned (OpenSpec.upto fnExactBaseSpec)

/-- 'laws.FnExactTimeText', WHERE WHAT IT READS IS OF BULK AT MOST 1048576: true; the input reads as it did. -/
def fnExactTimeTextUptoRow : OpenClaim := { program := "ytffibbcombjkcaa", sum := "ba4e5a0ad14df30f5fb22c4757464a5be054eaf95505f90d8110ec9f7603e2df", func := "loop.example/g00066/laws.FnExactTimeText", spec := "fnExactTimeText", recurses := true, apart := false, narrowed := true }
def FnExactTimeTextUptoSaid : Prop := fnExactTimeTextUptoRow.holds Try.pinned (OpenSpec.upto fnExactTimeTextSpec)

/-- 'laws.FnExactTimeRead', WHERE WHAT IT READS IS OF BULK AT MOST 1048576: true; the input reads as it did. -/
def fnExactTimeReadUptoRow : OpenClaim := { program := "ytffibbcombjkcaa", sum := "ba4e5a0ad14df30f5fb22c4757464a5be054eaf95505f90d8110ec9f7603e2df", func := "loop.example/g00066/laws.FnExactTimeRead", spec := "fnExactTimeRead", recurses := true, apart := false, narrowed := true }
def FnExactTimeReadUptoSaid : Prop := fnExactTimeReadUptoRow.holds Try.pinned (OpenSpec.upto fnExactTimeReadSpec)

/-- 'laws.FnExactInstant', WHERE WHAT IT READS IS OF BULK AT MOST 1048576: true; the input reads as it did. -/
def fnExactInstantUptoRow : OpenClaim := { program := "ytffibbcombjkcaa", sum := "ba4e5a0ad14df30f5fb22c4757464a5be054eaf95505f90d8110ec9f7603e2df", func := "loop.example/g00066/laws.FnExactInstant", spec := "fnExactInstant", apart := false, narrowed := true }
def FnExactInstantUptoSaid : Prop := fnExactInstantUptoRow.holds Try.pinned (OpenSpec.upto fnExactInstantSpec)

/-- 'laws.FnExactFrameIn', WHERE WHAT IT READS IS OF BULK AT MOST 1048576: true; the input reads as it did. -/
def fnExactFrameInUptoRow : OpenClaim := { program := "ytffibbcombjkcaa", sum := "ba4e5a0ad14df30f5fb22c4757464a5be054eaf95505f90d8110ec9f7603e2df", func := "loop.example/g00066/laws.FnExactFrameIn", spec := "fnExactFrameIn", apart := false, narrowed := true }
def FnExactFrameInUptoSaid : Prop := fnExactFrameInUptoRow.holds Try.pinned (OpenSpec.upto fnExactFrameInSpec)

end Rows
end Go.Proofs.Ytffibbcombjkcaa
