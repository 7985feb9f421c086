/-
  No cell of these rows narrows 'for every input' (looked for: loops, veiled, ifaces, maps, wideKeys, modest, calm, conditions, laid).
  DERIVED. THE GIVEN ROWS OF THIS SEAT. 7 by the template 'for every input the law returns true; each argument reads behind the call as it read before'; 0 by the template 'total and deterministic' (their statements: YtbmkbhondlecaaaTotals.lean).
  GIVEN WITH THE SEED: the statements are not yours to turn. If you find one false, say at which input.
  Laid BY PROGRAM, IN A SANDBOX (cutbox-rows.mjs): the forced cells as the released guide's own fill.sh prints them over the translation c529087f42141b5c… (all of the seat's roots in one cut). By AI agents, Wed Nov 11 2026. No macro, syntax, notation, axiom, sorry.
-/
import Derived.Test.YtbmkbhondlecaaaChecked
import GoSem.Claim
import GoSem.ClaimJoined
import GoSem.ClaimMapViews
import Derived.JoinedTies
import Derived.KernelRfl
namespace Go.Proofs.Ytbmkbhondlecaaa
/- THE CELL 'sum', in the pinned program and in every row, IS THE sha256 OF THE DUMP (.gsa) THAT YtbmkbhondlecaaaProg.lean LOADS. Nothing in Lean hashes anything: it is a label: what it is worth is what the hold of that sum in a sandbox is worth. -/
noncomputable def Try.pinned : Pinned := { name := "ytbmkbhondlecaaa", sum := "c529087f42141b5ce06003e74a3b19550f13fa46f2174efc886536a99a63b19f", checked := Try.checked }
namespace Rows
def none {H : Type} : Left H := { results := [], args := [] }

/-- 'laws.FnSpeed': WHATEVER THE INPUT: true; the input reads as it did. -/
def fnSpeedSpec : ChangeSpec := { name := "fnSpeed", fn := fun _ => fun
  | [d] => { results := [.lit (.bool true)], args := [d] }
  | _ => none }
def fnSpeedRow : OpenClaim := { program := "ytbmkbhondlecaaa", sum := "c529087f42141b5ce06003e74a3b19550f13fa46f2174efc886536a99a63b19f", func := "loop.example/g00066/laws.FnSpeed", spec := "fnSpeed", unfollowed := true, recurses := true, apart := false }
def FnSpeedSaid : Prop := fnSpeedRow.holds Try.pinned (OpenSpec.ofChange fnSpeedSpec)

/-- ITS FALSE NEIGHBOUR: 'it returns false'. Refute it at one input. -/
def fnSpeedWrong : ChangeSpec := { name := "fnSpeed", fn := fun _ => fun
  | [d] => { results := [.lit (.bool false)], args := [d] }
  | _ => none }
def FnSpeedWrongFalsely : Prop := fnSpeedRow.holds Try.pinned (OpenSpec.ofChange fnSpeedWrong)

/-- 'laws.FnRetimed': WHATEVER THE INPUT: true; the input reads as it did. -/
def fnRetimedSpec : ChangeSpec := { name := "fnRetimed", fn := fun _ => fun
  | [d] => { results := [.lit (.bool true)], args := [d] }
  | _ => none }
def fnRetimedRow : OpenClaim := { program := "ytbmkbhondlecaaa", sum := "c529087f42141b5ce06003e74a3b19550f13fa46f2174efc886536a99a63b19f", func := "loop.example/g00066/laws.FnRetimed", spec := "fnRetimed", unfollowed := true, recurses := true, apart := false }
def FnRetimedSaid : Prop := fnRetimedRow.holds Try.pinned (OpenSpec.ofChange fnRetimedSpec)

/-- ITS FALSE NEIGHBOUR: 'it returns false'. Refute it at one input. -/
def fnRetimedWrong : ChangeSpec := { name := "fnRetimed", fn := fun _ => fun
  | [d] => { results := [.lit (.bool false)], args := [d] }
  | _ => none }
def FnRetimedWrongFalsely : Prop := fnRetimedRow.holds Try.pinned (OpenSpec.ofChange fnRetimedWrong)

/-- 'laws.FnExactKeysOk': WHATEVER THE INPUT: true; the input reads as it did. -/
def fnExactKeysOkSpec : ChangeSpec := { name := "fnExactKeysOk", fn := fun _ => fun
  | [d] => { results := [.lit (.bool true)], args := [d] }
  | _ => none }
def fnExactKeysOkRow : OpenClaim := { program := "ytbmkbhondlecaaa", sum := "c529087f42141b5ce06003e74a3b19550f13fa46f2174efc886536a99a63b19f", func := "loop.example/g00066/laws.FnExactKeysOk", spec := "fnExactKeysOk", apart := false }
def FnExactKeysOkSaid : Prop := fnExactKeysOkRow.holds Try.pinned (OpenSpec.ofChange fnExactKeysOkSpec)

/-- ITS FALSE NEIGHBOUR: 'it returns false'. Refute it at one input. -/
def fnExactKeysOkWrong : ChangeSpec := { name := "fnExactKeysOk", fn := fun _ => fun
  | [d] => { results := [.lit (.bool false)], args := [d] }
  | _ => none }
def FnExactKeysOkWrongFalsely : Prop := fnExactKeysOkRow.holds Try.pinned (OpenSpec.ofChange fnExactKeysOkWrong)

/-- 'laws.FnExactSpeedAt': WHATEVER THE INPUT: true; the input reads as it did. -/
def fnExactSpeedAtSpec : ChangeSpec := { name := "fnExactSpeedAt", fn := fun _ => fun
  | [d1, d2] => { results := [.lit (.bool true)], args := [d1, d2] }
  | _ => none }
def fnExactSpeedAtRow : OpenClaim := { program := "ytbmkbhondlecaaa", sum := "c529087f42141b5ce06003e74a3b19550f13fa46f2174efc886536a99a63b19f", func := "loop.example/g00066/laws.FnExactSpeedAt", spec := "fnExactSpeedAt", unfollowed := true, recurses := true, apart := false }
def FnExactSpeedAtSaid : Prop := fnExactSpeedAtRow.holds Try.pinned (OpenSpec.ofChange fnExactSpeedAtSpec)

/-- ITS FALSE NEIGHBOUR: 'it returns false'. Refute it at one input. -/
def fnExactSpeedAtWrong : ChangeSpec := { name := "fnExactSpeedAt", fn := fun _ => fun
  | [d1, d2] => { results := [.lit (.bool false)], args := [d1, d2] }
  | _ => none }
def FnExactSpeedAtWrongFalsely : Prop := fnExactSpeedAtRow.holds Try.pinned (OpenSpec.ofChange fnExactSpeedAtWrong)

/-- 'laws.FnExactRetime': WHATEVER THE INPUT: true; the input reads as it did. -/
def fnExactRetimeSpec : ChangeSpec := { name := "fnExactRetime", fn := fun _ => fun
  | [d1, d2, d3] => { results := [.lit (.bool true)], args := [d1, d2, d3] }
  | _ => none }
def fnExactRetimeRow : OpenClaim := { program := "ytbmkbhondlecaaa", sum := "c529087f42141b5ce06003e74a3b19550f13fa46f2174efc886536a99a63b19f", func := "loop.example/g00066/laws.FnExactRetime", spec := "fnExactRetime", unfollowed := true, recurses := true, apart := false }
def FnExactRetimeSaid : Prop := fnExactRetimeRow.holds Try.pinned (OpenSpec.ofChange fnExactRetimeSpec)

/-- ITS FALSE NEIGHBOUR: 'it returns false'. Refute it at one input. -/
def fnExactRetimeWrong : ChangeSpec := { name := "fnExactRetime", fn := fun _ => fun
  | [d1, d2, d3] => { results := [.lit (.bool false)], args := [d1, d2, d3] }
  | _ => none }
def FnExactRetimeWrongFalsely : Prop := fnExactRetimeRow.holds Try.pinned (OpenSpec.ofChange fnExactRetimeWrong)

/-- 'laws.FnExactReverse': WHATEVER THE INPUT: true; the input reads as it did. -/
def fnExactReverseSpec : ChangeSpec := { name := "fnExactReverse", fn := fun _ => fun
  | [d] => { results := [.lit (.bool true)], args := [d] }
  | _ => none }
def fnExactReverseRow : OpenClaim := { program := "ytbmkbhondlecaaa", sum := "c529087f42141b5ce06003e74a3b19550f13fa46f2174efc886536a99a63b19f", func := "loop.example/g00066/laws.FnExactReverse", spec := "fnExactReverse", unfollowed := true, recurses := true, apart := false }
def FnExactReverseSaid : Prop := fnExactReverseRow.holds Try.pinned (OpenSpec.ofChange fnExactReverseSpec)

/-- ITS FALSE NEIGHBOUR: 'it returns false'. Refute it at one input. -/
def fnExactReverseWrong : ChangeSpec := { name := "fnExactReverse", fn := fun _ => fun
  | [d] => { results := [.lit (.bool false)], args := [d] }
  | _ => none }
def FnExactReverseWrongFalsely : Prop := fnExactReverseRow.holds Try.pinned (OpenSpec.ofChange fnExactReverseWrong)

/-- 'laws.FnExactBlend': WHATEVER THE INPUT: true; the input reads as it did. -/
def fnExactBlendSpec : ChangeSpec := { name := "fnExactBlend", fn := fun _ => fun
  | [d1, d2] => { results := [.lit (.bool true)], args := [d1, d2] }
  | _ => none }
def fnExactBlendRow : OpenClaim := { program := "ytbmkbhondlecaaa", sum := "c529087f42141b5ce06003e74a3b19550f13fa46f2174efc886536a99a63b19f", func := "loop.example/g00066/laws.FnExactBlend", spec := "fnExactBlend", unfollowed := true, recurses := true, apart := false }
def FnExactBlendSaid : Prop := fnExactBlendRow.holds Try.pinned (OpenSpec.ofChange fnExactBlendSpec)

/-- ITS FALSE NEIGHBOUR: 'it returns false'. Refute it at one input. -/
def fnExactBlendWrong : ChangeSpec := { name := "fnExactBlend", fn := fun _ => fun
  | [d1, d2] => { results := [.lit (.bool false)], args := [d1, d2] }
  | _ => none }
def FnExactBlendWrongFalsely : Prop := fnExactBlendRow.holds Try.pinned (OpenSpec.ofChange fnExactBlendWrong)

/- THE SECOND FORM. 'bulk': how many values and letters a reading holds, each counted each time it is reached (what is shared counts as often as it is met; a slice's spare places count too). A statement '..UptoSaid' is the law's where the arguments, and the package variables that the reading takes, are together of bulk at most 1048576: NARROWER than '..Said'. Prove '..Said' where nothing that the law and all that it calls make is longer than what came in: it says more and counts as full. Else prove '..UptoSaid'. A law counts once. -/
mutual
def uptoBulk {H : Type} : DataW H → Nat
  | .lit (.string bytes) => bytes.length + 1
  | .lit _ => 1
  | .nil => 1
  | .ptr d => uptoBulk d + 1
  | .slice elems spare => uptoBulkAll elems + uptoBulkAll spare + 1
  | .agg parts => uptoBulkAll parts + 1
  | .iface _ d => uptoBulk d + 1
  | .map entries => uptoBulkEntries entries + 1
  | .held _ => 1
def uptoBulkAll {H : Type} : List (DataW H) → Nat
  | [] => 0
  | d :: r => uptoBulk d + uptoBulkAll r
def uptoBulkEntries {H : Type} : List (Lit × DataW H) → Nat
  | [] => 0
  | x :: r => uptoBulkEntry x + uptoBulkEntries r
def uptoBulkEntry {H : Type} : Lit × DataW H → Nat
  | (.string bytes, d) => bytes.length + uptoBulk d + 1
  | (_, d) => uptoBulk d + 1
 end
def uptoSmall : (H : Type) → List (DataW H) → Bool := fun _ ds => decide (uptoBulkAll ds ≤ 1048576)
def OpenSpec.upto (s : _root_.Go.ChangeSpec) : _root_.Go.OpenSpec := { _root_.Go.OpenSpec.ofChange s with cond := some uptoSmall }

/-- 'laws.FnSpeed', WHERE WHAT IT READS IS OF BULK AT MOST 1048576: true; the input reads as it did. -/
def fnSpeedUptoRow : OpenClaim := { program := "ytbmkbhondlecaaa", sum := "c529087f42141b5ce06003e74a3b19550f13fa46f2174efc886536a99a63b19f", func := "loop.example/g00066/laws.FnSpeed", spec := "fnSpeed", unfollowed := true, recurses := true, apart := false, narrowed := true }
def FnSpeedUptoSaid : Prop := fnSpeedUptoRow.holds Try.pinned (OpenSpec.upto fnSpeedSpec)

/-- 'laws.FnRetimed', WHERE WHAT IT READS IS OF BULK AT MOST 1048576: true; the input reads as it did. -/
def fnRetimedUptoRow : OpenClaim := { program := "ytbmkbhondlecaaa", sum := "c529087f42141b5ce06003e74a3b19550f13fa46f2174efc886536a99a63b19f", func := "loop.example/g00066/laws.FnRetimed", spec := "fnRetimed", unfollowed := true, recurses := true, apart := false, narrowed := true }
def FnRetimedUptoSaid : Prop := fnRetimedUptoRow.holds Try.pinned (OpenSpec.upto fnRetimedSpec)

/-- 'laws.FnExactKeysOk', WHERE WHAT IT READS IS OF BULK AT MOST 1048576: true; the input reads as it did. -/
def fnExactKeysOkUptoRow : OpenClaim := { program := "ytbmkbhondlecaaa", sum := "c529087f42141b5ce06003e74a3b19550f13fa46f2174efc886536a99a63b19f", func := "loop.example/g00066/laws.FnExactKeysOk", spec := "fnExactKeysOk", apart := false, narrowed := true }
def FnExactKeysOkUptoSaid : Prop := fnExactKeysOkUptoRow.holds Try.pinned (OpenSpec.upto fnExactKeysOkSpec)

/-- 'laws.FnExactSpeedAt', WHERE WHAT IT READS IS OF BULK AT MOST 1048576: true; the input reads as it did. -/
def fnExactSpeedAtUptoRow : OpenClaim := { program := "ytbmkbhondlecaaa", sum := "c529087f42141b5ce06003e74a3b19550f13fa46f2174efc886536a99a63b19f", func := "loop.example/g00066/laws.FnExactSpeedAt", spec := "fnExactSpeedAt", unfollowed := true, recurses := true, apart := false, narrowed := true }
def FnExactSpeedAtUptoSaid : Prop := fnExactSpeedAtUptoRow.holds Try.pinned (OpenSpec.upto fnExactSpeedAtSpec)

/-- 'laws.FnExactRetime', WHERE WHAT IT READS IS OF BULK AT MOST 1048576: true; the input reads as it did. -/
def fnExactRetimeUptoRow : OpenClaim := { program := "ytbmkbhondlecaaa", sum := "c529087f42141b5ce06003e74a3b19550f13fa46f2174efc886536a99a63b19f", func := "loop.example/g00066/laws.FnExactRetime", spec := "fnExactRetime", unfollowed := true, recurses := true, apart := false, narrowed := true }
def FnExactRetimeUptoSaid : Prop := fnExactRetimeUptoRow.holds Try.pinned (OpenSpec.upto fnExactRetimeSpec)

/-- 'laws.FnExactReverse', WHERE WHAT IT READS IS OF BULK AT MOST 1048576: true; the input reads as it did. -/
def fnExactReverseUptoRow : OpenClaim := { program := "ytbmkbhondlecaaa", sum := "c529087f42141b5ce06003e74a3b19550f13fa46f2174efc886536a99a63b19f", func := "loop.example/g00066/laws.FnExactReverse", spec := "fnExactReverse", unfollowed := true, recurses := true, apart := false, narrowed := true }
def FnExactReverseUptoSaid : Prop := fnExactReverseUptoRow.holds Try.pinned (OpenSpec.upto fnExactReverseSpec)

/-- 'laws.FnExactBlend', WHERE WHAT IT READS IS OF BULK AT MOST 1048576: true; the input reads as it did. -/
def fnExactBlendUptoRow : OpenClaim := { program := "ytbmkbhondlecaaa", sum := "c529087f42141b5ce06003e74a3b19550f13fa46f2174efc886536a99a63b19f", func := "loop.example/g00066/laws.FnExactBlend", spec := "fnExactBlend", unfollowed := true, recurses := true, apart := false, narrowed := true }
def FnExactBlendUptoSaid : Prop := fnExactBlendUptoRow.holds Try.pinned (OpenSpec.upto fnExactBlendSpec)

end Rows
end Go.Proofs.Ytbmkbhondlecaaa
