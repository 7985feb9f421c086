/-
  DERIVED. GIVEN WITH THE SEED: THE CARDS: each row of YtioaehjppiodfaaGreatDoorRows.lean that lists a variable, with what it lists TIED to the program's text (the seventh form; the later family's looks); each row that meets fmt, with fmt's text TOLD by the authors' own Lean function (tested against real Go, not proved from fmt's source: count such statements apart). THE CARD IS WHAT COUNTS. Prove the row's statement (the work); the ties are given (YtioaehjppiodfaaGreatDoorTie.lean); close each card by the builder's one call (the guide's Derived/Test/ToyasCard.lean, 'card_holds'). Laid BY PROGRAM, IN A SANDBOX (cutbox-door.mjs). By AI agents, Wed Nov 11 2026. No macro, syntax, notation, axiom, sorry.
-/
import Derived.Test.YtioaehjppiodfaaGreatDoorRows
import GoSem.ClaimSeven
namespace Go.Proofs.YtioaehjppiodfaaGreatDoor
namespace Rows

/-- THE TIED CARD OF 'laws.FnTop'. -/
def fnTopCard : Claim7 := { stood := { row := fnTopRow, standIns := [], harness := (true, "31ff5eef031c8976b10b64aecc7be029a4638c5ea20376e0de88aa4bcc7092f6"), looks := true }, kinds := [], alts := [], laidByText := true, laidKinds := [.data, .data, .data, .data, .sentinel, .sentinel, .pinned], laidTests := true, laidLooks := .later }
def FnTopCardSaid : Prop := Claim7.holds Tryz.pinned (.plain (OpenSpec.ofChange fnTopSpec)) fnTopCard

/-- THE TIED CARD OF 'laws.FnBenchLines'. -/
def fnBenchLinesCard : Claim7 := { stood := { row := fnBenchLinesRow, standIns := [], harness := (true, "31ff5eef031c8976b10b64aecc7be029a4638c5ea20376e0de88aa4bcc7092f6"), looks := true }, kinds := [], alts := [], laidByText := true, laidKinds := [.data, .data, .data, .data, .sentinel, .sentinel, .pinned], laidTests := true, laidLooks := .later }
def FnBenchLinesCardSaid : Prop := Claim7.holds Tryz.pinned (.plain (OpenSpec.ofChange fnBenchLinesSpec)) fnBenchLinesCard

/-- THE TIED CARD OF 'laws.FnExactBench'. -/
def fnExactBenchCard : Claim7 := { stood := { row := fnExactBenchRow, standIns := [], harness := (true, "31ff5eef031c8976b10b64aecc7be029a4638c5ea20376e0de88aa4bcc7092f6"), looks := true }, kinds := [], alts := [], laidByText := true, laidKinds := [.data, .data, .data, .data, .sentinel, .sentinel, .pinned], laidTests := true, laidLooks := .later }
def FnExactBenchCardSaid : Prop := Claim7.holds Tryz.pinned (.plain (OpenSpec.ofChange fnExactBenchSpec)) fnExactBenchCard

/-- THE SECOND FORM's CARD OF 'laws.FnTop'. -/
def fnTopUptoCard : Claim7 := { stood := { row := fnTopUptoRow, standIns := [], harness := (true, "31ff5eef031c8976b10b64aecc7be029a4638c5ea20376e0de88aa4bcc7092f6"), looks := true }, kinds := [], alts := [], laidByText := true, laidKinds := [.data, .data, .data, .data, .sentinel, .sentinel, .pinned], laidTests := true, laidLooks := .later }
def FnTopUptoCardSaid : Prop := Claim7.holds Tryz.pinned (.plain (OpenSpec.upto fnTopSpec)) fnTopUptoCard

/-- THE SECOND FORM's CARD OF 'laws.FnBenchLines'. -/
def fnBenchLinesUptoCard : Claim7 := { stood := { row := fnBenchLinesUptoRow, standIns := [], harness := (true, "31ff5eef031c8976b10b64aecc7be029a4638c5ea20376e0de88aa4bcc7092f6"), looks := true }, kinds := [], alts := [], laidByText := true, laidKinds := [.data, .data, .data, .data, .sentinel, .sentinel, .pinned], laidTests := true, laidLooks := .later }
def FnBenchLinesUptoCardSaid : Prop := Claim7.holds Tryz.pinned (.plain (OpenSpec.upto fnBenchLinesSpec)) fnBenchLinesUptoCard

/-- THE SECOND FORM's CARD OF 'laws.FnExactBench'. -/
def fnExactBenchUptoCard : Claim7 := { stood := { row := fnExactBenchUptoRow, standIns := [], harness := (true, "31ff5eef031c8976b10b64aecc7be029a4638c5ea20376e0de88aa4bcc7092f6"), looks := true }, kinds := [], alts := [], laidByText := true, laidKinds := [.data, .data, .data, .data, .sentinel, .sentinel, .pinned], laidTests := true, laidLooks := .later }
def FnExactBenchUptoCardSaid : Prop := Claim7.holds Tryz.pinned (.plain (OpenSpec.upto fnExactBenchSpec)) fnExactBenchUptoCard
end Rows
end Go.Proofs.YtioaehjppiodfaaGreatDoor
