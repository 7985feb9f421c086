/-
  DERIVED. GIVEN WITH THE SEED: THE CARDS: each row of YtcpllfjhhlbmiaaDoorRows.lean that lists a variable, with what it lists TIED to the program's text (the seventh form; the later family's looks); each row that meets fmt, with fmt's text TOLD by the authors' own Lean function (tested against real Go, not proved from fmt's source: count such statements apart). THE CARD IS WHAT COUNTS. Prove the row's statement (the work); the ties are given (YtcpllfjhhlbmiaaDoorTie.lean); close each card by the builder's one call (the guide's Derived/Test/ToyasCard.lean, 'card_holds'). Laid BY PROGRAM, IN A SANDBOX (cutbox-door.mjs). By AI agents, Wed Nov 11 2026. No macro, syntax, notation, axiom, sorry.
-/
import Derived.Test.YtcpllfjhhlbmiaaDoorRows
import GoSem.ClaimSeven
namespace Go.Proofs.YtcpllfjhhlbmiaaDoor
namespace Rows

/-- THE TIED CARD OF 'laws.FnTitlesBack'. -/
def fnTitlesBackCard : Claim7 := { stood := { row := fnTitlesBackRow, standIns := [], harness := (true, "9b18b495ecea82a39598d14a7c316dab8fd9ad834eaab189d7320f89c07f2366"), looks := false }, kinds := [], alts := [], laidByText := true, laidKinds := [.data, .data, .data, .data, .pinned], laidTests := true, laidLooks := .later }
def FnTitlesBackCardSaid : Prop := Claim7.holds Tryd.pinned (.plain (OpenSpec.ofChange fnTitlesBackSpec)) fnTitlesBackCard

/-- THE TIED CARD OF 'laws.FnWorries'. -/
def fnWorriesCard : Claim7 := { stood := { row := fnWorriesRow, standIns := [], harness := (true, "9b18b495ecea82a39598d14a7c316dab8fd9ad834eaab189d7320f89c07f2366"), looks := false }, kinds := [], alts := [], laidByText := true, laidKinds := [.data, .pinned], laidTests := true, laidLooks := .later }
def FnWorriesCardSaid : Prop := Claim7.holds Tryd.pinned (.plain (OpenSpec.ofChange fnWorriesSpec)) fnWorriesCard

/-- THE TIED CARD OF 'laws.FnDelayed'. -/
def fnDelayedCard : Claim7 := { stood := { row := fnDelayedRow, standIns := [], harness := (true, "9b18b495ecea82a39598d14a7c316dab8fd9ad834eaab189d7320f89c07f2366"), looks := false }, kinds := [], alts := [], laidByText := true, laidKinds := [.data, .pinned], laidTests := true, laidLooks := .later }
def FnDelayedCardSaid : Prop := Claim7.holds Tryd.pinned (.plain (OpenSpec.ofChange fnDelayedSpec)) fnDelayedCard

/-- THE SECOND FORM's CARD OF 'laws.FnTitlesBack'. -/
def fnTitlesBackUptoCard : Claim7 := { stood := { row := fnTitlesBackUptoRow, standIns := [], harness := (true, "9b18b495ecea82a39598d14a7c316dab8fd9ad834eaab189d7320f89c07f2366"), looks := false }, kinds := [], alts := [], laidByText := true, laidKinds := [.data, .data, .data, .data, .pinned], laidTests := true, laidLooks := .later }
def FnTitlesBackUptoCardSaid : Prop := Claim7.holds Tryd.pinned (.plain (OpenSpec.upto fnTitlesBackSpec)) fnTitlesBackUptoCard

/-- THE SECOND FORM's CARD OF 'laws.FnWorries'. -/
def fnWorriesUptoCard : Claim7 := { stood := { row := fnWorriesUptoRow, standIns := [], harness := (true, "9b18b495ecea82a39598d14a7c316dab8fd9ad834eaab189d7320f89c07f2366"), looks := false }, kinds := [], alts := [], laidByText := true, laidKinds := [.data, .pinned], laidTests := true, laidLooks := .later }
def FnWorriesUptoCardSaid : Prop := Claim7.holds Tryd.pinned (.plain (OpenSpec.upto fnWorriesSpec)) fnWorriesUptoCard

/-- THE SECOND FORM's CARD OF 'laws.FnDelayed'. -/
def fnDelayedUptoCard : Claim7 := { stood := { row := fnDelayedUptoRow, standIns := [], harness := (true, "9b18b495ecea82a39598d14a7c316dab8fd9ad834eaab189d7320f89c07f2366"), looks := false }, kinds := [], alts := [], laidByText := true, laidKinds := [.data, .pinned], laidTests := true, laidLooks := .later }
def FnDelayedUptoCardSaid : Prop := Claim7.holds Tryd.pinned (.plain (OpenSpec.upto fnDelayedSpec)) fnDelayedUptoCard
end Rows
end Go.Proofs.YtcpllfjhhlbmiaaDoor
