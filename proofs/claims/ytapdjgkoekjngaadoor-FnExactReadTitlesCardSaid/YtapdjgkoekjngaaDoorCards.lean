/-
  DERIVED. GIVEN WITH THE SEED: THE CARDS: each row of YtapdjgkoekjngaaDoorRows.lean that lists a variable, with what it lists TIED to the program's text (the seventh form; the later family's looks); each row that meets fmt, with fmt's text TOLD by the authors' own Lean function (tested against real Go, not proved from fmt's source: count such statements apart). THE CARD IS WHAT COUNTS. Prove the row's statement (the work); the ties are given (YtapdjgkoekjngaaDoorTie.lean); close each card by the builder's one call (the guide's Derived/Test/ToyasCard.lean, 'card_holds'). Laid BY PROGRAM, IN A SANDBOX (cutbox-door.mjs). By AI agents, Wed Nov 11 2026. No macro, syntax, notation, axiom, sorry.
-/
import Derived.Test.YtapdjgkoekjngaaDoorRows
import GoSem.ClaimSeven
namespace Go.Proofs.YtapdjgkoekjngaaDoor
namespace Rows

/-- THE TIED CARD OF 'laws.FnExactTitlesOk'. -/
def fnExactTitlesOkCard : Claim7 := { stood := { row := fnExactTitlesOkRow, standIns := [], harness := (true, "1c233b18b317bd6ee14a372be406d8bc70244ce9d2d9de0d03165e2ee9a47dea"), looks := false }, kinds := [], alts := [], laidByText := true, laidKinds := [.data, .pinned], laidTests := true, laidLooks := .later }
def FnExactTitlesOkCardSaid : Prop := Claim7.holds Tryd.pinned (.plain (OpenSpec.ofChange fnExactTitlesOkSpec)) fnExactTitlesOkCard

/-- THE TIED CARD OF 'laws.FnExactUnread'. -/
def fnExactUnreadCard : Claim7 := { stood := { row := fnExactUnreadRow, standIns := [], harness := (true, "1c233b18b317bd6ee14a372be406d8bc70244ce9d2d9de0d03165e2ee9a47dea"), looks := false }, kinds := [], alts := [], laidByText := true, laidKinds := [.data, .pinned], laidTests := true, laidLooks := .later }
def FnExactUnreadCardSaid : Prop := Claim7.holds Tryd.pinned (.plain (OpenSpec.ofChange fnExactUnreadSpec)) fnExactUnreadCard

/-- THE TIED CARD OF 'laws.FnExactShowTitles'. -/
def fnExactShowTitlesCard : Claim7 := { stood := { row := fnExactShowTitlesRow, standIns := [], harness := (true, "1c233b18b317bd6ee14a372be406d8bc70244ce9d2d9de0d03165e2ee9a47dea"), looks := false }, kinds := [], alts := [], laidByText := true, laidKinds := [.data, .data, .data, .data, .pinned], laidTests := true, laidLooks := .later }
def FnExactShowTitlesCardSaid : Prop := Claim7.holds Tryd.pinned (.plain (OpenSpec.ofChange fnExactShowTitlesSpec)) fnExactShowTitlesCard

/-- THE TIED CARD OF 'laws.FnExactReadTitles'. -/
def fnExactReadTitlesCard : Claim7 := { stood := { row := fnExactReadTitlesRow, standIns := [], harness := (true, "1c233b18b317bd6ee14a372be406d8bc70244ce9d2d9de0d03165e2ee9a47dea"), looks := false }, kinds := [], alts := [], laidByText := true, laidKinds := [.data, .data, .data, .data, .pinned], laidTests := true, laidLooks := .later }
def FnExactReadTitlesCardSaid : Prop := Claim7.holds Tryd.pinned (.plain (OpenSpec.ofChange fnExactReadTitlesSpec)) fnExactReadTitlesCard

/-- THE TIED CARD OF 'laws.FnExactDelay'. -/
def fnExactDelayCard : Claim7 := { stood := { row := fnExactDelayRow, standIns := [], harness := (true, "1c233b18b317bd6ee14a372be406d8bc70244ce9d2d9de0d03165e2ee9a47dea"), looks := false }, kinds := [], alts := [], laidByText := true, laidKinds := [.data, .pinned], laidTests := true, laidLooks := .later }
def FnExactDelayCardSaid : Prop := Claim7.holds Tryd.pinned (.plain (OpenSpec.ofChange fnExactDelaySpec)) fnExactDelayCard

/-- THE SECOND FORM's CARD OF 'laws.FnExactTitlesOk'. -/
def fnExactTitlesOkUptoCard : Claim7 := { stood := { row := fnExactTitlesOkUptoRow, standIns := [], harness := (true, "1c233b18b317bd6ee14a372be406d8bc70244ce9d2d9de0d03165e2ee9a47dea"), looks := false }, kinds := [], alts := [], laidByText := true, laidKinds := [.data, .pinned], laidTests := true, laidLooks := .later }
def FnExactTitlesOkUptoCardSaid : Prop := Claim7.holds Tryd.pinned (.plain (OpenSpec.upto fnExactTitlesOkSpec)) fnExactTitlesOkUptoCard

/-- THE SECOND FORM's CARD OF 'laws.FnExactUnread'. -/
def fnExactUnreadUptoCard : Claim7 := { stood := { row := fnExactUnreadUptoRow, standIns := [], harness := (true, "1c233b18b317bd6ee14a372be406d8bc70244ce9d2d9de0d03165e2ee9a47dea"), looks := false }, kinds := [], alts := [], laidByText := true, laidKinds := [.data, .pinned], laidTests := true, laidLooks := .later }
def FnExactUnreadUptoCardSaid : Prop := Claim7.holds Tryd.pinned (.plain (OpenSpec.upto fnExactUnreadSpec)) fnExactUnreadUptoCard

/-- THE SECOND FORM's CARD OF 'laws.FnExactShowTitles'. -/
def fnExactShowTitlesUptoCard : Claim7 := { stood := { row := fnExactShowTitlesUptoRow, standIns := [], harness := (true, "1c233b18b317bd6ee14a372be406d8bc70244ce9d2d9de0d03165e2ee9a47dea"), looks := false }, kinds := [], alts := [], laidByText := true, laidKinds := [.data, .data, .data, .data, .pinned], laidTests := true, laidLooks := .later }
def FnExactShowTitlesUptoCardSaid : Prop := Claim7.holds Tryd.pinned (.plain (OpenSpec.upto fnExactShowTitlesSpec)) fnExactShowTitlesUptoCard

/-- THE SECOND FORM's CARD OF 'laws.FnExactReadTitles'. -/
def fnExactReadTitlesUptoCard : Claim7 := { stood := { row := fnExactReadTitlesUptoRow, standIns := [], harness := (true, "1c233b18b317bd6ee14a372be406d8bc70244ce9d2d9de0d03165e2ee9a47dea"), looks := false }, kinds := [], alts := [], laidByText := true, laidKinds := [.data, .data, .data, .data, .pinned], laidTests := true, laidLooks := .later }
def FnExactReadTitlesUptoCardSaid : Prop := Claim7.holds Tryd.pinned (.plain (OpenSpec.upto fnExactReadTitlesSpec)) fnExactReadTitlesUptoCard

/-- THE SECOND FORM's CARD OF 'laws.FnExactDelay'. -/
def fnExactDelayUptoCard : Claim7 := { stood := { row := fnExactDelayUptoRow, standIns := [], harness := (true, "1c233b18b317bd6ee14a372be406d8bc70244ce9d2d9de0d03165e2ee9a47dea"), looks := false }, kinds := [], alts := [], laidByText := true, laidKinds := [.data, .pinned], laidTests := true, laidLooks := .later }
def FnExactDelayUptoCardSaid : Prop := Claim7.holds Tryd.pinned (.plain (OpenSpec.upto fnExactDelaySpec)) fnExactDelayUptoCard
end Rows
end Go.Proofs.YtapdjgkoekjngaaDoor
