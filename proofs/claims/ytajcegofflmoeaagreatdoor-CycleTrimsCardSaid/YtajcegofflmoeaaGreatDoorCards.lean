/-
  DERIVED. GIVEN WITH THE SEED: THE CARDS: each row of YtajcegofflmoeaaGreatDoorRows.lean that lists a variable, with what it lists TIED to the program's text (the seventh form; the later family's looks); each row that meets fmt, with fmt's text TOLD by the authors' own Lean function (tested against real Go, not proved from fmt's source: count such statements apart). THE CARD IS WHAT COUNTS. Prove the row's statement (the work); the ties are given (YtajcegofflmoeaaGreatDoorTie.lean); close each card by the builder's one call (the guide's Derived/Test/ToyasCard.lean, 'card_holds'). Laid BY PROGRAM, IN A SANDBOX (cutbox-door.mjs). By AI agents, Wed Nov 11 2026. No macro, syntax, notation, axiom, sorry.
-/
import Derived.Test.YtajcegofflmoeaaGreatDoorRows
import GoSem.ClaimSeven
namespace Go.Proofs.YtajcegofflmoeaaGreatDoor
namespace Rows

/-- THE TIED CARD OF 'gerundlaw13.CycleTells'. -/
def cycleTellsCard : Claim7 := { stood := { row := cycleTellsRow, standIns := [], harness := (true, "11eb63cb4ecb870642590b52062b231e1b0fabc0ce6a4c453ddf8afee63ae978"), looks := false }, kinds := [], alts := [], laidByText := true, laidKinds := [.data], laidTests := true, laidLooks := .later }
def CycleTellsCardSaid : Prop := Claim7.holds Tryz.pinned (.plain (OpenSpec.ofChange cycleTellsSpec)) cycleTellsCard

/-- THE TIED CARD OF 'gerundlaw13.CycleOrders'. -/
def cycleOrdersCard : Claim7 := { stood := { row := cycleOrdersRow, standIns := [], harness := (true, "11eb63cb4ecb870642590b52062b231e1b0fabc0ce6a4c453ddf8afee63ae978"), looks := false }, kinds := [], alts := [], laidByText := true, laidKinds := [.data], laidTests := true, laidLooks := .later }
def CycleOrdersCardSaid : Prop := Claim7.holds Tryz.pinned (.plain (OpenSpec.ofChange cycleOrdersSpec)) cycleOrdersCard

/-- THE TIED CARD OF 'gerundlaw13.CycleGoes'. -/
def cycleGoesCard : Claim7 := { stood := { row := cycleGoesRow, standIns := [], harness := (true, "11eb63cb4ecb870642590b52062b231e1b0fabc0ce6a4c453ddf8afee63ae978"), looks := false }, kinds := [], alts := [], laidByText := true, laidKinds := [.data], laidTests := true, laidLooks := .later }
def CycleGoesCardSaid : Prop := Claim7.holds Tryz.pinned (.plain (OpenSpec.ofChange cycleGoesSpec)) cycleGoesCard

/-- THE TIED CARD OF 'gerundlaw13.CycleTrims'. -/
def cycleTrimsCard : Claim7 := { stood := { row := cycleTrimsRow, standIns := [], harness := (true, "11eb63cb4ecb870642590b52062b231e1b0fabc0ce6a4c453ddf8afee63ae978"), looks := false }, kinds := [], alts := [], laidByText := true, laidKinds := [.data], laidTests := true, laidLooks := .later }
def CycleTrimsCardSaid : Prop := Claim7.holds Tryz.pinned (.plain (OpenSpec.ofChange cycleTrimsSpec)) cycleTrimsCard

/-- THE SECOND FORM's CARD OF 'gerundlaw13.CycleTells'. -/
def cycleTellsUptoCard : Claim7 := { stood := { row := cycleTellsUptoRow, standIns := [], harness := (true, "11eb63cb4ecb870642590b52062b231e1b0fabc0ce6a4c453ddf8afee63ae978"), looks := false }, kinds := [], alts := [], laidByText := true, laidKinds := [.data], laidTests := true, laidLooks := .later }
def CycleTellsUptoCardSaid : Prop := Claim7.holds Tryz.pinned (.plain (OpenSpec.upto cycleTellsSpec)) cycleTellsUptoCard

/-- THE SECOND FORM's CARD OF 'gerundlaw13.CycleOrders'. -/
def cycleOrdersUptoCard : Claim7 := { stood := { row := cycleOrdersUptoRow, standIns := [], harness := (true, "11eb63cb4ecb870642590b52062b231e1b0fabc0ce6a4c453ddf8afee63ae978"), looks := false }, kinds := [], alts := [], laidByText := true, laidKinds := [.data], laidTests := true, laidLooks := .later }
def CycleOrdersUptoCardSaid : Prop := Claim7.holds Tryz.pinned (.plain (OpenSpec.upto cycleOrdersSpec)) cycleOrdersUptoCard

/-- THE SECOND FORM's CARD OF 'gerundlaw13.CycleGoes'. -/
def cycleGoesUptoCard : Claim7 := { stood := { row := cycleGoesUptoRow, standIns := [], harness := (true, "11eb63cb4ecb870642590b52062b231e1b0fabc0ce6a4c453ddf8afee63ae978"), looks := false }, kinds := [], alts := [], laidByText := true, laidKinds := [.data], laidTests := true, laidLooks := .later }
def CycleGoesUptoCardSaid : Prop := Claim7.holds Tryz.pinned (.plain (OpenSpec.upto cycleGoesSpec)) cycleGoesUptoCard

/-- THE SECOND FORM's CARD OF 'gerundlaw13.CycleTrims'. -/
def cycleTrimsUptoCard : Claim7 := { stood := { row := cycleTrimsUptoRow, standIns := [], harness := (true, "11eb63cb4ecb870642590b52062b231e1b0fabc0ce6a4c453ddf8afee63ae978"), looks := false }, kinds := [], alts := [], laidByText := true, laidKinds := [.data], laidTests := true, laidLooks := .later }
def CycleTrimsUptoCardSaid : Prop := Claim7.holds Tryz.pinned (.plain (OpenSpec.upto cycleTrimsSpec)) cycleTrimsUptoCard
end Rows
end Go.Proofs.YtajcegofflmoeaaGreatDoor
