/-
  DERIVED. GIVEN WITH THE SEED: THE CARDS: each row of YtdlikcihljfgbaaDoorRows.lean that lists a variable, with what it lists TIED to the program's text (the seventh form; the later family's looks); each row that meets fmt, with fmt's text TOLD by the authors' own Lean function (tested against real Go, not proved from fmt's source: count such statements apart). THE CARD IS WHAT COUNTS. Prove the row's statement (the work); the ties are given (YtdlikcihljfgbaaDoorTie.lean); close each card by the builder's one call (the guide's Derived/Test/ToyasCard.lean, 'card_holds'). Laid BY PROGRAM, IN A SANDBOX (cutbox-door.mjs). By AI agents, Wed Nov 11 2026. No macro, syntax, notation, axiom, sorry.
-/
import Derived.Test.YtdlikcihljfgbaaDoorRows
import GoSem.ClaimSeven
namespace Go.Proofs.YtdlikcihljfgbaaDoor
namespace Rows

/-- THE TIED CARD OF 'gerundlaw06.PlaceMakes'. -/
def placeMakesCard : Claim7 := { stood := { row := placeMakesRow, standIns := [], harness := (true, "ffc05a0e8f3bab3565ed29700039a6c154b047336848c7c973251225196d2147"), looks := false }, kinds := [], alts := [], laidByText := true, laidKinds := [.data, .data, .data], laidTests := true, laidLooks := .later }
def PlaceMakesCardSaid : Prop := Claim7.holds Tryd.pinned (.plain (OpenSpec.ofChange placeMakesSpec)) placeMakesCard

/-- THE TIED CARD OF 'gerundlaw06.PlaceSteps'. -/
def placeStepsCard : Claim7 := { stood := { row := placeStepsRow, standIns := [], harness := (true, "ffc05a0e8f3bab3565ed29700039a6c154b047336848c7c973251225196d2147"), looks := false }, kinds := [], alts := [], laidByText := true, laidKinds := [.data, .data, .data], laidTests := true, laidLooks := .later }
def PlaceStepsCardSaid : Prop := Claim7.holds Tryd.pinned (.plain (OpenSpec.ofChange placeStepsSpec)) placeStepsCard

/-- THE TIED CARD OF 'gerundlaw06.PlaceOrder'. -/
def placeOrderCard : Claim7 := { stood := { row := placeOrderRow, standIns := [], harness := (true, "ffc05a0e8f3bab3565ed29700039a6c154b047336848c7c973251225196d2147"), looks := false }, kinds := [], alts := [], laidByText := true, laidKinds := [.data, .data, .data], laidTests := true, laidLooks := .later }
def PlaceOrderCardSaid : Prop := Claim7.holds Tryd.pinned (.plain (OpenSpec.ofChange placeOrderSpec)) placeOrderCard

/-- THE SECOND FORM's CARD OF 'gerundlaw06.PlaceMakes'. -/
def placeMakesUptoCard : Claim7 := { stood := { row := placeMakesUptoRow, standIns := [], harness := (true, "ffc05a0e8f3bab3565ed29700039a6c154b047336848c7c973251225196d2147"), looks := false }, kinds := [], alts := [], laidByText := true, laidKinds := [.data, .data, .data], laidTests := true, laidLooks := .later }
def PlaceMakesUptoCardSaid : Prop := Claim7.holds Tryd.pinned (.plain (OpenSpec.upto placeMakesSpec)) placeMakesUptoCard

/-- THE SECOND FORM's CARD OF 'gerundlaw06.PlaceSteps'. -/
def placeStepsUptoCard : Claim7 := { stood := { row := placeStepsUptoRow, standIns := [], harness := (true, "ffc05a0e8f3bab3565ed29700039a6c154b047336848c7c973251225196d2147"), looks := false }, kinds := [], alts := [], laidByText := true, laidKinds := [.data, .data, .data], laidTests := true, laidLooks := .later }
def PlaceStepsUptoCardSaid : Prop := Claim7.holds Tryd.pinned (.plain (OpenSpec.upto placeStepsSpec)) placeStepsUptoCard

/-- THE SECOND FORM's CARD OF 'gerundlaw06.PlaceOrder'. -/
def placeOrderUptoCard : Claim7 := { stood := { row := placeOrderUptoRow, standIns := [], harness := (true, "ffc05a0e8f3bab3565ed29700039a6c154b047336848c7c973251225196d2147"), looks := false }, kinds := [], alts := [], laidByText := true, laidKinds := [.data, .data, .data], laidTests := true, laidLooks := .later }
def PlaceOrderUptoCardSaid : Prop := Claim7.holds Tryd.pinned (.plain (OpenSpec.upto placeOrderSpec)) placeOrderUptoCard
end Rows
end Go.Proofs.YtdlikcihljfgbaaDoor
