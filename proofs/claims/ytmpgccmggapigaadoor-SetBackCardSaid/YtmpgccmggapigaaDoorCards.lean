/-
  DERIVED. GIVEN WITH THE SEED: THE CARDS: each row of YtmpgccmggapigaaDoorRows.lean that lists a variable, with what it lists TIED to the program's text (the seventh form; the later family's looks); each row that meets fmt, with fmt's text TOLD by the authors' own Lean function (tested against real Go, not proved from fmt's source: count such statements apart). THE CARD IS WHAT COUNTS. Prove the row's statement (the work); the ties are given (YtmpgccmggapigaaDoorTie.lean); close each card by the builder's one call (the guide's Derived/Test/ToyasCard.lean, 'card_holds'). Laid BY PROGRAM, IN A SANDBOX (cutbox-door.mjs). By AI agents, Wed Nov 11 2026. No macro, syntax, notation, axiom, sorry.
-/
import Derived.Test.YtmpgccmggapigaaDoorRows
import GoSem.ClaimSeven
namespace Go.Proofs.YtmpgccmggapigaaDoor
namespace Rows

/-- THE TIED CARD OF 'gerundlaw03.SetAnswers'. -/
def setAnswersCard : Claim7 := { stood := { row := setAnswersRow, standIns := [], harness := (true, "e56d172a5b2a7140fefd9444592fbac03fef4f1faa286ad3ffb41fb6e1f1851e"), looks := false }, kinds := [], alts := [], laidByText := true, laidKinds := [.data], laidTests := true, laidLooks := .later }
def SetAnswersCardSaid : Prop := Claim7.holds Tryd.pinned (.plain (OpenSpec.ofChange setAnswersSpec)) setAnswersCard

/-- THE TIED CARD OF 'gerundlaw03.SetBack'. -/
def setBackCard : Claim7 := { stood := { row := setBackRow, standIns := [], harness := (true, "e56d172a5b2a7140fefd9444592fbac03fef4f1faa286ad3ffb41fb6e1f1851e"), looks := false }, kinds := [], alts := [], laidByText := true, laidKinds := [.data], laidTests := true, laidLooks := .later }
def SetBackCardSaid : Prop := Claim7.holds Tryd.pinned (.plain (OpenSpec.ofChange setBackSpec)) setBackCard

/-- THE TIED CARD OF 'gerundlaw03.SetBelow'. -/
def setBelowCard : Claim7 := { stood := { row := setBelowRow, standIns := [], harness := (true, "e56d172a5b2a7140fefd9444592fbac03fef4f1faa286ad3ffb41fb6e1f1851e"), looks := false }, kinds := [], alts := [], laidByText := true, laidKinds := [.data], laidTests := true, laidLooks := .later }
def SetBelowCardSaid : Prop := Claim7.holds Tryd.pinned (.plain (OpenSpec.ofChange setBelowSpec)) setBelowCard

/-- THE SECOND FORM's CARD OF 'gerundlaw03.SetAnswers'. -/
def setAnswersUptoCard : Claim7 := { stood := { row := setAnswersUptoRow, standIns := [], harness := (true, "e56d172a5b2a7140fefd9444592fbac03fef4f1faa286ad3ffb41fb6e1f1851e"), looks := false }, kinds := [], alts := [], laidByText := true, laidKinds := [.data], laidTests := true, laidLooks := .later }
def SetAnswersUptoCardSaid : Prop := Claim7.holds Tryd.pinned (.plain (OpenSpec.upto setAnswersSpec)) setAnswersUptoCard

/-- THE SECOND FORM's CARD OF 'gerundlaw03.SetBack'. -/
def setBackUptoCard : Claim7 := { stood := { row := setBackUptoRow, standIns := [], harness := (true, "e56d172a5b2a7140fefd9444592fbac03fef4f1faa286ad3ffb41fb6e1f1851e"), looks := false }, kinds := [], alts := [], laidByText := true, laidKinds := [.data], laidTests := true, laidLooks := .later }
def SetBackUptoCardSaid : Prop := Claim7.holds Tryd.pinned (.plain (OpenSpec.upto setBackSpec)) setBackUptoCard

/-- THE SECOND FORM's CARD OF 'gerundlaw03.SetBelow'. -/
def setBelowUptoCard : Claim7 := { stood := { row := setBelowUptoRow, standIns := [], harness := (true, "e56d172a5b2a7140fefd9444592fbac03fef4f1faa286ad3ffb41fb6e1f1851e"), looks := false }, kinds := [], alts := [], laidByText := true, laidKinds := [.data], laidTests := true, laidLooks := .later }
def SetBelowUptoCardSaid : Prop := Claim7.holds Tryd.pinned (.plain (OpenSpec.upto setBelowSpec)) setBelowUptoCard
end Rows
end Go.Proofs.YtmpgccmggapigaaDoor
