/-
  NARROWER THAN 'FOR EVERY INPUT', by the rows' own cells (each row's printed sentence says how): CycleTells: laid · CycleOrders: laid · CycleGoes: laid · CycleTrims: laid.
  DERIVED. THE GIVEN ROWS OF THIS SEAT. 4 by the template 'for every input the law returns true; each argument reads behind the call as it read before'; 0 by the template 'total and deterministic' (their statements: YtajcegofflmoeaaGreatDoorTotals.lean).
  GIVEN WITH THE SEED: the statements are not yours to turn. If you find one false, say at which input.
  Laid BY PROGRAM, IN A SANDBOX (cutbox-rows.mjs): the forced cells as the released guide's own fill.sh prints them over the translation 0755717e479b8081… (all of the seat's roots in one cut). By AI agents, Wed Nov 11 2026. No macro, syntax, notation, axiom, sorry.
-/
import Derived.Test.YtajcegofflmoeaaGreatDoorChecked
import GoSem.Claim
import GoSem.ClaimJoined
import GoSem.ClaimMapViews
import Derived.JoinedTies
import Derived.KernelRfl
namespace Go.Proofs.YtajcegofflmoeaaGreatDoor
/- THE CELL 'sum', in the pinned program and in every row, IS THE sha256 OF THE DUMP (.gsa) THAT YtajcegofflmoeaaGreatDoorProg.lean LOADS. Nothing in Lean hashes anything: it is a label: what it is worth is what the hold of that sum in a sandbox is worth. -/
noncomputable def Tryz.pinned : Pinned := { name := "ytajcegofflmoeaagreatdoor", sum := "0755717e479b80810ff303988387dfb30bff2ac086d2081542d18c3a0dc1524c", checked := Tryz.checked }
namespace Rows
def none {H : Type} : Left H := { results := [], args := [] }

/- WHAT THE LISTED PACKAGE-LEVEL VARIABLES READ AS WHEN THE CALL BEGINS. Each datum BY PROGRAM (the guide's laid-datum.mjs) off the statement by which the dump's own 'gosem.cut.vars' lays the variable. In a bare row this is a premise. The card (YtajcegofflmoeaaGreatDoorCards.lean) ties it to the program's text. -/
def laid_math_bits_deBruijn32tab {H : Type} : DataW H := .agg [.lit (.int .u8 0), .lit (.int .u8 1), .lit (.int .u8 28), .lit (.int .u8 2), .lit (.int .u8 29), .lit (.int .u8 14), .lit (.int .u8 24), .lit (.int .u8 3), .lit (.int .u8 30), .lit (.int .u8 22), .lit (.int .u8 20), .lit (.int .u8 15), .lit (.int .u8 25), .lit (.int .u8 17), .lit (.int .u8 4), .lit (.int .u8 8), .lit (.int .u8 31), .lit (.int .u8 27), .lit (.int .u8 13), .lit (.int .u8 23), .lit (.int .u8 21), .lit (.int .u8 19), .lit (.int .u8 16), .lit (.int .u8 7), .lit (.int .u8 26), .lit (.int .u8 12), .lit (.int .u8 18), .lit (.int .u8 6), .lit (.int .u8 11), .lit (.int .u8 5), .lit (.int .u8 10), .lit (.int .u8 9)]

/-- 'gerundlaw13.CycleTells': WHATEVER THE INPUT: true; the input reads as it did. -/
def cycleTellsSpec : ChangeSpec := { name := "cycleTells", fn := fun _ => fun
  | [d] => { results := [.lit (.bool true)], args := [d] }
  | _ => none }
def cycleTellsRow : OpenClaim := { program := "ytajcegofflmoeaagreatdoor", sum := "0755717e479b80810ff303988387dfb30bff2ac086d2081542d18c3a0dc1524c", func := "gerund/gerundlaw13.CycleTells", spec := "cycleTells", unfollowed := true, recurses := true, named := ["math/bits.deBruijn32tab"], apart := false, laid := [("math/bits.deBruijn32tab", laid_math_bits_deBruijn32tab)] }
def CycleTellsSaid : Prop := cycleTellsRow.holds Tryz.pinned (OpenSpec.ofChange cycleTellsSpec)

/-- ITS FALSE NEIGHBOUR: 'it returns false'. Refute it at one input. -/
def cycleTellsWrong : ChangeSpec := { name := "cycleTells", fn := fun _ => fun
  | [d] => { results := [.lit (.bool false)], args := [d] }
  | _ => none }
def CycleTellsWrongFalsely : Prop := cycleTellsRow.holds Tryz.pinned (OpenSpec.ofChange cycleTellsWrong)

/-- 'gerundlaw13.CycleOrders': WHATEVER THE INPUT: true; the input reads as it did. -/
def cycleOrdersSpec : ChangeSpec := { name := "cycleOrders", fn := fun _ => fun
  | [d] => { results := [.lit (.bool true)], args := [d] }
  | _ => none }
def cycleOrdersRow : OpenClaim := { program := "ytajcegofflmoeaagreatdoor", sum := "0755717e479b80810ff303988387dfb30bff2ac086d2081542d18c3a0dc1524c", func := "gerund/gerundlaw13.CycleOrders", spec := "cycleOrders", unfollowed := true, recurses := true, named := ["math/bits.deBruijn32tab"], apart := false, laid := [("math/bits.deBruijn32tab", laid_math_bits_deBruijn32tab)] }
def CycleOrdersSaid : Prop := cycleOrdersRow.holds Tryz.pinned (OpenSpec.ofChange cycleOrdersSpec)

/-- ITS FALSE NEIGHBOUR: 'it returns false'. Refute it at one input. -/
def cycleOrdersWrong : ChangeSpec := { name := "cycleOrders", fn := fun _ => fun
  | [d] => { results := [.lit (.bool false)], args := [d] }
  | _ => none }
def CycleOrdersWrongFalsely : Prop := cycleOrdersRow.holds Tryz.pinned (OpenSpec.ofChange cycleOrdersWrong)

/-- 'gerundlaw13.CycleGoes': WHATEVER THE INPUT: true; the input reads as it did. -/
def cycleGoesSpec : ChangeSpec := { name := "cycleGoes", fn := fun _ => fun
  | [d1, d2] => { results := [.lit (.bool true)], args := [d1, d2] }
  | _ => none }
def cycleGoesRow : OpenClaim := { program := "ytajcegofflmoeaagreatdoor", sum := "0755717e479b80810ff303988387dfb30bff2ac086d2081542d18c3a0dc1524c", func := "gerund/gerundlaw13.CycleGoes", spec := "cycleGoes", unfollowed := true, recurses := true, named := ["math/bits.deBruijn32tab"], apart := false, laid := [("math/bits.deBruijn32tab", laid_math_bits_deBruijn32tab)] }
def CycleGoesSaid : Prop := cycleGoesRow.holds Tryz.pinned (OpenSpec.ofChange cycleGoesSpec)

/-- ITS FALSE NEIGHBOUR: 'it returns false'. Refute it at one input. -/
def cycleGoesWrong : ChangeSpec := { name := "cycleGoes", fn := fun _ => fun
  | [d1, d2] => { results := [.lit (.bool false)], args := [d1, d2] }
  | _ => none }
def CycleGoesWrongFalsely : Prop := cycleGoesRow.holds Tryz.pinned (OpenSpec.ofChange cycleGoesWrong)

/-- 'gerundlaw13.CycleTrims': WHATEVER THE INPUT: true; the input reads as it did. -/
def cycleTrimsSpec : ChangeSpec := { name := "cycleTrims", fn := fun _ => fun
  | [d] => { results := [.lit (.bool true)], args := [d] }
  | _ => none }
def cycleTrimsRow : OpenClaim := { program := "ytajcegofflmoeaagreatdoor", sum := "0755717e479b80810ff303988387dfb30bff2ac086d2081542d18c3a0dc1524c", func := "gerund/gerundlaw13.CycleTrims", spec := "cycleTrims", unfollowed := true, recurses := true, named := ["math/bits.deBruijn32tab"], apart := false, laid := [("math/bits.deBruijn32tab", laid_math_bits_deBruijn32tab)] }
def CycleTrimsSaid : Prop := cycleTrimsRow.holds Tryz.pinned (OpenSpec.ofChange cycleTrimsSpec)

/-- ITS FALSE NEIGHBOUR: 'it returns false'. Refute it at one input. -/
def cycleTrimsWrong : ChangeSpec := { name := "cycleTrims", fn := fun _ => fun
  | [d] => { results := [.lit (.bool false)], args := [d] }
  | _ => none }
def CycleTrimsWrongFalsely : Prop := cycleTrimsRow.holds Tryz.pinned (OpenSpec.ofChange cycleTrimsWrong)

/- THE SECOND FORM. 'bulk': how many values and letters a reading holds, each counted each time it is reached (what is shared counts as often as it is met; a slice's spare places count too). A statement '..UptoSaid' is the law's where the arguments, and the package variables that the reading takes, are together of bulk at most 1048576: NARROWER than '..Said'. Prove '..Said' where nothing that the law and all that it calls make is longer than what came in: it says more and counts as full. Else prove '..UptoSaid'. A law counts once. -/
mutual
def uptoBulk {H : Type} : DataW H → Nat
  | .lit (.string bytes) => bytes.length + 1
  | .lit _ => 1
  | .nil => 1
  | .ptr d => uptoBulk d + 1
  | .slice elems spare => uptoBulkAll elems + uptoBulkAll spare + 1
  | .agg parts => uptoBulkAll parts + 1
  | .iface _ d => uptoBulk d + 1
  | .map entries => uptoBulkEntries entries + 1
  | .held _ => 1
def uptoBulkAll {H : Type} : List (DataW H) → Nat
  | [] => 0
  | d :: r => uptoBulk d + uptoBulkAll r
def uptoBulkEntries {H : Type} : List (Lit × DataW H) → Nat
  | [] => 0
  | x :: r => uptoBulkEntry x + uptoBulkEntries r
def uptoBulkEntry {H : Type} : Lit × DataW H → Nat
  | (.string bytes, d) => bytes.length + uptoBulk d + 1
  | (_, d) => uptoBulk d + 1
 end
def uptoSmall : (H : Type) → List (DataW H) → Bool := fun _ ds => decide (uptoBulkAll ds ≤ 1048576)
def OpenSpec.upto (s : _root_.Go.ChangeSpec) : _root_.Go.OpenSpec := { _root_.Go.OpenSpec.ofChange s with cond := some uptoSmall }

/-- 'gerundlaw13.CycleTells', WHERE WHAT IT READS IS OF BULK AT MOST 1048576: true; the input reads as it did. -/
def cycleTellsUptoRow : OpenClaim := { program := "ytajcegofflmoeaagreatdoor", sum := "0755717e479b80810ff303988387dfb30bff2ac086d2081542d18c3a0dc1524c", func := "gerund/gerundlaw13.CycleTells", spec := "cycleTells", unfollowed := true, recurses := true, named := ["math/bits.deBruijn32tab"], apart := false, laid := [("math/bits.deBruijn32tab", laid_math_bits_deBruijn32tab)], narrowed := true }
def CycleTellsUptoSaid : Prop := cycleTellsUptoRow.holds Tryz.pinned (OpenSpec.upto cycleTellsSpec)

/-- 'gerundlaw13.CycleOrders', WHERE WHAT IT READS IS OF BULK AT MOST 1048576: true; the input reads as it did. -/
def cycleOrdersUptoRow : OpenClaim := { program := "ytajcegofflmoeaagreatdoor", sum := "0755717e479b80810ff303988387dfb30bff2ac086d2081542d18c3a0dc1524c", func := "gerund/gerundlaw13.CycleOrders", spec := "cycleOrders", unfollowed := true, recurses := true, named := ["math/bits.deBruijn32tab"], apart := false, laid := [("math/bits.deBruijn32tab", laid_math_bits_deBruijn32tab)], narrowed := true }
def CycleOrdersUptoSaid : Prop := cycleOrdersUptoRow.holds Tryz.pinned (OpenSpec.upto cycleOrdersSpec)

/-- 'gerundlaw13.CycleGoes', WHERE WHAT IT READS IS OF BULK AT MOST 1048576: true; the input reads as it did. -/
def cycleGoesUptoRow : OpenClaim := { program := "ytajcegofflmoeaagreatdoor", sum := "0755717e479b80810ff303988387dfb30bff2ac086d2081542d18c3a0dc1524c", func := "gerund/gerundlaw13.CycleGoes", spec := "cycleGoes", unfollowed := true, recurses := true, named := ["math/bits.deBruijn32tab"], apart := false, laid := [("math/bits.deBruijn32tab", laid_math_bits_deBruijn32tab)], narrowed := true }
def CycleGoesUptoSaid : Prop := cycleGoesUptoRow.holds Tryz.pinned (OpenSpec.upto cycleGoesSpec)

/-- 'gerundlaw13.CycleTrims', WHERE WHAT IT READS IS OF BULK AT MOST 1048576: true; the input reads as it did. -/
def cycleTrimsUptoRow : OpenClaim := { program := "ytajcegofflmoeaagreatdoor", sum := "0755717e479b80810ff303988387dfb30bff2ac086d2081542d18c3a0dc1524c", func := "gerund/gerundlaw13.CycleTrims", spec := "cycleTrims", unfollowed := true, recurses := true, named := ["math/bits.deBruijn32tab"], apart := false, laid := [("math/bits.deBruijn32tab", laid_math_bits_deBruijn32tab)], narrowed := true }
def CycleTrimsUptoSaid : Prop := cycleTrimsUptoRow.holds Tryz.pinned (OpenSpec.upto cycleTrimsSpec)

end Rows
end Go.Proofs.YtajcegofflmoeaaGreatDoor
