/-
  No cell of these rows narrows 'for every input' (looked for: loops, veiled, ifaces, maps, wideKeys, modest, calm, conditions, laid).
  DERIVED. THE GIVEN ROWS OF THIS SEAT. 4 by the template 'for every input the law returns true; each argument reads behind the call as it read before'; 0 by the template 'total and deterministic' (their statements: YtcgclkndkahgaaaGreatTotals.lean).
  GIVEN WITH THE SEED: the statements are not yours to turn. If you find one false, say at which input.
  Laid BY PROGRAM, IN A SANDBOX (cutbox-rows.mjs): the forced cells as the released guide's own fill.sh prints them over the translation eba451c3fcc79da2… (all of the seat's roots in one cut). By AI agents, Wed Nov 11 2026. No macro, syntax, notation, axiom, sorry.
-/
import Derived.Test.YtcgclkndkahgaaaGreatChecked
import GoSem.Claim
import GoSem.ClaimJoined
import GoSem.ClaimMapViews
import Derived.JoinedTies
import Derived.KernelRfl
namespace Go.Proofs.YtcgclkndkahgaaaGreat
/- THE CELL 'sum', in the pinned program and in every row, IS THE sha256 OF THE DUMP (.gsa) THAT YtcgclkndkahgaaaGreatProg.lean LOADS. Nothing in Lean hashes anything: it is a label: what it is worth is what the hold of that sum in a sandbox is worth. -/
noncomputable def Tryz.pinned : Pinned := { name := "ytcgclkndkahgaaagreat", sum := "eba451c3fcc79da24e4ce8e99ccd72d78f84277e581a7ec2c43612cd679a6dcb", checked := Tryz.checked }
namespace Rows
def none {H : Type} : Left H := { results := [], args := [] }

/-- 'gerundlaw14.LeastTells': WHATEVER THE INPUT: true; the input reads as it did. -/
def leastTellsSpec : ChangeSpec := { name := "leastTells", fn := fun _ => fun
  | [d] => { results := [.lit (.bool true)], args := [d] }
  | _ => none }
def leastTellsRow : OpenClaim := { program := "ytcgclkndkahgaaagreat", sum := "eba451c3fcc79da24e4ce8e99ccd72d78f84277e581a7ec2c43612cd679a6dcb", func := "gerund/gerundlaw14.LeastTells", spec := "leastTells", unfollowed := true, recurses := true, apart := false }
def LeastTellsSaid : Prop := leastTellsRow.holds Tryz.pinned (OpenSpec.ofChange leastTellsSpec)

/-- ITS FALSE NEIGHBOUR: 'it returns false'. Refute it at one input. -/
def leastTellsWrong : ChangeSpec := { name := "leastTells", fn := fun _ => fun
  | [d] => { results := [.lit (.bool false)], args := [d] }
  | _ => none }
def LeastTellsWrongFalsely : Prop := leastTellsRow.holds Tryz.pinned (OpenSpec.ofChange leastTellsWrong)

/-- 'gerundlaw14.LeastTrees': WHATEVER THE INPUT: true; the input reads as it did. -/
def leastTreesSpec : ChangeSpec := { name := "leastTrees", fn := fun _ => fun
  | [d1, d2] => { results := [.lit (.bool true)], args := [d1, d2] }
  | _ => none }
def leastTreesRow : OpenClaim := { program := "ytcgclkndkahgaaagreat", sum := "eba451c3fcc79da24e4ce8e99ccd72d78f84277e581a7ec2c43612cd679a6dcb", func := "gerund/gerundlaw14.LeastTrees", spec := "leastTrees", unfollowed := true, recurses := true, apart := false }
def LeastTreesSaid : Prop := leastTreesRow.holds Tryz.pinned (OpenSpec.ofChange leastTreesSpec)

/-- ITS FALSE NEIGHBOUR: 'it returns false'. Refute it at one input. -/
def leastTreesWrong : ChangeSpec := { name := "leastTrees", fn := fun _ => fun
  | [d1, d2] => { results := [.lit (.bool false)], args := [d1, d2] }
  | _ => none }
def LeastTreesWrongFalsely : Prop := leastTreesRow.holds Tryz.pinned (OpenSpec.ofChange leastTreesWrong)

/-- 'gerundlaw14.LeastWords': WHATEVER THE INPUT: true; the input reads as it did. -/
def leastWordsSpec : ChangeSpec := { name := "leastWords", fn := fun _ => fun
  | [d1, d2] => { results := [.lit (.bool true)], args := [d1, d2] }
  | _ => none }
def leastWordsRow : OpenClaim := { program := "ytcgclkndkahgaaagreat", sum := "eba451c3fcc79da24e4ce8e99ccd72d78f84277e581a7ec2c43612cd679a6dcb", func := "gerund/gerundlaw14.LeastWords", spec := "leastWords", unfollowed := true, recurses := true, apart := false }
def LeastWordsSaid : Prop := leastWordsRow.holds Tryz.pinned (OpenSpec.ofChange leastWordsSpec)

/-- ITS FALSE NEIGHBOUR: 'it returns false'. Refute it at one input. -/
def leastWordsWrong : ChangeSpec := { name := "leastWords", fn := fun _ => fun
  | [d1, d2] => { results := [.lit (.bool false)], args := [d1, d2] }
  | _ => none }
def LeastWordsWrongFalsely : Prop := leastWordsRow.holds Tryz.pinned (OpenSpec.ofChange leastWordsWrong)

/-- 'gerundlaw14.LeastLow': WHATEVER THE INPUT: true; the input reads as it did. -/
def leastLowSpec : ChangeSpec := { name := "leastLow", fn := fun _ => fun
  | [d] => { results := [.lit (.bool true)], args := [d] }
  | _ => none }
def leastLowRow : OpenClaim := { program := "ytcgclkndkahgaaagreat", sum := "eba451c3fcc79da24e4ce8e99ccd72d78f84277e581a7ec2c43612cd679a6dcb", func := "gerund/gerundlaw14.LeastLow", spec := "leastLow", unfollowed := true, recurses := true, apart := false }
def LeastLowSaid : Prop := leastLowRow.holds Tryz.pinned (OpenSpec.ofChange leastLowSpec)

/-- ITS FALSE NEIGHBOUR: 'it returns false'. Refute it at one input. -/
def leastLowWrong : ChangeSpec := { name := "leastLow", fn := fun _ => fun
  | [d] => { results := [.lit (.bool false)], args := [d] }
  | _ => none }
def LeastLowWrongFalsely : Prop := leastLowRow.holds Tryz.pinned (OpenSpec.ofChange leastLowWrong)

/- THE SECOND FORM. 'bulk': how many values and letters a reading holds, each counted each time it is reached (what is shared counts as often as it is met; a slice's spare places count too). A statement '..UptoSaid' is the law's where the arguments, and the package variables that the reading takes, are together of bulk at most 1048576: NARROWER than '..Said'. Prove '..Said' where nothing that the law and all that it calls make is longer than what came in: it says more and counts as full. Else prove '..UptoSaid'. A law counts once. -/
mutual
def uptoBulk {H : Type} : DataW H → Nat
  | .lit (.string bytes) => bytes.length + 1
  | .lit _ => 1
  | .nil => 1
  | .ptr d => uptoBulk d + 1
  | .slice elems spare => uptoBulkAll elems + uptoBulkAll spare + 1
  | .agg parts => uptoBulkAll parts + 1
  | .iface _ d => uptoBulk d + 1
  | .map entries => uptoBulkEntries entries + 1
  | .held _ => 1
def uptoBulkAll {H : Type} : List (DataW H) → Nat
  | [] => 0
  | d :: r => uptoBulk d + uptoBulkAll r
def uptoBulkEntries {H : Type} : List (Lit × DataW H) → Nat
  | [] => 0
  | x :: r => uptoBulkEntry x + uptoBulkEntries r
def uptoBulkEntry {H : Type} : Lit × DataW H → Nat
  | (.string bytes, d) => bytes.length + uptoBulk d + 1
  | (_, d) => uptoBulk d + 1
 end
def uptoSmall : (H : Type) → List (DataW H) → Bool := fun _ ds => decide (uptoBulkAll ds ≤ 1048576)
def OpenSpec.upto (s : _root_.Go.ChangeSpec) : _root_.Go.OpenSpec := { _root_.Go.OpenSpec.ofChange s with cond := some uptoSmall }

/-- 'gerundlaw14.LeastTells', WHERE WHAT IT READS IS OF BULK AT MOST 1048576: true; the input reads as it did. -/
def leastTellsUptoRow : OpenClaim := { program := "ytcgclkndkahgaaagreat", sum := "eba451c3fcc79da24e4ce8e99ccd72d78f84277e581a7ec2c43612cd679a6dcb", func := "gerund/gerundlaw14.LeastTells", spec := "leastTells", unfollowed := true, recurses := true, apart := false, narrowed := true }
def LeastTellsUptoSaid : Prop := leastTellsUptoRow.holds Tryz.pinned (OpenSpec.upto leastTellsSpec)

/-- 'gerundlaw14.LeastTrees', WHERE WHAT IT READS IS OF BULK AT MOST 1048576: true; the input reads as it did. -/
def leastTreesUptoRow : OpenClaim := { program := "ytcgclkndkahgaaagreat", sum := "eba451c3fcc79da24e4ce8e99ccd72d78f84277e581a7ec2c43612cd679a6dcb", func := "gerund/gerundlaw14.LeastTrees", spec := "leastTrees", unfollowed := true, recurses := true, apart := false, narrowed := true }
def LeastTreesUptoSaid : Prop := leastTreesUptoRow.holds Tryz.pinned (OpenSpec.upto leastTreesSpec)

/-- 'gerundlaw14.LeastWords', WHERE WHAT IT READS IS OF BULK AT MOST 1048576: true; the input reads as it did. -/
def leastWordsUptoRow : OpenClaim := { program := "ytcgclkndkahgaaagreat", sum := "eba451c3fcc79da24e4ce8e99ccd72d78f84277e581a7ec2c43612cd679a6dcb", func := "gerund/gerundlaw14.LeastWords", spec := "leastWords", unfollowed := true, recurses := true, apart := false, narrowed := true }
def LeastWordsUptoSaid : Prop := leastWordsUptoRow.holds Tryz.pinned (OpenSpec.upto leastWordsSpec)

/-- 'gerundlaw14.LeastLow', WHERE WHAT IT READS IS OF BULK AT MOST 1048576: true; the input reads as it did. -/
def leastLowUptoRow : OpenClaim := { program := "ytcgclkndkahgaaagreat", sum := "eba451c3fcc79da24e4ce8e99ccd72d78f84277e581a7ec2c43612cd679a6dcb", func := "gerund/gerundlaw14.LeastLow", spec := "leastLow", unfollowed := true, recurses := true, apart := false, narrowed := true }
def LeastLowUptoSaid : Prop := leastLowUptoRow.holds Tryz.pinned (OpenSpec.upto leastLowSpec)

end Rows
end Go.Proofs.YtcgclkndkahgaaaGreat
