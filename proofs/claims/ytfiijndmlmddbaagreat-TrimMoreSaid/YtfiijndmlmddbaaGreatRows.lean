/-
  No cell of these rows narrows 'for every input' (looked for: loops, veiled, ifaces, maps, wideKeys, modest, calm, conditions, laid).
  DERIVED. THE GIVEN ROWS OF THIS SEAT. 4 by the template 'for every input the law returns true; each argument reads behind the call as it read before'; 0 by the template 'total and deterministic' (their statements: YtfiijndmlmddbaaGreatTotals.lean).
  GIVEN WITH THE SEED: the statements are not yours to turn. If you find one false, say at which input.
  Laid BY PROGRAM, IN A SANDBOX (cutbox-rows.mjs): the forced cells as the released guide's own fill.sh prints them over the translation 12e2b46b571a9128… (all of the seat's roots in one cut). By AI agents, Wed Nov 11 2026. No macro, syntax, notation, axiom, sorry.
-/
import Derived.Test.YtfiijndmlmddbaaGreatChecked
import GoSem.Claim
import GoSem.ClaimJoined
import GoSem.ClaimMapViews
import Derived.JoinedTies
import Derived.KernelRfl
namespace Go.Proofs.YtfiijndmlmddbaaGreat
/- THE CELL 'sum', in the pinned program and in every row, IS THE sha256 OF THE DUMP (.gsa) THAT YtfiijndmlmddbaaGreatProg.lean LOADS. Nothing in Lean hashes anything: it is a label: what it is worth is what the hold of that sum in a sandbox is worth. -/
noncomputable def Tryz.pinned : Pinned := { name := "ytfiijndmlmddbaagreat", sum := "12e2b46b571a9128316e35f840502e989cb3589f244627403175c271dc945cfd", checked := Tryz.checked }
namespace Rows
def none {H : Type} : Left H := { results := [], args := [] }

/-- 'gerundlaw11.TrimTells': WHATEVER THE INPUT: true; the input reads as it did. -/
def trimTellsSpec : ChangeSpec := { name := "trimTells", fn := fun _ => fun
  | [d] => { results := [.lit (.bool true)], args := [d] }
  | _ => none }
def trimTellsRow : OpenClaim := { program := "ytfiijndmlmddbaagreat", sum := "12e2b46b571a9128316e35f840502e989cb3589f244627403175c271dc945cfd", func := "gerund/gerundlaw11.TrimTells", spec := "trimTells", unfollowed := true, recurses := true, apart := false }
def TrimTellsSaid : Prop := trimTellsRow.holds Tryz.pinned (OpenSpec.ofChange trimTellsSpec)

/-- ITS FALSE NEIGHBOUR: 'it returns false'. Refute it at one input. -/
def trimTellsWrong : ChangeSpec := { name := "trimTells", fn := fun _ => fun
  | [d] => { results := [.lit (.bool false)], args := [d] }
  | _ => none }
def TrimTellsWrongFalsely : Prop := trimTellsRow.holds Tryz.pinned (OpenSpec.ofChange trimTellsWrong)

/-- 'gerundlaw11.TrimReduces': WHATEVER THE INPUT: true; the input reads as it did. -/
def trimReducesSpec : ChangeSpec := { name := "trimReduces", fn := fun _ => fun
  | [d] => { results := [.lit (.bool true)], args := [d] }
  | _ => none }
def trimReducesRow : OpenClaim := { program := "ytfiijndmlmddbaagreat", sum := "12e2b46b571a9128316e35f840502e989cb3589f244627403175c271dc945cfd", func := "gerund/gerundlaw11.TrimReduces", spec := "trimReduces", unfollowed := true, recurses := true, apart := false }
def TrimReducesSaid : Prop := trimReducesRow.holds Tryz.pinned (OpenSpec.ofChange trimReducesSpec)

/-- ITS FALSE NEIGHBOUR: 'it returns false'. Refute it at one input. -/
def trimReducesWrong : ChangeSpec := { name := "trimReduces", fn := fun _ => fun
  | [d] => { results := [.lit (.bool false)], args := [d] }
  | _ => none }
def TrimReducesWrongFalsely : Prop := trimReducesRow.holds Tryz.pinned (OpenSpec.ofChange trimReducesWrong)

/-- 'gerundlaw11.TrimOnce': WHATEVER THE INPUT: true; the input reads as it did. -/
def trimOnceSpec : ChangeSpec := { name := "trimOnce", fn := fun _ => fun
  | [d] => { results := [.lit (.bool true)], args := [d] }
  | _ => none }
def trimOnceRow : OpenClaim := { program := "ytfiijndmlmddbaagreat", sum := "12e2b46b571a9128316e35f840502e989cb3589f244627403175c271dc945cfd", func := "gerund/gerundlaw11.TrimOnce", spec := "trimOnce", unfollowed := true, recurses := true, apart := false }
def TrimOnceSaid : Prop := trimOnceRow.holds Tryz.pinned (OpenSpec.ofChange trimOnceSpec)

/-- ITS FALSE NEIGHBOUR: 'it returns false'. Refute it at one input. -/
def trimOnceWrong : ChangeSpec := { name := "trimOnce", fn := fun _ => fun
  | [d] => { results := [.lit (.bool false)], args := [d] }
  | _ => none }
def TrimOnceWrongFalsely : Prop := trimOnceRow.holds Tryz.pinned (OpenSpec.ofChange trimOnceWrong)

/-- 'gerundlaw11.TrimMore': WHATEVER THE INPUT: true; the input reads as it did. -/
def trimMoreSpec : ChangeSpec := { name := "trimMore", fn := fun _ => fun
  | [d1, d2, d3] => { results := [.lit (.bool true)], args := [d1, d2, d3] }
  | _ => none }
def trimMoreRow : OpenClaim := { program := "ytfiijndmlmddbaagreat", sum := "12e2b46b571a9128316e35f840502e989cb3589f244627403175c271dc945cfd", func := "gerund/gerundlaw11.TrimMore", spec := "trimMore", unfollowed := true, recurses := true, apart := false }
def TrimMoreSaid : Prop := trimMoreRow.holds Tryz.pinned (OpenSpec.ofChange trimMoreSpec)

/-- ITS FALSE NEIGHBOUR: 'it returns false'. Refute it at one input. -/
def trimMoreWrong : ChangeSpec := { name := "trimMore", fn := fun _ => fun
  | [d1, d2, d3] => { results := [.lit (.bool false)], args := [d1, d2, d3] }
  | _ => none }
def TrimMoreWrongFalsely : Prop := trimMoreRow.holds Tryz.pinned (OpenSpec.ofChange trimMoreWrong)

/- THE SECOND FORM. 'bulk': how many values and letters a reading holds, each counted each time it is reached (what is shared counts as often as it is met; a slice's spare places count too). A statement '..UptoSaid' is the law's where the arguments, and the package variables that the reading takes, are together of bulk at most 1048576: NARROWER than '..Said'. Prove '..Said' where nothing that the law and all that it calls make is longer than what came in: it says more and counts as full. Else prove '..UptoSaid'. A law counts once. -/
mutual
def uptoBulk {H : Type} : DataW H → Nat
  | .lit (.string bytes) => bytes.length + 1
  | .lit _ => 1
  | .nil => 1
  | .ptr d => uptoBulk d + 1
  | .slice elems spare => uptoBulkAll elems + uptoBulkAll spare + 1
  | .agg parts => uptoBulkAll parts + 1
  | .iface _ d => uptoBulk d + 1
  | .map entries => uptoBulkEntries entries + 1
  | .held _ => 1
def uptoBulkAll {H : Type} : List (DataW H) → Nat
  | [] => 0
  | d :: r => uptoBulk d + uptoBulkAll r
def uptoBulkEntries {H : Type} : List (Lit × DataW H) → Nat
  | [] => 0
  | x :: r => uptoBulkEntry x + uptoBulkEntries r
def uptoBulkEntry {H : Type} : Lit × DataW H → Nat
  | (.string bytes, d) => bytes.length + uptoBulk d + 1
  | (_, d) => uptoBulk d + 1
 end
def uptoSmall : (H : Type) → List (DataW H) → Bool := fun _ ds => decide (uptoBulkAll ds ≤ 1048576)
def OpenSpec.upto (s : _root_.Go.ChangeSpec) : _root_.Go.OpenSpec := { _root_.Go.OpenSpec.ofChange s with cond := some uptoSmall }

/-- 'gerundlaw11.TrimTells', WHERE WHAT IT READS IS OF BULK AT MOST 1048576: true; the input reads as it did. -/
def trimTellsUptoRow : OpenClaim := { program := "ytfiijndmlmddbaagreat", sum := "12e2b46b571a9128316e35f840502e989cb3589f244627403175c271dc945cfd", func := "gerund/gerundlaw11.TrimTells", spec := "trimTells", unfollowed := true, recurses := true, apart := false, narrowed := true }
def TrimTellsUptoSaid : Prop := trimTellsUptoRow.holds Tryz.pinned (OpenSpec.upto trimTellsSpec)

/-- 'gerundlaw11.TrimReduces', WHERE WHAT IT READS IS OF BULK AT MOST 1048576: true; the input reads as it did. -/
def trimReducesUptoRow : OpenClaim := { program := "ytfiijndmlmddbaagreat", sum := "12e2b46b571a9128316e35f840502e989cb3589f244627403175c271dc945cfd", func := "gerund/gerundlaw11.TrimReduces", spec := "trimReduces", unfollowed := true, recurses := true, apart := false, narrowed := true }
def TrimReducesUptoSaid : Prop := trimReducesUptoRow.holds Tryz.pinned (OpenSpec.upto trimReducesSpec)

/-- 'gerundlaw11.TrimOnce', WHERE WHAT IT READS IS OF BULK AT MOST 1048576: true; the input reads as it did. -/
def trimOnceUptoRow : OpenClaim := { program := "ytfiijndmlmddbaagreat", sum := "12e2b46b571a9128316e35f840502e989cb3589f244627403175c271dc945cfd", func := "gerund/gerundlaw11.TrimOnce", spec := "trimOnce", unfollowed := true, recurses := true, apart := false, narrowed := true }
def TrimOnceUptoSaid : Prop := trimOnceUptoRow.holds Tryz.pinned (OpenSpec.upto trimOnceSpec)

/-- 'gerundlaw11.TrimMore', WHERE WHAT IT READS IS OF BULK AT MOST 1048576: true; the input reads as it did. -/
def trimMoreUptoRow : OpenClaim := { program := "ytfiijndmlmddbaagreat", sum := "12e2b46b571a9128316e35f840502e989cb3589f244627403175c271dc945cfd", func := "gerund/gerundlaw11.TrimMore", spec := "trimMore", unfollowed := true, recurses := true, apart := false, narrowed := true }
def TrimMoreUptoSaid : Prop := trimMoreUptoRow.holds Tryz.pinned (OpenSpec.upto trimMoreSpec)

end Rows
end Go.Proofs.YtfiijndmlmddbaaGreat
