/-
  No cell of these rows narrows 'for every input' (looked for: loops, veiled, ifaces, maps, wideKeys, modest, calm, conditions, laid).
  DERIVED. THE GIVEN ROWS OF THIS SEAT. 5 by the template 'for every input the law returns true; each argument reads behind the call as it read before'; 0 by the template 'total and deterministic' (their statements: YtjjbaehamplnaaaGreatTotals.lean).
  GIVEN WITH THE SEED: the statements are not yours to turn. If you find one false, say at which input.
  Laid BY PROGRAM, IN A SANDBOX (cutbox-rows.mjs): the forced cells as the released guide's own fill.sh prints them over the translation 764d12289d2aa29e… (all of the seat's roots in one cut). By AI agents, Wed Nov 11 2026. No macro, syntax, notation, axiom, sorry.
-/
import Derived.Test.YtjjbaehamplnaaaGreatChecked
import GoSem.Claim
import GoSem.ClaimJoined
import GoSem.ClaimMapViews
import Derived.JoinedTies
import Derived.KernelRfl
namespace Go.Proofs.YtjjbaehamplnaaaGreat
/- THE CELL 'sum', in the pinned program and in every row, IS THE sha256 OF THE DUMP (.gsa) THAT YtjjbaehamplnaaaGreatProg.lean LOADS. Nothing in Lean hashes anything: it is a label: what it is worth is what the hold of that sum in a sandbox is worth. -/
noncomputable def Tryz.pinned : Pinned := { name := "ytjjbaehamplnaaagreat", sum := "764d12289d2aa29e270aadf0331824dac3a1c0ba1c1c6051955109e60febe3d9", checked := Tryz.checked }
namespace Rows
def none {H : Type} : Left H := { results := [], args := [] }

/-- 'gerundlaw17.TableBuilds': WHATEVER THE INPUT: true; the input reads as it did. -/
def tableBuildsSpec : ChangeSpec := { name := "tableBuilds", fn := fun _ => fun
  | [d] => { results := [.lit (.bool true)], args := [d] }
  | _ => none }
def tableBuildsRow : OpenClaim := { program := "ytjjbaehamplnaaagreat", sum := "764d12289d2aa29e270aadf0331824dac3a1c0ba1c1c6051955109e60febe3d9", func := "gerund/gerundlaw17.TableBuilds", spec := "tableBuilds", unfollowed := true, recurses := true, plainKeys := false, apart := false }
def TableBuildsSaid : Prop := tableBuildsRow.holds Tryz.pinned (OpenSpec.ofChange tableBuildsSpec)

/-- ITS FALSE NEIGHBOUR: 'it returns false'. Refute it at one input. -/
def tableBuildsWrong : ChangeSpec := { name := "tableBuilds", fn := fun _ => fun
  | [d] => { results := [.lit (.bool false)], args := [d] }
  | _ => none }
def TableBuildsWrongFalsely : Prop := tableBuildsRow.holds Tryz.pinned (OpenSpec.ofChange tableBuildsWrong)

/-- 'gerundlaw17.TableMay': WHATEVER THE INPUT: true; the input reads as it did. -/
def tableMaySpec : ChangeSpec := { name := "tableMay", fn := fun _ => fun
  | [d1, d2] => { results := [.lit (.bool true)], args := [d1, d2] }
  | _ => none }
def tableMayRow : OpenClaim := { program := "ytjjbaehamplnaaagreat", sum := "764d12289d2aa29e270aadf0331824dac3a1c0ba1c1c6051955109e60febe3d9", func := "gerund/gerundlaw17.TableMay", spec := "tableMay", unfollowed := true, recurses := true, plainKeys := false, apart := false }
def TableMaySaid : Prop := tableMayRow.holds Tryz.pinned (OpenSpec.ofChange tableMaySpec)

/-- ITS FALSE NEIGHBOUR: 'it returns false'. Refute it at one input. -/
def tableMayWrong : ChangeSpec := { name := "tableMay", fn := fun _ => fun
  | [d1, d2] => { results := [.lit (.bool false)], args := [d1, d2] }
  | _ => none }
def TableMayWrongFalsely : Prop := tableMayRow.holds Tryz.pinned (OpenSpec.ofChange tableMayWrong)

/-- 'gerundlaw17.TableSettles': WHATEVER THE INPUT: true; the input reads as it did. -/
def tableSettlesSpec : ChangeSpec := { name := "tableSettles", fn := fun _ => fun
  | [d1, d2, d3] => { results := [.lit (.bool true)], args := [d1, d2, d3] }
  | _ => none }
def tableSettlesRow : OpenClaim := { program := "ytjjbaehamplnaaagreat", sum := "764d12289d2aa29e270aadf0331824dac3a1c0ba1c1c6051955109e60febe3d9", func := "gerund/gerundlaw17.TableSettles", spec := "tableSettles", unfollowed := true, recurses := true, plainKeys := false, apart := false }
def TableSettlesSaid : Prop := tableSettlesRow.holds Tryz.pinned (OpenSpec.ofChange tableSettlesSpec)

/-- ITS FALSE NEIGHBOUR: 'it returns false'. Refute it at one input. -/
def tableSettlesWrong : ChangeSpec := { name := "tableSettles", fn := fun _ => fun
  | [d1, d2, d3] => { results := [.lit (.bool false)], args := [d1, d2, d3] }
  | _ => none }
def TableSettlesWrongFalsely : Prop := tableSettlesRow.holds Tryz.pinned (OpenSpec.ofChange tableSettlesWrong)

/-- 'gerundlaw17.TableClear': WHATEVER THE INPUT: true; the input reads as it did. -/
def tableClearSpec : ChangeSpec := { name := "tableClear", fn := fun _ => fun
  | [d] => { results := [.lit (.bool true)], args := [d] }
  | _ => none }
def tableClearRow : OpenClaim := { program := "ytjjbaehamplnaaagreat", sum := "764d12289d2aa29e270aadf0331824dac3a1c0ba1c1c6051955109e60febe3d9", func := "gerund/gerundlaw17.TableClear", spec := "tableClear", unfollowed := true, recurses := true, plainKeys := false, apart := false }
def TableClearSaid : Prop := tableClearRow.holds Tryz.pinned (OpenSpec.ofChange tableClearSpec)

/-- ITS FALSE NEIGHBOUR: 'it returns false'. Refute it at one input. -/
def tableClearWrong : ChangeSpec := { name := "tableClear", fn := fun _ => fun
  | [d] => { results := [.lit (.bool false)], args := [d] }
  | _ => none }
def TableClearWrongFalsely : Prop := tableClearRow.holds Tryz.pinned (OpenSpec.ofChange tableClearWrong)

/-- 'gerundlaw17.TableShifts': WHATEVER THE INPUT: true; the input reads as it did. -/
def tableShiftsSpec : ChangeSpec := { name := "tableShifts", fn := fun _ => fun
  | [d1, d2] => { results := [.lit (.bool true)], args := [d1, d2] }
  | _ => none }
def tableShiftsRow : OpenClaim := { program := "ytjjbaehamplnaaagreat", sum := "764d12289d2aa29e270aadf0331824dac3a1c0ba1c1c6051955109e60febe3d9", func := "gerund/gerundlaw17.TableShifts", spec := "tableShifts", unfollowed := true, recurses := true, plainKeys := false, apart := false }
def TableShiftsSaid : Prop := tableShiftsRow.holds Tryz.pinned (OpenSpec.ofChange tableShiftsSpec)

/-- ITS FALSE NEIGHBOUR: 'it returns false'. Refute it at one input. -/
def tableShiftsWrong : ChangeSpec := { name := "tableShifts", fn := fun _ => fun
  | [d1, d2] => { results := [.lit (.bool false)], args := [d1, d2] }
  | _ => none }
def TableShiftsWrongFalsely : Prop := tableShiftsRow.holds Tryz.pinned (OpenSpec.ofChange tableShiftsWrong)

/- THE SECOND FORM. 'bulk': how many values and letters a reading holds, each counted each time it is reached (what is shared counts as often as it is met; a slice's spare places count too). A statement '..UptoSaid' is the law's where the arguments, and the package variables that the reading takes, are together of bulk at most 1048576: NARROWER than '..Said'. Prove '..Said' where nothing that the law and all that it calls make is longer than what came in: it says more and counts as full. Else prove '..UptoSaid'. A law counts once. -/
mutual
def uptoBulk {H : Type} : DataW H → Nat
  | .lit (.string bytes) => bytes.length + 1
  | .lit _ => 1
  | .nil => 1
  | .ptr d => uptoBulk d + 1
  | .slice elems spare => uptoBulkAll elems + uptoBulkAll spare + 1
  | .agg parts => uptoBulkAll parts + 1
  | .iface _ d => uptoBulk d + 1
  | .map entries => uptoBulkEntries entries + 1
  | .held _ => 1
def uptoBulkAll {H : Type} : List (DataW H) → Nat
  | [] => 0
  | d :: r => uptoBulk d + uptoBulkAll r
def uptoBulkEntries {H : Type} : List (Lit × DataW H) → Nat
  | [] => 0
  | x :: r => uptoBulkEntry x + uptoBulkEntries r
def uptoBulkEntry {H : Type} : Lit × DataW H → Nat
  | (.string bytes, d) => bytes.length + uptoBulk d + 1
  | (_, d) => uptoBulk d + 1
 end
def uptoSmall : (H : Type) → List (DataW H) → Bool := fun _ ds => decide (uptoBulkAll ds ≤ 1048576)
def OpenSpec.upto (s : _root_.Go.ChangeSpec) : _root_.Go.OpenSpec := { _root_.Go.OpenSpec.ofChange s with cond := some uptoSmall }

/-- 'gerundlaw17.TableBuilds', WHERE WHAT IT READS IS OF BULK AT MOST 1048576: true; the input reads as it did. -/
def tableBuildsUptoRow : OpenClaim := { program := "ytjjbaehamplnaaagreat", sum := "764d12289d2aa29e270aadf0331824dac3a1c0ba1c1c6051955109e60febe3d9", func := "gerund/gerundlaw17.TableBuilds", spec := "tableBuilds", unfollowed := true, recurses := true, plainKeys := false, apart := false, narrowed := true }
def TableBuildsUptoSaid : Prop := tableBuildsUptoRow.holds Tryz.pinned (OpenSpec.upto tableBuildsSpec)

/-- 'gerundlaw17.TableMay', WHERE WHAT IT READS IS OF BULK AT MOST 1048576: true; the input reads as it did. -/
def tableMayUptoRow : OpenClaim := { program := "ytjjbaehamplnaaagreat", sum := "764d12289d2aa29e270aadf0331824dac3a1c0ba1c1c6051955109e60febe3d9", func := "gerund/gerundlaw17.TableMay", spec := "tableMay", unfollowed := true, recurses := true, plainKeys := false, apart := false, narrowed := true }
def TableMayUptoSaid : Prop := tableMayUptoRow.holds Tryz.pinned (OpenSpec.upto tableMaySpec)

/-- 'gerundlaw17.TableSettles', WHERE WHAT IT READS IS OF BULK AT MOST 1048576: true; the input reads as it did. -/
def tableSettlesUptoRow : OpenClaim := { program := "ytjjbaehamplnaaagreat", sum := "764d12289d2aa29e270aadf0331824dac3a1c0ba1c1c6051955109e60febe3d9", func := "gerund/gerundlaw17.TableSettles", spec := "tableSettles", unfollowed := true, recurses := true, plainKeys := false, apart := false, narrowed := true }
def TableSettlesUptoSaid : Prop := tableSettlesUptoRow.holds Tryz.pinned (OpenSpec.upto tableSettlesSpec)

/-- 'gerundlaw17.TableClear', WHERE WHAT IT READS IS OF BULK AT MOST 1048576: true; the input reads as it did. -/
def tableClearUptoRow : OpenClaim := { program := "ytjjbaehamplnaaagreat", sum := "764d12289d2aa29e270aadf0331824dac3a1c0ba1c1c6051955109e60febe3d9", func := "gerund/gerundlaw17.TableClear", spec := "tableClear", unfollowed := true, recurses := true, plainKeys := false, apart := false, narrowed := true }
def TableClearUptoSaid : Prop := tableClearUptoRow.holds Tryz.pinned (OpenSpec.upto tableClearSpec)

/-- 'gerundlaw17.TableShifts', WHERE WHAT IT READS IS OF BULK AT MOST 1048576: true; the input reads as it did. -/
def tableShiftsUptoRow : OpenClaim := { program := "ytjjbaehamplnaaagreat", sum := "764d12289d2aa29e270aadf0331824dac3a1c0ba1c1c6051955109e60febe3d9", func := "gerund/gerundlaw17.TableShifts", spec := "tableShifts", unfollowed := true, recurses := true, plainKeys := false, apart := false, narrowed := true }
def TableShiftsUptoSaid : Prop := tableShiftsUptoRow.holds Tryz.pinned (OpenSpec.upto tableShiftsSpec)

end Rows
end Go.Proofs.YtjjbaehamplnaaaGreat
