/-
  No cell of these rows narrows 'for every input' (looked for: loops, veiled, ifaces, maps, wideKeys, modest, calm, conditions, laid).
  DERIVED. THE GIVEN ROWS OF THIS SEAT. 5 by the template 'for every input the law returns true; each argument reads behind the call as it read before'; 0 by the template 'total and deterministic' (their statements: YtabmfpgpkbndeaaGreatTotals.lean).
  GIVEN WITH THE SEED: the statements are not yours to turn. If you find one false, say at which input.
  Laid BY PROGRAM, IN A SANDBOX (cutbox-rows.mjs): the forced cells as the released guide's own fill.sh prints them over the translation 96a4079436d81ce9… (all of the seat's roots in one cut). By AI agents, Wed Nov 11 2026. No macro, syntax, notation, axiom, sorry.
-/
import Derived.Test.YtabmfpgpkbndeaaGreatChecked
import GoSem.Claim
import GoSem.ClaimJoined
import GoSem.ClaimMapViews
import Derived.JoinedTies
import Derived.KernelRfl
namespace Go.Proofs.YtabmfpgpkbndeaaGreat
/- THE CELL 'sum', in the pinned program and in every row, IS THE sha256 OF THE DUMP (.gsa) THAT YtabmfpgpkbndeaaGreatProg.lean LOADS. Nothing in Lean hashes anything: it is a label: what it is worth is what the hold of that sum in a sandbox is worth. -/
noncomputable def Tryz.pinned : Pinned := { name := "ytabmfpgpkbndeaagreat", sum := "96a4079436d81ce92dd78c68ebfe03e70f14f7b39ba2e651431170b5a53d64ce", checked := Tryz.checked }
namespace Rows
def none {H : Type} : Left H := { results := [], args := [] }

/-- 'gerundlaw15.AutoItems': WHATEVER THE INPUT: true; the input reads as it did. -/
def autoItemsSpec : ChangeSpec := { name := "autoItems", fn := fun _ => fun
  | [d1, d2] => { results := [.lit (.bool true)], args := [d1, d2] }
  | _ => none }
def autoItemsRow : OpenClaim := { program := "ytabmfpgpkbndeaagreat", sum := "96a4079436d81ce92dd78c68ebfe03e70f14f7b39ba2e651431170b5a53d64ce", func := "gerund/gerundlaw15.AutoItems", spec := "autoItems", unfollowed := true, recurses := true, plainKeys := false, apart := false }
def AutoItemsSaid : Prop := autoItemsRow.holds Tryz.pinned (OpenSpec.ofChange autoItemsSpec)

/-- ITS FALSE NEIGHBOUR: 'it returns false'. Refute it at one input. -/
def autoItemsWrong : ChangeSpec := { name := "autoItems", fn := fun _ => fun
  | [d1, d2] => { results := [.lit (.bool false)], args := [d1, d2] }
  | _ => none }
def AutoItemsWrongFalsely : Prop := autoItemsRow.holds Tryz.pinned (OpenSpec.ofChange autoItemsWrong)

/-- 'gerundlaw15.AutoBuilds': WHATEVER THE INPUT: true; the input reads as it did. -/
def autoBuildsSpec : ChangeSpec := { name := "autoBuilds", fn := fun _ => fun
  | [d] => { results := [.lit (.bool true)], args := [d] }
  | _ => none }
def autoBuildsRow : OpenClaim := { program := "ytabmfpgpkbndeaagreat", sum := "96a4079436d81ce92dd78c68ebfe03e70f14f7b39ba2e651431170b5a53d64ce", func := "gerund/gerundlaw15.AutoBuilds", spec := "autoBuilds", unfollowed := true, recurses := true, plainKeys := false, apart := false }
def AutoBuildsSaid : Prop := autoBuildsRow.holds Tryz.pinned (OpenSpec.ofChange autoBuildsSpec)

/-- ITS FALSE NEIGHBOUR: 'it returns false'. Refute it at one input. -/
def autoBuildsWrong : ChangeSpec := { name := "autoBuilds", fn := fun _ => fun
  | [d] => { results := [.lit (.bool false)], args := [d] }
  | _ => none }
def AutoBuildsWrongFalsely : Prop := autoBuildsRow.holds Tryz.pinned (OpenSpec.ofChange autoBuildsWrong)

/-- 'gerundlaw15.AutoWalks': WHATEVER THE INPUT: true; the input reads as it did. -/
def autoWalksSpec : ChangeSpec := { name := "autoWalks", fn := fun _ => fun
  | [d1, d2, d3] => { results := [.lit (.bool true)], args := [d1, d2, d3] }
  | _ => none }
def autoWalksRow : OpenClaim := { program := "ytabmfpgpkbndeaagreat", sum := "96a4079436d81ce92dd78c68ebfe03e70f14f7b39ba2e651431170b5a53d64ce", func := "gerund/gerundlaw15.AutoWalks", spec := "autoWalks", unfollowed := true, recurses := true, plainKeys := false, apart := false }
def AutoWalksSaid : Prop := autoWalksRow.holds Tryz.pinned (OpenSpec.ofChange autoWalksSpec)

/-- ITS FALSE NEIGHBOUR: 'it returns false'. Refute it at one input. -/
def autoWalksWrong : ChangeSpec := { name := "autoWalks", fn := fun _ => fun
  | [d1, d2, d3] => { results := [.lit (.bool false)], args := [d1, d2, d3] }
  | _ => none }
def AutoWalksWrongFalsely : Prop := autoWalksRow.holds Tryz.pinned (OpenSpec.ofChange autoWalksWrong)

/-- 'gerundlaw15.AutoOnce': WHATEVER THE INPUT: true; the input reads as it did. -/
def autoOnceSpec : ChangeSpec := { name := "autoOnce", fn := fun _ => fun
  | [d] => { results := [.lit (.bool true)], args := [d] }
  | _ => none }
def autoOnceRow : OpenClaim := { program := "ytabmfpgpkbndeaagreat", sum := "96a4079436d81ce92dd78c68ebfe03e70f14f7b39ba2e651431170b5a53d64ce", func := "gerund/gerundlaw15.AutoOnce", spec := "autoOnce", unfollowed := true, recurses := true, plainKeys := false, apart := false }
def AutoOnceSaid : Prop := autoOnceRow.holds Tryz.pinned (OpenSpec.ofChange autoOnceSpec)

/-- ITS FALSE NEIGHBOUR: 'it returns false'. Refute it at one input. -/
def autoOnceWrong : ChangeSpec := { name := "autoOnce", fn := fun _ => fun
  | [d] => { results := [.lit (.bool false)], args := [d] }
  | _ => none }
def AutoOnceWrongFalsely : Prop := autoOnceRow.holds Tryz.pinned (OpenSpec.ofChange autoOnceWrong)

/-- 'gerundlaw15.AutoMoves': WHATEVER THE INPUT: true; the input reads as it did. -/
def autoMovesSpec : ChangeSpec := { name := "autoMoves", fn := fun _ => fun
  | [d1, d2] => { results := [.lit (.bool true)], args := [d1, d2] }
  | _ => none }
def autoMovesRow : OpenClaim := { program := "ytabmfpgpkbndeaagreat", sum := "96a4079436d81ce92dd78c68ebfe03e70f14f7b39ba2e651431170b5a53d64ce", func := "gerund/gerundlaw15.AutoMoves", spec := "autoMoves", unfollowed := true, recurses := true, plainKeys := false, apart := false }
def AutoMovesSaid : Prop := autoMovesRow.holds Tryz.pinned (OpenSpec.ofChange autoMovesSpec)

/-- ITS FALSE NEIGHBOUR: 'it returns false'. Refute it at one input. -/
def autoMovesWrong : ChangeSpec := { name := "autoMoves", fn := fun _ => fun
  | [d1, d2] => { results := [.lit (.bool false)], args := [d1, d2] }
  | _ => none }
def AutoMovesWrongFalsely : Prop := autoMovesRow.holds Tryz.pinned (OpenSpec.ofChange autoMovesWrong)

/- THE SECOND FORM. 'bulk': how many values and letters a reading holds, each counted each time it is reached (what is shared counts as often as it is met; a slice's spare places count too). A statement '..UptoSaid' is the law's where the arguments, and the package variables that the reading takes, are together of bulk at most 1048576: NARROWER than '..Said'. Prove '..Said' where nothing that the law and all that it calls make is longer than what came in: it says more and counts as full. Else prove '..UptoSaid'. A law counts once. -/
mutual
def uptoBulk {H : Type} : DataW H → Nat
  | .lit (.string bytes) => bytes.length + 1
  | .lit _ => 1
  | .nil => 1
  | .ptr d => uptoBulk d + 1
  | .slice elems spare => uptoBulkAll elems + uptoBulkAll spare + 1
  | .agg parts => uptoBulkAll parts + 1
  | .iface _ d => uptoBulk d + 1
  | .map entries => uptoBulkEntries entries + 1
  | .held _ => 1
def uptoBulkAll {H : Type} : List (DataW H) → Nat
  | [] => 0
  | d :: r => uptoBulk d + uptoBulkAll r
def uptoBulkEntries {H : Type} : List (Lit × DataW H) → Nat
  | [] => 0
  | x :: r => uptoBulkEntry x + uptoBulkEntries r
def uptoBulkEntry {H : Type} : Lit × DataW H → Nat
  | (.string bytes, d) => bytes.length + uptoBulk d + 1
  | (_, d) => uptoBulk d + 1
 end
def uptoSmall : (H : Type) → List (DataW H) → Bool := fun _ ds => decide (uptoBulkAll ds ≤ 1048576)
def OpenSpec.upto (s : _root_.Go.ChangeSpec) : _root_.Go.OpenSpec := { _root_.Go.OpenSpec.ofChange s with cond := some uptoSmall }

/-- 'gerundlaw15.AutoItems', WHERE WHAT IT READS IS OF BULK AT MOST 1048576: true; the input reads as it did. -/
def autoItemsUptoRow : OpenClaim := { program := "ytabmfpgpkbndeaagreat", sum := "96a4079436d81ce92dd78c68ebfe03e70f14f7b39ba2e651431170b5a53d64ce", func := "gerund/gerundlaw15.AutoItems", spec := "autoItems", unfollowed := true, recurses := true, plainKeys := false, apart := false, narrowed := true }
def AutoItemsUptoSaid : Prop := autoItemsUptoRow.holds Tryz.pinned (OpenSpec.upto autoItemsSpec)

/-- 'gerundlaw15.AutoBuilds', WHERE WHAT IT READS IS OF BULK AT MOST 1048576: true; the input reads as it did. -/
def autoBuildsUptoRow : OpenClaim := { program := "ytabmfpgpkbndeaagreat", sum := "96a4079436d81ce92dd78c68ebfe03e70f14f7b39ba2e651431170b5a53d64ce", func := "gerund/gerundlaw15.AutoBuilds", spec := "autoBuilds", unfollowed := true, recurses := true, plainKeys := false, apart := false, narrowed := true }
def AutoBuildsUptoSaid : Prop := autoBuildsUptoRow.holds Tryz.pinned (OpenSpec.upto autoBuildsSpec)

/-- 'gerundlaw15.AutoWalks', WHERE WHAT IT READS IS OF BULK AT MOST 1048576: true; the input reads as it did. -/
def autoWalksUptoRow : OpenClaim := { program := "ytabmfpgpkbndeaagreat", sum := "96a4079436d81ce92dd78c68ebfe03e70f14f7b39ba2e651431170b5a53d64ce", func := "gerund/gerundlaw15.AutoWalks", spec := "autoWalks", unfollowed := true, recurses := true, plainKeys := false, apart := false, narrowed := true }
def AutoWalksUptoSaid : Prop := autoWalksUptoRow.holds Tryz.pinned (OpenSpec.upto autoWalksSpec)

/-- 'gerundlaw15.AutoOnce', WHERE WHAT IT READS IS OF BULK AT MOST 1048576: true; the input reads as it did. -/
def autoOnceUptoRow : OpenClaim := { program := "ytabmfpgpkbndeaagreat", sum := "96a4079436d81ce92dd78c68ebfe03e70f14f7b39ba2e651431170b5a53d64ce", func := "gerund/gerundlaw15.AutoOnce", spec := "autoOnce", unfollowed := true, recurses := true, plainKeys := false, apart := false, narrowed := true }
def AutoOnceUptoSaid : Prop := autoOnceUptoRow.holds Tryz.pinned (OpenSpec.upto autoOnceSpec)

/-- 'gerundlaw15.AutoMoves', WHERE WHAT IT READS IS OF BULK AT MOST 1048576: true; the input reads as it did. -/
def autoMovesUptoRow : OpenClaim := { program := "ytabmfpgpkbndeaagreat", sum := "96a4079436d81ce92dd78c68ebfe03e70f14f7b39ba2e651431170b5a53d64ce", func := "gerund/gerundlaw15.AutoMoves", spec := "autoMoves", unfollowed := true, recurses := true, plainKeys := false, apart := false, narrowed := true }
def AutoMovesUptoSaid : Prop := autoMovesUptoRow.holds Tryz.pinned (OpenSpec.upto autoMovesSpec)

end Rows
end Go.Proofs.YtabmfpgpkbndeaaGreat
