/-
  No cell of these rows narrows 'for every input' (looked for: loops, veiled, ifaces, maps, wideKeys, modest, calm, conditions, laid).
  DERIVED. THE GIVEN ROWS OF THIS SEAT. 4 by the template 'for every input the law returns true; each argument reads behind the call as it read before'; 0 by the template 'total and deterministic' (their statements: YtcmhaemaophplaaGreatTotals.lean).
  GIVEN WITH THE SEED: the statements are not yours to turn. If you find one false, say at which input.
  Laid BY PROGRAM, IN A SANDBOX (cutbox-rows.mjs): the forced cells as the released guide's own fill.sh prints them over the translation 3e456e993dea2a01… (all of the seat's roots in one cut). By AI agents, Wed Nov 11 2026. No macro, syntax, notation, axiom, sorry.
-/
import Derived.Test.YtcmhaemaophplaaGreatChecked
import GoSem.Claim
import GoSem.ClaimJoined
import GoSem.ClaimMapViews
import Derived.JoinedTies
import Derived.KernelRfl
namespace Go.Proofs.YtcmhaemaophplaaGreat
/- THE CELL 'sum', in the pinned program and in every row, IS THE sha256 OF THE DUMP (.gsa) THAT YtcmhaemaophplaaGreatProg.lean LOADS. Nothing in Lean hashes anything: it is a label: what it is worth is what the hold of that sum in a sandbox is worth. -/
noncomputable def Tryz.pinned : Pinned := { name := "ytcmhaemaophplaagreat", sum := "3e456e993dea2a019494e5c3f9cea29900659c52d40b4876657df619b62621ab", checked := Tryz.checked }
namespace Rows
def none {H : Type} : Left H := { results := [], args := [] }

/-- 'gerundlaw16.LookOf': WHATEVER THE INPUT: true; the input reads as it did. -/
def lookOfSpec : ChangeSpec := { name := "lookOf", fn := fun _ => fun
  | [d] => { results := [.lit (.bool true)], args := [d] }
  | _ => none }
def lookOfRow : OpenClaim := { program := "ytcmhaemaophplaagreat", sum := "3e456e993dea2a019494e5c3f9cea29900659c52d40b4876657df619b62621ab", func := "gerund/gerundlaw16.LookOf", spec := "lookOf", unfollowed := true, recurses := true, plainKeys := false, apart := false }
def LookOfSaid : Prop := lookOfRow.holds Tryz.pinned (OpenSpec.ofChange lookOfSpec)

/-- ITS FALSE NEIGHBOUR: 'it returns false'. Refute it at one input. -/
def lookOfWrong : ChangeSpec := { name := "lookOf", fn := fun _ => fun
  | [d] => { results := [.lit (.bool false)], args := [d] }
  | _ => none }
def LookOfWrongFalsely : Prop := lookOfRow.holds Tryz.pinned (OpenSpec.ofChange lookOfWrong)

/-- 'gerundlaw16.LookRules': WHATEVER THE INPUT: true; the input reads as it did. -/
def lookRulesSpec : ChangeSpec := { name := "lookRules", fn := fun _ => fun
  | [d1, d2] => { results := [.lit (.bool true)], args := [d1, d2] }
  | _ => none }
def lookRulesRow : OpenClaim := { program := "ytcmhaemaophplaagreat", sum := "3e456e993dea2a019494e5c3f9cea29900659c52d40b4876657df619b62621ab", func := "gerund/gerundlaw16.LookRules", spec := "lookRules", unfollowed := true, recurses := true, plainKeys := false, apart := false }
def LookRulesSaid : Prop := lookRulesRow.holds Tryz.pinned (OpenSpec.ofChange lookRulesSpec)

/-- ITS FALSE NEIGHBOUR: 'it returns false'. Refute it at one input. -/
def lookRulesWrong : ChangeSpec := { name := "lookRules", fn := fun _ => fun
  | [d1, d2] => { results := [.lit (.bool false)], args := [d1, d2] }
  | _ => none }
def LookRulesWrongFalsely : Prop := lookRulesRow.holds Tryz.pinned (OpenSpec.ofChange lookRulesWrong)

/-- 'gerundlaw16.LookFollows': WHATEVER THE INPUT: true; the input reads as it did. -/
def lookFollowsSpec : ChangeSpec := { name := "lookFollows", fn := fun _ => fun
  | [d] => { results := [.lit (.bool true)], args := [d] }
  | _ => none }
def lookFollowsRow : OpenClaim := { program := "ytcmhaemaophplaagreat", sum := "3e456e993dea2a019494e5c3f9cea29900659c52d40b4876657df619b62621ab", func := "gerund/gerundlaw16.LookFollows", spec := "lookFollows", unfollowed := true, recurses := true, plainKeys := false, apart := false }
def LookFollowsSaid : Prop := lookFollowsRow.holds Tryz.pinned (OpenSpec.ofChange lookFollowsSpec)

/-- ITS FALSE NEIGHBOUR: 'it returns false'. Refute it at one input. -/
def lookFollowsWrong : ChangeSpec := { name := "lookFollows", fn := fun _ => fun
  | [d] => { results := [.lit (.bool false)], args := [d] }
  | _ => none }
def LookFollowsWrongFalsely : Prop := lookFollowsRow.holds Tryz.pinned (OpenSpec.ofChange lookFollowsWrong)

/-- 'gerundlaw16.LookStands': WHATEVER THE INPUT: true; the input reads as it did. -/
def lookStandsSpec : ChangeSpec := { name := "lookStands", fn := fun _ => fun
  | [d] => { results := [.lit (.bool true)], args := [d] }
  | _ => none }
def lookStandsRow : OpenClaim := { program := "ytcmhaemaophplaagreat", sum := "3e456e993dea2a019494e5c3f9cea29900659c52d40b4876657df619b62621ab", func := "gerund/gerundlaw16.LookStands", spec := "lookStands", unfollowed := true, recurses := true, plainKeys := false, apart := false }
def LookStandsSaid : Prop := lookStandsRow.holds Tryz.pinned (OpenSpec.ofChange lookStandsSpec)

/-- ITS FALSE NEIGHBOUR: 'it returns false'. Refute it at one input. -/
def lookStandsWrong : ChangeSpec := { name := "lookStands", fn := fun _ => fun
  | [d] => { results := [.lit (.bool false)], args := [d] }
  | _ => none }
def LookStandsWrongFalsely : Prop := lookStandsRow.holds Tryz.pinned (OpenSpec.ofChange lookStandsWrong)

/- THE SECOND FORM. 'bulk': how many values and letters a reading holds, each counted each time it is reached (what is shared counts as often as it is met; a slice's spare places count too). A statement '..UptoSaid' is the law's where the arguments, and the package variables that the reading takes, are together of bulk at most 1048576: NARROWER than '..Said'. Prove '..Said' where nothing that the law and all that it calls make is longer than what came in: it says more and counts as full. Else prove '..UptoSaid'. A law counts once. -/
mutual
def uptoBulk {H : Type} : DataW H → Nat
  | .lit (.string bytes) => bytes.length + 1
  | .lit _ => 1
  | .nil => 1
  | .ptr d => uptoBulk d + 1
  | .slice elems spare => uptoBulkAll elems + uptoBulkAll spare + 1
  | .agg parts => uptoBulkAll parts + 1
  | .iface _ d => uptoBulk d + 1
  | .map entries => uptoBulkEntries entries + 1
  | .held _ => 1
def uptoBulkAll {H : Type} : List (DataW H) → Nat
  | [] => 0
  | d :: r => uptoBulk d + uptoBulkAll r
def uptoBulkEntries {H : Type} : List (Lit × DataW H) → Nat
  | [] => 0
  | x :: r => uptoBulkEntry x + uptoBulkEntries r
def uptoBulkEntry {H : Type} : Lit × DataW H → Nat
  | (.string bytes, d) => bytes.length + uptoBulk d + 1
  | (_, d) => uptoBulk d + 1
 end
def uptoSmall : (H : Type) → List (DataW H) → Bool := fun _ ds => decide (uptoBulkAll ds ≤ 1048576)
def OpenSpec.upto (s : _root_.Go.ChangeSpec) : _root_.Go.OpenSpec := { _root_.Go.OpenSpec.ofChange s with cond := some uptoSmall }

/-- 'gerundlaw16.LookOf', WHERE WHAT IT READS IS OF BULK AT MOST 1048576: true; the input reads as it did. -/
def lookOfUptoRow : OpenClaim := { program := "ytcmhaemaophplaagreat", sum := "3e456e993dea2a019494e5c3f9cea29900659c52d40b4876657df619b62621ab", func := "gerund/gerundlaw16.LookOf", spec := "lookOf", unfollowed := true, recurses := true, plainKeys := false, apart := false, narrowed := true }
def LookOfUptoSaid : Prop := lookOfUptoRow.holds Tryz.pinned (OpenSpec.upto lookOfSpec)

/-- 'gerundlaw16.LookRules', WHERE WHAT IT READS IS OF BULK AT MOST 1048576: true; the input reads as it did. -/
def lookRulesUptoRow : OpenClaim := { program := "ytcmhaemaophplaagreat", sum := "3e456e993dea2a019494e5c3f9cea29900659c52d40b4876657df619b62621ab", func := "gerund/gerundlaw16.LookRules", spec := "lookRules", unfollowed := true, recurses := true, plainKeys := false, apart := false, narrowed := true }
def LookRulesUptoSaid : Prop := lookRulesUptoRow.holds Tryz.pinned (OpenSpec.upto lookRulesSpec)

/-- 'gerundlaw16.LookFollows', WHERE WHAT IT READS IS OF BULK AT MOST 1048576: true; the input reads as it did. -/
def lookFollowsUptoRow : OpenClaim := { program := "ytcmhaemaophplaagreat", sum := "3e456e993dea2a019494e5c3f9cea29900659c52d40b4876657df619b62621ab", func := "gerund/gerundlaw16.LookFollows", spec := "lookFollows", unfollowed := true, recurses := true, plainKeys := false, apart := false, narrowed := true }
def LookFollowsUptoSaid : Prop := lookFollowsUptoRow.holds Tryz.pinned (OpenSpec.upto lookFollowsSpec)

/-- 'gerundlaw16.LookStands', WHERE WHAT IT READS IS OF BULK AT MOST 1048576: true; the input reads as it did. -/
def lookStandsUptoRow : OpenClaim := { program := "ytcmhaemaophplaagreat", sum := "3e456e993dea2a019494e5c3f9cea29900659c52d40b4876657df619b62621ab", func := "gerund/gerundlaw16.LookStands", spec := "lookStands", unfollowed := true, recurses := true, plainKeys := false, apart := false, narrowed := true }
def LookStandsUptoSaid : Prop := lookStandsUptoRow.holds Tryz.pinned (OpenSpec.upto lookStandsSpec)

end Rows
end Go.Proofs.YtcmhaemaophplaaGreat
