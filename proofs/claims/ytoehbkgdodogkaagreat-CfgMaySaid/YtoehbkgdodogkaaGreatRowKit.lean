/- What the rows of this seat share: the closed facts of the program. -/
import Derived.Test.YtoehbkgdodogkaaGreatRows
import Derived.Test.YtoehbkgdodogkaaGreatShared
import Derived.Test.YtoehbkgdodogkaaGreatWordsB
import Derived.Test.YtoehbkgdodogkaaGreatGramOpen
import Derived.ProofKit
import Derived.SizedLaws
import Derived.LaidMore
import Derived.OpenShut
import Derived.Stop.Joined
import Derived.ShutString
import Derived.ChangeOld
namespace Go.Proofs.YtoehbkgdodogkaaGreat.RowKit
open Go.ChangeShapes Go.WideShapes Go.ChangeAt Go.RowKit

theorem own : ownKnob Tryz.prog.godebug = none := by kernel_rfl
theorem laidOut : laidOutB Tryz.prog = true := by kernel_rfl
end Go.Proofs.YtoehbkgdodogkaaGreat.RowKit
