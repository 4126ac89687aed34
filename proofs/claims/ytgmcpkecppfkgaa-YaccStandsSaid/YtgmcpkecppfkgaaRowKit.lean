/- What the rows of this seat share: the closed facts of the program. -/
import Derived.Test.YtgmcpkecppfkgaaRows
import Derived.Test.YtgmcpkecppfkgaaShared
import Derived.Test.YtgmcpkecppfkgaaWordsB
import Derived.ProofKit
import Derived.SizedLaws
import Derived.LaidMore
import Derived.OpenShut
import Derived.Stop.Joined
import Derived.ShutString
import Derived.ChangeOld
namespace Go.Proofs.Ytgmcpkecppfkgaa.RowKit
open Go.ChangeShapes Go.WideShapes Go.ChangeAt Go.RowKit

theorem own : ownKnob Try.prog.godebug = none := by kernel_rfl
theorem laidOut : laidOutB Try.prog = true := by kernel_rfl
end Go.Proofs.Ytgmcpkecppfkgaa.RowKit
