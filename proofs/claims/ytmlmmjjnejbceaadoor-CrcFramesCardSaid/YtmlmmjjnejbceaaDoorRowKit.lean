/- What the rows of this seat share: the closed facts of the program, and the listed tables. -/
import Derived.Test.YtmlmmjjnejbceaaDoorRows
import Derived.Test.YtmlmmjjnejbceaaDoorShared
import Derived.Test.YtmlmmjjnejbceaaDoorWordsB
import Derived.Test.YtmlmmjjnejbceaaDoorCrcLow
import Derived.ProofKit
import Derived.SizedLaws
import Derived.LaidMore
import Derived.OpenShut
import Derived.Stop.Joined
import Derived.ShutString
import Derived.ChangeOld
namespace Go.Proofs.YtmlmmjjnejbceaaDoor.RowKit
open Go.ChangeShapes Go.WideShapes Go.ChangeAt Go.RowKit

theorem own : ownKnob Tryd.prog.godebug = none := by kernel_rfl
theorem laidOut : laidOutB Tryd.prog = true := by kernel_rfl
/-- The tables that the rows list. -/
def LT : List (String × DataW Unit) := [("gerund/crc.fours", Rows.laid_gerund_crc_fours)]
theorem door_met (os : Os) (args : Array Value) : laidMetH Tryd.prog LT ((World.doorLaid Tryd.prog 400 os).forCall (fun _ _ => 0) ⟨#[], args, []⟩).memory :=
  laidMetH_of_parts3 (fuel := 8) (laidMet_of_run' 8 (by kernel_rfl) (by kernel_rfl)) (by kernel_rfl) (by kernel_rfl)
theorem datum0 {H : Type} : (Rows.laid_gerund_crc_fours : DataW H) = Lib.tabData .u32 (K.fours.map Int.ofNat) := rfl
theorem tab0 {W : World} (h : laidMetH Tryd.prog LT W) : Fours W := by
  rw [MakeChecks.laidMetH_plain _ _ _ (by kernel_rfl)] at h
  obtain ⟨ps, ⟨g0, t0, cs0, f0, p0, q0, hg0, ht0, hv0, hd0, _, _⟩, _, _⟩ := h
  have hgn : Tryd.prog.globalNamed "gerund/crc.fours" = some 0 := by kernel_rfl
  have hgt : (Tryd.prog.globals[0]?).map (·.type) = some 36 := by kernel_rfl
  obtain rfl := Option.some.inj (hgn.symm.trans hg0)
  obtain rfl := Option.some.inj (hgt.symm.trans ht0)
  unfold Fours Lib.TabIs
  rw [datum0] at hd0
  rw [hv0, ← Lib.cells_of_tab Tryd.underlying36 Tryd.underlying23 (by kernel_rfl) (by kernel_rfl) hd0]
end Go.Proofs.YtmlmmjjnejbceaaDoor.RowKit
