/- What the rows of this seat share: the closed facts of the program, and the listed tables. -/
import Derived.Test.YtmpgccmggapigaaDoorRows
import Derived.Test.YtmpgccmggapigaaDoorShared
import Derived.Test.YtmpgccmggapigaaDoorWordsI
import Derived.Test.YtmpgccmggapigaaDoorSetLow
import Derived.ProofKit
import Derived.LaidMore
import Derived.OpenShut
import Derived.Stop.Joined
import Derived.ShutString
import Derived.ChangeOld
namespace Go.Proofs.YtmpgccmggapigaaDoor.RowKit
open Go.ChangeShapes Go.WideShapes Go.ChangeAt Go.RowKit

theorem own : ownKnob Tryd.prog.godebug = none := by kernel_rfl
theorem laidOut : laidOutB Tryd.prog = true := by kernel_rfl
/-- The tables that the rows list. -/
def LT : List (String × DataW Unit) := [("math/bits.deBruijn32tab", Rows.laid_math_bits_deBruijn32tab)]
theorem door_met (os : Os) (args : Array Value) : laidMetH Tryd.prog LT ((World.doorLaid Tryd.prog 400 os).forCall (fun _ _ => 0) ⟨#[], args, []⟩).memory :=
  laidMetH_of_parts3 (fuel := 8) (laidMet_of_run' 8 (by kernel_rfl) (by kernel_rfl)) (by kernel_rfl) (by kernel_rfl)
theorem datum0 {H : Type} : (Rows.laid_math_bits_deBruijn32tab : DataW H) = Lib.tabData .u8 (Lib.deBruijn32tab.map Int.ofNat) := rfl
theorem tab0 {W : World} (h : laidMetH Tryd.prog LT W) : Tab32 W := by
  rw [MakeChecks.laidMetH_plain _ _ _ (by kernel_rfl)] at h
  obtain ⟨ps, ⟨g0, t0, cs0, f0, p0, q0, hg0, ht0, hv0, hd0, _, _⟩, _, _⟩ := h
  have hgn : Tryd.prog.globalNamed "math/bits.deBruijn32tab" = some 0 := by kernel_rfl
  have hgt : (Tryd.prog.globals[0]?).map (·.type) = some 35 := by kernel_rfl
  obtain rfl := Option.some.inj (hgn.symm.trans hg0)
  obtain rfl := Option.some.inj (hgt.symm.trans ht0)
  unfold Tab32 Lib.TabIs
  rw [datum0] at hd0
  rw [hv0, ← Lib.cells_of_tab Tryd.underlying35 Tryd.underlying5 (by kernel_rfl) (by kernel_rfl) hd0]
end Go.Proofs.YtmpgccmggapigaaDoor.RowKit
