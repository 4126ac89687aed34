/- What the rows of this seat share: the closed facts of the program. -/
import Derived.Test.YtihdkaggjinmmaaRows
import Derived.Test.YtihdkaggjinmmaaShared
import Derived.Test.YtihdkaggjinmmaaWordsB
import Derived.Test.YtihdkaggjinmmaaWordsI
import Derived.ProofKit
import Derived.SizedLaws
import Derived.LaidMore
import Derived.OpenShut
import Derived.Stop.Joined
import Derived.ShutString
import Derived.ChangeOld
namespace Go.Proofs.Ytihdkaggjinmmaa.RowKit
open Go.ChangeShapes Go.WideShapes Go.ChangeAt Go.RowKit

theorem own : ownKnob Try.prog.godebug = none := by kernel_rfl
theorem laidOut : laidOutB Try.prog = true := by kernel_rfl
/-- An array of two numbers, opened. -/
theorem arr2 {H : Type} {enc : TypeId × Value → H} {W : World} {base : Nat} {spare : Nat → Bool} {held : Bool} {fuel : Nat} {l : List Value} {x : DataW H × List MemPlace} (h : DataW.trod enc Try.prog W base spare held fuel 31 l = some x) : ∃ a b, l = [.int .i64 a, .int .i64 b] := by
  obtain ⟨ys, m, _, _, hl, hn, hel⟩ := DataW.trod_array Try.underlying31 h
  have hc : Try.prog.cellsOf 31 = 2 := by kernel_rfl
  have he : Try.prog.cellsOf 3 = 1 := by kernel_rfl
  rw [hc] at hl
  rw [he] at hel
  match l, hl with
  | [c0, c1], _ =>
    have h0 := hel 0 (by omega)
    have h1 := hel 1 (by omega)
    rw [List.getElem?_eq_getElem (by omega)] at h0 h1
    obtain ⟨a, e0, _⟩ := DataW.trod_int Try.underlying3 h0
    obtain ⟨b, e1, _⟩ := DataW.trod_int Try.underlying3 h1
    simp at e0 e1
    exact ⟨a, b, by rw [e0, e1]⟩
end Go.Proofs.Ytihdkaggjinmmaa.RowKit
