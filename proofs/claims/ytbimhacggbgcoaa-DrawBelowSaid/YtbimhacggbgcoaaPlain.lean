/- What the plain rows of a seat share: a slice of 32-bit numbers that came in, and the closed facts of the program. -/
import Derived.Test.YtbimhacggbgcoaaRows
import Derived.Test.YtbimhacggbgcoaaBase
import Derived.ProofKit
import Derived.OpenShut
import Derived.Stop.Joined
import Derived.ShutString
import Derived.ChangeOld
namespace Go.Proofs.Ytbimhacggbgcoaa.Plain
open Go.ChangeShapes Go.WideShapes Go.ChangeAt Go.RowKit

theorem own : ownKnob Try.prog.godebug = none := by kernel_rfl
theorem laidOut : laidOutB Try.prog = true := by kernel_rfl

/-- A slice of 32-bit numbers that came in: nil, or a row of so many cells. -/
def IsRow (w : World) (a : Option Addr) (len cap : Nat) (zs : List Int) : Prop :=
  (a = none ∧ len = 0 ∧ cap = 0 ∧ zs = []) ∨
  ∃ x, a = some x ∧ len ≤ cap ∧ cap ≤ maxLen ∧ zs.length = cap ∧ (∀ i, i < zs.length → w.cell? (x.add i) = some (.int .u32 (zs.getD i 0))) ∧ ∀ n ∈ zs, (Lit.int .u32 n).wf = true

theorem IsRow.rd {w : World} {a : Option Addr} {len cap : Nat} {zs : List Int} (h : IsRow w a len cap zs) : ∃ xs, xs.length = len ∧ len ≤ cap ∧ cap ≤ 9223372036854775807 ∧ M.Lim xs ∧ Rd w w.heap.size a xs := by
  rcases h with ⟨rfl, rfl, rfl, rfl⟩ | ⟨x, rfl, hl, hm, hz, hc, hw⟩
  · exact ⟨[], rfl, Nat.le_refl _, by omega, M.Lim.nil, Rd.nil _ _ _⟩
  · refine ⟨zs.take len, by rw [List.length_take]; omega, hl, by unfold maxLen at hm; omega, ?_, ?_⟩
    · intro n hn
      have := hw n (List.mem_of_mem_take hn)
      have hb := bounds_u32 this
      omega
    · intro h0
      have hlen : len ≠ 0 := by rw [List.length_take] at h0; omega
      obtain ⟨b, off, rfl, hc'⟩ := ints_at hc (by omega)
      refine ⟨b, off, rfl, block_lt_of_cell (hc' 0 (by omega)), fun j hj => ?_⟩
      have hj' : j < len := by rw [List.length_take] at hj; omega
      rw [hc' j (by omega), M.gd_lt hj, M.gd_lt (by omega : j < zs.length), List.getElem_take]
end Go.Proofs.Ytbimhacggbgcoaa.Plain
