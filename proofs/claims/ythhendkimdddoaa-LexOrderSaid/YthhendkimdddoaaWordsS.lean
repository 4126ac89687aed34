/- Words for memory over this program: slices of texts, read. -/
import Derived.Test.YthhendkimdddoaaShared
import Derived.SliceStrings
import Derived.WideShapes
namespace Go.Proofs.Ythhendkimdddoaa
open Go.RowKit

/-- A slice value's address A, with the texts ss, all of it below block B. -/
def RdS (w : World) (B : Nat) (A : Option Addr) (ss : List ByteArray) : Prop :=
  ss.length ≠ 0 → ∃ g o, A = some ⟨g, o, none⟩ ∧ g < B ∧ ∀ j, j < ss.length → w.cell? ⟨g, o + j, none⟩ = some (.string (ss.getD j ByteArray.empty))
theorem RdS.keep {w w' : World} {B : Nat} {A : Option Addr} {ss : List ByteArray} (h : RdS w B A ss) (hk : ∀ g o, g < B → w'.cell? ⟨g, o, none⟩ = w.cell? ⟨g, o, none⟩) : RdS w' B A ss := fun hn => by
  obtain ⟨g, o, e, hg, hc⟩ := h hn
  exact ⟨g, o, e, hg, fun j hj => (hk _ _ hg).trans (hc j hj)⟩
theorem RdS.below {w w' : World} {B B' : Nat} {A : Option Addr} {ss : List ByteArray} (h : RdS w B A ss) (hb : Below B' w w') (hB : B ≤ B') : RdS w' B A ss :=
  h.keep fun g o hg => hb.cell (p := ⟨g, o, none⟩) (Nat.lt_of_lt_of_le hg hB)
theorem RdS.drewN {w : World} {B : Nat} {A : Option Addr} {ss : List ByteArray} (h : RdS w B A ss) (n : Nat) : RdS (w.drewN n) B A ss := h

/-- A slice of texts that came in: nil, or a row of so many cells. -/
def IsRowS (w : World) (a : Option Addr) (len cap : Nat) (ss : List ByteArray) : Prop :=
  (a = none ∧ len = 0 ∧ cap = 0 ∧ ss = []) ∨
  ∃ x, a = some x ∧ len ≤ cap ∧ cap ≤ maxLen ∧ ss.length = cap ∧ (∀ i, i < ss.length → w.cell? (x.add i) = some (.string (ss.getD i ByteArray.empty)))
theorem IsRowS.rd {w : World} {a : Option Addr} {len cap : Nat} {zs : List ByteArray} (h : IsRowS w a len cap zs) : ∃ xs, xs.length = len ∧ len ≤ cap ∧ cap ≤ 9223372036854775807 ∧ RdS w w.heap.size a xs := by
  rcases h with ⟨rfl, rfl, rfl, rfl⟩ | ⟨x, rfl, hl, hm, hz, hc⟩
  · exact ⟨[], rfl, Nat.le_refl _, by omega, fun h => absurd rfl h⟩
  · refine ⟨zs.take len, by rw [List.length_take]; omega, hl, by unfold maxLen at hm; omega, ?_⟩
    intro h0
    have hlen : len ≠ 0 := by rw [List.length_take] at h0; omega
    obtain ⟨b, o, s⟩ := x
    obtain rfl : s = none := by simpa [Addr.add] using World.cell?_spot (hc 0 (by omega))
    refine ⟨b, o, rfl, block_lt_of_cell (hc 0 (by omega)), fun j hj => ?_⟩
    have hj' : j < len := by rw [List.length_take] at hj; omega
    have h1 := hc j (by omega)
    rw [Go.WideShapes.add_plain] at h1
    rw [h1]
    simp only [List.getD, List.getElem?_take]
    rw [if_pos hj']
end Go.Proofs.Ythhendkimdddoaa
