/- Contracts of At over this program, and of the document's own; places of a text, and their order. -/
import Derived.Test.YtoehbkgdodogkaaGreatPlaceFn
import Derived.Test.YtoehbkgdodogkaaGreatBytes
namespace Go.Proofs.YtoehbkgdodogkaaGreat
set_option maxRecDepth 100000
open Go.RowKit

namespace Pl
def stp (p : Int × Int) (z : Int) : Int × Int := if z = 10 then (p.1 + 1, 1) else (p.1, p.2 + 1)
/-- The place behind a text. -/
def pos (l : List Int) : Int × Int := l.foldl stp (1, 1)
theorem pos_snoc (l : List Int) (z : Int) : pos (l ++ [z]) = stp (pos l) z := by unfold pos; rw [List.foldl_append]; rfl
theorem pos_next (l : List Int) (k : Nat) (h : k < l.length) : pos (l.take (k + 1)) = stp (pos (l.take k)) (l.getD k 0) := by rw [L.take_snoc l k h, pos_snoc]
theorem pos_bd (l : List Int) (k : Nat) (h : k ≤ l.length) : 1 ≤ (pos (l.take k)).1 ∧ (pos (l.take k)).1 ≤ 1 + k ∧ 1 ≤ (pos (l.take k)).2 ∧ (pos (l.take k)).2 ≤ 1 + k := by
  induction k with
  | zero => simp [pos]
  | succ k ih =>
    have := ih (by omega)
    rw [pos_next l k (by omega)]
    unfold stp
    split <;> simp only <;> omega
theorem pos_lt (l : List Int) (i k : Nat) (h : i < k) (hk : k ≤ l.length) : befP (pos (l.take i)).1 (pos (l.take i)).2 (pos (l.take k)).1 (pos (l.take k)).2 = true := by
  induction k with
  | zero => omega
  | succ k ih =>
    rw [pos_next l k (by omega)]
    by_cases e : i = k
    · subst e
      unfold stp befP
      split <;> simp
      all_goals omega
    · have := ih (by omega) (by omega)
      unfold befP at this ⊢
      unfold stp
      simp only [Bool.or_eq_true, Bool.and_eq_true, decide_eq_true_eq] at this ⊢
      split <;> simp only <;> omega
end Pl

end Go.Proofs.YtoehbkgdodogkaaGreat
