/- Pure: places of a text's tokens differ, names and literals are not empty: what listed asks. -/
import Derived.Test.YtgmcpkecppfkgaaYaccPure
import Derived.Test.YtgmcpkecppfkgaaYaccList
namespace Go.Proofs.Ytgmcpkecppfkgaa

/-- Two places of a text are the same just if they are those of one byte. -/
theorem place_eq (L : List Int) (i k : Nat) (hi : i ≤ L.length) (hk : k ≤ L.length) (hn : L.length ≤ 4000) : (Op.floatEq .f64 (Fl.fl (Pl.pos (L.take i)).1) (Fl.fl (Pl.pos (L.take k)).1) && Op.floatEq .f64 (Fl.fl (Pl.pos (L.take i)).2) (Fl.fl (Pl.pos (L.take k)).2)) = decide (i = k) := by
  have b1 := Pl.pos_bd L i hi
  have b2 := Pl.pos_bd L k hk
  unfold Op.floatEq
  rw [eq_fl _ _ (by omega) (by omega), eq_fl _ _ (by omega) (by omega)]
  rcases Nat.lt_trichotomy i k with h | h | h
  · have := Pl.pos_lt L i k h hk
    rw [decide_eq_false (show ¬ i = k by omega)]
    unfold befP at this
    simp only [Bool.or_eq_true, Bool.and_eq_true, decide_eq_true_eq] at this
    simp only [Bool.and_eq_false_iff, decide_eq_false_iff_not]
    omega
  · subst h; simp
  · have := Pl.pos_lt L k i h hi
    rw [decide_eq_false (show ¬ i = k by omega)]
    unfold befP at this
    simp only [Bool.or_eq_true, Bool.and_eq_true, decide_eq_true_eq] at this
    simp only [Bool.and_eq_false_iff, decide_eq_false_iff_not]
    omega
theorem ref_ne {L : List Int} {x : Tok} (h : Stands L x) (hr : Y.isRef x = true) : x.t ≠ [] := by
  intro e
  have h1 := h.name
  have h2 := h.lit
  rw [e] at h1 h2
  rw [show T.isName [] = false from rfl] at h1
  rw [show T.isLit [] = false from rfl] at h2
  unfold Y.isRef at hr
  simp at hr h1 h2
  omega
theorem tok_one {L : List Int} {xs : List Tok} (h : Rise L L.length xs) {x y : Tok} (hx : x ∈ xs) (hy : y ∈ xs) (ho : x.o = y.o) : x = y := by
  obtain ⟨i, hi, rfl⟩ := List.getElem_of_mem hx
  obtain ⟨j, hj, rfl⟩ := List.getElem_of_mem hy
  rcases Nat.lt_trichotomy i j with hij | hij | hij
  · have := h.lt i j hij hj; omega
  · subst hij; rfl
  · have := h.lt j i hij hi; omega
theorem tok_le {L : List Int} {xs : List Tok} (h : Rise L L.length xs) {x : Tok} (hx : x ∈ xs) : x.o ≤ L.length := Nat.le_of_lt (h.1 x hx).2
end Go.Proofs.Ytgmcpkecppfkgaa
