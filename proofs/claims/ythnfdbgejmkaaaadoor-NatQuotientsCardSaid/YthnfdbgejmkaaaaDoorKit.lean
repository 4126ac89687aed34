/- The contracts of this seat in one shape, for the statements' walks: what is read lies below the world's end, and what was there stays. -/
import Derived.Test.YthnfdbgejmkaaaaDoorWalkParts
namespace Go.Proofs.YthnfdbgejmkaaaaDoor
open Go.RowKit

theorem k_same (W : World) (A A' : Option Addr) (ca cb : Nat) (l : List Int) (h1 : Rd W W.heap.size A l) (h2 : Rd W W.heap.size A' l) (hl : l.length ≤ 9223372036854775807) :
    Calls Tryd.prog 17 #[.slice A l.length ca, .slice A' l.length cb] W fun e w' => e = .returned (.bool true) ∧ Below W.heap.size W w' := by
  refine (same_any A A' ca cb W.heap.size l l W h1 h2 hl hl).mono ?_
  rintro e w' ⟨rfl, n, rfl⟩
  exact ⟨by simp, below_drewN (Below.refl _ _) n⟩
theorem k_copy (W : World) (A : Option Addr) (c : Nat) (l : List Int) (h1 : Rd W W.heap.size A l) (hl : l.length ≤ 1000000000) :
    Calls Tryd.prog 12 #[.slice A l.length c] W (Ret1 l W) := by
  refine (copy_any A c W.heap.size l W h1 hl (Nat.le_refl _)).mono ?_
  rintro e w' ⟨v, rfl, ho, hb⟩
  obtain ⟨A', c', rfl, h1, h2, h3⟩ := ho.form
  exact ⟨A', c', rfl, h1, by unfold maxLen at h2; omega, h3, hb⟩
theorem k_ncmp (W : World) (A A' : Option Addr) (ca cb : Nat) (xs ys : List Int) (h1 : Rd W W.heap.size A xs) (h2 : Rd W W.heap.size A' ys) (hx : M.Lim xs) (hy : M.Lim ys) (e1 : xs.length ≤ ca) (e2 : ca ≤ 9223372036854775807) (e3 : ys.length ≤ cb) (e4 : cb ≤ 9223372036854775807) :
    Calls Tryd.prog 18 #[.slice A xs.length ca, .slice A' ys.length cb] W fun e w' => e = .returned (.int .i64 (cmpS xs ys)) ∧ Below W.heap.size W w' := by
  refine (ncmp_any A A' ca cb W.heap.size xs ys W h1 h2 hx hy e1 e3 e2 e4).mono ?_
  rintro e w' ⟨rfl, n, rfl⟩
  exact ⟨rfl, below_drewN (Below.refl _ _) n⟩
theorem k_nbits (W : World) (A : Option Addr) (ca : Nat) (xs : List Int) (h1 : Rd W W.heap.size A xs) (hx : M.Lim xs) (e1 : xs.length ≤ ca) (e2 : ca ≤ 9223372036854775807) :
    Calls Tryd.prog 24 #[.slice A xs.length ca] W fun e w' => e = .returned (.int .i64 (bitsS xs)) ∧ Below W.heap.size W w' := by
  refine (nbits_any A ca W.heap.size xs W h1 hx e1 e2).mono ?_
  rintro e w' ⟨rfl, n, rfl⟩
  exact ⟨rfl, below_drewN (Below.refl _ _) n⟩
theorem fitL_lim (m : Nat) : (fitL m).1.length ≤ 32 := by
  unfold fitL
  by_cases h : (M.canon m).length ≤ 32
  · rw [if_pos h]; exact h
  · rw [if_neg h]; exact Nat.zero_le _
theorem addS_len (xs ys : List Int) : (addS xs ys).1.length ≤ 32 := by unfold addS; split; exact fitL_lim _; exact Nat.zero_le _
theorem mulS_len (xs ys : List Int) : (mulS xs ys).1.length ≤ 32 := by unfold mulS; split; exact fitL_lim _; exact Nat.zero_le _
theorem subS_len {xs ys : List Int} (hx : M.Lim xs) (hy : M.Lim ys) : (subS xs ys).1.length ≤ 32 := by
  unfold subS; split
  · rename_i h
    rw [Bool.and_eq_true] at h
    split
    · exact Nat.zero_le _
    · have h1 := M.val_lt hx
      have h2 := M.val_nonneg hy
      have h3 := M.pw_mono (right_len h.1)
      have h4 := M.val_nonneg hx
      exact M.canon_length_le.2 (by have := M.pw_pos 32; omega)
  · exact Nat.zero_le _
theorem divS_len {xs : List Int} (hx : M.Lim xs) (d : Int) (d0 : 0 ≤ d) : (divS xs d).1.length ≤ 32 := by
  unfold divS; split
  · rename_i h
    rw [Bool.and_eq_true] at h
    have h1 := M.val_lt hx
    have h3 := M.pw_mono (right_len h.1)
    have h4 := M.val_nonneg hx
    have h5 : M.val xs / d ≤ M.val xs := Int.ediv_le_self _ h4
    have h6 : 0 ≤ M.val xs / d := Int.ediv_nonneg h4 d0
    exact M.canon_length_le.2 (by have := M.pw_pos 32; omega)
  · exact Nat.zero_le _
theorem parseS_len (l : List UInt8) : (parseS l).1.length ≤ 32 := by unfold parseS; split; exact fitL_lim _; exact Nat.zero_le _
theorem lim_fitL (m : Nat) : M.Lim (fitL m).1 := by
  unfold fitL; split
  · exact M.lim_canon _
  · exact M.Lim.nil
theorem beq_self_int (a : Int) : (a == a) = true := by simp
end Go.Proofs.YthnfdbgejmkaaaaDoor
