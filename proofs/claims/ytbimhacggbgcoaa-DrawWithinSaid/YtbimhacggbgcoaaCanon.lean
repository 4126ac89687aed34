/- Numbers' shortest limbs in the contracts of nat over this program: they are right, and what is answered of them. -/
import Derived.Test.YtbimhacggbgcoaaRef
namespace Go.Proofs.Ytbimhacggbgcoaa
open Go.RowKit

theorem C.right {m : Nat} (h : (M.canon m).length ≤ 32) : right (M.canon m) = true := by
  unfold Go.Proofs.Ytbimhacggbgcoaa.right
  by_cases e : m = 0
  · subst e; rw [M.canon_zero]; rfl
  · have hl := M.canon_last e
    have : (((M.canon m).getD ((M.canon m).length - 1) 0) != 0) = true := by rw [bne_iff_ne]; exact hl
    rw [this]; simp [h]
theorem C.len64 {n : Nat} (h : n < 18446744073709551616) : (M.canon n).length ≤ 32 := M.canon_length_le.2 (by
  have h1 : M.pw 2 ≤ M.pw 32 := M.pw_mono (by omega)
  have h2 : M.pw 2 = 18446744073709551616 := by rw [M.pw_succ, M.pw_succ, M.pw_zero]; rfl
  omega)
theorem C.of_right {xs : List Int} (hx : M.Lim xs) (h : Go.Proofs.Ytbimhacggbgcoaa.right xs = true) : xs = M.canon (M.val xs).toNat := M.canon_of_last hx (by
  unfold Go.Proofs.Ytbimhacggbgcoaa.right at h; simp at h
  rcases h with h | h
  · exact .inl h
  · right; simpa [List.getD] using h.2)
theorem C.one {n : Nat} (h0 : n ≠ 0) (h : n < 4294967296) : M.canon n = [(n : Int)] := by
  rw [M.canon_pos h0, show n / 4294967296 = 0 by omega, M.canon_zero, show n % 4294967296 = n by omega]
theorem C.val_pos {xs : List Int} (hx : M.Lim xs) (h : Go.Proofs.Ytbimhacggbgcoaa.right xs = true) (h0 : xs.length ≠ 0) : 0 < M.val xs := by
  have := right_low h hx h0
  have := M.pw_pos (xs.length - 1)
  omega
/-- One is taken from a number that isn't 0. -/
theorem C.less {xs : List Int} (hx : M.Lim xs) (h : Go.Proofs.Ytbimhacggbgcoaa.right xs = true) (h0 : xs.length ≠ 0) : subS xs [1] = (M.canon (M.val xs - 1).toNat, 0) := by
  have := C.val_pos hx h h0
  unfold subS
  rw [h, show Go.Proofs.Ytbimhacggbgcoaa.right [1] = true by decide, show M.val [1] = 1 by decide, if_pos (by rfl), if_neg (by omega)]
theorem C.len_less {xs : List Int} (hx : M.Lim xs) (h : Go.Proofs.Ytbimhacggbgcoaa.right xs = true) : (M.canon (M.val xs - 1).toNat).length ≤ 32 := by
  have h1 := M.val_lt hx
  have h2 := M.pw_mono (right_len h)
  have h3 := M.pw_pos 32
  exact M.canon_length_le.2 (by omega)
theorem Rd.up {w w' : World} {A : Option Addr} {zs : List Int} (h : Rd w w.heap.size A zs) (hb : Below w.heap.size w w') : Rd w' w'.heap.size A zs := (h.below hb (Nat.le_refl _)).more hb.size
theorem bitsS_bd {xs : List Int} (hx : M.Lim xs) : 0 ≤ bitsS xs ∧ bitsS xs ≤ 1024 := by
  unfold bitsS
  split
  · rename_i h
    rw [Bool.and_eq_true] at h
    have h1 := right_len h.1
    have h2 : xs.length ≠ 0 := by have := h.2; rw [bne_iff_ne] at this; exact this
    have b := hx.getD (xs.length - 1)
    have hb : Lib.bitLen (xs.getD (xs.length - 1) 0).toNat ≤ 32 := Lib.bitLen_le _ 32 (by omega) (by omega)
    omega
  · omega
end Go.Proofs.Ytbimhacggbgcoaa
