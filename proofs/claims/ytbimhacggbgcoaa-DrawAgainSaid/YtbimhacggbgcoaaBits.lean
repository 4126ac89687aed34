/- Contracts of math/bits' Add32, Sub32 and Div32 over this program: a sum and its carry, a difference and its borrow, a quotient of 64 bits by 32. -/
import Derived.Test.YtbimhacggbgcoaaBase
namespace Go.Proofs.Ytbimhacggbgcoaa
open Go.RowKit

theorem ret2_int {k l : IntKind} {a b c d : Int} (h : a = b) (h' : c = d) : Ending.returned (.tuple #[.int k a, .int l c]) = .returned (.tuple #[.int k b, .int l d]) := by rw [h, h']

/-- The borrow of a difference of 32 bits. -/
def bor (x y c : Int) : Int := if x < y + c then 1 else 0

theorem tb31 (n : Nat) (h : n < 4294967296) : n.testBit 31 = decide (2147483648 ≤ n) := by
  rw [Nat.testBit_eq_decide_div_mod_eq, Bool.eq_iff_iff]; simp; omega
theorem div31 (n : Nat) (h : n < 4294967296) : n / 2147483648 = (n.testBit 31).toNat := by
  rw [tb31 n h]
  by_cases e : 2147483648 ≤ n
  · simp [e]; omega
  · simp [e]; omega
theorem borrow_bit (a b c d : Nat) (ha : a < 4294967296) (hb : b < 4294967296) (hc : c ≤ 1) (hd : (d : Int) = ((a : Int) - b - c) % 4294967296) :
    ((((4294967295 ^^^ a) &&& b) ||| ((4294967295 ^^^ (a ^^^ b)) &&& d)) / 2147483648 : Nat) = if a < b + c then 1 else 0 := by
  have hd' : d < 4294967296 := by omega
  have hn : (((4294967295 ^^^ a) &&& b) ||| ((4294967295 ^^^ (a ^^^ b)) &&& d)) < 4294967296 := by
    have e : (4294967296 : Nat) = 2 ^ 32 := rfl
    rw [e] at hb hd' ⊢
    exact Nat.or_lt_two_pow (Nat.and_lt_two_pow _ hb) (Nat.and_lt_two_pow _ hd')
  rw [div31 _ hn]
  simp only [Nat.testBit_or, Nat.testBit_and, Nat.testBit_xor]
  rw [tb31 a ha, tb31 b hb, tb31 d hd', show Nat.testBit 4294967295 31 = true from by decide]
  by_cases h1 : 2147483648 ≤ a <;> by_cases h2 : 2147483648 ≤ b <;> by_cases h3 : 2147483648 ≤ d <;> by_cases h4 : a < b + c <;> simp [h1, h2, h3, h4] <;> omega
theorem borrow_int (x y c : Int) (x0 : 0 ≤ x) (x1 : x < 4294967296) (y0 : 0 ≤ y) (y1 : y < 4294967296) (c0 : 0 ≤ c) (c1 : c ≤ 1) :
    bits BinOp.or IntKind.u32 (bits BinOp.and IntKind.u32 (bits BinOp.xor IntKind.u32 IntKind.u32.max x) y)
      (bits BinOp.and IntKind.u32 (bits BinOp.xor IntKind.u32 IntKind.u32.max (bits BinOp.xor IntKind.u32 x y)) ((x - y - c) % 4294967296)) / 2147483648 = bor x y c := by
  obtain ⟨a, rfl⟩ := Int.eq_ofNat_of_zero_le x0
  obtain ⟨b, rfl⟩ := Int.eq_ofNat_of_zero_le y0
  obtain ⟨c, rfl⟩ := Int.eq_ofNat_of_zero_le c0
  obtain ⟨d, hd⟩ : ∃ d : Nat, ((a : Int) - b - c) % 4294967296 = d := ⟨(((a : Int) - b - c) % 4294967296).toNat, by omega⟩
  have a1 : a < 4294967296 := by omega
  have b1 : b < 4294967296 := by omega
  have d1 : d < 4294967296 := by omega
  have X : ∀ u v : Nat, u < 4294967296 → v < 4294967296 → u ^^^ v < 4294967296 := fun u v hu hv => Nat.xor_lt_two_pow (n := 32) hu hv
  have A : ∀ u v : Nat, v < 4294967296 → u &&& v < 4294967296 := fun u v hv => Nat.and_lt_two_pow (n := 32) u hv
  rw [hd, show (IntKind.u32.max : Int) = ((4294967295 : Nat) : Int) from rfl, u32_xor_nat a b a1 b1, u32_xor_nat _ a (by omega) a1, u32_xor_nat _ _ (by omega) (X _ _ a1 b1), u32_and_nat _ _ (X _ _ (by omega) a1) b1,
    u32_and_nat _ _ (X _ _ (by omega) (X _ _ a1 b1)) d1, u32_or_nat _ _ (A _ _ b1) (A _ _ d1)]
  have := borrow_bit a b c d a1 b1 (by omega) hd.symm
  unfold bor
  by_cases h : a < b + c
  · rw [if_pos h] at this; rw [if_pos (by omega)]; omega
  · rw [if_neg h] at this; rw [if_neg (by omega)]; omega

theorem sub32_any (x y c : Int) (w : World) (_x0 : 0 ≤ x) (_x1 : x < 4294967296) (_y0 : 0 ≤ y) (_y1 : y < 4294967296) (_c0 : 0 ≤ c) (_c1 : c ≤ 1) :
    Calls Try.prog 39 #[.int .u32 x, .int .u32 y, .int .u32 c] w fun e w' => e = .returned (.tuple #[.int .u32 ((x - y - c) % 4294967296), .int .u32 (bor x y c)]) ∧ w = w' := by
  go_enter Try.func39, Try.ntmps39
  go_wp2
  go_ret2
  exact ⟨ret2_int (by omega) (borrow_int x y c _x0 _x1 _y0 _y1 _c0 _c1), rfl⟩

theorem or_shift (x y : Int) (x0 : 0 ≤ x) (x1 : x < 4294967296) (y0 : 0 ≤ y) (y1 : y < 4294967296) : bits BinOp.or IntKind.u64 (x * 4294967296) y = x * 4294967296 + y := by
  rw [u64_or _ _ (by omega) (by omega) (by omega) (by omega), nat_join 32 _ _ (by omega) (by omega)]; omega

theorem quo_32 (x y d z : Int) (hz : bits BinOp.or IntKind.u64 (x * 4294967296) y = z) (x0 : 0 ≤ x) (x1 : x < d) (y0 : 0 ≤ y) (y1 : y < 4294967296) (d1 : d < 4294967296) :
    IntKind.u64.wrap (z.tdiv d) % 4294967296 = (x * 4294967296 + y) / d := by
  rw [or_shift x y x0 (by omega) y0 y1] at hz
  have hz0 : 0 ≤ z := by omega
  have h1 : z / d < 4294967296 := Int.ediv_lt_of_lt_mul (by omega) (by omega)
  have h0 : 0 ≤ z / d := Int.ediv_nonneg hz0 (by omega)
  rw [IntWalk.u64_quo z d ⟨hz0, by omega, by omega⟩, hz]; omega
theorem rem_32 (x y d z : Int) (hz : bits BinOp.or IntKind.u64 (x * 4294967296) y = z) (x0 : 0 ≤ x) (x1 : x < d) (y0 : 0 ≤ y) (y1 : y < 4294967296) (d1 : d < 4294967296) :
    z.tmod d % 4294967296 = (x * 4294967296 + y) % d := by
  rw [or_shift x y x0 (by omega) y0 y1] at hz
  have hz0 : 0 ≤ z := by omega
  have h1 : z % d < d := Int.emod_lt_of_pos _ (by omega)
  have h0 : 0 ≤ z % d := Int.emod_nonneg _ (by omega)
  rw [IntWalk.rem_in z d hz0, hz]; omega

theorem bor_is (x lo b : Int) (x0 : 0 ≤ x) (x1 : x < 4294967296) (l0 : 0 ≤ lo) (l1 : lo < 4294967296) (b0 : 0 ≤ b) (b1 : b ≤ 1) :
    x - lo - b = (x - lo - b) % 4294967296 - 4294967296 * bor x lo b ∧ 0 ≤ bor x lo b ∧ bor x lo b ≤ 1 := by
  unfold bor
  by_cases h : x < lo + b
  · rw [if_pos h]; omega
  · rw [if_neg h]; omega
theorem mul_bd {y n : Int} (y0 : 0 ≤ y) (y1 : y < 4294967296) (n0 : 0 ≤ n) (n1 : n < 4294967296) : 0 ≤ y * n ∧ y * n ≤ 18446744065119617025 := by
  constructor
  · exact Int.mul_nonneg y0 n0
  · have h : y * n ≤ 4294967295 * 4294967295 := Int.mul_le_mul (by omega) (by omega) n0 (by omega)
    omega
end Go.Proofs.Ytbimhacggbgcoaa
