/- Sets of small numbers as natural numbers: of one, of a list, has, members, least, below; nothing of any program. -/
import Derived.Test.YtmpgccmggapigaaDoorShared
import Derived.Lib.Tables
import Derived.Lib.BitFns
import Derived.Lib.TrailingZeros
namespace Go.Proofs.YtmpgccmggapigaaDoor

namespace S
def bit (n : Int) : Nat := if 0 ≤ n ∧ n ≤ 31 then 2 ^ n.toNat else 0
def of (l : List Int) : Nat := l.foldl (fun s n => s ||| bit n) 0
def has (s : Nat) (n : Int) : Bool := decide (0 ≤ n ∧ n ≤ 31) && s.testBit n.toNat
def mem (s : Nat) : List Int := ((List.range' 0 32).filter fun i => s.testBit i).map Int.ofNat
def least (s : Nat) : Int := (mem s).headD (-1)
def count (s : Nat) : Int := (mem s).length
def below (n : Int) : Nat := if n ≤ 0 then 0 else 2 ^ (min n.toNat 32) - 1

theorem bit_lt (n : Int) : bit n < 4294967296 := by
  unfold bit; split
  · have : 2 ^ n.toNat ≤ 2 ^ 31 := Nat.pow_le_pow_right (by decide) (by omega)
    omega
  · omega
theorem bit_nat {k : Nat} (h : k ≤ 31) : bit k = 2 ^ k := by unfold bit; rw [if_pos (by omega)]; simp
theorem bit_neg {n : Int} (h : n < 0) : bit n = 0 := by unfold bit; rw [if_neg (by omega)]
theorem bit_big {n : Int} (h : 31 < n) : bit n = 0 := by unfold bit; rw [if_neg (by omega)]
theorem bit_testBit (n : Int) (i : Nat) : (bit n).testBit i = decide (n = i ∧ i ≤ 31) := by
  unfold bit; split
  · rename_i h
    rw [Nat.testBit_two_pow]
    by_cases e : n.toNat = i
    · simp only [e, decide_true]; symm; rw [decide_eq_true_iff]; omega
    · have : ¬(n = (i : Int) ∧ i ≤ 31) := by omega
      simp [e, this]
  · rename_i h
    rw [Nat.zero_testBit]; symm; rw [decide_eq_false_iff_not]; omega
theorem or_lt {a b : Nat} (ha : a < 4294967296) (hb : b < 4294967296) : a ||| b < 4294967296 := by
  have := Nat.or_lt_two_pow (n := 32) (x := a) (y := b) (by omega) (by omega); omega
theorem and_lt {a b : Nat} (ha : a < 4294967296) : a &&& b < 4294967296 := by
  have : a &&& b ≤ a := Nat.and_le_left; omega
theorem and_bit (s : Nat) (n : Int) : (s &&& bit n != 0) = has s n := by
  unfold has bit
  split
  · rename_i h
    cases hb : s.testBit n.toNat
    · have e : s &&& 2 ^ n.toNat = 0 := by
        apply Nat.eq_of_testBit_eq
        intro i
        rw [Nat.testBit_and, Nat.testBit_two_pow, Nat.zero_testBit]
        by_cases hi : n.toNat = i
        · rw [← hi, hb]; rfl
        · simp [hi]
      rw [e]; simp
    · have e : s &&& 2 ^ n.toNat ≠ 0 := by
        intro e
        have := congrArg (fun z => Nat.testBit z n.toNat) e
        simp only [Nat.testBit_and, Nat.testBit_two_pow, hb, Nat.zero_testBit] at this
        simp at this
      simp [h, e]
  · rename_i h; simp [h]
theorem has_nat (s : Nat) {k : Nat} (h : k ≤ 31) : has s k = s.testBit k := by unfold has; simp [show (k : Int) ≤ 31 by omega]

theorem of_snoc (l : List Int) (n : Int) : of (l ++ [n]) = of l ||| bit n := by unfold of; rw [List.foldl_append]; rfl
theorem of_lt (l : List Int) : of l < 4294967296 := by
  unfold of
  suffices ∀ (l : List Int) (a : Nat), a < 4294967296 → l.foldl (fun s n => s ||| bit n) a < 4294967296 from this l 0 (by omega)
  intro l
  induction l with
  | nil => intro a h; exact h
  | cons n r ih => intro a h; exact ih _ (or_lt h (bit_lt n))
theorem of_testBit (l : List Int) (i : Nat) : (of l).testBit i = decide ((i : Int) ∈ l ∧ i ≤ 31) := by
  unfold of
  suffices ∀ (l : List Int) (a : Nat), (l.foldl (fun s n => s ||| bit n) a).testBit i = (a.testBit i || decide ((i : Int) ∈ l ∧ i ≤ 31)) by
    rw [this l 0]; simp
  intro l
  induction l with
  | nil => intro a; simp
  | cons n r ih =>
    intro a
    rw [List.foldl_cons, ih, Nat.testBit_or, bit_testBit]
    by_cases h : i ≤ 31
    · by_cases e : (i : Int) = n
      · simp [e, h]
      · have e' : ¬ n = (i : Int) := fun x => e x.symm
        simp [e, e', h]
    · simp [h]
theorem eq_of_bits {a b : Nat} (ha : a < 4294967296) (hb : b < 4294967296) (h : ∀ i, i ≤ 31 → a.testBit i = b.testBit i) : a = b := by
  apply Nat.eq_of_testBit_eq
  intro i
  by_cases hi : i ≤ 31
  · exact h i hi
  · rw [Nat.testBit_lt_two_pow (Nat.lt_of_lt_of_le (show a < 2 ^ 32 by omega) (Nat.pow_le_pow_right (by decide) (by omega))),
      Nat.testBit_lt_two_pow (Nat.lt_of_lt_of_le (show b < 2 ^ 32 by omega) (Nat.pow_le_pow_right (by decide) (by omega)))]

theorem mem_mem {s : Nat} {i : Int} : i ∈ mem s ↔ 0 ≤ i ∧ i ≤ 31 ∧ s.testBit i.toNat = true := by
  unfold mem
  rw [List.mem_map]
  constructor
  · rintro ⟨k, hk, rfl⟩
    rw [List.mem_filter, List.mem_range'_1] at hk
    refine ⟨by simp, by simp; omega, by simpa using hk.2⟩
  · rintro ⟨h0, h1, h2⟩
    exact ⟨i.toNat, by rw [List.mem_filter, List.mem_range'_1]; exact ⟨by omega, h2⟩, by simp; omega⟩
theorem of_mem {s : Nat} (h : s < 4294967296) : of (mem s) = s := eq_of_bits (of_lt _) h fun i hi => by
  rw [of_testBit]
  cases hb : s.testBit i
  · rw [decide_eq_false_iff_not]; rintro ⟨hm, _⟩
    have := (mem_mem.1 hm).2.2
    simp [hb] at this
  · rw [decide_eq_true_iff]
    exact ⟨mem_mem.2 ⟨by omega, by omega, by simpa using hb⟩, hi⟩
theorem of_both {s t : Nat} (hs : s < 4294967296) (ht : t < 4294967296) : of (mem s ++ mem t) = s ||| t := eq_of_bits (of_lt _) (or_lt hs ht) fun i hi => by
  rw [of_testBit, Nat.testBit_or]
  have e : ((i : Int) ∈ mem s ++ mem t ∧ i ≤ 31) ↔ (s.testBit i = true ∨ t.testBit i = true) := by
    rw [List.mem_append, mem_mem, mem_mem]
    simp only [Int.toNat_natCast]
    constructor
    · rintro ⟨h | h, _⟩
      · exact .inl h.2.2
      · exact .inr h.2.2
    · rintro (h | h)
      · exact ⟨.inl ⟨by omega, by omega, h⟩, hi⟩
      · exact ⟨.inr ⟨by omega, by omega, h⟩, hi⟩
  rw [Bool.eq_iff_iff, decide_eq_true_iff, e, Bool.or_eq_true]
theorem mem_len (s : Nat) : (mem s).length ≤ 32 := by
  unfold mem
  rw [List.length_map]
  exact Nat.le_trans (List.length_filter_le _ _) (by simp)
theorem mem_lims {s : Nat} {i : Int} (h : i ∈ mem s) : 0 ≤ i ∧ i ≤ 31 := ⟨(mem_mem.1 h).1, (mem_mem.1 h).2.1⟩
theorem mem_has {s : Nat} {i : Int} (h : i ∈ mem s) : has s i = true := by
  obtain ⟨h0, h1, h2⟩ := mem_mem.1 h
  unfold has; simp [h0, h1, h2]
theorem mem_rise (s : Nat) : (mem s).Pairwise (· < ·) := by
  unfold mem
  rw [List.pairwise_map]
  refine (List.Pairwise.filter _ (List.pairwise_lt_range' (s := 0) (n := 32))).imp ?_
  intro a b h
  simp; exact h
theorem mem_getD {s k : Nat} (h : k < (mem s).length) : (mem s).getD k 0 ∈ mem s := by rw [L.gd_lt h]; exact List.getElem_mem h
theorem mem_rises {s j k : Nat} (hj : j < k) (h : k < (mem s).length) : (mem s).getD j 0 < (mem s).getD k 0 := by
  rw [L.gd_lt h, L.gd_lt (by omega : j < _)]
  exact List.pairwise_iff_getElem.1 (mem_rise s) j k _ _ hj

/-- The members of what is there below k. -/
def upTo (s k : Nat) : List Int := ((List.range' 0 k).filter fun i => s.testBit i).map Int.ofNat
theorem upTo_zero (s : Nat) : upTo s 0 = [] := rfl
theorem upTo_succ (s k : Nat) : upTo s (k + 1) = if s.testBit k then upTo s k ++ [(k : Int)] else upTo s k := by
  unfold upTo
  rw [show List.range' 0 (k + 1) = List.range' 0 k ++ [k] by rw [List.range'_concat]; simp, List.filter_append, List.map_append]
  cases h : s.testBit k <;> simp [h]
theorem upTo_len (s k : Nat) : (upTo s k).length ≤ k := by
  unfold upTo
  rw [List.length_map]
  exact Nat.le_trans (List.length_filter_le _ _) (by simp)

theorem mem_zero : mem 0 = [] := by
  unfold mem
  rw [List.filter_eq_nil_iff.2 (by intro i _; simp)]; rfl
/-- The lowest bit goes. -/
theorem low_bits {x k m : Nat} (e : x = 2 ^ k * (2 * m + 1)) : x &&& (x - 1) = 2 ^ k * (2 * m) := by
  have hp : 0 < 2 ^ k := Nat.two_pow_pos k
  have e1 : x - 1 = 2 ^ k * (2 * m) + (2 ^ k - 1) := by rw [e, Nat.mul_add]; omega
  have e2 : x = 2 ^ k * (2 * m + 1) + 0 := by rw [e]; simp
  apply Nat.eq_of_testBit_eq
  intro i
  rw [Nat.testBit_and, e1, e2, Nat.testBit_two_pow_mul_add _ (by omega), Nat.testBit_two_pow_mul_add _ (by omega), Nat.mul_comm (2 ^ k), Nat.testBit_mul_two_pow]
  by_cases h : i < k
  · have : ¬ k ≤ i := by omega
    simp [h, this]
  · have h' : k ≤ i := by omega
    simp only [h, if_false, h', decide_true, Bool.true_and]
    rcases Nat.eq_zero_or_pos (i - k) with h0 | h0
    · rw [h0]; simp [Nat.testBit_zero]
    · obtain ⟨j, hj⟩ : ∃ j, i - k = j + 1 := ⟨i - k - 1, by omega⟩
      rw [hj, Nat.testBit_succ, Nat.testBit_succ, show (2 * m + 1) / 2 = 2 * m / 2 by omega, Bool.and_self]
theorem bits_of {x k m : Nat} (e : x = 2 ^ k * (2 * m + 1)) (i : Nat) : x.testBit i = if i < k then false else if i = k then true else (2 ^ k * (2 * m)).testBit i := by
  rw [e, Nat.mul_comm (2 ^ k), Nat.mul_comm (2 ^ k), Nat.testBit_mul_two_pow, Nat.testBit_mul_two_pow]
  by_cases h : i < k
  · have : ¬ k ≤ i := by omega
    simp [h, this]
  · have h' : k ≤ i := by omega
    rw [if_neg h]
    simp only [h', decide_true, Bool.true_and]
    by_cases h0 : i = k
    · subst h0; simp [Nat.testBit_zero]
    · obtain ⟨j, hj⟩ : ∃ j, i - k = j + 1 := ⟨i - k - 1, by omega⟩
      rw [if_neg h0, hj, Nat.testBit_succ, Nat.testBit_succ, show (2 * m + 1) / 2 = 2 * m / 2 by omega]
theorem range_split {k n : Nat} (h : k < n) : List.range' 0 n = List.range' 0 k ++ (k :: List.range' (k + 1) (n - k - 1)) := by
  have : n = k + ((n - k - 1) + 1) := by omega
  rw [this, ← List.range'_append_1, Nat.zero_add, List.range'_succ, show k + (n - k - 1 + 1) - k - 1 = n - k - 1 by omega]
theorem mem_step {x : Nat} (h0 : x ≠ 0) (h : x < 4294967296) : mem x = (Lib.ctz 32 x : Int) :: mem (x &&& (x - 1)) ∧ Lib.ctz 32 x < 32 := by
  have hc : Lib.ctz 32 x = Lib.ctzFrom 32 x := by unfold Lib.ctz; rw [if_neg h0]
  obtain ⟨m, e, hk⟩ := Lib.ctzFrom_spec 32 x (by omega) (by omega)
  rw [← hc] at e hk
  refine ⟨?_, hk⟩
  generalize hK : Lib.ctz 32 x = k at *
  rw [low_bits e]
  unfold mem
  rw [range_split hk, List.filter_append, List.filter_append, List.filter_cons, List.filter_cons]
  have hz : (2 ^ k * (2 * m)).testBit k = false := by
    rw [Nat.mul_comm (2 ^ k), Nat.testBit_mul_two_pow]; simp [Nat.testBit_zero]
  have n1 : (List.range' 0 k).filter (fun i => x.testBit i) = [] := List.filter_eq_nil_iff.2 (by
    intro i hi; rw [List.mem_range'_1] at hi
    rw [bits_of e, if_pos (by omega)]; simp)
  have n2 : (List.range' 0 k).filter (fun i => (2 ^ k * (2 * m)).testBit i) = [] := List.filter_eq_nil_iff.2 (by
    intro i hi; rw [List.mem_range'_1] at hi
    rw [Nat.mul_comm (2 ^ k), Nat.testBit_mul_two_pow]
    have : ¬ k ≤ i := by omega
    simp [this])
  have n3 : (List.range' (k + 1) (32 - k - 1)).filter (fun i => x.testBit i) = (List.range' (k + 1) (32 - k - 1)).filter (fun i => (2 ^ k * (2 * m)).testBit i) := List.filter_congr (by
    intro i hi; rw [List.mem_range'_1] at hi
    rw [bits_of e, if_neg (by omega), if_neg (by omega)])
  have hk1 : x.testBit k = true := by rw [bits_of e, if_neg (by omega), if_pos rfl]
  rw [n1, n2, n3, if_pos hk1, if_neg (by rw [hz]; decide)]
  simp
theorem least_eq (x : Nat) (h : x < 4294967296) : least x = if x = 0 then -1 else (Lib.ctz 32 x : Int) := by
  unfold least
  split
  · rename_i e; rw [e, mem_zero]; rfl
  · rename_i e; rw [(mem_step e h).1]; rfl

/-- How many: byte by byte. -/
theorem pop_byte : ∀ b : Fin 256, (Lib.pop8 (b.val : Int)) = (((List.range' 0 8).filter fun i => b.val.testBit i).length : Int) := by decide +kernel
theorem pop_le : ∀ b : Fin 256, Lib.pop8 (b.val : Int) ≤ 8 ∧ 0 ≤ Lib.pop8 (b.val : Int) := by decide +kernel
theorem pop_part (x j : Nat) : (((List.range' (8 * j) 8).filter fun i => x.testBit i).length : Int) = Lib.pop8 ((x / 2 ^ (8 * j) % 256 : Nat) : Int) := by
  have hb : x / 2 ^ (8 * j) % 256 < 256 := Nat.mod_lt _ (by decide)
  rw [pop_byte ⟨_, hb⟩]
  rw [show List.range' (8 * j) 8 = (List.range' 0 8).map (8 * j + ·) by rw [List.map_add_range']; rfl, List.filter_map, List.length_map]
  congr 2
  apply List.filter_congr
  intro i hi
  rw [List.mem_range'_1] at hi
  show x.testBit (8 * j + i) = (x / 2 ^ (8 * j) % 2 ^ 8).testBit i
  rw [Nat.testBit_mod_two_pow, Nat.testBit_div_two_pow]
  simp [show i < 8 by omega, Nat.add_comm]
theorem count_eq (x : Nat) (h : x < 4294967296) : count x = Lib.pop8 ((x / 16777216 : Nat) : Int) + Lib.pop8 ((x / 65536 % 256 : Nat) : Int) + Lib.pop8 ((x / 256 % 256 : Nat) : Int) + Lib.pop8 ((x % 256 : Nat) : Int) := by
  have p0 := pop_part x 0
  have p1 := pop_part x 1
  have p2 := pop_part x 2
  have p3 := pop_part x 3
  rw [show x / 2 ^ (8 * 3) % 256 = x / 16777216 by omega] at p3
  rw [show x / 2 ^ (8 * 2) % 256 = x / 65536 % 256 by omega] at p2
  rw [show x / 2 ^ (8 * 1) % 256 = x / 256 % 256 by omega] at p1
  rw [show x / 2 ^ (8 * 0) % 256 = x % 256 by omega] at p0
  unfold count mem
  rw [List.length_map, show List.range' 0 32 = List.range' (8 * 0) 8 ++ List.range' (8 * 1) 8 ++ List.range' (8 * 2) 8 ++ List.range' (8 * 3) 8 from rfl]
  rw [List.filter_append, List.filter_append, List.filter_append, List.length_append, List.length_append, List.length_append]
  omega

/-- All below a number. -/
theorem below_step : ∀ k : Fin 32, (2 ^ k.val - 1) ||| 2 ^ k.val = 2 ^ (k.val + 1) - 1 := by decide +kernel
theorem below_lt (n : Int) : below n < 4294967296 := by
  unfold below
  split
  · omega
  · have : 2 ^ (min n.toNat 32) ≤ 2 ^ 32 := Nat.pow_le_pow_right (by decide) (by omega)
    omega
theorem below_has (n k : Int) : has (below n) k = decide (0 ≤ k ∧ k < 32 ∧ k < n) := by
  unfold has below
  split
  · rename_i h
    rw [Nat.zero_testBit, Bool.and_false]; symm; rw [decide_eq_false_iff_not]; omega
  · rename_i h
    rw [Nat.testBit_two_pow_sub_one, ← Bool.decide_and, decide_eq_decide]; omega
theorem count_low : ∀ k : Fin 33, ((List.range' 0 32).filter fun i => (2 ^ k.val - 1).testBit i).length = k.val := by decide +kernel
theorem below_count (n : Int) : count (below n) = max (min n 32) 0 := by
  have e : below n = 2 ^ (min n.toNat 32) - 1 := by
    unfold below; split
    · rename_i h; rw [show n.toNat = 0 by omega]; rfl
    · rfl
  unfold count mem
  rw [List.length_map, e, count_low ⟨min n.toNat 32, by omega⟩]
  show ((min n.toNat 32 : Nat) : Int) = _
  omega
end S
end Go.Proofs.YtmpgccmggapigaaDoor
