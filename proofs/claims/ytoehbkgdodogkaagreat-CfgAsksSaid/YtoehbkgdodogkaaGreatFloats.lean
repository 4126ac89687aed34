/- Whole numbers as floats of 64 bits: how they stand to each other, their sums, and back. -/
import Derived.Laws.FloatArith
namespace Go.Proofs.YtoehbkgdodogkaaGreat.Fl
open Ieee

/-- The float of a whole number. -/
def fl (n : Int) : Nat := floatOfInt .f64 n

/-- A datum that stands for the natural number n, 'k' digits behind the point. -/
def St (d : Datum) (n k : Nat) : Prop := d = .number false (n * 2 ^ k) (-(k : Int))

theorem lp : double.leastPlace = -1074 := by decide
theorem bn : double.binade = 4503599627370496 := by decide
theorem fb : double.fractionBits = 52 := rfl

theorem log2_mul (n k : Nat) (h : 0 < n) : (n * 2 ^ k).log2 = n.log2 + k := by
  induction k with
  | zero => simp
  | succ k ih =>
    have e : n * 2 ^ (k + 1) = 2 * (n * 2 ^ k) := by rw [Nat.pow_succ]; grind
    rw [e, Nat.log2_two_mul (by have := Nat.two_pow_pos k; have := Nat.mul_pos h this; omega), ih]; omega

theorem cut_exact (neg : Bool) (way : Toward) (n d : Nat) (h : d ≤ (n * 2 ^ d).log2 + 2 ∨ n = 0) : way.cut neg (n * 2 ^ d) d = n := by
  unfold Toward.cut
  dsimp only
  rcases h with h | h
  · rw [Nat.min_eq_left h, Nat.one_shiftLeft, Nat.mul_div_cancel _ (Nat.two_pow_pos d), Nat.mul_mod_left]
    have hp := Nat.two_pow_pos d
    have h1 : ¬ (2 ^ d < 2 * 0) := by omega
    have h2 : (2 ^ d == 2 * 0) = false := by simp
    cases way <;> simp
  · subst h
    simp only [Nat.zero_mul, Nat.zero_div, Nat.zero_mod]
    have hp : 0 < 1 <<< min d (Nat.log2 0 + 2) := by rw [Nat.one_shiftLeft]; exact Nat.two_pow_pos _
    generalize 1 <<< min d (Nat.log2 0 + 2) = g at hp ⊢
    have h2 : (g == 2 * 0) = false := by simp; omega
    cases way <;> simp

theorem min_rung (l m : Nat) (hl : l < 53) (hm : m < 9007199254740992) : min ((l + 1022) * 4503599627370496 + m) 9218868437227405312 = (l + 1022) * 4503599627370496 + m :=
  Nat.min_eq_left (by omega)

/-- The rung of a whole number below 2^53. -/
theorem nearest_st (n k : Nat) (h0 : 0 < n) (h : n < 2 ^ 53) :
    double.nearest false (n * 2 ^ k) (-(k : Int)) = (n.log2 + 1022) * 4503599627370496 + n * 2 ^ (52 - n.log2) := by
  have hl : n.log2 < 53 := (Nat.log2_lt (by omega)).2 h
  have hp := Nat.two_pow_pos k
  have hm : n * 2 ^ k ≠ 0 := by have := Nat.mul_pos h0 hp; omega
  unfold Format.nearest
  rw [if_neg hm]
  simp only [lp, bn, fb, log2_mul n k h0]
  have e1 : max (-(k : Int) + ((n.log2 + k : Nat) : Int) - (52 : Nat)) (-1074) = (n.log2 : Int) - 52 := by omega
  rw [e1]
  have e2 : ((n.log2 : Int) - 52 - -1074).toNat = n.log2 + 1022 := by omega
  rw [e2]
  have hk : Toward.even.cut false ((n * 2 ^ k) <<< (-(k : Int) - ((n.log2 : Int) - 52)).toNat) ((n.log2 : Int) - 52 - -(k : Int)).toNat = n * 2 ^ (52 - n.log2) := by
    by_cases hc : k ≤ 52 - n.log2
    · have a1 : (-(k : Int) - ((n.log2 : Int) - 52)).toNat = 52 - n.log2 - k := by omega
      have a2 : ((n.log2 : Int) - 52 - -(k : Int)).toNat = 0 := by omega
      rw [a1, a2, Nat.shiftLeft_eq, Nat.mul_assoc n, ← Nat.pow_add, show k + (52 - n.log2 - k) = 52 - n.log2 by omega]
      have := cut_exact false .even (n * 2 ^ (52 - n.log2)) 0 (Or.inl (by omega))
      simpa using this
    · have a1 : (-(k : Int) - ((n.log2 : Int) - 52)).toNat = 0 := by omega
      have a2 : ((n.log2 : Int) - 52 - -(k : Int)).toNat = k - (52 - n.log2) := by omega
      rw [a1, a2, Nat.shiftLeft_zero]
      have e : n * 2 ^ k = (n * 2 ^ (52 - n.log2)) * 2 ^ (k - (52 - n.log2)) := by rw [Nat.mul_assoc, ← Nat.pow_add, show 52 - n.log2 + (k - (52 - n.log2)) = k by omega]
      rw [e]
      refine cut_exact false .even _ _ (Or.inl ?_)
      rw [← e, log2_mul n k h0]; omega
  rw [hk]
  have hlt : n * 2 ^ (52 - n.log2) < 2 ^ 53 := by
    have : n < 2 ^ (n.log2 + 1) := Nat.lt_log2_self
    calc n * 2 ^ (52 - n.log2) < 2 ^ (n.log2 + 1) * 2 ^ (52 - n.log2) := Nat.mul_lt_mul_of_pos_right this (Nat.two_pow_pos _)
      _ = 2 ^ 53 := by rw [← Nat.pow_add]; congr 1; omega
  replace hlt : n * 2 ^ (52 - n.log2) < 9007199254740992 := hlt
  have hi : double.infRung = 9218868437227405312 := by decide
  rw [hi]
  unfold Format.word
  simp only [Bool.false_eq_true, if_false]
  exact min_rung n.log2 _ hl hlt

theorem fl_pos (n : Nat) (h0 : 0 < n) (h : n < 2 ^ 53) : fl n = (n.log2 + 1022) * 4503599627370496 + n * 2 ^ (52 - n.log2) := by
  unfold fl floatOfInt FloatKind.nearest FloatKind.encode
  simp only [FloatKind.format, Format.write]
  have e : decide ((n : Int) < 0) = false := by simp
  rw [e]
  have := nearest_st n 0 h0 h
  simpa using this

theorem fl_zero : fl 0 = 0 := by decide +kernel
theorem fl_one : fl 1 = 4607182418800017408 := by decide +kernel
theorem fl_most : fl 1073741824 = 4742290407621132288 := by decide +kernel

theorem read_fl (n : Nat) (h : n < 2 ^ 53) : ∃ k, St (FloatKind.f64.decode (fl n)) n k ∧ (0 < n → k ≤ 52) := by
  by_cases h0 : n = 0
  · subst h0; exact ⟨1074, (by decide +kernel : FloatKind.f64.decode (fl ((0 : Nat) : Int)) = Datum.number false (0 * 2 ^ 1074) (-((1074 : Nat) : Int))), by omega⟩
  · have hl : n.log2 < 53 := (Nat.log2_lt (by omega)).2 h
    refine ⟨52 - n.log2, ?_, by omega⟩
    have hlo : 2 ^ 52 ≤ n * 2 ^ (52 - n.log2) := by
      have : 2 ^ n.log2 ≤ n := Nat.log2_self_le h0
      calc 2 ^ 52 = 2 ^ n.log2 * 2 ^ (52 - n.log2) := by rw [← Nat.pow_add]; congr 1; omega
        _ ≤ _ := Nat.mul_le_mul_right _ this
    have hlt : n * 2 ^ (52 - n.log2) < 2 ^ 53 := by
      have : n < 2 ^ (n.log2 + 1) := Nat.lt_log2_self
      calc n * 2 ^ (52 - n.log2) < 2 ^ (n.log2 + 1) * 2 ^ (52 - n.log2) := Nat.mul_lt_mul_of_pos_right this (Nat.two_pow_pos _)
        _ = 2 ^ 53 := by rw [← Nat.pow_add]; congr 1; omega
    rw [fl_pos n (by omega) h]
    unfold St
    show Format.read double _ = _
    unfold Format.read
    dsimp only
    have hs : double.signWeight = 9223372036854775808 := by decide
    have hi : double.infRung = 9218868437227405312 := by decide
    rw [hs, hi, bn, lp]
    generalize n * 2 ^ (52 - n.log2) = m at hlo hlt ⊢
    generalize n.log2 = l at hl ⊢
    have q1 : ((l + 1022) * 4503599627370496 + m) / 9223372036854775808 = 0 := by omega
    have q2 : ((l + 1022) * 4503599627370496 + m) % 9223372036854775808 = (l + 1022) * 4503599627370496 + m := by omega
    have q3 : ((l + 1022) * 4503599627370496 + m) / 4503599627370496 = l + 1023 := by omega
    have q4 : ((l + 1022) * 4503599627370496 + m) % 4503599627370496 = m - 4503599627370496 := by omega
    rw [q1, q2, q3, q4, if_neg (by omega), if_pos (by omega)]
    have e1 : 4503599627370496 + (m - 4503599627370496) = m := by omega
    have e2 : (-1074 : Int) + ((l + 1023 - 1 : Nat) : Int) = -((52 - l : Nat) : Int) := by omega
    rw [e1, e2]
    rfl

theorem signed_st (n k K : Nat) (h : k ≤ K) : signed false (n * 2 ^ k) (-(k : Int) - -(K : Int)).toNat = ((n * 2 ^ K : Nat) : Int) := by
  unfold signed
  have e : (-(k : Int) - -(K : Int)).toNat = K - k := by omega
  rw [e, Nat.shiftLeft_eq, Nat.mul_assoc, ← Nat.pow_add, show k + (K - k) = K by omega]
  simp

theorem order_st {d e : Datum} {a i b j : Nat} (hd : St d a i) (he : St e b j) : d.order e = some (compare a b) := by
  unfold St at hd he
  subst hd; subst he
  unfold Datum.order
  have e1 : min (-(i : Int)) (-(j : Int)) = -((max i j : Nat) : Int) := by omega
  simp only [e1, signed_st a i (max i j) (Nat.le_max_left ..), signed_st b j (max i j) (Nat.le_max_right ..)]
  have hp := Nat.two_pow_pos (max i j)
  generalize 2 ^ max i j = p at hp
  congr 1
  rcases Nat.lt_trichotomy a b with h | h | h
  · rw [Nat.compare_eq_lt.2 h, Int.compare_eq_lt.2]
    have := Nat.mul_lt_mul_of_pos_right h hp
    omega
  · subst h; rw [Nat.compare_eq_eq.2 rfl, Int.compare_eq_eq.2 rfl]
  · rw [Nat.compare_eq_gt.2 h, Int.compare_eq_gt.2]
    have := Nat.mul_lt_mul_of_pos_right h hp
    omega

/-- Two whole numbers as floats stand as they do. -/
theorem order_fl (a b : Nat) (ha : a < 2 ^ 53) (hb : b < 2 ^ 53) : FloatKind.f64.format.order (fl a) (fl b) = some (compare a b) := by
  obtain ⟨i, hi, _⟩ := read_fl a ha
  obtain ⟨j, hj, _⟩ := read_fl b hb
  exact order_st hi hj

/-- Their sum. -/
theorem add_fl (a b : Nat) (h : a + b < 2 ^ 53) : floatBits .add .f64 (fl a) (fl b) = some (fl ((a + b : Nat) : Int)) := by
  obtain ⟨i, hi, _⟩ := read_fl a (by omega)
  obtain ⟨j, hj, _⟩ := read_fl b (by omega)
  unfold floatBits Format.add
  simp only
  unfold FloatKind.decode at hi hj
  unfold St at hi hj
  rw [hi, hj]
  unfold Datum.sum
  have e1 : min (-(i : Int)) (-(j : Int)) = -((max i j : Nat) : Int) := by omega
  simp only [e1, signed_st a i (max i j) (Nat.le_max_left ..), signed_st b j (max i j) (Nat.le_max_right ..), Option.map_some]
  congr 1
  rw [← Int.natCast_add, ← Nat.add_mul]
  have hneg : (if ((((a + b) * 2 ^ max i j : Nat) : Int) = 0) then (false && false) else decide ((((a + b) * 2 ^ max i j : Nat) : Int) < 0)) = false := by
    split
    · rfl
    · simp only [decide_eq_false_iff_not]; omega
  rw [hneg]
  simp only [Format.write, Int.natAbs_natCast]
  by_cases h0 : a + b = 0
  · rw [h0]
    rw [show ((0 : Nat) : Int) = 0 from rfl, fl_zero]
    unfold Format.nearest
    simp [Format.word]
  · rw [fl_pos (a + b) (by omega) h]
    exact nearest_st (a + b) (max i j) (by omega) h

/-- And back. -/
theorem int_fl (n : Nat) (h : n < 2 ^ 53) : floatToIntVal .f64 (fl n) .i64 = some (n : Int) := by
  obtain ⟨k, hk, hk2⟩ := read_fl n h
  unfold floatToIntVal
  unfold St at hk
  rw [hk]
  have ht : (Datum.number false (n * 2 ^ k) (-(k : Int))).toInt .zero = some (n : Int) := by
    unfold Datum.toInt Datum.integral
    simp only
    have e1 : (-(k : Int)).toNat = 0 := by omega
    have e2 : (- -(k : Int)).toNat = k := by omega
    rw [e1, e2, Nat.shiftLeft_zero, cut_exact]
    · simp [signed]
    · by_cases h0 : n = 0
      · exact Or.inr h0
      · left; rw [log2_mul n k (by omega)]; omega
  rw [ht]
  simp only
  rw [if_pos]
  have e1 : IntKind.i64.min = -9223372036854775808 := by decide
  have e2 : IntKind.i64.max = 9223372036854775807 := by decide
  rw [e1, e2]
  omega

theorem nearest_rung (neg : Bool) (m : Nat) (p : Int) : ∃ r, r ≤ double.infRung ∧ double.nearest neg m p = double.word neg r := by
  unfold Format.nearest
  dsimp only
  split
  · exact ⟨0, Nat.zero_le _, rfl⟩
  · exact ⟨_, Nat.min_le_right .., rfl⟩

theorem read_neg (r : Nat) (h : r ≤ double.infRung) : (∃ m p, double.read (double.word true r) = .number true m p) ∨ double.read (double.word true r) = .infinity true := by
  have hs : double.signWeight = 9223372036854775808 := by decide
  have hi : double.infRung = 9218868437227405312 := by decide
  rw [hi] at h
  unfold Format.read Format.word
  dsimp only
  rw [hs, hi, bn, lp]
  simp only [if_true]
  have q1 : (9223372036854775808 + r) / 9223372036854775808 = 1 := by omega
  have q2 : (9223372036854775808 + r) % 9223372036854775808 = r := by omega
  rw [q1, q2]
  simp only [show (1 % 2 == 1) = true from rfl]
  split
  · exact Or.inl ⟨_, _, rfl⟩
  · split
    · exact Or.inl ⟨_, _, rfl⟩
    · split
      · exact Or.inr rfl
      · omega

theorem order_neg {d e : Datum} {k : Nat} (hd : St d 1 k) (he : (∃ m p, e = .number true m p) ∨ e = .infinity true) : d.order e = some .gt := by
  unfold St at hd
  subst hd
  rcases he with ⟨m, p, rfl⟩ | rfl
  · unfold Datum.order
    dsimp only
    congr 1
    rw [Int.compare_eq_gt]
    unfold signed
    simp only [Bool.false_eq_true, if_false, if_true]
    have h1 : 0 < (1 * 2 ^ k) <<< (-(k : Int) - min (-(k : Int)) p).toNat := by
      rw [Nat.shiftLeft_eq]
      exact Nat.mul_pos (by have := Nat.two_pow_pos k; omega) (Nat.two_pow_pos _)
    generalize (1 * 2 ^ k) <<< (-(k : Int) - min (-(k : Int)) p).toNat = x at h1 ⊢
    generalize m <<< (p - min (-(k : Int)) p).toNat = y
    omega
  · rfl

/-- What is less than 1 is so as a float. -/
theorem order_low (n : Int) (h : n < 1) : FloatKind.f64.format.order (fl 1) (fl n) = some .gt := by
  by_cases h0 : n = 0
  · subst h0; decide +kernel
  · obtain ⟨k, hk, _⟩ := read_fl 1 (by decide)
    refine order_neg hk ?_
    unfold fl floatOfInt FloatKind.nearest FloatKind.encode
    show (∃ m p, double.read (double.write _) = _) ∨ double.read (double.write _) = _
    simp only [Format.write]
    have e : decide (n < 0) = true := by simp; omega
    rw [e]
    obtain ⟨r, hr, e2⟩ := nearest_rung true n.natAbs 0
    rw [e2]
    exact read_neg r hr

theorem read_high (n : Nat) (h : 9007199254740992 ≤ n) : (∃ m p, 4503599627370496 ≤ m ∧ 1 ≤ p ∧ double.read (double.nearest false n 0) = .number false m p) ∨ double.read (double.nearest false n 0) = .infinity false := by
  have hs : double.signWeight = 9223372036854775808 := by decide
  have hi : double.infRung = 9218868437227405312 := by decide
  have hl : 53 ≤ n.log2 := by
    have := (Nat.le_log2 (show n ≠ 0 by omega) (k := 53)).2 (show 2 ^ 53 ≤ n from h)
    exact this
  have hrung : ∃ r, 1076 * 4503599627370496 ≤ r ∧ r ≤ 9218868437227405312 ∧ double.nearest false n 0 = r := by
    unfold Format.nearest
    rw [if_neg (by omega)]
    simp only [lp, bn, fb, hi, Format.word, Bool.false_eq_true, if_false]
    have e1 : max ((0 : Int) + (n.log2 : Int) - (52 : Nat)) (-1074) = ((n.log2 - 52 : Nat) : Int) := by omega
    rw [e1]
    have e2 : (((n.log2 - 52 : Nat) : Int) - -1074).toNat = n.log2 - 52 + 1074 := by omega
    have e3 : ((0 : Int) - ((n.log2 - 52 : Nat) : Int)).toNat = 0 := by omega
    have e4 : (((n.log2 - 52 : Nat) : Int) - 0).toNat = n.log2 - 52 := by omega
    rw [e2, e3, e4, Nat.shiftLeft_zero]
    have hc : 4503599627370496 ≤ Toward.even.cut false n (n.log2 - 52) := by
      unfold Toward.cut
      dsimp only
      rw [Nat.min_eq_left (by omega), Nat.one_shiftLeft]
      refine Nat.le_trans ?_ (Nat.le_add_right _ _)
      rw [Nat.le_div_iff_mul_le (Nat.two_pow_pos _)]
      calc 4503599627370496 * 2 ^ (n.log2 - 52) = 2 ^ 52 * 2 ^ (n.log2 - 52) := rfl
        _ = 2 ^ n.log2 := by rw [← Nat.pow_add]; congr 1; omega
        _ ≤ n := Nat.log2_self_le (by omega)
    refine ⟨_, ?_, Nat.min_le_right .., rfl⟩
    generalize Toward.even.cut false n (n.log2 - 52) = c at hc
    rw [Nat.le_min]
    omega
  obtain ⟨r, hr1, hr2, e⟩ := hrung
  rw [e]
  unfold Format.read
  dsimp only
  rw [hs, hi, bn, lp]
  have q1 : r / 9223372036854775808 = 0 := by omega
  have q2 : r % 9223372036854775808 = r := by omega
  rw [q1, q2]
  simp only [show (0 % 2 == 1) = false from rfl]
  rw [if_neg (by omega)]
  split
  · exact Or.inl ⟨_, _, by omega, by omega, rfl⟩
  · rw [if_pos (by omega)]
    exact Or.inr rfl

theorem order_up {d e : Datum} {a k : Nat} (hd : St d a k) (ha : a ≤ 1073741824) (he : (∃ m p, 4503599627370496 ≤ m ∧ 1 ≤ p ∧ e = .number false m p) ∨ e = .infinity false) : d.order e = some .lt ∧ e.order d = some .gt := by
  unfold St at hd
  subst hd
  rcases he with ⟨m, p, hm, hp, rfl⟩ | rfl
  · have key : ((signed false (a * 2 ^ k) (-(k : Int) - min (-(k : Int)) p).toNat) : Int) < signed false m (p - min (-(k : Int)) p).toNat := by
      unfold signed
      simp only [Bool.false_eq_true, if_false]
      have e1 : min (-(k : Int)) p = -(k : Int) := by omega
      rw [e1]
      have e2 : (-(k : Int) - -(k : Int)).toNat = 0 := by omega
      have e3 : (p - -(k : Int)).toNat = p.toNat + k := by omega
      rw [e2, e3, Nat.shiftLeft_zero, Nat.shiftLeft_eq, Nat.pow_add, ← Nat.mul_assoc]
      have h1 : a < m * 2 ^ p.toNat := by
        have := Nat.mul_le_mul_left m (Nat.two_pow_pos p.toNat)
        omega
      have := Nat.mul_lt_mul_of_pos_right h1 (Nat.two_pow_pos k)
      omega
    unfold Datum.order
    dsimp only
    constructor
    · congr 1; rw [Int.compare_eq_lt]; exact key
    · congr 1; rw [Int.compare_eq_gt, Int.min_comm]; exact key
  · exact ⟨rfl, rfl⟩

/-- What is more than 2^30 is so as a float. -/
theorem order_high (n : Int) (h : 1073741824 < n) : FloatKind.f64.format.order (fl 1) (fl n) = some .lt ∧ FloatKind.f64.format.order (fl n) (fl 1073741824) = some .gt := by
  obtain ⟨m, rfl⟩ := Int.eq_ofNat_of_zero_le (show 0 ≤ n by omega)
  by_cases hm : m < 9007199254740992
  · have e : 9007199254740992 = 2 ^ 53 := rfl
    have o1 := order_fl 1 m (by decide) (e ▸ hm)
    have o2 := order_fl m 1073741824 (e ▸ hm) (by decide)
    refine ⟨o1.trans ?_, o2.trans ?_⟩
    · rw [Nat.compare_eq_lt.2 (by omega)]
    · rw [Nat.compare_eq_gt.2 (by omega)]
  · have hr := read_high m (by omega)
    obtain ⟨k, hk, _⟩ := read_fl 1 (by decide)
    obtain ⟨j, hj, _⟩ := read_fl 1073741824 (by decide)
    have e : FloatKind.f64.decode (fl (m : Int)) = double.read (double.nearest false m 0) := by
      unfold fl floatOfInt FloatKind.nearest FloatKind.encode
      show double.read (double.write _) = _
      simp only [Format.write]
      have e : decide ((m : Int) < 0) = false := by simp
      rw [e, Int.natAbs_natCast]
    rw [← e] at hr
    exact ⟨(order_up hk (by omega) hr).1, (order_up hj (by omega) hr).2⟩

end Go.Proofs.YtoehbkgdodogkaaGreat.Fl
