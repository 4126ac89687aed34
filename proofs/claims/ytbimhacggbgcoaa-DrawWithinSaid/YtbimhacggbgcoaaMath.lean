/- Plain mathematics of numbers written as limbs (lists of integers below 2 to the 32nd, the lowest first): their value, the shortest limbs of a number, and how they part and join. No program is named here. -/
import Derived.RowKit
namespace Go.Proofs.Ytbimhacggbgcoaa.M

/-- The value of limbs. -/
def val : List Int → Int
  | [] => 0
  | z :: r => z + 4294967296 * val r

/-- Every limb has 32 bits. -/
def Lim (zs : List Int) : Prop := ∀ z ∈ zs, 0 ≤ z ∧ z < 4294967296

/-- Without noughts at the end. -/
def trim : List Int → List Int
  | [] => []
  | z :: r => if trim r = [] then (if z = 0 then [] else [z]) else z :: trim r

/-- The shortest limbs of a number. -/
def canon (n : Nat) : List Int := if n = 0 then [] else ((n % 4294967296 : Nat) : Int) :: canon (n / 4294967296)
termination_by n
decreasing_by omega

/-- 2 to the 32nd, so often. -/
def pw (k : Nat) : Int := 4294967296 ^ k

theorem pw_zero : pw 0 = 1 := rfl
theorem pw_succ (k : Nat) : pw (k + 1) = 4294967296 * pw k := by unfold pw; rw [Int.pow_succ]; omega
theorem pw_pos (k : Nat) : 0 < pw k := by unfold pw; exact Int.pow_pos (by omega)
theorem pw_add (j k : Nat) : pw (j + k) = pw j * pw k := by unfold pw; rw [Int.pow_add]
theorem pw_mono {j k : Nat} (h : j ≤ k) : pw j ≤ pw k := by
  induction k with
  | zero => simp at h; subst h; exact Int.le_refl _
  | succ k ih =>
    by_cases e : j = k + 1
    · subst e; exact Int.le_refl _
    · have := ih (by omega); have := pw_pos k; rw [pw_succ]; omega

theorem val_nil : val [] = 0 := rfl
theorem val_cons (z : Int) (r : List Int) : val (z :: r) = z + 4294967296 * val r := rfl
theorem val_append (l m : List Int) : val (l ++ m) = val l + pw l.length * val m := by
  induction l with
  | nil => simp [val, pw_zero]
  | cons z r ih => simp only [List.cons_append, val, ih, List.length_cons, pw_succ]; grind
theorem val_snoc (l : List Int) (z : Int) : val (l ++ [z]) = val l + pw l.length * z := by rw [val_append]; simp [val]

theorem gd_lt {l : List Int} {k : Nat} (h : k < l.length) : l.getD k 0 = l[k] := by simp [List.getD, h]
theorem gd_ge {l : List Int} {k : Nat} (h : l.length ≤ k) : l.getD k 0 = 0 := by simp [List.getD, h]

theorem Lim.nil : Lim [] := by simp [Lim]
theorem Lim.tail {z : Int} {r : List Int} (h : Lim (z :: r)) : Lim r := fun x hx => h x (List.mem_cons_of_mem _ hx)
theorem Lim.head {z : Int} {r : List Int} (h : Lim (z :: r)) : 0 ≤ z ∧ z < 4294967296 := h z (List.mem_cons_self ..)
theorem Lim.cons {z : Int} {r : List Int} (h1 : 0 ≤ z) (h2 : z < 4294967296) (h : Lim r) : Lim (z :: r) := by
  intro x hx; rcases List.mem_cons.1 hx with rfl | hx
  · exact ⟨h1, h2⟩
  · exact h x hx
theorem Lim.append {l m : List Int} (h : Lim l) (k : Lim m) : Lim (l ++ m) := by
  intro x hx; rcases List.mem_append.1 hx with hx | hx
  · exact h x hx
  · exact k x hx
theorem Lim.snoc {l : List Int} {z : Int} (h : Lim l) (h1 : 0 ≤ z) (h2 : z < 4294967296) : Lim (l ++ [z]) := h.append (Lim.cons h1 h2 Lim.nil)
theorem Lim.take {l : List Int} (h : Lim l) (k : Nat) : Lim (l.take k) := fun x hx => h x (List.mem_of_mem_take hx)
theorem Lim.drop {l : List Int} (h : Lim l) (k : Nat) : Lim (l.drop k) := fun x hx => h x (List.mem_of_mem_drop hx)
theorem Lim.getD {l : List Int} (h : Lim l) (k : Nat) : 0 ≤ l.getD k 0 ∧ l.getD k 0 < 4294967296 := by
  by_cases e : k < l.length
  · rw [gd_lt e]; exact h _ (List.getElem_mem e)
  · rw [gd_ge (by omega)]; omega
theorem Lim.set {l : List Int} (h : Lim l) (k : Nat) {z : Int} (h1 : 0 ≤ z) (h2 : z < 4294967296) : Lim (l.set k z) := by
  intro x hx; rcases List.mem_or_eq_of_mem_set hx with hx | rfl
  · exact h x hx
  · exact ⟨h1, h2⟩
theorem Lim.replicate (n : Nat) : Lim (List.replicate n 0) := by
  intro x hx; rw [List.eq_of_mem_replicate hx]; omega

theorem val_nonneg {zs : List Int} (h : Lim zs) : 0 ≤ val zs := by
  induction zs with
  | nil => simp [val]
  | cons z r ih => have := ih h.tail; have := h.head; simp only [val]; omega
theorem val_lt {zs : List Int} (h : Lim zs) : val zs < pw zs.length := by
  induction zs with
  | nil => simp [val, pw_zero]
  | cons z r ih => have := ih h.tail; have := h.head; simp only [val, List.length_cons, pw_succ]; omega
theorem val_replicate (n : Nat) : val (List.replicate n 0) = 0 := by
  induction n with
  | zero => rfl
  | succ n ih => simp [List.replicate_succ, val, ih]

theorem canon_zero : canon 0 = [] := by rw [canon]; simp
theorem canon_pos {n : Nat} (h : n ≠ 0) : canon n = ((n % 4294967296 : Nat) : Int) :: canon (n / 4294967296) := by rw [canon, if_neg h]
theorem canon_eq_nil {n : Nat} : canon n = [] ↔ n = 0 := by
  constructor
  · intro h; by_cases e : n = 0
    · exact e
    · rw [canon_pos e] at h; cases h
  · rintro rfl; exact canon_zero
theorem lim_canon (n : Nat) : Lim (canon n) := by
  induction n using Nat.strongRecOn with
  | _ n ih =>
    by_cases e : n = 0
    · subst e; rw [canon_zero]; exact Lim.nil
    · rw [canon_pos e]; exact Lim.cons (by omega) (by omega) (ih _ (by omega))
theorem val_canon (n : Nat) : val (canon n) = n := by
  induction n using Nat.strongRecOn with
  | _ n ih =>
    by_cases e : n = 0
    · subst e; rw [canon_zero]; rfl
    · rw [canon_pos e, val, ih _ (by omega)]; omega
theorem canon_inj {m n : Nat} (h : canon m = canon n) : m = n := by
  have := congrArg val h; rw [val_canon, val_canon] at this; omega

theorem trim_eq_canon {zs : List Int} (h : Lim zs) : trim zs = canon (val zs).toNat := by
  induction zs with
  | nil => simp [trim, val, canon_zero]
  | cons z r ih =>
    have i := ih h.tail; have hh := h.head; have v := val_nonneg h.tail
    rw [trim, i]; simp only [val]
    have d : (z + 4294967296 * val r).toNat / 4294967296 = (val r).toNat := by omega
    have m : (((z + 4294967296 * val r).toNat % 4294967296 : Nat) : Int) = z := by omega
    by_cases e : (val r).toNat = 0
    · rw [if_pos (canon_eq_nil.2 e)]
      by_cases e2 : z = 0
      · rw [if_pos e2, show (z + 4294967296 * val r).toNat = 0 by omega, canon_zero]
      · rw [if_neg e2, canon_pos (by omega), d, m, e, canon_zero]
    · rw [if_neg (fun hc => e (canon_eq_nil.1 hc)), canon_pos (n := (z + 4294967296 * val r).toNat) (by omega), d, m]
theorem val_trim {zs : List Int} (h : Lim zs) : val (trim zs) = val zs := by
  rw [trim_eq_canon h, val_canon]; have := val_nonneg h; omega
theorem trim_snoc_zero (l : List Int) : trim (l ++ [0]) = trim l := by
  induction l with
  | nil => simp [trim]
  | cons z r ih => simp only [List.cons_append, trim, ih]
theorem trim_snoc {l : List Int} {z : Int} (h : z ≠ 0) : trim (l ++ [z]) = l ++ [z] := by
  induction l with
  | nil => simp [trim, h]
  | cons y r ih => simp only [List.cons_append, trim, ih]; simp
/-- Limbs whose last one isn't 0 are the shortest. -/
theorem canon_of_last {zs : List Int} (h : Lim zs) (hl : zs = [] ∨ zs.getD (zs.length - 1) 0 ≠ 0) : zs = canon (val zs).toNat := by
  rw [← trim_eq_canon h]
  rcases hl with rfl | hl
  · rfl
  · rcases List.eq_nil_or_concat zs with rfl | ⟨l, z, rfl⟩
    · rfl
    · simp at hl ⊢; exact (trim_snoc hl).symm
theorem canon_last {n : Nat} (h : n ≠ 0) : (canon n).getD ((canon n).length - 1) 0 ≠ 0 := by
  induction n using Nat.strongRecOn with
  | _ n ih =>
    rw [canon_pos h]
    by_cases e : n / 4294967296 = 0
    · rw [e, canon_zero]; simp; omega
    · have i := ih (n / 4294967296) (by omega) e
      have l : (canon (n / 4294967296)).length ≠ 0 := fun hc => e (canon_eq_nil.1 (List.eq_nil_of_length_eq_zero hc))
      obtain ⟨k, hk⟩ : ∃ k, (canon (n / 4294967296)).length = k + 1 := ⟨(canon (n / 4294967296)).length - 1, by omega⟩
      simp only [List.length_cons, hk, Nat.add_sub_cancel] at i ⊢
      simpa using i
theorem canon_length_le {n k : Nat} : (canon n).length ≤ k ↔ (n : Int) < pw k := by
  induction k generalizing n with
  | zero =>
    rw [pw_zero]; constructor
    · intro h; have := canon_eq_nil.1 (List.eq_nil_of_length_eq_zero (by omega : (canon n).length = 0)); omega
    · intro h; rw [show n = 0 by omega, canon_zero]; simp
  | succ k ih =>
    by_cases e : n = 0
    · subst e; have := pw_pos (k + 1); simp [canon_zero]; omega
    · have i := @ih (n / 4294967296)
      rw [canon_pos e, List.length_cons, Nat.add_le_add_iff_right, i, pw_succ]; omega
theorem canon_length_lt {n k : Nat} : k < (canon n).length ↔ pw k ≤ (n : Int) := by
  have := @canon_length_le n k; constructor
  · intro h; by_cases e : (n : Int) < pw k
    · have := this.2 e; omega
    · omega
  · intro h; by_cases e : (canon n).length ≤ k
    · have := this.1 e; omega
    · omega
/-- The i-th limb of a number. -/
theorem canon_getD (n i : Nat) : (canon n).getD i 0 = ((n : Int) / pw i) % 4294967296 := by
  induction i generalizing n with
  | zero =>
    by_cases e : n = 0
    · subst e; simp [canon_zero, pw_zero]
    · rw [canon_pos e, pw_zero]; simp
  | succ i ih =>
    by_cases e : n = 0
    · subst e; simp [canon_zero]
    · rw [canon_pos e, List.getD_cons_succ, ih, pw_succ]
      have : ((n / 4294967296 : Nat) : Int) = (n : Int) / 4294967296 := by omega
      rw [this, Int.ediv_ediv_of_nonneg (by omega)]
/-- A list that has the same limbs is the same. -/
theorem getD_ext {l m : List Int} (h : l.length = m.length) (k : ∀ i, i < l.length → l.getD i 0 = m.getD i 0) : l = m := by
  apply List.ext_getElem h
  intro i h1 h2
  have := k i h1
  rwa [gd_lt h1, gd_lt h2] at this
theorem take_snoc (l : List Int) (k : Nat) (h : k < l.length) : l.take (k + 1) = l.take k ++ [l.getD k 0] := by
  rw [List.take_succ_eq_append_getElem h, gd_lt h]
/-- The lower k limbs' value, and what is above. -/
theorem val_take_drop (l : List Int) (k : Nat) (h : k ≤ l.length) : val l = val (l.take k) + pw k * val (l.drop k) := by
  have := val_append (l.take k) (l.drop k)
  rw [List.take_append_drop, List.length_take, Nat.min_eq_left h] at this; exact this
theorem val_drop (l : List Int) (k : Nat) (h : k < l.length) : val (l.drop k) = l.getD k 0 + 4294967296 * val (l.drop (k + 1)) := by
  rw [List.drop_eq_getElem_cons h, val, gd_lt h]
theorem trim_prefix (l : List Int) : trim l = l.take (trim l).length := by
  induction l with
  | nil => rfl
  | cons z r ih =>
    rw [trim]
    by_cases e : trim r = []
    · rw [if_pos e]; by_cases e2 : z = 0
      · rw [if_pos e2]; rfl
      · rw [if_neg e2]; rfl
    · rw [if_neg e, List.length_cons, List.take_succ_cons, ← ih]
theorem trim_length_le (l : List Int) : (trim l).length ≤ l.length := by
  have := congrArg List.length (trim_prefix l); rw [List.length_take] at this; omega
theorem trim_take_zero {l : List Int} {k : Nat} (h : k < l.length) (hz : l.getD k 0 = 0) : trim (l.take (k + 1)) = trim (l.take k) := by
  rw [take_snoc l k h, hz, trim_snoc_zero]
theorem trim_take_stop {l : List Int} {k : Nat} (h : k < l.length) (hz : l.getD k 0 ≠ 0) : trim (l.take (k + 1)) = l.take (k + 1) := by
  rw [take_snoc l k h, trim_snoc hz]
theorem lim_trim {l : List Int} (h : Lim l) : Lim (trim l) := by rw [trim_prefix]; exact h.take _
/-! Lists that are turned at one place, inside a longer one. -/
theorem mid_getD (pre xs post : List Int) (k : Nat) (h : k < xs.length) : (pre ++ xs ++ post).getD (pre.length + k) 0 = xs.getD k 0 := by
  rw [gd_lt (by simp; omega), gd_lt h, List.getElem_append_left (by simp; omega), List.getElem_append_right (by omega)]
  congr 1; omega
theorem mid_set (pre xs post : List Int) (k : Nat) (z : Int) (h : k < xs.length) : (pre ++ xs ++ post).set (pre.length + k) z = pre ++ xs.set k z ++ post := by
  rw [List.set_append_left _ _ (by simp; omega), List.set_append_right _ _ (by omega), show pre.length + k - pre.length = k by omega]
theorem set_take (xs : List Int) (k : Nat) (z : Int) (h : k < xs.length) : (xs.set k z).take (k + 1) = xs.take k ++ [z] := by
  rw [take_snoc _ _ (by rw [List.length_set]; exact h), List.take_set_of_le (Nat.le_refl k), gd_lt (by rw [List.length_set]; exact h)]
  simp
theorem set_drop (xs : List Int) (k : Nat) (z : Int) : (xs.set k z).drop (k + 1) = xs.drop (k + 1) := by
  rw [List.drop_set_of_lt (by omega)]
theorem drop_getD {xs ys : List Int} {k : Nat} (h : xs.drop k = ys.drop k) : xs.getD k 0 = ys.getD k 0 := by
  have := congrArg (fun l => l.getD 0 0) h
  simpa [List.getD] using this
theorem drop_more {xs ys : List Int} {k : Nat} (h : xs.drop k = ys.drop k) : xs.drop (k + 1) = ys.drop (k + 1) := by
  have := congrArg (List.drop 1) h
  rwa [List.drop_drop, List.drop_drop] at this
theorem val_take_succ (l : List Int) (k : Nat) : val (l.take (k + 1)) = val (l.take k) + pw k * l.getD k 0 := by
  by_cases h : k < l.length
  · rw [take_snoc l k h, val_snoc, List.length_take, Nat.min_eq_left (by omega)]
  · rw [gd_ge (by omega), List.take_of_length_le (by omega), List.take_of_length_le (by omega)]; omega
theorem add_step {xs ys xk : List Int} {k : Nat} {c s x y : Int} (h : k < xk.length) (hv : val (xk.take k) + pw k * c = val (xs.take k) + val (ys.take k)) (hx : xs.getD k 0 = x) (hy : ys.getD k 0 = y) (hs : s = x + y + c) :
    val ((xk.set k (s % 4294967296)).take (k + 1)) + pw (k + 1) * (s / 4294967296) = val (xs.take (k + 1)) + val (ys.take (k + 1)) := by
  rw [set_take xk k _ h, val_snoc, val_take_succ, val_take_succ, hx, hy, List.length_take, Nat.min_eq_left (by omega), pw_succ]
  have := Int.emod_add_mul_ediv s 4294967296
  generalize s % 4294967296 = r at *
  generalize s / 4294967296 = q at *
  generalize pw k = P at *
  grind
theorem take_step {xs ys xk : List Int} {k : Nat} {c b n x y cc lo hi x' b' : Int} (h : k < xk.length) (hv : val (xk.take k) = val (xs.take k) - n * val (ys.take k) + pw k * (c + b)) (hx : xs.getD k 0 = x) (hy : ys.getD k 0 = y)
    (hc : cc = c + y * n) (hlo : cc = lo + 4294967296 * hi) (hb : x - lo - b = x' - 4294967296 * b') :
    val ((xk.set k x').take (k + 1)) = val (xs.take (k + 1)) - n * val (ys.take (k + 1)) + pw (k + 1) * (hi + b') := by
  rw [set_take xk k _ h, val_snoc, val_take_succ, val_take_succ, hx, hy, List.length_take, Nat.min_eq_left (by omega), pw_succ]
  generalize pw k = P at *
  grind
/-- A quotient by a limb, from the highest limb on. -/
theorem div_step {xs xk : List Int} {j : Nat} {d r x s : Int} (h : j < xk.length) (hl : xk.length = xs.length) (hv : val (xs.drop (j + 1)) = d * val (xk.drop (j + 1)) + r) (hx : xs.getD j 0 = x) (hs : s = r * 4294967296 + x) :
    val (xs.drop j) = d * val ((xk.set j (s / d)).drop j) + s % d := by
  rw [val_drop xs j (by omega), val_drop (xk.set j _) j (by rw [List.length_set]; exact h), set_drop, hv, hx, gd_lt (by rw [List.length_set]; exact h)]
  have := Int.emod_add_mul_ediv s d
  simp only [List.getElem_set_self]
  generalize s % d = r' at *
  generalize s / d = q at *
  grind
theorem set_take_le (xs : List Int) (k : Nat) (z : Int) : (xs.set k z).take k = xs.take k := List.take_set_of_le (Nat.le_refl k)
theorem take_getD {xs ys : List Int} {j : Nat} (h : xs.take (j + 1) = ys.take (j + 1)) : xs.getD j 0 = ys.getD j 0 := by
  have := congrArg (fun l => l.getD j 0) h
  simpa [List.getD, List.getElem?_take] using this
theorem take_less {xs ys : List Int} {j : Nat} (h : xs.take (j + 1) = ys.take (j + 1)) : xs.take j = ys.take j := by
  have := congrArg (List.take j) h
  rwa [List.take_take, List.take_take, Nat.min_eq_left (by omega)] at this
theorem mul_step {ys ps p : List Int} {i j : Nat} {c cc x y z : Int} (h : i + j < p.length) (hv : val (p.take (i + j)) + pw (i + j) * c = val (ps.take (i + j)) + pw i * x * val (ys.take j)) (hy : ys.getD j 0 = y) (hz : ps.getD (i + j) 0 = z) (hc : cc = c + (x * y + z)) :
    val ((p.set (i + j) (cc % 4294967296)).take (i + (j + 1))) + pw (i + (j + 1)) * (cc / 4294967296) = val (ps.take (i + (j + 1))) + pw i * x * val (ys.take (j + 1)) := by
  rw [← Nat.add_assoc, set_take p (i + j) _ h, val_snoc, val_take_succ ps, val_take_succ ys, hy, hz, List.length_take, Nat.min_eq_left (by omega), pw_succ]
  have e := pw_add i j
  have := Int.emod_add_mul_ediv cc 4294967296
  generalize cc % 4294967296 = r at *
  generalize cc / 4294967296 = q at *
  generalize pw (i + j) = P at *
  generalize pw i = I at *
  generalize pw j = J at *
  subst e
  grind
theorem mul_row {xs ys ps p : List Int} {i m : Nat} {c x : Int} (h : i + m < p.length) (hm : m = ys.length) (hv : val (p.take (i + m)) + pw (i + m) * c = val (ps.take (i + m)) + pw i * x * val (ys.take m)) (hp : val (ps.take (i + m)) = val (xs.take i) * val ys) (hx : xs.getD i 0 = x) :
    val ((p.set (i + m) c).take (i + 1 + m)) = val (xs.take (i + 1)) * val ys := by
  rw [show i + 1 + m = i + m + 1 by omega, set_take p (i + m) _ h, val_snoc, val_take_succ, hx, List.length_take, Nat.min_eq_left (by omega)]
  rw [hm, List.take_length, ← hm] at hv
  grind
end Go.Proofs.Ytbimhacggbgcoaa.M
