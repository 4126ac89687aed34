/- Numbers and lists of them in bytes, seven bits a byte: there and back; nothing of any program. -/
import Derived.Test.YtihdkaggjinmmaaBytes
namespace Go.Proofs.Ytihdkaggjinmmaa

namespace V
/-- A number's bytes. -/
def put (n : Nat) : List Int := if n < 128 then [(n : Int)] else ((n % 128 + 128 : Nat) : Int) :: put (n / 128)
termination_by n
decreasing_by omega
/-- What bytes are as a number, k more of them at most, i taken, with n so far: the number, how many bytes, what is wrong. -/
def scan : Nat → Nat → Nat → List Int → Nat × Nat × Nat
  | 0, _, _, _ => (0, 0, 3)
  | _ + 1, _, _, [] => (0, 0, 4)
  | k + 1, i, n, z :: r => if 128 ≤ z then scan k (i + 1) (n + 128 ^ i * (z.toNat % 128)) r else if (z = 0 ∧ 0 < i) ∨ 4294967296 ≤ n + 128 ^ i * z.toNat then (0, 0, 3) else (n + 128 ^ i * z.toNat, i + 1, 0)
def get (l : List Int) (a : Int) : Nat × Nat × Nat :=
  if a < 0 ∨ (l.length : Int) < a then (0, 0, 1) else
    if (scan 5 0 0 (l.drop a.toNat)).2.2 = 0 then ((scan 5 0 0 (l.drop a.toNat)).1, a.toNat + (scan 5 0 0 (l.drop a.toNat)).2.1, 0) else (0, 0, (scan 5 0 0 (l.drop a.toNat)).2.2)
/-- k more numbers, from place p on, behind those that there are. -/
def items (b : List Int) : Nat → Nat → List Int → List Int × Nat × Nat
  | 0, p, acc => (acc, p, 0)
  | k + 1, p, acc => if (get b p).2.2 ≠ 0 then ([], 0, (get b p).2.2) else if 2147483648 ≤ (get b p).1 then ([], 0, 3) else items b k (get b p).2.1 (acc ++ [((get b p).1 : Int)])
def list (b : List Int) (a most : Int) : List Int × Nat × Nat :=
  if (get b a).2.2 ≠ 0 then ([], 0, (get b a).2.2) else if most < ((get b a).1 : Int) then ([], 0, 5) else items b (get b a).1 (get b a).2.1 []
def all : List Int → List Int
  | [] => []
  | z :: r => put z.toNat ++ all r
def fit (z : Int) : Bool := decide (0 ≤ z) && decide (z < 2147483648)
def fits (l : List Int) : Bool := l.all fit
def puts (l : List Int) : List Int := put l.length ++ all l

theorem scan_cons (k i n : Nat) (z : Int) (r : List Int) : scan (k + 1) i n (z :: r) = if 128 ≤ z then scan k (i + 1) (n + 128 ^ i * (z.toNat % 128)) r else if (z = 0 ∧ 0 < i) ∨ 4294967296 ≤ n + 128 ^ i * z.toNat then (0, 0, 3) else (n + 128 ^ i * z.toNat, i + 1, 0) := rfl
theorem scan_nil (k i n : Nat) : scan (k + 1) i n [] = (0, 0, 4) := rfl
theorem scan_0 (i n : Nat) (t : List Int) : scan 0 i n t = (0, 0, 3) := rfl
theorem put_lt {n : Nat} (h : n < 128) : put n = [(n : Int)] := by rw [put, if_pos h]
theorem put_ge {n : Nat} (h : ¬ n < 128) : put n = ((n % 128 + 128 : Nat) : Int) :: put (n / 128) := by rw [put, if_neg h]
theorem put_bytes (n : Nat) : K.Bytes (put n) := by
  induction n using Nat.strongRecOn with
  | ind n ih =>
    by_cases h : n < 128
    · rw [put_lt h]; intro z hz; rw [List.mem_singleton] at hz; subst hz; omega
    · rw [put_ge h]; intro z hz
      rcases List.mem_cons.1 hz with rfl | hz
      · omega
      · exact ih _ (by omega) z hz
theorem put_len (n : Nat) (h : n < 4294967296) : (put n).length ≤ 5 := by
  have H : ∀ k n : Nat, n < 128 ^ (k + 1) → (put n).length ≤ k + 1 := by
    intro k
    induction k with
    | zero => intro n hn; rw [put_lt (by omega)]; simp
    | succ k ih =>
      intro n hn
      by_cases h : n < 128
      · rw [put_lt h]; simp
      · rw [put_ge h, List.length_cons]
        have := ih (n / 128) (by rw [Nat.pow_succ] at hn; omega)
        omega
  exact H 4 n (by omega)
theorem put_pos (n : Nat) : 0 < (put n).length := by
  by_cases h : n < 128
  · rw [put_lt h]; simp
  · rw [put_ge h]; simp
theorem all_bytes (l : List Int) : K.Bytes (all l) := by
  induction l with
  | nil => exact K.Bytes.nil
  | cons z r ih => exact (put_bytes _).app ih
theorem all_app (l m : List Int) : all (l ++ m) = all l ++ all m := by
  induction l with
  | nil => rfl
  | cons z r ih => show put z.toNat ++ all (r ++ m) = _; rw [ih, ← List.append_assoc]; rfl
theorem all_snoc (l : List Int) (z : Int) : all (l ++ [z]) = all l ++ put z.toNat := by
  rw [all_app]; show _ ++ (put z.toNat ++ []) = _; rw [List.append_nil]
theorem puts_bytes (l : List Int) : K.Bytes (puts l) := (put_bytes _).app (all_bytes l)
theorem fits_app (l m : List Int) : fits (l ++ m) = (fits l && fits m) := by unfold fits; rw [List.all_append]
theorem fits_getD {l : List Int} (h : fits l = true) (k : Nat) : 0 ≤ l.getD k 0 ∧ l.getD k 0 < 2147483648 := by
  by_cases hk : k < l.length
  · have := List.all_eq_true.1 h _ (List.getElem_mem hk)
    rw [L.gd_lt hk]; simpa [fit] using this
  · rw [L.gd_ge (by omega)]; omega
theorem fits_not {l : List Int} {k : Nat} (hk : k < l.length) (h : fit (l.getD k 0) = false) : fits l = false := by
  unfold fits
  rw [List.all_eq_false]
  exact ⟨_, List.getElem_mem hk, by rw [L.gd_lt hk] at h; rw [h]; simp⟩
theorem all_len (l : List Int) (h : fits l = true) : (all l).length ≤ 5 * l.length := by
  induction l with
  | nil => simp [all]
  | cons z r ih =>
    have h1 : fit z = true ∧ fits r = true := by simpa [fits] using h
    have h2 : 0 ≤ z ∧ z < 2147483648 := by simpa [fit] using h1.1
    show (put z.toNat ++ all r).length ≤ _
    have := ih h1.2
    have := put_len z.toNat (by omega)
    rw [List.length_append, List.length_cons]; omega

/-- What is put is got. -/
theorem scan_put : ∀ (n i m : Nat) (t : List Int), i ≤ 4 → m < 128 ^ i → m + 128 ^ i * n < 4294967296 → (0 < i → 0 < n) →
    scan (5 - i) i m (put n ++ t) = (m + 128 ^ i * n, i + (put n).length, 0) := by
  intro n
  induction n using Nat.strongRecOn with
  | ind n ih =>
    intro i m t hi hm hn h0
    obtain ⟨k, hk⟩ : ∃ k, 5 - i = k + 1 := ⟨4 - i, by omega⟩
    rw [hk]
    by_cases h : n < 128
    · rw [put_lt h]
      rw [List.singleton_append, scan_cons, if_neg (by omega), if_neg (by rw [Int.toNat_natCast]; omega), Int.toNat_natCast]; rfl
    · rw [put_ge h]
      have hi4 : i < 4 := by
        rcases Nat.lt_or_ge i 4 with h4 | h4
        · exact h4
        · obtain rfl : i = 4 := by omega
          omega
      rw [List.cons_append, scan_cons, if_pos (by omega), Int.toNat_natCast, show (n % 128 + 128) % 128 = n % 128 by omega]
      have e : 128 ^ i * n = 128 ^ i * (n % 128) + 128 ^ (i + 1) * (n / 128) := by
        rw [Nat.pow_succ, Nat.mul_assoc, ← Nat.mul_add]; congr 1; omega
      have hlt : 128 ^ i * (n % 128) + 128 ^ i ≤ 128 ^ (i + 1) := by
        rw [Nat.pow_succ, ← Nat.mul_succ]; exact Nat.mul_le_mul_left _ (by omega)
      have q := ih (n / 128) (by omega) (i + 1) (m + 128 ^ i * (n % 128)) t (by omega) (by omega) (by omega) (by omega)
      rw [show 5 - (i + 1) = k by omega] at q
      rw [q, List.length_cons, e, Nat.add_assoc, show i + 1 + (put (n / 128)).length = i + ((put (n / 128)).length + 1) by omega]

/-- What is got has just those bytes. -/
theorem put_scan : ∀ (f i m : Nat) (t : List Int) (n k : Nat), K.Bytes t → scan f i m t = (n, k, 0) →
    ∃ q, n = m + 128 ^ i * q ∧ i < k ∧ k - i ≤ t.length ∧ t.take (k - i) = put q ∧ n < 4294967296 ∧ (0 < i → 0 < q) := by
  intro f
  induction f with
  | zero => intro i m t n k _ h; simp [scan] at h
  | succ f ih =>
    intro i m t n k hb h
    cases t with
    | nil => simp [scan] at h
    | cons z r =>
      have hz := hb.hd
      have h' : (if 128 ≤ z then scan f (i + 1) (m + 128 ^ i * (z.toNat % 128)) r else if (z = 0 ∧ 0 < i) ∨ 4294967296 ≤ m + 128 ^ i * z.toNat then (0, 0, 3) else (m + 128 ^ i * z.toNat, i + 1, 0)) = (n, k, 0) := h
      clear h
      by_cases hg : 128 ≤ z
      · rw [if_pos hg] at h'
        obtain ⟨q, h1, h2, h3, h4, h5, h6⟩ := ih (i + 1) _ r n k hb.tl h'
        have hq := h6 (by omega)
        refine ⟨z.toNat % 128 + 128 * q, ?_, by omega, by rw [List.length_cons]; omega, ?_, h5, by omega⟩
        · rw [h1, Nat.pow_succ, Nat.mul_add, Nat.mul_assoc]; omega
        · rw [put_ge (by omega), show k - i = (k - (i + 1)) + 1 by omega, List.take_succ_cons, h4, show (z.toNat % 128 + 128 * q) / 128 = q by omega]
          congr 1; omega
      · rw [if_neg hg] at h'
        by_cases hc : (z = 0 ∧ 0 < i) ∨ 4294967296 ≤ m + 128 ^ i * z.toNat
        · rw [if_pos hc] at h'; simp at h'
        · rw [if_neg hc] at h'
          simp only [Prod.mk.injEq] at h'
          obtain ⟨rfl, rfl, _⟩ := h'
          refine ⟨z.toNat, rfl, by omega, by rw [List.length_cons]; omega, ?_, by omega, by omega⟩
          rw [put_lt (by omega), show i + 1 - i = 1 by omega]
          show [z] = _
          rw [Int.toNat_of_nonneg hz.1]

theorem get_put (pre t : List Int) (n : Nat) (hn : n < 4294967296) : get (pre ++ put n ++ t) pre.length = (n, pre.length + (put n).length, 0) := by
  have e := scan_put n 0 0 t (by omega) (by omega) (by omega) (by omega)
  unfold get
  rw [if_neg (by rw [List.append_assoc, List.length_append]; omega), Int.toNat_natCast, List.append_assoc, List.drop_left]
  rw [show 5 - 0 = 5 from rfl, show 0 + 128 ^ 0 * n = n by omega, Nat.zero_add] at e
  rw [e, if_pos rfl]
theorem get_put0 (t : List Int) (n : Nat) (hn : n < 4294967296) : get (put n ++ t) 0 = (n, (put n).length, 0) := by
  have := get_put [] t n hn; simpa using this

theorem get_back {l : List Int} {a : Int} {n q : Nat} (hl : K.Bytes l) (h : get l a = (n, q, 0)) :
    0 ≤ a ∧ a.toNat < q ∧ q ≤ l.length ∧ (l.drop a.toNat).take (q - a.toNat) = put n ∧ n < 4294967296 := by
  unfold get at h
  by_cases h1 : a < 0 ∨ (l.length : Int) < a
  · rw [if_pos h1] at h; simp at h
  · rw [if_neg h1] at h
    obtain ⟨⟨x, y, z⟩, hs⟩ : ∃ r, scan 5 0 0 (l.drop a.toNat) = r := ⟨_, rfl⟩
    rw [hs] at h
    dsimp only at h
    by_cases hz : z = 0
    · subst hz
      rw [if_pos rfl] at h
      simp only [Prod.mk.injEq] at h
      obtain ⟨rfl, rfl, _⟩ := h
      obtain ⟨p, h2, h3, h4, h5, h6, _⟩ := put_scan 5 0 0 _ _ _ (hl.drop _) hs
      rw [List.length_drop] at h4
      obtain rfl : x = p := by omega
      exact ⟨by omega, by omega, by omega, by rw [show a.toNat + y - a.toNat = y - 0 by omega]; exact h5, h6⟩
    · rw [if_neg hz] at h; simp at h; exact absurd h.2.2 hz
/-- Where there is an error all else is nought; the number is small. -/
theorem get_facts {l : List Int} (hl : K.Bytes l) (a : Int) : (get l a).1 < 4294967296 ∧ (get l a).2.1 ≤ l.length ∧ (get l a).2.2 ≤ 4 ∧ ((get l a).2.2 ≠ 0 → (get l a).1 = 0 ∧ (get l a).2.1 = 0) := by
  by_cases h : (get l a).2.2 = 0
  · obtain ⟨_, _, h3, _, h5⟩ := get_back (l := l) (a := a) (n := (get l a).1) (q := (get l a).2.1) hl (by rw [← h])
    exact ⟨h5, h3, by omega, fun k => absurd h k⟩
  · have hs : ∀ (f i m : Nat) (t : List Int), (scan f i m t).2.2 ≤ 4 := by
      intro f
      induction f with
      | zero => intro i m t; simp [scan]
      | succ f ih =>
        intro i m t
        cases t with
        | nil => simp [scan]
        | cons z r =>
          show (if 128 ≤ z then scan f (i + 1) (m + 128 ^ i * (z.toNat % 128)) r else if (z = 0 ∧ 0 < i) ∨ 4294967296 ≤ m + 128 ^ i * z.toNat then (0, 0, 3) else (m + 128 ^ i * z.toNat, i + 1, 0)).2.2 ≤ 4
          split
          · exact ih _ _ _
          · split <;> simp
    unfold get at h ⊢
    split
    · simp
    · rename_i h1
      rw [if_neg h1] at h
      split
      · rename_i h2; rw [if_pos h2] at h; exact absurd rfl h
      · exact ⟨Nat.succ_pos _, Nat.zero_le _, hs _ _ _ _, fun _ => ⟨rfl, rfl⟩⟩

theorem items_all : ∀ (l pre t acc : List Int), fits l = true → items (pre ++ all l ++ t) l.length pre.length acc = (acc ++ l, pre.length + (all l).length, 0) := by
  intro l
  induction l with
  | nil => intro pre t acc _; simp [items, all]
  | cons z r ih =>
    intro pre t acc h
    have h1 : fit z = true ∧ fits r = true := by simpa [fits] using h
    have h2 : 0 ≤ z ∧ z < 2147483648 := by simpa [fit] using h1.1
    have e : pre ++ all (z :: r) ++ t = pre ++ put z.toNat ++ (all r ++ t) := by show pre ++ (put z.toNat ++ all r) ++ t = _; simp
    have g := get_put pre (all r ++ t) z.toNat (by omega)
    rw [← e] at g
    rw [List.length_cons]
    unfold items
    rw [g]
    dsimp only
    rw [if_neg (by simp), if_neg (by omega), Int.toNat_of_nonneg h2.1]
    have q := ih (pre ++ put z.toNat) t (acc ++ [z]) h1.2
    rw [show pre ++ all (z :: r) ++ t = pre ++ put z.toNat ++ all r ++ t by rw [e]; simp, ← List.length_append, q]
    simp [all, Nat.add_assoc]

theorem list_puts (l t : List Int) (h : fits l = true) (hn : l.length < 4294967296) : list (puts l ++ t) 0 l.length = (l, (puts l).length, 0) := by
  have g := get_put0 (all l ++ t) l.length hn
  rw [← List.append_assoc] at g
  unfold list puts
  rw [g]
  dsimp only
  rw [if_neg (by simp), if_neg (by omega)]
  have := items_all l (put l.length) t [] h
  rw [this, List.nil_append, List.length_append]

theorem items_back (b : List Int) (hb : K.Bytes b) : ∀ (k p : Nat) (acc m : List Int) (q : Nat), p ≤ b.length → items b k p acc = (m, q, 0) →
    ∃ r, m = acc ++ r ∧ r.length = k ∧ fits r = true ∧ p ≤ q ∧ q ≤ b.length ∧ (b.drop p).take (q - p) = all r := by
  intro k
  induction k with
  | zero =>
    intro p acc m q hp h
    simp only [items, Prod.mk.injEq] at h
    obtain ⟨rfl, rfl, _⟩ := h
    exact ⟨[], by simp, rfl, rfl, Nat.le_refl _, hp, by simp [all]⟩
  | succ k ih =>
    intro p acc m q hp h
    unfold items at h
    obtain ⟨⟨n, s, e⟩, hg⟩ : ∃ r, get b p = r := ⟨_, rfl⟩
    rw [hg] at h
    dsimp only at h
    by_cases he : e = 0
    · subst he
      rw [if_neg (by simp)] at h
      by_cases hn : 2147483648 ≤ n
      · rw [if_pos hn] at h; simp at h
      · rw [if_neg hn] at h
        obtain ⟨_, g2, g3, g4, g5⟩ := get_back hb hg
        rw [Int.toNat_natCast] at g2 g4
        obtain ⟨r, r1, r2, r3, r4, r5, r6⟩ := ih s _ m q g3 h
        refine ⟨(n : Int) :: r, by rw [r1]; simp, by rw [List.length_cons, r2], ?_, by omega, r5, ?_⟩
        · have : fit (n : Int) = true := by simp [fit]; omega
          unfold fits at r3 ⊢; rw [List.all_cons, this, r3]; rfl
        · have e : b.drop p = (b.drop p).take (s - p) ++ b.drop s := by
            have := List.take_append_drop (s - p) (b.drop p)
            rw [List.drop_drop, show p + (s - p) = s by omega] at this
            exact this.symm
          rw [e, g4, List.take_append, List.take_of_length_le, show q - p - (put n).length = q - s from ?_, r6]
          · rfl
          · have := congrArg List.length g4
            rw [List.length_take, List.length_drop] at this
            omega
          · have := congrArg List.length g4
            rw [List.length_take, List.length_drop] at this
            omega
    · rw [if_pos he] at h; simp at h; exact absurd h.2.2 he

theorem list_back {b : List Int} {a most : Int} {m : List Int} {q : Nat} (hb : K.Bytes b) (h : list b a most = (m, q, 0)) :
    0 ≤ a ∧ (m.length : Int) ≤ most ∧ m.length < 4294967296 ∧ fits m = true ∧ a.toNat ≤ q ∧ q ≤ b.length ∧ (b.drop a.toNat).take (q - a.toNat) = puts m := by
  unfold list at h
  obtain ⟨⟨n, s, e⟩, hg⟩ : ∃ r, get b a = r := ⟨_, rfl⟩
  rw [hg] at h
  dsimp only at h
  by_cases he : e = 0
  · subst he
    rw [if_neg (by simp)] at h
    by_cases hn : most < (n : Int)
    · rw [if_pos hn] at h; simp at h
    · rw [if_neg hn] at h
      obtain ⟨g1, g2, g3, g4, g5⟩ := get_back hb hg
      obtain ⟨r, r1, r2, r3, r4, r5, r6⟩ := items_back b hb n s [] m q g3 h
      rw [List.nil_append] at r1
      subst r1
      refine ⟨g1, by omega, by omega, r3, by omega, r5, ?_⟩
      have e : b.drop a.toNat = (b.drop a.toNat).take (s - a.toNat) ++ b.drop s := by
        have := List.take_append_drop (s - a.toNat) (b.drop a.toNat)
        rw [List.drop_drop, show a.toNat + (s - a.toNat) = s by omega] at this
        exact this.symm
      have hl := congrArg List.length g4
      rw [List.length_take, List.length_drop] at hl
      rw [e, g4, List.take_append, List.take_of_length_le (by omega), show q - a.toNat - (put n).length = q - s by omega, r6]
      unfold puts; rw [r2]
  · rw [if_pos he] at h; simp at h; exact absurd h.2.2 he
end V
end Go.Proofs.Ytihdkaggjinmmaa
