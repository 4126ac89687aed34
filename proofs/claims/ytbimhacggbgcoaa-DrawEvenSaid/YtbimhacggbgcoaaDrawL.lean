/- What is drawn, said on lists: it is below the bound, more words change nothing, a try that draws nothing leaves the next one as if it were the first; of small bounds each word draws itself. No program is walked here. -/
import Derived.Test.YtbimhacggbgcoaaBelow
namespace Go.Proofs.Ytbimhacggbgcoaa
open Go.RowKit

theorem drawL_ok {b : List Int} {k n : Nat} (hb : right b = true) (hn : n ≤ 32) (r : Nat) : ∀ (ws : List Int) (u : Nat), M.Lim ws → r * n ≤ ws.length → (drawL b k n r ws u).2.2 = 0 →
    cmpS (drawL b k n r ws u).1 b < 0 ∧ M.Lim (drawL b k n r ws u).1 ∧ (drawL b k n r ws u).1.length ≤ 32 ∧ (u : Int) ≤ (drawL b k n r ws u).2.1 ∧ (drawL b k n r ws u).2.1 ≤ ((u + r * n : Nat) : Int) ∧ ∀ (more : List Int) (r' : Nat), drawL b k n (r + r') (ws ++ more) u = drawL b k n r ws u := by
  induction r with
  | zero => intro ws u _ _ h; simp [drawL] at h
  | succ r ih =>
    intro ws u hw hr h
    have e : (r + 1) * n = r * n + n := Nat.succ_mul r n
    have hl : (ws.take n).length ≤ 32 := by rw [List.length_take]; omega
    rw [drawL] at h ⊢
    have hmore : ∀ (more : List Int), (ws ++ more).take n = ws.take n ∧ (ws ++ more).drop n = ws.drop n ++ more := fun more =>
      ⟨List.take_append_of_le_length (by omega), List.drop_append_of_le_length (by omega)⟩
    by_cases hv : M.val (lowS k (ws.take n)) < M.val b
    · rw [if_pos hv]
      refine ⟨?_, (lowS_canon (hw.take n) hl).1, (lowS_canon (hw.take n) hl).2.2, by show (u : Int) ≤ ((u + n : Nat) : Int); omega, by show ((u + n : Nat) : Int) ≤ ((u + (r + 1) * n : Nat) : Int); rw [e]; omega, fun more r' => ?_⟩
      · rw [cmp_low (hw.take n) hl hb]; exact cmpI_neg hv
      · rw [show r + 1 + r' = (r + r') + 1 by omega, drawL, (hmore more).1, if_pos hv]
    · rw [if_neg hv] at h ⊢
      obtain ⟨h1, h2, h3, h4, h5, h6⟩ := ih (ws.drop n) (u + n) (hw.drop n) (by rw [List.length_drop]; omega) h
      refine ⟨h1, h2, h3, by omega, by omega, fun more r' => ?_⟩
      rw [show r + 1 + r' = (r + r') + 1 by omega, drawL, (hmore more).1, if_neg hv, (hmore more).2, h6]

theorem drawL_fail {b : List Int} {k n : Nat} (r : Nat) : ∀ (ws : List Int) (u : Nat), (drawL b k n r ws u).2.2 ≠ 0 → drawL b k n r ws u = ([], 0, 12) := by
  induction r with
  | zero => intro ws u _; rfl
  | succ r ih =>
    intro ws u h
    rw [drawL] at h ⊢
    by_cases hv : M.val (lowS k (ws.take n)) < M.val b
    · rw [if_pos hv] at h; exact absurd rfl h
    · rw [if_neg hv] at h ⊢; exact ih _ _ h

theorem drawL_shift {b : List Int} {k n d : Nat} (r : Nat) : ∀ (ws : List Int) (u : Nat), drawL b k n r ws (u + d) = if (drawL b k n r ws u).2.2 = 0 then ((drawL b k n r ws u).1, (drawL b k n r ws u).2.1 + (d : Int), 0) else ([], 0, 12) := by
  induction r with
  | zero => intro ws u; rw [drawL, drawL]; rfl
  | succ r ih =>
    intro ws u
    rw [drawL, drawL]
    by_cases hv : M.val (lowS k (ws.take n)) < M.val b
    · rw [if_pos hv, if_pos hv]; simp; omega
    · rw [if_neg hv, if_neg hv, show u + d + n = u + n + d by omega, ih]

theorem belowS_fail {b ws : List Int} (h : (belowS b ws).2.2 ≠ 0) : (belowS b ws).1 = [] ∧ (belowS b ws).2.1 = 0 := by
  unfold belowS at h ⊢
  split at h
  · rename_i h1
    rw [if_pos h1]
    split at h
    · rename_i h2; rw [if_pos h2]; exact ⟨rfl, rfl⟩
    · rename_i h2
      rw [if_neg h2]
      split at h
      · exact absurd rfl h
      · rename_i h3
        rw [if_neg h3, drawL_fail _ _ _ h]; exact ⟨rfl, rfl⟩
  · rename_i h1; rw [if_neg h1]; exact ⟨rfl, rfl⟩

theorem belowS_ok {b ws : List Int} (hb : M.Lim b) (hw : M.Lim ws) (h : (belowS b ws).2.2 = 0) :
    cmpS (belowS b ws).1 b < 0 ∧ M.Lim (belowS b ws).1 ∧ (belowS b ws).1.length ≤ 32 ∧ 0 ≤ (belowS b ws).2.1 ∧ (belowS b ws).2.1 ≤ (ws.length : Int) ∧ ∀ more : List Int, ws.length + more.length ≤ 1000 → belowS b (ws ++ more) = belowS b ws := by
  unfold belowS at h ⊢
  by_cases h1 : mayB b = true
  · obtain ⟨hr, h0⟩ := mayB_parts h1
    rw [if_pos h1] at h ⊢
    by_cases h2 : 1000 < ws.length
    · rw [if_pos h2] at h; simp at h
    · rw [if_neg h2] at h ⊢
      by_cases h3 : nN b = 0
      · rw [if_pos h3] at h ⊢
        refine ⟨?_, M.Lim.nil, by simp, by simp, by simp, fun more hm => ?_⟩
        · unfold cmpS; rw [hr, show right [] = true by decide]
          exact cmpI_neg (C.val_pos hb hr h0)
        · rw [if_pos h1, if_neg (by rw [List.length_append]; omega), if_pos h3]
      · rw [if_neg h3] at h ⊢
        have hdiv : ws.length / nN b * nN b ≤ ws.length := Nat.div_mul_le_self _ _
        obtain ⟨g1, g2, g3, g4, g5, g6⟩ := drawL_ok hr (nN_le b) _ _ _ hw hdiv h
        refine ⟨g1, g2, g3, by omega, by omega, fun more hm => ?_⟩
        rw [if_pos h1, if_neg (by rw [List.length_append]; omega), if_neg h3]
        have hle : ws.length / nN b ≤ (ws ++ more).length / nN b := Nat.div_le_div_right (by rw [List.length_append]; omega)
        obtain ⟨r', hr'⟩ := Nat.exists_eq_add_of_le hle
        rw [hr']; exact g6 more r'
  · rw [if_neg h1] at h; simp at h

theorem belowS_again {b first ws : List Int} (hn : first.length = nN b) (h0 : nN b ≠ 0) (hl : first.length + ws.length ≤ 1000) (he : (belowS b first).2.2 = 12) :
    belowS b (first ++ ws) = if (belowS b ws).2.2 = 0 then ((belowS b ws).1, (belowS b ws).2.1 + (nN b : Int), 0) else ([], 0, 12) := by
  have h1 : mayB b = true := by
    rcases Bool.eq_false_or_eq_true (mayB b) with h | h
    · exact h
    · exact absurd (by unfold nN; rw [kN_not h]) h0
  have a1 : belowS b first = drawL b (kN b) (nN b) 1 first 0 := by
    unfold belowS; rw [if_pos h1, if_neg (by omega), if_neg h0, hn, Nat.div_self (by omega)]
  have a2 : belowS b ws = drawL b (kN b) (nN b) (ws.length / nN b) ws 0 := by
    unfold belowS; rw [if_pos h1, if_neg (by omega), if_neg h0]
  have a3 : belowS b (first ++ ws) = drawL b (kN b) (nN b) (ws.length / nN b + 1) (first ++ ws) 0 := by
    unfold belowS; rw [if_pos h1, if_neg (by rw [List.length_append]; omega), if_neg h0, List.length_append, hn, Nat.add_div_left _ (by omega)]
  have hv : ¬ M.val (lowS (kN b) (first.take (nN b))) < M.val b := by
    intro hv; rw [a1, drawL, if_pos hv] at he; simp at he
  rw [a3, a2, drawL, List.take_append_of_le_length (by omega), if_neg hv, List.drop_append_of_le_length (by omega), List.drop_of_length_le (by omega), List.nil_append, drawL_shift]

/-- Of a bound below 2 to the 32nd a try has one word. -/
theorem kN_one {n : Nat} (h : n < 4294967295) : kN (M.canon (n + 1)) = Lib.bitLen n := by
  have hm : mayB (M.canon (n + 1)) = true := by
    unfold mayB; rw [C.right (C.len64 (by omega)), C.one (by omega) (by omega)]; rfl
  have hk := kN_may hm
  rw [M.val_canon, show (((n + 1 : Nat) : Int) - 1).toNat = n by omega] at hk
  by_cases e : n = 0
  · subst e; rw [M.canon_zero] at hk
    rw [show bitsS [] = 0 by decide] at hk
    rw [show Lib.bitLen 0 = 0 by decide]; omega
  · rw [C.one e (by omega)] at hk
    have : bitsS [(n : Int)] = (Lib.bitLen n : Int) := by
      unfold bitsS
      have hr : right [(n : Int)] = true := by unfold right; simp; omega
      rw [hr]; simp
    omega
theorem belowS_one {n k : Nat} {z : Nat} (h : n < 4294967295) (hk : Lib.bitLen n = k) (k0 : 0 < k) (k1 : k ≤ 32) (hz : z < 2 ^ k) (hz2 : z < 4294967296) :
    belowS (M.canon (n + 1)) [(z : Int)] = if z < n + 1 then (M.canon z, 1, 0) else ([], 0, 12) := by
  have hkn := kN_one h
  rw [hk] at hkn
  have hn : nN (M.canon (n + 1)) = 1 := by unfold nN; rw [hkn]; omega
  have hm : mayB (M.canon (n + 1)) = true := by
    unfold mayB; rw [C.right (C.len64 (by omega)), C.one (by omega) (by omega)]; rfl
  have hlow : lowS k [(z : Int)] = M.canon z := by
    have hpk : ((2 ^ k : Nat) : Int) = (2 : Int) ^ k := by simp
    have e : maskS k [(z : Int)] = [(z : Int)] := by
      unfold maskS
      simp
      exact Int.emod_eq_of_lt (by omega) (by omega)
    unfold lowS
    rw [e, M.trim_eq_canon (M.Lim.cons (by omega) (by omega) M.Lim.nil)]
    congr 1
  unfold belowS
  rw [if_pos hm, if_neg (by simp), hn, if_neg (by omega), hkn, show [(z : Int)].length / 1 = 1 by simp, drawL, List.take_of_length_le (by simp), hlow, M.val_canon, M.val_canon]
  by_cases hlt : z < n + 1
  · rw [if_pos (by omega), if_pos hlt]; rfl
  · rw [if_neg (by omega), if_neg hlt, drawL]
end Go.Proofs.Ytbimhacggbgcoaa
