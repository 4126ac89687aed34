/- Pure: words that are parted by blanks are as many tokens, with just these texts. -/
import Derived.Test.YthhendkimdddoaaScanL
namespace Go.Proofs.Ythhendkimdddoaa

namespace T
/-- A name, or a literal. -/
def word (l : List Int) : Bool := isName l || isLit l
def kindOf (l : List Int) : Int := if isName l then 1 else 2
/-- Texts, a blank behind each. -/
def join : List (List Int) → List Int
  | [] => []
  | l :: r => l ++ 32 :: join r
def joined : Nat → List (List Int) → List Tok
  | _, [] => []
  | k, l :: r => ⟨kindOf l, l, k⟩ :: joined (k + l.length + 1) r

theorem run_app (p : Int → Bool) (l r : List Int) (z : Int) (h : ∀ j, j < l.length → p (l.getD j 0) = true) (hz : p z = false) : run p (l ++ z :: r) = l.length := by
  induction l with
  | nil => simp [run, hz]
  | cons y l ih =>
    have h0 := h 0 (by simp)
    have h0' : p y = true := by simpa using h0
    rw [List.cons_append, run, if_pos h0', ih (fun j hj => by have := h (j + 1) (by simp; omega); simpa using this)]
    simp
theorem nsize_app (l r : List Int) (z : Int) (h : isName l = true) (hz : inName z = false) : nsize (l ++ z :: r) = l.length := by
  rw [isName_iff] at h
  simp only [Bool.and_eq_true, decide_eq_true_eq] at h
  obtain ⟨⟨⟨h1, h2⟩, h3⟩, h4⟩ := h
  cases l with
  | nil => simp at h1
  | cons y l =>
    rw [List.cons_append, nsize_cons, if_pos (by simpa using h3), run_app inName l r z (fun j hj => by have := h4 (j + 1) (by simp; omega); simpa using this) hz]
    simp
theorem name_pos {l : List Int} (h : isName l = true) : 0 < l.length ∧ l.length ≤ 20 := by
  rw [isName_iff] at h
  simp only [Bool.and_eq_true, decide_eq_true_eq] at h
  omega
theorem name_head {l : List Int} (h : isName l = true) (r : List Int) : head ((l ++ r).getD 0 0) = true := by
  have hp := (name_pos h).1
  rw [isName_iff] at h
  simp only [Bool.and_eq_true, decide_eq_true_eq] at h
  rw [L.append_getD_lt _ _ _ hp]
  exact h.1.2
theorem word_len {l : List Int} (h : word l = true) : 0 < l.length ∧ l.length ≤ 20 := by
  unfold word at h
  rw [Bool.or_eq_true] at h
  rcases h with h | h
  · exact name_pos h
  · have := isLit_len h; omega
theorem piece_name (l r : List Int) (h : isName l = true) : piece (l ++ 32 :: r) = (1, l.length, 0) := by
  have hh := name_head h (32 :: r)
  have hn := nsize_app l r 32 h (by decide)
  have hp := name_pos h
  unfold piece
  simp only
  generalize (l ++ 32 :: r).getD 0 0 = z at hh ⊢
  have hz : (97 ≤ z ∧ z ≤ 122) ∨ (65 ≤ z ∧ z ≤ 90) ∨ z = 95 := by
    simp [head, small] at hh; omega
  rw [if_neg (by omega), if_neg (by omega), if_neg (by omega), if_neg (by omega), if_neg (by omega), if_neg (by omega), if_neg (by omega), if_neg (by omega), if_neg (by omega)]
  unfold name
  rw [hn, if_neg (by omega), if_neg (by omega)]
theorem piece_lit (l r : List Int) (h : isLit l = true) : piece (l ++ 32 :: r) = (2, l.length, 0) := by
  obtain ⟨m, hm⟩ := isLit_bare l h
  have hz : (l ++ 32 :: r).getD 0 0 = 39 := by rw [hm]; rfl
  unfold piece
  simp only
  rw [hz, if_neg (by decide), if_neg (by decide), if_neg (by decide), if_neg (by decide), if_neg (by decide), if_pos rfl]
  unfold literal
  match l, h with
  | [a, b, c], h => rw [show ([a, b, c] ++ 32 :: r).take 3 = [a, b, c] from rfl, if_pos h]; rfl
  | [a, b, c, d], h =>
    have h3 : isLit [a, b, c] = false := by
      simp [isLit] at h
      obtain ⟨⟨⟨_, _⟩, rfl⟩, _⟩ := h
      simp [isLit]
    rw [show ([a, b, c, d] ++ 32 :: r).take 3 = [a, b, c] from rfl, show ([a, b, c, d] ++ 32 :: r).take 4 = [a, b, c, d] from rfl, if_neg (by rw [h3]; simp), if_pos h]
    rfl
theorem piece_word (l r : List Int) (h : word l = true) : piece (l ++ 32 :: r) = (kindOf l, l.length, 0) := by
  unfold word at h
  rw [Bool.or_eq_true] at h
  unfold kindOf
  by_cases hn : isName l = true
  · rw [if_pos hn]; exact piece_name l r hn
  · rw [if_neg hn]
    rcases h with h | h
    · exact absurd h hn
    · exact piece_lit l r h
theorem kindOf_two (l : List Int) : kindOf l = 1 ∨ kindOf l = 2 := by unfold kindOf; split <;> simp
theorem piece_blank (r : List Int) : piece (32 :: r) = (0, 1, 0) := rfl
theorem join_len (ws : List (List Int)) (h : ∀ l ∈ ws, word l = true) : 2 * ws.length ≤ (join ws).length ∧ (join ws).length ≤ 21 * ws.length := by
  induction ws with
  | nil => simp [join]
  | cons l r ih =>
    have h1 := word_len (h l (by simp))
    have h2 := ih (fun x hx => h x (by simp [hx]))
    simp only [join, List.length_append, List.length_cons]
    omega
theorem join_snoc (ws : List (List Int)) (l : List Int) : join (ws ++ [l]) = join ws ++ l ++ [32] := by
  induction ws with
  | nil => simp [join]
  | cons y r ih => simp [join, ih]
theorem join_bytes (ws : List (List Int)) (h : ∀ l ∈ ws, K.Bytes l) : K.Bytes (join ws) := by
  induction ws with
  | nil => exact K.Bytes.nil
  | cons l r ih =>
    intro z hz
    simp only [join] at hz
    rcases List.mem_append.1 hz with h1 | h1
    · exact h l (by simp) z h1
    · rcases List.mem_cons.1 h1 with rfl | h1
      · omega
      · exact ih (fun x hx => h x (by simp [hx])) z h1
theorem joined_len (k : Nat) (ws : List (List Int)) : (joined k ws).length = ws.length := by
  induction ws generalizing k with
  | nil => rfl
  | cons l r ih => simp [joined, ih]
theorem joined_at (k : Nat) (ws : List (List Int)) (i : Nat) (h : i < (joined k ws).length) (h' : i < ws.length) : (joined k ws)[i].t = ws[i] := by
  induction ws generalizing k i with
  | nil => simp at h'
  | cons l r ih =>
    cases i with
    | zero => rfl
    | succ i => simp only [joined, List.getElem_cons_succ]; exact ih _ i _ (by simpa using h')

theorem scan_join (ws : List (List Int)) (h : ∀ l ∈ ws, word l = true) : ∀ (f k : Nat) (acc : List Tok), 2 * ws.length ≤ f → scan f (join ws) k 0 acc = .ok (acc ++ joined k ws) := by
  induction ws with
  | nil => intro f k acc _; rw [scan_end _ _ _ _ _ (Or.inl rfl)]; simp [joined]
  | cons l r ih =>
    intro f k acc hf
    have hw := h l (by simp)
    have hlen := word_len hw
    simp only [List.length_cons] at hf
    obtain ⟨f, rfl⟩ : ∃ f', f = f' + 2 := ⟨f - 2, by omega⟩
    have hp := piece_word l (join r) hw
    have h1 : join (l :: r) = l ++ 32 :: join r := rfl
    rw [h1, scan_on (f + 1) (l ++ 32 :: join r) k 0 acc (by simp) (by rw [hp]), hp]
    simp only
    have e1 : (l ++ 32 :: join r).drop l.length = 32 :: join r := List.drop_left
    have e2 : marksOn 0 (kindOf l, l.length, 0) = 0 := by
      unfold marksOn; rw [if_neg (by simp only; rcases kindOf_two l with h | h <;> rw [h] <;> decide)]
    have e3 : more acc k (kindOf l, l.length, 0) (l ++ 32 :: join r) = acc ++ [⟨kindOf l, l, k⟩] := by
      unfold more ttext
      rw [if_neg (by simp only; rcases kindOf_two l with h | h <;> rw [h] <;> decide), if_pos (kindOf_two l)]
      simp only [List.take_left]
    rw [e1, e2, e3, scan_on f (32 :: join r) _ 0 _ (by simp) (by rw [piece_blank]), piece_blank]
    simp only
    have e4 : marksOn 0 (0, 1, 0) = 0 := rfl
    have e5 : more (acc ++ [⟨kindOf l, l, k⟩]) (k + l.length) (0, 1, 0) (32 :: join r) = acc ++ [⟨kindOf l, l, k⟩] := rfl
    rw [e4, e5, show (32 :: join r).drop 1 = join r from rfl, ih (fun x hx => h x (by simp [hx])) f _ _ (by omega)]
    simp [joined]
theorem toks_join (ws : List (List Int)) (h : ∀ l ∈ ws, word l = true) : toks (join ws) = .ok (joined 0 ws) := by
  unfold toks
  rw [scan_join ws h _ _ _ (by have := join_len ws h; omega)]
  rfl
end T
end Go.Proofs.Ythhendkimdddoaa
