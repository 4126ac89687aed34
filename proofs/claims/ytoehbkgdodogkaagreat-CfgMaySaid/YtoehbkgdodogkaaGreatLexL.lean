/- Pure words for lexing: what a text begins with, and its tokens, on lists of numbers. -/
import Derived.Test.YtoehbkgdodogkaaGreatBytes
import Derived.Lib.IndexLaws
import Derived.Lib.IndexMore
import Derived.Lib.Strings
import Derived.Lib.Bytes
import Derived.Lib.Index
namespace Go.Proofs.YtoehbkgdodogkaaGreat
set_option maxRecDepth 100000

namespace T
def small (z : Int) : Bool := decide (97 ≤ z) && decide (z ≤ 122)
def head (z : Int) : Bool := small z || (decide (65 ≤ z) && decide (z ≤ 90)) || z == 95
def tail (z : Int) : Bool := (decide (48 ≤ z) && decide (z ≤ 57)) || z == 46
def inName (z : Int) : Bool := head z || tail z
/-- How many fit at the beginning. -/
def run (p : Int → Bool) : List Int → Nat
  | [] => 0
  | z :: r => if p z then run p r + 1 else 0
def nsize : List Int → Nat
  | [] => 0
  | z :: r => if head z then run inName r + 1 else 0
def isName (l : List Int) : Bool := decide (l.length ≤ 20) && (decide (l.length ≠ 0) && decide (nsize l = l.length))
def isSign (l : List Int) : Bool := l == [92, 110] || l == [92, 116] || l == [92, 92] || l == [92, 39] || (match l with | [z] => decide (32 ≤ z) && decide (z ≤ 126) && (z != 39) && (z != 92) | _ => false)
def isLit : List Int → Bool
  | [a, b, c] => a == 39 && c == 39 && decide (32 ≤ b) && decide (b ≤ 126) && (b != 39) && (b != 92)
  | [a, b, c, d] => a == 39 && d == 39 && b == 92 && (c == 110 || c == 116 || c == 92 || c == 39)
  | _ => false

theorem nsize_cons (z : Int) (r : List Int) : nsize (z :: r) = if head z then run inName r + 1 else 0 := rfl
theorem run_le (p : Int → Bool) (l : List Int) : run p l ≤ l.length := by
  induction l with
  | nil => simp [run]
  | cons z r ih => unfold run; split <;> simp <;> omega
theorem nsize_le (l : List Int) : nsize l ≤ l.length := by
  cases l with
  | nil => simp [nsize]
  | cons z r => rw [nsize_cons]; have := run_le inName r; split <;> simp <;> omega
theorem run_next (p : Int → Bool) (l : List Int) (k : Nat) (h : k < l.length) : run p (l.drop k) = if p (l.getD k 0) then run p (l.drop (k + 1)) + 1 else 0 := by
  rw [L.cons_drop l k h]; rfl
theorem run_end (p : Int → Bool) (l : List Int) (k : Nat) (h : l.length ≤ k) : run p (l.drop k) = 0 := by
  rw [List.drop_eq_nil_of_le h]; rfl
theorem nsize_first (l : List Int) (h : 0 < l.length) : nsize l = if head (l.getD 0 0) then run inName (l.drop 1) + 1 else 0 := by
  cases l with
  | nil => simp at h
  | cons z r => rfl
theorem run_full (p : Int → Bool) (l : List Int) : run p l = l.length ↔ ∀ j, j < l.length → p (l.getD j 0) = true := by
  induction l with
  | nil => simp [run]
  | cons z r ih =>
    unfold run
    constructor
    · intro h j hj
      by_cases hz : p z = true
      · rw [if_pos hz] at h
        simp at h
        cases j with
        | zero => simpa using hz
        | succ j => have := ih.1 h j (by simp at hj; omega); simpa using this
      · rw [if_neg hz] at h; simp at h
    · intro h
      have h0 := h 0 (by simp)
      have : p z = true := by simpa using h0
      rw [if_pos this]
      have := ih.2 (fun j hj => by have := h (j + 1) (by simp; omega); simpa using this)
      simp [this]
theorem run_take (p : Int → Bool) (l : List Int) (k : Nat) (h : k ≤ run p l) : run p (l.take k) = k := by
  induction l generalizing k with
  | nil => simp [run] at h; subst h; rfl
  | cons z r ih =>
    cases k with
    | zero => rfl
    | succ k =>
      unfold run at h
      by_cases hz : p z = true
      · rw [if_pos hz] at h
        simp only [List.take_succ_cons]
        unfold run
        rw [if_pos hz, ih k (by omega)]
      · rw [if_neg hz] at h; omega
theorem nsize_take (l : List Int) (k : Nat) (h : k ≤ nsize l) : nsize (l.take k) = k := by
  cases l with
  | nil => simp [nsize] at h; subst h; rfl
  | cons z r =>
    cases k with
    | zero => rfl
    | succ k =>
      rw [nsize_cons] at h
      by_cases hz : head z = true
      · rw [if_pos hz] at h
        simp only [List.take_succ_cons]
        rw [nsize_cons, if_pos hz, run_take _ _ _ (by omega)]
      · rw [if_neg hz] at h; omega
/-- A name, in the words of its first byte and all others. -/
theorem isName_iff (l : List Int) : isName l = (decide (l.length ≠ 0) && decide (l.length ≤ 20) && head (l.getD 0 0) && decide (∀ j, j < l.length → inName (l.getD j 0) = true)) := by
  cases l with
  | nil => simp [isName]
  | cons z r =>
    rw [Bool.eq_iff_iff]
    have hr := run_full inName r
    unfold isName
    simp only [Bool.and_eq_true, decide_eq_true_eq]
    constructor
    · rintro ⟨h1, h2, h3⟩
      rw [nsize_cons] at h3
      by_cases hz : head z = true
      · rw [if_pos hz] at h3
        refine ⟨⟨⟨by simp, h1⟩, by simpa using hz⟩, fun j hj => ?_⟩
        cases j with
        | zero => simp [inName, hz]
        | succ j =>
          have := hr.1 (by simpa using h3) j (by simp at hj; omega)
          simpa using this
      · rw [if_neg hz] at h3; simp at h3
    · rintro ⟨⟨⟨h1, h2⟩, h3⟩, h4⟩
      refine ⟨h2, by simp, ?_⟩
      rw [nsize_cons, if_pos (by simpa using h3)]
      have := hr.2 (fun j hj => by have := h4 (j + 1) (by simp; omega); simpa using this)
      simp [this]
theorem isLit_len {l : List Int} (h : isLit l = true) : l.length = 3 ∨ l.length = 4 := by
  unfold isLit at h
  split at h
  · left; rfl
  · right; rfl
  · cases h
theorem isLit_mid (m : List Int) : isLit (39 :: (m ++ [39])) = isSign m := by
  match m with
  | [] => rfl
  | [b] => simp [isLit, isSign, Bool.and_assoc]
  | [b, c] =>
    by_cases h1 : b = 92
    · subst h1; simp [isLit, isSign]
    · have : (b == 92) = false := by simpa using h1
      simp [isLit, isSign, this]
  | b :: c :: d :: r =>
    simp only [List.cons_append]
    have : isLit (39 :: b :: c :: d :: (r ++ [39])) = false := by
      unfold isLit
      cases r with
      | nil => rfl
      | cons e r => rfl
    rw [this]; simp [isSign]
theorem isLit_bare (l : List Int) (h : isLit l = true) : ∃ m, l = 39 :: (m ++ [39]) := by
  match l, h with
  | [a, b, c], h =>
    simp [isLit] at h
    obtain ⟨⟨⟨⟨⟨rfl, rfl⟩, _⟩, _⟩, _⟩, _⟩ := h
    exact ⟨[b], rfl⟩
  | [a, b, c, d], h =>
    simp [isLit] at h
    obtain ⟨⟨⟨rfl, rfl⟩, _⟩, _⟩ := h
    exact ⟨[b, c], rfl⟩
/-- Nothing is a name and a literal. -/
theorem name_lit (l : List Int) (h : isName l = true) : isLit l = false := by
  rcases hl : isLit l with _ | _
  · rfl
  · obtain ⟨m, rfl⟩ := isLit_bare l hl
    rw [isName_iff] at h
    have : head 39 = false := by decide
    simp [this] at h

/-- The first place of a text in another one; below 0: there is none. -/
def ix (l s : List Int) : Int := Lib.index (Lib.bytesOf l) (Lib.bytesOf s)
def pre (l s : List Int) : Bool := Lib.hasPrefix (Lib.bytesOf l) (Lib.bytesOf s)
/-- What is told of a piece: its kind, its size, what is wrong. -/
abbrev P3 := Int × Nat × Int
def skip (l : List Int) (f : Nat) (s : List Int) : P3 := if ix (l.drop f) s < 0 then (0, 0, 4) else (0, f + (ix (l.drop f) s).toNat + s.length, 0)
def line (l : List Int) : List Int := if 0 ≤ ix l [10] then l.take (ix l [10]).toNat else l
def comment (l : List Int) : P3 := if pre l [47, 42] then skip l 2 [42, 47] else if pre l [47, 47] then (0, (line l).length, 0) else (0, 0, 3)
/-- Up to a quote's end, that one too. -/
def quoted (q : Int) : List Int → Option Nat
  | [] => none
  | z :: r => if z = q then some 1 else if z = 92 then (match r with | [] => none | _ :: r' => (quoted q r').map (· + 2)) else (quoted q r).map (· + 1)
/-- How many braces are open behind a byte. -/
def ostep (z o : Int) : Int := if z = 123 then o + 1 else if z = 125 then o - 1 else o
def act : Nat → List Int → Int → Option Nat
  | 0, _, _ => none
  | f + 1, l, o => match l with
    | [] => none
    | z :: r => if z = 39 ∨ z = 34 then (match quoted z r with | none => none | some n => (act f (r.drop n) o).map (· + (n + 1)))
      else if 0 < ostep z o then (act f r (ostep z o)).map (· + 1) else some 1
def action (l : List Int) : P3 := match act (l.length + 1) l 0 with | none => (0, 0, 4) | some n => (0, n, 0)
def wkind (l : List Int) : Int := if l = [116, 111, 107, 101, 110] then 3 else if l = [108, 101, 102, 116] then 4 else if l = [114, 105, 103, 104, 116] then 5 else if l = [110, 111, 110, 97, 115, 115, 111, 99] then 6 else if l = [115, 116, 97, 114, 116] then 7 else if l = [112, 114, 101, 99] then 8 else 0
def psize (l : List Int) : Nat := 1 + run small (l.drop 1)
def percent (l : List Int) : P3 := if pre l [37, 37] then (9, 2, 0) else if pre l [37, 123] then skip l 2 [37, 125] else if wkind ((l.take (psize l)).drop 1) = 0 then (0, 0, 3) else (wkind ((l.take (psize l)).drop 1), psize l, 0)
def literal (l : List Int) : P3 := if isLit (l.take 3) then (2, 3, 0) else if isLit (l.take 4) then (2, 4, 0) else if isLit (l ++ [39]) || isLit (l ++ [110, 39]) then (0, 0, 4) else (0, 0, 3)
def name (l : List Int) : P3 := if nsize l = 0 then (0, 0, 3) else if 20 < nsize l then (0, 0, 5) else (1, nsize l, 0)
def piece (l : List Int) : P3 :=
  let z := l.getD 0 0
  if z = 32 ∨ z = 9 ∨ z = 10 ∨ z = 13 then (0, 1, 0) else if z = 47 then comment l else if z = 60 then skip (line l) 1 [62] else if z = 123 then action l else if z = 37 then percent l
  else if z = 39 then literal l else if z = 58 then (10, 1, 0) else if z = 124 then (11, 1, 0) else if z = 59 then (12, 1, 0) else name l

theorem bytesOf_len (l : List Int) : (Lib.bytesOf l).length = l.length := by simp [Lib.bytesOf]
theorem ix_ge (l s : List Int) : -1 ≤ ix l s := Lib.index_ge _ _
theorem ix_room (l s : List Int) (h : 0 ≤ ix l s) : (ix l s).toNat + s.length ≤ l.length := by
  have := Lib.index_room _ _ h
  rw [bytesOf_len, bytesOf_len] at this
  unfold ix at *
  omega
theorem line_le (l : List Int) : (line l).length ≤ l.length := by
  unfold line; split
  · rw [List.length_take]; omega
  · exact Nat.le_refl _
theorem pre_len (l s : List Int) (h : pre l s = true) : s.length ≤ l.length := by
  have := List.IsPrefix.length_le (List.isPrefixOf_iff_prefix.1 h)
  rwa [bytesOf_len, bytesOf_len] at this
theorem quoted_le (q : Int) : ∀ (l : List Int) (n : Nat), quoted q l = some n → 1 ≤ n ∧ n ≤ l.length
  | [], n, h => by simp [quoted] at h
  | [z], n, h => by
    unfold quoted at h
    by_cases h1 : z = q
    · rw [if_pos h1] at h; simp at h; subst h; simp
    · rw [if_neg h1] at h
      by_cases h2 : z = 92
      · rw [if_pos h2] at h; simp at h
      · rw [if_neg h2] at h; simp [quoted] at h
  | z :: y :: r, n, h => by
    unfold quoted at h
    by_cases h1 : z = q
    · rw [if_pos h1] at h; simp at h; subst h; simp
    · rw [if_neg h1] at h
      by_cases h2 : z = 92
      · rw [if_pos h2] at h
        simp only [Option.map_eq_some_iff] at h
        obtain ⟨m, hm, rfl⟩ := h
        have := quoted_le q r m hm
        simp; omega
      · rw [if_neg h2] at h
        rw [Option.map_eq_some_iff] at h
        obtain ⟨m, hm, rfl⟩ := h
        have := quoted_le q (y :: r) m hm
        simp at this ⊢; omega
theorem act_le : ∀ (f : Nat) (l : List Int) (o : Int) (n : Nat), act f l o = some n → 1 ≤ n ∧ n ≤ l.length
  | 0, _, _, _, h => by simp [act] at h
  | f + 1, [], o, n, h => by simp [act] at h
  | f + 1, z :: r, o, n, h => by
    unfold act at h
    simp only at h
    split at h
    · split at h
      · cases h
      · rename_i m hq
        rw [Option.map_eq_some_iff] at h
        obtain ⟨k, hk, rfl⟩ := h
        have h1 := act_le f _ _ _ hk
        have h2 := quoted_le z r m hq
        rw [List.length_drop] at h1
        simp; omega
    · generalize ostep z o = o' at h
      by_cases h0 : 0 < o'
      · rw [if_pos h0, Option.map_eq_some_iff] at h
        obtain ⟨k, hk, rfl⟩ := h
        have h1 := act_le f _ _ _ hk
        simp; omega
      · rw [if_neg h0] at h
        injection h with h
        subst h; simp

/-- What a piece is, where nothing is wrong. -/
def Fine (l : List Int) (x : P3) : Prop := (x.2.2 = 0 → 1 ≤ x.2.1 ∧ x.2.1 ≤ l.length ∧ (x.1 = 1 → isName (l.take x.2.1) = true) ∧ (x.1 = 2 → isLit (l.take x.2.1) = true)) ∧ 0 ≤ x.1 ∧ x.1 ≤ 12 ∧ 0 ≤ x.2.2 ∧ x.2.2 ≤ 5 ∧ x.2.1 ≤ l.length
theorem fine_bad (l : List Int) (e : Int) (h : 1 ≤ e) (h2 : e ≤ 5) : Fine l (0, 0, e) := by
  refine ⟨fun h' => ?_, by omega, by omega, by simp; omega, by simpa using h2, by simp⟩
  simp at h'; omega
theorem fine_plain (l : List Int) (k : Int) (n : Nat) (h1 : 1 ≤ n) (h2 : n ≤ l.length) (h3 : k ≠ 1) (h4 : k ≠ 2) (h5 : 0 ≤ k) (h6 : k ≤ 12) : Fine l (k, n, 0) :=
  ⟨fun _ => ⟨h1, h2, fun h => absurd h h3, fun h => absurd h h4⟩, h5, h6, by simp, by simp, h2⟩
theorem skip_fine (l m : List Int) (f : Nat) (s : List Int) (hm : m.length ≤ l.length) (hf : f ≤ m.length) (hs : 1 ≤ s.length) : Fine l (skip m f s) := by
  unfold skip
  have h1 := ix_ge (m.drop f) s
  have h2 := ix_room (m.drop f) s
  rw [List.length_drop] at h2
  split
  · exact fine_bad _ _ (by omega) (by omega)
  · exact fine_plain _ _ _ (by omega) (by omega) (by omega) (by omega) (by omega) (by omega)
theorem line_pos (l : List Int) (h : 0 < l.length) (hb : K.Bytes l) (hz : l.getD 0 0 ≠ 10) : 1 ≤ (line l).length := by
  unfold line
  have hr := ix_room l [10]
  split
  · rename_i h0
    have := hr h0
    rw [List.length_take]
    have hne : ix l [10] ≠ 0 := by
      intro he
      cases l with
      | nil => simp at h
      | cons z r =>
        have hz' : z ≠ 10 := by simpa using hz
        have hb' := hb.hd
        unfold ix at he
        simp only [Lib.bytesOf, List.map_cons, List.map_nil] at he
        unfold Lib.index at he
        have hne : ([UInt8.ofNat (10 : Int).toNat].isPrefixOf (UInt8.ofNat z.toNat :: List.map (fun n => UInt8.ofNat n.toNat) r)) = false := by
          simp only [List.isPrefixOf, Bool.and_true]
          rw [beq_eq_false_iff_ne]
          intro e
          have := congrArg UInt8.toNat e
          simp at this
          omega
        rw [hne] at he
        simp at he
        split at he
        · cases he
        · have := Lib.index_ge (List.map (fun n => UInt8.ofNat n.toNat) r) [10]
          omega
    omega
  · omega
theorem wkind_bd (l : List Int) : 0 ≤ wkind l ∧ wkind l ≤ 8 ∧ (wkind l ≠ 0 → 3 ≤ wkind l) := by
  unfold wkind
  repeat' split
  all_goals omega
theorem psize_le (l : List Int) (h : 0 < l.length) : psize l ≤ l.length := by
  unfold psize
  have := run_le small (l.drop 1)
  rw [List.length_drop] at this
  omega
theorem piece_fine (l : List Int) (h : 0 < l.length) (hb : K.Bytes l) : Fine l (piece l) := by
  unfold piece
  simp only
  have hlp := line_pos l h hb
  have hll := line_le l
  split
  · exact fine_plain _ _ _ (by omega) (by omega) (by omega) (by omega) (by omega) (by omega)
  split
  · rename_i hz
    unfold comment
    split
    · rename_i hp
      have := pre_len _ _ hp
      exact skip_fine l l 2 _ (by omega) (by simpa using this) (by simp)
    split
    · exact fine_plain _ _ _ (hlp (by omega)) hll (by omega) (by omega) (by omega) (by omega)
    · exact fine_bad _ _ (by omega) (by omega)
  split
  · exact skip_fine l _ 1 _ hll (hlp (by omega)) (by simp)
  split
  · unfold action
    split
    · exact fine_bad _ _ (by omega) (by omega)
    · rename_i n hn
      have := act_le _ _ _ _ hn
      exact fine_plain _ _ _ this.1 this.2 (by omega) (by omega) (by omega) (by omega)
  split
  · unfold percent
    have hw := wkind_bd ((l.take (psize l)).drop 1)
    split
    · rename_i hp
      have := pre_len _ _ hp
      exact fine_plain _ _ _ (by omega) (by simpa using this) (by omega) (by omega) (by omega) (by omega)
    split
    · rename_i hp
      have := pre_len _ _ hp
      exact skip_fine l l 2 _ (by omega) (by simpa using this) (by simp)
    split
    · exact fine_bad _ _ (by omega) (by omega)
    · rename_i hk
      have h3 := hw.2.2 hk
      exact fine_plain _ _ _ (by unfold psize; omega) (psize_le l h) (by omega) (by omega) (by omega) (by omega)
  split
  · unfold literal
    split
    · rename_i hk
      have hln := isLit_len hk
      rw [List.length_take] at hln
      exact ⟨fun _ => ⟨by simp, by simp; omega, fun h => by simp at h, fun _ => hk⟩, by simp, by simp, by simp, by simp, by simp; omega⟩
    split
    · rename_i h3 hk
      have hln := isLit_len hk
      rw [List.length_take] at hln
      have h4 : 4 ≤ l.length := by
        rcases Nat.lt_or_ge l.length 4 with h5 | h5
        · have e1 : l.take 4 = l := List.take_of_length_le (by omega)
          have e2 : l.take 3 = l := List.take_of_length_le (by omega)
          rw [e1] at hk; rw [e2] at h3
          exact absurd hk h3
        · exact h5
      exact ⟨fun _ => ⟨by simp, by simp; omega, fun h => by simp at h, fun _ => hk⟩, by simp, by simp, by simp, by simp, by simp; omega⟩
    split
    · exact fine_bad _ _ (by omega) (by omega)
    · exact fine_bad _ _ (by omega) (by omega)
  split
  · exact fine_plain _ _ _ (by omega) (by omega) (by omega) (by omega) (by omega) (by omega)
  split
  · exact fine_plain _ _ _ (by omega) (by omega) (by omega) (by omega) (by omega) (by omega)
  split
  · exact fine_plain _ _ _ (by omega) (by omega) (by omega) (by omega) (by omega) (by omega)
  · unfold name
    have hn := nsize_le l
    split
    · exact fine_bad _ _ (by omega) (by omega)
    split
    · exact fine_bad _ _ (by omega) (by omega)
    · rename_i h1 h2
      refine ⟨fun _ => ⟨by simp; omega, by simpa using hn, fun _ => ?_, fun h => by simp at h⟩, by simp, by simp, by simp, by simp, by simpa using hn⟩
      simp only
      unfold isName
      have e : min (nsize l) l.length = nsize l := by omega
      rw [nsize_take l _ (Nat.le_refl _), List.length_take, e]
      simp only [Bool.and_eq_true, decide_eq_true_eq]
      exact ⟨by omega, by omega, trivial⟩
end T
end Go.Proofs.YtoehbkgdodogkaaGreat
