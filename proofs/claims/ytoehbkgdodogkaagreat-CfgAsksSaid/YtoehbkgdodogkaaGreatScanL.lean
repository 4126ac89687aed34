/- Pure: what the tokens of a text are: they stand in it, one behind the other. -/
import Derived.Test.YtoehbkgdodogkaaGreatLexScan
namespace Go.Proofs.YtoehbkgdodogkaaGreat
set_option maxRecDepth 100000

/-- A token stands in the text, and is a name, or a literal, just if its kind says so. -/
structure Stands (L : List Int) (x : Tok) : Prop where
  o : x.o < L.length
  len : x.t.length ≤ L.length - x.o
  text : (L.drop x.o).take x.t.length = x.t
  name : (x.k == 1) = T.isName x.t
  lit : (x.k == 2) = T.isLit x.t
  bytes : K.Bytes x.t

theorem stands_new (L : List Int) (hL : K.Bytes L) (k : Nat) (hk : k < L.length) (x : T.P3) (hf : T.Fine (L.drop k) x) (he : x.2.2 = 0) : Stands L ⟨x.1, ttext x.1 ((L.drop k).take x.2.1), k⟩ := by
  obtain ⟨xk, xn, xe⟩ := x
  obtain ⟨h1, _, _, _, _, _⟩ := hf
  obtain ⟨h2, h3, h4, h5⟩ := h1 he
  simp only at h2 h3 h4 h5
  rw [List.length_drop] at h3
  have hlen : ((L.drop k).take xn).length = xn := by rw [List.length_take, List.length_drop]; omega
  by_cases hk1 : xk = 1
  · subst hk1
    have hn := h4 rfl
    have e : ttext 1 ((L.drop k).take xn) = (L.drop k).take xn := by simp [ttext]
    refine ⟨hk, ?_, ?_, ?_, ?_, ?_⟩
    · simp only; rw [e, hlen]; exact h3
    · simp only; rw [e, hlen]
    · simp only; rw [e, hn]; rfl
    · simp only; rw [e, T.name_lit _ hn]; rfl
    · simp only; rw [e]; exact (hL.drop k).take xn
  · by_cases hk2 : xk = 2
    · subst hk2
      have hn := h5 rfl
      have e : ttext 2 ((L.drop k).take xn) = (L.drop k).take xn := by simp [ttext]
      have hnn : T.isName ((L.drop k).take xn) = false := by
        rcases hq : T.isName ((L.drop k).take xn) with _ | _
        · rfl
        · have := T.name_lit _ hq; rw [hn] at this; cases this
      refine ⟨hk, ?_, ?_, ?_, ?_, ?_⟩
      · simp only; rw [e, hlen]; exact h3
      · simp only; rw [e, hlen]
      · simp only; rw [e, hnn]; rfl
      · simp only; rw [e, hn]; rfl
      · simp only; rw [e]; exact (hL.drop k).take xn
    · have e : ttext xk ((L.drop k).take xn) = [] := by unfold ttext; rw [if_neg (by omega)]
      refine ⟨hk, ?_, ?_, ?_, ?_, ?_⟩
      · simp only; rw [e]; simp
      · simp only; rw [e]; simp
      · simp only; rw [e, beq_eq_false_iff_ne.2 hk1]; rfl
      · simp only; rw [e, beq_eq_false_iff_ne.2 hk2]; rfl
      · simp only; rw [e]; exact K.Bytes.nil

/-- Tokens up to a place: each stands, ahead of it; they rise. -/
def Rise (L : List Int) (k : Nat) (xs : List Tok) : Prop := (∀ x ∈ xs, Stands L x ∧ x.o < k) ∧ xs.Pairwise (fun a b => a.o < b.o)

theorem scan_rise (L : List Int) (hL : K.Bytes L) : ∀ (f k m : Nat) (acc xs : List Tok), k ≤ L.length → Rise L k acc → scan f (L.drop k) k m acc = .ok xs → Rise L L.length xs
  | 0, k, m, acc, xs, hk, hr, h => by
    injection h with h
    subst h
    exact ⟨fun x hx => ⟨(hr.1 x hx).1, (hr.1 x hx).1.o⟩, hr.2⟩
  | f + 1, k, m, acc, xs, hk, hr, h => by
    by_cases he : (L.drop k).length = 0 ∨ m = 2
    · rw [scan_end _ _ _ _ _ he] at h
      injection h with h
      subst h
      exact ⟨fun x hx => ⟨(hr.1 x hx).1, (hr.1 x hx).1.o⟩, hr.2⟩
    · have hlt : k < L.length := by rw [List.length_drop] at he; omega
      have hf := T.piece_fine (L.drop k) (by rw [List.length_drop]; omega) (hL.drop k)
      by_cases hb : (T.piece (L.drop k)).2.2 = 0
      · rw [scan_on _ _ _ _ _ he hb] at h
        obtain ⟨hn1, hn2, _, _⟩ := hf.1 hb
        rw [List.length_drop] at hn2
        rw [List.drop_drop] at h
        refine scan_rise L hL f _ _ _ xs (by omega) ?_ h
        unfold more
        split
        · exact ⟨fun x hx => ⟨(hr.1 x hx).1, by have := (hr.1 x hx).2; omega⟩, hr.2⟩
        · refine ⟨fun x hx => ?_, ?_⟩
          · rcases List.mem_append.1 hx with h1 | h1
            · exact ⟨(hr.1 x h1).1, by have := (hr.1 x h1).2; omega⟩
            · rw [List.mem_singleton] at h1
              subst h1
              exact ⟨stands_new L hL k hlt _ hf hb, by simp only; omega⟩
          · rw [List.pairwise_append]
            refine ⟨hr.2, List.pairwise_singleton _ _, fun a ha b hb' => ?_⟩
            rw [List.mem_singleton] at hb'
            subst hb'
            exact (hr.1 a ha).2
      · rw [scan_bad _ _ _ _ _ he hb] at h
        cases h

theorem toks_rise (L : List Int) (hL : K.Bytes L) (xs : List Tok) (h : toks L = .ok xs) : Rise L L.length xs :=
  scan_rise L hL _ 0 0 [] xs (Nat.zero_le _) ⟨fun x hx => by simp at hx, List.Pairwise.nil⟩ (by simpa [toks] using h)
theorem scan_ne : ∀ (f : Nat) (l : List Int) (k m : Nat) (acc : List Tok) (o : Nat) (d : Int), scan f l k m acc = .bad o d → d ≠ 0
  | 0, _, _, _, _, _, _, h => by cases h
  | f + 1, l, k, m, acc, o, d, h => by
    by_cases he : l.length = 0 ∨ m = 2
    · rw [scan_end _ _ _ _ _ he] at h; cases h
    · by_cases hb : (T.piece l).2.2 = 0
      · rw [scan_on _ _ _ _ _ he hb] at h; exact scan_ne f _ _ _ _ _ _ h
      · rw [scan_bad _ _ _ _ _ he hb] at h
        injection h with _ h
        exact h ▸ hb
theorem toks_ne (L : List Int) (o : Nat) (d : Int) (h : toks L = .bad o d) : d ≠ 0 := scan_ne _ _ _ _ _ _ _ h
theorem Rise.lt {L : List Int} {k : Nat} {xs : List Tok} (h : Rise L k xs) (i j : Nat) (hij : i < j) (hj : j < xs.length) : xs[i].o < xs[j].o :=
  List.pairwise_iff_getElem.1 h.2 i j (by omega) hj hij
theorem Rise.at {L : List Int} {k : Nat} {xs : List Tok} (h : Rise L k xs) (i : Nat) (hi : i < xs.length) : Stands L xs[i] := (h.1 _ (List.getElem_mem hi)).1
theorem Rise.ge {L : List Int} {k : Nat} {xs : List Tok} (h : Rise L k xs) : ∀ (i : Nat) (hi : i < xs.length), i ≤ xs[i].o
  | 0, _ => Nat.zero_le _
  | i + 1, hi => by
    have h1 := h.ge i (by omega)
    have h2 := h.lt i (i + 1) (by omega) hi
    omega
theorem Rise.count {L : List Int} {k : Nat} {xs : List Tok} (h : Rise L k xs) : xs.length ≤ L.length := by
  rcases Nat.eq_zero_or_pos xs.length with h0 | h0
  · omega
  · have h1 := h.ge (xs.length - 1) (by omega)
    have h2 := (h.at (xs.length - 1) (by omega)).o
    omega
end Go.Proofs.YtoehbkgdodogkaaGreat
