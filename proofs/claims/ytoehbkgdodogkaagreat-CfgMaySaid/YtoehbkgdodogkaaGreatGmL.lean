/- Pure words for grammars: what may be, what symbols and names are. -/
import Derived.Test.YtoehbkgdodogkaaGreatGramL
import Derived.Test.YtoehbkgdodogkaaGreatLexL
namespace Go.Proofs.YtoehbkgdodogkaaGreat
set_option maxRecDepth 100000

namespace Gm
/-- The place of a text among others, from 0 on; -1: it is none of them. -/
def find : List (List Int) → List Int → Int
  | [], _ => -1
  | x :: r, s => if x = s then 0 else if find r s < 0 then -1 else find r s + 1
theorem find_ge (l : List (List Int)) (s : List Int) : -1 ≤ find l s := by
  induction l with
  | nil => unfold find; omega
  | cons x r ih => unfold find; split; omega; split <;> omega
theorem find_lt (l : List (List Int)) (s : List Int) : find l s < l.length := by
  induction l with
  | nil => unfold find; simp
  | cons x r ih => unfold find; simp only [List.length_cons]; split; omega; split <;> omega
theorem find_none {l : List (List Int)} {s : List Int} : find l s < 0 ↔ s ∉ l := by
  induction l with
  | nil => unfold find; simp
  | cons x r ih =>
    unfold find
    by_cases hx : x = s
    · rw [if_pos hx]; simp [hx]
    · rw [if_neg hx]
      by_cases hr : find r s < 0
      · rw [if_pos hr]
        have := ih.1 hr
        simp only [List.mem_cons, not_or]
        exact ⟨fun _ => ⟨fun e => hx e.symm, this⟩, fun _ => by omega⟩
      · rw [if_neg hr]
        have : s ∈ r := Classical.byContradiction fun q => hr (ih.2 q)
        constructor
        · intro h; omega
        · intro h; exact absurd (List.mem_cons_of_mem _ this) h
theorem find_some {l : List (List Int)} {s : List Int} (h : 0 ≤ find l s) : ∃ i : Nat, find l s = (i : Int) ∧ ∃ hi : i < l.length, l[i] = s := by
  induction l with
  | nil => unfold find at h; omega
  | cons x r ih =>
    unfold find at h ⊢
    by_cases hx : x = s
    · rw [if_pos hx]; exact ⟨0, rfl, by simp, hx⟩
    · rw [if_neg hx] at h ⊢
      by_cases hr : find r s < 0
      · rw [if_pos hr] at h; omega
      · rw [if_neg hr]
        obtain ⟨i, h1, h2, h3⟩ := ih (by omega)
        exact ⟨i + 1, by rw [h1]; rfl, by simp; omega, by simpa using h3⟩
/-- The first place where a text stands is the one that is found. -/
theorem find_first {l : List (List Int)} {s : List Int} (i : Nat) (hi : i < l.length) (hs : l[i] = s) (hb : ∀ k (hk : k < i), l[k]'(by omega) ≠ s) : find l s = (i : Int) := by
  induction l generalizing i with
  | nil => simp at hi
  | cons x r ih =>
    unfold find
    cases i with
    | zero => rw [if_pos (by simpa using hs)]; rfl
    | succ i =>
      rw [if_neg (by simpa using hb 0 (by omega))]
      have := ih i (by simpa using hi) (by simpa using hs) (fun k hk => by simpa using hb (k + 1) (by omega))
      rw [this, if_neg (by omega)]
      rfl
theorem find_not {l : List (List Int)} {s : List Int} (hb : ∀ k (hk : k < l.length), l[k] ≠ s) : find l s = -1 := by
  have h1 : find l s < 0 := find_none.2 fun hm => by
    obtain ⟨k, hk, e⟩ := List.getElem_of_mem hm
    exact hb k hk e
  have := find_ge l s
  omega
theorem find_app {l m : List (List Int)} {s : List Int} (h : 0 ≤ find l s) : find (l ++ m) s = find l s := by
  induction l with
  | nil => unfold find at h; omega
  | cons x r ih =>
    rw [List.cons_append, find, find] at *
    by_cases hx : x = s
    · rw [if_pos hx, if_pos hx]
    · rw [if_neg hx] at h ⊢
      rw [if_neg hx]
      by_cases hr : find r s < 0
      · rw [if_pos hr] at h; omega
      · rw [ih (by omega)]
theorem find_snoc {l : List (List Int)} {s t : List Int} (h : find l s < 0) : find (l ++ [t]) s = if t = s then (l.length : Int) else -1 := by
  induction l with
  | nil => simp [find]
  | cons x r ih =>
    rw [List.cons_append, find]
    rw [find] at h
    by_cases hx : x = s
    · rw [if_pos hx] at h; omega
    · rw [if_neg hx] at h ⊢
      by_cases hr : find r s < 0
      · rw [ih hr]
        by_cases ht : t = s
        · simp only [if_pos ht, List.length_cons]; rw [if_neg (by omega)]; omega
        · simp only [if_neg ht]; rfl
      · rw [if_neg hr] at h; omega

def names (ts : List Tm) : List (List Int) := ts.map Tm.nm
def term (G : Gr) (s : List Int) : Int := find (names G.ts) s
def non (G : Gr) (s : List Int) : Int := find G.ns s
/-- Is there a symbol? -/
def has (G : Gr) (z : Int) : Bool := if 0 ≤ z then decide (z < G.ts.length) else decide (-1 - z < G.ns.length)
/-- A symbol's name. -/
def name (G : Gr) (z : Int) : List Int := if has G z then (if 0 ≤ z then (names G.ts).getD z.toNat [] else G.ns.getD (-1 - z).toNat []) else []
/-- A name's symbol. -/
def look (G : Gr) (s : List Int) : Int × Bool := if 0 ≤ term G s then (term G s, true) else if 0 ≤ non G s then (-1 - non G s, true) else (0, false)
def named (s : List Int) : Bool := T.isName s || T.isLit s
/-- Has a level a terminal, and all of it one way to associate? -/
def lev (n : Int) : List Tm → Int → Bool
  | [], way => way != 0
  | t :: r, way => if t.lv ≠ n then lev n r way else if way ≠ 0 ∧ way ≠ t.wy then false else lev n r t.wy
def term1 (ts : List Tm) (i : Nat) (t : Tm) : Bool := named t.nm && (find (names ts) t.nm == (i : Int)) && decide (0 ≤ t.lv) && decide (t.lv ≤ 24) && decide (0 ≤ t.wy) && decide (t.wy ≤ 3) && ((t.lv == 0) == (t.wy == 0)) && decide (∀ n, n < t.lv.toNat → lev ((n + 1 : Nat) : Int) ts 0 = true)
def terms (ts : List Tm) : Bool := decide (ts.length ≤ 24) && decide (∀ i (h : i < ts.length), term1 ts i ts[i] = true)
def non1 (G : Gr) (i : Nat) (s : List Int) : Bool := T.isName s && (non G s == (i : Int)) && decide (term G s < 0)
def nons (G : Gr) : Bool := decide (1 ≤ G.ns.length) && decide (G.ns.length ≤ 16) && decide (∀ i (h : i < G.ns.length), non1 G i G.ns[i] = true)
def rule (G : Gr) (r : Rl) : Bool := decide (r.r.length ≤ 6) && decide (-1 ≤ r.p) && decide (r.p < G.ts.length) && r.r.all fun z => has G z && !(decide (0 ≤ z) && r.p == -1)
/-- May rules be, behind ones whose greatest Left is top? -/
def rules (G : Gr) : List Rl → Int → Bool
  | [], top => top == G.ns.length - 1
  | r :: rs, top => if r.l < 0 ∨ top + 1 < r.l ∨ rule G r = false then false else rules G rs (if top < r.l then r.l else top)
/-- May a grammar be? -/
def right (G : Gr) : Bool := terms G.ts && nons G && decide (1 ≤ G.rs.length) && decide (G.rs.length ≤ 40) && decide (0 ≤ G.st) && decide (G.st < G.ns.length) && rules G G.rs (-1)
/-- More than is looked at? -/
def great (G : Gr) : Bool := decide (40 < G.ts.length) || decide (40 < G.ns.length) || decide (60 < G.rs.length) || G.rs.any fun r => decide (20 < r.r.length)
end Gm
end Go.Proofs.YtoehbkgdodogkaaGreat
