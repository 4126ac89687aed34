/- Pure words for reading a grammar's tokens: what is taken, what is left, where it goes wrong. -/
import Derived.Test.YtoehbkgdodogkaaGreatLexScan
namespace Go.Proofs.YtoehbkgdodogkaaGreat
set_option maxRecDepth 100000

namespace Y
/-- What is read, and what is left; or the token that can't stand there (none: there is no more). -/
inductive Res (α : Type) where
  | ok : α → List Tok → Res α
  | bad : Option Tok → Res α
def Res.bind {α β : Type} (r : Res α) (f : α → List Tok → Res β) : Res β := match r with | .ok a l => f a l | .bad p => .bad p
theorem bind_ok {α β : Type} (a : α) (l : List Tok) (f : α → List Tok → Res β) : (Res.ok a l).bind f = f a l := rfl
theorem bind_bad {α β : Type} (p : Option Tok) (f : α → List Tok → Res β) : (Res.bad p : Res α).bind f = .bad p := rfl
structure Dcl where
  k : Int
  ns : List Tok
structure Prd where
  l : Tok
  r : List Tok
  p : Option Tok

def is (ks : List Int) : List Tok → Bool
  | [] => false
  | t :: _ => ks.contains t.k
def take (ks : List Int) : List Tok → Res Tok
  | [] => .bad none
  | t :: r => if ks.contains t.k then .ok t r else .bad (some t)
def isRef (t : Tok) : Bool := [(1 : Int), 2].contains t.k
def decl (ts : List Tok) : Res Dcl := (take [3, 4, 5, 6, 7] ts).bind fun t r => if t.k = 7 then (take [1] r).bind fun n r => .ok ⟨7, [n]⟩ r else (take [1, 2] r).bind fun n r => .ok ⟨t.k, n :: r.takeWhile isRef⟩ (r.dropWhile isRef)
def decls : Nat → List Dcl → List Tok → Res (List Dcl)
  | 0, acc, ts => .ok acc ts
  | f + 1, acc, ts => if is [9] ts then .ok acc ts else (decl ts).bind fun d r => decls f (acc ++ [d]) r
def rule2 (left : Tok) (rs r : List Tok) : Res Prd := if is [8] r then (take [8] r).bind fun _ r => (take [1, 2] r).bind fun p r => .ok ⟨left, rs, some p⟩ r else .ok ⟨left, rs, none⟩ r
def rule (left : Tok) (ts : List Tok) : Res Prd := rule2 left (ts.takeWhile isRef) (ts.dropWhile isRef)
def alts : Nat → Tok → List Prd → List Tok → Res (List Prd)
  | 0, _, acc, ts => .ok acc ts
  | f + 1, left, acc, ts => (rule left ts).bind fun p r => (take [11, 12] r).bind fun t r => if t.k = 11 then alts f left (acc ++ [p]) r else .ok (acc ++ [p]) r
def group (acc : List Prd) (ts : List Tok) : Res (List Prd) := (take [1] ts).bind fun left r => (take [10] r).bind fun _ r => alts (r.length + 1) left acc r
def groups : Nat → List Prd → List Tok → Res (List Prd)
  | 0, acc, ts => .ok acc ts
  | f + 1, acc, ts => if ts.length ≠ 0 ∧ is [9] ts = false then (group acc ts).bind fun ps r => groups f ps r else .ok acc ts
def tail2 (ts : List Tok) : Res Unit := if ts.length = 0 then .ok () ts else (take [] ts).bind fun _ r => .ok () r
def tail (ts : List Tok) : Res Unit := if is [9] ts then (take [9] ts).bind fun _ r => tail2 r else tail2 ts
def source (ts : List Tok) : Res (List Dcl × List Prd) := (decls (ts.length + 1) [] ts).bind fun ds r => (take [9] r).bind fun _ r => (group [] r).bind fun ps r => (groups (r.length + 1) ps r).bind fun ps r => (tail r).bind fun _ r => .ok (ds, ps) r

theorem take_cons (ks : List Int) (x : Tok) (xs : List Tok) : take ks (x :: xs) = if ks.contains x.k then .ok x xs else .bad (some x) := rfl
/-- What is left is a part of what there was. -/
theorem take_ok {ks : List Int} {ts : List Tok} {t : Tok} {r : List Tok} (h : take ks ts = .ok t r) : ts = t :: r ∧ ks.contains t.k = true := by
  cases ts with
  | nil => cases h
  | cons x xs =>
    rw [take_cons] at h
    by_cases hx : ks.contains x.k = true
    · rw [if_pos hx] at h; injection h with h1 h2; subst h1 h2; exact ⟨rfl, hx⟩
    · rw [if_neg hx] at h; cases h
theorem is_true {ks : List Int} {ts : List Tok} (h : is ks ts = true) : ∃ t r, ts = t :: r ∧ take ks ts = .ok t r ∧ ks.contains t.k = true := by
  cases ts with
  | nil => cases h
  | cons x xs => exact ⟨x, xs, rfl, by rw [take_cons, if_pos (show ks.contains x.k = true from h)], h⟩
theorem refs_end {ts : List Tok} (h : is [1, 2] ts = false) : ts.takeWhile isRef = [] ∧ ts.dropWhile isRef = ts := by
  cases ts with
  | nil => exact ⟨rfl, rfl⟩
  | cons t r =>
    have h' : isRef t = false := h
    rw [List.takeWhile_cons, List.dropWhile_cons, h']
    exact ⟨rfl, rfl⟩
theorem bind_eq_ok {α β : Type} {x : Res α} {f : α → List Tok → Res β} {b : β} {r : List Tok} (h : x.bind f = .ok b r) : ∃ a m, x = .ok a m ∧ f a m = .ok b r := by
  cases x with
  | ok a m => exact ⟨a, m, rfl, h⟩
  | bad p => cases h

/-- The references of what is read, in order. -/
def Dcl.refs (d : Dcl) : List Tok := d.ns
def Prd.refs (p : Prd) : List Tok := p.r ++ p.p.toList
/-- Those of rules: the left one once for all that follow each other. -/
def prefs : Option Nat → List Prd → List Tok
  | _, [] => []
  | q, p :: ps => (if q = some p.l.o then [] else [p.l]) ++ p.refs ++ prefs (some p.l.o) ps
def listed (ds : List Dcl) (ps : List Prd) : List Tok := ds.flatMap Dcl.refs ++ prefs none ps
end Y
end Go.Proofs.YtoehbkgdodogkaaGreat
