/- Pure words: a text's tokens, piece by piece; and slices of tokens of the call's own, over this program. -/
import Derived.Test.YtoehbkgdodogkaaGreatLexTok
namespace Go.Proofs.YtoehbkgdodogkaaGreat
set_option maxRecDepth 100000
open Go.RowKit

/-- A token: its kind, its text, the byte where it begins. -/
structure Tok where
  k : Int
  t : List Int
  o : Nat
/-- What is told of a text: its tokens, or the byte where something is wrong, and what. -/
inductive Out where
  | ok : List Tok → Out
  | bad : Nat → Int → Out
/-- One token more, if it isn't skipped. -/
def more (acc : List Tok) (k : Nat) (x : T.P3) (l : List Int) : List Tok := if x.1 = 0 then acc else acc ++ [⟨x.1, ttext x.1 (l.take x.2.1), k⟩]
def marksOn (m : Nat) (x : T.P3) : Nat := if x.1 = 9 then m + 1 else m
def scan : Nat → List Int → Nat → Nat → List Tok → Out
  | 0, _, _, _, acc => .ok acc
  | f + 1, l, k, m, acc => if l.length = 0 ∨ m = 2 then .ok acc else if (T.piece l).2.2 ≠ 0 then .bad k (T.piece l).2.2 else scan f (l.drop (T.piece l).2.1) (k + (T.piece l).2.1) (marksOn m (T.piece l)) (more acc k (T.piece l) l)
theorem scan_end (f : Nat) (l : List Int) (k m : Nat) (acc : List Tok) (h : l.length = 0 ∨ m = 2) : scan f l k m acc = .ok acc := by
  cases f with
  | zero => rfl
  | succ f => unfold scan; rw [if_pos h]
theorem scan_bad (f : Nat) (l : List Int) (k m : Nat) (acc : List Tok) (h : ¬ (l.length = 0 ∨ m = 2)) (hb : (T.piece l).2.2 ≠ 0) : scan (f + 1) l k m acc = .bad k (T.piece l).2.2 := by
  rw [scan, if_neg h, if_pos hb]
theorem scan_on (f : Nat) (l : List Int) (k m : Nat) (acc : List Tok) (h : ¬ (l.length = 0 ∨ m = 2)) (hb : (T.piece l).2.2 = 0) : scan (f + 1) l k m acc = scan f (l.drop (T.piece l).2.1) (k + (T.piece l).2.1) (marksOn m (T.piece l)) (more acc k (T.piece l) l) := by
  rw [scan, if_neg h, if_neg (by simpa using hb)]
/-- The tokens of a text. -/
def toks (l : List Int) : Out := scan (l.length + 1) l 0 0 []

/-- A token's cells; the text gives the place. -/
def tcells (L : List Int) (x : Tok) : List Value := [.int .i64 x.k, .string (K.str x.t), .complex .f64 (Fl.fl (Pl.pos (L.take x.o)).1) (Fl.fl (Pl.pos (L.take x.o)).2)]
theorem tcells_len (L : List Int) (xs : List Tok) : (xs.flatMap (tcells L)).length = xs.length * 3 := by
  induction xs with
  | nil => rfl
  | cons x r ih => simp [List.flatMap_cons, ih, tcells]; omega
theorem tcells_at (L : List Int) (xs : List Tok) (i j : Nat) (hi : i < xs.length) (hj : j < 3) : (xs.flatMap (tcells L))[i * 3 + j]? = (tcells L xs[i])[j]? := by
  induction xs generalizing i with
  | nil => simp at hi
  | cons x r ih =>
    rw [List.flatMap_cons]
    have hl : (tcells L x).length = 3 := rfl
    cases i with
    | zero => rw [List.getElem?_append_left (by omega)]; simp
    | succ i =>
      rw [List.getElem?_append_right (by omega), hl, show (i + 1) * 3 + j - 3 = i * 3 + j by omega]
      simpa using ih i (by simpa using hi)

/-- A slice of the call's own with these tokens, nil or not. -/
def OwnT (L : List Int) (w : World) (base : Nat) (v : Value) (xs : List Tok) : Prop := w.ownsRow base 89 3 v xs.length (xs.flatMap (tcells L))
theorem OwnT.nil (L : List Int) (w : World) (base : Nat) : OwnT L w base (.slice none 0 0) [] := World.ownsRow_nil w base _ _
theorem OwnT.alloc {L : List Int} {w : World} {base : Nat} {v : Value} {xs : List Tok} (h : OwnT L w base v xs) (o : Obj) : OwnT L (w.alloc o) base v xs := World.ownsRow.alloc h o
theorem OwnT.drewN {L : List Int} {w : World} {base : Nat} {v : Value} {xs : List Tok} (h : OwnT L w base v xs) (n : Nat) : OwnT L (w.drewN n) base v xs := h
theorem OwnT.below {L : List Int} {w w' : World} {base B : Nat} {v : Value} {xs : List Tok} (h : OwnT L w base v xs) (hb : Below B w w') (hB : w.heap.size ≤ B) : OwnT L w' base v xs := by
  refine ⟨h.1, ?_⟩
  rcases h.2 with h0 | ⟨g, cap, cur, e, hb1, hg, hr⟩
  · exact .inl h0
  · exact .inr ⟨g, cap, cur, e, hb1, (hb.block g (Nat.lt_of_lt_of_le (Array.getElem?_eq_some_iff.1 hg).1 hB)).trans hg, hr⟩
theorem OwnT.form {L : List Int} {w : World} {base : Nat} {v : Value} {xs : List Tok} (h : OwnT L w base v xs) : ∃ A c, v = .slice A xs.length c ∧ xs.length ≤ c ∧ c ≤ maxLen := by
  rcases h.2 with ⟨rfl, h0⟩ | ⟨g, cap, cur, rfl, hb, hg, hn, hm, hs, ht⟩
  · exact ⟨none, 0, by rw [h0], by omega, by unfold maxLen; omega⟩
  · exact ⟨_, cap, rfl, hn, hm⟩
/-- A slice of the call's own that is not empty: where it lies; its cells are read one by one. -/
theorem OwnT.addr {L : List Int} {w : World} {base : Nat} {v : Value} {xs : List Tok} (h : OwnT L w base v xs) (h0 : xs.length ≠ 0) : ∃ g c, v = .slice (some ⟨g, 0, none⟩) xs.length c ∧ xs.length ≤ c ∧ c ≤ maxLen ∧ base ≤ g ∧ g < w.heap.size ∧
    ∀ i j u, i < xs.length → j < 3 → (xs[i]?.map (tcells L)).bind (·[j]?) = some u → w.cell? ⟨g, i * 3 + j, none⟩ = some u := by
  rcases h.2 with ⟨_, h1⟩ | ⟨g, cap, cur, rfl, hb, hg, hn, hm, hs, ht⟩
  · exact absurd h1 h0
  · refine ⟨g, cap, rfl, hn, hm, hb, (Array.getElem?_eq_some_iff.1 hg).1, fun i j u hi hj hu => ?_⟩
    have hx : xs[i]? = some xs[i] := List.getElem?_eq_getElem hi
    rw [hx] at hu
    have hc := World.ownsRow.cells h (g := g) rfl (i * 3 + j) u (by rw [tcells_at L xs i j hi hj]; exact hu)
    rw [Go.WideShapes.add_plain, Nat.zero_add] at hc
    exact hc
theorem below_grownT {L : List Int} {B : Nat} {a w w' : World} {v : Value} {xs : List Tok} (h : Below B a w) (ho : OwnT L w B v xs) (hg : w.grownBy w' v.ownBlock) (hs : B ≤ w.heap.size) : Below B a w' :=
  h.grown hg hs (fun k e => (World.ownsRow.lt ho k e).1)

/-- append of one token, which lies in a block of its own, to a slice of the call's own. -/
theorem apT_arm {w : World} {ops : Array Oper} {rest : List Oper} {o : Oper} {a : Act} {Q : Exit → Act → World → Prop}
    (hgd : o.guard = none) (s x : Operand) (t : TypeId) (ho : o.op = .call { callee := .builtin .append, args := #[s, x], argTypes := #[t, t] }) (ht : Tryz.prog.underlying t = some (.slice 89))
    (L : List Int) (base : Nat) (v : Value) (xs : List Tok) (hs : a.eval s = v) (hown : OwnT L w base v xs) (g c : Nat) (y : Tok) (hx : a.eval x = .slice (some ⟨g, 0, none⟩) 1 c) (hz : ∀ j u, (tcells L y)[j]? = some u → w.cell? ⟨g, j, none⟩ = some u)
    (hlen : xs.length ≤ 1000000) (hbase : base ≤ w.heap.size)
    (hK : ∀ v' w', OwnT L w' base v' (xs ++ [y]) → w.grownBy w' v.ownBlock → wpList Tryz.prog ops Q rest (a.put o.dst v') w') :
    wpList Tryz.prog ops Q (o :: rest) a w := by
  obtain ⟨i, hi, hz0, hz1, hz2⟩ := info_parts infoT
  refine wpList_append_own w hgd s x t ho base 89 i _ 3 40 ht hi hz0 hz1 hz2 rfl (by decide) v xs.length (xs.flatMap (tcells L)) hs hown ⟨g, 0, none⟩ 1 c (tcells L y) hx rfl ?_ ?_ (by unfold maxLen; omega) (by omega) hbase fun v' w' h1 h2 _ => hK v' w' ?_ h2
  · intro j u hj
    rw [Go.WideShapes.add_plain, Nat.zero_add]
    exact hz j u hj
  · intro u hu; simp [tcells] at hu; rcases hu with rfl | rfl | rfl <;> rfl
  · unfold OwnT
    rw [List.length_append, List.flatMap_append, List.flatMap_singleton]; exact h1
end Go.Proofs.YtoehbkgdodogkaaGreat
