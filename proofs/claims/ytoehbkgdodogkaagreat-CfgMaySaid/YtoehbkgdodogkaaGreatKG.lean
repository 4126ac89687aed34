/- Words for memory over this program: slices of terminals, names and rules of the call's own; what a builder of a grammar is; what its calls leave as it was. -/
import Derived.Test.YtoehbkgdodogkaaGreatKE
import Derived.Test.YtoehbkgdodogkaaGreatKA
import Derived.Test.YtoehbkgdodogkaaGreatYaccP
import Derived.Test.YtoehbkgdodogkaaGreatYaccList
namespace Go.Proofs.YtoehbkgdodogkaaGreat
set_option maxRecDepth 100000
open Go.RowKit

/-! ### slices of the call's own -/
def tmC (t : Gm.Tm) : List Value := [.string (K.str t.nm), .int .i64 t.lv, .int .i64 t.wy]
def tmsC (ts : List Gm.Tm) : List Value := ts.flatMap tmC
def nmsC (ns : List (List Int)) : List Value := ns.map fun s => .string (K.str s)
abbrev RA := Gm.Rl × Option Addr × Nat
def rlC (q : RA) : List Value := [.int .i64 q.1.l, .slice q.2.1 q.1.r.length q.2.2, .int .i64 q.1.p]
def rlsC (qs : List RA) : List Value := qs.flatMap rlC
theorem three_at {α : Type} (f : α → List Value) (hf : ∀ x, (f x).length = 3) (xs : List α) (i j : Nat) (hi : i < xs.length) (hj : j < 3) : (xs.flatMap f)[i * 3 + j]? = (f xs[i])[j]? := by
  induction xs generalizing i with
  | nil => simp at hi
  | cons x r ih =>
    rw [List.flatMap_cons]
    have hl := hf x
    cases i with
    | zero => rw [List.getElem?_append_left (by omega)]; simp
    | succ i =>
      rw [List.getElem?_append_right (by omega), hl, show (i + 1) * 3 + j - 3 = i * 3 + j by omega]
      simpa using ih i (by simpa using hi)
theorem three_len {α : Type} (f : α → List Value) (hf : ∀ x, (f x).length = 3) (xs : List α) : (xs.flatMap f).length = xs.length * 3 := by
  induction xs with
  | nil => rfl
  | cons x r ih => rw [List.flatMap_cons, List.length_append, ih, hf, List.length_cons]; omega
def OwnTm (w : World) (base : Nat) (v : Value) (ts : List Gm.Tm) : Prop := w.ownsRow base 45 3 v ts.length (tmsC ts)
def OwnN (w : World) (base : Nat) (v : Value) (ns : List (List Int)) : Prop := w.ownsRow base 9 1 v ns.length (nmsC ns)
/-- Numbers in a block of their own, below block N. -/
def RowI (w : World) (base N : Nat) (A : Option Addr) (zs : List Int) : Prop :=
  zs.length ≠ 0 → ∃ (g : Nat) (cur : Array Value), A = some ⟨g, 0, none⟩ ∧ base ≤ g ∧ g < N ∧ w.heap[g]? = some (.cells cur 3 (0, 0)) ∧ ∀ j (h : j < zs.length), cur[j]? = some (.int .i64 zs[j])
def OwnRl (w : World) (base N : Nat) (v : Value) (rs : List Gm.Rl) : Prop :=
  ∃ qs : List RA, qs.map (·.1) = rs ∧ w.ownsRow base 43 3 v rs.length (rlsC qs) ∧ (∀ k, v.ownBlock = some k → k < N) ∧ ∀ q ∈ qs, q.1.r.length ≤ q.2.2 ∧ q.2.2 ≤ 9223372036854775807 ∧ RowI w base N q.2.1 q.1.r
theorem OwnTm.nil (w : World) (base : Nat) : OwnTm w base (.slice none 0 0) [] := World.ownsRow_nil w base _ _
theorem OwnN.nil (w : World) (base : Nat) : OwnN w base (.slice none 0 0) [] := World.ownsRow_nil w base _ _
theorem OwnRl.nil (w : World) (base N : Nat) : OwnRl w base N (.slice none 0 0) [] := ⟨[], rfl, World.ownsRow_nil w base _ _, (by intro k h; cases h), (by intro q h; cases h)⟩
theorem own_form {w : World} {base : Nat} {e : TypeId} {size n : Nat} {v : Value} {xs : List Value} (h : w.ownsRow base e size v n xs) : ∃ A c, v = .slice A n c ∧ n ≤ c ∧ c ≤ maxLen := by
  rcases h.2 with ⟨rfl, h0⟩ | ⟨g, cap, cur, rfl, hb, hg, hn, hm, hs, ht⟩
  · exact ⟨none, 0, by rw [h0], by omega, by unfold maxLen; omega⟩
  · exact ⟨_, cap, rfl, hn, hm⟩
theorem own_slice {w : World} {base : Nat} {e : TypeId} {size n : Nat} {v : Value} {xs : List Value} (h : w.ownsRow base e size v n xs) : ∃ A m c, v = .slice A m c := by
  obtain ⟨A, c, rfl, _⟩ := own_form h
  exact ⟨A, n, c, rfl⟩
/-- A slice of the call's own does not lie in a block of another kind. -/
theorem own_away {w : World} {base : Nat} {e : TypeId} {size n : Nat} {v : Value} {xs : List Value} (h : w.ownsRow base e size v n xs) {g : Nat} {o : Obj} (hg : w.heap[g]? = some o) (ho : ∀ cur, o ≠ .cells cur e (0, 0)) : v.ownBlock = none ∨ v.ownBlock ≠ some g := by
  rcases h.2 with ⟨rfl, _⟩ | ⟨g', cap, cur, rfl, _, hg', _⟩
  · exact .inl rfl
  · refine .inr fun e1 => ?_
    injection e1 with e1
    have e1 : g' = g := e1
    subst e1
    rw [hg] at hg'
    injection hg' with hg'
    exact ho _ hg'
theorem own_holds {w : World} {base : Nat} {e : TypeId} {size n : Nat} {v : Value} {xs : List Value} (h : w.ownsRow base e size v n xs) {k : Nat} (hk : v.ownBlock = some k) : base ≤ k ∧ ∃ cur, w.heap[k]? = some (.cells cur e (0, 0)) := by
  rcases h.2 with ⟨rfl, _⟩ | ⟨g', cap, cur, rfl, hb, hg', _⟩
  · cases hk
  · injection hk with hk
    have hk : g' = k := hk
    subst hk
    exact ⟨hb, cur, hg'⟩
theorem RowI.grown {w w' : World} {base N : Nat} {A : Option Addr} {zs : List Int} {row : Option Nat} (h : RowI w base N A zs) (hg : w.grownBy w' row) (hr : ∀ g, row = some g → (∀ cur, w.heap[g]? ≠ some (.cells cur 3 (0, 0))) ∨ N ≤ g) : RowI w' base N A zs := fun hn => by
  obtain ⟨g, cur, e, hb, hN, hh, hc⟩ := h hn
  refine ⟨g, cur, e, hb, hN, (hg.block g (Array.getElem?_eq_some_iff.1 hh).1 (fun e => ?_)).trans hh, hc⟩
  rcases hr g e.symm with q | q
  · exact q _ hh
  · omega
theorem RowI.more {w : World} {base N N' : Nat} {A : Option Addr} {zs : List Int} (h : RowI w base N A zs) (hN : N ≤ N') : RowI w base N' A zs := fun hn => by
  obtain ⟨g, cur, e, hb, h1, hh⟩ := h hn
  exact ⟨g, cur, e, hb, by omega, hh⟩
theorem OwnRl.grown {w w' : World} {base N : Nat} {v : Value} {rs : List Gm.Rl} {row : Option Nat} (h : OwnRl w base N v rs) (hg : w.grownBy w' row) (hr : ∀ g, row = some g → ((∀ cur, w.heap[g]? ≠ some (.cells cur 3 (0, 0))) ∧ (∀ cur, w.heap[g]? ≠ some (.cells cur 43 (0, 0)))) ∨ N ≤ g) : OwnRl w' base N v rs := by
  obtain ⟨qs, h1, h2, h3, h4⟩ := h
  refine ⟨qs, h1, h2.kept hg ?_, h3, fun q hq => ⟨(h4 q hq).1, (h4 q hq).2.1, (h4 q hq).2.2.grown hg fun g e => ?_⟩⟩
  · rcases hv : v.ownBlock with _ | k
    · exact .inl rfl
    · refine .inr fun e => ?_
      rcases hr k e.symm with q | q
      · obtain ⟨_, cur, hc⟩ := own_holds h2 hv
        exact q.2 _ hc
      · have := h3 k hv; omega
  · rcases hr g e with q | q
    · exact .inl q.1
    · exact .inr q
theorem OwnRl.more {w : World} {base N N' : Nat} {v : Value} {rs : List Gm.Rl} (h : OwnRl w base N v rs) (hN : N ≤ N') : OwnRl w base N' v rs := by
  obtain ⟨qs, h1, h2, h3, h4⟩ := h
  exact ⟨qs, h1, h2, fun k hk => by have := h3 k hk; omega, fun q hq => ⟨(h4 q hq).1, (h4 q hq).2.1, (h4 q hq).2.2.more hN⟩⟩

/-! ### a builder -/
structure St where
  s : Gm.S1
  ns : List (List Int)
  rs : List Gm.Rl
  z : Int
def soS : Option Tok → ByteArray | none => ⟨#[]⟩ | some x => K.str x.t
def soX (L : List Int) : Option Tok → Nat | none => 0 | some x => Fl.fl (Pl.pos (L.take x.o)).1
def soY (L : List Int) : Option Tok → Nat | none => 0 | some x => Fl.fl (Pl.pos (L.take x.o)).2
/-- Which symbol a text has. -/
def symV (ts : List Gm.Tm) (ns : List (List Int)) (s : List Int) : Option Value :=
  if 0 ≤ Gm.find (Gm.names ts) s then some (.int .i64 (Gm.find (Gm.names ts) s)) else if 0 ≤ Gm.find ns s then some (.int .i64 (-1 - Gm.find ns s)) else none
def SymOk (l : List (List Int × Value)) (ts : List Gm.Tm) (ns : List (List Int)) : Prop := ∀ s, Mw.asc l s = symV ts ns s
def TokOk (l : List (List Int × Value)) (tk : List (List Int)) : Prop := ∀ s, Mw.asc l s = if s ∈ tk then some (.bool true) else none
/-- The block of a builder. -/
def bCells (L : List Int) (vT vN vR : Value) (Ms Mt : Nat) (S : St) : Array Value := #[vT, vN, vR, .int .i64 S.z, .map (some Ms), .map (some Mt), .int .i64 S.s.lv, .string (soS S.s.st), .complex .f64 (soX L S.s.st) (soY L S.s.st)]
/-- What a builder's parts are, whatever they say. -/
structure BRaw (w : World) (B N R : Nat) (cs : Array Value) (vT vN vR : Value) (ts : List Gm.Tm) (ns : List (List Int)) (rs : List Gm.Rl) (Ms Mt : Nat) (ml tl : List (List Int × Value)) : Prop where
  b : w.heap[R]? = some (.cells cs 76 (0, 0))
  t : OwnTm w B vT ts
  n : OwnN w B vN ns
  r : OwnRl w B N vR rs
  ms : Mw.MapIs strE w Ms ml
  mt : Mw.MapIs strE w Mt tl
  ne : Ms ≠ Mt
  hR : B ≤ R
  hs : B ≤ Ms
  ht : B ≤ Mt
structure BldAt (L : List Int) (w : World) (B N R : Nat) (S : St) (vT vN vR : Value) (Ms Mt : Nat) (ml tl : List (List Int × Value)) : Prop where
  w : BRaw w B N R (bCells L vT vN vR Ms Mt S) vT vN vR S.s.ts S.ns S.rs Ms Mt ml tl
  so : SymOk ml S.s.ts S.ns
  ko : TokOk tl S.s.tk
def Bld (L : List Int) (w : World) (B N R : Nat) (S : St) : Prop := ∃ vT vN vR Ms Mt ml tl, BldAt L w B N R S vT vN vR Ms Mt ml tl

/-- What is written to a block that is none of a builder's. -/
structure Off (w : World) (N : Nat) (row : Option Nat) : Prop where
  h : ∀ g, row = some g → ∃ cs T, w.heap[g]? = some (.cells cs T (0, 0)) ∧ T ≠ 76 ∧ T ≠ 45 ∧ T ≠ 9 ∧ ((T ≠ 43 ∧ T ≠ 3) ∨ N ≤ g)
theorem Off.none (w : World) (N : Nat) : Off w N .none := ⟨fun _ h => by cases h⟩
theorem cells_ne {w : World} {g : Nat} {cs : Array Value} {T T' : TypeId} (h : w.heap[g]? = some (.cells cs T (0, 0))) (hT : T ≠ T') (cur : Array Value) : w.heap[g]? ≠ some (.cells cur T' (0, 0)) := by
  rw [h]; intro e; injection e with e; injection e with _ e; exact hT e
theorem none_away (v : Value) : v.ownBlock = none ∨ v.ownBlock ≠ (none : Option Nat) := by
  rcases v.ownBlock with _ | k
  · exact .inl rfl
  · exact .inr (by simp)
section
variable {w w' : World} {B N R : Nat} {cs : Array Value} {vT vN vR : Value} {ts : List Gm.Tm} {ns : List (List Int)} {rs : List Gm.Rl} {Ms Mt : Nat} {ml tl : List (List Int × Value)} {row : Option Nat}
theorem BRaw.grown (h : BRaw w B N R cs vT vN vR ts ns rs Ms Mt ml tl) (hg : w.grownBy w' row) (ho : Off w N row) : BRaw w' B N R cs vT vN vR ts ns rs Ms Mt ml tl := by
  have hb : some R ≠ row := fun e => by
    obtain ⟨cs, T, h1, h2, _⟩ := ho.h R e.symm
    exact cells_ne h1 h2 _ h.b
  have hms : some Ms ≠ row := fun e => by
    obtain ⟨cs, T, h1, _⟩ := ho.h Ms e.symm
    exact h.ms.not_cells h1
  have hmt : some Mt ≠ row := fun e => by
    obtain ⟨cs, T, h1, _⟩ := ho.h Mt e.symm
    exact h.mt.not_cells h1
  refine ⟨(hg.block R (Array.getElem?_eq_some_iff.1 h.b).1 hb).trans h.b, World.ownsRow.kept h.t hg ?_, World.ownsRow.kept h.n hg ?_, h.r.grown hg ?_, h.ms.kept hg hms, h.mt.kept hg hmt, h.ne, h.hR, h.hs, h.ht⟩
  · rcases row with _ | g
    · exact none_away _
    · obtain ⟨cs, T, h1, _, h2, _⟩ := ho.h g rfl
      exact own_away h.t h1 (fun cur e => by injection e with _ e; exact h2 e)
  · rcases row with _ | g
    · exact none_away _
    · obtain ⟨cs, T, h1, _, _, h2, _⟩ := ho.h g rfl
      exact own_away h.n h1 (fun cur e => by injection e with _ e; exact h2 e)
  · intro g e
    obtain ⟨cs, T, h1, _, _, _, h2⟩ := ho.h g e
    rcases h2 with q | q
    · exact .inl ⟨cells_ne h1 q.2, cells_ne h1 q.1⟩
    · exact .inr q
/-- A map is written. -/
theorem BRaw.ms_put (h : BRaw w B N R cs vT vN vR ts ns rs Ms Mt ml tl) {ml' : List (List Int × Value)} (hm : Mw.MapIs strE w' Ms ml') (hg : w.grownBy w' (some Ms)) : BRaw w' B N R cs vT vN vR ts ns rs Ms Mt ml' tl := by
  have ho : ∀ {cs : Array Value} {T : TypeId}, w.heap[Ms]? ≠ some (.cells cs T (0, 0)) := h.ms.not_cells
  obtain ⟨es, cl, hb, _⟩ := id h.ms
  refine ⟨(hg.block R (Array.getElem?_eq_some_iff.1 h.b).1 (fun e => by injection e with e; subst e; exact ho h.b)).trans h.b, World.ownsRow.kept h.t hg (own_away h.t hb (fun _ e => by cases e)), World.ownsRow.kept h.n hg (own_away h.n hb (fun _ e => by cases e)), h.r.grown hg (fun g e => .inl ?_), hm, h.mt.kept hg (fun e => by injection e with e; exact h.ne e.symm), h.ne, h.hR, h.hs, h.ht⟩
  injection e with e
  subst e
  exact ⟨fun _ => ho, fun _ => ho⟩
theorem BRaw.mt_put (h : BRaw w B N R cs vT vN vR ts ns rs Ms Mt ml tl) {tl' : List (List Int × Value)} (hm : Mw.MapIs strE w' Mt tl') (hg : w.grownBy w' (some Mt)) : BRaw w' B N R cs vT vN vR ts ns rs Ms Mt ml tl' := by
  have ho : ∀ {cs : Array Value} {T : TypeId}, w.heap[Mt]? ≠ some (.cells cs T (0, 0)) := h.mt.not_cells
  obtain ⟨es, cl, hb, _⟩ := id h.mt
  refine ⟨(hg.block R (Array.getElem?_eq_some_iff.1 h.b).1 (fun e => by injection e with e; subst e; exact ho h.b)).trans h.b, World.ownsRow.kept h.t hg (own_away h.t hb (fun _ e => by cases e)), World.ownsRow.kept h.n hg (own_away h.n hb (fun _ e => by cases e)), h.r.grown hg (fun g e => .inl ?_), h.ms.kept hg (fun e => by injection e with e; exact h.ne e), hm, h.ne, h.hR, h.hs, h.ht⟩
  injection e with e
  subst e
  exact ⟨fun _ => ho, fun _ => ho⟩
/-- A slice of the call's own of one kind is turned: the parts of other kinds stay. -/
theorem other_row {e e' : TypeId} {size size' n n' base base' : Nat} {v u : Value} {xs ys : List Value} (h : w.ownsRow base e size v n xs) (k : w.ownsRow base' e' size' u n' ys) (he : e ≠ e') : v.ownBlock = none ∨ v.ownBlock ≠ u.ownBlock := by
  rcases hu : u.ownBlock with _ | g
  · exact none_away _
  · obtain ⟨_, cur, hc⟩ := own_holds k hu
    exact own_away h hc (fun cur' q => by injection q with _ q; exact he q.symm)
theorem cells_row {e T : TypeId} {size n base g : Nat} {u : Value} {ys : List Value} (hb : w.heap[g]? = some (.cells cs T (0, 0))) (k : w.ownsRow base e size u n ys) (he : T ≠ e) (hg : w.grownBy w' u.ownBlock) : w'.heap[g]? = some (.cells cs T (0, 0)) := by
  refine (hg.block g (Array.getElem?_eq_some_iff.1 hb).1 (fun q => ?_)).trans hb
  obtain ⟨_, cur, hc⟩ := own_holds k q.symm
  exact cells_ne hb he _ hc
theorem map_row {e : TypeId} {size n base g : Nat} {u : Value} {ys : List Value} (hb : Mw.MapIs strE w g ml) (k : w.ownsRow base e size u n ys) (hg : w.grownBy w' u.ownBlock) : Mw.MapIs strE w' g ml := by
  refine hb.kept hg (fun q => ?_)
  obtain ⟨_, cur, hc⟩ := own_holds k q.symm
  exact hb.not_cells hc
theorem BRaw.tm_put (h : BRaw w B N R cs vT vN vR ts ns rs Ms Mt ml tl) {v' : Value} {ts' : List Gm.Tm} (ht : OwnTm w' B v' ts') (hg : w.grownBy w' vT.ownBlock) : BRaw w' B N R cs v' vN vR ts' ns rs Ms Mt ml tl := by
  refine ⟨cells_row h.b h.t (by decide) hg, ht, World.ownsRow.kept h.n hg (other_row h.n h.t (by decide)), h.r.grown hg (fun g e => .inl ?_), map_row h.ms h.t hg, map_row h.mt h.t hg, h.ne, h.hR, h.hs, h.ht⟩
  obtain ⟨_, cur, hc⟩ := own_holds h.t e
  exact ⟨cells_ne hc (by decide), cells_ne hc (by decide)⟩
theorem BRaw.n_put (h : BRaw w B N R cs vT vN vR ts ns rs Ms Mt ml tl) {v' : Value} {ns' : List (List Int)} (ht : OwnN w' B v' ns') (hg : w.grownBy w' vN.ownBlock) : BRaw w' B N R cs vT v' vR ts ns' rs Ms Mt ml tl := by
  refine ⟨cells_row h.b h.n (by decide) hg, World.ownsRow.kept h.t hg (other_row h.t h.n (by decide)), ht, h.r.grown hg (fun g e => .inl ?_), map_row h.ms h.n hg, map_row h.mt h.n hg, h.ne, h.hR, h.hs, h.ht⟩
  obtain ⟨_, cur, hc⟩ := own_holds h.n e
  exact ⟨cells_ne hc (by decide), cells_ne hc (by decide)⟩
theorem BRaw.r_put (h : BRaw w B N R cs vT vN vR ts ns rs Ms Mt ml tl) {v' : Value} {rs' : List Gm.Rl} (ht : OwnRl w' B N v' rs') (hg : w.grownBy w' vR.ownBlock) : BRaw w' B N R cs vT vN v' ts ns rs' Ms Mt ml tl := by
  obtain ⟨qs, _, h2, _⟩ := id h.r
  exact ⟨cells_row h.b h2 (by decide) hg, World.ownsRow.kept h.t hg (other_row h.t h2 (by decide)), World.ownsRow.kept h.n hg (other_row h.n h2 (by decide)), ht, map_row h.ms h2 hg, map_row h.mt h2 hg, h.ne, h.hR, h.hs, h.ht⟩
/-- A cell of the builder's block is written. -/
theorem BRaw.set (h : BRaw w B N R cs vT vN vR ts ns rs Ms Mt ml tl) (j : Nat) (u : Value) : BRaw (w.setCell ⟨R, j, none⟩ u) B N R (cs.setIfInBounds j u) vT vN vR ts ns rs Ms Mt ml tl := by
  have hg : w.grownBy (w.setCell ⟨R, j, none⟩ u) (some R) := only_set (World.grownBy.refl _ _) j u
  refine ⟨heap_setCell_same w R j _ _ u h.b, World.ownsRow.kept h.t hg (own_away h.t h.b (fun cur e => by injection e with _ e; cases e)), World.ownsRow.kept h.n hg (own_away h.n h.b (fun cur e => by injection e with _ e; cases e)), h.r.grown hg (fun g e => .inl ?_), h.ms.kept hg (fun e => by injection e with e; subst e; exact h.ms.not_cells h.b), h.mt.kept hg (fun e => by injection e with e; subst e; exact h.mt.not_cells h.b), h.ne, h.hR, h.hs, h.ht⟩
  injection e with e
  subst e
  exact ⟨cells_ne h.b (by decide), cells_ne h.b (by decide)⟩
end
theorem BldAt.grown {L : List Int} {w w' : World} {B N R : Nat} {S : St} {vT vN vR : Value} {Ms Mt : Nat} {ml tl : List (List Int × Value)} {row : Option Nat} (h : BldAt L w B N R S vT vN vR Ms Mt ml tl) (hg : w.grownBy w' row) (ho : Off w N row) : BldAt L w' B N R S vT vN vR Ms Mt ml tl := ⟨h.w.grown hg ho, h.so, h.ko⟩
theorem BldAt.below {L : List Int} {w w' : World} {B N R : Nat} {S : St} {vT vN vR : Value} {Ms Mt : Nat} {ml tl : List (List Int × Value)} (h : BldAt L w B N R S vT vN vR Ms Mt ml tl) (hb : Below w.heap.size w w') : BldAt L w' B N R S vT vN vR Ms Mt ml tl := h.grown (only_below hb .none) (Off.none _ _)
theorem Bld.below {L : List Int} {w w' : World} {B N R : Nat} {S : St} (h : Bld L w B N R S) (hb : Below w.heap.size w w') : Bld L w' B N R S := by
  obtain ⟨vT, vN, vR, Ms, Mt, ml, tl, h⟩ := h
  exact ⟨vT, vN, vR, Ms, Mt, ml, tl, h.below hb⟩
theorem Bld.grown {L : List Int} {w w' : World} {B N R : Nat} {S : St} {row : Option Nat} (h : Bld L w B N R S) (hg : w.grownBy w' row) (ho : Off w N row) : Bld L w' B N R S := by
  obtain ⟨vT, vN, vR, Ms, Mt, ml, tl, h⟩ := h
  exact ⟨vT, vN, vR, Ms, Mt, ml, tl, h.grown hg ho⟩
theorem Bld.alloc {L : List Int} {w : World} {B N R : Nat} {S : St} (h : Bld L w B N R S) (o : Obj) : Bld L (w.alloc o) B N R S := h.grown (World.grownBy_alloc w o .none) (Off.none _ _)
theorem Bld.lt {L : List Int} {w : World} {B N R : Nat} {S : St} (h : Bld L w B N R S) : R < w.heap.size ∧ B ≤ R := by
  obtain ⟨vT, vN, vR, Ms, Mt, ml, tl, h⟩ := h
  exact ⟨(Array.getElem?_eq_some_iff.1 h.w.b).1, h.w.hR⟩
theorem Bld.more {L : List Int} {w : World} {B N N' R : Nat} {S : St} (h : Bld L w B N R S) (hN : N ≤ N') : Bld L w B N' R S := by
  obtain ⟨vT, vN, vR, Ms, Mt, ml, tl, h⟩ := h
  exact ⟨vT, vN, vR, Ms, Mt, ml, tl, ⟨⟨h.w.b, h.w.t, h.w.n, h.w.r.more hN, h.w.ms, h.w.mt, h.w.ne, h.w.hR, h.w.hs, h.w.ht⟩, h.so, h.ko⟩⟩

/-- What a call that goes on from w leaves as it was: blocks of other kinds than a builder and terminals; also none of names and rules. -/
def KeepT (w w' : World) : Prop := ∀ (g : Nat) (cs : Array Value) (T : TypeId), w.heap[g]? = some (.cells cs T (0, 0)) → T ≠ 76 → T ≠ 45 → w'.heap[g]? = some (.cells cs T (0, 0))
def KeepA (w w' : World) : Prop := ∀ (g : Nat) (cs : Array Value) (T : TypeId), w.heap[g]? = some (.cells cs T (0, 0)) → T ≠ 76 → T ≠ 45 → T ≠ 9 → T ≠ 43 → w'.heap[g]? = some (.cells cs T (0, 0))
theorem KeepT.refl (w : World) : KeepT w w := fun _ _ _ h _ _ => h
theorem KeepA.refl (w : World) : KeepA w w := fun _ _ _ h _ _ _ _ => h
theorem KeepT.trans {a b c : World} (h : KeepT a b) (k : KeepT b c) : KeepT a c := fun g cs T h1 h2 h3 => k g cs T (h g cs T h1 h2 h3) h2 h3
theorem KeepA.trans {a b c : World} (h : KeepA a b) (k : KeepA b c) : KeepA a c := fun g cs T h1 h2 h3 h4 h5 => k g cs T (h g cs T h1 h2 h3 h4 h5) h2 h3 h4 h5
theorem KeepT.a {w w' : World} (h : KeepT w w') : KeepA w w' := fun g cs T h1 h2 h3 _ _ => h g cs T h1 h2 h3
theorem KeepT.below {w w' : World} (h : Below w.heap.size w w') : KeepT w w' := fun g _ _ h1 _ _ => (h.block g (Array.getElem?_eq_some_iff.1 h1).1).trans h1
theorem KeepA.below {w w' : World} (h : Below w.heap.size w w') : KeepA w w' := (KeepT.below h).a
theorem KeepT.cells {w w' : World} {g : Nat} (h : w.grownBy w' (some g)) {T : TypeId} {cs : Array Value} (hg : w.heap[g]? = some (.cells cs T (0, 0))) (hT : T = 76 ∨ T = 45) : KeepT w w' := fun k cs' T' h1 h2 h3 => by
  refine (h.block k (Array.getElem?_eq_some_iff.1 h1).1 (fun e => ?_)).trans h1
  injection e with e
  subst e
  rw [hg] at h1; injection h1 with h1; injection h1 with _ h1
  rcases hT with q | q
  · exact h2 (h1.symm.trans q)
  · exact h3 (h1.symm.trans q)
theorem KeepT.map {w w' : World} {g : Nat} {l : List (List Int × Value)} (h : w.grownBy w' (some g)) (hm : Mw.MapIs strE w g l) : KeepT w w' := fun k cs' T' h1 _ _ => by
  refine (h.block k (Array.getElem?_eq_some_iff.1 h1).1 (fun e => ?_)).trans h1
  injection e with e
  subst e
  exact absurd h1 hm.not_cells
theorem KeepA.cells {w w' : World} {g : Nat} (h : w.grownBy w' (some g)) {T : TypeId} {cs : Array Value} (hg : w.heap[g]? = some (.cells cs T (0, 0))) (hT : T = 76 ∨ T = 45 ∨ T = 9 ∨ T = 43) : KeepA w w' := fun k cs' T' h1 h2 h3 h4 h5 => by
  refine (h.block k (Array.getElem?_eq_some_iff.1 h1).1 (fun e => ?_)).trans h1
  injection e with e
  subst e
  rw [hg] at h1; injection h1 with h1; injection h1 with _ h1
  rcases hT with q | q | q | q
  · exact h2 (h1.symm.trans q)
  · exact h3 (h1.symm.trans q)
  · exact h4 (h1.symm.trans q)
  · exact h5 (h1.symm.trans q)
theorem KeepT.own {w w' : World} {base size n : Nat} {v : Value} {xs : List Value} (ho : w.ownsRow base 45 size v n xs) (h : w.grownBy w' v.ownBlock) : KeepT w w' := by
  rcases hv : v.ownBlock with _ | k
  · rw [hv] at h; exact fun g _ _ h1 _ _ => (h.block g (Array.getElem?_eq_some_iff.1 h1).1 (by simp)).trans h1
  · rw [hv] at h
    obtain ⟨_, cur, hc⟩ := own_holds ho hv
    exact KeepT.cells h hc (.inr rfl)
theorem KeepA.own {w w' : World} {base size n : Nat} {v : Value} {xs : List Value} {e : TypeId} (ho : w.ownsRow base e size v n xs) (h : w.grownBy w' v.ownBlock) (he : e = 45 ∨ e = 9 ∨ e = 43) : KeepA w w' := by
  rcases hv : v.ownBlock with _ | k
  · rw [hv] at h; exact fun g _ _ h1 _ _ _ _ => (h.block g (Array.getElem?_eq_some_iff.1 h1).1 (by simp)).trans h1
  · rw [hv] at h
    obtain ⟨_, cur, hc⟩ := own_holds ho hv
    exact KeepA.cells h hc (.inr he)
/-- What lies below B is as it was. -/
theorem below_row {B : Nat} {w w' : World} {row : Option Nat} (hg : w.grownBy w' row) (hr : ∀ k, row = some k → B ≤ k) (hB : B ≤ w.heap.size) : Below B w w' := (Below.refl B w).grown hg hB hr

theorem infoTm : (Tryz.prog.info? 45).map (fun i => (i.zero, i.size, i.bytes)) = some (some (.agg #[.string ⟨#[]⟩, .int .i64 0, .int .i64 0]), 3, 32) := by kernel_rfl
theorem infoNm : (Tryz.prog.info? 9).map (fun i => (i.zero, i.size, i.bytes)) = some (some (.string ⟨#[]⟩), 1, 16) := by kernel_rfl
theorem infoRl : (Tryz.prog.info? 43).map (fun i => (i.zero, i.size, i.bytes)) = some (some (.agg #[.int .i64 0, .slice none 0 0, .int .i64 0]), 3, 40) := by kernel_rfl
/-- append of one terminal to a slice of the call's own. -/
theorem apTm_arm {w : World} {ops : Array Oper} {rest : List Oper} {o : Oper} {a : Act} {Q : Exit → Act → World → Prop}
    (hgd : o.guard = none) (s x : Operand) (t : TypeId) (ho : o.op = .call { callee := .builtin .append, args := #[s, x], argTypes := #[t, t] }) (ht : Tryz.prog.underlying t = some (.slice 45))
    (base : Nat) (v : Value) (ts : List Gm.Tm) (hs : a.eval s = v) (hown : OwnTm w base v ts) (g c : Nat) (y : Gm.Tm) (hx : a.eval x = .slice (some ⟨g, 0, none⟩) 1 c) (hz : ∀ j u, (tmC y)[j]? = some u → w.cell? ⟨g, j, none⟩ = some u)
    (hlen : ts.length ≤ 1000000) (hbase : base ≤ w.heap.size)
    (hK : ∀ v' w', OwnTm w' base v' (ts ++ [y]) → w.grownBy w' v.ownBlock → wpList Tryz.prog ops Q rest (a.put o.dst v') w') :
    wpList Tryz.prog ops Q (o :: rest) a w := by
  obtain ⟨i, hi, hz0, hz1, hz2⟩ := info_parts infoTm
  refine wpList_append_own w hgd s x t ho base 45 i _ 3 32 ht hi hz0 hz1 hz2 rfl (by decide) v ts.length (tmsC ts) hs hown ⟨g, 0, none⟩ 1 c (tmC y) hx rfl ?_ ?_ (by unfold maxLen; omega) (by omega) hbase fun v' w' h1 h2 _ => hK v' w' ?_ h2
  · intro j u hj
    rw [addZ, Nat.zero_add]
    exact hz j u hj
  · intro u hu; simp [tmC] at hu; rcases hu with rfl | rfl | rfl <;> rfl
  · unfold OwnTm tmsC
    rw [List.length_append, List.flatMap_append, List.flatMap_singleton]; exact h1
/-- append of one name to a slice of the call's own. -/
theorem apN_arm {w : World} {ops : Array Oper} {rest : List Oper} {o : Oper} {a : Act} {Q : Exit → Act → World → Prop}
    (hgd : o.guard = none) (s x : Operand) (t : TypeId) (ho : o.op = .call { callee := .builtin .append, args := #[s, x], argTypes := #[t, t] }) (ht : Tryz.prog.underlying t = some (.slice 9))
    (base : Nat) (v : Value) (ts : List (List Int)) (hs : a.eval s = v) (hown : OwnN w base v ts) (g c : Nat) (y : List Int) (hx : a.eval x = .slice (some ⟨g, 0, none⟩) 1 c) (hz : w.cell? ⟨g, 0, none⟩ = some (.string (K.str y)))
    (hlen : ts.length ≤ 1000000) (hbase : base ≤ w.heap.size)
    (hK : ∀ v' w', OwnN w' base v' (ts ++ [y]) → w.grownBy w' v.ownBlock → wpList Tryz.prog ops Q rest (a.put o.dst v') w') :
    wpList Tryz.prog ops Q (o :: rest) a w := by
  obtain ⟨i, hi, hz0, hz1, hz2⟩ := info_parts infoNm
  refine wpList_append_own w hgd s x t ho base 9 i _ 1 16 ht hi hz0 hz1 hz2 rfl (by decide) v ts.length (nmsC ts) hs hown ⟨g, 0, none⟩ 1 c [.string (K.str y)] hx rfl ?_ ?_ (by unfold maxLen; omega) (by omega) hbase fun v' w' h1 h2 _ => hK v' w' ?_ h2
  · intro j u hj
    rw [addZ, Nat.zero_add]
    rcases j with _ | j
    · simp at hj; rw [← hj]; exact hz
    · simp at hj
  · intro u hu; simp at hu; rcases hu with rfl; rfl
  · unfold OwnN nmsC
    rw [List.length_append, List.map_append]; exact h1
/-- append of one rule to a slice of the call's own. -/
theorem apRl_arm {w : World} {ops : Array Oper} {rest : List Oper} {o : Oper} {a : Act} {Q : Exit → Act → World → Prop}
    (hgd : o.guard = none) (s x : Operand) (t : TypeId) (ho : o.op = .call { callee := .builtin .append, args := #[s, x], argTypes := #[t, t] }) (ht : Tryz.prog.underlying t = some (.slice 43))
    (base N : Nat) (v : Value) (rs : List Gm.Rl) (hs : a.eval s = v) (hown : OwnRl w base N v rs) (g c : Nat) (q : RA) (hx : a.eval x = .slice (some ⟨g, 0, none⟩) 1 c) (hz : ∀ j u, (rlC q)[j]? = some u → w.cell? ⟨g, j, none⟩ = some u) (hr : q.1.r.length ≤ q.2.2 ∧ q.2.2 ≤ 9223372036854775807 ∧ RowI w base w.heap.size q.2.1 q.1.r)
    (hlen : rs.length ≤ 1000000) (hbase : base ≤ w.heap.size) (hN : N ≤ w.heap.size)
    (hK : ∀ v' w', OwnRl w' base w'.heap.size v' (rs ++ [q.1]) → w.grownBy w' v.ownBlock → wpList Tryz.prog ops Q rest (a.put o.dst v') w') :
    wpList Tryz.prog ops Q (o :: rest) a w := by
  obtain ⟨i, hi, hz0, hz1, hz2⟩ := info_parts infoRl
  obtain ⟨qs, hq1, hq2, hq3, hq4⟩ := hown
  have hlq : qs.length = rs.length := by rw [← hq1, List.length_map]
  refine wpList_append_own w hgd s x t ho base 43 i _ 3 40 ht hi hz0 hz1 hz2 rfl (by decide) v rs.length (rlsC qs) hs hq2 ⟨g, 0, none⟩ 1 c (rlC q) hx rfl ?_ ?_ (by unfold maxLen; omega) (by omega) hbase fun v' w' h1 h2 _ => hK v' w' ?_ h2
  · intro j u hj
    rw [addZ, Nat.zero_add]
    exact hz j u hj
  · intro u hu; simp [rlC] at hu; rcases hu with rfl | rfl | rfl <;> rfl
  · have hng : ∀ g', v.ownBlock = some g' → (∀ cur, w.heap[g']? ≠ some (.cells cur 3 (0, 0))) ∨ w.heap.size ≤ g' := fun g' e => by
      obtain ⟨_, cur, hc⟩ := own_holds hq2 e
      exact .inl (cells_ne hc (by decide))
    refine ⟨qs ++ [q], by rw [List.map_append, hq1]; rfl, ?_, fun k hk => ?_, fun p hp => ?_⟩
    · rw [List.length_append]
      unfold rlsC
      rw [List.flatMap_append, List.flatMap_singleton]
      exact h1
    · obtain ⟨_, cur, hc⟩ := own_holds h1 hk
      exact (Array.getElem?_eq_some_iff.1 hc).1
    · rcases List.mem_append.1 hp with h | h
      · obtain ⟨a1, a2, a3⟩ := hq4 p h
        exact ⟨a1, a2, ((a3.more hN).grown h2 hng).more h2.size⟩
      · rw [List.mem_singleton] at h
        subst h
        exact ⟨hr.1, hr.2.1, (hr.2.2.grown h2 hng).more h2.size⟩

theorem symV_new {ts : List Gm.Tm} {ns : List (List Int)} {s : List Int} (h : symV ts ns s = none) : Gm.find (Gm.names ts) s < 0 ∧ Gm.find ns s < 0 := by
  unfold symV at h
  split at h
  · cases h
  · split at h
    · cases h
    · omega
theorem symV_none {ts : List Gm.Tm} {ns : List (List Int)} {s : List Int} (h1 : Gm.find (Gm.names ts) s < 0) (h2 : Gm.find ns s < 0) : symV ts ns s = none := by
  unfold symV
  rw [if_neg (by omega), if_neg (by omega)]
/-- A new terminal, a new nonterminal, in the map of symbols. -/
theorem SymOk.term {ml : List (List Int × Value)} {ts : List Gm.Tm} {ns : List (List Int)} {s : List Int} (h : SymOk ml ts ns) (h1 : Gm.find (Gm.names ts) s < 0) (h2 : Gm.find ns s < 0) (a b : Int) : SymOk (ml ++ [(s, .int .i64 (ts.length : Int))]) (ts ++ [⟨s, a, b⟩]) ns := fun x => by
  rw [Mw.asc_snoc (by rw [h s]; exact symV_none h1 h2), h x]
  unfold symV
  have hn : Gm.names (ts ++ [⟨s, a, b⟩]) = Gm.names ts ++ [s] := by simp [Gm.names]
  have hl : (Gm.names ts).length = ts.length := by simp [Gm.names]
  rw [hn]
  by_cases hx : s = x
  · subst hx
    rw [if_pos rfl, Gm.find_snoc h1, if_pos rfl, hl, if_pos (by omega)]
  · rw [if_neg hx]
    by_cases hf : Gm.find (Gm.names ts) x < 0
    · rw [Gm.find_snoc hf, if_neg hx, if_neg (by omega), if_neg (show ¬ 0 ≤ (-1 : Int) by omega)]
    · rw [Gm.find_app (by omega)]
theorem SymOk.non {ml : List (List Int × Value)} {ts : List Gm.Tm} {ns : List (List Int)} {s : List Int} (h : SymOk ml ts ns) (h1 : Gm.find (Gm.names ts) s < 0) (h2 : Gm.find ns s < 0) : SymOk (ml ++ [(s, .int .i64 (-1 - (ns.length : Int)))]) ts (ns ++ [s]) := fun x => by
  rw [Mw.asc_snoc (by rw [h s]; exact symV_none h1 h2), h x]
  unfold symV
  by_cases hx : s = x
  · subst hx
    rw [if_pos rfl, if_neg (by omega), Gm.find_snoc h2, if_pos rfl, if_pos (by omega)]
  · rw [if_neg hx]
    by_cases hf : Gm.find ns x < 0
    · rw [Gm.find_snoc hf, if_neg hx]
      rw [if_neg (show ¬ 0 ≤ Gm.find ns x by omega), if_neg (show ¬ 0 ≤ (-1 : Int) by omega)]
    · rw [Gm.find_app (by omega)]
/-- A map of symbols stays right while terminals keep their names. -/
theorem SymOk.same {ml : List (List Int × Value)} {ts ts' : List Gm.Tm} {ns : List (List Int)} (h : SymOk ml ts ns) (hn : Gm.names ts' = Gm.names ts) : SymOk ml ts' ns := fun x => by
  rw [h x]; unfold symV; rw [hn]
theorem TokOk.next {tl : List (List Int × Value)} {tk : List (List Int)} {s : List Int} (h : TokOk tl tk) (hs : s ∉ tk) : TokOk (tl ++ [(s, .bool true)]) (tk ++ [s]) := fun x => by
  rw [Mw.asc_snoc (by rw [h s, if_neg hs]), h x]
  by_cases hx : s = x
  · subst hx; simp
  · rw [if_neg hx]
    have : x ≠ s := fun e => hx e.symm
    simp [this]

theorem new_cells (w : World) (l : List Value) (T : TypeId) (j : Nat) : (w.alloc (.cells l.toArray T)).cell? ⟨w.heap.size, j, none⟩ = l[j]? := by
  rw [cell_of_row _ _ j _ _ _ (heap_alloc_new w _)]
  simp
section
variable {w w' : World} {B N R : Nat} {cs : Array Value} {vT vN vR : Value} {ts : List Gm.Tm} {ns : List (List Int)} {rs : List Gm.Rl} {Ms Mt : Nat} {ml tl : List (List Int × Value)}
theorem BRaw.alloc (h : BRaw w B N R cs vT vN vR ts ns rs Ms Mt ml tl) (o : Obj) : BRaw (w.alloc o) B N R cs vT vN vR ts ns rs Ms Mt ml tl := h.grown (World.grownBy_alloc w o .none) (Off.none _ _)
theorem BRaw.at (h : BRaw w B N R cs vT vN vR ts ns rs Ms Mt ml tl) (j : Nat) : w.cell? ⟨R, j, none⟩ = cs[j]? ∧ w.frozen? ⟨R, j, none⟩ = false ∧ R < w.heap.size :=
  ⟨cell_of_row w R j _ _ _ h.b, frozen_of_row w R j _ _ h.b, (Array.getElem?_eq_some_iff.1 h.b).1⟩
theorem BRaw.tm_at (h : BRaw w B N R cs vT vN vR ts ns rs Ms Mt ml tl) {v' : Value} {ts' : List Gm.Tm} (ht : OwnTm w' B v' ts') (hg : w.grownBy w' vT.ownBlock) : w'.cell? ⟨R, 0, none⟩ = cs[0]? ∧ w'.frozen? ⟨R, 0, none⟩ = false ∧ R < w'.heap.size := (h.tm_put ht hg).at 0
end
end Go.Proofs.YtoehbkgdodogkaaGreat

/- Contracts over this program: a builder's terminals, symbols and names. -/
namespace Go.Proofs.YtoehbkgdodogkaaGreat
set_option maxRecDepth 100000
open Go.RowKit

/-- What asking for a terminal answers. -/
def TmA (S : St) (s : List Int) : Int × Int × St :=
  if 0 ≤ Gm.find (Gm.names S.s.ts) s then (Gm.find (Gm.names S.s.ts) s, 0, S) else if S.s.ts.length = 24 then (0, 5, S) else (S.s.ts.length, 0, { S with s := { S.s with ts := S.s.ts ++ [⟨s, 0, 0⟩] } })
theorem look_sym {w : World} {Ms : Nat} {ml : List (List Int × Value)} {ts : List Gm.Tm} {ns : List (List Int)} (h : Mw.MapIs strE w Ms ml) (hs : SymOk ml ts ns) (s : List Int) (hx : K.Tx s) : (Instr.lookup 72 (.map (some Ms)) (.string (K.str s)) true).run Tryz.prog w = .ok (.tuple #[(symV ts ns s).getD (.int .i64 0), .bool (symV ts ns s).isSome]) w := by
  have := Mw.run_look (x := s) h strK Tryz.underlying72 (zero_int w) hx true
  rw [if_pos rfl, hs s] at this
  exact this
theorem build_tm (s : ByteArray) (w : World) : (Instr.build 45 #[(0, .string s)]).run Tryz.prog w = .ok (.agg #[.string s, .int .i64 0, .int .i64 0]) w := run_build w 45 _ _ (by kernel_rfl)
theorem zero_bool (w : World) : (zeroValue 4).run Tryz.prog w = .ok (.bool false) w := by kernel_rfl
theorem look_tok {w : World} {Mt : Nat} {tl : List (List Int × Value)} {tk : List (List Int)} (h : Mw.MapIs strE w Mt tl) (hs : TokOk tl tk) (s : List Int) (hx : K.Tx s) : (Instr.lookup 62 (.map (some Mt)) (.string (K.str s)) false).run Tryz.prog w = .ok (.bool (decide (s ∈ tk))) w := by
  have := Mw.run_look (x := s) h strK Tryz.underlying62 (zero_bool w) hx false
  rw [if_neg (by simp), hs s] at this
  by_cases hm : s ∈ tk
  · rw [if_pos hm] at this; rw [decide_eq_true hm]; exact this
  · rw [if_neg hm] at this; rw [decide_eq_false hm]; exact this

set_option maxHeartbeats 4000000 in
theorem term_any9 (L : List Int) (B N R : Nat) (S : St) (s : List Int) (w : World) (hb : Bld L w B N R S) (hs : K.Tx s) (hn : Gm.find S.ns s < 0) (hB : B ≤ w.heap.size) (hlt : S.s.ts.length ≤ 24) :
    Calls Tryz.prog 118 #[.pointer (some ⟨R, 0, none⟩), .string (K.str s)] w fun e w' => e = .returned (.tuple #[.int .i64 (TmA S s).1, .int .i64 (TmA S s).2.1]) ∧ Bld L w' B N R (TmA S s).2.2 ∧ Below B w w' ∧ KeepT w w' := by
  have HBL := hide hb
  obtain ⟨vT, vN, vR, Ms, Mt, ml, tl, h⟩ := hb
  have HH := hide h
  have hlk := look_sym h.w.ms h.so s hs
  obtain ⟨AT, cT, rfl, _, _⟩ := own_form h.w.t
  have c0 : w.cell? ⟨R, 0, none⟩ = some (.slice AT S.s.ts.length cT) := cell_of_row w R 0 _ _ _ h.w.b
  have c4 : w.cell? ⟨R, 4, none⟩ = some (.map (some Ms)) := cell_of_row w R 4 _ _ _ h.w.b
  have hRs := (Array.getElem?_eq_some_iff.1 h.w.b).1
  have HLT := hide hlt
  clear h
  by_cases h1 : 0 ≤ Gm.find (Gm.names S.s.ts) s
  · have HE : Hid (TmA S s = (Gm.find (Gm.names S.s.ts) s, 0, S)) := hide (by unfold TmA; rw [if_pos h1])
    have he : symV S.s.ts S.ns s = some (.int .i64 (Gm.find (Gm.names S.s.ts) s)) := by unfold symV; rw [if_pos h1]
    rw [he] at hlk
    simp only [Option.getD_some, Option.isSome_some] at hlk
    rw [HE.out]
    clear h1 he hn hlt
    generalize Gm.find (Gm.names S.s.ts) s = z at *
    go_enter Tryz.func118, Tryz.ntmps118
    go_wp2
    go_ret2
    exact ⟨rfl, HBL.out, Below.refl _ _, KeepT.refl _⟩
  have he : symV S.s.ts S.ns s = none := symV_none (by omega) hn
  rw [he] at hlk
  simp only [Option.getD_none, Option.isSome_none] at hlk
  by_cases h2 : S.s.ts.length = 24
  · have HE : Hid (TmA S s = (0, 5, S)) := hide (by unfold TmA; rw [if_neg h1, if_pos h2])
    have e2 : ((S.s.ts.length : Int) == 24) = true := beq_iff_eq.2 (by omega)
    rw [HE.out]
    clear h1 h2 he hn hlt
    go_enter Tryz.func118, Tryz.ntmps118
    go_wp2
    go_ret2
    exact ⟨rfl, HBL.out, Below.refl _ _, KeepT.refl _⟩
  have HE : Hid (TmA S s = ((S.s.ts.length : Int), 0, { S with s := { S.s with ts := S.s.ts ++ [⟨s, 0, 0⟩] } })) := hide (by unfold TmA; rw [if_neg h1, if_neg h2])
  have e2 : ((S.s.ts.length : Int) == 24) = false := beq_eq_false_iff_ne.2 (by omega)
  have HSO := hide (fun (h : SymOk ml S.s.ts S.ns) => h.term (s := s) (by omega) hn 0 0)
  have HNO : Hid (Mw.asc ml s = none) := hide (by rw [HH.out.so s]; exact he)
  have HST := hide (Mw.run_store (x := s) HH.out.w.ms strK Tryz.underlying72 hs (.int .i64 (S.s.ts.length : Int)) (.inl HNO.out))
  rw [if_pos HNO.out] at HST
  have HC1 := hide (fun (w1 : World) (hm : Mw.MapIs strE w1 Ms (ml ++ [(s, .int .i64 (S.s.ts.length : Int))])) (hg : w.grownBy w1 (some Ms)) => HH.out.w.ms_put hm hg)
  have HC2 := hide (fun (w1 : World) (hm : Mw.MapIs strE w1 Ms (ml ++ [(s, .int .i64 (S.s.ts.length : Int))])) (hg : w.grownBy w1 (some Ms)) => (⟨cell_of_row w1 R 0 _ _ _ (HC1.out w1 hm hg).b, (Array.getElem?_eq_some_iff.1 (HC1.out w1 hm hg).b).1⟩ : w1.cell? ⟨R, 0, none⟩ = some (.slice AT S.s.ts.length cT) ∧ R < w1.heap.size))
  have HBL2 : Hid (S.s.ts.length ≤ 24) := HLT
  have RB := fun w => build_tm (K.str s) w
  rw [HE.out]
  have hMs := HH.out.w.hs
  have hMl := HH.out.w.ms.lt
  clear h1 h2 he hn hlt
  go_enter Tryz.func118, Tryz.ntmps118
  go_wp2_with (first | (at_mapUpdate; refine Mw.wpList_store rfl _ _ _ _ rfl HST.out rfl rfl rfl ?_; rintro w1 ⟨hm1, hg1⟩; obtain ⟨hk1, hs1⟩ := HC2.out w1 hm1 hg1) | (refine apTm_arm rfl (.tmp 39) (.tmp 42) _ rfl Tryz.underlying22 B _ S.s.ts rfl ((HC1.out _ hm1 hg1).alloc _).t _ _ ⟨s, 0, 0⟩ rfl (fun j u hj => (new_cells _ (tmC ⟨s, 0, 0⟩) _ j).trans hj) (by have := HBL2.out; omega) (by have := hg1.size; simp; omega) ?_; intro v3 w3 ho3 hg3; obtain ⟨A3, n3, c3, rfl⟩ := own_slice ho3; obtain ⟨hk3, hf3, hs3⟩ := ((HC1.out _ hm1 hg1).alloc _).tm_at ho3 hg3))
  go_ret2
  have a0 := (HC1.out _ hm1 hg1).alloc (.cells (tmC ⟨s, 0, 0⟩).toArray 45)
  have a1 := a0.tm_put ho3 hg3
  have a2 := a1.set 0 (.slice A3 n3 c3)
  have hb1 : Below B w w1 := below_row hg1 (fun k e => by injection e with e; omega) hB
  have hb2 : Below B w w3 := (hb1.alloc (Nat.le_trans hB hb1.size) (.cells (tmC ⟨s, 0, 0⟩).toArray 45)).grown hg3 (by have := hb1.size; simp; omega) (fun k e => (own_holds a0.t e).1)
  refine ⟨rfl, ⟨.slice A3 n3 c3, vN, vR, Ms, Mt, _, tl, ⟨a2, HSO.out HH.out.so, HH.out.ko⟩⟩, hb2.setCell a1.hR _, ?_⟩
  exact ((KeepT.map hg1 HH.out.w.ms).trans (KeepT.below ((Below.refl _ _).alloc (Nat.le_refl _) _))).trans ((KeepT.own a0.t hg3).trans (KeepT.cells (only_set (World.grownBy.refl _ _) 0 _) a1.b (.inl rfl)))
end Go.Proofs.YtoehbkgdodogkaaGreat

/- Contracts over this program: a builder's symbols, and what is declared. -/
namespace Go.Proofs.YtoehbkgdodogkaaGreat
set_option maxRecDepth 100000
open Go.RowKit

/-- What asking for a symbol answers. -/
def SyA (S : St) (s : List Int) : Int × Int × St :=
  if 0 ≤ Gm.find (Gm.names S.s.ts) s then (Gm.find (Gm.names S.s.ts) s, 0, S) else if 0 ≤ Gm.find S.ns s then (-1 - Gm.find S.ns s, 0, S)
  else if T.isLit s = true ∨ s = [101, 114, 114, 111, 114] then TmA S s else (0, 6, S)
theorem error_yes {s : List Int} (h : s = [101, 114, 114, 111, 114]) : ((K.str s).toList == [101, 114, 114, 111, 114]) = true := str_yes h
theorem error_no {s : List Int} (hb : K.Bytes s) (h : ¬ s = [101, 114, 114, 111, 114]) : ((K.str s).toList == [101, 114, 114, 111, 114]) = false := str_no hb (by intro z hz; simp at hz; omega) h

set_option maxHeartbeats 4000000 in
theorem symbol_any (L : List Int) (B N R : Nat) (S : St) (s : List Int) (w : World) (hb : Bld L w B N R S) (hs : K.Tx s) (hnm : Gm.named s = true) (hB : B ≤ w.heap.size) (hlt : S.s.ts.length ≤ 24) :
    Calls Tryz.prog 108 #[.pointer (some ⟨R, 0, none⟩), .string (K.str s)] w fun e w' => e = .returned (.tuple #[.int .i64 (SyA S s).1, .int .i64 (SyA S s).2.1]) ∧ Bld L w' B N R (SyA S s).2.2 ∧ Below B w w' ∧ KeepT w w' := by
  have HBL := hide hb
  obtain ⟨vT, vN, vR, Ms, Mt, ml, tl, h⟩ := id hb
  have hlk := look_sym h.w.ms h.so s hs
  have c4 : w.cell? ⟨R, 4, none⟩ = some (.map (some Ms)) := cell_of_row w R 4 _ _ _ h.w.b
  have hRs := (Array.getElem?_eq_some_iff.1 h.w.b).1
  clear h
  by_cases h1 : 0 ≤ Gm.find (Gm.names S.s.ts) s
  · have HE : Hid (SyA S s = (Gm.find (Gm.names S.s.ts) s, 0, S)) := hide (by unfold SyA; rw [if_pos h1])
    have he : symV S.s.ts S.ns s = some (.int .i64 (Gm.find (Gm.names S.s.ts) s)) := by unfold symV; rw [if_pos h1]
    rw [he] at hlk
    simp only [Option.getD_some, Option.isSome_some] at hlk
    rw [HE.out]
    clear h1 he hlt hb
    generalize Gm.find (Gm.names S.s.ts) s = z at *
    go_enter Tryz.func108, Tryz.ntmps108
    go_wp2
    go_ret2
    exact ⟨rfl, HBL.out, Below.refl _ _, KeepT.refl _⟩
  by_cases h2 : 0 ≤ Gm.find S.ns s
  · have HE : Hid (SyA S s = (-1 - Gm.find S.ns s, 0, S)) := hide (by unfold SyA; rw [if_neg h1, if_pos h2])
    have he : symV S.s.ts S.ns s = some (.int .i64 (-1 - Gm.find S.ns s)) := by unfold symV; rw [if_neg h1, if_pos h2]
    rw [he] at hlk
    simp only [Option.getD_some, Option.isSome_some] at hlk
    rw [HE.out]
    clear h1 h2 he hlt hb
    generalize -1 - Gm.find S.ns s = z at *
    go_enter Tryz.func108, Tryz.ntmps108
    go_wp2
    go_ret2
    exact ⟨rfl, HBL.out, Below.refl _ _, KeepT.refl _⟩
  have he : symV S.s.ts S.ns s = none := symV_none (by omega) (by omega)
  rw [he] at hlk
  simp only [Option.getD_none, Option.isSome_none] at hlk
  have HTM := hide (term_any9 L B N R S s w hb hs (by omega) hB hlt)
  have HLI := hide (fun x => lit_any s hs.1 hs.2 x)
  have HNA := hide (fun x => name_any s hs.1 x)
  by_cases h3 : T.isLit s = true
  · have HE : Hid (SyA S s = TmA S s) := hide (by unfold SyA; rw [if_neg h1, if_neg h2, if_pos (.inl h3)])
    rw [h3] at HLI
    rw [HE.out]
    generalize TmA S s = q at *
    clear h1 h2 h3 he hlt hb
    go_enter Tryz.func108, Tryz.ntmps108
    go_wp2_with fail
    refine (HLI.out _).mono ?_; rintro _ _ ⟨rfl, rfl⟩
    go_wp2_with fail
    refine HTM.out.mono ?_; rintro _ w2 ⟨rfl, hb2⟩
    have HB2 := hide hb2
    clear hb2
    go_wp2
    go_ret2
    exact ⟨rfl, HB2.out⟩
  rw [Bool.eq_false_iff.2 h3] at HLI
  by_cases h4 : s = [101, 114, 114, 111, 114]
  · have HE : Hid (SyA S s = TmA S s) := hide (by unfold SyA; rw [if_neg h1, if_neg h2, if_pos (.inr h4)])
    have e4 := error_yes h4
    rw [HE.out]
    generalize TmA S s = q at *
    clear h1 h2 h3 h4 he hlt hb hs hnm
    generalize K.str s = st at *
    go_enter Tryz.func108, Tryz.ntmps108
    go_wp2_with fail
    refine (HLI.out _).mono ?_; rintro _ _ ⟨rfl, rfl⟩
    go_wp2_with fail
    refine HTM.out.mono ?_; rintro _ w2 ⟨rfl, hb2⟩
    have HB2 := hide hb2
    clear hb2
    go_wp2
    go_ret2
    exact ⟨rfl, HB2.out⟩
  have HE : Hid (SyA S s = (0, 6, S)) := hide (by unfold SyA; rw [if_neg h1, if_neg h2, if_neg (by simp [h3, h4])])
  have e4 := error_no hs.1 h4
  have h5 : T.isName s = true := by
    unfold Gm.named at hnm
    rw [Bool.eq_false_iff.2 h3, Bool.or_false] at hnm
    exact hnm
  rw [h5] at HNA
  rw [HE.out]
  clear h1 h2 h3 h4 h5 he hlt hb hs hnm HTM
  generalize K.str s = st at *
  go_enter Tryz.func108, Tryz.ntmps108
  go_wp2_with fail
  refine (HLI.out _).mono ?_; rintro _ _ ⟨rfl, rfl⟩
  go_wp2_with fail
  refine (HNA.out _).mono ?_; rintro _ w2 ⟨rfl, hb2⟩
  have HB2 := hide hb2
  clear hb2
  go_wp2
  go_ret2
  exact ⟨rfl, HBL.out.below HB2.out, HB2.out.mono hB, KeepT.below HB2.out⟩

/-- What asking for a rule's symbol answers; for the terminal of its precedence. -/
def RiA (S : St) (i : Nat) (s : List Int) : Int × Int × St := if i = 6 then (0, 5, S) else SyA S s
def PrA (S : St) (s : List Int) : Int × Int × St := if (SyA S s).2.1 = 0 ∧ (SyA S s).1 < 0 then (0, 6, (SyA S s).2.2) else SyA S s
set_option maxHeartbeats 4000000 in
theorem right_any9 (L : List Int) (B N R : Nat) (S : St) (i : Nat) (s : List Int) (w : World) (hb : Bld L w B N R S) (hs : K.Tx s) (hnm : Gm.named s = true) (hB : B ≤ w.heap.size) (hlt : S.s.ts.length ≤ 24) :
    Calls Tryz.prog 88 #[.pointer (some ⟨R, 0, none⟩), .int .i64 i, .string (K.str s)] w fun e w' => e = .returned (.tuple #[.int .i64 (RiA S i s).1, .int .i64 (RiA S i s).2.1]) ∧ Bld L w' B N R (RiA S i s).2.2 ∧ Below B w w' ∧ KeepT w w' := by
  have HBL := hide hb
  have HIS := hide (fun x => isSpelt_any s hs x)
  have HSY := hide (symbol_any L B N R S s w hb hs hnm hB hlt)
  rw [hnm] at HIS
  unfold RiA
  clear hb hlt hs hnm
  by_cases h : i = 6
  · subst h
    rw [if_pos rfl]
    go_enter Tryz.func88, Tryz.ntmps88
    go_wp2_with fail
    refine (HIS.out _).mono ?_; rintro _ w2 ⟨rfl, hb2⟩
    have HB2 := hide hb2
    clear hb2
    go_wp2
    go_ret2
    exact ⟨rfl, HBL.out.below HB2.out, HB2.out.mono hB, KeepT.below HB2.out⟩
  · rw [if_neg h]
    have e6 : ((i : Int) == 6) = false := beq_eq_false_iff_ne.2 (by omega)
    clear h
    generalize SyA S s = q at *
    go_enter Tryz.func88, Tryz.ntmps88
    go_wp2_with fail
    refine HSY.out.mono ?_; rintro _ w2 ⟨rfl, hb2⟩
    have HB2 := hide hb2
    clear hb2
    go_wp2
    go_ret2
    exact ⟨rfl, HB2.out⟩
set_option maxHeartbeats 4000000 in
theorem prec_any9 (L : List Int) (B N R : Nat) (S : St) (s : List Int) (w : World) (hb : Bld L w B N R S) (hs : K.Tx s) (hnm : Gm.named s = true) (hB : B ≤ w.heap.size) (hlt : S.s.ts.length ≤ 24) :
    Calls Tryz.prog 89 #[.pointer (some ⟨R, 0, none⟩), .string (K.str s)] w fun e w' => e = .returned (.tuple #[.int .i64 (PrA S s).1, .int .i64 (PrA S s).2.1]) ∧ Bld L w' B N R (PrA S s).2.2 ∧ Below B w w' ∧ KeepT w w' := by
  have HSY := hide (symbol_any L B N R S s w hb hs hnm hB hlt)
  unfold PrA
  clear hb hlt hs hnm
  generalize SyA S s = q at *
  obtain ⟨z, e, S'⟩ := q
  simp only at HSY ⊢
  have HIT := hide (fun x => isTerm_any z x)
  by_cases h1 : e = 0
  · subst h1
    by_cases h2 : z < 0
    · rw [if_pos ⟨rfl, h2⟩]
      rw [decide_eq_false (by omega)] at HIT
      clear h2
      go_enter Tryz.func89, Tryz.ntmps89
      go_wp2_with fail
      refine HSY.out.mono ?_; rintro _ w2 ⟨rfl, hb2⟩
      have HB2 := hide hb2
      clear hb2
      go_wp2_with fail
      refine (HIT.out _).mono ?_; rintro _ w5 ⟨rfl, hw5⟩
      subst hw5
      go_wp2
      go_ret2
      exact ⟨rfl, HB2.out⟩
    · rw [if_neg (fun h => h2 h.2)]
      rw [decide_eq_true (show 0 ≤ z by omega)] at HIT
      clear h2
      go_enter Tryz.func89, Tryz.ntmps89
      go_wp2_with fail
      refine HSY.out.mono ?_; rintro _ w2 ⟨rfl, hb2⟩
      have HB2 := hide hb2
      clear hb2
      go_wp2_with fail
      refine (HIT.out _).mono ?_; rintro _ w5 ⟨rfl, hw5⟩
      subst hw5
      go_wp2
      go_ret2
      exact ⟨rfl, HB2.out⟩
  · rw [if_neg (fun h => h1 h.1)]
    have e1 : (e == 0) = false := beq_eq_false_iff_ne.2 h1
    clear h1
    go_enter Tryz.func89, Tryz.ntmps89
    go_wp2_with fail
    refine HSY.out.mono ?_; rintro _ w2 ⟨rfl, hb2⟩
    have HB2 := hide hb2
    clear hb2
    go_wp2
    go_ret2
    exact ⟨rfl, HB2.out⟩
end Go.Proofs.YtoehbkgdodogkaaGreat

/- Contracts over this program: what a builder does with declarations' names. -/
namespace Go.Proofs.YtoehbkgdodogkaaGreat
set_option maxRecDepth 100000
open Go.RowKit

theorem assocOf_any (k : Int) (hk : k = 4 ∨ k = 5 ∨ k = 6) (w : World) :
    Calls Tryz.prog 107 #[.int .i64 k] w fun e w' => e = .returned (.int .i64 (k - 3)) ∧ w' = w := by
  rcases hk with rfl | rfl | rfl
  all_goals
    go_enter Tryz.func107, Tryz.ntmps107
    go_wp2
    go_ret
    exact ⟨rfl, rfl⟩

def setTk (S : St) (s : List Int) : St := { S with s := { S.s with tk := S.s.tk ++ [s] } }
/-- What a name that is declared as a token answers. -/
def TkA (S : St) (s : List Int) : Int × St := if s ∈ S.s.tk then (7, S) else ((TmA (setTk S s) s).2.1, (TmA (setTk S s) s).2.2)
set_option maxHeartbeats 4000000 in
theorem tokenName_any (L : List Int) (B N R : Nat) (S : St) (s : List Int) (w : World) (hb : Bld L w B N R S) (hs : K.Tx s) (hn : Gm.find S.ns s < 0) (hB : B ≤ w.heap.size) (hlt : S.s.ts.length ≤ 24) :
    Calls Tryz.prog 105 #[.pointer (some ⟨R, 0, none⟩), .string (K.str s)] w fun e w' => e = .returned (.int .i64 (TkA S s).1) ∧ Bld L w' B N R (TkA S s).2 ∧ Below B w w' ∧ KeepT w w' := by
  have HBL := hide hb
  obtain ⟨vT, vN, vR, Ms, Mt, ml, tl, h⟩ := id hb
  have HH := hide h
  have hlk := look_tok h.w.mt h.ko s hs
  have c5 : w.cell? ⟨R, 5, none⟩ = some (.map (some Mt)) := cell_of_row w R 5 _ _ _ h.w.b
  have hRs := (Array.getElem?_eq_some_iff.1 h.w.b).1
  have hMt := h.w.ht
  clear h
  by_cases h1 : s ∈ S.s.tk
  · have HE : Hid (TkA S s = (7, S)) := hide (by unfold TkA; rw [if_pos h1])
    rw [decide_eq_true h1] at hlk
    rw [HE.out]
    clear h1 hlt hb
    go_enter Tryz.func105, Tryz.ntmps105
    go_wp2
    go_ret
    exact ⟨rfl, HBL.out, Below.refl _ _, KeepT.refl _⟩
  have HE : Hid (TkA S s = ((TmA (setTk S s) s).2.1, (TmA (setTk S s) s).2.2)) := hide (by unfold TkA; rw [if_neg h1])
  rw [decide_eq_false h1] at hlk
  have HNO : Hid (Mw.asc tl s = none) := hide (by rw [HH.out.ko s, if_neg h1])
  have HST := hide (Mw.run_store (x := s) HH.out.w.mt strK Tryz.underlying62 hs (.bool true) (.inl HNO.out))
  rw [if_pos HNO.out] at HST
  have HB1 := hide (fun (w1 : World) (hg : w.grownBy w1 (some Mt)) => below_row hg (fun k e => by injection e with e; omega) hB)
  have HTM := hide (fun (w1 : World) (hm : Mw.MapIs strE w1 Mt (tl ++ [(s, .bool true)])) (hg : w.grownBy w1 (some Mt)) => term_any9 L B N R (setTk S s) s w1 ⟨vT, vN, vR, Ms, Mt, ml, _, ⟨HH.out.w.mt_put hm hg, HH.out.so, HH.out.ko.next h1⟩⟩ hs hn (Nat.le_trans hB hg.size) hlt)
  rw [HE.out]
  generalize TmA (setTk S s) s = q at *
  clear h1 hlt hb hn
  go_enter Tryz.func105, Tryz.ntmps105
  go_wp2_with (at_mapUpdate; refine Mw.wpList_store rfl _ _ _ _ rfl HST.out rfl rfl rfl ?_; rintro w1 ⟨hm1, hg1⟩)
  refine (HTM.out _ hm1 hg1).mono ?_; rintro _ w2 ⟨rfl, hb2, hb3, hk2⟩
  have H2 := hide (And.intro hb2 (And.intro hb3 hk2))
  have HG1 := hide hg1
  clear hm1 hg1 hb2 hb3 hk2
  go_wp2
  go_ret
  exact ⟨rfl, H2.out.1, (HB1.out _ HG1.out).trans H2.out.2.1, (KeepT.map HG1.out HH.out.w.mt).trans H2.out.2.2⟩

/-! ### a terminal's level -/
theorem tms_set (ts : List Gm.Tm) (n : Nat) (h : n < ts.length) (a b : Int) : ((tmsC ts).set (n * 3 + 1) (.int .i64 a)).set (n * 3 + 2) (.int .i64 b) = tmsC (ts.modify n fun t => ⟨t.nm, a, b⟩) := by
  induction ts generalizing n with
  | nil => simp at h
  | cons t r ih =>
    have e : tmsC (t :: r) = tmC t ++ tmsC r := by unfold tmsC; rw [List.flatMap_cons]
    cases n with
    | zero =>
      rw [e]
      simp [tmC, tmsC, List.modify]
    | succ n =>
      have hl : (tmC t).length = 3 := rfl
      rw [e, List.set_append_right _ _ (by omega), List.set_append_right _ _ (by omega), hl, show (n + 1) * 3 + 1 - 3 = n * 3 + 1 by omega, show (n + 1) * 3 + 2 - 3 = n * 3 + 2 by omega, ih n (by simpa using h)]
      rw [List.modify_succ_cons]
      unfold tmsC
      rw [List.flatMap_cons]
theorem tm_cells {w : World} {base : Nat} {v : Value} {ts : List Gm.Tm} (h : OwnTm w base v ts) (n : Nat) (hn : n < ts.length) : ∃ g c, v = .slice (some ⟨g, 0, none⟩) ts.length c ∧ ts.length ≤ c ∧ w.cell? ⟨g, n * 3 + 1, none⟩ = some (.int .i64 ts[n].lv) ∧ w.cell? ⟨g, n * 3 + 2, none⟩ = some (.int .i64 ts[n].wy) ∧ (∀ j, w.frozen? ⟨g, j, none⟩ = false) ∧ base ≤ g ∧ g < w.heap.size ∧ ∃ cur, w.heap[g]? = some (.cells cur 45 (0, 0)) := by
  rcases h.2 with ⟨_, h0⟩ | ⟨g, cap, cur, rfl, hb, hg, hnc, hm, hs, ht⟩
  · omega
  · refine ⟨g, cap, rfl, hnc, ?_, ?_, fun j => frozen_of_row w g j _ _ hg, hb, (Array.getElem?_eq_some_iff.1 hg).1, cur, hg⟩
    · rw [World.ownsRow.cellAt h (n * 3 + 1) (by omega)]
      exact three_at tmC (fun _ => rfl) ts n 1 hn (by omega)
    · rw [World.ownsRow.cellAt h (n * 3 + 2) (by omega)]
      exact three_at tmC (fun _ => rfl) ts n 2 hn (by omega)
def setLv (S : St) (n : Nat) (a : Int) : St := { S with s := { S.s with ts := S.s.ts.modify n fun t => ⟨t.nm, S.s.lv, a⟩ } }
/-- What a name that gets a level answers. -/
def LvA (S : St) (s : List Int) (a : Int) : Int × St :=
  if (TmA S s).2.1 ≠ 0 then ((TmA S s).2.1, (TmA S s).2.2) else if 0 < ((TmA S s).2.2.s.ts.map Gm.Tm.lv).getD (TmA S s).1.toNat 0 then (7, (TmA S s).2.2) else (0, setLv (TmA S s).2.2 (TmA S s).1.toNat a)
theorem tmA_lt (S : St) (s : List Int) (h : (TmA S s).2.1 = 0) : ∃ n : Nat, (TmA S s).1 = (n : Int) ∧ n < (TmA S s).2.2.s.ts.length := by
  unfold TmA at *
  by_cases h1 : 0 ≤ Gm.find (Gm.names S.s.ts) s
  · rw [if_pos h1]
    have := Gm.find_lt (Gm.names S.s.ts) s
    simp only [Gm.names, List.length_map] at this
    exact ⟨(Gm.find (Gm.names S.s.ts) s).toNat, by simp only; omega, by simp only [Gm.names] at *; omega⟩
  · rw [if_neg h1] at h ⊢
    by_cases h2 : S.s.ts.length = 24
    · rw [if_pos h2] at h; simp at h
    · rw [if_neg h2]
      exact ⟨S.s.ts.length, rfl, by simp⟩
set_option maxHeartbeats 4000000 in
theorem levelName_any (L : List Int) (B N R : Nat) (S : St) (s : List Int) (a : Int) (w : World) (hb : Bld L w B N R S) (hs : K.Tx s) (hn : Gm.find S.ns s < 0) (hB : B ≤ w.heap.size) (hlt : S.s.ts.length ≤ 24) :
    Calls Tryz.prog 106 #[.pointer (some ⟨R, 0, none⟩), .string (K.str s), .int .i64 a] w fun e w' => e = .returned (.int .i64 (LvA S s a).1) ∧ Bld L w' B N R (LvA S s a).2 ∧ Below B w w' ∧ KeepT w w' := by
  have HTM := hide (term_any9 L B N R S s w hb hs hn hB hlt)
  have HLT := hide (tmA_lt S s)
  unfold LvA
  clear hb hlt hs hn
  generalize TmA S s = q at *
  obtain ⟨z, er, S'⟩ := q
  simp only at HTM HLT ⊢
  by_cases h0 : er = 0
  case neg =>
    rw [if_pos h0]
    have e0 : (er != 0) = true := by simpa using h0
    clear h0
    go_enter Tryz.func106, Tryz.ntmps106
    go_wp2_with fail
    refine HTM.out.mono ?_; rintro _ w2 ⟨rfl, hb2⟩
    have HB2 := hide hb2
    clear hb2
    go_wp2
    go_ret
    exact ⟨rfl, HB2.out⟩
  rw [if_neg (fun h => h h0)]
  obtain ⟨n, hz, hnl⟩ := HLT.out h0
  subst h0
  subst hz
  have hget : (S'.s.ts.map Gm.Tm.lv).getD ((n : Int)).toNat 0 = S'.s.ts[n].lv := by simp [hnl]
  rw [hget]
  have hnn : ((n : Int)).toNat = n := rfl
  rw [hnn]
  by_cases h2 : 0 < S'.s.ts[n].lv
  · rw [if_pos h2]
    have HTC := hide (fun (x : World) (vT : Value) (h : OwnTm x B vT S'.s.ts) => tm_cells h n hnl)
    generalize S'.s.ts[n].lv = lv at *
    generalize S'.s.ts[n].wy = wy at *
    clear hget hnn
    go_enter Tryz.func106, Tryz.ntmps106
    go_wp2_with fail
    refine HTM.out.mono ?_; rintro _ w2 ⟨rfl, hb2⟩
    have HB2 := hide hb2
    obtain ⟨⟨vT, vN, vR, Ms, Mt, ml, tl, h⟩, _⟩ := hb2
    obtain ⟨g, c, rfl, hc, k1, k2, hf, _, hgs, _⟩ := HTC.out _ _ h.w.t
    have c0 : w2.cell? ⟨R, 0, none⟩ = some (.slice (some ⟨g, 0, none⟩) S'.s.ts.length c) := cell_of_row w2 R 0 _ _ _ h.w.b
    have hRs := (Array.getElem?_eq_some_iff.1 h.w.b).1
    clear h
    go_wp2
    go_ret
    exact ⟨rfl, HB2.out⟩
  · rw [if_neg h2]
    have HTC := hide (fun (x : World) (vT : Value) (h : OwnTm x B vT S'.s.ts) => tm_cells h n hnl)
    have h2' := Int.not_lt.1 h2
    generalize S'.s.ts[n].lv = lv at *
    generalize S'.s.ts[n].wy = wy at *
    clear hget hnn h2
    go_enter Tryz.func106, Tryz.ntmps106
    go_wp2_with fail
    refine HTM.out.mono ?_; rintro _ w2 ⟨rfl, hb2⟩
    have HB2 := hide hb2
    obtain ⟨⟨vT, vN, vR, Ms, Mt, ml, tl, h⟩, hb3, hk3⟩ := hb2
    obtain ⟨g, c, rfl, hc, k1, k2, hf, hBg, hgs, cur, hcur⟩ := HTC.out _ _ h.w.t
    have HH := hide h
    have HK := hide (And.intro hb3 hk3)
    have HCU := hide hcur
    have c0 : w2.cell? ⟨R, 0, none⟩ = some (.slice (some ⟨g, 0, none⟩) S'.s.ts.length c) := cell_of_row w2 R 0 _ _ _ h.w.b
    have c6 : w2.cell? ⟨R, 6, none⟩ = some (.int .i64 S'.s.lv) := cell_of_row w2 R 6 _ _ _ h.w.b
    have hRs := (Array.getElem?_eq_some_iff.1 h.w.b).1
    have f1 := hf (n * 3 + 1)
    have f2 := hf (n * 3 + 2)
    clear h hb3 hk3 hcur hf
    go_wp2
    go_ret
    have ho := HH.out.w.t
    have s1 := World.ownsRow.stored ho (n * 3 + 1) (.int .i64 S'.s.lv)
    have s2 := World.ownsRow.stored s1.1 (n * 3 + 2) (.int .i64 a)
    have hg : w2.grownBy ((w2.setCell ⟨g, n * 3 + 1, none⟩ (.int .i64 S'.s.lv)).setCell ⟨g, n * 3 + 2, none⟩ (.int .i64 a)) (some g) := only_set (only_set (World.grownBy.refl _ _) _ _) _ _
    have hOT : OwnTm ((w2.setCell ⟨g, n * 3 + 1, none⟩ (.int .i64 S'.s.lv)).setCell ⟨g, n * 3 + 2, none⟩ (.int .i64 a)) B (.slice (some ⟨g, 0, none⟩) S'.s.ts.length c) (S'.s.ts.modify n fun t => ⟨t.nm, S'.s.lv, a⟩) := by
      unfold OwnTm
      rw [List.length_modify, ← tms_set S'.s.ts n hnl]
      exact s2.1
    refine ⟨rfl, ⟨.slice (some ⟨g, 0, none⟩) S'.s.ts.length c, vN, vR, Ms, Mt, ml, tl, ⟨HH.out.w.tm_put hOT hg, HH.out.so.same (Gm.names_modify _ _ _ (fun _ => rfl)), HH.out.ko⟩⟩, HK.out.1.grown hg (Nat.le_trans hB HK.out.1.size) (fun k e => by injection e with e; omega), HK.out.2.trans (KeepT.cells hg HCU.out (.inr rfl))⟩
end Go.Proofs.YtoehbkgdodogkaaGreat

/- Contracts over this program: what a builder does with declarations. -/
namespace Go.Proofs.YtoehbkgdodogkaaGreat
set_option maxRecDepth 100000
open Go.RowKit

/-- A reference as a value. -/
def rfX (L : List Int) (x : Tok) : Nat := Fl.fl (Pl.pos (L.take x.o)).1
def rfY (L : List Int) (x : Tok) : Nat := Fl.fl (Pl.pos (L.take x.o)).2
def setSt (S : St) (x : Tok) : St := { S with s := { S.s with st := some x } }
def SnA (S : St) (x : Tok) : Int × St := if S.s.st.isSome then (7, S) else (0, setSt S x)
set_option maxHeartbeats 4000000 in
theorem startName_any (L : List Int) (B N R : Nat) (S : St) (x : Tok) (w : World) (hb : Bld L w B N R S) (hs : K.Tx x.t) (hnm : T.isName x.t = true) (hst : ∀ y, S.s.st = some y → T.isName y.t = true) (hB : B ≤ w.heap.size) :
    Calls Tryz.prog 104 #[.pointer (some ⟨R, 0, none⟩), .agg #[.string (K.str x.t), .complex .f64 (rfX L x) (rfY L x)]] w fun e w' => e = .returned (.int .i64 (SnA S x).1) ∧ Bld L w' B N R (SnA S x).2 ∧ Below B w w' ∧ KeepT w w' := by
  have SC := fun a w m X Y => show (store a (.complex .f64 X Y) m).run Tryz.prog w = stored Tryz.prog w a (.complex .f64 X Y) m from run_store _ w a _ m rfl
  have HBL := hide hb
  have HNA := hide (fun x1 => name_any x.t hs.1 x1)
  rw [hnm] at HNA
  have HB1 := hide (fun o => (Below.refl w.heap.size w).alloc (Nat.le_refl _) o)
  have HX : Hid (rfX L x = soX L (some x)) := hide rfl
  have HY : Hid (rfY L x = soY L (some x)) := hide rfl
  have HS : Hid (K.str x.t = soS (some x)) := hide rfl
  unfold SnA
  clear hb hs hnm
  rcases hq : S.s.st with _ | y
  · have HQ := hide hq
    have hso : soS S.s.st = ⟨#[]⟩ := by rw [hq]; rfl
    clear hq hst
    simp only [Option.isSome_none, Bool.false_eq_true, if_false]
    generalize rfX L x = X at *
    generalize rfY L x = Y at *
    generalize K.str x.t = sx at *
    go_enter Tryz.func104, Tryz.ntmps104
    go_wp2_with fail
    refine (HNA.out _).mono ?_; rintro _ w2 ⟨rfl, hb2⟩
    have HB2 := hide ((HB1.out _).trans (hb2.mono (by simp)))
    obtain ⟨vT, vN, vR, Ms, Mt, ml, tl, h⟩ := HBL.out.below HB2.out
    have HH := hide h
    have c7 : w2.cell? ⟨R, 7, none⟩ = some (.string ⟨#[]⟩) := (cell_of_row w2 R 7 _ _ _ h.w.b).trans (by rw [← hso]; rfl)
    have c8 : w2.cell? ⟨R, 8, none⟩ = some (.complex .f64 (soX L S.s.st) (soY L S.s.st)) := cell_of_row w2 R 8 _ _ _ h.w.b
    have f7 := frozen_of_row w2 R 7 _ _ h.w.b
    have f8 := frozen_of_row w2 R 8 _ _ h.w.b
    have hRs := (Array.getElem?_eq_some_iff.1 h.w.b).1
    have hbb := (hb2.block w.heap.size (by simp)).trans (heap_alloc_new w _)
    have d0 := cell_of_row w2 _ 0 _ _ _ hbb
    have d1 := cell_of_row w2 _ 1 _ _ _ hbb
    have hz : w.heap.size < w2.heap.size := (Array.getElem?_eq_some_iff.1 hbb).1
    clear h hb2 hbb hso
    go_wp2
    go_ret
    have a2 := (HH.out.w.set 7 (.string sx)).set 8 (.complex .f64 X Y)
    refine ⟨rfl, ⟨vT, vN, vR, Ms, Mt, ml, tl, ⟨?_, HH.out.so, HH.out.ko⟩⟩, ((HB2.out.mono hB).setCell HH.out.w.hR _).setCell HH.out.w.hR _, ?_⟩
    · have e : bCells L vT vN vR Ms Mt (setSt S x) = ((bCells L vT vN vR Ms Mt S).setIfInBounds 7 (.string sx)).setIfInBounds 8 (.complex .f64 X Y) := by rw [HX.out, HY.out, HS.out]; rfl
      rw [e]
      exact a2
    · refine (KeepT.below HB2.out).trans (KeepT.cells (only_set (only_set (World.grownBy.refl _ _) _ _) _ _) HH.out.w.b (.inl rfl))
  · have hne : y.t ≠ [] := fun e => by have := hst y hq; rw [e] at this; simp [T.isName] at this
    have hso : soS S.s.st = K.str y.t := by rw [hq]; rfl
    have hsn : ¬ (K.str y.t).toList = [] := by rw [K.str_list]; intro e; exact hne (by simpa [K.bytes] using e)
    clear hq hst hne
    simp only [Option.isSome_some, if_true]
    generalize rfX L x = X at *
    generalize rfY L x = Y at *
    generalize K.str x.t = sx at *
    generalize K.str y.t = sy at *
    have hsn' : sy.toList.isEmpty = false := by simpa using hsn
    go_enter Tryz.func104, Tryz.ntmps104
    go_wp2_with fail
    refine (HNA.out _).mono ?_; rintro _ w2 ⟨rfl, hb2⟩
    have HB2 := hide ((HB1.out _).trans (hb2.mono (by simp)))
    obtain ⟨vT, vN, vR, Ms, Mt, ml, tl, h⟩ := HBL.out.below HB2.out
    have c7 : w2.cell? ⟨R, 7, none⟩ = some (.string sy) := (cell_of_row w2 R 7 _ _ _ h.w.b).trans (by rw [← hso]; rfl)
    have hRs := (Array.getElem?_eq_some_iff.1 h.w.b).1
    clear h hb2 hso
    go_wp2
    go_ret
    exact ⟨rfl, HBL.out.below HB2.out, HB2.out.mono hB, KeepT.below HB2.out⟩

/-! ### the document's own words -/
theorem tmA_put (S : St) (x : Tok) : (∀ ts' n, Gm.put S.s.ts x = .ok (ts', n) → TmA S x.t = (n, 0, { S with s := { S.s with ts := ts' } })) ∧ (∀ y e, Gm.put S.s.ts x = .bad y e → (TmA S x.t).2.1 = e ∧ e ≠ 0 ∧ y = x) := by
  unfold Gm.put TmA
  by_cases h1 : 0 ≤ Gm.find (Gm.names S.s.ts) x.t
  · simp only [if_pos h1]
    refine ⟨?_, ?_⟩
    · intro ts' n h; injection h with h; injection h with h1 h2; subst h1 h2; rfl
    · intro y e h; cases h
  · simp only [if_neg h1]
    by_cases h2 : S.s.ts.length = 24
    · simp only [if_pos h2]
      refine ⟨?_, ?_⟩
      · intro ts' n h; cases h
      · intro y e h; injection h with h1 h2; subst h1 h2; exact ⟨rfl, by decide, rfl⟩
    · simp only [if_neg h2]
      refine ⟨?_, ?_⟩
      · intro ts' n h; injection h with h; injection h with h1 h2; subst h1 h2; rfl
      · intro y e h; cases h
/-- What a call answers of what is told. -/
def AnsD (S : St) (x : Tok) (r : Gm.R Gm.S1) (a : Int × St) : Prop := match r with
  | .ok s => a = (0, { S with s := s })
  | .bad y e => a.1 = e ∧ e ≠ 0 ∧ y = x
theorem tkA_ans (S : St) (x : Tok) : AnsD S x (Gm.decl1 3 S.s x) (TkA S x.t) := by
  unfold Gm.decl1 TkA
  rw [if_neg (by decide), if_pos rfl]
  by_cases h : x.t ∈ S.s.tk
  · rw [if_pos h, if_pos h]; exact ⟨rfl, by decide, rfl⟩
  · rw [if_neg h, if_neg h]
    obtain ⟨p1, p2⟩ := tmA_put (setTk S x.t) x
    cases hp : Gm.put S.s.ts x with
    | ok q =>
      obtain ⟨ts', n⟩ := q
      rw [p1 ts' n hp]
      rfl
    | bad y e =>
      exact p2 y e hp
theorem snA_ans (S : St) (x : Tok) : AnsD S x (Gm.decl1 7 S.s x) (SnA S x) := by
  unfold Gm.decl1 SnA
  rw [if_pos rfl]
  by_cases h : S.s.st.isSome = true
  · rw [if_pos h, if_pos h]; exact ⟨rfl, by decide, rfl⟩
  · rw [if_neg h, if_neg h]; rfl
theorem lvA_ans (S : St) (x : Tok) (k : Int) (hk : k = 4 ∨ k = 5 ∨ k = 6) : AnsD S x (Gm.decl1 k S.s x) (LvA S x.t (k - 3)) := by
  unfold Gm.decl1
  rw [if_neg (by omega), if_neg (by omega)]
  obtain ⟨p1, p2⟩ := tmA_put S x
  unfold LvA
  cases hp : Gm.put S.s.ts x with
  | bad y e =>
    obtain ⟨q1, q2, q3⟩ := p2 y e hp
    have hn : ¬ (0 ≤ Gm.find (Gm.names S.s.ts) x.t ∧ 0 < (S.s.ts.map Gm.Tm.lv).getD (Gm.find (Gm.names S.s.ts) x.t).toNat 0) := by
      rintro ⟨h1, _⟩
      unfold Gm.put at hp
      rw [if_pos h1] at hp
      cases hp
    rw [if_neg hn, if_pos (by rw [q1]; exact q2)]
    exact ⟨q1, q2, q3⟩
  | ok q =>
    obtain ⟨ts', n⟩ := q
    rw [p1 ts' n hp]
    simp only [ne_eq, not_true_eq_false, if_false]
    rcases Gm.put_ok hp with ⟨j, h1, h2, h3, hj, _⟩ | ⟨h1, h2, h3, h4⟩
    · subst h2
      rw [h1, h3]
      by_cases hl : 0 < (S.s.ts.map Gm.Tm.lv).getD (j : Int).toNat 0
      · rw [if_pos ⟨by omega, hl⟩, if_pos hl]; exact ⟨rfl, by decide, rfl⟩
      · rw [if_neg (fun h => hl h.2), if_neg hl]; rfl
    · have hf : Gm.find (Gm.names S.s.ts) x.t < 0 := Gm.find_none.2 h1
      rw [if_neg (by omega)]
      subst h2 h3
      have h0 : ((S.s.ts ++ [(⟨x.t, 0, 0⟩ : Gm.Tm)]).map Gm.Tm.lv).getD ((S.s.ts.length : Int)).toNat 0 = 0 := by simp
      rw [h0, if_neg (by decide)]
      rfl
end Go.Proofs.YtoehbkgdodogkaaGreat

/- Contracts over this program: a builder's declarations. -/
namespace Go.Proofs.YtoehbkgdodogkaaGreat
set_option maxRecDepth 100000
open Go.RowKit

/-! ### a source that is read -/
/-- A slice value's address A, with these references, all of it below block B. -/
def RdRf (L : List Int) (w : World) (B : Nat) (A : Option Addr) (xs : List Tok) : Prop :=
  xs.length ≠ 0 → ∃ g o, A = some ⟨g, o, none⟩ ∧ g < B ∧ ∀ i (h : i < xs.length), w.cell? ⟨g, o + i * 2, none⟩ = some (.string (K.str xs[i].t)) ∧ w.cell? ⟨g, o + i * 2 + 1, none⟩ = some (.complex .f64 (rfX L xs[i]) (rfY L xs[i]))
def RdDl (L : List Int) (w : World) (B : Nat) (A : Option Addr) (ds : List Y.Dcl) : Prop :=
  ds.length ≠ 0 → ∃ g o, A = some ⟨g, o, none⟩ ∧ g < B ∧ ∀ i (h : i < ds.length), w.cell? ⟨g, o + i * 2, none⟩ = some (.int .i64 ds[i].k) ∧ ∃ A' c', w.cell? ⟨g, o + i * 2 + 1, none⟩ = some (.slice A' ds[i].ns.length c') ∧ RdRf L w B A' ds[i].ns
theorem RdRf.keep {L : List Int} {w w' : World} {B : Nat} {A : Option Addr} {xs : List Tok} (h : RdRf L w B A xs) (hb : Below B w w') : RdRf L w' B A xs := fun hn => by
  obtain ⟨g, o, e, hg, hc⟩ := h hn
  exact ⟨g, o, e, hg, fun i hi => ⟨(hb.cell (p := ⟨g, o + i * 2, none⟩) hg).trans (hc i hi).1, (hb.cell (p := ⟨g, o + i * 2 + 1, none⟩) hg).trans (hc i hi).2⟩⟩
theorem RdDl.keep {L : List Int} {w w' : World} {B : Nat} {A : Option Addr} {xs : List Y.Dcl} (h : RdDl L w B A xs) (hb : Below B w w') : RdDl L w' B A xs := fun hn => by
  obtain ⟨g, o, e, hg, hc⟩ := h hn
  refine ⟨g, o, e, hg, fun i hi => ?_⟩
  obtain ⟨h1, A', c', h2, h3⟩ := hc i hi
  exact ⟨(hb.cell (p := ⟨g, o + i * 2, none⟩) hg).trans h1, A', c', (hb.cell (p := ⟨g, o + i * 2 + 1, none⟩) hg).trans h2, h3.keep hb⟩

/-- What a name of a declaration answers. -/
def NmA (k : Int) (S : St) (x : Tok) : Int × St := if k = 7 then SnA S x else if k = 3 then TkA S x.t else LvA S x.t (k - 3)
theorem nmA_ans (k : Int) (hk : k = 3 ∨ k = 4 ∨ k = 5 ∨ k = 6 ∨ k = 7) (S : St) (x : Tok) : AnsD S x (Gm.decl1 k S.s x) (NmA k S x) := by
  unfold NmA
  rcases hk with rfl | rfl | rfl | rfl | rfl
  · rw [if_neg (by decide), if_pos rfl]; exact tkA_ans S x
  · rw [if_neg (by decide), if_neg (by decide)]; exact lvA_ans S x 4 (by omega)
  · rw [if_neg (by decide), if_neg (by decide)]; exact lvA_ans S x 5 (by omega)
  · rw [if_neg (by decide), if_neg (by decide)]; exact lvA_ans S x 6 (by omega)
  · rw [if_pos rfl]; exact snA_ans S x
set_option maxHeartbeats 4000000 in
theorem nameB_any (L : List Int) (B N R : Nat) (k : Int) (hk : k = 3 ∨ k = 4 ∨ k = 5 ∨ k = 6 ∨ k = 7) (S : St) (x : Tok) (w : World) (hb : Bld L w B N R S) (hs : K.Tx x.t) (hnm : Gm.named x.t = true) (h7 : k = 7 → T.isName x.t = true) (hst : ∀ y, S.s.st = some y → T.isName y.t = true) (hn : Gm.find S.ns x.t < 0) (hB : B ≤ w.heap.size) (hlt : S.s.ts.length ≤ 24) :
    Calls Tryz.prog 87 #[.pointer (some ⟨R, 0, none⟩), .int .i64 k, .agg #[.string (K.str x.t), .complex .f64 (rfX L x) (rfY L x)]] w fun e w' => e = .returned (.int .i64 (NmA k S x).1) ∧ Bld L w' B N R (NmA k S x).2 ∧ Below B w w' ∧ KeepT w w' := by
  have SC := fun a w m X Y => show (store a (.complex .f64 X Y) m).run Tryz.prog w = stored Tryz.prog w a (.complex .f64 X Y) m from run_store _ w a _ m rfl
  have HBL := hide hb
  have HIS := hide (fun y => isSpelt_any x.t hs y)
  rw [hnm] at HIS
  have HB1 := hide (fun o => (Below.refl w.heap.size w).alloc (Nat.le_refl _) o)
  have HSN := hide (fun (y : World) (h : Below w.heap.size w y) (h7 : k = 7) (hx : k = 7 → T.isName x.t = true) => startName_any L B N R S x y (HBL.out.below h) hs (hx h7) hst (Nat.le_trans hB h.size))
  have HTK := hide (fun (y : World) (h : Below w.heap.size w y) => tokenName_any L B N R S x.t y (HBL.out.below h) hs hn (Nat.le_trans hB h.size) hlt)
  have HLV := hide (fun (y : World) (h : Below w.heap.size w y) => levelName_any L B N R S x.t (k - 3) y (HBL.out.below h) hs hn (Nat.le_trans hB h.size) hlt)
  have HAS := hide (fun y (h : k = 4 ∨ k = 5 ∨ k = 6) => assocOf_any k h y)
  unfold NmA
  clear hb hs hnm hst hn hlt
  by_cases e7 : k = 7
  · rw [if_pos e7]
    have H := hide (fun (y : World) (h : Below w.heap.size w y) => HSN.out y h e7 h7)
    subst e7
    generalize SnA S x = q at *
    generalize rfX L x = X at *
    generalize rfY L x = Y at *
    generalize K.str x.t = sx at *
    clear hk h7 HSN HTK HLV HAS
    go_enter Tryz.func87, Tryz.ntmps87
    go_wp2_with fail
    refine (HIS.out _).mono ?_; rintro _ w2 ⟨rfl, hb2⟩
    have HB2 := hide ((HB1.out _).trans (hb2.mono (by simp)))
    have hbb := (hb2.block w.heap.size (by simp)).trans (heap_alloc_new w _)
    have d0 := cell_of_row w2 _ 0 _ _ _ hbb
    have d1 := cell_of_row w2 _ 1 _ _ _ hbb
    have hz : w.heap.size < w2.heap.size := (Array.getElem?_eq_some_iff.1 hbb).1
    clear hb2 hbb
    go_wp2_with fail
    refine (H.out _ HB2.out).mono ?_; rintro _ w3 ⟨rfl, hb3⟩
    have HB3 := hide hb3
    clear hb3
    go_wp2
    go_ret
    exact ⟨rfl, HB3.out.1, (HB2.out.mono hB).trans HB3.out.2.1, (KeepT.below HB2.out).trans HB3.out.2.2⟩
  rw [if_neg e7]
  by_cases e3 : k = 3
  · rw [if_pos e3]
    subst e3
    generalize TkA S x.t = q at *
    generalize rfX L x = X at *
    generalize rfY L x = Y at *
    generalize K.str x.t = sx at *
    clear hk h7 HSN HLV HAS e7
    go_enter Tryz.func87, Tryz.ntmps87
    go_wp2_with fail
    refine (HIS.out _).mono ?_; rintro _ w2 ⟨rfl, hb2⟩
    have HB2 := hide ((HB1.out _).trans (hb2.mono (by simp)))
    have hbb := (hb2.block w.heap.size (by simp)).trans (heap_alloc_new w _)
    have d0 := cell_of_row w2 _ 0 _ _ _ hbb
    have hz : w.heap.size < w2.heap.size := (Array.getElem?_eq_some_iff.1 hbb).1
    clear hb2 hbb
    go_wp2_with fail
    refine (HTK.out _ HB2.out).mono ?_; rintro _ w3 ⟨rfl, hb3⟩
    have HB3 := hide hb3
    clear hb3
    go_wp2
    go_ret
    exact ⟨rfl, HB3.out.1, (HB2.out.mono hB).trans HB3.out.2.1, (KeepT.below HB2.out).trans HB3.out.2.2⟩
  rw [if_neg e3]
  have HAS := hide (fun y => HAS.out y (by omega))
  have f7 : (k == 7) = false := beq_eq_false_iff_ne.2 e7
  have f3 : (k == 3) = false := beq_eq_false_iff_ne.2 e3
  generalize LvA S x.t (k - 3) = q at *
  generalize k - 3 = a at *
  generalize rfX L x = X at *
  generalize rfY L x = Y at *
  generalize K.str x.t = sx at *
  clear hk h7 HSN HTK e7 e3
  go_enter Tryz.func87, Tryz.ntmps87
  go_wp2_with fail
  refine (HIS.out _).mono ?_; rintro _ w2 ⟨rfl, hb2⟩
  have HB2 := hide ((HB1.out _).trans (hb2.mono (by simp)))
  have hbb := (hb2.block w.heap.size (by simp)).trans (heap_alloc_new w _)
  have d0 := cell_of_row w2 _ 0 _ _ _ hbb
  have hz : w.heap.size < w2.heap.size := (Array.getElem?_eq_some_iff.1 hbb).1
  have HBB := hide hbb
  clear hb2
  go_wp2_with fail
  have D0 := fun y : Calm.OnB w.heap.size w2 => (cell_of_row y.1 w.heap.size 0 _ _ _ (y.2.trans hbb))
  refine Calm.region_tree (fun x => ∃ y : Calm.OnB w.heap.size w2, x = y.1) (.one [0, 1, 2, 3] 4 (.one [] 5 (.fin [6]))) (by kernel_rfl) (by kernel_rfl) (fun _ _ d _ _ h => by cases d <;> exact h) ⟨⟨w2.drew, rfl⟩, rfl⟩ ?_
  clear d0 hbb
  simp only [Calm.wpT, Calm.wpSt, Calm.pickOps, List.getElem?_toArray, List.getElem?_cons_zero, List.getElem?_cons_succ]
  repeat (go_big_quiet_step (fail))
  refine wpQuiet_nil ?_
  clear D0
  intro KK hKK
  rw [if_pos (by rfl)]
  go_wp2_with fail
  refine (HAS.out _).mono ?_; rintro _ w5 ⟨rfl, hw5⟩
  subst hw5
  go_wp2_with fail
  refine hKK _ _ ⟨⟨w2.drew, rfl⟩, rfl⟩ (fun x => ∃ y : Calm.OnB w.heap.size w2, x = y.1) (fun _ h => h) ⟨⟨w2.drew, rfl⟩, rfl⟩ ?_
  refine wpQuiet_nil ?_
  intro KK hKK
  rw [if_pos (by rfl)]
  go_wp2_with fail
  refine (HLV.out _ (below_drewN HB2.out 1)).mono ?_; rintro _ w3 ⟨rfl, hb3⟩
  have HB3 := hide hb3
  have HK3 := hide ((hb3.2.2 w.heap.size _ _ HBB.out (by decide) (by decide)).trans HBB.out.symm)
  clear hb3
  go_wp2_with fail
  refine hKK _ _ ⟨⟨_, HK3.out⟩, rfl⟩ (fun x => ∃ y : Calm.OnB w.heap.size w2, x = y.1) (fun _ h => h) ⟨⟨_, HK3.out⟩, rfl⟩ ?_
  repeat (go_big_quiet_step (fail))
  refine wpQuiet_nil ?_
  clear hKK
  go_wp2
  go_ret
  exact ⟨rfl, HB3.out.1, (below_drewN (HB2.out.mono hB) 1).trans HB3.out.2.1, (KeepT.below (below_drewN HB2.out 1)).trans HB3.out.2.2⟩
end Go.Proofs.YtoehbkgdodogkaaGreat

/- Contracts over this program: a builder's declarations, one by one and all. -/
namespace Go.Proofs.YtoehbkgdodogkaaGreat
set_option maxRecDepth 100000
open Go.RowKit

/-- What holds of a builder while declarations are read. -/
structure Inv1 (S : St) : Prop where
  n : S.ns = []
  t : S.s.ts.length ≤ 24
  s : ∀ y, S.s.st = some y → T.isName y.t = true
theorem put_len {ts ts' : List Gm.Tm} {x : Tok} {n : Int} (h : Gm.put ts x = .ok (ts', n)) (hl : ts.length ≤ 24) : ts'.length ≤ 24 := by
  rcases Gm.put_ok h with ⟨j, _, h2, _⟩ | ⟨_, h2, _, h4⟩
  · rw [h2]; exact hl
  · rw [h2, List.length_append, List.length_singleton]; omega
theorem decl1_len {k : Int} {s s' : Gm.S1} {x : Tok} (h : Gm.decl1 k s x = .ok s') (hl : s.ts.length ≤ 24) (h7 : k = 7 → T.isName x.t = true) (hs : ∀ y, s.st = some y → T.isName y.t = true) : s'.ts.length ≤ 24 ∧ ∀ y, s'.st = some y → T.isName y.t = true := by
  unfold Gm.decl1 at h
  by_cases e7 : k = 7
  · rw [if_pos e7] at h
    split at h
    · cases h
    · injection h with h; subst h
      exact ⟨hl, fun y hy => by injection hy with hy; subst hy; exact h7 e7⟩
  · rw [if_neg e7] at h
    by_cases e3 : k = 3
    · rw [if_pos e3] at h
      split at h
      · cases h
      · obtain ⟨⟨ts', n⟩, hp, h⟩ := Gm.R.bind_eq h
        injection h with h; subst h
        exact ⟨put_len hp hl, hs⟩
    · rw [if_neg e3] at h
      split at h
      · cases h
      · obtain ⟨⟨ts', n⟩, hp, h⟩ := Gm.R.bind_eq h
        injection h with h; subst h
        refine ⟨?_, hs⟩
        rw [List.length_modify]
        exact put_len hp hl
theorem declN_drop {k : Int} {s : Gm.S1} {xs : List Tok} {i : Nat} (h : i < xs.length) : Gm.declN k s (xs.drop i) = (Gm.decl1 k s xs[i]).bind fun s => Gm.declN k s (xs.drop (i + 1)) := by
  rw [List.drop_eq_getElem_cons h, Gm.declN]
theorem declN_end {k : Int} {s : Gm.S1} {xs : List Tok} {i : Nat} (h : xs.length ≤ i) : Gm.declN k s (xs.drop i) = .ok s := by
  rw [List.drop_eq_nil_of_le h, Gm.declN]
/-- What a step that reads declarations answers. -/
def AnsE (L : List Int) (w' : World) (B N R : Nat) (S : St) (r : Gm.R Gm.S1) (e : Ending) : Prop := match r with
  | .ok s => e = .returned (.tuple #[.complex .f64 0 0, .int .i64 0]) ∧ Bld L w' B N R { S with s := s } ∧ Inv1 { S with s := s }
  | .bad y er => er ≠ 0 ∧ e = .returned (.tuple #[.complex .f64 (rfX L y) (rfY L y), .int .i64 er])
def upS (k : Int) (S : St) : St := { S with s := Gm.up k S.s }

set_option maxHeartbeats 4000000 in
theorem namesLoop (L : List Int) (B N R : Nat) (k : Int) (hk : k = 3 ∨ k = 4 ∨ k = 5 ∨ k = 6 ∨ k = 7) (xs : List Tok) (h7 : k = 7 → ∀ x ∈ xs, T.isName x.t = true) (hx : ∀ x ∈ xs, Gm.named x.t = true ∧ K.Bytes x.t) (i : Nat) (hi : i < xs.length) (S' : St) (w : World) (hb : Bld L w B N R S') (hv : Inv1 S') (hB : B ≤ w.heap.size) :
    Calls Tryz.prog 87 #[.pointer (some ⟨R, 0, none⟩), .int .i64 k, .agg #[.string (K.str xs[i].t), .complex .f64 (rfX L xs[i]) (rfY L xs[i])]] w fun e w' => e = .returned (.int .i64 (NmA k S' xs[i]).1) ∧ Bld L w' B N R (NmA k S' xs[i]).2 ∧ Below B w w' ∧ KeepT w w' := by
  have hm := List.getElem_mem hi
  exact nameB_any L B N R k hk S' xs[i] w hb (Gm.tx_named (hx _ hm)) (hx _ hm).1 (fun h => h7 h _ hm) hv.s (by rw [hv.n]; show (-1 : Int) < 0; decide) hB hv.t

set_option maxHeartbeats 4000000 in
theorem names_any (L : List Int) (B N R : Nat) (S : St) (d : Y.Dcl) (A : Option Addr) (c : Nat) (w : World) (hb : Bld L w B N R S) (hk : d.k = 3 ∨ d.k = 4 ∨ d.k = 5 ∨ d.k = 6 ∨ d.k = 7) (h7 : d.k = 7 → ∀ x ∈ d.ns, T.isName x.t = true) (hx : ∀ x ∈ d.ns, Gm.named x.t = true ∧ K.Bytes x.t) (hr : RdRf L w B A d.ns) (hv : Inv1 S) (hl : 0 ≤ S.s.lv ∧ S.s.lv ≤ 1000000) (hB : B ≤ w.heap.size) (hlen : d.ns.length ≤ 1000000) :
    Calls Tryz.prog 63 #[.pointer (some ⟨R, 0, none⟩), .agg #[.int .i64 d.k, .slice A d.ns.length c]] w fun e w' => AnsE L w' B N R S (Gm.declN d.k (Gm.up d.k S.s) d.ns) e ∧ Below B w w' ∧ KeepT w w' := by
  have SC := fun a w m X Y => show (store a (.complex .f64 X Y) m).run Tryz.prog w = stored Tryz.prog w a (.complex .f64 X Y) m from run_store _ w a _ m rfl
  have HR := hide hr
  have HNL := hide (fun (i : Nat) (hi : i < d.ns.length) (S' : St) (y : World) (hb : Bld L y B N R S') (hv : Inv1 S') (hB : B ≤ y.heap.size) => namesLoop L B N R d.k hk d.ns h7 hx i hi S' y hb hv hB)
  have HAN := hide (fun (S' : St) (x : Tok) => nmA_ans d.k hk S' x)
  have H7 := hide (fun (i : Nat) (hi : i < d.ns.length) (h : d.k = 7) => h7 h _ (List.getElem_mem hi))
  have HIV : Hid (Inv1 (upS d.k S)) := hide (by
    unfold upS Gm.up
    split
    · exact hv
    · exact ⟨hv.n, hv.t, hv.s⟩)
  obtain ⟨vT, vN, vR, Ms, Mt, ml, tl, h⟩ := id hb
  have HB1 := hide h.w
  have HBK : Hid ((w.alloc (.cells #[.int .i64 d.k, .slice A d.ns.length c] 99)).heap[w.heap.size]? = some (.cells #[.int .i64 d.k, .slice A d.ns.length c] 99 (0, 0))) := hide (heap_alloc_new w _)
  have c6 : w.cell? ⟨R, 6, none⟩ = some (.int .i64 S.s.lv) := cell_of_row w R 6 _ _ _ h.w.b
  have f6 := frozen_of_row w R 6 _ _ h.w.b
  have hRs := (Array.getElem?_eq_some_iff.1 h.w.b).1
  have HSO := hide (And.intro h.so h.ko)
  have hBR := h.w.hR
  have HW0 := hide (((Below.refl B w).alloc hB (.cells #[.int .i64 d.k, .slice A d.ns.length c] 99)))
  have HK0 := hide (KeepT.below ((Below.refl w.heap.size w).alloc (Nat.le_refl _) (.cells #[.int .i64 d.k, .slice A d.ns.length c] 99)))
  obtain ⟨dk, dns⟩ := d
  simp only at hk HR HNL HAN H7 HIV HB1 HBK HW0 HK0 hlen ⊢
  clear h hr hb hx h7
  rcases hk with rfl | rfl | rfl | rfl | rfl
  · have HU : Hid (upS 3 S = S) := hide (by unfold upS Gm.up; rw [if_pos (by decide)])
    have HB2 : Hid (Bld L (w.alloc (.cells #[.int .i64 3, .slice A dns.length c] 99)) B N R (upS 3 S)) := hide (by rw [HU.out]; exact ⟨vT, vN, vR, Ms, Mt, ml, tl, ⟨HB1.out.alloc _, HSO.out.1, HSO.out.2⟩⟩)
    have HW2 := hide HW0.out
    have HK2 := hide HK0.out
    have HX2 := hide HBK.out
    clear HW0 HK0 HBK HB1 HSO
    go_enter Tryz.func63, Tryz.ntmps63
    go_wp2
    go_loopw [32] (fun vi wr => ∃ (i : Nat) (S' : St), i ≤ dns.length ∧ vi = .int .i64 i ∧ Hid (Gm.declN 3 (Gm.up 3 S.s) dns = Gm.declN 3 S'.s (dns.drop i)) ∧ Hid (∀ s, ({ S with s := s } : St) = { S' with s := s }) ∧ Hid (Inv1 S') ∧ Hid (Bld L wr B N R S') ∧ Below B w wr ∧ Hid (KeepT w wr) ∧ Hid (wr.heap[w.heap.size]? = some (.cells #[.int .i64 3, .slice A dns.length c] 99 (0, 0)))) (fun vi _ => dns.length - (intOf vi).toNat)
    case atStart => exact ⟨0, upS 3 S, Nat.zero_le _, rfl, hide rfl, hide (fun _ => rfl), HIV, HB2, HW2.out, HK2, HX2⟩
    case round => 
      clear c6 f6 HB2 HW2 HK2 HX2
      obtain ⟨i, S', hi, rfl, HE, HS, HV, HBL, hbw, HKT, HBX⟩ := hrel
      have HBW := hide hbw
      have hsz : w.heap.size < wr.heap.size := (Array.getElem?_eq_some_iff.1 HBX.out).1
      have b0 := cell_of_row wr _ 0 _ _ _ HBX.out
      have b1 := cell_of_row wr _ 1 _ _ _ HBX.out
      clear hbw
      by_cases hlt : i < dns.length
      · obtain ⟨g, o, rfl, hgB, hc⟩ := HR.out (by omega)
        have k0 := (HBW.out.cell (p := ⟨g, o + i * 2, none⟩) hgB).trans (hc i hlt).1
        have k1 := (HBW.out.cell (p := ⟨g, o + i * 2 + 1, none⟩) hgB).trans (hc i hlt).2
        have hgs : g < wr.heap.size := by omega
        have HCB := hide (HBL.out.alloc (.cells #[.string (K.str dns[i].t), .complex .f64 (rfX L dns[i]) (rfY L dns[i])] 74))
        have HCW := hide (HBW.out.alloc (Nat.le_trans hB HBW.out.size) (.cells #[.string (K.str dns[i].t), .complex .f64 (rfX L dns[i]) (rfY L dns[i])] 74))
        have HCK := hide (HKT.out.trans (KeepT.below ((Below.refl wr.heap.size wr).alloc (Nat.le_refl _) (.cells #[.string (K.str dns[i].t), .complex .f64 (rfX L dns[i]) (rfY L dns[i])] 74))))
        have HCX := hide ((Below.heap_alloc wr (.cells #[.string (K.str dns[i].t), .complex .f64 (rfX L dns[i]) (rfY L dns[i])] 74) w.heap.size hsz).trans HBX.out)
        have HCR := hide (heap_alloc_new wr (.cells #[.string (K.str dns[i].t), .complex .f64 (rfX L dns[i]) (rfY L dns[i])] 74))
        have HC := hide (HNL.out i hlt S' _ HCB.out HV.out (Nat.le_trans hB HCW.out.size))
        have HA := hide (HAN.out S' dns[i])
        have HD := hide (declN_drop (k := 3) (s := S'.s) hlt)
        have HL := hide (fun s (h : Gm.decl1 3 S'.s dns[i] = .ok s) => decl1_len h HV.out.t (H7.out i hlt) HV.out.s)
        clear hc
        generalize dns[i] = x at *
        cases q : Gm.decl1 3 S'.s x with
        | ok s =>
          have HX := hide (HE.out.trans (HD.out.trans (by rw [q, Gm.R.bind_ok])))
          have HLL := hide (HL.out s q)
          have ha := HA.out
          rw [q] at ha
          have ha : NmA 3 S' x = (0, { S' with s := s }) := ha
          rw [ha] at HC
          clear ha HA HL q HD
          generalize rfX L x = X at *
          generalize rfY L x = Y at *
          generalize K.str x.t = sx at *
          go_wp2_with fail
          refine HC.out.mono ?_; rintro _ w2 ⟨rfl, hb2, hw2, hk2⟩
          have H2 := hide (And.intro hb2 (And.intro (HCW.out.trans hw2) (And.intro (HCK.out.trans hk2) (hk2 _ _ _ HCX.out (by decide) (by decide)))))
          clear hb2 hw2 hk2
          go_wp2
          go_roundw
          case rel => exact ⟨i + 1, { S' with s := s }, hlt, by go_num, HX, hide (fun s' => HS.out s'), hide ⟨HV.out.n, HLL.out.1, HLL.out.2⟩, hide H2.out.1, H2.out.2.1, hide H2.out.2.2.1, hide H2.out.2.2.2⟩
          case measure => simp [intOf]; omega
        | bad y er =>
          have HX := hide (HE.out.trans (HD.out.trans (by rw [q, Gm.R.bind_bad])))
          have ha := HA.out
          rw [q] at ha
          obtain ⟨ha1, ha2, ha3⟩ : (NmA 3 S' x).1 = er ∧ er ≠ 0 ∧ y = x := ha
          subst ha3
          rw [ha1] at HC
          have her : (er != 0) = true := by simpa using ha2
          have HER := hide ha2
          clear ha1 ha2 HA HL q HD
          generalize (NmA 3 S' y).2 = S2 at *
          have HXY : Hid (∀ X Y, X = rfX L y → Y = rfY L y → AnsE L w B N R S (.bad y er) (.returned (.tuple #[.complex .f64 X Y, .int .i64 er]))) := hide (fun X Y h1 h2 => by subst h1 h2; exact ⟨HER.out, rfl⟩)
          obtain ⟨X, hX⟩ : ∃ X, X = rfX L y := ⟨_, rfl⟩
          obtain ⟨Y, hY⟩ : ∃ Y, Y = rfY L y := ⟨_, rfl⟩
          rw [← hX, ← hY] at k1 HC HCB HCW HCK HCX HCR
          have HXX := hide hX
          have HYY := hide hY
          clear hX hY
          generalize K.str y.t = sx at *
          go_wp2_with fail
          refine HC.out.mono ?_; rintro _ w2 ⟨rfl, hb2, hw2, hk2⟩
          have H2 := hide (And.intro (HCW.out.trans hw2) (HCK.out.trans hk2))
          have hrr := hk2 _ _ _ HCR.out (by decide) (by decide)
          have r1 := cell_of_row w2 _ 1 _ _ _ hrr
          have hrz := (Array.getElem?_eq_some_iff.1 hrr).1
          clear hb2 hw2 hk2 hrr
          go_wp2
          go_ret2
          refine ⟨?_, H2.out⟩
          rw [HX.out]
          exact HXY.out _ _ HXX.out HYY.out
      · obtain rfl : i = dns.length := by omega
        have HX := hide (HE.out.trans (declN_end (Nat.le_refl _)))
        go_wp2
        go_ret2
        refine ⟨?_, HBW.out, HKT.out⟩
        rw [HX.out]
        exact ⟨rfl, by rw [HS.out S'.s]; exact HBL.out, by rw [HS.out S'.s]; exact HV.out⟩
  · have HU : Hid (upS 4 S = { S with s := { S.s with lv := S.s.lv + 1 } }) := hide (by unfold upS Gm.up; rw [if_neg (by decide)])
    have HB2 : Hid (Bld L ((w.setCell ⟨R, 6, none⟩ (.int .i64 (S.s.lv + 1))).alloc (.cells #[.int .i64 4, .slice A dns.length c] 99)) B N R (upS 4 S)) := hide (by rw [HU.out]; exact ⟨vT, vN, vR, Ms, Mt, ml, tl, ⟨(HB1.out.set 6 _).alloc _, HSO.out.1, HSO.out.2⟩⟩)
    have HW2 : Hid (Below B w ((w.setCell ⟨R, 6, none⟩ (.int .i64 (S.s.lv + 1))).alloc (.cells #[.int .i64 4, .slice A dns.length c] 99))) := hide (((Below.refl B w).setCell hBR _).alloc (by rw [size_set]; exact hB) _)
    have HK2 : Hid (KeepT w ((w.setCell ⟨R, 6, none⟩ (.int .i64 (S.s.lv + 1))).alloc (.cells #[.int .i64 4, .slice A dns.length c] 99))) := hide ((KeepT.cells (only_set (World.grownBy.refl _ _) _ _) HB1.out.b (.inl rfl)).trans (KeepT.below ((Below.refl _ _).alloc (Nat.le_refl _) _)))
    have HX2 : Hid (((w.setCell ⟨R, 6, none⟩ (.int .i64 (S.s.lv + 1))).alloc (.cells #[.int .i64 4, .slice A dns.length c] 99)).heap[w.heap.size]? = some (.cells #[.int .i64 4, .slice A dns.length c] 99 (0, 0))) := hide (by have h := heap_alloc_new (w.setCell ⟨R, 6, none⟩ (.int .i64 (S.s.lv + 1))) (.cells #[.int .i64 4, .slice A dns.length c] 99); rw [size_set] at h; exact h)
    have hwr : IntKind.i64.wrap (S.s.lv + 1) = S.s.lv + 1 := IntWalk.i64_in _ (by omega)
    clear HW0 HK0 HBK HB1 HSO
    go_enter Tryz.func63, Tryz.ntmps63
    go_wp2
    go_loopw [32] (fun vi wr => ∃ (i : Nat) (S' : St), i ≤ dns.length ∧ vi = .int .i64 i ∧ Hid (Gm.declN 4 (Gm.up 4 S.s) dns = Gm.declN 4 S'.s (dns.drop i)) ∧ Hid (∀ s, ({ S with s := s } : St) = { S' with s := s }) ∧ Hid (Inv1 S') ∧ Hid (Bld L wr B N R S') ∧ Below B w wr ∧ Hid (KeepT w wr) ∧ Hid (wr.heap[w.heap.size]? = some (.cells #[.int .i64 4, .slice A dns.length c] 99 (0, 0)))) (fun vi _ => dns.length - (intOf vi).toNat)
    case atStart => exact ⟨0, upS 4 S, Nat.zero_le _, rfl, hide rfl, hide (fun _ => rfl), HIV, HB2, HW2.out, HK2, HX2⟩
    case round => 
      clear c6 f6 HB2 HW2 HK2 HX2 hwr
      obtain ⟨i, S', hi, rfl, HE, HS, HV, HBL, hbw, HKT, HBX⟩ := hrel
      have HBW := hide hbw
      have hsz : w.heap.size < wr.heap.size := (Array.getElem?_eq_some_iff.1 HBX.out).1
      have b0 := cell_of_row wr _ 0 _ _ _ HBX.out
      have b1 := cell_of_row wr _ 1 _ _ _ HBX.out
      clear hbw
      by_cases hlt : i < dns.length
      · obtain ⟨g, o, rfl, hgB, hc⟩ := HR.out (by omega)
        have k0 := (HBW.out.cell (p := ⟨g, o + i * 2, none⟩) hgB).trans (hc i hlt).1
        have k1 := (HBW.out.cell (p := ⟨g, o + i * 2 + 1, none⟩) hgB).trans (hc i hlt).2
        have hgs : g < wr.heap.size := by omega
        have HCB := hide (HBL.out.alloc (.cells #[.string (K.str dns[i].t), .complex .f64 (rfX L dns[i]) (rfY L dns[i])] 74))
        have HCW := hide (HBW.out.alloc (Nat.le_trans hB HBW.out.size) (.cells #[.string (K.str dns[i].t), .complex .f64 (rfX L dns[i]) (rfY L dns[i])] 74))
        have HCK := hide (HKT.out.trans (KeepT.below ((Below.refl wr.heap.size wr).alloc (Nat.le_refl _) (.cells #[.string (K.str dns[i].t), .complex .f64 (rfX L dns[i]) (rfY L dns[i])] 74))))
        have HCX := hide ((Below.heap_alloc wr (.cells #[.string (K.str dns[i].t), .complex .f64 (rfX L dns[i]) (rfY L dns[i])] 74) w.heap.size hsz).trans HBX.out)
        have HCR := hide (heap_alloc_new wr (.cells #[.string (K.str dns[i].t), .complex .f64 (rfX L dns[i]) (rfY L dns[i])] 74))
        have HC := hide (HNL.out i hlt S' _ HCB.out HV.out (Nat.le_trans hB HCW.out.size))
        have HA := hide (HAN.out S' dns[i])
        have HD := hide (declN_drop (k := 4) (s := S'.s) hlt)
        have HL := hide (fun s (h : Gm.decl1 4 S'.s dns[i] = .ok s) => decl1_len h HV.out.t (H7.out i hlt) HV.out.s)
        clear hc
        generalize dns[i] = x at *
        cases q : Gm.decl1 4 S'.s x with
        | ok s =>
          have HX := hide (HE.out.trans (HD.out.trans (by rw [q, Gm.R.bind_ok])))
          have HLL := hide (HL.out s q)
          have ha := HA.out
          rw [q] at ha
          have ha : NmA 4 S' x = (0, { S' with s := s }) := ha
          rw [ha] at HC
          clear ha HA HL q HD
          generalize rfX L x = X at *
          generalize rfY L x = Y at *
          generalize K.str x.t = sx at *
          go_wp2_with fail
          refine HC.out.mono ?_; rintro _ w2 ⟨rfl, hb2, hw2, hk2⟩
          have H2 := hide (And.intro hb2 (And.intro (HCW.out.trans hw2) (And.intro (HCK.out.trans hk2) (hk2 _ _ _ HCX.out (by decide) (by decide)))))
          clear hb2 hw2 hk2
          go_wp2
          go_roundw
          case rel => exact ⟨i + 1, { S' with s := s }, hlt, by go_num, HX, hide (fun s' => HS.out s'), hide ⟨HV.out.n, HLL.out.1, HLL.out.2⟩, hide H2.out.1, H2.out.2.1, hide H2.out.2.2.1, hide H2.out.2.2.2⟩
          case measure => simp [intOf]; omega
        | bad y er =>
          have HX := hide (HE.out.trans (HD.out.trans (by rw [q, Gm.R.bind_bad])))
          have ha := HA.out
          rw [q] at ha
          obtain ⟨ha1, ha2, ha3⟩ : (NmA 4 S' x).1 = er ∧ er ≠ 0 ∧ y = x := ha
          subst ha3
          rw [ha1] at HC
          have her : (er != 0) = true := by simpa using ha2
          have HER := hide ha2
          clear ha1 ha2 HA HL q HD
          generalize (NmA 4 S' y).2 = S2 at *
          have HXY : Hid (∀ X Y, X = rfX L y → Y = rfY L y → AnsE L w B N R S (.bad y er) (.returned (.tuple #[.complex .f64 X Y, .int .i64 er]))) := hide (fun X Y h1 h2 => by subst h1 h2; exact ⟨HER.out, rfl⟩)
          obtain ⟨X, hX⟩ : ∃ X, X = rfX L y := ⟨_, rfl⟩
          obtain ⟨Y, hY⟩ : ∃ Y, Y = rfY L y := ⟨_, rfl⟩
          rw [← hX, ← hY] at k1 HC HCB HCW HCK HCX HCR
          have HXX := hide hX
          have HYY := hide hY
          clear hX hY
          generalize K.str y.t = sx at *
          go_wp2_with fail
          refine HC.out.mono ?_; rintro _ w2 ⟨rfl, hb2, hw2, hk2⟩
          have H2 := hide (And.intro (HCW.out.trans hw2) (HCK.out.trans hk2))
          have hrr := hk2 _ _ _ HCR.out (by decide) (by decide)
          have r1 := cell_of_row w2 _ 1 _ _ _ hrr
          have hrz := (Array.getElem?_eq_some_iff.1 hrr).1
          clear hb2 hw2 hk2 hrr
          go_wp2
          go_ret2
          refine ⟨?_, H2.out⟩
          rw [HX.out]
          exact HXY.out _ _ HXX.out HYY.out
      · obtain rfl : i = dns.length := by omega
        have HX := hide (HE.out.trans (declN_end (Nat.le_refl _)))
        go_wp2
        go_ret2
        refine ⟨?_, HBW.out, HKT.out⟩
        rw [HX.out]
        exact ⟨rfl, by rw [HS.out S'.s]; exact HBL.out, by rw [HS.out S'.s]; exact HV.out⟩
  · have HU : Hid (upS 5 S = { S with s := { S.s with lv := S.s.lv + 1 } }) := hide (by unfold upS Gm.up; rw [if_neg (by decide)])
    have HB2 : Hid (Bld L ((w.setCell ⟨R, 6, none⟩ (.int .i64 (S.s.lv + 1))).alloc (.cells #[.int .i64 5, .slice A dns.length c] 99)) B N R (upS 5 S)) := hide (by rw [HU.out]; exact ⟨vT, vN, vR, Ms, Mt, ml, tl, ⟨(HB1.out.set 6 _).alloc _, HSO.out.1, HSO.out.2⟩⟩)
    have HW2 : Hid (Below B w ((w.setCell ⟨R, 6, none⟩ (.int .i64 (S.s.lv + 1))).alloc (.cells #[.int .i64 5, .slice A dns.length c] 99))) := hide (((Below.refl B w).setCell hBR _).alloc (by rw [size_set]; exact hB) _)
    have HK2 : Hid (KeepT w ((w.setCell ⟨R, 6, none⟩ (.int .i64 (S.s.lv + 1))).alloc (.cells #[.int .i64 5, .slice A dns.length c] 99))) := hide ((KeepT.cells (only_set (World.grownBy.refl _ _) _ _) HB1.out.b (.inl rfl)).trans (KeepT.below ((Below.refl _ _).alloc (Nat.le_refl _) _)))
    have HX2 : Hid (((w.setCell ⟨R, 6, none⟩ (.int .i64 (S.s.lv + 1))).alloc (.cells #[.int .i64 5, .slice A dns.length c] 99)).heap[w.heap.size]? = some (.cells #[.int .i64 5, .slice A dns.length c] 99 (0, 0))) := hide (by have h := heap_alloc_new (w.setCell ⟨R, 6, none⟩ (.int .i64 (S.s.lv + 1))) (.cells #[.int .i64 5, .slice A dns.length c] 99); rw [size_set] at h; exact h)
    have hwr : IntKind.i64.wrap (S.s.lv + 1) = S.s.lv + 1 := IntWalk.i64_in _ (by omega)
    clear HW0 HK0 HBK HB1 HSO
    go_enter Tryz.func63, Tryz.ntmps63
    go_wp2
    go_loopw [32] (fun vi wr => ∃ (i : Nat) (S' : St), i ≤ dns.length ∧ vi = .int .i64 i ∧ Hid (Gm.declN 5 (Gm.up 5 S.s) dns = Gm.declN 5 S'.s (dns.drop i)) ∧ Hid (∀ s, ({ S with s := s } : St) = { S' with s := s }) ∧ Hid (Inv1 S') ∧ Hid (Bld L wr B N R S') ∧ Below B w wr ∧ Hid (KeepT w wr) ∧ Hid (wr.heap[w.heap.size]? = some (.cells #[.int .i64 5, .slice A dns.length c] 99 (0, 0)))) (fun vi _ => dns.length - (intOf vi).toNat)
    case atStart => exact ⟨0, upS 5 S, Nat.zero_le _, rfl, hide rfl, hide (fun _ => rfl), HIV, HB2, HW2.out, HK2, HX2⟩
    case round => 
      clear c6 f6 HB2 HW2 HK2 HX2 hwr
      obtain ⟨i, S', hi, rfl, HE, HS, HV, HBL, hbw, HKT, HBX⟩ := hrel
      have HBW := hide hbw
      have hsz : w.heap.size < wr.heap.size := (Array.getElem?_eq_some_iff.1 HBX.out).1
      have b0 := cell_of_row wr _ 0 _ _ _ HBX.out
      have b1 := cell_of_row wr _ 1 _ _ _ HBX.out
      clear hbw
      by_cases hlt : i < dns.length
      · obtain ⟨g, o, rfl, hgB, hc⟩ := HR.out (by omega)
        have k0 := (HBW.out.cell (p := ⟨g, o + i * 2, none⟩) hgB).trans (hc i hlt).1
        have k1 := (HBW.out.cell (p := ⟨g, o + i * 2 + 1, none⟩) hgB).trans (hc i hlt).2
        have hgs : g < wr.heap.size := by omega
        have HCB := hide (HBL.out.alloc (.cells #[.string (K.str dns[i].t), .complex .f64 (rfX L dns[i]) (rfY L dns[i])] 74))
        have HCW := hide (HBW.out.alloc (Nat.le_trans hB HBW.out.size) (.cells #[.string (K.str dns[i].t), .complex .f64 (rfX L dns[i]) (rfY L dns[i])] 74))
        have HCK := hide (HKT.out.trans (KeepT.below ((Below.refl wr.heap.size wr).alloc (Nat.le_refl _) (.cells #[.string (K.str dns[i].t), .complex .f64 (rfX L dns[i]) (rfY L dns[i])] 74))))
        have HCX := hide ((Below.heap_alloc wr (.cells #[.string (K.str dns[i].t), .complex .f64 (rfX L dns[i]) (rfY L dns[i])] 74) w.heap.size hsz).trans HBX.out)
        have HCR := hide (heap_alloc_new wr (.cells #[.string (K.str dns[i].t), .complex .f64 (rfX L dns[i]) (rfY L dns[i])] 74))
        have HC := hide (HNL.out i hlt S' _ HCB.out HV.out (Nat.le_trans hB HCW.out.size))
        have HA := hide (HAN.out S' dns[i])
        have HD := hide (declN_drop (k := 5) (s := S'.s) hlt)
        have HL := hide (fun s (h : Gm.decl1 5 S'.s dns[i] = .ok s) => decl1_len h HV.out.t (H7.out i hlt) HV.out.s)
        clear hc
        generalize dns[i] = x at *
        cases q : Gm.decl1 5 S'.s x with
        | ok s =>
          have HX := hide (HE.out.trans (HD.out.trans (by rw [q, Gm.R.bind_ok])))
          have HLL := hide (HL.out s q)
          have ha := HA.out
          rw [q] at ha
          have ha : NmA 5 S' x = (0, { S' with s := s }) := ha
          rw [ha] at HC
          clear ha HA HL q HD
          generalize rfX L x = X at *
          generalize rfY L x = Y at *
          generalize K.str x.t = sx at *
          go_wp2_with fail
          refine HC.out.mono ?_; rintro _ w2 ⟨rfl, hb2, hw2, hk2⟩
          have H2 := hide (And.intro hb2 (And.intro (HCW.out.trans hw2) (And.intro (HCK.out.trans hk2) (hk2 _ _ _ HCX.out (by decide) (by decide)))))
          clear hb2 hw2 hk2
          go_wp2
          go_roundw
          case rel => exact ⟨i + 1, { S' with s := s }, hlt, by go_num, HX, hide (fun s' => HS.out s'), hide ⟨HV.out.n, HLL.out.1, HLL.out.2⟩, hide H2.out.1, H2.out.2.1, hide H2.out.2.2.1, hide H2.out.2.2.2⟩
          case measure => simp [intOf]; omega
        | bad y er =>
          have HX := hide (HE.out.trans (HD.out.trans (by rw [q, Gm.R.bind_bad])))
          have ha := HA.out
          rw [q] at ha
          obtain ⟨ha1, ha2, ha3⟩ : (NmA 5 S' x).1 = er ∧ er ≠ 0 ∧ y = x := ha
          subst ha3
          rw [ha1] at HC
          have her : (er != 0) = true := by simpa using ha2
          have HER := hide ha2
          clear ha1 ha2 HA HL q HD
          generalize (NmA 5 S' y).2 = S2 at *
          have HXY : Hid (∀ X Y, X = rfX L y → Y = rfY L y → AnsE L w B N R S (.bad y er) (.returned (.tuple #[.complex .f64 X Y, .int .i64 er]))) := hide (fun X Y h1 h2 => by subst h1 h2; exact ⟨HER.out, rfl⟩)
          obtain ⟨X, hX⟩ : ∃ X, X = rfX L y := ⟨_, rfl⟩
          obtain ⟨Y, hY⟩ : ∃ Y, Y = rfY L y := ⟨_, rfl⟩
          rw [← hX, ← hY] at k1 HC HCB HCW HCK HCX HCR
          have HXX := hide hX
          have HYY := hide hY
          clear hX hY
          generalize K.str y.t = sx at *
          go_wp2_with fail
          refine HC.out.mono ?_; rintro _ w2 ⟨rfl, hb2, hw2, hk2⟩
          have H2 := hide (And.intro (HCW.out.trans hw2) (HCK.out.trans hk2))
          have hrr := hk2 _ _ _ HCR.out (by decide) (by decide)
          have r1 := cell_of_row w2 _ 1 _ _ _ hrr
          have hrz := (Array.getElem?_eq_some_iff.1 hrr).1
          clear hb2 hw2 hk2 hrr
          go_wp2
          go_ret2
          refine ⟨?_, H2.out⟩
          rw [HX.out]
          exact HXY.out _ _ HXX.out HYY.out
      · obtain rfl : i = dns.length := by omega
        have HX := hide (HE.out.trans (declN_end (Nat.le_refl _)))
        go_wp2
        go_ret2
        refine ⟨?_, HBW.out, HKT.out⟩
        rw [HX.out]
        exact ⟨rfl, by rw [HS.out S'.s]; exact HBL.out, by rw [HS.out S'.s]; exact HV.out⟩
  · have HU : Hid (upS 6 S = { S with s := { S.s with lv := S.s.lv + 1 } }) := hide (by unfold upS Gm.up; rw [if_neg (by decide)])
    have HB2 : Hid (Bld L ((w.setCell ⟨R, 6, none⟩ (.int .i64 (S.s.lv + 1))).alloc (.cells #[.int .i64 6, .slice A dns.length c] 99)) B N R (upS 6 S)) := hide (by rw [HU.out]; exact ⟨vT, vN, vR, Ms, Mt, ml, tl, ⟨(HB1.out.set 6 _).alloc _, HSO.out.1, HSO.out.2⟩⟩)
    have HW2 : Hid (Below B w ((w.setCell ⟨R, 6, none⟩ (.int .i64 (S.s.lv + 1))).alloc (.cells #[.int .i64 6, .slice A dns.length c] 99))) := hide (((Below.refl B w).setCell hBR _).alloc (by rw [size_set]; exact hB) _)
    have HK2 : Hid (KeepT w ((w.setCell ⟨R, 6, none⟩ (.int .i64 (S.s.lv + 1))).alloc (.cells #[.int .i64 6, .slice A dns.length c] 99))) := hide ((KeepT.cells (only_set (World.grownBy.refl _ _) _ _) HB1.out.b (.inl rfl)).trans (KeepT.below ((Below.refl _ _).alloc (Nat.le_refl _) _)))
    have HX2 : Hid (((w.setCell ⟨R, 6, none⟩ (.int .i64 (S.s.lv + 1))).alloc (.cells #[.int .i64 6, .slice A dns.length c] 99)).heap[w.heap.size]? = some (.cells #[.int .i64 6, .slice A dns.length c] 99 (0, 0))) := hide (by have h := heap_alloc_new (w.setCell ⟨R, 6, none⟩ (.int .i64 (S.s.lv + 1))) (.cells #[.int .i64 6, .slice A dns.length c] 99); rw [size_set] at h; exact h)
    have hwr : IntKind.i64.wrap (S.s.lv + 1) = S.s.lv + 1 := IntWalk.i64_in _ (by omega)
    clear HW0 HK0 HBK HB1 HSO
    go_enter Tryz.func63, Tryz.ntmps63
    go_wp2
    go_loopw [32] (fun vi wr => ∃ (i : Nat) (S' : St), i ≤ dns.length ∧ vi = .int .i64 i ∧ Hid (Gm.declN 6 (Gm.up 6 S.s) dns = Gm.declN 6 S'.s (dns.drop i)) ∧ Hid (∀ s, ({ S with s := s } : St) = { S' with s := s }) ∧ Hid (Inv1 S') ∧ Hid (Bld L wr B N R S') ∧ Below B w wr ∧ Hid (KeepT w wr) ∧ Hid (wr.heap[w.heap.size]? = some (.cells #[.int .i64 6, .slice A dns.length c] 99 (0, 0)))) (fun vi _ => dns.length - (intOf vi).toNat)
    case atStart => exact ⟨0, upS 6 S, Nat.zero_le _, rfl, hide rfl, hide (fun _ => rfl), HIV, HB2, HW2.out, HK2, HX2⟩
    case round => 
      clear c6 f6 HB2 HW2 HK2 HX2 hwr
      obtain ⟨i, S', hi, rfl, HE, HS, HV, HBL, hbw, HKT, HBX⟩ := hrel
      have HBW := hide hbw
      have hsz : w.heap.size < wr.heap.size := (Array.getElem?_eq_some_iff.1 HBX.out).1
      have b0 := cell_of_row wr _ 0 _ _ _ HBX.out
      have b1 := cell_of_row wr _ 1 _ _ _ HBX.out
      clear hbw
      by_cases hlt : i < dns.length
      · obtain ⟨g, o, rfl, hgB, hc⟩ := HR.out (by omega)
        have k0 := (HBW.out.cell (p := ⟨g, o + i * 2, none⟩) hgB).trans (hc i hlt).1
        have k1 := (HBW.out.cell (p := ⟨g, o + i * 2 + 1, none⟩) hgB).trans (hc i hlt).2
        have hgs : g < wr.heap.size := by omega
        have HCB := hide (HBL.out.alloc (.cells #[.string (K.str dns[i].t), .complex .f64 (rfX L dns[i]) (rfY L dns[i])] 74))
        have HCW := hide (HBW.out.alloc (Nat.le_trans hB HBW.out.size) (.cells #[.string (K.str dns[i].t), .complex .f64 (rfX L dns[i]) (rfY L dns[i])] 74))
        have HCK := hide (HKT.out.trans (KeepT.below ((Below.refl wr.heap.size wr).alloc (Nat.le_refl _) (.cells #[.string (K.str dns[i].t), .complex .f64 (rfX L dns[i]) (rfY L dns[i])] 74))))
        have HCX := hide ((Below.heap_alloc wr (.cells #[.string (K.str dns[i].t), .complex .f64 (rfX L dns[i]) (rfY L dns[i])] 74) w.heap.size hsz).trans HBX.out)
        have HCR := hide (heap_alloc_new wr (.cells #[.string (K.str dns[i].t), .complex .f64 (rfX L dns[i]) (rfY L dns[i])] 74))
        have HC := hide (HNL.out i hlt S' _ HCB.out HV.out (Nat.le_trans hB HCW.out.size))
        have HA := hide (HAN.out S' dns[i])
        have HD := hide (declN_drop (k := 6) (s := S'.s) hlt)
        have HL := hide (fun s (h : Gm.decl1 6 S'.s dns[i] = .ok s) => decl1_len h HV.out.t (H7.out i hlt) HV.out.s)
        clear hc
        generalize dns[i] = x at *
        cases q : Gm.decl1 6 S'.s x with
        | ok s =>
          have HX := hide (HE.out.trans (HD.out.trans (by rw [q, Gm.R.bind_ok])))
          have HLL := hide (HL.out s q)
          have ha := HA.out
          rw [q] at ha
          have ha : NmA 6 S' x = (0, { S' with s := s }) := ha
          rw [ha] at HC
          clear ha HA HL q HD
          generalize rfX L x = X at *
          generalize rfY L x = Y at *
          generalize K.str x.t = sx at *
          go_wp2_with fail
          refine HC.out.mono ?_; rintro _ w2 ⟨rfl, hb2, hw2, hk2⟩
          have H2 := hide (And.intro hb2 (And.intro (HCW.out.trans hw2) (And.intro (HCK.out.trans hk2) (hk2 _ _ _ HCX.out (by decide) (by decide)))))
          clear hb2 hw2 hk2
          go_wp2
          go_roundw
          case rel => exact ⟨i + 1, { S' with s := s }, hlt, by go_num, HX, hide (fun s' => HS.out s'), hide ⟨HV.out.n, HLL.out.1, HLL.out.2⟩, hide H2.out.1, H2.out.2.1, hide H2.out.2.2.1, hide H2.out.2.2.2⟩
          case measure => simp [intOf]; omega
        | bad y er =>
          have HX := hide (HE.out.trans (HD.out.trans (by rw [q, Gm.R.bind_bad])))
          have ha := HA.out
          rw [q] at ha
          obtain ⟨ha1, ha2, ha3⟩ : (NmA 6 S' x).1 = er ∧ er ≠ 0 ∧ y = x := ha
          subst ha3
          rw [ha1] at HC
          have her : (er != 0) = true := by simpa using ha2
          have HER := hide ha2
          clear ha1 ha2 HA HL q HD
          generalize (NmA 6 S' y).2 = S2 at *
          have HXY : Hid (∀ X Y, X = rfX L y → Y = rfY L y → AnsE L w B N R S (.bad y er) (.returned (.tuple #[.complex .f64 X Y, .int .i64 er]))) := hide (fun X Y h1 h2 => by subst h1 h2; exact ⟨HER.out, rfl⟩)
          obtain ⟨X, hX⟩ : ∃ X, X = rfX L y := ⟨_, rfl⟩
          obtain ⟨Y, hY⟩ : ∃ Y, Y = rfY L y := ⟨_, rfl⟩
          rw [← hX, ← hY] at k1 HC HCB HCW HCK HCX HCR
          have HXX := hide hX
          have HYY := hide hY
          clear hX hY
          generalize K.str y.t = sx at *
          go_wp2_with fail
          refine HC.out.mono ?_; rintro _ w2 ⟨rfl, hb2, hw2, hk2⟩
          have H2 := hide (And.intro (HCW.out.trans hw2) (HCK.out.trans hk2))
          have hrr := hk2 _ _ _ HCR.out (by decide) (by decide)
          have r1 := cell_of_row w2 _ 1 _ _ _ hrr
          have hrz := (Array.getElem?_eq_some_iff.1 hrr).1
          clear hb2 hw2 hk2 hrr
          go_wp2
          go_ret2
          refine ⟨?_, H2.out⟩
          rw [HX.out]
          exact HXY.out _ _ HXX.out HYY.out
      · obtain rfl : i = dns.length := by omega
        have HX := hide (HE.out.trans (declN_end (Nat.le_refl _)))
        go_wp2
        go_ret2
        refine ⟨?_, HBW.out, HKT.out⟩
        rw [HX.out]
        exact ⟨rfl, by rw [HS.out S'.s]; exact HBL.out, by rw [HS.out S'.s]; exact HV.out⟩
  · have HU : Hid (upS 7 S = S) := hide (by unfold upS Gm.up; rw [if_pos (by decide)])
    have HB2 : Hid (Bld L (w.alloc (.cells #[.int .i64 7, .slice A dns.length c] 99)) B N R (upS 7 S)) := hide (by rw [HU.out]; exact ⟨vT, vN, vR, Ms, Mt, ml, tl, ⟨HB1.out.alloc _, HSO.out.1, HSO.out.2⟩⟩)
    have HW2 := hide HW0.out
    have HK2 := hide HK0.out
    have HX2 := hide HBK.out
    clear HW0 HK0 HBK HB1 HSO
    go_enter Tryz.func63, Tryz.ntmps63
    go_wp2
    go_loopw [32] (fun vi wr => ∃ (i : Nat) (S' : St), i ≤ dns.length ∧ vi = .int .i64 i ∧ Hid (Gm.declN 7 (Gm.up 7 S.s) dns = Gm.declN 7 S'.s (dns.drop i)) ∧ Hid (∀ s, ({ S with s := s } : St) = { S' with s := s }) ∧ Hid (Inv1 S') ∧ Hid (Bld L wr B N R S') ∧ Below B w wr ∧ Hid (KeepT w wr) ∧ Hid (wr.heap[w.heap.size]? = some (.cells #[.int .i64 7, .slice A dns.length c] 99 (0, 0)))) (fun vi _ => dns.length - (intOf vi).toNat)
    case atStart => exact ⟨0, upS 7 S, Nat.zero_le _, rfl, hide rfl, hide (fun _ => rfl), HIV, HB2, HW2.out, HK2, HX2⟩
    case round => 
      clear c6 f6 HB2 HW2 HK2 HX2
      obtain ⟨i, S', hi, rfl, HE, HS, HV, HBL, hbw, HKT, HBX⟩ := hrel
      have HBW := hide hbw
      have hsz : w.heap.size < wr.heap.size := (Array.getElem?_eq_some_iff.1 HBX.out).1
      have b0 := cell_of_row wr _ 0 _ _ _ HBX.out
      have b1 := cell_of_row wr _ 1 _ _ _ HBX.out
      clear hbw
      by_cases hlt : i < dns.length
      · obtain ⟨g, o, rfl, hgB, hc⟩ := HR.out (by omega)
        have k0 := (HBW.out.cell (p := ⟨g, o + i * 2, none⟩) hgB).trans (hc i hlt).1
        have k1 := (HBW.out.cell (p := ⟨g, o + i * 2 + 1, none⟩) hgB).trans (hc i hlt).2
        have hgs : g < wr.heap.size := by omega
        have HCB := hide (HBL.out.alloc (.cells #[.string (K.str dns[i].t), .complex .f64 (rfX L dns[i]) (rfY L dns[i])] 74))
        have HCW := hide (HBW.out.alloc (Nat.le_trans hB HBW.out.size) (.cells #[.string (K.str dns[i].t), .complex .f64 (rfX L dns[i]) (rfY L dns[i])] 74))
        have HCK := hide (HKT.out.trans (KeepT.below ((Below.refl wr.heap.size wr).alloc (Nat.le_refl _) (.cells #[.string (K.str dns[i].t), .complex .f64 (rfX L dns[i]) (rfY L dns[i])] 74))))
        have HCX := hide ((Below.heap_alloc wr (.cells #[.string (K.str dns[i].t), .complex .f64 (rfX L dns[i]) (rfY L dns[i])] 74) w.heap.size hsz).trans HBX.out)
        have HCR := hide (heap_alloc_new wr (.cells #[.string (K.str dns[i].t), .complex .f64 (rfX L dns[i]) (rfY L dns[i])] 74))
        have HC := hide (HNL.out i hlt S' _ HCB.out HV.out (Nat.le_trans hB HCW.out.size))
        have HA := hide (HAN.out S' dns[i])
        have HD := hide (declN_drop (k := 7) (s := S'.s) hlt)
        have HL := hide (fun s (h : Gm.decl1 7 S'.s dns[i] = .ok s) => decl1_len h HV.out.t (fun _ => H7.out i hlt trivial) HV.out.s)
        clear hc
        generalize dns[i] = x at *
        cases q : Gm.decl1 7 S'.s x with
        | ok s =>
          have HX := hide (HE.out.trans (HD.out.trans (by rw [q, Gm.R.bind_ok])))
          have HLL := hide (HL.out s q)
          have ha := HA.out
          rw [q] at ha
          have ha : NmA 7 S' x = (0, { S' with s := s }) := ha
          rw [ha] at HC
          clear ha HA HL q HD
          generalize rfX L x = X at *
          generalize rfY L x = Y at *
          generalize K.str x.t = sx at *
          go_wp2_with fail
          refine HC.out.mono ?_; rintro _ w2 ⟨rfl, hb2, hw2, hk2⟩
          have H2 := hide (And.intro hb2 (And.intro (HCW.out.trans hw2) (And.intro (HCK.out.trans hk2) (hk2 _ _ _ HCX.out (by decide) (by decide)))))
          clear hb2 hw2 hk2
          go_wp2
          go_roundw
          case rel => exact ⟨i + 1, { S' with s := s }, hlt, by go_num, HX, hide (fun s' => HS.out s'), hide ⟨HV.out.n, HLL.out.1, HLL.out.2⟩, hide H2.out.1, H2.out.2.1, hide H2.out.2.2.1, hide H2.out.2.2.2⟩
          case measure => simp [intOf]; omega
        | bad y er =>
          have HX := hide (HE.out.trans (HD.out.trans (by rw [q, Gm.R.bind_bad])))
          have ha := HA.out
          rw [q] at ha
          obtain ⟨ha1, ha2, ha3⟩ : (NmA 7 S' x).1 = er ∧ er ≠ 0 ∧ y = x := ha
          subst ha3
          rw [ha1] at HC
          have her : (er != 0) = true := by simpa using ha2
          have HER := hide ha2
          clear ha1 ha2 HA HL q HD
          generalize (NmA 7 S' y).2 = S2 at *
          have HXY : Hid (∀ X Y, X = rfX L y → Y = rfY L y → AnsE L w B N R S (.bad y er) (.returned (.tuple #[.complex .f64 X Y, .int .i64 er]))) := hide (fun X Y h1 h2 => by subst h1 h2; exact ⟨HER.out, rfl⟩)
          obtain ⟨X, hX⟩ : ∃ X, X = rfX L y := ⟨_, rfl⟩
          obtain ⟨Y, hY⟩ : ∃ Y, Y = rfY L y := ⟨_, rfl⟩
          rw [← hX, ← hY] at k1 HC HCB HCW HCK HCX HCR
          have HXX := hide hX
          have HYY := hide hY
          clear hX hY
          generalize K.str y.t = sx at *
          go_wp2_with fail
          refine HC.out.mono ?_; rintro _ w2 ⟨rfl, hb2, hw2, hk2⟩
          have H2 := hide (And.intro (HCW.out.trans hw2) (HCK.out.trans hk2))
          have hrr := hk2 _ _ _ HCR.out (by decide) (by decide)
          have r1 := cell_of_row w2 _ 1 _ _ _ hrr
          have hrz := (Array.getElem?_eq_some_iff.1 hrr).1
          clear hb2 hw2 hk2 hrr
          go_wp2
          go_ret2
          refine ⟨?_, H2.out⟩
          rw [HX.out]
          exact HXY.out _ _ HXX.out HYY.out
      · obtain rfl : i = dns.length := by omega
        have HX := hide (HE.out.trans (declN_end (Nat.le_refl _)))
        go_wp2
        go_ret2
        refine ⟨?_, HBW.out, HKT.out⟩
        rw [HX.out]
        exact ⟨rfl, by rw [HS.out S'.s]; exact HBL.out, by rw [HS.out S'.s]; exact HV.out⟩
end Go.Proofs.YtoehbkgdodogkaaGreat

/- Contracts over this program: a builder's first two steps. -/
namespace Go.Proofs.YtoehbkgdodogkaaGreat
set_option maxRecDepth 100000
open Go.RowKit

theorem decl1_lv {k : Int} {s s' : Gm.S1} {x : Tok} (h : Gm.decl1 k s x = .ok s') : s'.lv = s.lv := by
  unfold Gm.decl1 at h
  split at h
  · split at h
    · cases h
    · injection h with h; subst h; rfl
  · split at h
    · split at h
      · cases h
      · obtain ⟨p, _, h⟩ := Gm.R.bind_eq h
        injection h with h; subst h; rfl
    · split at h
      · cases h
      · obtain ⟨p, _, h⟩ := Gm.R.bind_eq h
        injection h with h; subst h; rfl
theorem declN_lv {k : Int} : ∀ (xs : List Tok) {s s' : Gm.S1}, Gm.declN k s xs = .ok s' → s'.lv = s.lv
  | [], s, s', h => by rw [Gm.declN] at h; injection h with h; subst h; rfl
  | x :: r, s, s', h => by
    rw [Gm.declN] at h
    obtain ⟨s1, h1, h2⟩ := Gm.R.bind_eq h
    rw [declN_lv r h2, decl1_lv h1]
theorem up_lv (k : Int) (s : Gm.S1) : (Gm.up k s).lv = s.lv ∨ (Gm.up k s).lv = s.lv + 1 := by
  unfold Gm.up
  split
  · exact .inl rfl
  · exact .inr rfl
theorem decls_drop {s : Gm.S1} {ds : List Y.Dcl} {i : Nat} (h : i < ds.length) : Gm.decls s (ds.drop i) = (Gm.declN ds[i].k (Gm.up ds[i].k s) ds[i].ns).bind fun s => Gm.decls s (ds.drop (i + 1)) := by
  rw [List.drop_eq_getElem_cons h, Gm.decls]
theorem decls_end {s : Gm.S1} {ds : List Y.Dcl} {i : Nat} (h : ds.length ≤ i) : Gm.decls s (ds.drop i) = .ok s := by
  rw [List.drop_eq_nil_of_le h, Gm.decls]
/-- A declaration that may be. -/
def DcOk (d : Y.Dcl) : Prop := (d.k = 3 ∨ d.k = 4 ∨ d.k = 5 ∨ d.k = 6 ∨ d.k = 7) ∧ (d.k = 7 → ∀ x ∈ d.ns, T.isName x.t = true) ∧ (∀ x ∈ d.ns, Gm.named x.t = true ∧ K.Bytes x.t) ∧ d.ns.length ≤ 1000000

set_option maxHeartbeats 4000000 in
theorem declare_any (L : List Int) (B N R : Nat) (S : St) (ds : List Y.Dcl) (A A2 : Option Addr) (c n2 c2 : Nat) (w : World) (hb : Bld L w B N R S) (hd : ∀ d ∈ ds, DcOk d) (hr : RdDl L w B A ds) (hv : Inv1 S) (hl : S.s.lv = 0) (hB : B ≤ w.heap.size) (hlen : ds.length ≤ 1000000) :
    Calls Tryz.prog 44 #[.pointer (some ⟨R, 0, none⟩), .agg #[.slice A ds.length c, .slice A2 n2 c2]] w fun e w' => AnsE L w' B N R S (Gm.decls S.s ds) e ∧ Below B w w' ∧ KeepT w w' := by
  have HR := hide hr
  have HDC := hide (fun (i : Nat) (hi : i < ds.length) => hd _ (List.getElem_mem hi))
  have HB0 := hide (hb.alloc (.cells #[.slice A ds.length c, .slice A2 n2 c2] 57))
  have HW0 := hide (((Below.refl B w).alloc hB (.cells #[.slice A ds.length c, .slice A2 n2 c2] 57)))
  have HK0 := hide (KeepT.below ((Below.refl w.heap.size w).alloc (Nat.le_refl _) (.cells #[.slice A ds.length c, .slice A2 n2 c2] 57)))
  have HV0 := hide hv
  have HL0 := hide hl
  clear hr hb hd hv hl
  go_enter Tryz.func44, Tryz.ntmps44
  go_wp2
  go_loopw [13] (fun vi wr => ∃ (i : Nat) (S' : St), i ≤ ds.length ∧ vi = .int .i64 i ∧ Hid (Gm.decls S.s ds = Gm.decls S'.s (ds.drop i)) ∧ Hid (∀ s, ({ S with s := s } : St) = { S' with s := s }) ∧ Hid (Inv1 S') ∧ (0 ≤ S'.s.lv ∧ S'.s.lv ≤ i) ∧ Hid (Bld L wr B N R S') ∧ Below B w wr ∧ Hid (KeepT w wr)) (fun vi _ => ds.length - (intOf vi).toNat)
  case atStart => exact ⟨0, S, Nat.zero_le _, rfl, hide rfl, hide (fun _ => rfl), HV0, by rw [HL0.out]; omega, HB0, HW0.out, HK0⟩
  case round =>
    obtain ⟨i, S', hi, rfl, HE, HS, HV, hlv, HBL, hbw, HKT⟩ := hrel
    have HBW := hide hbw
    clear hbw
    by_cases hlt : i < ds.length
    · obtain ⟨g, o, rfl, hgB, hc⟩ := HR.out (by omega)
      obtain ⟨k0, A', c', k1, hrf⟩ := hc i hlt
      have k0 := (HBW.out.cell (p := ⟨g, o + i * 2, none⟩) hgB).trans k0
      have k1 := (HBW.out.cell (p := ⟨g, o + i * 2 + 1, none⟩) hgB).trans k1
      have hBs := HBW.out.size
      have hgs : g < wr.heap.size := by omega
      obtain ⟨d1, d2, d3, d4⟩ := HDC.out i hlt
      have HCB := hide (HBL.out.alloc (.cells #[.int .i64 ds[i].k, .slice A' ds[i].ns.length c'] 99))
      have HCW := hide (HBW.out.alloc (Nat.le_trans hB HBW.out.size) (.cells #[.int .i64 ds[i].k, .slice A' ds[i].ns.length c'] 99))
      have HCK := hide (HKT.out.trans (KeepT.below ((Below.refl wr.heap.size wr).alloc (Nat.le_refl _) (.cells #[.int .i64 ds[i].k, .slice A' ds[i].ns.length c'] 99))))
      have HC := hide (names_any L B N R S' ds[i] A' c' _ HCB.out d1 d2 d3 (hrf.keep HCW.out) HV.out ⟨hlv.1, by omega⟩ (Nat.le_trans hB HCW.out.size) d4)
      have HD := hide (decls_drop (s := S'.s) hlt)
      have HU := hide (up_lv ds[i].k S'.s)
      have HLV := hide (fun s' (h : Gm.declN ds[i].k (Gm.up ds[i].k S'.s) ds[i].ns = .ok s') => declN_lv ds[i].ns h)
      clear hc hrf d1 d2 d3 d4
      generalize ds[i] = d at *
      cases q : Gm.declN d.k (Gm.up d.k S'.s) d.ns with
      | ok s =>
        have HX := hide (HE.out.trans (HD.out.trans (by rw [q, Gm.R.bind_ok])))
        have hls := HLV.out s q
        have hlu := HU.out
        have hlz : 0 ≤ s.lv ∧ s.lv ≤ ((i + 1 : Nat) : Int) := by omega
        rw [q] at HC
        have HLZ := hide hlz
        clear HLV q HD hls hlu hlz
        go_wp2_with fail
        refine HC.out.mono ?_; rintro _ w2 ⟨⟨rfl, hb2, hv2⟩, hw2, hk2⟩
        have H2 := hide (And.intro hb2 (And.intro hv2 (And.intro (HCW.out.trans hw2) (HCK.out.trans hk2))))
        clear hb2 hw2 hk2 hv2
        go_wp2
        go_roundw
        case rel => exact ⟨i + 1, { S' with s := s }, hlt, by go_num, HX, hide (fun s' => HS.out s'), hide H2.out.2.1, HLZ.out, hide H2.out.1, H2.out.2.2.1, hide H2.out.2.2.2⟩
        case measure => simp [intOf]; omega
      | bad y er =>
        have HX := hide (HE.out.trans (HD.out.trans (by rw [q, Gm.R.bind_bad])))
        rw [q] at HC
        clear HLV q HD
        go_wp2_with fail
        refine HC.out.mono ?_; rintro _ w2 ⟨⟨her0, rfl⟩, hw2, hk2⟩
        have her : (er != 0) = true := by simpa using her0
        have HER := hide her0
        have H2 := hide (And.intro (HCW.out.trans hw2) (HCK.out.trans hk2))
        clear hw2 hk2 her0
        go_wp2
        go_ret2
        refine ⟨?_, H2.out⟩
        rw [HX.out]
        exact ⟨HER.out, rfl⟩
    · obtain rfl : i = ds.length := by omega
      have HX := hide (HE.out.trans (decls_end (Nat.le_refl _)))
      go_wp2
      go_ret2
      refine ⟨?_, HBW.out, HKT.out⟩
      rw [HX.out]
      exact ⟨rfl, by rw [HS.out S'.s]; exact HBL.out, by rw [HS.out S'.s]; exact HV.out⟩
end Go.Proofs.YtoehbkgdodogkaaGreat
