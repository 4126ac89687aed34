/- The contract of the statements' listed references of a source, over this program. -/
import Derived.Test.YtoehbkgdodogkaaGreatYaccParse
import Derived.Test.YtoehbkgdodogkaaGreatRef7
import Derived.IntWalk
import Derived.Deep.DeepCutAuto
namespace Go.Proofs.YtoehbkgdodogkaaGreat
set_option maxRecDepth 100000
open Go.RowKit

theorem OwnD.at {L : List Int} {w : World} {base : Nat} {v : Value} {ds : List Y.Dcl} (h : OwnD L w base v ds) (i : Nat) (hi : i < ds.length) : ∃ D c A c', v = .slice (some ⟨D, 0, none⟩) ds.length c ∧ w.cell? ⟨D, i * 2, none⟩ = some (.int .i64 ds[i].k) ∧ w.cell? ⟨D, i * 2 + 1, none⟩ = some (.slice A ds[i].ns.length c') ∧ RdR L w base A ds[i].ns := by
  obtain ⟨qs, rfl, h2, h3⟩ := h
  have hi' : i < qs.length := by simpa using hi
  rcases h2.2 with ⟨_, h0⟩ | ⟨g, cap, cur, rfl, _⟩
  · omega
  · refine ⟨g, cap, qs[i].2.1, qs[i].2.2, rfl, ?_, ?_, ?_⟩
    · have := World.ownsRow.cells h2 (g := g) rfl (i * 2 + 0) _ (by rw [dall_at qs i 0 hi' (by omega)]; rfl)
      rw [addZ, Nat.zero_add] at this
      simpa using this
    · have := World.ownsRow.cells h2 (g := g) rfl (i * 2 + 1) _ (by rw [dall_at qs i 1 hi' (by omega)]; rfl)
      rw [addZ, Nat.zero_add] at this
      simpa using this
    · have := h3 qs[i] (List.getElem_mem hi')
      simpa using this
theorem OwnP.at {L : List Int} {w : World} {base : Nat} {v : Value} {ps : List Y.Prd} (h : OwnP L w base v ps) (i : Nat) (hi : i < ps.length) : ∃ D c A c', v = .slice (some ⟨D, 0, none⟩) ps.length c ∧ (∀ j u, j < 5 → (pcells L ps[i] A c')[j]? = some u → w.cell? ⟨D, i * 5 + j, none⟩ = some u) ∧ RdR L w base A ps[i].r := by
  obtain ⟨qs, rfl, h2, h3⟩ := h
  have hi' : i < qs.length := by simpa using hi
  rcases h2.2 with ⟨_, h0⟩ | ⟨g, cap, cur, rfl, _⟩
  · omega
  · refine ⟨g, cap, qs[i].2.1, qs[i].2.2, rfl, fun j u hj hu => ?_, ?_⟩
    · have := World.ownsRow.cells h2 (g := g) rfl (i * 5 + j) u (by rw [pall_at L qs i j hi' hj]; simpa using hu)
      rw [addZ, Nat.zero_add] at this
      exact this
    · have := h3 qs[i] (List.getElem_mem hi')
      simpa using this

namespace Y
theorem prefs_snoc (p : Prd) : ∀ (ps : List Prd) (q : Option Nat), prefs q (ps ++ [p]) = prefs q ps ++ ((if (ps.getLast?.map (·.l.o)).or q = some p.l.o then [] else [p.l]) ++ p.refs)
  | [], q => by
    simp [prefs]
    congr
  | x :: r, q => by
    rw [List.cons_append, prefs, prefs_snoc p r, prefs]
    have e : ((r.getLast?.map (·.l.o)).or (some x.l.o)) = (((x :: r).getLast?.map (·.l.o)).or q) := by
      cases r with
      | nil => simp
      | cons a b => simp [List.getLast?_cons]
    rw [e]
    simp [List.append_assoc]
/-- The listed references up to a rule. -/
theorem prefs_take (ps : List Prd) (i : Nat) (hi : i < ps.length) : prefs none (ps.take (i + 1)) = prefs none (ps.take i) ++ ((if 0 < i ∧ ps[i - 1].l.o = ps[i].l.o then [] else [ps[i].l]) ++ ps[i].refs) := by
  rw [List.take_succ_eq_append_getElem hi, prefs_snoc]
  congr 2
  rcases Nat.eq_zero_or_pos i with h0 | h0
  · subst h0; simp
  · have e : (ps.take i).getLast? = some ps[i - 1] := by
      rw [List.getLast?_eq_getElem?, List.length_take, Nat.min_eq_left (by omega), List.getElem?_take_of_lt (by omega), List.getElem?_eq_getElem (by omega)]
    rw [e]
    simp [h0]
theorem flat_take (ds : List Dcl) (i : Nat) (hi : i < ds.length) : (ds.take (i + 1)).flatMap Dcl.refs = (ds.take i).flatMap Dcl.refs ++ ds[i].ns := by
  rw [List.take_succ_eq_append_getElem hi, List.flatMap_append]
  simp [Dcl.refs]
end Y

theorem OwnR.base_le {L : List Int} {w : World} {base base' : Nat} {v : Value} {xs : List Tok} (h : OwnR L w base v xs) (hb : base' ≤ base) : OwnR L w base' v xs := by
  refine ⟨h.1, ?_⟩
  rcases h.2 with h0 | ⟨g, cap, cur, e, hb1, hr⟩
  · exact .inl h0
  · exact .inr ⟨g, cap, cur, e, by omega, hr⟩
theorem precells_form (L : List Int) (p : Option Tok) : ∃ s3 a4 b4, precells L p = [.string s3, .complex .f64 a4 b4] ∧ (p = none → s3 = ⟨#[]⟩) ∧ ∀ t, p = some t → s3 = K.str t.t ∧ a4 = Fl.fl (Pl.pos (L.take t.o)).1 ∧ b4 = Fl.fl (Pl.pos (L.take t.o)).2 := by
  cases p with
  | none => exact ⟨⟨#[]⟩, 0, 0, rfl, fun _ => rfl, fun t h => by cases h⟩
  | some t =>
    refine ⟨K.str t.t, Fl.fl (Pl.pos (L.take t.o)).1, Fl.fl (Pl.pos (L.take t.o)).2, rfl, ?_, ?_⟩
    · intro h; cases h
    · intro t' h
      injection h with h
      subst h
      exact ⟨rfl, rfl, rfl⟩
theorem own_keepb {L : List Int} {w w' : World} {base : Nat} {v : Value} {xs : List Tok} {g : Nat} {cs : Array Value} (h : OwnR L w base v xs) (hb : w.heap[g]? = some (.cells cs 102 (0, 0))) (hg : w.grownBy w' v.ownBlock) : w'.heap[g]? = some (.cells cs 102 (0, 0)) :=
  own_keep h hb (by decide) hg
theorem apR_pk {w : World} {ops : Array Oper} {rest : List Oper} {o : Oper} {a : Act} {Q : Exit → Act → World → Prop}
    (hgd : o.guard = none) (s x : Operand) (t : TypeId) (ho : o.op = .call { callee := .builtin .append, args := #[s, x], argTypes := #[t, t] }) (ht : Tryz.prog.underlying t = some (.slice 74))
    (L : List Int) (a1 : World) (v : Value) (xs : List Tok) (hs : a.eval s = v) (hown : OwnR L w a1.heap.size v xs) (y : Tok) (c : Nat) (hx : a.eval x = .slice (some ⟨w.heap.size, 0, none⟩) 1 c) (hB : Below a1.heap.size a1 w)
    (hlen : xs.length ≤ 1000000)
    (hK : ∀ v' w', OwnR L w' a1.heap.size v' (xs ++ [y]) → Below a1.heap.size a1 w' → (∀ (g : Nat) (cs : Array Value), w.heap[g]? = some (.cells cs 102 (0, 0)) → w'.heap[g]? = some (.cells cs 102 (0, 0))) → wpList Tryz.prog ops Q rest (a.put o.dst v') w') :
    wpList Tryz.prog ops Q (o :: rest) a (w.alloc (.cells #[.string (K.str y.t), .complex .f64 (Fl.fl (Pl.pos (L.take y.o)).1) (Fl.fl (Pl.pos (L.take y.o)).2)] 74)) := by
  refine apR_arm hgd s x t ho ht L a1.heap.size v xs hs (hown.alloc _) w.heap.size c y hx (ref_cells L w y) hlen (Nat.le_trans hB.size (by simp)) fun v' w' h1 h2 => hK v' w' h1 ?_ ?_
  · exact (hB.alloc hB.size _).grown h2 (Nat.le_trans hB.size (by simp)) (fun k e => (World.ownsRow.lt (hown.alloc (.cells #[.string (K.str y.t), .complex .f64 (Fl.fl (Pl.pos (L.take y.o)).1) (Fl.fl (Pl.pos (L.take y.o)).2)] 74)) k e).1)
  · intro g cs hg
    exact own_keepb (hown.alloc _) ((Below.heap_alloc w _ g (Array.getElem?_eq_some_iff.1 hg).1).trans hg) h2
theorem apnR_pk {w : World} {ops : Array Oper} {rest : List Oper} {o : Oper} {a : Act} {Q : Exit → Act → World → Prop}
    (hgd : o.guard = none) (s x : Operand) (t : TypeId) (ho : o.op = .call { callee := .builtin .append, args := #[s, x], argTypes := #[t, t] }) (ht : Tryz.prog.underlying t = some (.slice 74))
    (L : List Int) (B2 : Nat) (a1 : World) (v : Value) (xs : List Tok) (hs : a.eval s = v) (hown : OwnR L w a1.heap.size v xs) (A : Option Addr) (m c : Nat) (ys : List Tok) (hx : a.eval x = .slice A m c) (hm : m = ys.length) (hr : RdR L w B2 A ys) (hB : Below a1.heap.size a1 w)
    (hlen : xs.length + ys.length ≤ 1000000)
    (hK : ∀ v' w', OwnR L w' a1.heap.size v' (xs ++ ys) → Below a1.heap.size a1 w' → (∀ (g : Nat) (cs : Array Value), w.heap[g]? = some (.cells cs 102 (0, 0)) → w'.heap[g]? = some (.cells cs 102 (0, 0))) → wpList Tryz.prog ops Q rest (a.put o.dst v') w') :
    wpList Tryz.prog ops Q (o :: rest) a w := by
  refine apnR_arm hgd s x t ho ht L a1.heap.size B2 v xs hs hown A m c ys hx hm hr hlen hB.size fun v' w' h1 h2 => hK v' w' h1 ?_ ?_
  · exact hB.grown h2 hB.size (fun k e => (World.ownsRow.lt hown k e).1)
  · intro g cs hg
    exact own_keepb hown hg h2
theorem equal_cb (d : Nat) (a b a' b' : Nat) (w : World) : (Op.equalIn (d + 1) 34 (.complex .f64 a b) (.complex .f64 a' b')).run Tryz.prog w = .ok (Op.floatEq .f64 a a' && Op.floatEq .f64 b b') w := by
  simp [Op.equalIn, run_underlying Tryz.underlying34]

end Go.Proofs.YtoehbkgdodogkaaGreat
