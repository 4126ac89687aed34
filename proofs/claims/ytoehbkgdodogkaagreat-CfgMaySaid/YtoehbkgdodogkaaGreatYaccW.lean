/- Words for memory over this program: tokens that are read, references, a reader; what a reading function answers. -/
import Derived.Test.YtoehbkgdodogkaaGreatYaccL
import Derived.Test.YtoehbkgdodogkaaGreatYaccHas
namespace Go.Proofs.YtoehbkgdodogkaaGreat
set_option maxRecDepth 100000
open Go.RowKit

theorem addZ (g o j : Nat) : ((⟨g, o, none⟩ : Addr).add j) = ⟨g, o + j, none⟩ := by unfold Addr.add; by_cases h0 : j = 0 <;> simp [h0]

/-- A slice value's address A, with these tokens, all of it below block B. -/
def RdT (L : List Int) (w : World) (B : Nat) (A : Option Addr) (ts : List Tok) : Prop :=
  ts.length ≠ 0 → ∃ g o, A = some ⟨g, o, none⟩ ∧ g < B ∧ ∀ i j u, (hi : i < ts.length) → (tcells L ts[i])[j]? = some u → w.cell? ⟨g, o + (i * 3 + j), none⟩ = some u
theorem RdT.nil (L : List Int) (w : World) (B : Nat) (A : Option Addr) : RdT L w B A [] := fun h => absurd rfl h
theorem RdT.keep {L : List Int} {w w' : World} {B : Nat} {A : Option Addr} {ts : List Tok} (h : RdT L w B A ts) (hk : ∀ g o, g < B → w'.cell? ⟨g, o, none⟩ = w.cell? ⟨g, o, none⟩) : RdT L w' B A ts := fun hn => by
  obtain ⟨g, o, e, hg, hc⟩ := h hn
  exact ⟨g, o, e, hg, fun i j u hi hu => (hk _ _ hg).trans (hc i j u hi hu)⟩
theorem RdT.more {L : List Int} {w : World} {B B' : Nat} {A : Option Addr} {ts : List Tok} (h : RdT L w B A ts) (hB : B ≤ B') : RdT L w B' A ts := fun hn => by
  obtain ⟨g, o, e, hg, hc⟩ := h hn
  exact ⟨g, o, e, by omega, hc⟩
theorem RdT.grown {L : List Int} {w w' : World} {B : Nat} {A : Option Addr} {ts : List Tok} {row : Option Nat} (h : RdT L w B A ts) (hg : w.grownBy w' row) (hr : ∀ k, row = some k → B ≤ k) (hs : B ≤ w.heap.size) : RdT L w' B A ts :=
  h.keep fun p o hp => World.cell?_of_block (hg.block p (by omega) (fun e => by have := hr p e.symm; omega))
theorem RdT.below {L : List Int} {w w' : World} {B B' : Nat} {A : Option Addr} {ts : List Tok} (h : RdT L w B A ts) (hb : Below B' w w') (hB : B ≤ B') : RdT L w' B A ts :=
  h.keep fun g o hg => hb.cell (p := ⟨g, o, none⟩) (Nat.lt_of_lt_of_le hg hB)
/-- A slice of the call's own reads as its tokens. -/
theorem OwnT.rd {L : List Int} {w : World} {base : Nat} {v : Value} {xs : List Tok} (h : OwnT L w base v xs) : ∃ A c, v = .slice A xs.length c ∧ xs.length ≤ c ∧ c ≤ maxLen ∧ RdT L w w.heap.size A xs := by
  obtain ⟨A, c, rfl, h1, h2⟩ := h.form
  refine ⟨A, c, rfl, h1, h2, fun h0 => ?_⟩
  obtain ⟨g, c', e, _, _, _, hg, hcell⟩ := h.addr h0
  injection e with e1 e2 e3
  refine ⟨g, 0, e1, hg, fun i j u hi hu => ?_⟩
  have hj : j < 3 := by
    have := (List.getElem?_eq_some_iff.1 hu).1
    simpa [tcells] using this
  rw [Nat.zero_add]
  exact hcell i j u hi hj (by rw [List.getElem?_eq_getElem hi]; exact hu)

/-- The address behind the first token. -/
def nextA (A : Option Addr) (c : Nat) : Option Addr := if c = 1 then A else A.map fun x => x.add 3
theorem RdT.tail {L : List Int} {w : World} {B c : Nat} {A : Option Addr} {t : Tok} {ts : List Tok} (h : RdT L w B A (t :: ts)) (hc : (t :: ts).length ≤ c) : RdT L w B (nextA A c) ts := by
  intro hn
  obtain ⟨g, o, rfl, hg, hcl⟩ := h (by simp)
  refine ⟨g, o + 3, ?_, hg, fun i j u hi hu => ?_⟩
  · unfold nextA
    rw [if_neg (by simp at hc; omega), Option.map_some, addZ]
  · have := hcl (i + 1) j u (by simp; omega) (by simpa using hu)
    rwa [show o + 3 + (i * 3 + j) = o + ((i + 1) * 3 + j) by omega]

/-- A reference's cells; the text gives the place. -/
def rcells (L : List Int) (x : Tok) : List Value := [.string (K.str x.t), .complex .f64 (Fl.fl (Pl.pos (L.take x.o)).1) (Fl.fl (Pl.pos (L.take x.o)).2)]
theorem rcells_len (L : List Int) (xs : List Tok) : (xs.flatMap (rcells L)).length = xs.length * 2 := by
  induction xs with
  | nil => rfl
  | cons x r ih => simp [List.flatMap_cons, ih, rcells]; omega
theorem rcells_at (L : List Int) (xs : List Tok) (i j : Nat) (hi : i < xs.length) (hj : j < 2) : (xs.flatMap (rcells L))[i * 2 + j]? = (rcells L xs[i])[j]? := by
  induction xs generalizing i with
  | nil => simp at hi
  | cons x r ih =>
    rw [List.flatMap_cons]
    have hl : (rcells L x).length = 2 := rfl
    cases i with
    | zero => rw [List.getElem?_append_left (by omega)]; simp
    | succ i =>
      rw [List.getElem?_append_right (by omega), hl, show (i + 1) * 2 + j - 2 = i * 2 + j by omega]
      simpa using ih i (by simpa using hi)
/-- A slice value's address A, with these references, in a block of references from block B on. -/
def RdR (L : List Int) (w : World) (B : Nat) (A : Option Addr) (xs : List Tok) : Prop :=
  xs.length ≠ 0 → ∃ (g : Nat) (cur : Array Value), A = some ⟨g, 0, none⟩ ∧ B ≤ g ∧ w.heap[g]? = some (.cells cur 74 (0, 0)) ∧ ∀ (j : Nat) (u : Value), (xs.flatMap (rcells L))[j]? = some u → cur[j]? = some u
theorem RdR.nil (L : List Int) (w : World) (B : Nat) (A : Option Addr) : RdR L w B A [] := fun h => absurd rfl h
/-- What is written to a block of another kind changes no references. -/
def Other (w : World) (row : Option Nat) : Prop := ∀ k, row = some k → ∀ cur, w.heap[k]? ≠ some (.cells cur 74 (0, 0))
theorem Other.none (w : World) : Other w .none := fun _ h => by cases h
theorem RdR.grown {L : List Int} {w w' : World} {B : Nat} {A : Option Addr} {xs : List Tok} {row : Option Nat} (h : RdR L w B A xs) (hg : w.grownBy w' row) (hr : Other w row) : RdR L w' B A xs := fun hn => by
  obtain ⟨g, cur, e, hB, hh, hc⟩ := h hn
  exact ⟨g, cur, e, hB, (hg.block g (Array.getElem?_eq_some_iff.1 hh).1 (fun e => hr g e.symm cur hh)).trans hh, hc⟩
theorem RdR.less {L : List Int} {w : World} {B B' : Nat} {A : Option Addr} {xs : List Tok} (h : RdR L w B A xs) (hB : B' ≤ B) : RdR L w B' A xs := fun hn => by
  obtain ⟨g, cur, e, hb, hh⟩ := h hn
  exact ⟨g, cur, e, by omega, hh⟩
theorem RdR.below {L : List Int} {w w' : World} {B : Nat} {A : Option Addr} {xs : List Tok} (h : RdR L w B A xs) (hb : Below w.heap.size w w') : RdR L w' B A xs := h.grown (only_below hb .none) (Other.none w)
theorem RdR.cell {L : List Int} {w : World} {B : Nat} {A : Option Addr} {xs : List Tok} (h : RdR L w B A xs) (h0 : xs.length ≠ 0) : ∃ g, A = some ⟨g, 0, none⟩ ∧ B ≤ g ∧ ∀ i j u, (hi : i < xs.length) → j < 2 → (rcells L xs[i])[j]? = some u → w.cell? ⟨g, i * 2 + j, none⟩ = some u := by
  obtain ⟨g, cur, e, hB, hh, hc⟩ := h h0
  refine ⟨g, e, hB, fun i j u hi hj hu => ?_⟩
  rw [cell_of_row w g _ _ _ _ hh]
  exact hc _ _ (by rw [rcells_at L xs i j hi hj]; exact hu)

/-- A slice of the call's own with these references, nil or not. -/
def OwnR (L : List Int) (w : World) (base : Nat) (v : Value) (xs : List Tok) : Prop := w.ownsRow base 74 2 v xs.length (xs.flatMap (rcells L))
theorem OwnR.nil (L : List Int) (w : World) (base : Nat) : OwnR L w base (.slice none 0 0) [] := World.ownsRow_nil w base _ _
theorem OwnR.alloc {L : List Int} {w : World} {base : Nat} {v : Value} {xs : List Tok} (h : OwnR L w base v xs) (o : Obj) : OwnR L (w.alloc o) base v xs := World.ownsRow.alloc h o
theorem OwnR.grown {L : List Int} {w w' : World} {base : Nat} {v : Value} {xs : List Tok} {row : Option Nat} (h : OwnR L w base v xs) (hg : w.grownBy w' row) (hr : Other w row) : OwnR L w' base v xs := by
  refine ⟨h.1, ?_⟩
  rcases h.2 with h0 | ⟨g, cap, cur, e, hb1, hh, hrr⟩
  · exact .inl h0
  · exact .inr ⟨g, cap, cur, e, hb1, (hg.block g (Array.getElem?_eq_some_iff.1 hh).1 (fun e => hr g e.symm cur hh)).trans hh, hrr⟩
theorem OwnR.below {L : List Int} {w w' : World} {base : Nat} {v : Value} {xs : List Tok} (h : OwnR L w base v xs) (hb : Below w.heap.size w w') : OwnR L w' base v xs := h.grown (only_below hb .none) (Other.none w)
theorem OwnR.rd {L : List Int} {w : World} {base : Nat} {v : Value} {xs : List Tok} (h : OwnR L w base v xs) : ∃ A c, v = .slice A xs.length c ∧ xs.length ≤ c ∧ c ≤ maxLen ∧ RdR L w base A xs := by
  rcases h.2 with ⟨rfl, h0⟩ | ⟨g, cap, cur, rfl, hb, hg, hn, hm, hs, ht⟩
  · exact ⟨none, 0, by rw [h0], by omega, by unfold maxLen; omega, fun hc => absurd h0 hc⟩
  · refine ⟨some ⟨g, 0, none⟩, cap, rfl, hn, hm, fun _ => ⟨g, cur, rfl, hb, hg, fun j u hu => ?_⟩⟩
    rw [← ht] at hu
    have hj := (List.getElem?_eq_some_iff.1 hu).1
    rw [List.length_take] at hj
    rw [List.getElem?_take_of_lt (by omega)] at hu
    simpa using hu
theorem infoR : (Tryz.prog.info? 74).map (fun i => (i.zero, i.size, i.bytes)) = some (some (.agg #[.string ⟨#[]⟩, .complex .f64 0 0]), 2, 32) := by kernel_rfl

/-- append of one reference, which lies in a block of its own, to a slice of the call's own. -/
theorem apR_arm {w : World} {ops : Array Oper} {rest : List Oper} {o : Oper} {a : Act} {Q : Exit → Act → World → Prop}
    (hgd : o.guard = none) (s x : Operand) (t : TypeId) (ho : o.op = .call { callee := .builtin .append, args := #[s, x], argTypes := #[t, t] }) (ht : Tryz.prog.underlying t = some (.slice 74))
    (L : List Int) (base : Nat) (v : Value) (xs : List Tok) (hs : a.eval s = v) (hown : OwnR L w base v xs) (g c : Nat) (y : Tok) (hx : a.eval x = .slice (some ⟨g, 0, none⟩) 1 c) (hz : ∀ j u, (rcells L y)[j]? = some u → w.cell? ⟨g, j, none⟩ = some u)
    (hlen : xs.length ≤ 1000000) (hbase : base ≤ w.heap.size)
    (hK : ∀ v' w', OwnR L w' base v' (xs ++ [y]) → w.grownBy w' v.ownBlock → wpList Tryz.prog ops Q rest (a.put o.dst v') w') :
    wpList Tryz.prog ops Q (o :: rest) a w := by
  obtain ⟨i, hi, hz0, hz1, hz2⟩ := info_parts infoR
  refine wpList_append_own w hgd s x t ho base 74 i _ 2 32 ht hi hz0 hz1 hz2 rfl (by decide) v xs.length (xs.flatMap (rcells L)) hs hown ⟨g, 0, none⟩ 1 c (rcells L y) hx rfl ?_ ?_ (by unfold maxLen; omega) (by omega) hbase fun v' w' h1 h2 _ => hK v' w' ?_ h2
  · intro j u hj
    rw [addZ, Nat.zero_add]
    exact hz j u hj
  · intro u hu; simp [rcells] at hu; rcases hu with rfl | rfl <;> rfl
  · unfold OwnR
    rw [List.length_append, List.flatMap_append, List.flatMap_singleton]; exact h1
/-- append of a list of references to a slice of the call's own. -/
theorem apnR_arm {w : World} {ops : Array Oper} {rest : List Oper} {o : Oper} {a : Act} {Q : Exit → Act → World → Prop}
    (hgd : o.guard = none) (s x : Operand) (t : TypeId) (ho : o.op = .call { callee := .builtin .append, args := #[s, x], argTypes := #[t, t] }) (ht : Tryz.prog.underlying t = some (.slice 74))
    (L : List Int) (base B : Nat) (v : Value) (xs : List Tok) (hs : a.eval s = v) (hown : OwnR L w base v xs) (A : Option Addr) (m c : Nat) (ys : List Tok) (hx : a.eval x = .slice A m c) (hm : m = ys.length) (hr : RdR L w B A ys)
    (hlen : xs.length + ys.length ≤ 1000000) (hbase : base ≤ w.heap.size)
    (hK : ∀ v' w', OwnR L w' base v' (xs ++ ys) → w.grownBy w' v.ownBlock → wpList Tryz.prog ops Q rest (a.put o.dst v') w') :
    wpList Tryz.prog ops Q (o :: rest) a w := by
  obtain ⟨i, hi, hz0, hz1, hz2⟩ := info_parts infoR
  subst hm
  rcases A with _ | ad
  · have hz : ys = [] := by
      rcases Nat.eq_zero_or_pos ys.length with h0 | h0
      · exact List.eq_nil_of_length_eq_zero h0
      · obtain ⟨g, o', h, _⟩ := hr (by omega); cases h
    subst hz
    have hrun := run_append_nil (P := Tryz.prog) w base t o.type 74 i 2 ht hi v xs.length _ hown c
    refine wpList_plain hgd fun K hK' => ?_
    unfold Oper.wp
    simp [execOp, ho, resolve, invoke, builtin, hs, hx, hrun, Result.andThen]
    exact hK' _ _ (hK v w (by simpa using hown) (World.grownBy.refl _ _))
  · refine wpList_append_own w hgd s x t ho base 74 i _ 2 32 ht hi hz0 hz1 hz2 rfl (by decide) v xs.length (xs.flatMap (rcells L)) hs hown ad ys.length c (ys.flatMap (rcells L)) hx (rcells_len L ys) ?_ ?_ (by unfold maxLen; omega) (by omega) hbase fun v' w' h1 h2 _ => hK v' w' ?_ h2
    · intro j u hj
      have hjl : j < (ys.flatMap (rcells L)).length := (List.getElem?_eq_some_iff.1 hj).1
      rw [rcells_len] at hjl
      obtain ⟨g, cur, h, _, hh, hc⟩ := hr (by omega)
      replace h := Option.some.inj h
      subst h
      rw [addZ, Nat.zero_add, cell_of_row w g _ _ _ _ hh]
      exact hc j u hj
    · intro u hu
      obtain ⟨z, _, hz⟩ := List.mem_flatMap.1 hu
      simp [rcells] at hz; rcases hz with rfl | rfl <;> rfl
    · unfold OwnR
      rw [List.length_append, List.flatMap_append]; exact h1

/-- A reader: what it has yet to read, and the place behind. -/
def Rdr (L : List Int) (B R px py : Nat) (w : World) (ts : List Tok) : Prop :=
  ∃ A c, w.heap[R]? = some (.cells #[.slice A ts.length c, .complex .f64 px py] 95 (0, 0)) ∧ ts.length ≤ c ∧ ts.length ≤ 4000 ∧ RdT L w B A ts ∧ B ≤ R
theorem Rdr.lt {L : List Int} {B R px py : Nat} {w : World} {ts : List Tok} (h : Rdr L B R px py w ts) : R < w.heap.size := by
  obtain ⟨A, c, hh, _⟩ := h
  exact (Array.getElem?_eq_some_iff.1 hh).1
theorem Rdr.other {L : List Int} {B R px py : Nat} {w : World} {ts : List Tok} (h : Rdr L B R px py w ts) : Other w (some R) := by
  obtain ⟨A, c, hh, _⟩ := h
  intro k hk cur he
  injection hk with hk
  subst hk
  rw [hh] at he
  injection he with he
  injection he with _ he
  cases he
theorem Rdr.grown {L : List Int} {B R px py : Nat} {w w' : World} {ts : List Tok} {row : Option Nat} (h : Rdr L B R px py w ts) (hg : w.grownBy w' row) (hr : ∀ k, row = some k → R < k) : Rdr L B R px py w' ts := by
  have hlt := h.lt
  obtain ⟨A, c, hh, h1, h2, h3, h4⟩ := h
  exact ⟨A, c, (hg.block R hlt (fun e => by have := hr R e.symm; omega)).trans hh, h1, h2, h3.grown hg (fun k e => by have := hr k e; omega) (by omega), h4⟩
theorem Rdr.alloc {L : List Int} {B R px py : Nat} {w : World} {ts : List Tok} (h : Rdr L B R px py w ts) (o : Obj) : Rdr L B R px py (w.alloc o) ts :=
  h.grown (row := .none) (only_alloc (World.grownBy.refl _ _) o) (fun _ e => by cases e)

/-- What ends a reading: where, and why. -/
def entry (L : List Int) (px py : Nat) : Option Tok → PanicEntry
  | none => { v := .iface 92 (.agg #[.complex .f64 px py, .int .i64 4]), recovered := false }
  | some t => { v := .iface 92 (.agg #[.complex .f64 (Fl.fl (Pl.pos (L.take t.o)).1) (Fl.fl (Pl.pos (L.take t.o)).2), .int .i64 3]), recovered := false }
/-- What a reading function answers, in a world that went on from w. -/
def Does {α : Type} (L : List Int) (B R px py : Nat) (w : World) (V : α → Value → World → Prop) (res : Y.Res α) (e : Ending) (w' : World) : Prop :=
  w.grownBy w' (some R) ∧ match res with
    | .ok a r => ∃ v, e = .returned v ∧ Rdr L B R px py w' r ∧ V a v w'
    | .bad p => e = .panicked [entry L px py p]

theorem _root_.Go.World.grownBy.row {w w' : World} (h : w.grownBy w' .none) (row : Option Nat) : w.grownBy w' row := ⟨h.os, h.tape, h.output, h.size, fun k hk _ => h.block k hk (by simp)⟩
/-- What turns a block of the call's own leaves what there was. -/
theorem grown_own {a w w' : World} {row : Option Nat} {e : TypeId} {size n : Nat} {v : Value} {xs : List Value} (h : a.grownBy w row) (ho : w.ownsRow a.heap.size e size v n xs) (hg : w.grownBy w' v.ownBlock) : a.grownBy w' row :=
  ⟨hg.os.trans h.os, hg.tape.trans h.tape, hg.output.trans h.output, Nat.le_trans h.size hg.size, fun k hk hne => (hg.block k (Nat.lt_of_lt_of_le hk h.size) (fun e => by have := (World.ownsRow.lt ho k e.symm).1; omega)).trans (h.block k hk hne)⟩
theorem Rdr.own {L : List Int} {B R px py base : Nat} {w w' : World} {ts : List Tok} {e : TypeId} {size n : Nat} {v : Value} {xs : List Value} (h : Rdr L B R px py w ts) (ho : w.ownsRow base e size v n xs) (hg : w.grownBy w' v.ownBlock) (hb : R < base) : Rdr L B R px py w' ts :=
  h.grown hg (fun k e => by have := (World.ownsRow.lt ho k e).1; omega)
/-- A reference that is made lies there. -/
theorem ref_cells (L : List Int) (w : World) (t : Tok) : ∀ j u, (rcells L t)[j]? = some u → (w.alloc (.cells #[.string (K.str t.t), .complex .f64 (Fl.fl (Pl.pos (L.take t.o)).1) (Fl.fl (Pl.pos (L.take t.o)).2)] 74)).cell? ⟨w.heap.size, j, none⟩ = some u := by
  intro j u hu
  rw [World.cell?_alloc_new]
  simpa [rcells] using hu
/-- A block that was made before a call is as it was made. -/
theorem block_kept {w w2 : World} {o : Obj} {R : Nat} (h : (w.alloc o).grownBy w2 (some R)) (hR : R < w.heap.size) : w2.heap[w.heap.size]? = some o := by
  rw [h.block w.heap.size (by simp) (fun e => by injection e with e; omega)]
  exact heap_alloc_new w o
theorem size_kept {w w2 : World} {o : Obj} {row : Option Nat} (h : (w.alloc o).grownBy w2 row) : w.heap.size < w2.heap.size := Nat.lt_of_lt_of_le (by simp) h.size
theorem only_far {a w : World} {row : Option Nat} (h : a.grownBy w row) (g i : Nat) (u : Value) (hg : a.heap.size ≤ g) : a.grownBy (w.setCell ⟨g, i, none⟩ u) row :=
  ⟨h.os, h.tape, h.output, by simpa [World.setCell] using h.size, fun k hk hne => (Below.heap_setCell w ⟨g, i, none⟩ u k (by simp only; omega)).trans (h.block k hk hne)⟩
theorem Rdr.far {L : List Int} {B R px py : Nat} {w : World} {ts : List Tok} (h : Rdr L B R px py w ts) (g i : Nat) (u : Value) (hg : R < g) : Rdr L B R px py (w.setCell ⟨g, i, none⟩ u) ts :=
  h.grown (only_set (World.grownBy.refl w (some g)) i u) (fun k e => by injection e with e; omega)
end Go.Proofs.YtoehbkgdodogkaaGreat
