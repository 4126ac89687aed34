/- Part of the proofs over this program: YaccW, LexToks, YaccRd, YaccP, YaccDecl, Ref8R, YaccSource, YaccOf, ScanL, Ref7, YaccList, BldW. -/
import Derived.Deep.DeepCutAuto
import Derived.Defers
import Derived.Recover
import Derived.Test.YtajcegofflmoeaaGreatDoorKC
namespace Go.Proofs.YtajcegofflmoeaaGreatDoor
set_option maxRecDepth 100000
open Go.RowKit

theorem addZ (g o j : Nat) : ((⟨g, o, none⟩ : Addr).add j) = ⟨g, o + j, none⟩ := by unfold Addr.add; by_cases h0 : j = 0 <;> simp [h0]

def RdT (L : List Int) (w : World) (B : Nat) (A : Option Addr) (ts : List Tok) : Prop :=
  ts.length ≠ 0 → ∃ g o, A = some ⟨g, o, none⟩ ∧ g < B ∧ ∀ i j u, (hi : i < ts.length) → (tcells L ts[i])[j]? = some u → w.cell? ⟨g, o + (i * 3 + j), none⟩ = some u
theorem RdT.nil (L : List Int) (w : World) (B : Nat) (A : Option Addr) : RdT L w B A [] := fun h => absurd rfl h
theorem RdT.keep {L : List Int} {w w' : World} {B : Nat} {A : Option Addr} {ts : List Tok} (h : RdT L w B A ts) (hk : ∀ g o, g < B → w'.cell? ⟨g, o, none⟩ = w.cell? ⟨g, o, none⟩) : RdT L w' B A ts := fun hn => by
  obtain ⟨g, o, e, hg, hc⟩ := h hn
  exact ⟨g, o, e, hg, fun i j u hi hu => (hk _ _ hg).trans (hc i j u hi hu)⟩
theorem RdT.more {L : List Int} {w : World} {B B' : Nat} {A : Option Addr} {ts : List Tok} (h : RdT L w B A ts) (hB : B ≤ B') : RdT L w B' A ts := fun hn => by
  obtain ⟨g, o, e, hg, hc⟩ := h hn
  exact ⟨g, o, e, by omega, hc⟩
theorem RdT.grown {L : List Int} {w w' : World} {B : Nat} {A : Option Addr} {ts : List Tok} {row : Option Nat} (h : RdT L w B A ts) (hg : w.grownBy w' row) (hr : ∀ k, row = some k → B ≤ k) (hs : B ≤ w.heap.size) : RdT L w' B A ts :=
  h.keep fun p o hp => World.cell?_of_block (hg.block p (by omega) (fun e => by have := hr p e.symm; omega))
theorem RdT.below {L : List Int} {w w' : World} {B B' : Nat} {A : Option Addr} {ts : List Tok} (h : RdT L w B A ts) (hb : Below B' w w') (hB : B ≤ B') : RdT L w' B A ts :=
  h.keep fun g o hg => hb.cell (p := ⟨g, o, none⟩) (Nat.lt_of_lt_of_le hg hB)
theorem OwnT.rd {L : List Int} {w : World} {base : Nat} {v : Value} {xs : List Tok} (h : OwnT L w base v xs) : ∃ A c, v = .slice A xs.length c ∧ xs.length ≤ c ∧ c ≤ maxLen ∧ RdT L w w.heap.size A xs := by
  obtain ⟨A, c, rfl, h1, h2⟩ := h.form
  refine ⟨A, c, rfl, h1, h2, fun h0 => ?_⟩
  obtain ⟨g, c', e, _, _, _, hg, hcell⟩ := h.addr h0
  injection e with e1 e2 e3
  refine ⟨g, 0, e1, hg, fun i j u hi hu => ?_⟩
  have hj : j < 3 := by
    have := (List.getElem?_eq_some_iff.1 hu).1
    simpa [tcells] using this
  rw [Nat.zero_add]
  exact hcell i j u hi hj (by rw [List.getElem?_eq_getElem hi]; exact hu)

def nextA (A : Option Addr) (c : Nat) : Option Addr := if c = 1 then A else A.map fun x => x.add 3
theorem RdT.tail {L : List Int} {w : World} {B c : Nat} {A : Option Addr} {t : Tok} {ts : List Tok} (h : RdT L w B A (t :: ts)) (hc : (t :: ts).length ≤ c) : RdT L w B (nextA A c) ts := by
  intro hn
  obtain ⟨g, o, rfl, hg, hcl⟩ := h (by simp)
  refine ⟨g, o + 3, ?_, hg, fun i j u hi hu => ?_⟩
  · unfold nextA
    rw [if_neg (by simp at hc; omega), Option.map_some, addZ]
  · have := hcl (i + 1) j u (by simp; omega) (by simpa using hu)
    rwa [show o + 3 + (i * 3 + j) = o + ((i + 1) * 3 + j) by omega]

def rcells (L : List Int) (x : Tok) : List Value := [.string (K.str x.t), .complex .f64 (Fl.fl (Pl.pos (L.take x.o)).1) (Fl.fl (Pl.pos (L.take x.o)).2)]
theorem rcells_len (L : List Int) (xs : List Tok) : (xs.flatMap (rcells L)).length = xs.length * 2 := by
  induction xs with
  | nil => rfl
  | cons x r ih => simp [List.flatMap_cons, ih, rcells]; omega
theorem rcells_at (L : List Int) (xs : List Tok) (i j : Nat) (hi : i < xs.length) (hj : j < 2) : (xs.flatMap (rcells L))[i * 2 + j]? = (rcells L xs[i])[j]? := by
  induction xs generalizing i with
  | nil => simp at hi
  | cons x r ih =>
    rw [List.flatMap_cons]
    have hl : (rcells L x).length = 2 := rfl
    cases i with
    | zero => rw [List.getElem?_append_left (by omega)]; simp
    | succ i =>
      rw [List.getElem?_append_right (by omega), hl, show (i + 1) * 2 + j - 2 = i * 2 + j by omega]
      simpa using ih i (by simpa using hi)
def RdR (L : List Int) (w : World) (B : Nat) (A : Option Addr) (xs : List Tok) : Prop :=
  xs.length ≠ 0 → ∃ (g : Nat) (cur : Array Value), A = some ⟨g, 0, none⟩ ∧ B ≤ g ∧ w.heap[g]? = some (.cells cur 89 (0, 0)) ∧ ∀ (j : Nat) (u : Value), (xs.flatMap (rcells L))[j]? = some u → cur[j]? = some u
theorem RdR.nil (L : List Int) (w : World) (B : Nat) (A : Option Addr) : RdR L w B A [] := fun h => absurd rfl h
def Other (w : World) (row : Option Nat) : Prop := ∀ k, row = some k → ∀ cur, w.heap[k]? ≠ some (.cells cur 89 (0, 0))
theorem Other.none (w : World) : Other w .none := fun _ h => by cases h
theorem RdR.grown {L : List Int} {w w' : World} {B : Nat} {A : Option Addr} {xs : List Tok} {row : Option Nat} (h : RdR L w B A xs) (hg : w.grownBy w' row) (hr : Other w row) : RdR L w' B A xs := fun hn => by
  obtain ⟨g, cur, e, hB, hh, hc⟩ := h hn
  exact ⟨g, cur, e, hB, (hg.block g (Array.getElem?_eq_some_iff.1 hh).1 (fun e => hr g e.symm cur hh)).trans hh, hc⟩
theorem RdR.less {L : List Int} {w : World} {B B' : Nat} {A : Option Addr} {xs : List Tok} (h : RdR L w B A xs) (hB : B' ≤ B) : RdR L w B' A xs := fun hn => by
  obtain ⟨g, cur, e, hb, hh⟩ := h hn
  exact ⟨g, cur, e, by omega, hh⟩
theorem RdR.below {L : List Int} {w w' : World} {B : Nat} {A : Option Addr} {xs : List Tok} (h : RdR L w B A xs) (hb : Below w.heap.size w w') : RdR L w' B A xs := h.grown (only_below hb .none) (Other.none w)
theorem RdR.cell {L : List Int} {w : World} {B : Nat} {A : Option Addr} {xs : List Tok} (h : RdR L w B A xs) (h0 : xs.length ≠ 0) : ∃ g, A = some ⟨g, 0, none⟩ ∧ B ≤ g ∧ ∀ i j u, (hi : i < xs.length) → j < 2 → (rcells L xs[i])[j]? = some u → w.cell? ⟨g, i * 2 + j, none⟩ = some u := by
  obtain ⟨g, cur, e, hB, hh, hc⟩ := h h0
  refine ⟨g, e, hB, fun i j u hi hj hu => ?_⟩
  rw [cell_of_row w g _ _ _ _ hh]
  exact hc _ _ (by rw [rcells_at L xs i j hi hj]; exact hu)

def OwnR (L : List Int) (w : World) (base : Nat) (v : Value) (xs : List Tok) : Prop := w.ownsRow base 89 2 v xs.length (xs.flatMap (rcells L))
theorem OwnR.nil (L : List Int) (w : World) (base : Nat) : OwnR L w base (.slice none 0 0) [] := World.ownsRow_nil w base _ _
theorem OwnR.alloc {L : List Int} {w : World} {base : Nat} {v : Value} {xs : List Tok} (h : OwnR L w base v xs) (o : Obj) : OwnR L (w.alloc o) base v xs := World.ownsRow.alloc h o
theorem OwnR.grown {L : List Int} {w w' : World} {base : Nat} {v : Value} {xs : List Tok} {row : Option Nat} (h : OwnR L w base v xs) (hg : w.grownBy w' row) (hr : Other w row) : OwnR L w' base v xs := by
  refine ⟨h.1, ?_⟩
  rcases h.2 with h0 | ⟨g, cap, cur, e, hb1, hh, hrr⟩
  · exact .inl h0
  · exact .inr ⟨g, cap, cur, e, hb1, (hg.block g (Array.getElem?_eq_some_iff.1 hh).1 (fun e => hr g e.symm cur hh)).trans hh, hrr⟩
theorem OwnR.below {L : List Int} {w w' : World} {base : Nat} {v : Value} {xs : List Tok} (h : OwnR L w base v xs) (hb : Below w.heap.size w w') : OwnR L w' base v xs := h.grown (only_below hb .none) (Other.none w)
theorem OwnR.rd {L : List Int} {w : World} {base : Nat} {v : Value} {xs : List Tok} (h : OwnR L w base v xs) : ∃ A c, v = .slice A xs.length c ∧ xs.length ≤ c ∧ c ≤ maxLen ∧ RdR L w base A xs := by
  rcases h.2 with ⟨rfl, h0⟩ | ⟨g, cap, cur, rfl, hb, hg, hn, hm, hs, ht⟩
  · exact ⟨none, 0, by rw [h0], by omega, by unfold maxLen; omega, fun hc => absurd h0 hc⟩
  · refine ⟨some ⟨g, 0, none⟩, cap, rfl, hn, hm, fun _ => ⟨g, cur, rfl, hb, hg, fun j u hu => ?_⟩⟩
    rw [← ht] at hu
    have hj := (List.getElem?_eq_some_iff.1 hu).1
    rw [List.length_take] at hj
    rw [List.getElem?_take_of_lt (by omega)] at hu
    simpa using hu
theorem infoR : (Tryz.prog.info? 89).map (fun i => (i.zero, i.size, i.bytes)) = some (some (.agg #[.string ⟨#[]⟩, .complex .f64 0 0]), 2, 32) := by kernel_rfl

theorem apR_arm {w : World} {ops : Array Oper} {rest : List Oper} {o : Oper} {a : Act} {Q : Exit → Act → World → Prop}
    (hgd : o.guard = none) (s x : Operand) (t : TypeId) (ho : o.op = .call { callee := .builtin .append, args := #[s, x], argTypes := #[t, t] }) (ht : Tryz.prog.underlying t = some (.slice 89))
    (L : List Int) (base : Nat) (v : Value) (xs : List Tok) (hs : a.eval s = v) (hown : OwnR L w base v xs) (g c : Nat) (y : Tok) (hx : a.eval x = .slice (some ⟨g, 0, none⟩) 1 c) (hz : ∀ j u, (rcells L y)[j]? = some u → w.cell? ⟨g, j, none⟩ = some u)
    (hlen : xs.length ≤ 1000000) (hbase : base ≤ w.heap.size)
    (hK : ∀ v' w', OwnR L w' base v' (xs ++ [y]) → w.grownBy w' v.ownBlock → wpList Tryz.prog ops Q rest (a.put o.dst v') w') :
    wpList Tryz.prog ops Q (o :: rest) a w := by
  obtain ⟨i, hi, hz0, hz1, hz2⟩ := info_parts infoR
  refine wpList_append_own w hgd s x t ho base 89 i _ 2 32 ht hi hz0 hz1 hz2 rfl (by decide) v xs.length (xs.flatMap (rcells L)) hs hown ⟨g, 0, none⟩ 1 c (rcells L y) hx rfl ?_ ?_ (by unfold maxLen; omega) (by omega) hbase fun v' w' h1 h2 _ => hK v' w' ?_ h2
  · intro j u hj
    rw [addZ, Nat.zero_add]
    exact hz j u hj
  · intro u hu; simp [rcells] at hu; rcases hu with rfl | rfl <;> rfl
  · unfold OwnR
    rw [List.length_append, List.flatMap_append, List.flatMap_singleton]; exact h1
theorem _root_.Go.World.grownBy.row {w w' : World} (h : w.grownBy w' .none) (row : Option Nat) : w.grownBy w' row := ⟨h.os, h.tape, h.output, h.size, fun k hk _ => h.block k hk (by simp)⟩
theorem grown_own {a w w' : World} {row : Option Nat} {e : TypeId} {size n : Nat} {v : Value} {xs : List Value} (h : a.grownBy w row) (ho : w.ownsRow a.heap.size e size v n xs) (hg : w.grownBy w' v.ownBlock) : a.grownBy w' row :=
  ⟨hg.os.trans h.os, hg.tape.trans h.tape, hg.output.trans h.output, Nat.le_trans h.size hg.size, fun k hk hne => (hg.block k (Nat.lt_of_lt_of_le hk h.size) (fun e => by have := (World.ownsRow.lt ho k e.symm).1; omega)).trans (h.block k hk hne)⟩
theorem ref_cells (L : List Int) (w : World) (t : Tok) : ∀ j u, (rcells L t)[j]? = some u → (w.alloc (.cells #[.string (K.str t.t), .complex .f64 (Fl.fl (Pl.pos (L.take t.o)).1) (Fl.fl (Pl.pos (L.take t.o)).2)] 89)).cell? ⟨w.heap.size, j, none⟩ = some u := by
  intro j u hu
  rw [World.cell?_alloc_new]
  simpa [rcells] using hu
theorem block_kept {w w2 : World} {o : Obj} {R : Nat} (h : (w.alloc o).grownBy w2 (some R)) (hR : R < w.heap.size) : w2.heap[w.heap.size]? = some o := by
  rw [h.block w.heap.size (by simp) (fun e => by injection e with e; omega)]
  exact heap_alloc_new w o
theorem only_far {a w : World} {row : Option Nat} (h : a.grownBy w row) (g i : Nat) (u : Value) (hg : a.heap.size ≤ g) : a.grownBy (w.setCell ⟨g, i, none⟩ u) row :=
  ⟨h.os, h.tape, h.output, by simpa [World.setCell] using h.size, fun k hk hne => (Below.heap_setCell w ⟨g, i, none⟩ u k (by simp only; omega)).trans (h.block k hk hne)⟩
end Go.Proofs.YtajcegofflmoeaaGreatDoor

namespace Go.Proofs.YtajcegofflmoeaaGreatDoor
set_option maxRecDepth 100000
open Go.RowKit

def slLen (v : Value) : Nat := match v with | .slice _ n _ => n | _ => 0
def ToksAns (L : List Int) (r : Out) (w : World) (e : Ending) (w' : World) : Prop :=
  match r with
  | .ok xs => ∃ v, e = .returned (.tuple #[v, .complex .f64 (Fl.fl (Pl.pos L).1) (Fl.fl (Pl.pos L).2), .int .i64 0]) ∧ OwnT L w' w.heap.size v xs ∧ Below w.heap.size w w'
  | .bad o d => e = .returned (.tuple #[.slice none 0 0, .complex .f64 (Fl.fl (Pl.pos (L.take o)).1) (Fl.fl (Pl.pos (L.take o)).2), .int .i64 d]) ∧ Below w.heap.size w w'
end Go.Proofs.YtajcegofflmoeaaGreatDoor

namespace Go.Proofs.YtajcegofflmoeaaGreatDoor
set_option maxRecDepth 100000
open Go.RowKit

def refV (L : List Int) (t : Tok) : Value := .agg #[.string (K.str t.t), .complex .f64 (Fl.fl (Pl.pos (L.take t.o)).1) (Fl.fl (Pl.pos (L.take t.o)).2)]

theorem slice_next (w : World) (A : Option Addr) (c n : Nat) (hk : 1 ≤ n) : (Instr.sliceAt 83 (.slice A n c) (some (.int .i64 1)) none none).run Tryz.prog w = .ok (.slice (nextA A c) (n - 1) (c - 1)) w := by
  rw [run_sliceAt_slice _ _ _ _ _ _ (by kernel_rfl), run_slice_l _ _ _ _ _ (by kernel_rfl) .i64 (1 : Int) (by omega) (by omega)]
  have hs : (sizeOf (Tryz.prog.elem 83)).run Tryz.prog w = .ok 3 w := by kernel_rfl
  rw [hs]
  simp [Result.andThen, sliced, nextA]

end Go.Proofs.YtajcegofflmoeaaGreatDoor

namespace Go.Proofs.YtajcegofflmoeaaGreatDoor
set_option maxRecDepth 100000
open Go.RowKit

def precells (L : List Int) : Option Tok → List Value
  | none => [.string ⟨#[]⟩, .complex .f64 0 0]
  | some t => rcells L t
def pcells (L : List Int) (p : Y.Prd) (A : Option Addr) (c : Nat) : List Value := rcells L p.l ++ [.slice A p.r.length c] ++ precells L p.p
def dcells (d : Y.Dcl) (A : Option Addr) (c : Nat) : List Value := [.int .i64 d.k, .slice A d.ns.length c]
abbrev PA := Y.Prd × Option Addr × Nat
abbrev DA := Y.Dcl × Option Addr × Nat
def pall (L : List Int) (qs : List PA) : List Value := qs.flatMap fun q => pcells L q.1 q.2.1 q.2.2
def dall (qs : List DA) : List Value := qs.flatMap fun q => dcells q.1 q.2.1 q.2.2
theorem pcells_len (L : List Int) (p : Y.Prd) (A : Option Addr) (c : Nat) : (pcells L p A c).length = 5 := by
  unfold pcells precells
  split <;> rfl
theorem pall_at (L : List Int) (qs : List PA) (i j : Nat) (hi : i < qs.length) (hj : j < 5) : (pall L qs)[i * 5 + j]? = (pcells L qs[i].1 qs[i].2.1 qs[i].2.2)[j]? := by
  unfold pall
  induction qs generalizing i with
  | nil => simp at hi
  | cons x r ih =>
    rw [List.flatMap_cons]
    have hl := pcells_len L x.1 x.2.1 x.2.2
    cases i with
    | zero => rw [List.getElem?_append_left (by omega)]; simp
    | succ i =>
      rw [List.getElem?_append_right (by omega), hl, show (i + 1) * 5 + j - 5 = i * 5 + j by omega]
      simpa using ih i (by simpa using hi)
theorem dall_at (qs : List DA) (i j : Nat) (hi : i < qs.length) (hj : j < 2) : (dall qs)[i * 2 + j]? = (dcells qs[i].1 qs[i].2.1 qs[i].2.2)[j]? := by
  unfold dall
  induction qs generalizing i with
  | nil => simp at hi
  | cons x r ih =>
    rw [List.flatMap_cons]
    have hl : (dcells x.1 x.2.1 x.2.2).length = 2 := rfl
    cases i with
    | zero => rw [List.getElem?_append_left (by omega)]; simp
    | succ i =>
      rw [List.getElem?_append_right (by omega), hl, show (i + 1) * 2 + j - 2 = i * 2 + j by omega]
      simpa using ih i (by simpa using hi)

def OwnP (L : List Int) (w : World) (base : Nat) (v : Value) (ps : List Y.Prd) : Prop :=
  ∃ qs : List PA, qs.map (·.1) = ps ∧ w.ownsRow base 97 5 v ps.length (pall L qs) ∧ ∀ q ∈ qs, RdR L w base q.2.1 q.1.r
def OwnD (L : List Int) (w : World) (base : Nat) (v : Value) (ds : List Y.Dcl) : Prop :=
  ∃ qs : List DA, qs.map (·.1) = ds ∧ w.ownsRow base 125 2 v ds.length (dall qs) ∧ ∀ q ∈ qs, RdR L w base q.2.1 q.1.ns
theorem OwnP.nil (L : List Int) (w : World) (base : Nat) : OwnP L w base (.slice none 0 0) [] := ⟨[], rfl, World.ownsRow_nil w base _ _, fun q h => by cases h⟩
theorem OwnD.nil (L : List Int) (w : World) (base : Nat) : OwnD L w base (.slice none 0 0) [] := ⟨[], rfl, World.ownsRow_nil w base _ _, fun q h => by cases h⟩
def Away (w : World) (v : Value) (row : Option Nat) : Prop := Other w row ∧ (v.ownBlock = none ∨ v.ownBlock ≠ row)
theorem Away.none (w : World) (v : Value) : Away w v .none := ⟨Other.none w, by rcases v.ownBlock with _ | k; exact .inl rfl; exact .inr (by simp)⟩
theorem OwnP.grown {L : List Int} {w w' : World} {base : Nat} {v : Value} {ps : List Y.Prd} {row : Option Nat} (h : OwnP L w base v ps) (hg : w.grownBy w' row) (ha : Away w v row) : OwnP L w' base v ps := by
  obtain ⟨qs, h1, h2, h3⟩ := h
  exact ⟨qs, h1, h2.kept hg ha.2, fun q hq => (h3 q hq).grown hg ha.1⟩
theorem OwnD.grown {L : List Int} {w w' : World} {base : Nat} {v : Value} {ds : List Y.Dcl} {row : Option Nat} (h : OwnD L w base v ds) (hg : w.grownBy w' row) (ha : Away w v row) : OwnD L w' base v ds := by
  obtain ⟨qs, h1, h2, h3⟩ := h
  exact ⟨qs, h1, h2.kept hg ha.2, fun q hq => (h3 q hq).grown hg ha.1⟩
theorem own_other {w : World} {base : Nat} {v : Value} {n : Nat} {size : Nat} {e : TypeId} {xs : List Value} (h : w.ownsRow base e size v n xs) (he : e ≠ 89) : Other w v.ownBlock := by
  intro k hk cur hc
  rcases h.2 with ⟨rfl, _⟩ | ⟨g, cap, cur', rfl, _, hg, _⟩
  · cases hk
  · injection hk with hk
    subst hk
    have hg' : w.heap[g]? = some (.cells cur 89 (0, 0)) := hc
    rw [hg] at hg'
    injection hg' with e1
    injection e1 with _ e2
    exact he e2
theorem OwnP.form {L : List Int} {w : World} {base : Nat} {v : Value} {ps : List Y.Prd} (h : OwnP L w base v ps) : ∃ A c, v = .slice A ps.length c ∧ ps.length ≤ c ∧ c ≤ maxLen := by
  obtain ⟨qs, h1, h2, h3⟩ := h
  rcases h2.2 with ⟨rfl, h0⟩ | ⟨g, cap, cur, rfl, hb, hg, hn, hm, hs, ht⟩
  · exact ⟨none, 0, by rw [h0], by omega, by unfold maxLen; omega⟩
  · exact ⟨_, cap, rfl, hn, hm⟩
theorem OwnD.form {L : List Int} {w : World} {base : Nat} {v : Value} {ds : List Y.Dcl} (h : OwnD L w base v ds) : ∃ A c, v = .slice A ds.length c ∧ ds.length ≤ c ∧ c ≤ maxLen := by
  obtain ⟨qs, h1, h2, h3⟩ := h
  rcases h2.2 with ⟨rfl, h0⟩ | ⟨g, cap, cur, rfl, hb, hg, hn, hm, hs, ht⟩
  · exact ⟨none, 0, by rw [h0], by omega, by unfold maxLen; omega⟩
  · exact ⟨_, cap, rfl, hn, hm⟩
theorem infoP : (Tryz.prog.info? 97).map (fun i => (i.zero, i.size, i.bytes)) = some (some (.agg #[.string ⟨#[]⟩, .complex .f64 0 0, .slice none 0 0, .string ⟨#[]⟩, .complex .f64 0 0]), 5, 88) := by kernel_rfl
theorem infoD : (Tryz.prog.info? 125).map (fun i => (i.zero, i.size, i.bytes)) = some (some (.agg #[.int .i64 0, .slice none 0 0]), 2, 32) := by kernel_rfl
theorem pcells_one (L : List Int) (p : Y.Prd) (A : Option Addr) (c : Nat) : ∀ u ∈ pcells L p A c, u.oneCell' = true := by
  intro u hu
  unfold pcells precells at hu
  split at hu <;> simp [rcells] at hu <;> rcases hu with rfl | rfl | rfl | rfl | rfl <;> rfl

theorem apP_arm {w : World} {ops : Array Oper} {rest : List Oper} {o : Oper} {a : Act} {Q : Exit → Act → World → Prop}
    (hgd : o.guard = none) (s x : Operand) (t : TypeId) (ho : o.op = .call { callee := .builtin .append, args := #[s, x], argTypes := #[t, t] }) (ht : Tryz.prog.underlying t = some (.slice 97))
    (L : List Int) (base : Nat) (v : Value) (ps : List Y.Prd) (hs : a.eval s = v) (hown : OwnP L w base v ps) (g c : Nat) (p : Y.Prd) (A : Option Addr) (pc : Nat) (hx : a.eval x = .slice (some ⟨g, 0, none⟩) 1 c) (hz : ∀ j u, (pcells L p A pc)[j]? = some u → w.cell? ⟨g, j, none⟩ = some u) (hr : RdR L w base A p.r)
    (hlen : ps.length ≤ 1000000) (hbase : base ≤ w.heap.size)
    (hK : ∀ v' w', OwnP L w' base v' (ps ++ [p]) → w.grownBy w' v.ownBlock → wpList Tryz.prog ops Q rest (a.put o.dst v') w') :
    wpList Tryz.prog ops Q (o :: rest) a w := by
  obtain ⟨i, hi, hz0, hz1, hz2⟩ := info_parts infoP
  obtain ⟨qs, hq1, hq2, hq3⟩ := hown
  have hlq : qs.length = ps.length := by rw [← hq1, List.length_map]
  refine wpList_append_own w hgd s x t ho base 97 i _ 5 88 ht hi hz0 hz1 hz2 rfl (by decide) v ps.length (pall L qs) hs hq2 ⟨g, 0, none⟩ 1 c (pcells L p A pc) hx (by rw [pcells_len]) ?_ (pcells_one L p A pc) (by unfold maxLen; omega) (by omega) hbase fun v' w' h1 h2 _ => hK v' w' ?_ h2
  · intro j u hj
    rw [addZ, Nat.zero_add]
    exact hz j u hj
  · have ho := own_other hq2 (by decide)
    refine ⟨qs ++ [(p, A, pc)], by rw [List.map_append, hq1]; rfl, ?_, fun q hq => ?_⟩
    · rw [List.length_append]
      unfold pall
      rw [List.flatMap_append, List.flatMap_singleton]
      exact h1
    · rcases List.mem_append.1 hq with h | h
      · exact (hq3 q h).grown h2 ho
      · rw [List.mem_singleton] at h
        subst h
        exact hr.grown h2 ho
theorem drew_grown (w : World) (row : Option Nat) : w.grownBy w.drew row := ⟨rfl, rfl, rfl, Nat.le_refl _, fun _ _ _ => rfl⟩
theorem block_at {w w2 : World} {g R : Nat} {o : Obj} (h : w.grownBy w2 (some R)) (ho : w.heap[g]? = some o) (hne : g ≠ R) : w2.heap[g]? = some o := by
  rw [h.block g (Array.getElem?_eq_some_iff.1 ho).1 (fun e => by injection e with e; omega)]; exact ho
theorem other_of {w : World} {g : Nat} {cs : Array Value} {t : TypeId} (h : w.heap[g]? = some (.cells cs t (0, 0))) (ht : t ≠ 89) : Other w (some g) := by
  intro k hk cur hc
  injection hk with hk
  subst hk
  rw [h] at hc
  injection hc with hc
  injection hc with _ hc
  exact ht hc
theorem precells_two (L : List Int) (p : Option Tok) : ∃ x3 x4, precells L p = [x3, x4] := by cases p <;> exact ⟨_, _, rfl⟩
theorem ref_block {w w' : World} {g : Nat} {cs : Array Value} {row : Option Nat} (h : w.heap[g]? = some (.cells cs 89 (0, 0))) (hg : w.grownBy w' row) (ho : Other w row) : w'.heap[g]? = some (.cells cs 89 (0, 0)) :=
  (hg.block g (Array.getElem?_eq_some_iff.1 h).1 (fun e => ho g e.symm cs h)).trans h
theorem OwnP.own {L : List Int} {w : World} {base : Nat} {v : Value} {ps : List Y.Prd} (h : OwnP L w base v ps) : ∃ xs, w.ownsRow base 97 5 v ps.length xs := by
  obtain ⟨qs, _, h2, _⟩ := h; exact ⟨_, h2⟩
theorem OwnD.own {L : List Int} {w : World} {base : Nat} {v : Value} {ds : List Y.Dcl} (h : OwnD L w base v ds) : ∃ xs, w.ownsRow base 125 2 v ds.length xs := by
  obtain ⟨qs, _, h2, _⟩ := h; exact ⟨_, h2⟩
theorem OwnP.other {L : List Int} {w : World} {base : Nat} {v : Value} {ps : List Y.Prd} (h : OwnP L w base v ps) : Other w v.ownBlock := by
  obtain ⟨xs, h2⟩ := h.own; exact own_other h2 (by decide)
theorem OwnD.other {L : List Int} {w : World} {base : Nat} {v : Value} {ds : List Y.Dcl} (h : OwnD L w base v ds) : Other w v.ownBlock := by
  obtain ⟨xs, h2⟩ := h.own; exact own_other h2 (by decide)
theorem drop_len (p : Tok → Bool) : ∀ ts : List Tok, (ts.dropWhile p).length ≤ ts.length
  | [] => Nat.le_refl _
  | t :: r => by
    have := drop_len p r
    rw [List.dropWhile_cons]
    split
    · simp; omega
    · exact Nat.le_refl _
theorem rule_len {left : Tok} {ts r : List Tok} {p : Y.Prd} (h : Y.rule left ts = .ok p r) : r.length ≤ ts.length := by
  unfold Y.rule Y.rule2 at h
  have hd := drop_len Y.isRef ts
  split at h
  · obtain ⟨t, m, h1, h2⟩ := Y.bind_eq_ok h
    obtain ⟨u, m2, h3, h4⟩ := Y.bind_eq_ok h2
    injection h4 with _ h5
    subst h5
    have e1 := congrArg List.length (Y.take_ok h1).1
    have e2 := congrArg List.length (Y.take_ok h3).1
    simp at e1 e2
    omega
  · injection h with _ h5
    subst h5
    exact hd
theorem store5 {w : World} {g : Nat} {t : TypeId} {a0 a1 a2 a3 a4 : Value} (h : w.heap[g]? = some (.cells #[a0, a1, a2, a3, a4] t (0, 0))) (b0 b1 b2 b3 b4 : Value) :
    (((((w.setCell ⟨g, 0, none⟩ b0).setCell ⟨g, 1, none⟩ b1).setCell ⟨g, 2, none⟩ b2).setCell ⟨g, 3, none⟩ b3).setCell ⟨g, 4, none⟩ b4).heap[g]? = some (.cells #[b0, b1, b2, b3, b4] t (0, 0)) := by
  have h0 := heap_setCell_same w g 0 _ _ b0 h
  have h1 := heap_setCell_same _ g 1 _ _ b1 h0
  have h2 := heap_setCell_same _ g 2 _ _ b2 h1
  have h3 := heap_setCell_same _ g 3 _ _ b3 h2
  have h4 := heap_setCell_same _ g 4 _ _ b4 h3
  exact h4
theorem size_set (w : World) (p : Addr) (u : Value) : (w.setCell p u).heap.size = w.heap.size := by simp [World.setCell]
end Go.Proofs.YtajcegofflmoeaaGreatDoor

namespace Go.Proofs.YtajcegofflmoeaaGreatDoor
set_option maxRecDepth 100000
open Go.RowKit

theorem own_lit (L : List Int) (w : World) (base : Nat) (t : Tok) (hb : base ≤ w.heap.size) : OwnR L (w.alloc (.cells #[.string (K.str t.t), .complex .f64 (Fl.fl (Pl.pos (L.take t.o)).1) (Fl.fl (Pl.pos (L.take t.o)).2)] 89)) base (.slice (some ⟨w.heap.size, 0, none⟩) 1 1) [t] :=
  World.ownsRow_lit w #[.string (K.str t.t), .complex .f64 (Fl.fl (Pl.pos (L.take t.o)).1) (Fl.fl (Pl.pos (L.take t.o)).2)] 1 hb (by unfold maxLen; omega) rfl

theorem apnR_wp {w : World} {o : Oper} {a : Act} {K : Act → World → Prop} {Q : Exit → Act → World → Prop}
    (s x : Operand) (t : TypeId) (ho : o.op = .call { callee := .builtin .append, args := #[s, x], argTypes := #[t, t] }) (ht : Tryz.prog.underlying t = some (.slice 89))
    (L : List Int) (base B : Nat) (v : Value) (xs : List Tok) (hs : a.eval s = v) (hown : OwnR L w base v xs) (A : Option Addr) (m c : Nat) (ys : List Tok) (hx : a.eval x = .slice A m c) (hm : m = ys.length) (hr : RdR L w B A ys)
    (hlen : xs.length + ys.length ≤ 1000000) (hbase : base ≤ w.heap.size)
    (hK : ∀ v' w', OwnR L w' base v' (xs ++ ys) → w.grownBy w' v.ownBlock → K (a.put o.dst v') w') :
    o.wp Tryz.prog a w K Q := by
  obtain ⟨i, hi, hz0, hz1, hz2⟩ := info_parts infoR
  subst hm
  rcases A with _ | ad
  · have hz : ys = [] := by
      rcases Nat.eq_zero_or_pos ys.length with h0 | h0
      · exact List.eq_nil_of_length_eq_zero h0
      · obtain ⟨g, o', h, _⟩ := hr (by omega); cases h
    subst hz
    have hrun := run_append_nil (P := Tryz.prog) w base t o.type 89 i 2 ht hi v xs.length _ hown c
    unfold Oper.wp
    simp [execOp, ho, resolve, invoke, builtin, hs, hx, hrun, Result.andThen]
    exact hK v w (by simpa using hown) (World.grownBy.refl _ _)
  · refine wp_append_own w s x t ho base 89 i _ 2 32 ht hi hz0 hz1 hz2 rfl (by decide) v xs.length (xs.flatMap (rcells L)) hs hown ad ys.length c (ys.flatMap (rcells L)) hx (rcells_len L ys) ?_ ?_ (by unfold maxLen; omega) (by omega) hbase fun v' w' h1 h2 _ => hK v' w' ?_ h2
    · intro j u hj
      have hjl : j < (ys.flatMap (rcells L)).length := (List.getElem?_eq_some_iff.1 hj).1
      rw [rcells_len] at hjl
      obtain ⟨g, cur, h, _, hh, hc⟩ := hr (by omega)
      replace h := Option.some.inj h
      subst h
      rw [addZ, Nat.zero_add, cell_of_row w g _ _ _ _ hh]
      exact hc j u hj
    · intro u hu
      obtain ⟨z, _, hz⟩ := List.mem_flatMap.1 hu
      simp [rcells] at hz; rcases hz with rfl | rfl <;> rfl
    · unfold OwnR
      rw [List.length_append, List.flatMap_append]; exact h1
end Go.Proofs.YtajcegofflmoeaaGreatDoor

namespace Go.Proofs.YtajcegofflmoeaaGreatDoor
set_option maxRecDepth 100000
open Go.RowKit

def Rd8 (L : List Int) (B R px py : Nat) (w : World) (ts : List Tok) : Prop :=
  ∃ A c, w.heap[R]? = some (.cells #[.slice A ts.length c, .complex .f64 px py, .complex .f64 0 0, .int .i64 0] 119 (0, 0)) ∧ ts.length ≤ c ∧ ts.length ≤ 4000 ∧ RdT L w B A ts ∧ B ≤ R
theorem Rd8.lt {L : List Int} {B R px py : Nat} {w : World} {ts : List Tok} (h : Rd8 L B R px py w ts) : R < w.heap.size := by
  obtain ⟨A, c, hh, _⟩ := h
  exact (Array.getElem?_eq_some_iff.1 hh).1
theorem Rd8.other {L : List Int} {B R px py : Nat} {w : World} {ts : List Tok} (h : Rd8 L B R px py w ts) : Other w (some R) := by
  obtain ⟨A, c, hh, _⟩ := h
  intro k hk cur he
  injection hk with hk
  subst hk
  rw [hh] at he
  injection he with he
  injection he with _ he
  cases he
theorem Rd8.grown {L : List Int} {B R px py : Nat} {w w' : World} {ts : List Tok} {row : Option Nat} (h : Rd8 L B R px py w ts) (hg : w.grownBy w' row) (hr : ∀ k, row = some k → R < k) : Rd8 L B R px py w' ts := by
  have hlt := h.lt
  obtain ⟨A, c, hh, h1, h2, h3, h4⟩ := h
  exact ⟨A, c, (hg.block R hlt (fun e => by have := hr R e.symm; omega)).trans hh, h1, h2, h3.grown hg (fun k e => by have := hr k e; omega) (by omega), h4⟩
theorem Rd8.alloc {L : List Int} {B R px py : Nat} {w : World} {ts : List Tok} (h : Rd8 L B R px py w ts) (o : Obj) : Rd8 L B R px py (w.alloc o) ts :=
  h.grown (row := .none) (only_alloc (World.grownBy.refl _ _) o) (fun _ e => by cases e)
theorem Rd8.own {L : List Int} {B R px py base : Nat} {w w' : World} {ts : List Tok} {e : TypeId} {size n : Nat} {v : Value} {xs : List Value} (h : Rd8 L B R px py w ts) (ho : w.ownsRow base e size v n xs) (hg : w.grownBy w' v.ownBlock) (hb : R < base) : Rd8 L B R px py w' ts :=
  h.grown hg (fun k e => by have := (World.ownsRow.lt ho k e).1; omega)
theorem Rd8.far {L : List Int} {B R px py : Nat} {w : World} {ts : List Tok} (h : Rd8 L B R px py w ts) (g i : Nat) (u : Value) (hg : R < g) : Rd8 L B R px py (w.setCell ⟨g, i, none⟩ u) ts :=
  h.grown (only_set (World.grownBy.refl w (some g)) i u) (fun k e => by injection e with e; omega)
theorem Rd8.cell0 {L : List Int} {B R px py : Nat} {w : World} {ts : List Tok} (h : Rd8 L B R px py w ts) : ∃ A c, w.cell? ⟨R, 0, none⟩ = some (.slice A ts.length c) ∧ w.cell? ⟨R, 3, none⟩ = some (.int .i64 0) ∧ w.frozen? ⟨R, 0, none⟩ = false ∧ ts.length ≤ c ∧ RdT L w B A ts ∧
    ∀ A' c' ts', ts'.length ≤ c' → ts'.length ≤ 4000 → RdT L w B A' ts' → Rd8 L B R px py (w.setCell ⟨R, 0, none⟩ (.slice A' ts'.length c')) ts' := by
  obtain ⟨A, c, hh, h1, h2, h3, h4⟩ := h
  refine ⟨A, c, by rw [cell_of_row w R 0 _ _ _ hh]; rfl, by rw [cell_of_row w R 3 _ _ _ hh]; rfl, frozen_of_row w R 0 _ _ hh, h1, h3, fun A' c' ts' k1 k2 k3 => ⟨A', c', ?_, k1, k2, ?_, h4⟩⟩
  · rw [heap_setCell_same w R 0 _ _ _ hh]; rfl
  · exact k3.keep fun g o hg => World.cell?_of_block (Below.heap_setCell w ⟨R, 0, none⟩ _ g (by simp only; omega))
def kd : List Tok → Int
  | [] => 0
  | t :: _ => t.k

theorem kind8 (L : List Int) (B R px py : Nat) (ts : List Tok) (w : World) (hr : Rd8 L B R px py w ts) :
    Calls Tryz.prog 101 #[.pointer (some ⟨R, 0, none⟩)] w fun e w' => e = .returned (.int .i64 (kd ts)) ∧ w = w' := by
  obtain ⟨A, c, h0, h3, _, hc, ht, _⟩ := hr.cell0
  rcases ts with _ | ⟨t, r⟩
  · clear hr ht
    go_enter Tryz.func101, Tryz.ntmps101
    go_wp2
    go_ret
    exact ⟨rfl, rfl⟩
  · obtain ⟨g, o, rfl, _, hcl⟩ := ht (by simp)
    have hcell : w.cell? ⟨g, o, none⟩ = some (.int .i64 t.k) := hcl 0 0 _ (by simp) rfl
    have hl : 0 < ((t :: r).length : Int) := by simp
    have hl0 : (((t :: r).length : Int) == 0) = false := by simp; omega
    have HK : Hid (kd (t :: r) = t.k) := hide rfl
    rw [HK.out]
    clear hr ht hcl
    generalize (t :: r).length = n at *
    generalize t.k = z at *
    go_enter Tryz.func101, Tryz.ntmps101
    go_wp2
    go_ret
    exact ⟨rfl, rfl⟩
theorem is8 (L : List Int) (B R px py : Nat) (ts : List Tok) (a b : Int) (w : World) (hr : Rd8 L B R px py w ts) :
    Calls Tryz.prog 120 #[.pointer (some ⟨R, 0, none⟩), .int .i64 a, .int .i64 b] w fun e w' => e = .returned (.bool (Y.is [a, b] ts)) ∧ w = w' := by
  have HK := hide (kind8 L B R px py ts w hr)
  obtain ⟨A, c, h0, h3, _, hc, ht, _⟩ := hr.cell0
  rcases ts with _ | ⟨t, r⟩
  · clear hr ht
    go_enter Tryz.func120, Tryz.ntmps120
    go_wp2
    go_ret
    exact ⟨rfl, rfl⟩
  · have hl : 0 < ((t :: r).length : Int) := by simp
    have HE : Hid (Y.is [a, b] (t :: r) = ((t.k == a) || (t.k == b))) := hide (by show [a, b].contains t.k = _; simp [List.contains, List.elem]; cases (t.k == a) <;> cases (t.k == b) <;> rfl)
    have HK2 : Hid (kd (t :: r) = t.k) := hide rfl
    rw [HE.out]
    rw [HK2.out] at HK
    clear hr ht
    generalize (t :: r).length = n at *
    generalize t.k = z at *
    by_cases ha : z = a
    · have ha' : (z == a) = true := by simpa using ha
      rw [ha', Bool.true_or]
      clear ha
      go_enter Tryz.func120, Tryz.ntmps120
      go_wp2_with fail
      refine HK.out.mono ?_; rintro _ _ ⟨rfl, rfl⟩
      go_wp2
      go_ret
      exact ⟨rfl, rfl⟩
    · have ha' : (z == a) = false := by simpa using ha
      rw [ha', Bool.false_or]
      clear ha
      generalize hb : (z == b) = q at *
      go_enter Tryz.func120, Tryz.ntmps120
      go_wp2_with fail
      refine HK.out.mono ?_; rintro _ _ ⟨rfl, rfl⟩
      go_wp2_with fail
      refine HK.out.mono ?_; rintro _ _ ⟨rfl, rfl⟩
      go_wp2
      go_ret
      exact ⟨rfl, rfl⟩

set_option maxHeartbeats 2000000 in
theorem take8 (L : List Int) (B R px py : Nat) (t : Tok) (r : List Tok) (a b : Int) (w : World) (hr : Rd8 L B R px py w (t :: r)) (hk : Y.is [a, b] (t :: r) = true) :
    Calls Tryz.prog 99 #[.pointer (some ⟨R, 0, none⟩), .int .i64 a, .int .i64 b] w fun e w' => e = .returned (refV L t) ∧ w.grownBy w' (some R) ∧ Rd8 L B R px py w' r := by
  have HR := hide (fun (w1 : World) (h1 : Below w.heap.size w w1) => hr.grown (row := .none) (only_below h1 .none) (fun _ e => by cases e))
  have HB0 := hide (fun o => ((Below.refl w.heap.size w).alloc (Nat.le_refl _) o))
  have hlt := hr.lt
  obtain ⟨A, c, h0, h3, hf, hc, ht, hset⟩ := hr.cell0
  obtain ⟨g, o, hA, hgB, hcl⟩ := ht (by simp)
  have hc0 : w.cell? ⟨g, o, none⟩ = some (.int .i64 t.k) := hcl 0 0 _ (by simp) rfl
  have hc1 : w.cell? ⟨g, o + 1, none⟩ = some (.string (K.str t.t)) := hcl 0 1 _ (by simp) rfl
  have hc2 : w.cell? ⟨g, o + 2, none⟩ = some (.complex .f64 (Fl.fl (Pl.pos (L.take t.o)).1) (Fl.fl (Pl.pos (L.take t.o)).2)) := hcl 0 2 _ (by simp) rfl
  have hglt : g < w.heap.size := by obtain ⟨_, _, _, _, _, _, hBR⟩ := hr; omega
  have HIS := hide (fun (w1 : World) (h1 : Below w.heap.size w w1) => is8 L B R px py (t :: r) a b w1 (HR.out w1 h1))
  rw [hk] at HIS
  have HT := hide (ht.tail hc)
  have HSET := hide hset
  have S1 := fun w => slice_next w A c (t :: r).length (by simp)
  have SC := fun a w m X Y => show (store a (.complex .f64 X Y) m).run Tryz.prog w = stored Tryz.prog w a (.complex .f64 X Y) m from run_store _ w a _ m rfl
  have hl0 : (((t :: r).length : Int) == 0) = false := by simp; omega
  have hl1 : 0 < (t :: r).length := by simp
  have HN : Hid ((t :: r).length = r.length + 1 ∧ r.length + 1 ≤ c ∧ r.length + 1 ≤ 4000) := hide ⟨rfl, hc, by obtain ⟨_, _, _, _, h4, _, _⟩ := hr; simpa using h4⟩
  unfold refV
  clear hr ht hcl hset hk
  subst hA
  generalize (t :: r).length = n at *
  generalize t.k = z at *
  generalize K.str t.t = st at *
  generalize Fl.fl (Pl.pos (L.take t.o)).1 = X at *
  generalize Fl.fl (Pl.pos (L.take t.o)).2 = Y' at *
  go_enter Tryz.func99, Tryz.ntmps99
  go_wp2_with fail
  refine (HIS.out _ (HB0.out _)).mono ?_; rintro _ w2 ⟨rfl, rfl⟩
  go_wp2
  have hk := HSET.out (nextA (some ⟨g, o, none⟩) c) (c - 1) r (by have := HN.out; omega) (by have := HN.out; omega) HT.out
  refine bodyPost_ret (v := .agg #[.string st, .complex .f64 X Y']) (by simp [results, Tryz.results99, go_sem]) rfl ⟨rfl, only_alloc (only_alloc (only_set (World.grownBy.refl _ _) _ _) _) _, ?_⟩
  rw [show n - 1 = r.length by have := HN.out; omega]
  exact (hk.alloc _).alloc _

def Refs8 (L : List Int) (B R px py : Nat) (ts : List Tok) (w : World) (e : Ending) (w' : World) : Prop :=
  w.grownBy w' (some R) ∧ ∃ v, e = .returned v ∧ OwnR L w' w.heap.size v (ts.takeWhile Y.isRef) ∧ Rd8 L B R px py w' (ts.dropWhile Y.isRef)

set_option maxHeartbeats 2000000 in
theorem refs8 (L : List Int) (B R px py : Nat) (ts : List Tok) (w : World) (hr : Rd8 L B R px py w ts) :
    Calls Tryz.prog 119 #[.pointer (some ⟨R, 0, none⟩)] w (Refs8 L B R px py ts w) := by
  have HR := hide hr
  have hRlt := hr.lt
  have hts : ts.length ≤ 4000 := by obtain ⟨_, _, _, _, h, _⟩ := hr; exact h
  clear hr
  go_enter Tryz.func119, Tryz.ntmps119
  go_wp2
  go_loopw [3] (fun v wr => ∃ (acc rest : List Tok), OwnR L wr w.heap.size v acc ∧ Rd8 L B R px py wr rest ∧ w.grownBy wr (some R) ∧ acc.length + rest.length = ts.length ∧ acc ++ rest.takeWhile Y.isRef = ts.takeWhile Y.isRef ∧ rest.dropWhile Y.isRef = ts.dropWhile Y.isRef) (fun v _ => 4001 - slLen v)
  case atStart => exact ⟨[], ts, OwnR.nil _ _ _, HR.out, World.grownBy.refl _ _, by simp, rfl, rfl⟩
  case round =>
    clear HR
    obtain ⟨acc, rest, ho, hr, hg, hlen, htk, hdp⟩ := hrel
    have HO := hide ho
    have HR := hide hr
    have HG := hide hg
    have HL := hide hlen
    have HTK := hide htk
    have HDP := hide hdp
    obtain ⟨A, c, rfl, hc1, hc2⟩ := ho.rd
    have HIS := hide (is8 L B R px py rest 1 2 wr hr)
    clear ho hr hg hlen htk hdp hc1 hc2
    rcases hb : Y.is [1, 2] rest with _ | _
    · rw [hb] at HIS
      have HB := hide hb
      clear hb
      go_wp2_with fail
      refine HIS.out.mono ?_; rintro _ w2 ⟨rfl, rfl⟩
      go_wp2
      go_ret
      obtain ⟨e1, e2⟩ := Y.refs_end HB.out
      rw [e1, List.append_nil] at HTK
      rw [e2] at HDP
      refine ⟨HG.out, _, rfl, ?_, ?_⟩
      · rw [← HTK.out]; exact HO.out
      · rw [← HDP.out]; exact HR.out
    · rw [hb] at HIS
      have HB := hide hb
      obtain ⟨t, r, rfl, htake, hk⟩ := Y.is_true hb
      have HRF := hide (take8 L B R px py t r 1 2 wr HR.out hb)
      have HK : Hid (Y.isRef t = true) := hide hk
      clear hb htake hk
      unfold refV at HRF
      go_wp2_with fail
      refine HIS.out.mono ?_; rintro _ w2 ⟨rfl, rfl⟩
      go_wp2_with fail
      refine HRF.out.mono ?_; rintro _ w3 ⟨rfl, hg3, hrd⟩
      have HG3 := hide hg3
      have HRD := hide hrd
      have HO3 := hide (HO.out.grown hg3 HR.out.other)
      clear hg3 hrd
      have HCE := hide (ref_cells L w3 t)
      have HS0 : Hid (w.heap.size ≤ w3.heap.size) := hide (by have h1 := HG.out.size; have h3 := HG3.out.size; omega)
      have HAC : Hid (acc.length ≤ 4000) := hide (by have := HL.out; simp at this; omega)
      go_wp2_with (at_builtin; refine apR_arm rfl (.tmp 6) (.tmp 9) _ rfl Tryz.underlying95 L w.heap.size _ acc rfl (HO3.out.alloc _) w3.heap.size 1 t rfl HCE.out (by have := HAC.out; omega) (by have := HS0.out; simp; omega) ?_; intro v4 w4 ho4 hg4)
      have HG4 := hide (grown_own (only_alloc (HG.out.trans HG3.out) _) (HO3.out.alloc _) hg4)
      have HRD4 := hide ((HRD.out.alloc _).own (HO3.out.alloc _) hg4 hRlt)
      have HO4 := hide ho4
      clear ho4 hg4
      go_roundw
      case rel =>
        refine ⟨acc ++ [t], r, HO4.out, HRD4.out, HG4.out, ?_, ?_, ?_⟩
        · have := HL.out; simp at this ⊢; omega
        · rw [← HTK.out, List.takeWhile_cons, HK.out]; simp
        · rw [← HDP.out, List.dropWhile_cons, HK.out]; rfl
      case measure =>
        obtain ⟨A4, c4, rfl, _, _⟩ := HO4.out.rd
        have := HAC.out
        simp [slLen]; omega
end Go.Proofs.YtajcegofflmoeaaGreatDoor

namespace Go.Proofs.YtajcegofflmoeaaGreatDoor
set_option maxRecDepth 100000
open Go.RowKit

namespace Y
theorem alts_len (left : Tok) : ∀ (f : Nat) (acc : List Prd) (ts : List Tok) (ps : List Prd) (r : List Tok), alts f left acc ts = .ok ps r → ps.length + r.length ≤ acc.length + ts.length
  | 0, acc, ts, ps, r, h => by injection h with h1 h2; subst h1 h2; exact Nat.le_refl _
  | f + 1, acc, ts, ps, r, h => by
    rw [alts] at h
    obtain ⟨p, m, h1, h2⟩ := bind_eq_ok h
    obtain ⟨t, m2, h3, h4⟩ := bind_eq_ok h2
    have e1 := rule_len h1
    have e2 := congrArg List.length (take_ok h3).1
    simp at e2
    split at h4
    · have := alts_len left f _ _ _ _ h4
      simp at this
      omega
    · injection h4 with h5 h6
      subst h5 h6
      simp
      omega
theorem group_len {acc ps : List Prd} {ts r : List Tok} (h : group acc ts = .ok ps r) : ps.length + r.length < acc.length + ts.length := by
  unfold group at h
  obtain ⟨t, m, h1, h2⟩ := bind_eq_ok h
  obtain ⟨u, m2, h3, h4⟩ := bind_eq_ok h2
  have e1 := congrArg List.length (take_ok h1).1
  have e2 := congrArg List.length (take_ok h3).1
  have e3 := alts_len _ _ _ _ _ _ h4
  simp at e1 e2
  omega
end Y

theorem own_ne {w : World} {base : Nat} {v : Value} {n size g : Nat} {e t : TypeId} {xs : List Value} {cs : Array Value} (h : w.ownsRow base e size v n xs) (hb : w.heap[g]? = some (.cells cs t (0, 0))) (he : e ≠ t) : v.ownBlock ≠ some g := by
  intro hk
  rcases h.2 with ⟨rfl, _⟩ | ⟨g', cap, cur', rfl, _, hg, _⟩
  · cases hk
  · injection hk with hk
    have hk' : g' = g := hk
    subst hk'
    rw [hg] at hb
    injection hb with e1
    injection e1 with _ e2
    exact he e2
theorem own_keep {w w' : World} {base : Nat} {v : Value} {n size g : Nat} {e t : TypeId} {xs : List Value} {cs : Array Value} (h : w.ownsRow base e size v n xs) (hb : w.heap[g]? = some (.cells cs t (0, 0))) (he : e ≠ t) (hg : w.grownBy w' v.ownBlock) : w'.heap[g]? = some (.cells cs t (0, 0)) :=
  (hg.block g (Array.getElem?_eq_some_iff.1 hb).1 (fun e' => own_ne h hb he e'.symm)).trans hb

theorem apD_wp {w : World} {o : Oper} {a : Act} {K : Act → World → Prop} {Q : Exit → Act → World → Prop}
    (s x : Operand) (t : TypeId) (ho : o.op = .call { callee := .builtin .append, args := #[s, x], argTypes := #[t, t] }) (ht : Tryz.prog.underlying t = some (.slice 125))
    (L : List Int) (base : Nat) (v : Value) (ds : List Y.Dcl) (hs : a.eval s = v) (hown : OwnD L w base v ds) (g c : Nat) (d : Y.Dcl) (A : Option Addr) (dc : Nat) (hx : a.eval x = .slice (some ⟨g, 0, none⟩) 1 c) (hz : ∀ j u, (dcells d A dc)[j]? = some u → w.cell? ⟨g, j, none⟩ = some u) (hr : RdR L w base A d.ns)
    (hlen : ds.length ≤ 1000000) (hbase : base ≤ w.heap.size)
    (hK : ∀ v' w', OwnD L w' base v' (ds ++ [d]) → w.grownBy w' v.ownBlock → K (a.put o.dst v') w') :
    o.wp Tryz.prog a w K Q := by
  obtain ⟨i, hi, hz0, hz1, hz2⟩ := info_parts infoD
  obtain ⟨qs, hq1, hq2, hq3⟩ := hown
  refine wp_append_own w s x t ho base 125 i _ 2 32 ht hi hz0 hz1 hz2 rfl (by decide) v ds.length (dall qs) hs hq2 ⟨g, 0, none⟩ 1 c (dcells d A dc) hx rfl ?_ (fun u hu => by simp [dcells] at hu; rcases hu with rfl | rfl <;> rfl) (by unfold maxLen; omega) (by omega) hbase fun v' w' h1 h2 _ => hK v' w' ?_ h2
  · intro j u hj
    rw [addZ, Nat.zero_add]
    exact hz j u hj
  · have ho := own_other hq2 (by decide)
    refine ⟨qs ++ [(d, A, dc)], by rw [List.map_append, hq1]; rfl, ?_, fun q hq => ?_⟩
    · rw [List.length_append]
      unfold dall
      rw [List.flatMap_append, List.flatMap_singleton]
      exact h1
    · rcases List.mem_append.1 hq with h | h
      · exact (hq3 q h).grown h2 ho
      · rw [List.mem_singleton] at h
        subst h
        exact hr.grown h2 ho

theorem OwnP.less {L : List Int} {w : World} {base base' : Nat} {v : Value} {ps : List Y.Prd} (h : OwnP L w base v ps) (hb : base' ≤ base) : OwnP L w base' v ps := by
  obtain ⟨qs, h1, h2, h3⟩ := h
  refine ⟨qs, h1, ⟨h2.1, ?_⟩, fun q hq => (h3 q hq).less hb⟩
  rcases h2.2 with h0 | ⟨g, cap, cur, e, hb1, hr⟩
  · exact .inl h0
  · exact .inr ⟨g, cap, cur, e, by omega, hr⟩
def declLen (n : Nat) (w : World) : Nat := match w.cell? ⟨n, 0, none⟩ with | some (.slice _ k _) => k | _ => 0
end Go.Proofs.YtajcegofflmoeaaGreatDoor

namespace Go.Proofs.YtajcegofflmoeaaGreatDoor
set_option maxRecDepth 100000
open Go.RowKit

theorem OwnD.less {L : List Int} {w : World} {base base' : Nat} {v : Value} {ds : List Y.Dcl} (h : OwnD L w base v ds) (hb : base' ≤ base) : OwnD L w base' v ds := by
  obtain ⟨qs, h1, h2, h3⟩ := h
  refine ⟨qs, h1, ⟨h2.1, ?_⟩, fun q hq => (h3 q hq).less hb⟩
  rcases h2.2 with h0 | ⟨g, cap, cur, e, hb1, hr⟩
  · exact .inl h0
  · exact .inr ⟨g, cap, cur, e, by omega, hr⟩
theorem below_far {B g i : Nat} {a w : World} (h : Below B a w) (u : Value) (hg : B ≤ g) : Below B a (w.setCell ⟨g, i, none⟩ u) :=
  ⟨h.os, h.tape, h.output, by simpa [World.setCell] using h.size, fun k hk => (Below.heap_setCell w ⟨g, i, none⟩ u k (by simp only; omega)).trans (h.block k hk)⟩
end Go.Proofs.YtajcegofflmoeaaGreatDoor

namespace Go.Proofs.YtajcegofflmoeaaGreatDoor
set_option maxRecDepth 100000

structure Stands (L : List Int) (x : Tok) : Prop where
  o : x.o < L.length
  len : x.t.length ≤ L.length - x.o
  text : (L.drop x.o).take x.t.length = x.t
  name : (x.k == 1) = T.isName x.t
  lit : (x.k == 2) = T.isLit x.t
  bytes : K.Bytes x.t

theorem stands_new (L : List Int) (hL : K.Bytes L) (k : Nat) (hk : k < L.length) (x : T.P3) (hf : T.Fine (L.drop k) x) (he : x.2.2 = 0) : Stands L ⟨x.1, ttext x.1 ((L.drop k).take x.2.1), k⟩ := by
  obtain ⟨xk, xn, xe⟩ := x
  obtain ⟨h1, _, _, _, _, _⟩ := hf
  obtain ⟨h2, h3, h4, h5⟩ := h1 he
  simp only at h2 h3 h4 h5
  rw [List.length_drop] at h3
  have hlen : ((L.drop k).take xn).length = xn := by rw [List.length_take, List.length_drop]; omega
  by_cases hk1 : xk = 1
  · subst hk1
    have hn := h4 rfl
    have e : ttext 1 ((L.drop k).take xn) = (L.drop k).take xn := by simp [ttext]
    refine ⟨hk, ?_, ?_, ?_, ?_, ?_⟩
    · simp only; rw [e, hlen]; exact h3
    · simp only; rw [e, hlen]
    · simp only; rw [e, hn]; rfl
    · simp only; rw [e, T.name_lit _ hn]; rfl
    · simp only; rw [e]; exact (hL.drop k).take xn
  · by_cases hk2 : xk = 2
    · subst hk2
      have hn := h5 rfl
      have e : ttext 2 ((L.drop k).take xn) = (L.drop k).take xn := by simp [ttext]
      have hnn : T.isName ((L.drop k).take xn) = false := by
        rcases hq : T.isName ((L.drop k).take xn) with _ | _
        · rfl
        · have := T.name_lit _ hq; rw [hn] at this; cases this
      refine ⟨hk, ?_, ?_, ?_, ?_, ?_⟩
      · simp only; rw [e, hlen]; exact h3
      · simp only; rw [e, hlen]
      · simp only; rw [e, hnn]; rfl
      · simp only; rw [e, hn]; rfl
      · simp only; rw [e]; exact (hL.drop k).take xn
    · have e : ttext xk ((L.drop k).take xn) = [] := by unfold ttext; rw [if_neg (by omega)]
      refine ⟨hk, ?_, ?_, ?_, ?_, ?_⟩
      · simp only; rw [e]; simp
      · simp only; rw [e]; simp
      · simp only; rw [e, beq_eq_false_iff_ne.2 hk1]; rfl
      · simp only; rw [e, beq_eq_false_iff_ne.2 hk2]; rfl
      · simp only; rw [e]; exact K.Bytes.nil

def Rise (L : List Int) (k : Nat) (xs : List Tok) : Prop := (∀ x ∈ xs, Stands L x ∧ x.o < k) ∧ xs.Pairwise (fun a b => a.o < b.o)

theorem scan_rise (L : List Int) (hL : K.Bytes L) : ∀ (f k m : Nat) (acc xs : List Tok), k ≤ L.length → Rise L k acc → scan f (L.drop k) k m acc = .ok xs → Rise L L.length xs
  | 0, k, m, acc, xs, hk, hr, h => by
    injection h with h
    subst h
    exact ⟨fun x hx => ⟨(hr.1 x hx).1, (hr.1 x hx).1.o⟩, hr.2⟩
  | f + 1, k, m, acc, xs, hk, hr, h => by
    by_cases he : (L.drop k).length = 0 ∨ m = 2
    · rw [scan_end _ _ _ _ _ he] at h
      injection h with h
      subst h
      exact ⟨fun x hx => ⟨(hr.1 x hx).1, (hr.1 x hx).1.o⟩, hr.2⟩
    · have hlt : k < L.length := by rw [List.length_drop] at he; omega
      have hf := T.piece_fine (L.drop k) (by rw [List.length_drop]; omega) (hL.drop k)
      by_cases hb : (T.piece (L.drop k)).2.2 = 0
      · rw [scan_on _ _ _ _ _ he hb] at h
        obtain ⟨hn1, hn2, _, _⟩ := hf.1 hb
        rw [List.length_drop] at hn2
        rw [List.drop_drop] at h
        refine scan_rise L hL f _ _ _ xs (by omega) ?_ h
        unfold more
        split
        · exact ⟨fun x hx => ⟨(hr.1 x hx).1, by have := (hr.1 x hx).2; omega⟩, hr.2⟩
        · refine ⟨fun x hx => ?_, ?_⟩
          · rcases List.mem_append.1 hx with h1 | h1
            · exact ⟨(hr.1 x h1).1, by have := (hr.1 x h1).2; omega⟩
            · rw [List.mem_singleton] at h1
              subst h1
              exact ⟨stands_new L hL k hlt _ hf hb, by simp only; omega⟩
          · rw [List.pairwise_append]
            refine ⟨hr.2, List.pairwise_singleton _ _, fun a ha b hb' => ?_⟩
            rw [List.mem_singleton] at hb'
            subst hb'
            exact (hr.1 a ha).2
      · rw [scan_bad _ _ _ _ _ he hb] at h
        cases h

theorem toks_rise (L : List Int) (hL : K.Bytes L) (xs : List Tok) (h : toks L = .ok xs) : Rise L L.length xs :=
  scan_rise L hL _ 0 0 [] xs (Nat.zero_le _) ⟨fun x hx => by simp at hx, List.Pairwise.nil⟩ (by simpa [toks] using h)
theorem Rise.lt {L : List Int} {k : Nat} {xs : List Tok} (h : Rise L k xs) (i j : Nat) (hij : i < j) (hj : j < xs.length) : xs[i].o < xs[j].o :=
  List.pairwise_iff_getElem.1 h.2 i j (by omega) hj hij
theorem Rise.at {L : List Int} {k : Nat} {xs : List Tok} (h : Rise L k xs) (i : Nat) (hi : i < xs.length) : Stands L xs[i] := (h.1 _ (List.getElem_mem hi)).1
theorem Rise.ge {L : List Int} {k : Nat} {xs : List Tok} (h : Rise L k xs) : ∀ (i : Nat) (hi : i < xs.length), i ≤ xs[i].o
  | 0, _ => Nat.zero_le _
  | i + 1, hi => by
    have h1 := h.ge i (by omega)
    have h2 := h.lt i (i + 1) (by omega) hi
    omega
theorem Rise.count {L : List Int} {k : Nat} {xs : List Tok} (h : Rise L k xs) : xs.length ≤ L.length := by
  rcases Nat.eq_zero_or_pos xs.length with h0 | h0
  · omega
  · have h1 := h.ge (xs.length - 1) (by omega)
    have h2 := (h.at (xs.length - 1) (by omega)).o
    omega
end Go.Proofs.YtajcegofflmoeaaGreatDoor

namespace Go.Proofs.YtajcegofflmoeaaGreatDoor
set_option maxRecDepth 100000
open Go.RowKit

theorem slice_mid8 (w : World) (A : Option Addr) (c n i j : Nat) (h1 : i ≤ j) (h2 : j ≤ c) : (Instr.sliceAt 49 (.slice A n c) (some (.int .i64 i)) (some (.int .i64 j)) none).run Tryz.prog w = .ok (.slice (dropA A c i) (j - i) (c - i)) w := by
  rw [run_sliceAt_slice _ _ _ _ _ _ (by kernel_rfl), run_slice_lh _ _ _ _ _ (by kernel_rfl) .i64 .i64 (i : Int) (j : Int) (by omega) (by omega) (by omega)]
  have hs : (sizeOf (Tryz.prog.elem 49)).run Tryz.prog w = .ok 1 w := by kernel_rfl
  rw [hs]
  simp [Result.andThen, sliced, dropA]

namespace T
theorem str_list (l : List Int) : (K.str l).toList = Lib.bytesOf l := by
  rw [ByteArray.toList_eq]; rfl
theorem pre_take (l s : List Int) : pre l s = ((K.str (l.take s.length)).toList == (K.str s).toList) := by
  rw [str_list, str_list]
  have e : Lib.bytesOf (l.take s.length) = (Lib.bytesOf l).take (Lib.bytesOf s).length := by simp [Lib.bytesOf, List.map_take]
  rw [e]
  unfold pre Lib.hasPrefix
  rw [Bool.eq_iff_iff, List.isPrefixOf_iff_prefix, beq_iff_eq, List.prefix_iff_eq_take, eq_comm]
theorem pre_short (l s : List Int) (h : l.length < s.length) : pre l s = false := by
  rcases hp : pre l s with _ | _
  · rfl
  · have := pre_len l s hp; omega
theorem ix_cons (z : Int) (r s : List Int) : ix (z :: r) s = if pre (z :: r) s then 0 else if ix r s < 0 then -1 else ix r s + 1 := by
  unfold ix pre Lib.hasPrefix
  rw [show Lib.bytesOf (z :: r) = UInt8.ofNat z.toNat :: Lib.bytesOf r from rfl, Lib.index]
  have := Lib.index_ge (Lib.bytesOf r) (Lib.bytesOf s)
  split
  · rfl
  · by_cases h : Lib.index (Lib.bytesOf r) (Lib.bytesOf s) = -1
    · rw [h]; simp
    · have h1 : (Lib.index (Lib.bytesOf r) (Lib.bytesOf s) == -1) = false := by simpa using h
      rw [h1]
      simp only [Bool.false_eq_true, if_false]
      rw [if_neg (by omega)]
theorem ix_nil (s : List Int) (h : s.length ≠ 0) : ix [] s = -1 := by
  cases s with
  | nil => simp at h
  | cons a b => rfl
theorem ix_next (l s : List Int) (k : Nat) (h : k < l.length) : ix (l.drop k) s = if pre (l.drop k) s then 0 else if ix (l.drop (k + 1)) s < 0 then -1 else ix (l.drop (k + 1)) s + 1 := by
  rw [L.cons_drop l k h, ix_cons]
end T

theorem rhas_any (A : Option Addr) (c B : Nat) (l s : List Int) (k : Nat) (w : World) (hr : RdB w B A l) (hl : K.Bytes l) (hc : l.length ≤ c) (hn : l.length ≤ 5000) (hk : k ≤ l.length) (hs : s.length ≤ 5000) :
    Calls Tryz.prog 111 #[.slice A l.length c, .int .i64 k, .string (K.str s)] w fun e w' => e = .returned (.bool (T.pre (l.drop k) s)) ∧ w = w' := by
  have hsz := K.str_size s
  by_cases h : k + s.length ≤ l.length
  · have hp := T.pre_take (l.drop k) s
    have C1 := str_conv (((hr.dropA hc k).take s.length)) ((hl.drop k).take s.length) (c - k)
    have S1 := fun w => slice_mid8 w A c l.length k (k + s.length) (by omega) (by omega)
    rw [List.length_take, List.length_drop, Nat.min_eq_left (by omega)] at C1
    rw [show k + s.length - k = s.length by omega] at S1
    have hsz2 : (k : Int) + ((K.str s).size : Int) = ((k + s.length : Nat) : Int) := by rw [hsz]; omega
    have h1 : ((k + s.length : Nat) : Int) ≤ (l.length : Int) := by omega
    have HP := hide hp
    clear hp hsz hr hl hk hs hc
    generalize T.pre (l.drop k) s = pb at *
    generalize K.str (List.take s.length (List.drop k l)) = st at *
    generalize K.str s = s2 at *
    generalize k + s.length = m at *
    generalize dropA A c k = D at *
    generalize c - k = c2 at *
    generalize s.length = sl at *
    go_enter Tryz.func111, Tryz.ntmps111
    go_wp2_with (first | simp only [S1] | simp only [C1])
    go_ret
    exact ⟨ret_bool HP.out.symm, rfl⟩
  · rw [T.pre_short (l.drop k) s (by rw [List.length_drop]; omega)]
    have h1 : ¬ (k : Int) + ((K.str s).size : Int) ≤ (l.length : Int) := by rw [hsz]; omega
    have h2 : (k : Int) + ((K.str s).size : Int) ≤ 20000 := by rw [hsz]; omega
    have h3 : 0 ≤ (k : Int) + ((K.str s).size : Int) := by omega
    clear hr hl hk hs hc hsz
    generalize K.str s = s2 at *
    go_enter Tryz.func111, Tryz.ntmps111
    go_wp2
    go_ret
    exact ⟨rfl, rfl⟩

def T.pastV (l s : List Int) (k : Nat) : Int := if T.ix (l.drop k) s < 0 then -1 else k + T.ix (l.drop k) s + s.length
theorem T.pastV_on (l s : List Int) (k : Nat) (h : k < l.length) (hp : T.pre (l.drop k) s = false) : T.pastV l s k = T.pastV l s (k + 1) := by
  unfold T.pastV
  have hx := T.ix_next l s k h
  rw [hp] at hx
  simp only [Bool.false_eq_true, if_false] at hx
  have hg := T.ix_ge (l.drop (k + 1)) s
  by_cases h1 : T.ix (l.drop (k + 1)) s < 0
  · rw [if_pos h1] at hx
    rw [if_pos (by omega), if_pos h1]
  · rw [if_neg h1] at hx
    rw [if_neg (by omega), if_neg h1, hx]
    simp only [Int.natCast_add]
    omega
theorem T.pastV_here (l s : List Int) (k : Nat) (h : k < l.length) (hp : T.pre (l.drop k) s = true) : T.pastV l s k = k + s.length := by
  unfold T.pastV
  have hx := T.ix_next l s k h
  rw [hp, if_pos rfl] at hx
  rw [hx]; simp
theorem T.pastV_end (l s : List Int) (k : Nat) (h : l.length ≤ k) (hs : s.length ≠ 0) : T.pastV l s k = -1 := by
  unfold T.pastV
  rw [List.drop_eq_nil_of_le h, T.ix_nil s hs]; rfl

set_option maxHeartbeats 1000000 in
theorem rpast_any (A : Option Addr) (c B : Nat) (l s : List Int) (k : Nat) (w : World) (hr : RdB w B A l) (hl : K.Bytes l) (hc : l.length ≤ c) (hn : l.length ≤ 5000) (hk : k ≤ 6000) (hs : s.length ≤ 5000) (hs0 : s.length ≠ 0) :
    Calls Tryz.prog 112 #[.slice A l.length c, .int .i64 k, .string (K.str s)] w fun e w' => e = .returned (.int .i64 (T.pastV l s k)) ∧ w = w' := by
  have HP := hide (fun (j : Nat) (h : j ≤ l.length) => rhas_any A c B l s j w hr hl hc hn h hs)
  have hsz := hide (K.str_size s)
  have HE := hide (fun j h => T.pastV_end l s j h hs0)
  have HH := hide (T.pastV_here l s)
  have HO := hide (T.pastV_on l s)
  clear hr hl hc hs0
  go_enter Tryz.func112, Tryz.ntmps112
  go_wp2
  go_loop [1] (fun vi => ∃ (j : Nat), j ≤ 6000 ∧ vi = .int .i64 j ∧ T.pastV l s j = T.pastV l s k) (fun vi => 6001 - (intOf vi).toNat)
  case atStart => exact ⟨k, hk, rfl, rfl⟩
  case round =>
    obtain ⟨j, hj, rfl, he⟩ := hrel
    have HV := hide he
    clear he
    by_cases hlt : j < l.length
    · have HPj := hide (HP.out j (by omega))
      rcases hb : T.pre (l.drop j) s with _ | _
      · rw [hb] at HPj
        have HN := hide (HO.out j hlt hb)
        clear hb HP HE HH HO
        go_wp2_with fail
        refine HPj.out.mono ?_; rintro _ w' ⟨rfl, rfl⟩
        go_wp2
        go_round
        case rel => exact ⟨j + 1, by omega, by go_num, by rw [← HV.out, HN.out]⟩
        case measure => simp [intOf]; omega
      · rw [hb] at HPj
        have HN := hide (HH.out j hlt hb)
        clear hb HP HE HH HO
        have hsz2 := hsz.out
        have hb1 : (j : Int) + ((K.str s).size : Int) ≤ 20000 := by rw [hsz2]; omega
        have HZ := hide hsz2
        clear hsz2 hsz
        generalize K.str s = s2 at *
        go_wp2_with fail
        refine HPj.out.mono ?_; rintro _ w' ⟨rfl, rfl⟩
        go_wp2
        go_ret
        exact ⟨ret_int (by rw [← HV.out, HN.out, HZ.out]), rfl⟩
    · have HN := hide (HE.out j (by omega))
      clear HP HE HH HO
      go_wp2
      go_ret
      exact ⟨ret_int (by rw [← HV.out, HN.out]), rfl⟩

theorem T.line_cons (z : Int) (r : List Int) (hb : K.Bytes (z :: r)) : T.line (z :: r) = if z = 10 then [] else z :: T.line r := by
  have hp : T.pre (z :: r) [10] = decide (z = 10) := by
    unfold T.pre Lib.hasPrefix
    simp only [Lib.bytesOf, List.map_cons, List.map_nil, List.isPrefixOf, Bool.and_true]
    have := hb.hd
    rw [Bool.eq_iff_iff, decide_eq_true_iff, beq_iff_eq]
    constructor
    · intro h
      have := congrArg UInt8.toNat h
      simp at this
      omega
    · rintro rfl; rfl
  have hx := T.ix_cons z r [10]
  have hg := T.ix_ge r [10]
  rw [hp] at hx
  unfold T.line
  by_cases h : z = 10
  · rw [if_pos h]
    rw [decide_eq_true h, if_pos rfl] at hx
    rw [hx]; rfl
  · rw [if_neg h]
    rw [decide_eq_false h, if_neg (by simp)] at hx
    by_cases h1 : T.ix r [10] < 0
    · rw [if_pos h1] at hx
      rw [if_neg (by omega), if_neg (by omega)]
    · rw [if_neg h1] at hx
      rw [if_pos (by omega), if_pos (by omega), hx]
      rw [show (T.ix r [10] + 1).toNat = (T.ix r [10]).toNat + 1 by omega]; rfl

set_option maxHeartbeats 1000000 in
theorem rline_any (A : Option Addr) (c B : Nat) (l : List Int) (k : Nat) (w : World) (hr : RdB w B A l) (hl : K.Bytes l) (hn : l.length ≤ 5000) (hk : k ≤ l.length) :
    Calls Tryz.prog 113 #[.slice A l.length c, .int .i64 k] w fun e w' => e = .returned (.int .i64 ((k + (T.line (l.drop k)).length : Nat) : Int)) ∧ w = w' := by
  go_enter Tryz.func113, Tryz.ntmps113
  go_wp2
  go_loop [1] (fun vi => ∃ (j : Nat), j ≤ l.length ∧ vi = .int .i64 j ∧ j + (T.line (l.drop j)).length = k + (T.line (l.drop k)).length) (fun vi => l.length - (intOf vi).toNat)
  case atStart => exact ⟨k, hk, rfl, rfl⟩
  case round =>
    obtain ⟨j, hj, rfl, he⟩ := hrel
    have HV := hide he
    clear he
    by_cases hlt : j < l.length
    · obtain ⟨g, o, rfl, _, hcl⟩ := hr (by omega)
      have hcell := hcl j (by omega)
      have hcd := L.cons_drop l j hlt
      have hlc := T.line_cons (l.getD j 0) (l.drop (j + 1)) (hcd ▸ hl.drop j)
      rw [← hcd] at hlc
      have HL := hide hlc
      clear hcl hr hl hcd hlc
      generalize l.getD j 0 = z at *
      by_cases h10 : z = 10
      · subst h10
        go_wp2
        go_ret
        exact ⟨ret_int (by have h := HV.out; have h2 := HL.out; simp only [if_true] at h2; rw [h2] at h; simp at h; omega), rfl⟩
      · have h11 : (z == 10) = false := by simpa using h10
        have HN := hide h10
        clear h10
        go_wp2
        go_round
        case rel => exact ⟨j + 1, by omega, by go_num, by rw [← HV.out, HL.out, if_neg HN.out]; simp; omega⟩
        case measure => simp [intOf]; omega
    · obtain rfl : j = l.length := by omega
      clear hr hl
      go_wp2
      go_ret
      exact ⟨ret_int (by have h := HV.out; rw [List.drop_length, show T.line [] = [] from rfl] at h; simp at h; omega), rfl⟩

def T.quoV (q : Int) (l : List Int) (k : Nat) : Int := match T.quoted q (l.drop k) with | none => -1 | some n => k + n
theorem T.quoted_nil (q : Int) : T.quoted q [] = none := by simp [T.quoted]
theorem T.quoV_end (q : Int) (l : List Int) (k : Nat) (h : l.length ≤ k) : T.quoV q l k = -1 := by
  unfold T.quoV
  rw [List.drop_eq_nil_of_le h, T.quoted_nil]
theorem T.quoV_here (q : Int) (l : List Int) (k : Nat) (h : k < l.length) (hq : l.getD k 0 = q) : T.quoV q l k = k + 1 := by
  unfold T.quoV
  rw [L.cons_drop l k h, hq]
  have : T.quoted q (q :: l.drop (k + 1)) = some 1 := by unfold T.quoted; rw [if_pos rfl]
  rw [this]; rfl
theorem T.quoV_on (q : Int) (l : List Int) (k : Nat) (h : k < l.length) (hq : ¬ l.getD k 0 = q) (h92 : ¬ l.getD k 0 = 92) : T.quoV q l k = T.quoV q l (k + 1) := by
  unfold T.quoV
  rw [L.cons_drop l k h]
  have : T.quoted q (l.getD k 0 :: l.drop (k + 1)) = (T.quoted q (l.drop (k + 1))).map (· + 1) := by
    generalize l.drop (k + 1) = r
    cases r with
    | nil =>
      rw [T.quoted_nil]
      have h1 : T.quoted q [l.getD k 0] = none := by
        generalize l.getD k 0 = z at *
        simp [T.quoted, hq, h92]
      rw [h1]; rfl
    | cons a b => rw [T.quoted, if_neg hq, if_neg h92]
  rw [this]
  cases T.quoted q (l.drop (k + 1)) with
  | none => rfl
  | some n => simp only [Option.map_some]; omega
theorem T.quoV_two (q : Int) (l : List Int) (k : Nat) (h : k < l.length) (hq : ¬ l.getD k 0 = q) (h92 : l.getD k 0 = 92) : T.quoV q l k = T.quoV q l (k + 2) := by
  unfold T.quoV
  rw [L.cons_drop l k h]
  by_cases h2 : k + 1 < l.length
  · rw [L.cons_drop l (k + 1) h2]
    have : T.quoted q (l.getD k 0 :: l.getD (k + 1) 0 :: l.drop (k + 1 + 1)) = (T.quoted q (l.drop (k + 2))).map (· + 2) := by
      rw [T.quoted, if_neg hq, if_pos h92]
    rw [this]
    cases T.quoted q (l.drop (k + 2)) with
    | none => rfl
    | some n => simp only [Option.map_some]; omega
  · rw [List.drop_eq_nil_of_le (by omega : l.length ≤ k + 1), List.drop_eq_nil_of_le (by omega : l.length ≤ k + 2), T.quoted_nil]
    have : T.quoted q [l.getD k 0] = none := by rw [T.quoted, if_neg hq, if_pos h92]
    rw [this]

set_option maxHeartbeats 1000000 in
theorem rquoted_any (A : Option Addr) (c B : Nat) (l : List Int) (k : Nat) (w : World) (hr : RdB w B A l) (hn : l.length ≤ 5000) (hk : k < l.length) :
    Calls Tryz.prog 129 #[.slice A l.length c, .int .i64 k] w fun e w' => e = .returned (.int .i64 (T.quoV (l.getD k 0) l (k + 1))) ∧ w = w' := by
  obtain ⟨g, o, rfl, _, hcl⟩ := hr (by omega)
  have hcell0 := hcl k hk
  have HE := hide (T.quoV_end (l.getD k 0) l)
  have HH := hide (T.quoV_here (l.getD k 0) l)
  have HO := hide (T.quoV_on (l.getD k 0) l)
  have HT := hide (T.quoV_two (l.getD k 0) l)
  have HC := hide hcl
  clear hcl hr
  generalize l.getD k 0 = q at *
  go_enter Tryz.func129, Tryz.ntmps129
  go_wp2
  go_loop [1] (fun vi => ∃ (j : Nat), j ≤ l.length + 1 ∧ vi = .int .i64 j ∧ T.quoV q l j = T.quoV q l (k + 1)) (fun vi => l.length + 2 - (intOf vi).toNat)
  case atStart => exact ⟨k + 1, by omega, by go_num, rfl⟩
  case round =>
    clear hcell0
    obtain ⟨j, hj, rfl, he⟩ := hrel
    have HV := hide he
    clear he
    by_cases hlt : j < l.length
    · have hcell := HC.out j hlt
      by_cases hz : l.getD j 0 = q
      · have HN := hide (HH.out j hlt hz)
        have hz' : (l.getD j 0 == q) = true := by simpa using hz
        clear hz HE HH HO HT HC
        generalize l.getD j 0 = z at *
        go_wp2
        go_ret
        exact ⟨ret_int (by rw [← HV.out, HN.out]), rfl⟩
      · have hz' : (l.getD j 0 == q) = false := by simpa using hz
        by_cases h92 : l.getD j 0 = 92
        · have HN := hide (HT.out j hlt hz h92)
          have h92' : (l.getD j 0 == 92) = true := by simpa using h92
          clear hz h92 HE HH HO HT HC
          generalize l.getD j 0 = z at *
          go_wp2
          go_round
          case rel => exact ⟨j + 2, by omega, by go_num, by rw [← HV.out, HN.out]⟩
          case measure => simp [intOf]; omega
        · have HN := hide (HO.out j hlt hz h92)
          have h92' : (l.getD j 0 == 92) = false := by simpa using h92
          clear hz h92 HE HH HO HT HC
          generalize l.getD j 0 = z at *
          go_wp2
          go_round
          case rel => exact ⟨j + 1, by omega, by go_num, by rw [← HV.out, HN.out]⟩
          case measure => simp [intOf]; omega
    · have HN := hide (HE.out j (by omega))
      clear HE HH HO HT HC
      go_wp2
      go_ret
      exact ⟨ret_int (by rw [← HV.out, HN.out]), rfl⟩

theorem T.act_quo {f : Nat} {z : Int} {r : List Int} {o : Int} {m : Nat} (h : T.act f (z :: r) o = some m) (hz : z = 39 ∨ z = 34) : ∃ f' q m', T.quoted z r = some q ∧ T.act f' (r.drop q) o = some m' ∧ m = m' + (q + 1) := by
  cases f with
  | zero => simp [T.act] at h
  | succ f =>
    rw [T.act] at h
    rw [if_pos hz] at h
    split at h
    · cases h
    · rename_i q hq
      rw [Option.map_eq_some_iff] at h
      obtain ⟨m', h1, h2⟩ := h
      exact ⟨f, q, m', hq, h1, h2.symm⟩
theorem T.act_on {f : Nat} {z : Int} {r : List Int} {o : Int} {m : Nat} (h : T.act f (z :: r) o = some m) (hz : ¬ (z = 39 ∨ z = 34)) (ho : 0 < T.ostep z o) : ∃ f' m', T.act f' r (T.ostep z o) = some m' ∧ m = m' + 1 := by
  cases f with
  | zero => simp [T.act] at h
  | succ f =>
    rw [T.act] at h
    rw [if_neg hz, if_pos ho, Option.map_eq_some_iff] at h
    obtain ⟨m', h1, h2⟩ := h
    exact ⟨f, m', h1, h2.symm⟩
theorem T.act_end {f : Nat} {z : Int} {r : List Int} {o : Int} {m : Nat} (h : T.act f (z :: r) o = some m) (hz : ¬ (z = 39 ∨ z = 34)) (ho : ¬ 0 < T.ostep z o) : m = 1 := by
  cases f with
  | zero => simp [T.act] at h
  | succ f =>
    rw [T.act] at h
    rw [if_neg hz, if_neg ho] at h
    exact (Option.some.inj h).symm
theorem T.act_nil {f : Nat} {o : Int} {m : Nat} (h : T.act f [] o = some m) : False := by
  cases f with
  | zero => simp [T.act] at h
  | succ f => rw [T.act] at h; cases h

set_option maxHeartbeats 2000000 in
theorem raction_any (A : Option Addr) (c B : Nat) (l : List Int) (k n f0 : Nat) (w : World) (hr : RdB w B A l) (hn : l.length ≤ 5000) (hk : k < l.length) (hz : l.getD k 0 = 123) (ha : T.act f0 (l.drop k) 0 = some n) :
    Calls Tryz.prog 114 #[.slice A l.length c, .int .i64 k] w fun e w' => e = .returned (.int .i64 ((k + n : Nat) : Int)) ∧ w = w' := by
  have HQ := hide (fun (j : Nat) (h : j < l.length) => rquoted_any A c B l j w hr hn h)
  have HA := hide ha
  have HZ := hide hz
  clear ha hz
  go_enter Tryz.func114, Tryz.ntmps114
  go_wp2
  go_loop [1, 5] (fun vi vo => ∃ (j f m : Nat) (o : Int), j ≤ l.length ∧ vi = .int .i64 j ∧ vo = .int .i64 o ∧ 0 ≤ o ∧ o + k ≤ j ∧ T.act f (l.drop j) o = some m ∧ j + m = k + n ∧ (o = 0 → l.getD j 0 = 123)) (fun vi _ => l.length - (intOf vi).toNat)
  case atStart => exact ⟨k, f0, n, 0, by omega, rfl, rfl, by omega, by omega, HA.out, rfl, fun _ => HZ.out⟩
  case round =>
    clear HA HZ
    obtain ⟨j, f, m, o, hj, rfl, rfl, ho, hok, hact, hm, h123⟩ := hrel
    have HM := hide hm
    clear hm
    by_cases hlt : j < l.length
    · obtain ⟨g, o', rfl, _, hcl⟩ := hr (by omega)
      have hcell := hcl j hlt
      have HQj := hide (HQ.out j hlt)
      rw [L.cons_drop l j hlt] at hact
      have HACT := hide hact
      clear hact HQ hcl hr
      have HD : Hid (∀ q, (l.drop (j + 1)).drop q = l.drop (j + 1 + q)) := hide (fun q => by rw [List.drop_drop])
      by_cases hq : l.getD j 0 = 39 ∨ l.getD j 0 = 34
      · obtain ⟨f', q, m', h1, h2, h3⟩ := T.act_quo HACT.out hq
        have hql := T.quoted_le _ _ _ h1
        rw [List.length_drop] at hql
        have hv : T.quoV (l.getD j 0) l (j + 1) = ((j + 1 + q : Nat) : Int) := by unfold T.quoV; rw [h1]; simp only; omega
        rw [hv] at HQj
        rw [HD.out] at h2
        have H2 := hide h2
        have H3 := hide h3
        have ho1 : ¬ o = 0 := fun e => by have := h123 e; omega
        have ho2 : (o == 0) = false := by simpa using ho1
        clear h1 h2 h3 hv HACT h123
        have hqq : (l.getD j 0 == 123) = false ∧ (l.getD j 0 == 125) = false := by
          rcases hq with e | e <;> rw [e] <;> exact ⟨rfl, rfl⟩
        obtain ⟨q1, q2⟩ := hqq
        have hpos : 0 ≤ ((j + 1 + q : Nat) : Int) := by omega
        have hle : j + 1 + q ≤ l.length := by omega
        rcases hq with hq | hq
        · have q3 : (l.getD j 0 == 39) = true := by rw [hq]; rfl
          clear hq
          generalize l.getD j 0 = z at *
          generalize hx : j + 1 + q = x at *
          have HX := hide hx
          clear hx
          go_wp2_with fail
          refine HQj.out.mono ?_; rintro _ w' ⟨rfl, rfl⟩
          go_wp2
          go_round
          case rel => exact ⟨x, f', m', o, by omega, rfl, rfl, ho, by have := HX.out; omega, H2.out, by have := H3.out; have := HM.out; have := HX.out; omega, fun e => absurd e ho1⟩
          case measure => have := HX.out; simp [intOf]; omega
        · have q3 : (l.getD j 0 == 39) = false := by rw [hq]; rfl
          have q4 : (l.getD j 0 == 34) = true := by rw [hq]; rfl
          clear hq
          generalize l.getD j 0 = z at *
          generalize hx : j + 1 + q = x at *
          have HX := hide hx
          clear hx
          go_wp2_with fail
          refine HQj.out.mono ?_; rintro _ w' ⟨rfl, rfl⟩
          go_wp2
          go_round
          case rel => exact ⟨x, f', m', o, by omega, rfl, rfl, ho, by have := HX.out; omega, H2.out, by have := H3.out; have := HM.out; have := HX.out; omega, fun e => absurd e ho1⟩
          case measure => have := HX.out; simp [intOf]; omega
      · have q3 : (l.getD j 0 == 39) = false := by simpa using fun e => hq (.inl e)
        have q4 : (l.getD j 0 == 34) = false := by simpa using fun e => hq (.inr e)
        have HON := hide (T.act_on HACT.out hq)
        have HEN := hide (T.act_end HACT.out hq)
        clear HACT hq HQj HD
        by_cases h1 : l.getD j 0 = 123
        · have q1 : (l.getD j 0 == 123) = true := by rw [h1]; rfl
          have hs : T.ostep (l.getD j 0) o = o + 1 := by unfold T.ostep; rw [if_pos h1]
          obtain ⟨f', m', h2, h3⟩ := HON.out (by rw [hs]; omega)
          rw [hs] at h2
          have H2 := hide h2
          have H3 := hide h3
          clear HON HEN h1 hs h2 h3 h123
          have ho2 : (o + 1 == 0) = false := by rw [beq_eq_false_iff_ne]; omega
          generalize l.getD j 0 = z at *
          go_wp2
          go_round
          case rel => exact ⟨j + 1, f', m', o + 1, by omega, by go_num, by go_num, by omega, by omega, H2.out, by have := H3.out; have := HM.out; omega, fun e => by omega⟩
          case measure => simp [intOf]; omega
        · have q1 : (l.getD j 0 == 123) = false := by simpa using h1
          have ho1 : ¬ o = 0 := fun e => h1 (h123 e)
          by_cases h5 : l.getD j 0 = 125
          · have q2 : (l.getD j 0 == 125) = true := by rw [h5]; rfl
            have hs : T.ostep (l.getD j 0) o = o - 1 := by unfold T.ostep; rw [if_neg h1, if_pos h5]
            by_cases h0 : 0 < o - 1
            · obtain ⟨f', m', h2, h3⟩ := HON.out (by rw [hs]; omega)
              rw [hs] at h2
              have H2 := hide h2
              have H3 := hide h3
              clear HON HEN h1 h5 hs h2 h3 h123
              have ho2 : (o - 1 == 0) = false := by rw [beq_eq_false_iff_ne]; omega
              generalize l.getD j 0 = z at *
              go_wp2
              go_round
              case rel => exact ⟨j + 1, f', m', o - 1, by omega, by go_num, by go_num, by omega, by omega, H2.out, by have := H3.out; have := HM.out; omega, fun e => by omega⟩
              case measure => simp [intOf]; omega
            · have hm1 := HEN.out (by rw [hs]; omega)
              have H3 := hide hm1
              have ho3 : o = 1 := by omega
              subst ho3
              clear HON HEN h1 h5 hs hm1 h123 h0 ho1
              generalize l.getD j 0 = z at *
              go_wp2
              go_ret
              exact ⟨ret_int (by have := HM.out; have := H3.out; omega), rfl⟩
          · have q2 : (l.getD j 0 == 125) = false := by simpa using h5
            have hs : T.ostep (l.getD j 0) o = o := by unfold T.ostep; rw [if_neg h1, if_neg h5]
            obtain ⟨f', m', h2, h3⟩ := HON.out (by rw [hs]; omega)
            rw [hs] at h2
            have H2 := hide h2
            have H3 := hide h3
            clear HON HEN h1 h5 hs h2 h3 h123
            have ho2 : (o == 0) = false := by simpa using ho1
            generalize l.getD j 0 = z at *
            go_wp2
            go_round
            case rel => exact ⟨j + 1, f', m', o, by omega, by go_num, rfl, by omega, by omega, H2.out, by have := H3.out; have := HM.out; omega, fun e => absurd e ho1⟩
            case measure => simp [intOf]; omega
    · exfalso
      rw [List.drop_eq_nil_of_le (by omega)] at hact
      exact T.act_nil hact
end Go.Proofs.YtajcegofflmoeaaGreatDoor

namespace Go.Proofs.YtajcegofflmoeaaGreatDoor
set_option maxRecDepth 100000
open Go.RowKit

theorem OwnD.at {L : List Int} {w : World} {base : Nat} {v : Value} {ds : List Y.Dcl} (h : OwnD L w base v ds) (i : Nat) (hi : i < ds.length) : ∃ D c A c', v = .slice (some ⟨D, 0, none⟩) ds.length c ∧ w.cell? ⟨D, i * 2, none⟩ = some (.int .i64 ds[i].k) ∧ w.cell? ⟨D, i * 2 + 1, none⟩ = some (.slice A ds[i].ns.length c') ∧ RdR L w base A ds[i].ns := by
  obtain ⟨qs, rfl, h2, h3⟩ := h
  have hi' : i < qs.length := by simpa using hi
  rcases h2.2 with ⟨_, h0⟩ | ⟨g, cap, cur, rfl, _⟩
  · omega
  · refine ⟨g, cap, qs[i].2.1, qs[i].2.2, rfl, ?_, ?_, ?_⟩
    · have := World.ownsRow.cells h2 (g := g) rfl (i * 2 + 0) _ (by rw [dall_at qs i 0 hi' (by omega)]; rfl)
      rw [addZ, Nat.zero_add] at this
      simpa using this
    · have := World.ownsRow.cells h2 (g := g) rfl (i * 2 + 1) _ (by rw [dall_at qs i 1 hi' (by omega)]; rfl)
      rw [addZ, Nat.zero_add] at this
      simpa using this
    · have := h3 qs[i] (List.getElem_mem hi')
      simpa using this
theorem OwnP.at {L : List Int} {w : World} {base : Nat} {v : Value} {ps : List Y.Prd} (h : OwnP L w base v ps) (i : Nat) (hi : i < ps.length) : ∃ D c A c', v = .slice (some ⟨D, 0, none⟩) ps.length c ∧ (∀ j u, j < 5 → (pcells L ps[i] A c')[j]? = some u → w.cell? ⟨D, i * 5 + j, none⟩ = some u) ∧ RdR L w base A ps[i].r := by
  obtain ⟨qs, rfl, h2, h3⟩ := h
  have hi' : i < qs.length := by simpa using hi
  rcases h2.2 with ⟨_, h0⟩ | ⟨g, cap, cur, rfl, _⟩
  · omega
  · refine ⟨g, cap, qs[i].2.1, qs[i].2.2, rfl, fun j u hj hu => ?_, ?_⟩
    · have := World.ownsRow.cells h2 (g := g) rfl (i * 5 + j) u (by rw [pall_at L qs i j hi' hj]; simpa using hu)
      rw [addZ, Nat.zero_add] at this
      exact this
    · have := h3 qs[i] (List.getElem_mem hi')
      simpa using this

namespace Y
end Y

end Go.Proofs.YtajcegofflmoeaaGreatDoor

namespace Go.Proofs.YtajcegofflmoeaaGreatDoor
set_option maxRecDepth 100000
open Go.RowKit

/-! ### slices of the call's own -/
def tmC (t : Gm.Tm) : List Value := [.string (K.str t.nm), .int .i64 t.lv, .int .i64 t.wy]
def tmsC (ts : List Gm.Tm) : List Value := ts.flatMap tmC
def nmsC (ns : List (List Int)) : List Value := ns.map fun s => .string (K.str s)
abbrev RA := Gm.Rl × Option Addr × Nat
def rlC (q : RA) : List Value := [.int .i64 q.1.l, .slice q.2.1 q.1.r.length q.2.2, .int .i64 q.1.p]
def rlsC (qs : List RA) : List Value := qs.flatMap rlC
theorem three_at {α : Type} (f : α → List Value) (hf : ∀ x, (f x).length = 3) (xs : List α) (i j : Nat) (hi : i < xs.length) (hj : j < 3) : (xs.flatMap f)[i * 3 + j]? = (f xs[i])[j]? := by
  induction xs generalizing i with
  | nil => simp at hi
  | cons x r ih =>
    rw [List.flatMap_cons]
    have hl := hf x
    cases i with
    | zero => rw [List.getElem?_append_left (by omega)]; simp
    | succ i =>
      rw [List.getElem?_append_right (by omega), hl, show (i + 1) * 3 + j - 3 = i * 3 + j by omega]
      simpa using ih i (by simpa using hi)
theorem three_len {α : Type} (f : α → List Value) (hf : ∀ x, (f x).length = 3) (xs : List α) : (xs.flatMap f).length = xs.length * 3 := by
  induction xs with
  | nil => rfl
  | cons x r ih => rw [List.flatMap_cons, List.length_append, ih, hf, List.length_cons]; omega
def OwnTm (w : World) (base : Nat) (v : Value) (ts : List Gm.Tm) : Prop := w.ownsRow base 79 3 v ts.length (tmsC ts)
def OwnN (w : World) (base : Nat) (v : Value) (ns : List (List Int)) : Prop := w.ownsRow base 9 1 v ns.length (nmsC ns)
def RowI (w : World) (base N : Nat) (A : Option Addr) (zs : List Int) : Prop :=
  zs.length ≠ 0 → ∃ (g : Nat) (cur : Array Value), A = some ⟨g, 0, none⟩ ∧ base ≤ g ∧ g < N ∧ w.heap[g]? = some (.cells cur 3 (0, 0)) ∧ ∀ j (h : j < zs.length), cur[j]? = some (.int .i64 zs[j])
def OwnRl (w : World) (base N : Nat) (v : Value) (rs : List Gm.Rl) : Prop :=
  ∃ qs : List RA, qs.map (·.1) = rs ∧ w.ownsRow base 51 3 v rs.length (rlsC qs) ∧ (∀ k, v.ownBlock = some k → k < N) ∧ ∀ q ∈ qs, q.1.r.length ≤ q.2.2 ∧ q.2.2 ≤ 9223372036854775807 ∧ RowI w base N q.2.1 q.1.r
theorem OwnTm.nil (w : World) (base : Nat) : OwnTm w base (.slice none 0 0) [] := World.ownsRow_nil w base _ _
theorem OwnN.nil (w : World) (base : Nat) : OwnN w base (.slice none 0 0) [] := World.ownsRow_nil w base _ _
theorem OwnRl.nil (w : World) (base N : Nat) : OwnRl w base N (.slice none 0 0) [] := ⟨[], rfl, World.ownsRow_nil w base _ _, (by intro k h; cases h), (by intro q h; cases h)⟩
theorem own_form {w : World} {base : Nat} {e : TypeId} {size n : Nat} {v : Value} {xs : List Value} (h : w.ownsRow base e size v n xs) : ∃ A c, v = .slice A n c ∧ n ≤ c ∧ c ≤ maxLen := by
  rcases h.2 with ⟨rfl, h0⟩ | ⟨g, cap, cur, rfl, hb, hg, hn, hm, hs, ht⟩
  · exact ⟨none, 0, by rw [h0], by omega, by unfold maxLen; omega⟩
  · exact ⟨_, cap, rfl, hn, hm⟩
theorem own_slice {w : World} {base : Nat} {e : TypeId} {size n : Nat} {v : Value} {xs : List Value} (h : w.ownsRow base e size v n xs) : ∃ A m c, v = .slice A m c := by
  obtain ⟨A, c, rfl, _⟩ := own_form h
  exact ⟨A, n, c, rfl⟩
theorem own_away {w : World} {base : Nat} {e : TypeId} {size n : Nat} {v : Value} {xs : List Value} (h : w.ownsRow base e size v n xs) {g : Nat} {o : Obj} (hg : w.heap[g]? = some o) (ho : ∀ cur, o ≠ .cells cur e (0, 0)) : v.ownBlock = none ∨ v.ownBlock ≠ some g := by
  rcases h.2 with ⟨rfl, _⟩ | ⟨g', cap, cur, rfl, _, hg', _⟩
  · exact .inl rfl
  · refine .inr fun e1 => ?_
    injection e1 with e1
    have e1 : g' = g := e1
    subst e1
    rw [hg] at hg'
    injection hg' with hg'
    exact ho _ hg'
theorem own_holds {w : World} {base : Nat} {e : TypeId} {size n : Nat} {v : Value} {xs : List Value} (h : w.ownsRow base e size v n xs) {k : Nat} (hk : v.ownBlock = some k) : base ≤ k ∧ ∃ cur, w.heap[k]? = some (.cells cur e (0, 0)) := by
  rcases h.2 with ⟨rfl, _⟩ | ⟨g', cap, cur, rfl, hb, hg', _⟩
  · cases hk
  · injection hk with hk
    have hk : g' = k := hk
    subst hk
    exact ⟨hb, cur, hg'⟩
theorem RowI.grown {w w' : World} {base N : Nat} {A : Option Addr} {zs : List Int} {row : Option Nat} (h : RowI w base N A zs) (hg : w.grownBy w' row) (hr : ∀ g, row = some g → (∀ cur, w.heap[g]? ≠ some (.cells cur 3 (0, 0))) ∨ N ≤ g) : RowI w' base N A zs := fun hn => by
  obtain ⟨g, cur, e, hb, hN, hh, hc⟩ := h hn
  refine ⟨g, cur, e, hb, hN, (hg.block g (Array.getElem?_eq_some_iff.1 hh).1 (fun e => ?_)).trans hh, hc⟩
  rcases hr g e.symm with q | q
  · exact q _ hh
  · omega
theorem RowI.more {w : World} {base N N' : Nat} {A : Option Addr} {zs : List Int} (h : RowI w base N A zs) (hN : N ≤ N') : RowI w base N' A zs := fun hn => by
  obtain ⟨g, cur, e, hb, h1, hh⟩ := h hn
  exact ⟨g, cur, e, hb, by omega, hh⟩
theorem OwnRl.grown {w w' : World} {base N : Nat} {v : Value} {rs : List Gm.Rl} {row : Option Nat} (h : OwnRl w base N v rs) (hg : w.grownBy w' row) (hr : ∀ g, row = some g → ((∀ cur, w.heap[g]? ≠ some (.cells cur 3 (0, 0))) ∧ (∀ cur, w.heap[g]? ≠ some (.cells cur 51 (0, 0)))) ∨ N ≤ g) : OwnRl w' base N v rs := by
  obtain ⟨qs, h1, h2, h3, h4⟩ := h
  refine ⟨qs, h1, h2.kept hg ?_, h3, fun q hq => ⟨(h4 q hq).1, (h4 q hq).2.1, (h4 q hq).2.2.grown hg fun g e => ?_⟩⟩
  · rcases hv : v.ownBlock with _ | k
    · exact .inl rfl
    · refine .inr fun e => ?_
      rcases hr k e.symm with q | q
      · obtain ⟨_, cur, hc⟩ := own_holds h2 hv
        exact q.2 _ hc
      · have := h3 k hv; omega
  · rcases hr g e with q | q
    · exact .inl q.1
    · exact .inr q
theorem OwnRl.more {w : World} {base N N' : Nat} {v : Value} {rs : List Gm.Rl} (h : OwnRl w base N v rs) (hN : N ≤ N') : OwnRl w base N' v rs := by
  obtain ⟨qs, h1, h2, h3, h4⟩ := h
  exact ⟨qs, h1, h2, fun k hk => by have := h3 k hk; omega, fun q hq => ⟨(h4 q hq).1, (h4 q hq).2.1, (h4 q hq).2.2.more hN⟩⟩

/-! ### a builder -/
def soS : Option Tok → ByteArray | none => ⟨#[]⟩ | some x => K.str x.t
def soX (L : List Int) : Option Tok → Nat | none => 0 | some x => Fl.fl (Pl.pos (L.take x.o)).1
def soY (L : List Int) : Option Tok → Nat | none => 0 | some x => Fl.fl (Pl.pos (L.take x.o)).2
theorem cells_ne {w : World} {g : Nat} {cs : Array Value} {T T' : TypeId} (h : w.heap[g]? = some (.cells cs T (0, 0))) (hT : T ≠ T') (cur : Array Value) : w.heap[g]? ≠ some (.cells cur T' (0, 0)) := by
  rw [h]; intro e; injection e with e; injection e with _ e; exact hT e
theorem none_away (v : Value) : v.ownBlock = none ∨ v.ownBlock ≠ (none : Option Nat) := by
  rcases v.ownBlock with _ | k
  · exact .inl rfl
  · exact .inr (by simp)
section
variable {w w' : World} {B N R : Nat} {cs : Array Value} {vT vN vR : Value} {ts : List Gm.Tm} {ns : List (List Int)} {rs : List Gm.Rl} {Ms Mt : Nat} {ml tl : List (List Int × Value)} {row : Option Nat}
theorem other_row {e e' : TypeId} {size size' n n' base base' : Nat} {v u : Value} {xs ys : List Value} (h : w.ownsRow base e size v n xs) (k : w.ownsRow base' e' size' u n' ys) (he : e ≠ e') : v.ownBlock = none ∨ v.ownBlock ≠ u.ownBlock := by
  rcases hu : u.ownBlock with _ | g
  · exact none_away _
  · obtain ⟨_, cur, hc⟩ := own_holds k hu
    exact own_away h hc (fun cur' q => by injection q with _ q; exact he q.symm)
theorem cells_row {e T : TypeId} {size n base g : Nat} {u : Value} {ys : List Value} (hb : w.heap[g]? = some (.cells cs T (0, 0))) (k : w.ownsRow base e size u n ys) (he : T ≠ e) (hg : w.grownBy w' u.ownBlock) : w'.heap[g]? = some (.cells cs T (0, 0)) := by
  refine (hg.block g (Array.getElem?_eq_some_iff.1 hb).1 (fun q => ?_)).trans hb
  obtain ⟨_, cur, hc⟩ := own_holds k q.symm
  exact cells_ne hb he _ hc
end
theorem infoTm : (Tryz.prog.info? 79).map (fun i => (i.zero, i.size, i.bytes)) = some (some (.agg #[.string ⟨#[]⟩, .int .i64 0, .int .i64 0]), 3, 32) := by kernel_rfl
theorem infoNm : (Tryz.prog.info? 9).map (fun i => (i.zero, i.size, i.bytes)) = some (some (.string ⟨#[]⟩), 1, 16) := by kernel_rfl
theorem infoRl : (Tryz.prog.info? 51).map (fun i => (i.zero, i.size, i.bytes)) = some (some (.agg #[.int .i64 0, .slice none 0 0, .int .i64 0]), 3, 40) := by kernel_rfl
theorem apRl_arm {w : World} {ops : Array Oper} {rest : List Oper} {o : Oper} {a : Act} {Q : Exit → Act → World → Prop}
    (hgd : o.guard = none) (s x : Operand) (t : TypeId) (ho : o.op = .call { callee := .builtin .append, args := #[s, x], argTypes := #[t, t] }) (ht : Tryz.prog.underlying t = some (.slice 51))
    (base N : Nat) (v : Value) (rs : List Gm.Rl) (hs : a.eval s = v) (hown : OwnRl w base N v rs) (g c : Nat) (q : RA) (hx : a.eval x = .slice (some ⟨g, 0, none⟩) 1 c) (hz : ∀ j u, (rlC q)[j]? = some u → w.cell? ⟨g, j, none⟩ = some u) (hr : q.1.r.length ≤ q.2.2 ∧ q.2.2 ≤ 9223372036854775807 ∧ RowI w base w.heap.size q.2.1 q.1.r)
    (hlen : rs.length ≤ 1000000) (hbase : base ≤ w.heap.size) (hN : N ≤ w.heap.size)
    (hK : ∀ v' w', OwnRl w' base w'.heap.size v' (rs ++ [q.1]) → w.grownBy w' v.ownBlock → wpList Tryz.prog ops Q rest (a.put o.dst v') w') :
    wpList Tryz.prog ops Q (o :: rest) a w := by
  obtain ⟨i, hi, hz0, hz1, hz2⟩ := info_parts infoRl
  obtain ⟨qs, hq1, hq2, hq3, hq4⟩ := hown
  have hlq : qs.length = rs.length := by rw [← hq1, List.length_map]
  refine wpList_append_own w hgd s x t ho base 51 i _ 3 40 ht hi hz0 hz1 hz2 rfl (by decide) v rs.length (rlsC qs) hs hq2 ⟨g, 0, none⟩ 1 c (rlC q) hx rfl ?_ ?_ (by unfold maxLen; omega) (by omega) hbase fun v' w' h1 h2 _ => hK v' w' ?_ h2
  · intro j u hj
    rw [addZ, Nat.zero_add]
    exact hz j u hj
  · intro u hu; simp [rlC] at hu; rcases hu with rfl | rfl | rfl <;> rfl
  · have hng : ∀ g', v.ownBlock = some g' → (∀ cur, w.heap[g']? ≠ some (.cells cur 3 (0, 0))) ∨ w.heap.size ≤ g' := fun g' e => by
      obtain ⟨_, cur, hc⟩ := own_holds hq2 e
      exact .inl (cells_ne hc (by decide))
    refine ⟨qs ++ [q], by rw [List.map_append, hq1]; rfl, ?_, fun k hk => ?_, fun p hp => ?_⟩
    · rw [List.length_append]
      unfold rlsC
      rw [List.flatMap_append, List.flatMap_singleton]
      exact h1
    · obtain ⟨_, cur, hc⟩ := own_holds h1 hk
      exact (Array.getElem?_eq_some_iff.1 hc).1
    · rcases List.mem_append.1 hp with h | h
      · obtain ⟨a1, a2, a3⟩ := hq4 p h
        exact ⟨a1, a2, ((a3.more hN).grown h2 hng).more h2.size⟩
      · rw [List.mem_singleton] at h
        subst h
        exact ⟨hr.1, hr.2.1, (hr.2.2.grown h2 hng).more h2.size⟩

theorem new_cells (w : World) (l : List Value) (T : TypeId) (j : Nat) : (w.alloc (.cells l.toArray T)).cell? ⟨w.heap.size, j, none⟩ = l[j]? := by
  rw [cell_of_row _ _ j _ _ _ (heap_alloc_new w _)]
  simp
section
variable {w w' : World} {B N R : Nat} {cs : Array Value} {vT vN vR : Value} {ts : List Gm.Tm} {ns : List (List Int)} {rs : List Gm.Rl} {Ms Mt : Nat} {ml tl : List (List Int × Value)}
end
end Go.Proofs.YtajcegofflmoeaaGreatDoor
