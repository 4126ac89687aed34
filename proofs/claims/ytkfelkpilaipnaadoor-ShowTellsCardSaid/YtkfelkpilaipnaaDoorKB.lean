/- Part of the proofs over this program: CalmT, YaccP, YaccDecl, GramL, GmL, CfgLeaf, Ref8R, LexRef, CfgRef, CfgRef2, MapW, CfgNames, CfgL. -/
import Derived.Test.YtkfelkpilaipnaaDoorProg
import Derived.WalkKit
import Derived.WalkSpells
import Derived.WalkLawsBesides
import Derived.Deep.Draws
import Derived.BigQuiet
import Derived.Deep.QuietTactic
import Derived.RegionTactic
import Derived.Deep.DeepFit
import Derived.Deep.RegionWith
import Derived.Laws.CopyOwn
import Derived.Laws.OwnMore
import Derived.OwnWalk
import Derived.ProofKit
import Derived.OpenShut
import Derived.OrdersHeld
import Derived.Laws.IdiomStrings
import Derived.Lib.IndexLaws
import Derived.Lib.IndexMore
import Derived.Lib.Strings
import Derived.Lib.Bytes
import Derived.Lib.Index
import Derived.Test.YtkfelkpilaipnaaDoorShelf
import Derived.ScopeJumps
import Derived.WalkMore
import Derived.Laws.FloatArith
import Derived.Deep.DeepCutAuto
import Derived.IntWalk
import Derived.Maps.OwnSet
import Derived.Test.YtkfelkpilaipnaaDoorKA
namespace Go.Calm
open Go.RowKit

section
variable {P : Program} {ops : Array Oper} {Q : Exit → Act → World → Prop} {md : Region.Mode}

/-- The phases: at last what only reads; or what only reads, and then one operation, or one of two. -/
inductive Ph where
  | fin (last : List Nat)
  | one (p : List Nat) (k : Nat) (t : Ph)
  | two (p : List Nat) (k : Nat) (t : Ph) (k2 : Nat) (t2 : Ph)

/-- One operation, and then the rest in a class of worlds that may be narrower. -/
def wpSt (P : Program) (ops : Array Oper) (Q : Exit → Act → World → Prop) (o : Option Oper) (S : World → Prop) (T : (World → Prop) → Act → World → Prop) (a : Act) (w : World) : Prop :=
  match o with
  | none => True
  | some o => ∀ K : Act → World → Prop, (∀ a2 w2, S w2 → ∀ S' : World → Prop, (∀ x, S' x → S x) → S' w2 → T S' a2 w2 → K a2 w2) →
      if Region.wanted o (yielded ops a.tmps) = true then Oper.wp P o a w K Q else K (a.put o.dst undef) w

def wpT (P : Program) (ops : Array Oper) (Q : Exit → Act → World → Prop) : Ph → (World → Prop) → Act → World → Prop
  | .fin last, S, a, w => wpQuiet P ops S (fun a' => Q .normal a' w) (pickOps ops last) a
  | .one p k t, S, a, w => wpQuiet P ops S (fun a' => wpSt P ops Q ops[k]? S (fun S' a2 w2 => wpT P ops Q t S' a2 w2) a' w) (pickOps ops p) a
  | .two p k t k2 t2, S, a, w => wpQuiet P ops S (fun a' => wpSt P ops Q ops[k]? S (fun S' a2 w2 => wpT P ops Q t S' a2 w2) a' w ∧ wpSt P ops Q ops[k2]? S (fun S' a2 w2 => wpT P ops Q t2 S' a2 w2) a' w) (pickOps ops p) a

def tB (md : Region.Mode) (ops : Array Oper) : Ph → Array Bool → Nat → Bool
  | .fin last, l, n => stillB md ops last l && (Region.ready md ops (marked last l)).isEmpty && (last.length == n)
  | .one p k t, l, n => stillB md ops p l && (match Region.ready md ops (marked p l) with | [j] => j == k | _ => false) && (ops[k]?).isSome && decide (p.length + 1 ≤ n) && tB md ops t ((marked p l).setIfInBounds k true) (n - (p.length + 1))
  | .two p k t k2 t2, l, n => stillB md ops p l && (match Region.ready md ops (marked p l) with | [j, j2] => j == k && j2 == k2 | _ => false) && (ops[k]?).isSome && (ops[k2]?).isSome && decide (p.length + 1 ≤ n) && tB md ops t ((marked p l).setIfInBounds k true) (n - (p.length + 1)) && tB md ops t2 ((marked p l).setIfInBounds k2 true) (n - (p.length + 1))

theorem quiet_mono {S : World → Prop} {Q1 Q2 : Act → Prop} (h : ∀ a, Q1 a → Q2 a) : ∀ {l : List Oper} {a : Act}, wpQuiet P ops S Q1 l a → wpQuiet P ops S Q2 l a
  | [], _, k => h _ k
  | o :: r, a, k => by
    unfold wpQuiet at k ⊢
    split
    · rename_i hw; rw [if_pos hw] at k; obtain ⟨v, h1, h2⟩ := k; exact ⟨v, h1, quiet_mono h h2⟩
    · rename_i hw; rw [if_neg hw] at k; exact quiet_mono h k

theorem any_of_t (hs : Region.noSelect ops = true) (hQ : ∀ c a d v w, Q (.panic c) (a.put d v) w → Q (.panic c) a w) :
    ∀ (t : Ph) (S : World → Prop) (listed : Array Bool) (a : Act) (w : World) (n : Nat), tB md ops t listed n = true → S w → wpT P ops Q t S a w → wpAnyH P md ops Q S n listed a w
  | .fin last, S, listed, a, w, n, hb, hS, h => by
    unfold tB at hb
    simp only [Bool.and_eq_true, List.isEmpty_iff, beq_iff_eq] at hb
    obtain ⟨⟨h1, h2⟩, rfl⟩ := hb
    have e : last.length = last.length + 0 := rfl
    rw [e]
    refine still_block hs hQ hS 0 last listed a h1 ?_
    exact quiet_mono (fun a' hq => wpAnyH_done h2 hq 0) h
  | .one p k t, S, listed, a, w, n, hb, hS, h => by
    unfold tB at hb
    simp only [Bool.and_eq_true, decide_eq_true_iff] at hb
    obtain ⟨⟨⟨⟨h1, h2⟩, h3⟩, h5⟩, h4⟩ := hb
    obtain ⟨o, ho⟩ := Option.isSome_iff_exists.1 h3
    have hrd : Region.ready md ops (marked p listed) = [k] := by
      split at h2
      · rename_i j hj; rw [hj]; rw [beq_iff_eq] at h2; rw [h2]
      · cases h2
    obtain ⟨m, rfl⟩ : ∃ m, n = p.length + (m + 1) := ⟨n - (p.length + 1), by omega⟩
    rw [show p.length + (m + 1) - (p.length + 1) = m by omega] at h4
    refine still_block hs hQ hS _ p listed a h1 ?_
    unfold wpT at h
    refine quiet_mono (fun a' hq => ?_) h
    refine wpAnyH_all hrd (by simp) fun i hi => ?_
    rw [List.mem_singleton] at hi
    subst hi
    refine wpOp_step ho fun K' hK => ?_
    rw [ho] at hq
    refine hq K' fun a2 w2 h6 S' hS' hS2 h7 => hK _ _ ⟨h6, ?_⟩
    exact anyH_mono hS' _ _ _ _ (any_of_t hs hQ t S' _ a2 w2 _ h4 hS2 h7)
  | .two p k t k2 t2, S, listed, a, w, n, hb, hS, h => by
    unfold tB at hb
    simp only [Bool.and_eq_true, decide_eq_true_iff] at hb
    obtain ⟨⟨⟨⟨⟨⟨h1, h2⟩, h3⟩, h32⟩, h5⟩, h4⟩, h42⟩ := hb
    obtain ⟨o, ho⟩ := Option.isSome_iff_exists.1 h3
    obtain ⟨o2, ho2⟩ := Option.isSome_iff_exists.1 h32
    have hrd : Region.ready md ops (marked p listed) = [k, k2] := by
      split at h2
      · rename_i j j2 hj; rw [hj]; simp only [Bool.and_eq_true, beq_iff_eq] at h2; rw [h2.1, h2.2]
      · cases h2
    obtain ⟨m, rfl⟩ : ∃ m, n = p.length + (m + 1) := ⟨n - (p.length + 1), by omega⟩
    rw [show p.length + (m + 1) - (p.length + 1) = m by omega] at h4 h42
    refine still_block hs hQ hS _ p listed a h1 ?_
    unfold wpT at h
    refine quiet_mono (fun a' hq => ?_) h
    refine wpAnyH_all hrd (by simp) fun i hi => ?_
    rw [ho, ho2] at hq
    rcases List.mem_cons.1 hi with rfl | hi
    · refine wpOp_step ho fun K' hK => ?_
      refine hq.1 K' fun a2 w2 h6 S' hS' hS2 h7 => hK _ _ ⟨h6, ?_⟩
      exact anyH_mono hS' _ _ _ _ (any_of_t hs hQ t S' _ a2 w2 _ h4 hS2 h7)
    · rw [List.mem_singleton] at hi
      subst hi
      refine wpOp_step ho2 fun K' hK => ?_
      refine hq.2 K' fun a2 w2 h6 S' hS' hS2 h7 => hK _ _ ⟨h6, ?_⟩
      exact anyH_mono hS' _ _ _ _ (any_of_t hs hQ t2 S' _ a2 w2 _ h42 hS2 h7)

/-- A region that draws its order, by a tree of phases. -/
theorem region_tree {id : Nat} {a : Act} {w : World} {l : List Oper} (S : World → Prop) (t : Ph) (hm : P.follows .mixedOrders = true)
    (hB : (Region.noSelect l.toArray && tB .any l.toArray t (Array.replicate l.toArray.size false) l.toArray.size) = true)
    (hQ : ∀ c a d v w, Q (.panic c) (a.put d v) w → Q (.panic c) a w) (hS : S w.drew)
    (h : wpT P l.toArray Q t S a w.drew) : (Code.region id l.toArray true).wp P Q a w := by
  simp only [Bool.and_eq_true] at hB
  refine wp_region_held (S := S) hm ?_
  exact any_of_t hB.1 hQ t S _ a w.drew _ hB.2 hS h
end

/-- The worlds that go on from one and leave all but one block as it was. -/
def OnR (R : Nat) (w : World) : Type := {x : World // w.grownBy x (some R)}
instance (R : Nat) (w : World) : Nonempty (OnR R w) := ⟨⟨w, World.grownBy.refl _ _⟩⟩
/-- The worlds whose block is as one's. -/
def OnB (g : Nat) (w : World) : Type := {x : World // x.heap[g]? = w.heap[g]?}
instance (g : Nat) (w : World) : Nonempty (OnB g w) := ⟨⟨w, rfl⟩⟩
end Go.Calm

namespace Go.Proofs.YtkfelkpilaipnaaDoor
set_option maxRecDepth 100000
open Go.RowKit

/-- A rule's cells, where its right side is a value; a declaration's. -/
def precells (L : List Int) : Option Tok → List Value
  | none => [.string ⟨#[]⟩, .complex .f64 0 0]
  | some t => rcells L t
def pcells (L : List Int) (p : Y.Prd) (A : Option Addr) (c : Nat) : List Value := rcells L p.l ++ [.slice A p.r.length c] ++ precells L p.p
def dcells (d : Y.Dcl) (A : Option Addr) (c : Nat) : List Value := [.int .i64 d.k, .slice A d.ns.length c]
/-- A rule, or a declaration, and where its references lie. -/
abbrev PA := Y.Prd × Option Addr × Nat
abbrev DA := Y.Dcl × Option Addr × Nat
def pall (L : List Int) (qs : List PA) : List Value := qs.flatMap fun q => pcells L q.1 q.2.1 q.2.2
def dall (qs : List DA) : List Value := qs.flatMap fun q => dcells q.1 q.2.1 q.2.2
theorem pcells_len (L : List Int) (p : Y.Prd) (A : Option Addr) (c : Nat) : (pcells L p A c).length = 5 := by
  unfold pcells precells
  split <;> rfl
theorem pall_at (L : List Int) (qs : List PA) (i j : Nat) (hi : i < qs.length) (hj : j < 5) : (pall L qs)[i * 5 + j]? = (pcells L qs[i].1 qs[i].2.1 qs[i].2.2)[j]? := by
  unfold pall
  induction qs generalizing i with
  | nil => simp at hi
  | cons x r ih =>
    rw [List.flatMap_cons]
    have hl := pcells_len L x.1 x.2.1 x.2.2
    cases i with
    | zero => rw [List.getElem?_append_left (by omega)]; simp
    | succ i =>
      rw [List.getElem?_append_right (by omega), hl, show (i + 1) * 5 + j - 5 = i * 5 + j by omega]
      simpa using ih i (by simpa using hi)
theorem dall_at (qs : List DA) (i j : Nat) (hi : i < qs.length) (hj : j < 2) : (dall qs)[i * 2 + j]? = (dcells qs[i].1 qs[i].2.1 qs[i].2.2)[j]? := by
  unfold dall
  induction qs generalizing i with
  | nil => simp at hi
  | cons x r ih =>
    rw [List.flatMap_cons]
    have hl : (dcells x.1 x.2.1 x.2.2).length = 2 := rfl
    cases i with
    | zero => rw [List.getElem?_append_left (by omega)]; simp
    | succ i =>
      rw [List.getElem?_append_right (by omega), hl, show (i + 1) * 2 + j - 2 = i * 2 + j by omega]
      simpa using ih i (by simpa using hi)

/-- Slices of the call's own with these rules, these declarations. -/
def OwnP (L : List Int) (w : World) (base : Nat) (v : Value) (ps : List Y.Prd) : Prop :=
  ∃ qs : List PA, qs.map (·.1) = ps ∧ w.ownsRow base 86 5 v ps.length (pall L qs) ∧ ∀ q ∈ qs, RdR L w base q.2.1 q.1.r
def OwnD (L : List Int) (w : World) (base : Nat) (v : Value) (ds : List Y.Dcl) : Prop :=
  ∃ qs : List DA, qs.map (·.1) = ds ∧ w.ownsRow base 116 2 v ds.length (dall qs) ∧ ∀ q ∈ qs, RdR L w base q.2.1 q.1.ns
theorem OwnP.nil (L : List Int) (w : World) (base : Nat) : OwnP L w base (.slice none 0 0) [] := ⟨[], rfl, World.ownsRow_nil w base _ _, fun q h => by cases h⟩
theorem OwnD.nil (L : List Int) (w : World) (base : Nat) : OwnD L w base (.slice none 0 0) [] := ⟨[], rfl, World.ownsRow_nil w base _ _, fun q h => by cases h⟩
/-- What is written lies neither in references nor in a slice. -/
def Away (w : World) (v : Value) (row : Option Nat) : Prop := Other w row ∧ (v.ownBlock = none ∨ v.ownBlock ≠ row)
theorem Away.none (w : World) (v : Value) : Away w v .none := ⟨Other.none w, by rcases v.ownBlock with _ | k; exact .inl rfl; exact .inr (by simp)⟩
theorem OwnP.grown {L : List Int} {w w' : World} {base : Nat} {v : Value} {ps : List Y.Prd} {row : Option Nat} (h : OwnP L w base v ps) (hg : w.grownBy w' row) (ha : Away w v row) : OwnP L w' base v ps := by
  obtain ⟨qs, h1, h2, h3⟩ := h
  exact ⟨qs, h1, h2.kept hg ha.2, fun q hq => (h3 q hq).grown hg ha.1⟩
theorem OwnD.grown {L : List Int} {w w' : World} {base : Nat} {v : Value} {ds : List Y.Dcl} {row : Option Nat} (h : OwnD L w base v ds) (hg : w.grownBy w' row) (ha : Away w v row) : OwnD L w' base v ds := by
  obtain ⟨qs, h1, h2, h3⟩ := h
  exact ⟨qs, h1, h2.kept hg ha.2, fun q hq => (h3 q hq).grown hg ha.1⟩
theorem own_other {w : World} {base : Nat} {v : Value} {n : Nat} {size : Nat} {e : TypeId} {xs : List Value} (h : w.ownsRow base e size v n xs) (he : e ≠ 78) : Other w v.ownBlock := by
  intro k hk cur hc
  rcases h.2 with ⟨rfl, _⟩ | ⟨g, cap, cur', rfl, _, hg, _⟩
  · cases hk
  · injection hk with hk
    subst hk
    have hg' : w.heap[g]? = some (.cells cur 78 (0, 0)) := hc
    rw [hg] at hg'
    injection hg' with e1
    injection e1 with _ e2
    exact he e2
theorem OwnP.form {L : List Int} {w : World} {base : Nat} {v : Value} {ps : List Y.Prd} (h : OwnP L w base v ps) : ∃ A c, v = .slice A ps.length c ∧ ps.length ≤ c ∧ c ≤ maxLen := by
  obtain ⟨qs, h1, h2, h3⟩ := h
  rcases h2.2 with ⟨rfl, h0⟩ | ⟨g, cap, cur, rfl, hb, hg, hn, hm, hs, ht⟩
  · exact ⟨none, 0, by rw [h0], by omega, by unfold maxLen; omega⟩
  · exact ⟨_, cap, rfl, hn, hm⟩
theorem OwnD.form {L : List Int} {w : World} {base : Nat} {v : Value} {ds : List Y.Dcl} (h : OwnD L w base v ds) : ∃ A c, v = .slice A ds.length c ∧ ds.length ≤ c ∧ c ≤ maxLen := by
  obtain ⟨qs, h1, h2, h3⟩ := h
  rcases h2.2 with ⟨rfl, h0⟩ | ⟨g, cap, cur, rfl, hb, hg, hn, hm, hs, ht⟩
  · exact ⟨none, 0, by rw [h0], by omega, by unfold maxLen; omega⟩
  · exact ⟨_, cap, rfl, hn, hm⟩
theorem infoP : (Tryd.prog.info? 86).map (fun i => (i.zero, i.size, i.bytes)) = some (some (.agg #[.string ⟨#[]⟩, .complex .f64 0 0, .slice none 0 0, .string ⟨#[]⟩, .complex .f64 0 0]), 5, 88) := by kernel_rfl
theorem infoD : (Tryd.prog.info? 116).map (fun i => (i.zero, i.size, i.bytes)) = some (some (.agg #[.int .i64 0, .slice none 0 0]), 2, 32) := by kernel_rfl
theorem pcells_one (L : List Int) (p : Y.Prd) (A : Option Addr) (c : Nat) : ∀ u ∈ pcells L p A c, u.oneCell' = true := by
  intro u hu
  unfold pcells precells at hu
  split at hu <;> simp [rcells] at hu <;> rcases hu with rfl | rfl | rfl | rfl | rfl <;> rfl

/-- append of one rule, which lies in a block of its own, to a slice of the call's own. -/
theorem apP_arm {w : World} {ops : Array Oper} {rest : List Oper} {o : Oper} {a : Act} {Q : Exit → Act → World → Prop}
    (hgd : o.guard = none) (s x : Operand) (t : TypeId) (ho : o.op = .call { callee := .builtin .append, args := #[s, x], argTypes := #[t, t] }) (ht : Tryd.prog.underlying t = some (.slice 86))
    (L : List Int) (base : Nat) (v : Value) (ps : List Y.Prd) (hs : a.eval s = v) (hown : OwnP L w base v ps) (g c : Nat) (p : Y.Prd) (A : Option Addr) (pc : Nat) (hx : a.eval x = .slice (some ⟨g, 0, none⟩) 1 c) (hz : ∀ j u, (pcells L p A pc)[j]? = some u → w.cell? ⟨g, j, none⟩ = some u) (hr : RdR L w base A p.r)
    (hlen : ps.length ≤ 1000000) (hbase : base ≤ w.heap.size)
    (hK : ∀ v' w', OwnP L w' base v' (ps ++ [p]) → w.grownBy w' v.ownBlock → wpList Tryd.prog ops Q rest (a.put o.dst v') w') :
    wpList Tryd.prog ops Q (o :: rest) a w := by
  obtain ⟨i, hi, hz0, hz1, hz2⟩ := info_parts infoP
  obtain ⟨qs, hq1, hq2, hq3⟩ := hown
  have hlq : qs.length = ps.length := by rw [← hq1, List.length_map]
  refine wpList_append_own w hgd s x t ho base 86 i _ 5 88 ht hi hz0 hz1 hz2 rfl (by decide) v ps.length (pall L qs) hs hq2 ⟨g, 0, none⟩ 1 c (pcells L p A pc) hx (by rw [pcells_len]) ?_ (pcells_one L p A pc) (by unfold maxLen; omega) (by omega) hbase fun v' w' h1 h2 _ => hK v' w' ?_ h2
  · intro j u hj
    rw [addZ, Nat.zero_add]
    exact hz j u hj
  · have ho := own_other hq2 (by decide)
    refine ⟨qs ++ [(p, A, pc)], by rw [List.map_append, hq1]; rfl, ?_, fun q hq => ?_⟩
    · rw [List.length_append]
      unfold pall
      rw [List.flatMap_append, List.flatMap_singleton]
      exact h1
    · rcases List.mem_append.1 hq with h | h
      · exact (hq3 q h).grown h2 ho
      · rw [List.mem_singleton] at h
        subst h
        exact hr.grown h2 ho
theorem drew_grown (w : World) (row : Option Nat) : w.grownBy w.drew row := ⟨rfl, rfl, rfl, Nat.le_refl _, fun _ _ _ => rfl⟩
theorem block_at {w w2 : World} {g R : Nat} {o : Obj} (h : w.grownBy w2 (some R)) (ho : w.heap[g]? = some o) (hne : g ≠ R) : w2.heap[g]? = some o := by
  rw [h.block g (Array.getElem?_eq_some_iff.1 ho).1 (fun e => by injection e with e; omega)]; exact ho
theorem other_of {w : World} {g : Nat} {cs : Array Value} {t : TypeId} (h : w.heap[g]? = some (.cells cs t (0, 0))) (ht : t ≠ 78) : Other w (some g) := by
  intro k hk cur hc
  injection hk with hk
  subst hk
  rw [h] at hc
  injection hc with hc
  injection hc with _ hc
  exact ht hc
theorem precells_two (L : List Int) (p : Option Tok) : ∃ x3 x4, precells L p = [x3, x4] := by cases p <;> exact ⟨_, _, rfl⟩
theorem ref_block {w w' : World} {g : Nat} {cs : Array Value} {row : Option Nat} (h : w.heap[g]? = some (.cells cs 78 (0, 0))) (hg : w.grownBy w' row) (ho : Other w row) : w'.heap[g]? = some (.cells cs 78 (0, 0)) :=
  (hg.block g (Array.getElem?_eq_some_iff.1 h).1 (fun e => ho g e.symm cs h)).trans h
theorem OwnP.own {L : List Int} {w : World} {base : Nat} {v : Value} {ps : List Y.Prd} (h : OwnP L w base v ps) : ∃ xs, w.ownsRow base 86 5 v ps.length xs := by
  obtain ⟨qs, _, h2, _⟩ := h; exact ⟨_, h2⟩
theorem OwnD.own {L : List Int} {w : World} {base : Nat} {v : Value} {ds : List Y.Dcl} (h : OwnD L w base v ds) : ∃ xs, w.ownsRow base 116 2 v ds.length xs := by
  obtain ⟨qs, _, h2, _⟩ := h; exact ⟨_, h2⟩
theorem OwnP.other {L : List Int} {w : World} {base : Nat} {v : Value} {ps : List Y.Prd} (h : OwnP L w base v ps) : Other w v.ownBlock := by
  obtain ⟨xs, h2⟩ := h.own; exact own_other h2 (by decide)
theorem OwnD.other {L : List Int} {w : World} {base : Nat} {v : Value} {ds : List Y.Dcl} (h : OwnD L w base v ds) : Other w v.ownBlock := by
  obtain ⟨xs, h2⟩ := h.own; exact own_other h2 (by decide)
/-- A block of five, of two cells that is stored whole. -/
theorem store5 {w : World} {g : Nat} {t : TypeId} {a0 a1 a2 a3 a4 : Value} (h : w.heap[g]? = some (.cells #[a0, a1, a2, a3, a4] t (0, 0))) (b0 b1 b2 b3 b4 : Value) :
    (((((w.setCell ⟨g, 0, none⟩ b0).setCell ⟨g, 1, none⟩ b1).setCell ⟨g, 2, none⟩ b2).setCell ⟨g, 3, none⟩ b3).setCell ⟨g, 4, none⟩ b4).heap[g]? = some (.cells #[b0, b1, b2, b3, b4] t (0, 0)) := by
  have h0 := heap_setCell_same w g 0 _ _ b0 h
  have h1 := heap_setCell_same _ g 1 _ _ b1 h0
  have h2 := heap_setCell_same _ g 2 _ _ b2 h1
  have h3 := heap_setCell_same _ g 3 _ _ b3 h2
  have h4 := heap_setCell_same _ g 4 _ _ b4 h3
  exact h4
theorem size_set (w : World) (p : Addr) (u : Value) : (w.setCell p u).heap.size = w.heap.size := by simp [World.setCell]
end Go.Proofs.YtkfelkpilaipnaaDoor

namespace Go.Proofs.YtkfelkpilaipnaaDoor
set_option maxRecDepth 100000
open Go.RowKit

theorem own_lit (L : List Int) (w : World) (base : Nat) (t : Tok) (hb : base ≤ w.heap.size) : OwnR L (w.alloc (.cells #[.string (K.str t.t), .complex .f64 (Fl.fl (Pl.pos (L.take t.o)).1) (Fl.fl (Pl.pos (L.take t.o)).2)] 78)) base (.slice (some ⟨w.heap.size, 0, none⟩) 1 1) [t] :=
  World.ownsRow_lit w #[.string (K.str t.t), .complex .f64 (Fl.fl (Pl.pos (L.take t.o)).1) (Fl.fl (Pl.pos (L.take t.o)).2)] 1 hb (by unfold maxLen; omega) rfl

/-- append of a list of references to a slice of the call's own, met as one operation. -/
theorem apnR_wp {w : World} {o : Oper} {a : Act} {K : Act → World → Prop} {Q : Exit → Act → World → Prop}
    (s x : Operand) (t : TypeId) (ho : o.op = .call { callee := .builtin .append, args := #[s, x], argTypes := #[t, t] }) (ht : Tryd.prog.underlying t = some (.slice 78))
    (L : List Int) (base B : Nat) (v : Value) (xs : List Tok) (hs : a.eval s = v) (hown : OwnR L w base v xs) (A : Option Addr) (m c : Nat) (ys : List Tok) (hx : a.eval x = .slice A m c) (hm : m = ys.length) (hr : RdR L w B A ys)
    (hlen : xs.length + ys.length ≤ 1000000) (hbase : base ≤ w.heap.size)
    (hK : ∀ v' w', OwnR L w' base v' (xs ++ ys) → w.grownBy w' v.ownBlock → K (a.put o.dst v') w') :
    o.wp Tryd.prog a w K Q := by
  obtain ⟨i, hi, hz0, hz1, hz2⟩ := info_parts infoR
  subst hm
  rcases A with _ | ad
  · have hz : ys = [] := by
      rcases Nat.eq_zero_or_pos ys.length with h0 | h0
      · exact List.eq_nil_of_length_eq_zero h0
      · obtain ⟨g, o', h, _⟩ := hr (by omega); cases h
    subst hz
    have hrun := run_append_nil (P := Tryd.prog) w base t o.type 78 i 2 ht hi v xs.length _ hown c
    unfold Oper.wp
    simp [execOp, ho, resolve, invoke, builtin, hs, hx, hrun, Result.andThen]
    exact hK v w (by simpa using hown) (World.grownBy.refl _ _)
  · refine wp_append_own w s x t ho base 78 i _ 2 32 ht hi hz0 hz1 hz2 rfl (by decide) v xs.length (xs.flatMap (rcells L)) hs hown ad ys.length c (ys.flatMap (rcells L)) hx (rcells_len L ys) ?_ ?_ (by unfold maxLen; omega) (by omega) hbase fun v' w' h1 h2 _ => hK v' w' ?_ h2
    · intro j u hj
      have hjl : j < (ys.flatMap (rcells L)).length := (List.getElem?_eq_some_iff.1 hj).1
      rw [rcells_len] at hjl
      obtain ⟨g, cur, h, _, hh, hc⟩ := hr (by omega)
      replace h := Option.some.inj h
      subst h
      rw [addZ, Nat.zero_add, cell_of_row w g _ _ _ _ hh]
      exact hc j u hj
    · intro u hu
      obtain ⟨z, _, hz⟩ := List.mem_flatMap.1 hu
      simp [rcells] at hz; rcases hz with rfl | rfl <;> rfl
    · unfold OwnR
      rw [List.length_append, List.flatMap_append]; exact h1
end Go.Proofs.YtkfelkpilaipnaaDoor

namespace Go.Proofs.YtkfelkpilaipnaaDoor
set_option maxRecDepth 100000
open Go.RowKit

/-- A text that may be: bytes, and not more than there can be. -/
def K.Tx (l : List Int) : Prop := K.Bytes l ∧ l.length ≤ 9223372036854775807
namespace Gm
/-- A terminal. -/
structure Tm where
  nm : List Int
  lv : Int
  wy : Int
/-- A rule. -/
structure Rl where
  l : Int
  r : List Int
  p : Int
/-- A grammar. -/
structure Gr where
  ts : List Tm
  ns : List (List Int)
  rs : List Rl
  st : Int
/-- A number of 64 bits. -/
def In (z : Int) : Prop := -9223372036854775808 ≤ z ∧ z ≤ 9223372036854775807
/-- Each number of a grammar is one of 64 bits, each name a text. -/
structure Fit (G : Gr) : Prop where
  t : ∀ x ∈ G.ts, K.Tx x.nm ∧ In x.lv ∧ In x.wy
  n : ∀ x ∈ G.ns, K.Tx x
  r : ∀ x ∈ G.rs, In x.l ∧ In x.p ∧ ∀ z ∈ x.r, In z
  s : In G.st
end Gm

/-- A slice value's address A, with these terminals, all of it below block B. -/
def RdTm (w : World) (B : Nat) (A : Option Addr) (ts : List Gm.Tm) : Prop :=
  ts.length ≠ 0 → ∃ g o, A = some ⟨g, o, none⟩ ∧ g < B ∧ ∀ i (h : i < ts.length), w.cell? ⟨g, o + i * 3, none⟩ = some (.string (K.str ts[i].nm)) ∧ w.cell? ⟨g, o + i * 3 + 1, none⟩ = some (.int .i64 ts[i].lv) ∧ w.cell? ⟨g, o + i * 3 + 2, none⟩ = some (.int .i64 ts[i].wy)
/-- A slice value's address A, with these names, all of it below block B. -/
def RdN (w : World) (B : Nat) (A : Option Addr) (ns : List (List Int)) : Prop :=
  ns.length ≠ 0 → ∃ g o, A = some ⟨g, o, none⟩ ∧ g < B ∧ ∀ i (h : i < ns.length), w.cell? ⟨g, o + i, none⟩ = some (.string (K.str ns[i]))
/-- A slice value's address A, with these rules, all of it below block B. -/
def RdRl (w : World) (B : Nat) (A : Option Addr) (rs : List Gm.Rl) : Prop :=
  rs.length ≠ 0 → ∃ g o, A = some ⟨g, o, none⟩ ∧ g < B ∧ ∀ i (h : i < rs.length), w.cell? ⟨g, o + i * 3, none⟩ = some (.int .i64 rs[i].l) ∧ (∃ A' c', w.cell? ⟨g, o + i * 3 + 1, none⟩ = some (.slice A' rs[i].r.length c') ∧ rs[i].r.length ≤ c' ∧ c' ≤ 9223372036854775807 ∧ RdI w B A' rs[i].r) ∧ w.cell? ⟨g, o + i * 3 + 2, none⟩ = some (.int .i64 rs[i].p)
/-- A value that is a grammar, all of it below block B. -/
def RdGr (w : World) (B : Nat) (v : Value) (G : Gm.Gr) : Prop :=
  ∃ AT cT AN cN AR cR, v = .agg #[.slice AT G.ts.length cT, .slice AN G.ns.length cN, .slice AR G.rs.length cR, .int .i64 G.st] ∧ (G.ts.length ≤ cT ∧ cT ≤ 9223372036854775807) ∧ (G.ns.length ≤ cN ∧ cN ≤ 9223372036854775807) ∧ (G.rs.length ≤ cR ∧ cR ≤ 9223372036854775807) ∧ RdTm w B AT G.ts ∧ RdN w B AN G.ns ∧ RdRl w B AR G.rs

theorem RdTm.keep {w w' : World} {B : Nat} {A : Option Addr} {ts : List Gm.Tm} (h : RdTm w B A ts) (hk : ∀ g o, g < B → w'.cell? ⟨g, o, none⟩ = w.cell? ⟨g, o, none⟩) : RdTm w' B A ts := fun hn => by
  obtain ⟨g, o, e, hg, hc⟩ := h hn
  exact ⟨g, o, e, hg, fun i hi => ⟨(hk _ _ hg).trans (hc i hi).1, (hk _ _ hg).trans (hc i hi).2.1, (hk _ _ hg).trans (hc i hi).2.2⟩⟩
theorem RdN.keep {w w' : World} {B : Nat} {A : Option Addr} {ns : List (List Int)} (h : RdN w B A ns) (hk : ∀ g o, g < B → w'.cell? ⟨g, o, none⟩ = w.cell? ⟨g, o, none⟩) : RdN w' B A ns := fun hn => by
  obtain ⟨g, o, e, hg, hc⟩ := h hn
  exact ⟨g, o, e, hg, fun i hi => (hk _ _ hg).trans (hc i hi)⟩
theorem RdRl.keep {w w' : World} {B : Nat} {A : Option Addr} {rs : List Gm.Rl} (h : RdRl w B A rs) (hk : ∀ g o, g < B → w'.cell? ⟨g, o, none⟩ = w.cell? ⟨g, o, none⟩) : RdRl w' B A rs := fun hn => by
  obtain ⟨g, o, e, hg, hc⟩ := h hn
  refine ⟨g, o, e, hg, fun i hi => ?_⟩
  obtain ⟨h1, ⟨A', c', h2, h3, h4, h5⟩, h6⟩ := hc i hi
  exact ⟨(hk _ _ hg).trans h1, ⟨A', c', (hk _ _ hg).trans h2, h3, h4, h5.keep hk⟩, (hk _ _ hg).trans h6⟩
theorem RdGr.keep {w w' : World} {B : Nat} {v : Value} {G : Gm.Gr} (h : RdGr w B v G) (hk : ∀ g o, g < B → w'.cell? ⟨g, o, none⟩ = w.cell? ⟨g, o, none⟩) : RdGr w' B v G := by
  obtain ⟨AT, cT, AN, cN, AR, cR, e, h1, h2, h3, h4, h5, h6⟩ := h
  exact ⟨AT, cT, AN, cN, AR, cR, e, h1, h2, h3, h4.keep hk, h5.keep hk, h6.keep hk⟩
theorem RdGr.below {w w' : World} {B B' : Nat} {v : Value} {G : Gm.Gr} (h : RdGr w B v G) (hb : Below B' w w') (hB : B ≤ B') : RdGr w' B v G :=
  h.keep fun g o hg => hb.cell (p := ⟨g, o, none⟩) (Nat.lt_of_lt_of_le hg hB)
theorem RdTm.more {w : World} {B B' : Nat} {A : Option Addr} {ts : List Gm.Tm} (h : RdTm w B A ts) (hB : B ≤ B') : RdTm w B' A ts := fun hn => by
  obtain ⟨g, o, e, hg, hc⟩ := h hn
  exact ⟨g, o, e, by omega, hc⟩
theorem RdN.more {w : World} {B B' : Nat} {A : Option Addr} {ss : List (List Int)} (h : RdN w B A ss) (hB : B ≤ B') : RdN w B' A ss := fun hn => by
  obtain ⟨g, o, e, hg, hc⟩ := h hn
  exact ⟨g, o, e, by omega, hc⟩
theorem RdRl.more {w : World} {B B' : Nat} {A : Option Addr} {rs : List Gm.Rl} (h : RdRl w B A rs) (hB : B ≤ B') : RdRl w B' A rs := fun hn => by
  obtain ⟨g, o, e, hg, hc⟩ := h hn
  refine ⟨g, o, e, by omega, fun i hi => ?_⟩
  obtain ⟨h1, ⟨A', c', h2, h3, h4, h5⟩, h6⟩ := hc i hi
  exact ⟨h1, ⟨A', c', h2, h3, h4, h5.more hB⟩, h6⟩
theorem RdGr.more {w : World} {B B' : Nat} {v : Value} {G : Gm.Gr} (h : RdGr w B v G) (hB : B ≤ B') : RdGr w B' v G := by
  obtain ⟨AT, cT, AN, cN, AR, cR, e, h1, h2, h3, h4, h5, h6⟩ := h
  exact ⟨AT, cT, AN, cN, AR, cR, e, h1, h2, h3, h4.more hB, h5.more hB, h6.more hB⟩
theorem RdGr.up {w w' : World} {v : Value} {G : Gm.Gr} (h : RdGr w w.heap.size v G) (hb : Below w.heap.size w w') : RdGr w' w'.heap.size v G := (h.below hb (Nat.le_refl _)).more hb.size
theorem RdGr.drewN {w : World} {B : Nat} {v : Value} {G : Gm.Gr} (h : RdGr w B v G) (n : Nat) : RdGr (w.drewN n) B v G := h

/-- Each text is one of bytes. -/
theorem K.txt (s : ByteArray) (hs : s.size ≤ maxLen) : ∃ l, K.Tx l ∧ s = K.str l := by
  refine ⟨s.data.toList.map fun b => (b.toNat : Int), ⟨?_, by rw [List.length_map]; unfold maxLen at hs; exact hs⟩, ?_⟩
  · intro z hz
    obtain ⟨b, _, rfl⟩ := List.mem_map.1 hz
    have := b.toNat_lt
    omega
  · unfold K.str K.bytes
    rw [List.map_map]
    have : ((fun z : Int => UInt8.ofNat z.toNat) ∘ fun b : UInt8 => (b.toNat : Int)) = id := by
      funext b; simp
    rw [this]; simp
/-- For each place one: they are a list. -/
theorem list_of {α : Type} (n : Nat) (p : Nat → α → Prop) (h : ∀ i, i < n → ∃ a, p i a) : ∃ l : List α, l.length = n ∧ ∀ i (hi : i < l.length), p i l[i] := by
  induction n with
  | zero => exact ⟨[], rfl, fun i hi => by simp at hi⟩
  | succ n ih =>
    obtain ⟨l, hl, hp⟩ := ih (fun i hi => h i (by omega))
    obtain ⟨a, ha⟩ := h n (by omega)
    refine ⟨l ++ [a], by simp [hl], fun i hi => ?_⟩
    rcases Nat.lt_or_ge i l.length with h1 | h1
    · rw [List.getElem_append_left h1]; exact hp i h1
    · have : i = l.length := by simp at hi; omega
      subst this
      simp only [List.getElem_concat_length]
      rw [hl]
      exact ha
end Go.Proofs.YtkfelkpilaipnaaDoor

namespace Go.Proofs.YtkfelkpilaipnaaDoor
set_option maxRecDepth 100000

namespace Gm
/-- The place of a text among others, from 0 on; -1: it is none of them. -/
def find : List (List Int) → List Int → Int
  | [], _ => -1
  | x :: r, s => if x = s then 0 else if find r s < 0 then -1 else find r s + 1
theorem find_ge (l : List (List Int)) (s : List Int) : -1 ≤ find l s := by
  induction l with
  | nil => unfold find; omega
  | cons x r ih => unfold find; split; omega; split <;> omega
theorem find_lt (l : List (List Int)) (s : List Int) : find l s < l.length := by
  induction l with
  | nil => unfold find; simp
  | cons x r ih => unfold find; simp only [List.length_cons]; split; omega; split <;> omega
theorem find_none {l : List (List Int)} {s : List Int} : find l s < 0 ↔ s ∉ l := by
  induction l with
  | nil => unfold find; simp
  | cons x r ih =>
    unfold find
    by_cases hx : x = s
    · rw [if_pos hx]; simp [hx]
    · rw [if_neg hx]
      by_cases hr : find r s < 0
      · rw [if_pos hr]
        have := ih.1 hr
        simp only [List.mem_cons, not_or]
        exact ⟨fun _ => ⟨fun e => hx e.symm, this⟩, fun _ => by omega⟩
      · rw [if_neg hr]
        have : s ∈ r := Classical.byContradiction fun q => hr (ih.2 q)
        constructor
        · intro h; omega
        · intro h; exact absurd (List.mem_cons_of_mem _ this) h
theorem find_some {l : List (List Int)} {s : List Int} (h : 0 ≤ find l s) : ∃ i : Nat, find l s = (i : Int) ∧ ∃ hi : i < l.length, l[i] = s := by
  induction l with
  | nil => unfold find at h; omega
  | cons x r ih =>
    unfold find at h ⊢
    by_cases hx : x = s
    · rw [if_pos hx]; exact ⟨0, rfl, by simp, hx⟩
    · rw [if_neg hx] at h ⊢
      by_cases hr : find r s < 0
      · rw [if_pos hr] at h; omega
      · rw [if_neg hr]
        obtain ⟨i, h1, h2, h3⟩ := ih (by omega)
        exact ⟨i + 1, by rw [h1]; rfl, by simp; omega, by simpa using h3⟩
/-- The first place where a text stands is the one that is found. -/
theorem find_first {l : List (List Int)} {s : List Int} (i : Nat) (hi : i < l.length) (hs : l[i] = s) (hb : ∀ k (hk : k < i), l[k]'(by omega) ≠ s) : find l s = (i : Int) := by
  induction l generalizing i with
  | nil => simp at hi
  | cons x r ih =>
    unfold find
    cases i with
    | zero => rw [if_pos (by simpa using hs)]; rfl
    | succ i =>
      rw [if_neg (by simpa using hb 0 (by omega))]
      have := ih i (by simpa using hi) (by simpa using hs) (fun k hk => by simpa using hb (k + 1) (by omega))
      rw [this, if_neg (by omega)]
      rfl
theorem find_not {l : List (List Int)} {s : List Int} (hb : ∀ k (hk : k < l.length), l[k] ≠ s) : find l s = -1 := by
  have h1 : find l s < 0 := find_none.2 fun hm => by
    obtain ⟨k, hk, e⟩ := List.getElem_of_mem hm
    exact hb k hk e
  have := find_ge l s
  omega
theorem find_app {l m : List (List Int)} {s : List Int} (h : 0 ≤ find l s) : find (l ++ m) s = find l s := by
  induction l with
  | nil => unfold find at h; omega
  | cons x r ih =>
    rw [List.cons_append, find, find] at *
    by_cases hx : x = s
    · rw [if_pos hx, if_pos hx]
    · rw [if_neg hx] at h ⊢
      rw [if_neg hx]
      by_cases hr : find r s < 0
      · rw [if_pos hr] at h; omega
      · rw [ih (by omega)]
theorem find_snoc {l : List (List Int)} {s t : List Int} (h : find l s < 0) : find (l ++ [t]) s = if t = s then (l.length : Int) else -1 := by
  induction l with
  | nil => simp [find]
  | cons x r ih =>
    rw [List.cons_append, find]
    rw [find] at h
    by_cases hx : x = s
    · rw [if_pos hx] at h; omega
    · rw [if_neg hx] at h ⊢
      by_cases hr : find r s < 0
      · rw [ih hr]
        by_cases ht : t = s
        · simp only [if_pos ht, List.length_cons]; rw [if_neg (by omega)]; omega
        · simp only [if_neg ht]; rfl
      · rw [if_neg hr] at h; omega

def names (ts : List Tm) : List (List Int) := ts.map Tm.nm
def term (G : Gr) (s : List Int) : Int := find (names G.ts) s
def non (G : Gr) (s : List Int) : Int := find G.ns s
/-- Is there a symbol? -/
def has (G : Gr) (z : Int) : Bool := if 0 ≤ z then decide (z < G.ts.length) else decide (-1 - z < G.ns.length)
/-- A symbol's name. -/
def name (G : Gr) (z : Int) : List Int := if has G z then (if 0 ≤ z then (names G.ts).getD z.toNat [] else G.ns.getD (-1 - z).toNat []) else []
def named (s : List Int) : Bool := T.isName s || T.isLit s
/-- Has a level a terminal, and all of it one way to associate? -/
def lev (n : Int) : List Tm → Int → Bool
  | [], way => way != 0
  | t :: r, way => if t.lv ≠ n then lev n r way else if way ≠ 0 ∧ way ≠ t.wy then false else lev n r t.wy
def term1 (ts : List Tm) (i : Nat) (t : Tm) : Bool := named t.nm && (find (names ts) t.nm == (i : Int)) && decide (0 ≤ t.lv) && decide (t.lv ≤ 24) && decide (0 ≤ t.wy) && decide (t.wy ≤ 3) && ((t.lv == 0) == (t.wy == 0)) && decide (∀ n, n < t.lv.toNat → lev ((n + 1 : Nat) : Int) ts 0 = true)
def terms (ts : List Tm) : Bool := decide (ts.length ≤ 24) && decide (∀ i (h : i < ts.length), term1 ts i ts[i] = true)
def non1 (G : Gr) (i : Nat) (s : List Int) : Bool := T.isName s && (non G s == (i : Int)) && decide (term G s < 0)
def nons (G : Gr) : Bool := decide (1 ≤ G.ns.length) && decide (G.ns.length ≤ 16) && decide (∀ i (h : i < G.ns.length), non1 G i G.ns[i] = true)
def rule (G : Gr) (r : Rl) : Bool := decide (r.r.length ≤ 6) && decide (-1 ≤ r.p) && decide (r.p < G.ts.length) && r.r.all fun z => has G z && !(decide (0 ≤ z) && r.p == -1)
/-- May rules be, behind ones whose greatest Left is top? -/
def rules (G : Gr) : List Rl → Int → Bool
  | [], top => top == G.ns.length - 1
  | r :: rs, top => if r.l < 0 ∨ top + 1 < r.l ∨ rule G r = false then false else rules G rs (if top < r.l then r.l else top)
/-- May a grammar be? -/
def right (G : Gr) : Bool := terms G.ts && nons G && decide (1 ≤ G.rs.length) && decide (G.rs.length ≤ 40) && decide (0 ≤ G.st) && decide (G.st < G.ns.length) && rules G G.rs (-1)
/-- More than is looked at? -/
def great (G : Gr) : Bool := decide (40 < G.ts.length) || decide (40 < G.ns.length) || decide (60 < G.rs.length) || G.rs.any fun r => decide (20 < r.r.length)
end Gm
end Go.Proofs.YtkfelkpilaipnaaDoor

namespace Go.Proofs.YtkfelkpilaipnaaDoor
set_option maxRecDepth 100000
open Go.RowKit

theorem non_any (z : Int) (hz : -9223372036854775808 ≤ z) (hz' : z ≤ 9223372036854775807) (w : World) :
    Calls Tryd.prog 69 #[.int .i64 z] w fun e w' => e = .returned (.int .i64 (-1 - z)) ∧ w' = w := by
  have hs : IntKind.i64.wrap (-1 - z) = -1 - z := IntWalk.i64_in _ (by omega)
  clear hz hz'
  go_enter Tryd.func69, Tryd.ntmps69
  go_wp2
  go_ret
  exact ⟨rfl, rfl⟩
theorem isTerm_any (z : Int) (w : World) :
    Calls Tryd.prog 66 #[.int .i64 z] w fun e w' => e = .returned (.bool (decide (0 ≤ z))) ∧ w' = w := by
  go_enter Tryd.func66, Tryd.ntmps66
  go_wp2
  go_ret
  exact ⟨rfl, rfl⟩
theorem has_any (v : Value) (G : Gm.Gr) (B : Nat) (z : Int) (hz : Gm.In z) (w : World) (hg : RdGr w B v G) :
    Calls Tryd.prog 65 #[v, .int .i64 z] w fun e w' => e = .returned (.bool (Gm.has G z)) ∧ Below w.heap.size w w' := by
  obtain ⟨AT, cT, AN, cN, AR, cR, rfl, _⟩ := hg
  have HB := hide (fun o => (Below.refl w.heap.size w).alloc (Nat.le_refl _) o)
  unfold Gm.In at hz
  unfold Gm.has
  by_cases h0 : 0 ≤ z
  · rw [if_pos h0]
    clear hz
    go_enter Tryd.func65, Tryd.ntmps65
    go_wp2
    go_ret
    exact ⟨rfl, HB.out _⟩
  · rw [if_neg h0]
    have HN := hide (fun w => non_any z (by omega) (by omega) w)
    have h0' : decide (0 ≤ z) = false := decide_eq_false h0
    clear hz
    go_enter Tryd.func65, Tryd.ntmps65
    go_wp2_with fail
    go_quiet ((go_at_call 69; exact Calls.quiet_of_same (HN.out _)))
    go_wp2
    go_ret
    exact ⟨rfl, below_drewN (HB.out _) _⟩
/-- The place found among the first k ones. -/
def fnd (l : List (List Int)) (s : List Int) (k : Nat) : Prop := ∀ i (h : i < l.length), i < k → l[i] ≠ s
theorem fnd.zero (l : List (List Int)) (s : List Int) : fnd l s 0 := fun _ _ h => by omega
theorem fnd.next {l : List (List Int)} {s : List Int} {k : Nat} (h : fnd l s k) (hk : k < l.length) (hn : l[k] ≠ s) : fnd l s (k + 1) := fun i hi hik => by
  rcases Nat.lt_or_ge i k with h1 | h1
  · exact h i hi h1
  · obtain rfl : i = k := by omega
    exact hn
theorem fnd.here {l : List (List Int)} {s : List Int} {k : Nat} (h : fnd l s k) (hk : k < l.length) (hn : l[k] = s) : Gm.find l s = (k : Int) := Gm.find_first k hk hn fun i hi => h i (by omega) hi
theorem fnd.none {l : List (List Int)} {s : List Int} {k : Nat} (h : fnd l s k) (hk : l.length ≤ k) : Gm.find l s = -1 := Gm.find_not fun i hi => h i hi (by omega)
theorem K.eqB {l m : List Int} (hl : K.Tx l) (hm : K.Tx m) : ((K.str l).toList == (K.str m).toList) = decide (l = m) := by
  rw [Bool.eq_iff_iff]
  simp only [beq_iff_eq, decide_eq_true_eq]
  constructor
  · intro h
    rw [ByteArray.toList_eq, ByteArray.toList_eq] at h
    exact K.bytes_inj hl.1 hm.1 (by simpa [K.str] using h)
  · rintro rfl; rfl

set_option maxHeartbeats 1000000 in
theorem term_any (v : Value) (G : Gm.Gr) (s : List Int) (B : Nat) (w : World) (hg : RdGr w B v G) (hf : Gm.Fit G) (hs : K.Tx s) (hB : B ≤ w.heap.size) :
    Calls Tryd.prog 58 #[v, .string (K.str s)] w fun e w' => e = .returned (.int .i64 (Gm.term G s)) ∧ Below w.heap.size w w' := by
  obtain ⟨AT, cT, AN, cN, AR, cR, rfl, ⟨hl, hm⟩, _, _, ht, _, _⟩ := hg
  have HB := hide (fun o => (Below.refl w.heap.size w).alloc (Nat.le_refl _) o)
  have HT := hide ht
  have HF := hide hf.t
  have HL : Hid ((Gm.names G.ts).length = G.ts.length) := hide (by simp [Gm.names])
  have hlen : (G.ts.length : Int) ≤ 9223372036854775807 := by omega
  clear ht hf
  go_enter Tryd.func58, Tryd.ntmps58
  go_wp2
  go_loop [5] (fun vi => ∃ (k : Nat), k ≤ G.ts.length ∧ vi = .int .i64 k ∧ fnd (Gm.names G.ts) s k) (fun vi => G.ts.length - (intOf vi).toNat)
  case atStart => exact ⟨0, Nat.zero_le _, rfl, fnd.zero _ _⟩
  case round =>
    obtain ⟨k, hk, rfl, hn⟩ := hrel
    have HN := hide hn
    clear hn
    by_cases hlt : k < G.ts.length
    · obtain ⟨g, o, rfl, hgb, hc⟩ := HT.out (by omega)
      have k0 := (hc k hlt).1
      have hgs : g < w.heap.size := by omega
      have hq := (HF.out _ (List.getElem_mem hlt)).1
      have hnm : (Gm.names G.ts)[k]'(by rw [HL.out]; exact hlt) = G.ts[k].nm := by simp [Gm.names]
      have he := K.eqB hq hs
      have HQ := hide hnm
      clear hc hq hnm
      generalize G.ts[k].nm = x at *
      by_cases hx : x = s
      · have HR := hide (HN.out.here (by rw [HL.out]; exact hlt) (HQ.out.trans hx))
        rw [decide_eq_true hx] at he
        clear hx
        go_wp2
        go_ret
        exact ⟨ret_int HR.out.symm, HB.out _⟩
      · have HR := hide (HN.out.next (by rw [HL.out]; exact hlt) (fun e => hx (HQ.out.symm.trans e)))
        rw [decide_eq_false hx] at he
        clear hx
        go_wp2
        go_round
        case rel => exact ⟨k + 1, by omega, by go_num, HR.out⟩
        case measure => simp [intOf]; omega
    · obtain rfl : k = G.ts.length := by omega
      have HR := hide (HN.out.none (by rw [HL.out]; omega))
      go_wp2
      go_ret
      exact ⟨ret_int HR.out.symm, HB.out _⟩

set_option maxHeartbeats 1000000 in
theorem rnon_any (v : Value) (G : Gm.Gr) (s : List Int) (B : Nat) (w : World) (hg : RdGr w B v G) (hf : Gm.Fit G) (hs : K.Tx s) (hB : B ≤ w.heap.size) :
    Calls Tryd.prog 35 #[v, .string (K.str s)] w fun e w' => e = .returned (.int .i64 (Gm.non G s)) ∧ Below w.heap.size w w' := by
  obtain ⟨AT, cT, AN, cN, AR, cR, rfl, _, ⟨hl, hm⟩, _, _, ht, _⟩ := hg
  have HB := hide (fun o => (Below.refl w.heap.size w).alloc (Nat.le_refl _) o)
  have HT := hide ht
  have HF := hide hf.n
  have hlen : (G.ns.length : Int) ≤ 9223372036854775807 := by omega
  clear ht hf
  go_enter Tryd.func35, Tryd.ntmps35
  go_wp2
  go_loop [5] (fun vi => ∃ (k : Nat), k ≤ G.ns.length ∧ vi = .int .i64 k ∧ fnd G.ns s k) (fun vi => G.ns.length - (intOf vi).toNat)
  case atStart => exact ⟨0, Nat.zero_le _, rfl, fnd.zero _ _⟩
  case round =>
    obtain ⟨k, hk, rfl, hn⟩ := hrel
    have HN := hide hn
    clear hn
    by_cases hlt : k < G.ns.length
    · obtain ⟨g, o, rfl, hgb, hc⟩ := HT.out (by omega)
      have k0 := hc k hlt
      have hgs : g < w.heap.size := by omega
      have he := K.eqB (HF.out _ (List.getElem_mem hlt)) hs
      obtain ⟨x, hq⟩ : ∃ x, x = G.ns[k] := ⟨_, rfl⟩
      rw [← hq] at k0 he
      have HQ := hide hq
      clear hc hq
      by_cases hx : x = s
      · have HR := hide (HN.out.here hlt (HQ.out.symm.trans hx))
        rw [decide_eq_true hx] at he
        clear hx
        go_wp2
        go_ret
        exact ⟨ret_int HR.out.symm, HB.out _⟩
      · have HR := hide (HN.out.next hlt (fun e => hx (HQ.out.trans e)))
        rw [decide_eq_false hx] at he
        clear hx
        go_wp2
        go_round
        case rel => exact ⟨k + 1, by omega, by go_num, HR.out⟩
        case measure => simp [intOf]; omega
    · obtain rfl : k = G.ns.length := by omega
      have HR := hide (HN.out.none (by omega))
      go_wp2
      go_ret
      exact ⟨ret_int HR.out.symm, HB.out _⟩

theorem Gm.has_lt {G : Gm.Gr} {z : Int} (h : Gm.has G z = true) : (0 ≤ z → ∃ k : Nat, z = (k : Int) ∧ k < G.ts.length) ∧ (¬ 0 ≤ z → ∃ k : Nat, -1 - z = (k : Int) ∧ k < G.ns.length) := by
  unfold Gm.has at h
  constructor
  · intro h0
    rw [if_pos h0] at h
    exact ⟨z.toNat, by omega, by have := of_decide_eq_true h; omega⟩
  · intro h0
    rw [if_neg h0] at h
    exact ⟨(-1 - z).toNat, by omega, by have := of_decide_eq_true h; omega⟩

set_option maxHeartbeats 1000000 in
theorem gname_any (v : Value) (G : Gm.Gr) (B : Nat) (z : Int) (hz : Gm.In z) (w : World) (hg : RdGr w B v G) (hB : B ≤ w.heap.size) :
    Calls Tryd.prog 46 #[v, .int .i64 z] w fun e w' => e = .returned (.string (K.str (Gm.name G z))) ∧ Below w.heap.size w w' := by
  have HB := hide (fun o => (Below.refl w.heap.size w).alloc (Nat.le_refl _) o)
  have HH := hide (fun (x : World) (h : Below w.heap.size w x) => has_any v G B z hz x (hg.below h hB))
  have HG := hide hg
  obtain ⟨AT, cT, AN, cN, AR, cR, rfl, ⟨hlT, hmT⟩, ⟨hlN, hmN⟩, _, ht, hn, _⟩ := hg
  have HT := hide ht
  have HN := hide hn
  clear ht hn
  by_cases hh : Gm.has G z = true
  · obtain ⟨hp, hq⟩ := Gm.has_lt hh
    unfold Gm.name
    rw [if_pos hh]
    by_cases h0 : 0 ≤ z
    · obtain ⟨k, rfl, hk⟩ := hp h0
      obtain ⟨g, o, rfl, hgb, hc⟩ := HT.out (by omega)
      have k0 := (hc k hk).1
      have hgs : g < w.heap.size := by omega
      have HE : Hid ((Gm.names G.ts).getD (k : Int).toNat [] = G.ts[k].nm) := hide (by simp [Gm.names, hk])
      rw [if_pos h0, HE.out]
      rw [hh] at HH
      generalize G.ts[k].nm = nm at *
      clear hc hp hq hz hh
      go_enter Tryd.func46, Tryd.ntmps46
      go_wp2_with fail
      refine (HH.out _ (HB.out _)).mono ?_; rintro _ w2 ⟨rfl, hb⟩
      have k1 : w2.cell? ⟨g, o + k * 3, none⟩ = some (.string (K.str nm)) := (((HB.out _).trans (hb.mono (by simp))).cell (p := ⟨g, o + k * 3, none⟩) hgs).trans k0
      have HB2 := hide ((HB.out _).trans (hb.mono (by simp)))
      have hbb := hb.block w.heap.size (by simp)
      rw [heap_alloc_new] at hbb
      have hz2 : w.heap.size < w2.heap.size := (Array.getElem?_eq_some_iff.1 hbb).1
      have c0 := cell_of_row w2 _ 0 _ _ _ hbb
      clear hb hbb
      go_wp2
      go_ret
      exact ⟨rfl, HB2.out⟩
    · obtain ⟨k, hkk, hk⟩ := hq h0
      obtain ⟨g, o, rfl, hgb, hc⟩ := HN.out (by omega)
      have k0 := hc k hk
      have hgs : g < w.heap.size := by omega
      have HE : Hid (G.ns.getD (-1 - z).toNat [] = G.ns[k]) := hide (by rw [hkk]; simp [hk])
      have HX := hide (fun w => non_any z hz.1 hz.2 w)
      rw [if_neg h0, HE.out]
      rw [hh] at HH
      rw [hkk] at HX
      generalize G.ns[k] = nm at *
      have h0' : decide (0 ≤ z) = false := decide_eq_false h0
      clear hc hp hq hz hh hkk
      go_enter Tryd.func46, Tryd.ntmps46
      go_wp2_with fail
      refine (HH.out _ (HB.out _)).mono ?_; rintro _ w2 ⟨rfl, hb⟩
      have k1 : w2.cell? ⟨g, o + k, none⟩ = some (.string (K.str nm)) := (((HB.out _).trans (hb.mono (by simp))).cell (p := ⟨g, o + k, none⟩) hgs).trans k0
      have HB2 := hide ((HB.out _).trans (hb.mono (by simp)))
      have hbb := hb.block w.heap.size (by simp)
      rw [heap_alloc_new] at hbb
      have hz2 : w.heap.size < w2.heap.size := (Array.getElem?_eq_some_iff.1 hbb).1
      have c0 := cell_of_row w2 _ 1 _ _ _ hbb
      clear hb hbb
      go_wp2_with fail
      go_quiet ((go_at_call 69; exact Calls.quiet_of_same (HX.out _)))
      go_wp2
      go_ret
      exact ⟨rfl, below_drewN HB2.out _⟩
  · have hh : Gm.has G z = false := by simpa using hh
    unfold Gm.name
    rw [hh] at HH ⊢
    clear hz hh
    go_enter Tryd.func46, Tryd.ntmps46
    go_wp2_with fail
    refine (HH.out _ (HB.out _)).mono ?_; rintro _ w2 ⟨rfl, hb⟩
    have HB2 := hide ((HB.out _).trans (hb.mono (by simp)))
    clear hb
    go_wp2
    go_ret
    exact ⟨rfl, HB2.out⟩
end Go.Proofs.YtkfelkpilaipnaaDoor

namespace Go.Proofs.YtkfelkpilaipnaaDoor
set_option maxRecDepth 100000
open Go.RowKit

/-- The document's reader, at a place where nothing is wrong yet. -/
def Rd8 (L : List Int) (B R px py : Nat) (w : World) (ts : List Tok) : Prop :=
  ∃ A c, w.heap[R]? = some (.cells #[.slice A ts.length c, .complex .f64 px py, .complex .f64 0 0, .int .i64 0] 110 (0, 0)) ∧ ts.length ≤ c ∧ ts.length ≤ 4000 ∧ RdT L w B A ts ∧ B ≤ R
theorem Rd8.lt {L : List Int} {B R px py : Nat} {w : World} {ts : List Tok} (h : Rd8 L B R px py w ts) : R < w.heap.size := by
  obtain ⟨A, c, hh, _⟩ := h
  exact (Array.getElem?_eq_some_iff.1 hh).1
theorem Rd8.other {L : List Int} {B R px py : Nat} {w : World} {ts : List Tok} (h : Rd8 L B R px py w ts) : Other w (some R) := by
  obtain ⟨A, c, hh, _⟩ := h
  intro k hk cur he
  injection hk with hk
  subst hk
  rw [hh] at he
  injection he with he
  injection he with _ he
  cases he
theorem Rd8.grown {L : List Int} {B R px py : Nat} {w w' : World} {ts : List Tok} {row : Option Nat} (h : Rd8 L B R px py w ts) (hg : w.grownBy w' row) (hr : ∀ k, row = some k → R < k) : Rd8 L B R px py w' ts := by
  have hlt := h.lt
  obtain ⟨A, c, hh, h1, h2, h3, h4⟩ := h
  exact ⟨A, c, (hg.block R hlt (fun e => by have := hr R e.symm; omega)).trans hh, h1, h2, h3.grown hg (fun k e => by have := hr k e; omega) (by omega), h4⟩
theorem Rd8.alloc {L : List Int} {B R px py : Nat} {w : World} {ts : List Tok} (h : Rd8 L B R px py w ts) (o : Obj) : Rd8 L B R px py (w.alloc o) ts :=
  h.grown (row := .none) (only_alloc (World.grownBy.refl _ _) o) (fun _ e => by cases e)
theorem Rd8.own {L : List Int} {B R px py base : Nat} {w w' : World} {ts : List Tok} {e : TypeId} {size n : Nat} {v : Value} {xs : List Value} (h : Rd8 L B R px py w ts) (ho : w.ownsRow base e size v n xs) (hg : w.grownBy w' v.ownBlock) (hb : R < base) : Rd8 L B R px py w' ts :=
  h.grown hg (fun k e => by have := (World.ownsRow.lt ho k e).1; omega)
theorem Rd8.far {L : List Int} {B R px py : Nat} {w : World} {ts : List Tok} (h : Rd8 L B R px py w ts) (g i : Nat) (u : Value) (hg : R < g) : Rd8 L B R px py (w.setCell ⟨g, i, none⟩ u) ts :=
  h.grown (only_set (World.grownBy.refl w (some g)) i u) (fun k e => by injection e with e; omega)
theorem Rd8.cell0 {L : List Int} {B R px py : Nat} {w : World} {ts : List Tok} (h : Rd8 L B R px py w ts) : ∃ A c, w.cell? ⟨R, 0, none⟩ = some (.slice A ts.length c) ∧ w.cell? ⟨R, 3, none⟩ = some (.int .i64 0) ∧ w.frozen? ⟨R, 0, none⟩ = false ∧ ts.length ≤ c ∧ RdT L w B A ts ∧
    ∀ A' c' ts', ts'.length ≤ c' → ts'.length ≤ 4000 → RdT L w B A' ts' → Rd8 L B R px py (w.setCell ⟨R, 0, none⟩ (.slice A' ts'.length c')) ts' := by
  obtain ⟨A, c, hh, h1, h2, h3, h4⟩ := h
  refine ⟨A, c, by rw [cell_of_row w R 0 _ _ _ hh]; rfl, by rw [cell_of_row w R 3 _ _ _ hh]; rfl, frozen_of_row w R 0 _ _ hh, h1, h3, fun A' c' ts' k1 k2 k3 => ⟨A', c', ?_, k1, k2, ?_, h4⟩⟩
  · rw [heap_setCell_same w R 0 _ _ _ hh]; rfl
  · exact k3.keep fun g o hg => World.cell?_of_block (Below.heap_setCell w ⟨R, 0, none⟩ _ g (by simp only; omega))
/-- The next token's kind. -/
def kd : List Tok → Int
  | [] => 0
  | t :: _ => t.k

theorem kind8 (L : List Int) (B R px py : Nat) (ts : List Tok) (w : World) (hr : Rd8 L B R px py w ts) :
    Calls Tryd.prog 54 #[.pointer (some ⟨R, 0, none⟩)] w fun e w' => e = .returned (.int .i64 (kd ts)) ∧ w = w' := by
  obtain ⟨A, c, h0, h3, _, hc, ht, _⟩ := hr.cell0
  rcases ts with _ | ⟨t, r⟩
  · clear hr ht
    go_enter Tryd.func54, Tryd.ntmps54
    go_wp2
    go_ret
    exact ⟨rfl, rfl⟩
  · obtain ⟨g, o, rfl, _, hcl⟩ := ht (by simp)
    have hcell : w.cell? ⟨g, o, none⟩ = some (.int .i64 t.k) := hcl 0 0 _ (by simp) rfl
    have hl : 0 < ((t :: r).length : Int) := by simp
    have hl0 : (((t :: r).length : Int) == 0) = false := by simp; omega
    have HK : Hid (kd (t :: r) = t.k) := hide rfl
    rw [HK.out]
    clear hr ht hcl
    generalize (t :: r).length = n at *
    generalize t.k = z at *
    go_enter Tryd.func54, Tryd.ntmps54
    go_wp2
    go_ret
    exact ⟨rfl, rfl⟩
theorem is8 (L : List Int) (B R px py : Nat) (ts : List Tok) (a b : Int) (w : World) (hr : Rd8 L B R px py w ts) :
    Calls Tryd.prog 82 #[.pointer (some ⟨R, 0, none⟩), .int .i64 a, .int .i64 b] w fun e w' => e = .returned (.bool (Y.is [a, b] ts)) ∧ w = w' := by
  have HK := hide (kind8 L B R px py ts w hr)
  obtain ⟨A, c, h0, h3, _, hc, ht, _⟩ := hr.cell0
  rcases ts with _ | ⟨t, r⟩
  · clear hr ht
    go_enter Tryd.func82, Tryd.ntmps82
    go_wp2
    go_ret
    exact ⟨rfl, rfl⟩
  · have hl : 0 < ((t :: r).length : Int) := by simp
    have HE : Hid (Y.is [a, b] (t :: r) = ((t.k == a) || (t.k == b))) := hide (by show [a, b].contains t.k = _; simp [List.contains, List.elem]; cases (t.k == a) <;> cases (t.k == b) <;> rfl)
    have HK2 : Hid (kd (t :: r) = t.k) := hide rfl
    rw [HE.out]
    rw [HK2.out] at HK
    clear hr ht
    generalize (t :: r).length = n at *
    generalize t.k = z at *
    by_cases ha : z = a
    · have ha' : (z == a) = true := by simpa using ha
      rw [ha', Bool.true_or]
      clear ha
      go_enter Tryd.func82, Tryd.ntmps82
      go_wp2_with fail
      refine HK.out.mono ?_; rintro _ _ ⟨rfl, rfl⟩
      go_wp2
      go_ret
      exact ⟨rfl, rfl⟩
    · have ha' : (z == a) = false := by simpa using ha
      rw [ha', Bool.false_or]
      clear ha
      generalize hb : (z == b) = q at *
      go_enter Tryd.func82, Tryd.ntmps82
      go_wp2_with fail
      refine HK.out.mono ?_; rintro _ _ ⟨rfl, rfl⟩
      go_wp2_with fail
      refine HK.out.mono ?_; rintro _ _ ⟨rfl, rfl⟩
      go_wp2
      go_ret
      exact ⟨rfl, rfl⟩

set_option maxHeartbeats 2000000 in
theorem take8 (L : List Int) (B R px py : Nat) (t : Tok) (r : List Tok) (a b : Int) (w : World) (hr : Rd8 L B R px py w (t :: r)) (hk : Y.is [a, b] (t :: r) = true) :
    Calls Tryd.prog 52 #[.pointer (some ⟨R, 0, none⟩), .int .i64 a, .int .i64 b] w fun e w' => e = .returned (refV L t) ∧ w.grownBy w' (some R) ∧ Rd8 L B R px py w' r := by
  have HR := hide (fun (w1 : World) (h1 : Below w.heap.size w w1) => hr.grown (row := .none) (only_below h1 .none) (fun _ e => by cases e))
  have HB0 := hide (fun o => ((Below.refl w.heap.size w).alloc (Nat.le_refl _) o))
  have hlt := hr.lt
  obtain ⟨A, c, h0, h3, hf, hc, ht, hset⟩ := hr.cell0
  obtain ⟨g, o, hA, hgB, hcl⟩ := ht (by simp)
  have hc0 : w.cell? ⟨g, o, none⟩ = some (.int .i64 t.k) := hcl 0 0 _ (by simp) rfl
  have hc1 : w.cell? ⟨g, o + 1, none⟩ = some (.string (K.str t.t)) := hcl 0 1 _ (by simp) rfl
  have hc2 : w.cell? ⟨g, o + 2, none⟩ = some (.complex .f64 (Fl.fl (Pl.pos (L.take t.o)).1) (Fl.fl (Pl.pos (L.take t.o)).2)) := hcl 0 2 _ (by simp) rfl
  have hglt : g < w.heap.size := by obtain ⟨_, _, _, _, _, _, hBR⟩ := hr; omega
  have HIS := hide (fun (w1 : World) (h1 : Below w.heap.size w w1) => is8 L B R px py (t :: r) a b w1 (HR.out w1 h1))
  rw [hk] at HIS
  have HT := hide (ht.tail hc)
  have HSET := hide hset
  have S1 := fun w => slice_next w A c (t :: r).length (by simp)
  have SC := fun a w m X Y => show (store a (.complex .f64 X Y) m).run Tryd.prog w = stored Tryd.prog w a (.complex .f64 X Y) m from run_store _ w a _ m rfl
  have hl0 : (((t :: r).length : Int) == 0) = false := by simp; omega
  have hl1 : 0 < (t :: r).length := by simp
  have HN : Hid ((t :: r).length = r.length + 1 ∧ r.length + 1 ≤ c ∧ r.length + 1 ≤ 4000) := hide ⟨rfl, hc, by obtain ⟨_, _, _, _, h4, _, _⟩ := hr; simpa using h4⟩
  unfold refV
  clear hr ht hcl hset hk
  subst hA
  generalize (t :: r).length = n at *
  generalize t.k = z at *
  generalize K.str t.t = st at *
  generalize Fl.fl (Pl.pos (L.take t.o)).1 = X at *
  generalize Fl.fl (Pl.pos (L.take t.o)).2 = Y' at *
  go_enter Tryd.func52, Tryd.ntmps52
  go_wp2_with fail
  refine (HIS.out _ (HB0.out _)).mono ?_; rintro _ w2 ⟨rfl, rfl⟩
  go_wp2
  have hk := HSET.out (nextA (some ⟨g, o, none⟩) c) (c - 1) r (by have := HN.out; omega) (by have := HN.out; omega) HT.out
  refine bodyPost_ret (v := .agg #[.string st, .complex .f64 X Y']) (by simp [results, Tryd.results52, go_sem]) rfl ⟨rfl, only_alloc (only_alloc (only_set (World.grownBy.refl _ _) _ _) _) _, ?_⟩
  rw [show n - 1 = r.length by have := HN.out; omega]
  exact (hk.alloc _).alloc _

/-- What refs answers. -/
def Refs8 (L : List Int) (B R px py : Nat) (ts : List Tok) (w : World) (e : Ending) (w' : World) : Prop :=
  w.grownBy w' (some R) ∧ ∃ v, e = .returned v ∧ OwnR L w' w.heap.size v (ts.takeWhile Y.isRef) ∧ Rd8 L B R px py w' (ts.dropWhile Y.isRef)

set_option maxHeartbeats 2000000 in
theorem refs8 (L : List Int) (B R px py : Nat) (ts : List Tok) (w : World) (hr : Rd8 L B R px py w ts) :
    Calls Tryd.prog 81 #[.pointer (some ⟨R, 0, none⟩)] w (Refs8 L B R px py ts w) := by
  have HR := hide hr
  have hRlt := hr.lt
  have hts : ts.length ≤ 4000 := by obtain ⟨_, _, _, _, h, _⟩ := hr; exact h
  clear hr
  go_enter Tryd.func81, Tryd.ntmps81
  go_wp2
  go_loopw [3] (fun v wr => ∃ (acc rest : List Tok), OwnR L wr w.heap.size v acc ∧ Rd8 L B R px py wr rest ∧ w.grownBy wr (some R) ∧ acc.length + rest.length = ts.length ∧ acc ++ rest.takeWhile Y.isRef = ts.takeWhile Y.isRef ∧ rest.dropWhile Y.isRef = ts.dropWhile Y.isRef) (fun v _ => 4001 - slLen v)
  case atStart => exact ⟨[], ts, OwnR.nil _ _ _, HR.out, World.grownBy.refl _ _, by simp, rfl, rfl⟩
  case round =>
    clear HR
    obtain ⟨acc, rest, ho, hr, hg, hlen, htk, hdp⟩ := hrel
    have HO := hide ho
    have HR := hide hr
    have HG := hide hg
    have HL := hide hlen
    have HTK := hide htk
    have HDP := hide hdp
    obtain ⟨A, c, rfl, hc1, hc2⟩ := ho.rd
    have HIS := hide (is8 L B R px py rest 1 2 wr hr)
    clear ho hr hg hlen htk hdp hc1 hc2
    rcases hb : Y.is [1, 2] rest with _ | _
    · rw [hb] at HIS
      have HB := hide hb
      clear hb
      go_wp2_with fail
      refine HIS.out.mono ?_; rintro _ w2 ⟨rfl, rfl⟩
      go_wp2
      go_ret
      obtain ⟨e1, e2⟩ := Y.refs_end HB.out
      rw [e1, List.append_nil] at HTK
      rw [e2] at HDP
      refine ⟨HG.out, _, rfl, ?_, ?_⟩
      · rw [← HTK.out]; exact HO.out
      · rw [← HDP.out]; exact HR.out
    · rw [hb] at HIS
      have HB := hide hb
      obtain ⟨t, r, rfl, htake, hk⟩ := Y.is_true hb
      have HRF := hide (take8 L B R px py t r 1 2 wr HR.out hb)
      have HK : Hid (Y.isRef t = true) := hide hk
      clear hb htake hk
      unfold refV at HRF
      go_wp2_with fail
      refine HIS.out.mono ?_; rintro _ w2 ⟨rfl, rfl⟩
      go_wp2_with fail
      refine HRF.out.mono ?_; rintro _ w3 ⟨rfl, hg3, hrd⟩
      have HG3 := hide hg3
      have HRD := hide hrd
      have HO3 := hide (HO.out.grown hg3 HR.out.other)
      clear hg3 hrd
      have HCE := hide (ref_cells L w3 t)
      have HS0 : Hid (w.heap.size ≤ w3.heap.size) := hide (by have h1 := HG.out.size; have h3 := HG3.out.size; omega)
      have HAC : Hid (acc.length ≤ 4000) := hide (by have := HL.out; simp at this; omega)
      go_wp2_with (at_builtin; refine apR_arm rfl (.tmp 6) (.tmp 9) _ rfl Tryd.underlying84 L w.heap.size _ acc rfl (HO3.out.alloc _) w3.heap.size 1 t rfl HCE.out (by have := HAC.out; omega) (by have := HS0.out; simp; omega) ?_; intro v4 w4 ho4 hg4)
      have HG4 := hide (grown_own (only_alloc (HG.out.trans HG3.out) _) (HO3.out.alloc _) hg4)
      have HRD4 := hide ((HRD.out.alloc _).own (HO3.out.alloc _) hg4 hRlt)
      have HO4 := hide ho4
      clear ho4 hg4
      go_roundw
      case rel =>
        refine ⟨acc ++ [t], r, HO4.out, HRD4.out, HG4.out, ?_, ?_, ?_⟩
        · have := HL.out; simp at this ⊢; omega
        · rw [← HTK.out, List.takeWhile_cons, HK.out]; simp
        · rw [← HDP.out, List.dropWhile_cons, HK.out]; rfl
      case measure =>
        obtain ⟨A4, c4, rfl, _, _⟩ := HO4.out.rd
        have := HAC.out
        simp [slLen]; omega
end Go.Proofs.YtkfelkpilaipnaaDoor

namespace Go.Proofs.YtkfelkpilaipnaaDoor
set_option maxRecDepth 100000
open Go.RowKit

set_option maxHeartbeats 1000000 in
theorem rname_any (l : List Int) (hl : K.Bytes l) (w : World) :
    Calls Tryd.prog 57 #[.string (K.str l)] w fun e w' => e = .returned (.bool (T.isName l)) ∧ w = w' := by
  have hsz := K.str_size l
  by_cases h0 : l.length = 0
  · obtain rfl := List.eq_nil_of_length_eq_zero h0
    rw [show T.isName [] = false from rfl]
    have hs0 : ((K.str []).size : Int) = 0 := by rw [hsz]; rfl
    clear hsz hl h0
    generalize K.str [] = s at *
    go_enter Tryd.func57, Tryd.ntmps57
    go_wp2
    go_ret
    exact ⟨rfl, rfl⟩
  by_cases h20 : l.length ≤ 20
  · have hiff := T.isName_iff l
    rw [decide_eq_true h0, decide_eq_true h20, Bool.true_and, Bool.true_and] at hiff
    have hp : 0 < (K.str l).size := by omega
    have hb0 := K.str_get hl 0 hp
    have P1 := hide (fun w => first_any (l.getD 0 0) w)
    have hp2 : (((K.str l).size : Int) == 0) = false := beq_eq_false_iff_ne.2 (by omega)
    have hs3 : ((K.str l).size : Int) ≤ 20 := by omega
    by_cases hh : T.head (l.getD 0 0) = true
    · rw [hh, Bool.true_and] at hiff
      have HI := hide hiff
      have hsz' : (l.length : Int) = ((K.str l).size : Int) := by omega
      have HB := hide (fun k h => K.str_get hl k h)
      have HP := hide (fun k w => later_any (l.getD k 0) w)
      rw [hh] at P1
      have HL := hide hsz
      clear hsz hsz' hiff hh h0 h20 hl
      generalize l.getD 0 0 = z at *
      generalize T.isName l = res at *
      generalize K.str l = s at *
      go_enter Tryd.func57, Tryd.ntmps57
      go_wp2_with fail
      refine (P1.out _).mono ?_; rintro _ w' ⟨rfl, rfl⟩
      go_wp2
      go_loop [3] (fun vi => ∃ (k : Nat), k ≤ s.size ∧ vi = .int .i64 k ∧ ∀ j, j < k → T.inName (l.getD j 0) = true) (fun vi => s.size - (intOf vi).toNat)
      case atStart => exact ⟨0, by omega, rfl, fun j hj => by omega⟩
      case round =>
        obtain ⟨k, hk, rfl, hs⟩ := hrel
        have HS := hide hs
        clear hs hb0 P1
        by_cases hlt : k < s.size
        · have hbk := HB.out k hlt
          have P2 := hide (HP.out k)
          rcases hq : T.inName (l.getD k 0) with _ | _
          · have HF : Hid (T.inName (l.getD k 0) = false) := hide hq
            rw [hq] at P2
            clear hq
            have HK : Hid (k < l.length) := hide (by have := HL.out; omega)
            generalize hz : l.getD k 0 = z at *
            have HZ := hide hz
            clear hz
            go_wp2_with fail
            refine (P2.out _).mono ?_; rintro _ w' ⟨rfl, rfl⟩
            go_wp2
            go_ret
            refine ⟨ret_bool ?_, rfl⟩
            rw [HI.out]
            symm
            apply decide_eq_false
            intro h
            have h1 := h k HK.out
            have h2 := HF.out
            rw [HZ.out] at h1
            rw [h1] at h2; cases h2
          · have HF : Hid (T.inName (l.getD k 0) = true) := hide hq
            rw [hq] at P2
            clear hq
            generalize hz : l.getD k 0 = z at *
            have HZ := hide hz
            clear hz
            go_wp2_with fail
            refine (P2.out _).mono ?_; rintro _ w' ⟨rfl, rfl⟩
            go_wp2
            go_round
            case rel =>
              refine ⟨k + 1, by omega, by go_num, fun j hj => ?_⟩
              by_cases hjk : j = k
              · subst hjk; rw [HZ.out]; exact HF.out
              · exact HS.out j (by omega)
            case measure => simp [intOf]; omega
        · obtain rfl : k = s.size := by omega
          go_wp2
          go_ret
          refine ⟨ret_bool ?_, rfl⟩
          rw [HI.out]
          symm
          apply decide_eq_true
          intro j hj
          exact HS.out j (by have := HL.out; omega)
    · have hh' : T.head (l.getD 0 0) = false := by simpa using hh
      rw [hh', Bool.false_and] at hiff
      rw [hiff]
      rw [hh'] at P1
      clear hsz hiff hh hh' h0 h20 hl
      generalize l.getD 0 0 = z at *
      generalize K.str l = s at *
      go_enter Tryd.func57, Tryd.ntmps57
      go_wp2_with fail
      refine (P1.out _).mono ?_; rintro _ w' ⟨rfl, rfl⟩
      go_wp2
      go_ret
      exact ⟨rfl, rfl⟩
  · have hv : T.isName l = false := by unfold T.isName; rw [decide_eq_false h20]; rfl
    rw [hv]
    have h21 : ((K.str l).size : Int) > 20 := by omega
    have h22 : (((K.str l).size : Int) == 0) = false := beq_eq_false_iff_ne.2 (by omega)
    clear hv h0 hl h20 hsz
    generalize K.str l = s at *
    go_enter Tryd.func57, Tryd.ntmps57
    go_wp2
    go_ret
    exact ⟨rfl, rfl⟩

set_option maxHeartbeats 1000000 in
theorem rlit_any (l : List Int) (hl : K.Bytes l) (w : World) :
    Calls Tryd.prog 77 #[.string (K.str l)] w fun e w' => e = .returned (.bool (T.isLit l)) ∧ w = w' := by
  have hsz := K.str_size l
  by_cases h3 : l.length = 3
  · obtain ⟨a, b, c, rfl⟩ : ∃ a b c, l = [a, b, c] := by
      match l, h3 with
      | [a, b, c], _ => exact ⟨a, b, c, rfl⟩
    clear h3
    have hs : (K.str [a, b, c]).size = 3 := hsz
    have hp0 : 0 < (K.str [a, b, c]).size := by omega
    have hp1 : 1 < (K.str [a, b, c]).size := by omega
    have hp2 : 2 < (K.str [a, b, c]).size := by omega
    have hb0 : (((K.str [a, b, c])[0]'hp0).toNat : Int) = a := K.str_get hl 0 hp0
    have hb1 : (((K.str [a, b, c])[1]'hp1).toNat : Int) = b := K.str_get hl 1 hp1
    have hb2 : (((K.str [a, b, c])[2]'hp2).toNat : Int) = c := K.str_get hl 2 hp2
    have hq : (((K.str [a, b, c]).size : Int) == 3) = true := by rw [hs]; rfl
    unfold T.isLit
    clear hs hsz hl
    generalize K.str [a, b, c] = s at *
    go_enter Tryd.func77, Tryd.ntmps77
    go_wp2
    all_goals go_ret
    all_goals (refine ⟨ret_bool ?_, rfl⟩; first | (simp_all; done) | (simp_all; omega))
  by_cases h4 : l.length = 4
  · obtain ⟨a, b, c, d, rfl⟩ : ∃ a b c d, l = [a, b, c, d] := by
      match l, h4 with
      | [a, b, c, d], _ => exact ⟨a, b, c, d, rfl⟩
    clear h3 h4
    have hs : (K.str [a, b, c, d]).size = 4 := hsz
    have hp0 : 0 < (K.str [a, b, c, d]).size := by omega
    have hp1 : 1 < (K.str [a, b, c, d]).size := by omega
    have hp2 : 2 < (K.str [a, b, c, d]).size := by omega
    have hp3 : 3 < (K.str [a, b, c, d]).size := by omega
    have hb0 : (((K.str [a, b, c, d])[0]'hp0).toNat : Int) = a := K.str_get hl 0 hp0
    have hb1 : (((K.str [a, b, c, d])[1]'hp1).toNat : Int) = b := K.str_get hl 1 hp1
    have hb2 : (((K.str [a, b, c, d])[2]'hp2).toNat : Int) = c := K.str_get hl 2 hp2
    have hb3 : (((K.str [a, b, c, d])[3]'hp3).toNat : Int) = d := K.str_get hl 3 hp3
    have hq3 : (((K.str [a, b, c, d]).size : Int) == 3) = false := by rw [hs]; rfl
    have hq : (((K.str [a, b, c, d]).size : Int) == 4) = true := by rw [hs]; rfl
    unfold T.isLit
    clear hs hsz hl
    generalize K.str [a, b, c, d] = s at *
    go_enter Tryd.func77, Tryd.ntmps77
    go_wp2
    all_goals go_ret
    all_goals (refine ⟨ret_bool ?_, rfl⟩; first | (simp_all; done) | (simp_all; omega))
  · have hv : T.isLit l = false := by
      rcases hq : T.isLit l with _ | _
      · rfl
      · have := T.isLit_len hq; omega
    rw [hv]
    have hq3 : (((K.str l).size : Int) == 3) = false := beq_eq_false_iff_ne.2 (by omega)
    have hq4 : (((K.str l).size : Int) == 4) = false := beq_eq_false_iff_ne.2 (by omega)
    clear hv hl hsz h3 h4
    generalize K.str l = s at *
    go_enter Tryd.func77, Tryd.ntmps77
    go_wp2
    go_ret
    exact ⟨rfl, rfl⟩
end Go.Proofs.YtkfelkpilaipnaaDoor

namespace Go.Proofs.YtkfelkpilaipnaaDoor
set_option maxRecDepth 100000
open Go.RowKit

/-- A world that went on behind one in which a grammar was laid. -/
def One (w : World) (a : Array Value) (wr : World) : Prop := Below (w.heap.size + 1) (w.alloc (.cells a 26)) wr
theorem One.start (w : World) (a : Array Value) : One w a (w.alloc (.cells a 26)) := Below.refl _ _
theorem One.size {w wr : World} {a : Array Value} (h : One w a wr) : w.heap.size + 1 ≤ wr.heap.size := by have := Below.size h; simpa using this
theorem One.below {w wr : World} {a : Array Value} (h : One w a wr) : Below w.heap.size w wr := ((Below.refl w.heap.size w).alloc (Nat.le_refl _) _).trans (Below.mono h (by omega))
theorem One.on {w wr wt : World} {a : Array Value} (h : One w a wr) (k : Below wr.heap.size wr wt) : One w a wt := Below.trans h (k.mono h.size)
theorem One.drewN {w wr : World} {a : Array Value} (h : One w a wr) (n : Nat) : One w a (wr.drewN n) := below_drewN h n
theorem One.alloc {w wr : World} {a : Array Value} (h : One w a wr) (o : Obj) : One w a (wr.alloc o) := Below.alloc h h.size o
theorem One.c {w wr : World} {a : Array Value} (h : One w a wr) (j : Nat) (u : Value) (hj : a[j]? = some u) : wr.cell? ⟨w.heap.size, j, none⟩ = some u := by
  have b0 := (Below.block h w.heap.size (by omega)).trans (heap_alloc_new w _)
  exact (cell_of_row wr _ j _ _ _ b0).trans hj

theorem rnamed_any (s : List Int) (hs : K.Tx s) (w : World) :
    Calls Tryd.prog 59 #[.string (K.str s)] w fun e w' => e = .returned (.bool (Gm.named s)) ∧ w = w' := by
  have HN := hide (fun w => rname_any s hs.1 w)
  have HL := hide (fun w => rlit_any s hs.1 w)
  unfold Gm.named
  clear hs
  cases q : T.isName s
  · rw [q] at HN
    clear q
    generalize T.isLit s = b at *
    go_enter Tryd.func59, Tryd.ntmps59
    go_wp2_with fail
    refine (HN.out _).mono ?_; rintro _ _ ⟨rfl, rfl⟩
    go_wp2_with fail
    refine (HL.out _).mono ?_; rintro _ _ ⟨rfl, rfl⟩
    go_wp2
    go_ret
    exact ⟨ret_bool (by simp), rfl⟩
  · rw [q] at HN
    clear q
    go_enter Tryd.func59, Tryd.ntmps59
    go_wp2_with fail
    refine (HN.out _).mono ?_; rintro _ _ ⟨rfl, rfl⟩
    go_wp2
    go_ret
    exact ⟨ret_bool (by simp), rfl⟩

/-- The first k terminals may be. -/
def TmOk (ts : List Gm.Tm) (k : Nat) : Prop := ∀ i (h : i < ts.length), i < k → Gm.term1 ts i ts[i] = true
theorem TmOk.next {ts : List Gm.Tm} {k : Nat} (h : TmOk ts k) (hk : k < ts.length) (hn : Gm.term1 ts k ts[k] = true) : TmOk ts (k + 1) := fun i hi hik => by
  rcases Nat.lt_or_ge i k with q | q
  · exact h i hi q
  · obtain rfl : i = k := by omega
    exact hn
theorem TmOk.all {ts : List Gm.Tm} (h : TmOk ts ts.length) (hl : ts.length ≤ 24) : Gm.terms ts = true := by
  unfold Gm.terms
  rw [decide_eq_true hl, decide_eq_true fun i hi => h i hi hi]; rfl

end Go.Proofs.YtkfelkpilaipnaaDoor

namespace Go.Proofs.YtkfelkpilaipnaaDoor
set_option maxRecDepth 100000
open Go.RowKit

/-- The first k nonterminals may be. -/
def NnOk (G : Gm.Gr) (k : Nat) : Prop := ∀ i (h : i < G.ns.length), i < k → Gm.non1 G i G.ns[i] = true
theorem NnOk.next {G : Gm.Gr} {k : Nat} (h : NnOk G k) (hk : k < G.ns.length) (hn : Gm.non1 G k G.ns[k] = true) : NnOk G (k + 1) := fun i hi hik => by
  rcases Nat.lt_or_ge i k with q | q
  · exact h i hi q
  · obtain rfl : i = k := by omega
    exact hn
theorem NnOk.all {G : Gm.Gr} (h : NnOk G G.ns.length) (h1 : 1 ≤ G.ns.length) (hl : G.ns.length ≤ 16) : Gm.nons G = true := by
  unfold Gm.nons
  rw [decide_eq_true h1, decide_eq_true hl, decide_eq_true fun i hi => h i hi hi]; rfl

/-- The first k symbols of a rule may be. -/
def ZsOk (G : Gm.Gr) (x : Gm.Rl) (k : Nat) : Prop := ∀ i (h : i < x.r.length), i < k → (Gm.has G x.r[i] && !(decide (0 ≤ x.r[i]) && x.p == -1)) = true
theorem ZsOk.next {G : Gm.Gr} {x : Gm.Rl} {k : Nat} (h : ZsOk G x k) (hk : k < x.r.length) (hn : (Gm.has G x.r[k] && !(decide (0 ≤ x.r[k]) && x.p == -1)) = true) : ZsOk G x (k + 1) := fun i hi hik => by
  rcases Nat.lt_or_ge i k with q | q
  · exact h i hi q
  · obtain rfl : i = k := by omega
    exact hn
theorem ZsOk.all {G : Gm.Gr} {x : Gm.Rl} (h : ZsOk G x x.r.length) (h1 : x.r.length ≤ 6) (h2 : -1 ≤ x.p) (h3 : x.p < G.ts.length) : Gm.rule G x = true := by
  unfold Gm.rule
  rw [decide_eq_true h1, decide_eq_true h2, decide_eq_true h3]
  simp only [Bool.true_and]
  rw [List.all_eq_true]
  intro z hz
  obtain ⟨i, hi, rfl⟩ := List.getElem_of_mem hz
  exact h i hi hi

end Go.Proofs.YtkfelkpilaipnaaDoor

namespace Go.Mw
open Go.RowKit Go.Maps

/-- How keys are written as values. -/
structure Enc (P : Program) (kt : TypeId) (κ : Type) where
  enc : κ → Value
  ok : κ → Prop
  key : ∀ x, ok x → ∃ l, keyOf P kt (enc x) = some l
  inj : ∀ x y, ok x → ok y → enc x = enc y → x = y

section
variable {κ : Type} [DecidableEq κ] {α : Type}
/-- A key's element. -/
def asc : List (κ × α) → κ → Option α
  | [], _ => none
  | (k, v) :: r, x => if k = x then some v else asc r x
theorem asc_none {l : List (κ × α)} {x : κ} : asc l x = none ↔ ∀ p ∈ l, p.1 ≠ x := by
  induction l with
  | nil => simp [asc]
  | cons p r ih =>
    obtain ⟨k, v⟩ := p
    unfold asc
    by_cases h : k = x
    · rw [if_pos h]; simp [h]
    · rw [if_neg h, ih]; simp [h]
theorem asc_mem {l : List (κ × α)} {x : κ} {v : α} (h : asc l x = some v) : (x, v) ∈ l := by
  induction l with
  | nil => simp [asc] at h
  | cons p r ih =>
    obtain ⟨k, u⟩ := p
    unfold asc at h
    by_cases hk : k = x
    · rw [if_pos hk] at h; injection h with h; subst h hk; simp
    · rw [if_neg hk] at h; exact List.mem_cons_of_mem _ (ih h)
theorem asc_of_mem {l : List (κ × α)} {x : κ} {v : α} (hn : (l.map Prod.fst).Nodup) (h : (x, v) ∈ l) : asc l x = some v := by
  induction l with
  | nil => simp at h
  | cons p r ih =>
    obtain ⟨k, u⟩ := p
    rw [List.map_cons, List.nodup_cons] at hn
    unfold asc
    rcases List.mem_cons.1 h with e | e
    · injection e with e1 e2; subst e1 e2; rw [if_pos rfl]
    · have : k ≠ x := fun q => hn.1 (by rw [q]; exact List.mem_map.2 ⟨(x, v), e, rfl⟩)
      rw [if_neg this]; exact ih hn.2 e
theorem asc_snoc {l : List (κ × α)} {k x : κ} {v : α} (h : asc l k = none) : asc (l ++ [(k, v)]) x = if k = x then some v else asc l x := by
  induction l with
  | nil => simp [asc]
  | cons p r ih =>
    obtain ⟨k', u⟩ := p
    unfold asc at h
    split at h
    · cases h
    · rename_i hk
      rw [List.cons_append]
      show (if k' = x then some u else asc (r ++ [(k, v)]) x) = if k = x then some v else if k' = x then some u else asc r x
      rw [ih h]
      by_cases h1 : k' = x
      · rw [if_pos h1, if_pos h1, if_neg (fun e => hk (h1.trans e.symm))]
      · rw [if_neg h1, if_neg h1]
end

section
variable {P : Program} {kt : TypeId} {κ : Type}
/-- Block b is a map with these keys and elements. -/
def MapIs (E : Enc P kt κ) (w : World) (b : Nat) (l : List (κ × Value)) : Prop :=
  ∃ es clock, w.heap[b]? = some (.map es clock) ∧ es.toList.map (fun e => (e.key, e.val)) = l.map (fun p => (E.enc p.1, p.2)) ∧ (∀ p ∈ l, E.ok p.1) ∧ (l.map Prod.fst).Nodup
variable {E : Enc P kt κ} {w : World} {b : Nat} {l : List (κ × Value)}
theorem MapIs.made (E : Enc P kt κ) (w : World) : MapIs E (w.alloc (.map #[] 0)) w.heap.size [] :=
  ⟨#[], 0, (MapKept.heap_alloc w _).1, rfl, by simp, by simp⟩
theorem MapIs.lt (h : MapIs E w b l) : b < w.heap.size := by
  obtain ⟨es, clock, hb, _⟩ := h
  exact (Array.getElem?_eq_some_iff.1 hb).1
theorem MapIs.kept {w' : World} {row : Option Nat} (h : MapIs E w b l) (hg : w.grownBy w' row) (hne : some b ≠ row) : MapIs E w' b l := by
  have hlt := h.lt
  obtain ⟨es, clock, hb, r⟩ := h
  exact ⟨es, clock, (hg.block b hlt hne).trans hb, r⟩
theorem MapIs.block {w' : World} (h : MapIs E w b l) (hg : w'.heap[b]? = w.heap[b]?) : MapIs E w' b l := by
  obtain ⟨es, clock, hb, r⟩ := h
  exact ⟨es, clock, hg.trans hb, r⟩
/-- How many. -/
theorem run_len {t e : TypeId} (h : MapIs E w b l) (ht : P.underlying t = some (.map kt e)) (ty : TypeId) : (Builtin.len_ #[t] ty #[.map (some b)]).run P w = .ok (.int .i64 (l.length : Nat)) w := by
  obtain ⟨es, clock, hb, he, _⟩ := h
  have e1 : es.size = l.length := by have := congrArg List.length he; simpa using this
  simp [Builtin.len_, run_underlying ht, MapKept.run_getObj_map hb, goInt, Result.andThen, e1]
variable [DecidableEq κ]
theorem find_in (h : MapIs E w b l) (K : Keyed P kt) {x : κ} (hx : E.ok x) : ∃ es clock, w.heap[b]? = some (.map es clock) ∧ es.toList.map (fun e => (e.key, e.val)) = l.map (fun p => (E.enc p.1, p.2)) ∧
    (((Instr.findKey kt (E.enc x) es.toList).run P w = .ok none w ∧ asc l x = none) ∨ ∃ (j : Nat) (e : MapEntry), (Instr.findKey kt (E.enc x) es.toList).run P w = .ok (some (j, e.val)) w ∧ es.toList[j]? = some e ∧ e.key = E.enc x ∧ asc l x = some e.val ∧ l[j]? = some (x, e.val)) := by
  obtain ⟨es, clock, hb, he, hk, hn⟩ := h
  refine ⟨es, clock, hb, he, ?_⟩
  obtain ⟨lx, hlx⟩ := E.key x hx
  have hkeys : ∀ e ∈ es.toList, ∃ l, keyOf P kt e.key = some l := by
    intro e hm
    have : (e.key, e.val) ∈ es.toList.map (fun e => (e.key, e.val)) := List.mem_map.2 ⟨e, hm, rfl⟩
    rw [he] at this
    obtain ⟨p, hp, e1⟩ := List.mem_map.1 this
    injection e1 with e1 _
    rw [← e1]
    exact E.key p.1 (hk p hp)
  rcases K.find w hlx es.toList hkeys with ⟨h1, h2⟩ | ⟨j, e, h1, h2, h3⟩
  · refine .inl ⟨h1, asc_none.2 fun p hp q => ?_⟩
    have : (E.enc p.1, p.2) ∈ es.toList.map (fun e => (e.key, e.val)) := by rw [he]; exact List.mem_map.2 ⟨p, hp, rfl⟩
    obtain ⟨e, hm, e1⟩ := List.mem_map.1 this
    injection e1 with e1 _
    exact h2 e hm (by rw [e1, q])
  · refine .inr ⟨j, e, h1, h2, h3, ?_⟩
    have hj : (es.toList.map (fun e => (e.key, e.val)))[j]? = some (e.key, e.val) := by rw [List.getElem?_map, h2]; rfl
    rw [he, List.getElem?_map] at hj
    obtain ⟨p, hp, e1⟩ := Option.map_eq_some_iff.1 hj
    injection e1 with e1 e2
    have hpm : p ∈ l := List.mem_of_getElem? hp
    have hpx : p.1 = x := E.inj _ _ (hk p hpm) hx (e1.trans h3)
    have hpe : p = (x, e.val) := by rw [← hpx, ← e2]
    rw [hpe] at hp hpm
    exact ⟨asc_of_mem hn hpm, hp⟩

/-- A look-up. -/
theorem run_look {t e : TypeId} (h : MapIs E w b l) (K : Keyed P kt) (ht : P.underlying t = some (.map kt e)) {z : Value} (hz : (zeroValue e).run P w = .ok z w) {x : κ} (hx : E.ok x) (c : Bool) :
    (Instr.lookup t (.map (some b)) (E.enc x) c).run P w = .ok (if c then .tuple #[(asc l x).getD z, .bool (asc l x).isSome] else (asc l x).getD z) w := by
  obtain ⟨lx, hlx⟩ := E.key x hx
  obtain ⟨es, clock, hb, _, hf⟩ := find_in h K hx
  rcases hf with ⟨h1, h2⟩ | ⟨j, e0, h1, _, _, h2, _⟩
  · rw [h2]
    simp [Instr.lookup, run_underlying ht, MapKept.run_getObj_map hb, K.check w _ hlx, h1, hz, Result.andThen]
  · rw [h2]
    simp [Instr.lookup, run_underlying ht, MapKept.run_getObj_map hb, K.check w _ hlx, h1, Result.andThen]
/-- A store. -/
theorem run_store {t e : TypeId} (h : MapIs E w b l) (K : Keyed P kt) (ht : P.underlying t = some (.map kt e)) {x : κ} (hx : E.ok x) (v : Value) (hv : asc l x = none ∨ asc l x = some v) :
    ∃ w', (Instr.mapUpdate t (.map (some b)) (E.enc x) v).run P w = .ok () w' ∧ MapIs E w' b (if asc l x = none then l ++ [(x, v)] else l) ∧ w.grownBy w' (some b) := by
  obtain ⟨lx, hlx⟩ := E.key x hx
  have h0 := h
  obtain ⟨es, clock, hb, he, hf⟩ := find_in h K hx
  obtain ⟨es0, clock0, hb0, he0, hk, hn⟩ := h0
  rw [hb] at hb0
  injection hb0 with hb0
  injection hb0 with hb0 hb1
  subst hb0 hb1
  rcases hf with ⟨h1, h2⟩ | ⟨j, e0, h1, h2, h3, h4, h5⟩
  · rw [if_pos h2]
    refine ⟨ChangeMaps.setBlock w b (.map (es.push ⟨E.enc x, v, clock⟩) (clock + 1)), ?_, ⟨_, _, ChangeMaps.heap_setBlock_same hb _, ?_, ?_, ?_⟩, ⟨rfl, rfl, rfl, by simp [ChangeMaps.setBlock], fun i _ hi => ChangeMaps.heap_setBlock_other hb _ (fun e => hi (by rw [e]))⟩⟩
    · simp [Instr.mapUpdate, run_underlying ht, MapKept.run_getObj_map hb, K.check w false hlx, h1, MapKept.run_setObj_map _ hb, Result.andThen, ChangeMaps.setBlock]
    · rw [Array.toList_push, List.map_append, List.map_append, he]; rfl
    · intro p hp
      rcases List.mem_append.1 hp with q | q
      · exact hk p q
      · rw [List.mem_singleton] at q; subst q; exact hx
    · rw [List.map_append, List.nodup_append]
      refine ⟨hn, by simp, fun a ha c hc => ?_⟩
      obtain ⟨p, hp, rfl⟩ := List.mem_map.1 ha
      simp only [List.map_cons, List.map_nil, List.mem_singleton] at hc
      subst hc
      exact asc_none.1 h2 p hp
  · have hve : v = e0.val := by
      rcases hv with q | q
      · rw [h4] at q; cases q
      · rw [h4] at q; injection q with q; exact q.symm
    rw [if_neg (by rw [h4]; simp)]
    have hj : es[j]? = some e0 := by simpa using h2
    have hmod : (es.modify j (fun e => { e with key := E.enc x, val := v })).toList.map (fun e => (e.key, e.val)) = es.toList.map (fun e => (e.key, e.val)) := by
      rw [Array.toList_modify, ChangeMaps.modify_eq_set _ _ _ _ h2, List.map_set]
      have hjl : j < (es.toList.map (fun e => (e.key, e.val))).length := by rw [List.length_map]; exact (List.getElem?_eq_some_iff.1 h2).1
      apply List.ext_getElem?
      intro i
      rw [List.getElem?_set]
      by_cases hij : j = i
      · subst hij
        rw [if_pos rfl, if_pos hjl, List.getElem?_map, h2, ← h3, hve]
        rfl
      · rw [if_neg hij]
    refine ⟨ChangeMaps.setBlock w b (.map (es.modify j (fun e => { e with key := E.enc x, val := v })) clock), ?_, ⟨_, _, ChangeMaps.heap_setBlock_same hb _, hmod.trans he, hk, hn⟩, ⟨rfl, rfl, rfl, by simp [ChangeMaps.setBlock], fun i _ hi => ChangeMaps.heap_setBlock_other hb _ (fun e => hi (by rw [e]))⟩⟩
    simp [Instr.mapUpdate, run_underlying ht, MapKept.run_getObj_map hb, K.check w false hlx, h1, hj, h3, K.stays w hlx, MapKept.run_setObj_map _ hb, Result.andThen, ChangeMaps.setBlock]
end

/-- A store at the operation. -/
theorem wpList_store {P : Program} {w : World} {ops : Array Oper} {rest : List Oper} {o : Oper} {a : Act} {Q : Exit → Act → World → Prop}
    (hg : o.guard = none) (m x v : Operand) (t : TypeId) (hop : o.op = Op.mapUpdate t m x v) {mv xv vv : Value} {R : World → Prop} (h : ∃ w', (Instr.mapUpdate t mv xv vv).run P w = .ok () w' ∧ R w') (hm : a.eval m = mv) (hx : a.eval x = xv) (hv : a.eval v = vv)
    (hK : ∀ w', R w' → wpList P ops Q rest (a.put o.dst undef) w') : wpList P ops Q (o :: rest) a w := by
  refine wpList_plain hg fun K' hK' => ?_
  obtain ⟨w', hrun, hR⟩ := h
  unfold Oper.wp
  simp [execOp, hop, hm, hx, hv, hrun, Result.andThen]
  exact hK' _ _ (hK w' hR)
end Go.Mw

namespace Go.Proofs.YtkfelkpilaipnaaDoor
end Go.Proofs.YtkfelkpilaipnaaDoor

namespace Go.Proofs.YtkfelkpilaipnaaDoor
set_option maxRecDepth 100000
open Go.RowKit

/-- Texts as keys. -/
def strE : Mw.Enc Tryd.prog 9 (List Int) where
  enc s := .string (K.str s)
  ok := K.Tx
  key s h := ⟨_, Go.WideMaps.keyOf_string_mk Tryd.underlying9 (by rw [K.str_size]; unfold maxLen; exact h.2)⟩
  inj x y hx hy h := by injection h with h; exact (K.str_eq hx.1 hy.1).1 h
theorem strK : Maps.Keyed Tryd.prog 9 := Maps.string_keyed Tryd.underlying9

theorem isSpelt_any (s : List Int) (hs : K.Tx s) (w : World) :
    Calls Tryd.prog 38 #[.string (K.str s)] w fun e w' => e = .returned (.bool (Gm.named s)) ∧ Below w.heap.size w w' := by
  have HN := hide (fun w => name_any s hs.1 w)
  have HL := hide (fun w => lit_any s hs.1 hs.2 w)
  unfold Gm.named
  clear hs
  cases q : T.isName s
  · rw [q] at HN
    clear q
    generalize T.isLit s = b at *
    go_enter Tryd.func38, Tryd.ntmps38
    go_wp2_with fail
    refine (HN.out _).mono ?_; rintro _ w1 ⟨rfl, hb⟩
    have HB := hide hb
    clear hb
    go_wp2_with fail
    refine (HL.out _).mono ?_; rintro _ _ ⟨rfl, rfl⟩
    go_wp2
    go_ret
    exact ⟨ret_bool (by simp), HB.out⟩
  · rw [q] at HN
    clear q
    go_enter Tryd.func38, Tryd.ntmps38
    go_wp2_with fail
    refine (HN.out _).mono ?_; rintro _ w1 ⟨rfl, hb⟩
    have HB := hide hb
    clear hb
    go_wp2
    go_ret
    exact ⟨ret_bool (by simp), HB.out⟩

/-- The different ones among texts, in the order in which they come. -/
def dd : List (List Int) → List (List Int) → List (List Int)
  | acc, [] => acc
  | acc, s :: r => dd (if s ∈ acc then acc else acc ++ [s]) r
theorem dd_snoc (acc l : List (List Int)) (s : List Int) : dd acc (l ++ [s]) = if s ∈ dd acc l then dd acc l else dd acc l ++ [s] := by
  induction l generalizing acc with
  | nil => rfl
  | cons x r ih => rw [List.cons_append, dd, dd, ih]
theorem dd_len (acc l : List (List Int)) (hn : acc.Nodup) : (dd acc l).length ≤ acc.length + l.length ∧ ((dd acc l).length = acc.length + l.length ↔ (acc ++ l).Nodup) := by
  induction l generalizing acc with
  | nil => simp [dd, hn]
  | cons x r ih =>
    rw [dd]
    by_cases hx : x ∈ acc
    · rw [if_pos hx]
      have := (ih acc hn).1
      refine ⟨by rw [List.length_cons]; omega, ⟨fun e => by rw [List.length_cons] at e; omega, fun h => ?_⟩⟩
      rw [List.nodup_append] at h
      exact absurd rfl (h.2.2 x hx x (by simp))
    · rw [if_neg hx]
      have hn' : (acc ++ [x]).Nodup := by
        rw [List.nodup_append]
        exact ⟨hn, by simp, fun a ha b hb e => by rw [List.mem_singleton] at hb; subst hb e; exact hx ha⟩
      have := ih (acc ++ [x]) hn'
      rw [List.length_append, List.length_singleton, List.append_assoc, List.singleton_append] at this
      refine ⟨by have := this.1; rw [List.length_cons]; omega, ?_⟩
      rw [← this.2, List.length_cons]
      omega
/-- The map of all names so far. -/
def nmL (l : List (List Int)) : List (List Int × Value) := (dd [] l).map fun s => (s, .bool true)
theorem asc_nmL (l : List (List Int)) (s : List Int) : Mw.asc (nmL l) s = if s ∈ dd [] l then some (.bool true) else none := by
  unfold nmL
  generalize dd [] l = m
  induction m with
  | nil => rfl
  | cons x r ih =>
    rw [List.map_cons, Mw.asc, ih]
    by_cases h : x = s
    · subst h; simp
    · rw [if_neg h]
      have : s ≠ x := fun e => h e.symm
      simp [this]
theorem nmL_snoc (l : List (List Int)) (s : List Int) : (if Mw.asc (nmL l) s = none then nmL l ++ [(s, .bool true)] else nmL l) = nmL (l ++ [s]) := by
  rw [asc_nmL]
  unfold nmL
  rw [dd_snoc]
  by_cases h : s ∈ dd [] l
  · rw [if_pos h, if_pos h]; rfl
  · rw [if_neg h, if_neg h, if_pos rfl, List.map_append]; rfl
theorem asc_nm (l : List (List Int)) (s : List Int) : Mw.asc (nmL l) s = none ∨ Mw.asc (nmL l) s = some (.bool true) := by
  rw [asc_nmL]
  split
  · exact .inr rfl
  · exact .inl rfl

/-- May the names be? -/
def rnB (G : Gm.Gr) : Bool := decide (G.ts.length ≤ 24) && decide (1 ≤ G.ns.length) && decide (G.ns.length ≤ 16) && (G.ts.all fun t => Gm.named t.nm) && (G.ns.all T.isName) && decide ((nmL (Gm.names G.ts ++ G.ns)).length = G.ts.length + G.ns.length)
theorem rn_t {G : Gm.Gr} {k : Nat} (h : k < G.ts.length) (hn : Gm.named G.ts[k].nm = false) : rnB G = false := by
  unfold rnB
  have : (G.ts.all fun t => Gm.named t.nm) = false := List.all_eq_false.2 ⟨_, List.getElem_mem h, by rw [hn]; simp⟩
  rw [this]; simp
theorem rn_n {G : Gm.Gr} {k : Nat} (h : k < G.ns.length) (hn : T.isName G.ns[k] = false) : rnB G = false := by
  unfold rnB
  have : (G.ns.all T.isName) = false := List.all_eq_false.2 ⟨_, List.getElem_mem h, by rw [hn]; simp⟩
  rw [this]; simp
/-- The first k of a list are well. -/
def AllK {α : Type} (l : List α) (f : α → Bool) (k : Nat) : Prop := ∀ i (h : i < l.length), i < k → f l[i] = true
theorem AllK.zero {α : Type} (l : List α) (f : α → Bool) : AllK l f 0 := fun _ _ h => by omega
theorem AllK.next {α : Type} {l : List α} {f : α → Bool} {k : Nat} (h : AllK l f k) (hk : k < l.length) (hn : f l[k] = true) : AllK l f (k + 1) := fun i hi hik => by
  rcases Nat.lt_or_ge i k with q | q
  · exact h i hi q
  · obtain rfl : i = k := by omega
    exact hn
theorem AllK.all {α : Type} {l : List α} {f : α → Bool} (h : AllK l f l.length) : l.all f = true := by
  rw [List.all_eq_true]
  intro x hx
  obtain ⟨i, hi, rfl⟩ := List.getElem_of_mem hx
  exact h i hi hi
theorem take_next {α : Type} {l : List α} {k : Nat} (h : k < l.length) : l.take (k + 1) = l.take k ++ [l[k]] := List.take_succ_eq_append_getElem h

set_option maxHeartbeats 4000000 in
theorem rightNames_any (v : Value) (G : Gm.Gr) (B : Nat) (w : World) (hg : RdGr w B v G) (hf : Gm.Fit G) (hB : B ≤ w.heap.size) :
    Calls Tryd.prog 19 #[v] w fun e w' => e = .returned (.bool (rnB G)) ∧ Below w.heap.size w w' := by
  obtain ⟨AT, cT, AN, cN, AR, cR, rfl, ⟨hlT, hmT⟩, ⟨hlN, hmN⟩, _, ht, hn, _⟩ := hg
  have HT := hide ht
  have HN := hide hn
  have HF := hide hf
  have HS0 := hide (One.start w #[.slice AT G.ts.length cT, .slice AN G.ns.length cN, .slice AR G.rs.length cR, .int .i64 G.st])
  have hlenT : (G.ts.length : Int) ≤ 9223372036854775807 := by omega
  have hlenN : (G.ns.length : Int) ≤ 9223372036854775807 := by omega
  clear ht hn hf
  by_cases h24 : 24 < G.ts.length
  · have HX : Hid (rnB G = false) := hide (by unfold rnB; rw [decide_eq_false (show ¬ G.ts.length ≤ 24 by omega)]; rfl)
    rw [HX.out]
    go_enter Tryd.func19, Tryd.ntmps19
    go_wp2
    go_ret
    exact ⟨rfl, HS0.out.below⟩
  by_cases h0 : G.ns.length < 1
  · have HX : Hid (rnB G = false) := hide (by unfold rnB; rw [decide_eq_false (show ¬ 1 ≤ G.ns.length by omega)]; simp)
    have e0 : ((G.ns.length : Int) == 0) = true := beq_iff_eq.2 (by omega)
    rw [HX.out]
    clear h0
    go_enter Tryd.func19, Tryd.ntmps19
    go_wp2
    go_ret
    exact ⟨rfl, HS0.out.below⟩
  have e0 : ((G.ns.length : Int) == 0) = false := beq_eq_false_iff_ne.2 (by omega)
  by_cases h16 : 16 < G.ns.length
  · have HX : Hid (rnB G = false) := hide (by unfold rnB; rw [decide_eq_false (show ¬ G.ns.length ≤ 16 by omega)]; simp)
    rw [HX.out]
    clear h0
    go_enter Tryd.func19, Tryd.ntmps19
    go_wp2
    go_ret
    exact ⟨rfl, HS0.out.below⟩
  clear h0
  have hmm := @run_makeMap Tryd.prog
  have HM0 := hide (Mw.MapIs.made strE (w.alloc (.cells #[.slice AT G.ts.length cT, .slice AN G.ns.length cN, .slice AR G.rs.length cR, .int .i64 G.st] 26)))
  have hs1 : (w.alloc (.cells #[.slice AT G.ts.length cT, .slice AN G.ns.length cN, .slice AR G.rs.length cR, .int .i64 G.st] 26)).heap.size = w.heap.size + 1 := by simp
  rw [hs1] at HM0
  have HS1 := hide (HS0.out.alloc (.map #[] 0))
  clear hs1
  go_enter Tryd.func19, Tryd.ntmps19
  go_wp2
  go_loopw [28] (fun vi wr => ∃ (k : Nat), k ≤ G.ts.length ∧ vi = .int .i64 k ∧ Hid (AllK G.ts (fun t => Gm.named t.nm) k) ∧ One w #[.slice AT G.ts.length cT, .slice AN G.ns.length cN, .slice AR G.rs.length cR, .int .i64 G.st] wr ∧ Hid (Mw.MapIs strE wr (w.heap.size + 1) (nmL (Gm.names (G.ts.take k))))) (fun vi _ => G.ts.length - (intOf vi).toNat)
  case atStart => exact ⟨0, Nat.zero_le _, rfl, hide (AllK.zero _ _), HS1.out, HM0⟩
  case round =>
    obtain ⟨k, hk, rfl, HA, hb, HM⟩ := hrel
    have HB := hide hb
    have hz : w.heap.size < wr.heap.size := hb.size
    have hz1 : w.heap.size + 1 < wr.heap.size := HM.out.lt
    have hbw := hb.below
    have q1 := hb.c 1 _ rfl
    clear hb
    by_cases hlt : k < G.ts.length
    · obtain ⟨g, o, rfl, hgb, hc⟩ := HT.out (by omega)
      have k0 := (hbw.cell (p := ⟨g, o + k * 3, none⟩) (Nat.lt_of_lt_of_le hgb hB)).trans (hc k hlt).1
      have k1 := (hbw.cell (p := ⟨g, o + k * 3 + 1, none⟩) (Nat.lt_of_lt_of_le hgb hB)).trans (hc k hlt).2.1
      have k2 := (hbw.cell (p := ⟨g, o + k * 3 + 2, none⟩) (Nat.lt_of_lt_of_le hgb hB)).trans (hc k hlt).2.2
      have hgs : g < wr.heap.size := by omega
      have hft := (HF.out.t _ (List.getElem_mem hlt)).1
      have HNM := hide (fun x => isSpelt_any _ hft x)
      have HTX := hide hft
      have HA' := hide (fun h => HA.out.next hlt h)
      have HNO := hide (fun h => rn_t hlt h)
      have HNX : Hid (nmL (Gm.names (G.ts.take k) ++ [G.ts[k].nm]) = nmL (Gm.names (G.ts.take (k + 1)))) := hide (by rw [take_next hlt]; unfold Gm.names; rw [List.map_append]; rfl)
      clear hc hbw hft
      generalize G.ts[k].nm = nm at *
      generalize G.ts[k].lv = lv at *
      generalize G.ts[k].wy = wy at *
      cases q : Gm.named nm
      · have HX := hide (HNO.out q)
        rw [q] at HNM
        clear q
        go_wp2_with fail
        refine (HNM.out _).mono ?_; rintro _ w2 ⟨rfl, hb2⟩
        have HB2 := hide ((HB.out.alloc _).on hb2)
        clear hb2
        go_wp2
        go_ret
        exact ⟨ret_bool HX.out.symm, HB2.out.below⟩
      · have HX := hide (HA'.out q)
        rw [q] at HNM
        clear q
        go_wp2_with fail
        refine (HNM.out _).mono ?_; rintro _ w2 ⟨rfl, hb2⟩
        have HB2 := hide ((HB.out.alloc _).on hb2)
        have hbb := (hb2.block wr.heap.size (by simp)).trans (heap_alloc_new wr _)
        have hz2 : wr.heap.size < w2.heap.size := (Array.getElem?_eq_some_iff.1 hbb).1
        have f0 := cell_of_row w2 _ 0 _ _ _ hbb
        have HM2 := hide ((HM.out.kept (World.grownBy_alloc wr _ none) (by simp)).kept (only_below hb2 none) (by simp))
        clear hb2 hbb
        have HST := hide (Mw.run_store (x := nm) HM2.out strK Tryd.underlying89 HTX.out (.bool true) (asc_nm _ _))
        go_wp2_with (at_mapUpdate; refine Mw.wpList_store rfl _ _ _ _ rfl HST.out rfl rfl rfl ?_; rintro w3 ⟨hm3, hg3⟩)
        have HB3 := hide (Below.grown HB2.out hg3 HB2.out.size (fun k e => by injection e with e; omega))
        have HM3 : Hid (Mw.MapIs strE w3 (w.heap.size + 1) (nmL (Gm.names (G.ts.take (k + 1))))) := hide (by rw [← HNX.out, ← nmL_snoc]; exact hm3)
        clear hm3 hg3
        go_roundw
        case rel => exact ⟨k + 1, by omega, by go_num, HX, HB3.out, HM3⟩
        case measure => simp [intOf]; omega
    · obtain rfl : k = G.ts.length := by omega
      have HA1 := hide HA.out.all
      have HM1 : Hid (Mw.MapIs strE wr (w.heap.size + 1) (nmL (Gm.names G.ts ++ G.ns.take 0))) := hide (by have h := HM.out; rw [List.take_length] at h; rw [List.take_zero, List.append_nil]; exact h)
      clear hbw hk hlt HA HM
      go_wp2
      go_loopw [43] (fun vi wr => ∃ (k : Nat), k ≤ G.ns.length ∧ vi = .int .i64 k ∧ Hid (AllK G.ns T.isName k) ∧ One w #[.slice AT G.ts.length cT, .slice AN G.ns.length cN, .slice AR G.rs.length cR, .int .i64 G.st] wr ∧ Hid (Mw.MapIs strE wr (w.heap.size + 1) (nmL (Gm.names G.ts ++ G.ns.take k)))) (fun vi _ => G.ns.length - (intOf vi).toNat)
      case atStart => exact ⟨0, Nat.zero_le _, rfl, hide (AllK.zero _ _), HB.out, HM1⟩
      case round =>
        clear q1 hz hz1 HB HM1
        obtain ⟨k, hk, rfl, HA, hb, HM⟩ := hrel
        have HB := hide hb
        have hz : w.heap.size < wr.heap.size := hb.size
        have hz1 : w.heap.size + 1 < wr.heap.size := HM.out.lt
        have hbw := hb.below
        have q0 := hb.c 0 _ rfl
        have q1 := hb.c 1 _ rfl
        clear hb
        by_cases hlt : k < G.ns.length
        · obtain ⟨g, o, rfl, hgb, hc⟩ := HN.out (by omega)
          have k0 := (hbw.cell (p := ⟨g, o + k, none⟩) (Nat.lt_of_lt_of_le hgb hB)).trans (hc k hlt)
          have hgs : g < wr.heap.size := by omega
          have hft := HF.out.n _ (List.getElem_mem hlt)
          have HNM := hide (fun x => name_any _ hft.1 x)
          have HTX := hide hft
          have HA' := hide (fun h => HA.out.next hlt h)
          have HNO := hide (fun h => rn_n hlt h)
          have HNX : Hid (nmL (Gm.names G.ts ++ G.ns.take k ++ [G.ns[k]]) = nmL (Gm.names G.ts ++ G.ns.take (k + 1))) := hide (by rw [take_next hlt, List.append_assoc])
          obtain ⟨s, qs⟩ : ∃ t, t = G.ns[k] := ⟨_, rfl⟩
          rw [← qs] at k0 HNM HTX HA' HNO HNX
          clear hc hbw hft qs
          cases q : T.isName s
          · have HX := hide (HNO.out q)
            rw [q] at HNM
            clear q
            go_wp2_with fail
            refine (HNM.out _).mono ?_; rintro _ w2 ⟨rfl, hb2⟩
            have HB2 := hide (HB.out.on hb2)
            clear hb2
            go_wp2
            go_ret
            exact ⟨ret_bool HX.out.symm, HB2.out.below⟩
          · have HX := hide (HA'.out q)
            rw [q] at HNM
            clear q
            go_wp2_with fail
            refine (HNM.out _).mono ?_; rintro _ w2 ⟨rfl, hb2⟩
            have HB2 := hide (HB.out.on hb2)
            have HM2 := hide (HM.out.kept (only_below hb2 none) (by simp))
            clear hb2
            have HST := hide (Mw.run_store (x := s) HM2.out strK Tryd.underlying89 HTX.out (.bool true) (asc_nm _ _))
            go_wp2_with (at_mapUpdate; refine Mw.wpList_store rfl _ _ _ _ rfl HST.out rfl rfl rfl ?_; rintro w3 ⟨hm3, hg3⟩)
            have HB3 := hide (Below.grown HB2.out hg3 HB2.out.size (fun k e => by injection e with e; omega))
            have HM3 : Hid (Mw.MapIs strE w3 (w.heap.size + 1) (nmL (Gm.names G.ts ++ G.ns.take (k + 1)))) := hide (by rw [← HNX.out, ← nmL_snoc]; exact hm3)
            clear hm3 hg3
            go_roundw
            case rel => exact ⟨k + 1, by omega, by go_num, HX, HB3.out, HM3⟩
            case measure => simp [intOf]; omega
        · obtain rfl : k = G.ns.length := by omega
          have HA2 := hide HA.out.all
          have HM1 : Hid (Mw.MapIs strE wr (w.heap.size + 1) (nmL (Gm.names G.ts ++ G.ns))) := hide (by have h := HM.out; rw [List.take_length] at h; exact h)
          have hL := Mw.run_len HM1.out Tryd.underlying89 3
          have HX : Hid (rnB G = (((nmL (Gm.names G.ts ++ G.ns)).length : Int) == (G.ts.length : Int) + (G.ns.length : Int))) := hide (by
            unfold rnB
            rw [HA1.out, HA2.out, decide_eq_true (show G.ts.length ≤ 24 by omega), decide_eq_true (show 1 ≤ G.ns.length by have := beq_eq_false_iff_ne.1 e0; omega), decide_eq_true (show G.ns.length ≤ 16 by omega)]
            simp only [Bool.true_and]
            rw [Bool.eq_iff_iff]
            simp only [decide_eq_true_eq, beq_iff_eq]
            omega)
          generalize (nmL (Gm.names G.ts ++ G.ns)).length = m at *
          clear hbw hk hlt HA HM HM1
          go_wp2_with (simp only [hL])
          go_ret
          exact ⟨ret_bool HX.out.symm, HB.out.below⟩
end Go.Proofs.YtkfelkpilaipnaaDoor

namespace Go.Proofs.YtkfelkpilaipnaaDoor
set_option maxRecDepth 100000

namespace Gm
/-- What is built, or where it goes wrong, and why. -/
inductive R (α : Type) where
  | ok : α → R α
  | bad : Tok → Int → R α
def R.bind {α β : Type} (r : R α) (f : α → R β) : R β := match r with | .ok a => f a | .bad x e => .bad x e
theorem R.bind_ok {α β : Type} (a : α) (f : α → R β) : (R.ok a).bind f = f a := rfl
theorem R.bind_eq {α β : Type} {x : R α} {f : α → R β} {b : β} (h : x.bind f = .ok b) : ∃ a, x = .ok a ∧ f a = .ok b := by
  cases x with
  | ok a => exact ⟨a, rfl, h⟩
  | bad x e => cases h
/-- A terminal's number; a new one, if it is none yet. -/
def put (ts : List Tm) (x : Tok) : R (List Tm × Int) :=
  if 0 ≤ find (names ts) x.t then .ok (ts, find (names ts) x.t) else if ts.length = 24 then .bad x 5 else .ok (ts ++ [⟨x.t, 0, 0⟩], ts.length)
/-- What is declared: terminals, what has its own declaration, the start, how many levels there are. -/
structure S1 where
  ts : List Tm
  tk : List (List Int)
  st : Option Tok
  lv : Int
def decl1 (k : Int) (S : S1) (x : Tok) : R S1 :=
  if k = 7 then (if S.st.isSome then .bad x 7 else .ok { S with st := some x })
  else if k = 3 then (if x.t ∈ S.tk then .bad x 7 else (put S.ts x).bind fun p => .ok { S with ts := p.1, tk := S.tk ++ [x.t] })
  else if 0 ≤ find (names S.ts) x.t ∧ 0 < (S.ts.map Tm.lv).getD (find (names S.ts) x.t).toNat 0 then .bad x 7
  else (put S.ts x).bind fun p => .ok { S with ts := p.1.modify p.2.toNat fun t => ⟨t.nm, S.lv, k - 3⟩ }
def declN (k : Int) : S1 → List Tok → R S1
  | S, [] => .ok S
  | S, x :: r => (decl1 k S x).bind fun S => declN k S r
def up (k : Int) (S : S1) : S1 := if k = 3 ∨ k = 7 then S else { S with lv := S.lv + 1 }
def decls : S1 → List Y.Dcl → R S1
  | S, [] => .ok S
  | S, d :: r => (declN d.k (up d.k S) d.ns).bind fun S => decls S r
/-- The nonterminals. -/
def left1 (ts : List Tm) (ns : List (List Int)) (x : Tok) : R (List (List Int)) :=
  if 0 ≤ find (names ts) x.t then .bad x 7 else if 0 ≤ find ns x.t then .ok ns else if ns.length = 16 then .bad x 5 else .ok (ns ++ [x.t])
def lefts (ts : List Tm) : List (List Int) → List Y.Prd → R (List (List Int))
  | ns, [] => .ok ns
  | ns, p :: r => (left1 ts ns p.l).bind fun ns => lefts ts ns r
/-- A reference's symbol. -/
def sym (ts : List Tm) (x : Tok) : R (List Tm × Int) :=
  if 0 ≤ find (names ts) x.t ∨ T.isLit x.t = true ∨ x.t = [101, 114, 114, 111, 114] then put ts x else .bad x 6
def symR (ns : List (List Int)) (ts : List Tm) (x : Tok) : R (List Tm × Int) := if 0 ≤ find ns x.t then .ok (ts, -1 - find ns x.t) else sym ts x
def symP (ns : List (List Int)) (ts : List Tm) (x : Tok) : R (List Tm × Int) := if 0 ≤ find ns x.t then .bad x 6 else sym ts x
/-- A rule's symbols, and its last terminal. -/
def rights (ns : List (List Int)) : List Tm → List Int → Int → List Tok → R (List Tm × List Int × Int)
  | ts, acc, p, [] => .ok (ts, acc, p)
  | ts, acc, p, x :: r => if acc.length = 6 then .bad x 5 else (symR ns ts x).bind fun q => rights ns q.1 (acc ++ [q.2]) (if 0 ≤ q.2 then q.2 else p) r
def prod1 (ns : List (List Int)) (ts : List Tm) (rs : List Rl) (p : Y.Prd) : R (List Tm × List Rl) :=
  if rs.length = 40 then .bad p.l 5 else (rights ns ts [] (-1) p.r).bind fun q => match p.p with
    | none => .ok (q.1, rs ++ [⟨find ns p.l.t, q.2.1, q.2.2⟩])
    | some x => (symP ns q.1 x).bind fun y => .ok (y.1, rs ++ [⟨find ns p.l.t, q.2.1, y.2⟩])
def prods (ns : List (List Int)) : List Tm → List Rl → List Y.Prd → R (List Tm × List Rl)
  | ts, rs, [] => .ok (ts, rs)
  | ts, rs, p :: r => (prod1 ns ts rs p).bind fun q => prods ns q.1 q.2 r
/-- The start. -/
def start (ns : List (List Int)) : Option Tok → R Int
  | none => .ok 0
  | some x => if 0 ≤ find ns x.t then .ok (find ns x.t) else .bad x 8
/-- A source's grammar. -/
def build (ds : List Y.Dcl) (ps : List Y.Prd) : R Gr :=
  (decls ⟨[], [], none, 0⟩ ds).bind fun S => (lefts S.ts [] ps).bind fun ns => (prods ns S.ts [] ps).bind fun q => (start ns S.st).bind fun z => .ok ⟨q.1, ns, q.2, z⟩
end Gm
end Go.Proofs.YtkfelkpilaipnaaDoor
