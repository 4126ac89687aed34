/- A region that draws its order, of operations that only read beside two that make memory or call: walked by a tree of phases, where one or two operations may come up. Own work, on XCalm and the library's laws for such regions. -/
import Derived.Test.YtoehbkgdodogkaaGreatCalm
namespace Go.Calm
open Go.RowKit

section
variable {P : Program} {ops : Array Oper} {Q : Exit → Act → World → Prop} {md : Region.Mode}

/-- The phases: at last what only reads; or what only reads, and then one operation, or one of two. -/
inductive Ph where
  | fin (last : List Nat)
  | one (p : List Nat) (k : Nat) (t : Ph)
  | two (p : List Nat) (k : Nat) (t : Ph) (k2 : Nat) (t2 : Ph)

/-- One operation, and then the rest in a class of worlds that may be narrower. -/
def wpSt (P : Program) (ops : Array Oper) (Q : Exit → Act → World → Prop) (o : Option Oper) (S : World → Prop) (T : (World → Prop) → Act → World → Prop) (a : Act) (w : World) : Prop :=
  match o with
  | none => True
  | some o => ∀ K : Act → World → Prop, (∀ a2 w2, S w2 → ∀ S' : World → Prop, (∀ x, S' x → S x) → S' w2 → T S' a2 w2 → K a2 w2) →
      if Region.wanted o (yielded ops a.tmps) = true then Oper.wp P o a w K Q else K (a.put o.dst undef) w

def wpT (P : Program) (ops : Array Oper) (Q : Exit → Act → World → Prop) : Ph → (World → Prop) → Act → World → Prop
  | .fin last, S, a, w => wpQuiet P ops S (fun a' => Q .normal a' w) (pickOps ops last) a
  | .one p k t, S, a, w => wpQuiet P ops S (fun a' => wpSt P ops Q ops[k]? S (fun S' a2 w2 => wpT P ops Q t S' a2 w2) a' w) (pickOps ops p) a
  | .two p k t k2 t2, S, a, w => wpQuiet P ops S (fun a' => wpSt P ops Q ops[k]? S (fun S' a2 w2 => wpT P ops Q t S' a2 w2) a' w ∧ wpSt P ops Q ops[k2]? S (fun S' a2 w2 => wpT P ops Q t2 S' a2 w2) a' w) (pickOps ops p) a

def tB (md : Region.Mode) (ops : Array Oper) : Ph → Array Bool → Nat → Bool
  | .fin last, l, n => stillB md ops last l && (Region.ready md ops (marked last l)).isEmpty && (last.length == n)
  | .one p k t, l, n => stillB md ops p l && (match Region.ready md ops (marked p l) with | [j] => j == k | _ => false) && (ops[k]?).isSome && decide (p.length + 1 ≤ n) && tB md ops t ((marked p l).setIfInBounds k true) (n - (p.length + 1))
  | .two p k t k2 t2, l, n => stillB md ops p l && (match Region.ready md ops (marked p l) with | [j, j2] => j == k && j2 == k2 | _ => false) && (ops[k]?).isSome && (ops[k2]?).isSome && decide (p.length + 1 ≤ n) && tB md ops t ((marked p l).setIfInBounds k true) (n - (p.length + 1)) && tB md ops t2 ((marked p l).setIfInBounds k2 true) (n - (p.length + 1))

theorem quiet_mono {S : World → Prop} {Q1 Q2 : Act → Prop} (h : ∀ a, Q1 a → Q2 a) : ∀ {l : List Oper} {a : Act}, wpQuiet P ops S Q1 l a → wpQuiet P ops S Q2 l a
  | [], _, k => h _ k
  | o :: r, a, k => by
    unfold wpQuiet at k ⊢
    split
    · rename_i hw; rw [if_pos hw] at k; obtain ⟨v, h1, h2⟩ := k; exact ⟨v, h1, quiet_mono h h2⟩
    · rename_i hw; rw [if_neg hw] at k; exact quiet_mono h k

theorem any_of_t (hs : Region.noSelect ops = true) (hQ : ∀ c a d v w, Q (.panic c) (a.put d v) w → Q (.panic c) a w) :
    ∀ (t : Ph) (S : World → Prop) (listed : Array Bool) (a : Act) (w : World) (n : Nat), tB md ops t listed n = true → S w → wpT P ops Q t S a w → wpAnyH P md ops Q S n listed a w
  | .fin last, S, listed, a, w, n, hb, hS, h => by
    unfold tB at hb
    simp only [Bool.and_eq_true, List.isEmpty_iff, beq_iff_eq] at hb
    obtain ⟨⟨h1, h2⟩, rfl⟩ := hb
    have e : last.length = last.length + 0 := rfl
    rw [e]
    refine still_block hs hQ hS 0 last listed a h1 ?_
    exact quiet_mono (fun a' hq => wpAnyH_done h2 hq 0) h
  | .one p k t, S, listed, a, w, n, hb, hS, h => by
    unfold tB at hb
    simp only [Bool.and_eq_true, decide_eq_true_iff] at hb
    obtain ⟨⟨⟨⟨h1, h2⟩, h3⟩, h5⟩, h4⟩ := hb
    obtain ⟨o, ho⟩ := Option.isSome_iff_exists.1 h3
    have hrd : Region.ready md ops (marked p listed) = [k] := by
      split at h2
      · rename_i j hj; rw [hj]; rw [beq_iff_eq] at h2; rw [h2]
      · cases h2
    obtain ⟨m, rfl⟩ : ∃ m, n = p.length + (m + 1) := ⟨n - (p.length + 1), by omega⟩
    rw [show p.length + (m + 1) - (p.length + 1) = m by omega] at h4
    refine still_block hs hQ hS _ p listed a h1 ?_
    unfold wpT at h
    refine quiet_mono (fun a' hq => ?_) h
    refine wpAnyH_all hrd (by simp) fun i hi => ?_
    rw [List.mem_singleton] at hi
    subst hi
    refine wpOp_step ho fun K' hK => ?_
    rw [ho] at hq
    refine hq K' fun a2 w2 h6 S' hS' hS2 h7 => hK _ _ ⟨h6, ?_⟩
    exact anyH_mono hS' _ _ _ _ (any_of_t hs hQ t S' _ a2 w2 _ h4 hS2 h7)
  | .two p k t k2 t2, S, listed, a, w, n, hb, hS, h => by
    unfold tB at hb
    simp only [Bool.and_eq_true, decide_eq_true_iff] at hb
    obtain ⟨⟨⟨⟨⟨⟨h1, h2⟩, h3⟩, h32⟩, h5⟩, h4⟩, h42⟩ := hb
    obtain ⟨o, ho⟩ := Option.isSome_iff_exists.1 h3
    obtain ⟨o2, ho2⟩ := Option.isSome_iff_exists.1 h32
    have hrd : Region.ready md ops (marked p listed) = [k, k2] := by
      split at h2
      · rename_i j j2 hj; rw [hj]; simp only [Bool.and_eq_true, beq_iff_eq] at h2; rw [h2.1, h2.2]
      · cases h2
    obtain ⟨m, rfl⟩ : ∃ m, n = p.length + (m + 1) := ⟨n - (p.length + 1), by omega⟩
    rw [show p.length + (m + 1) - (p.length + 1) = m by omega] at h4 h42
    refine still_block hs hQ hS _ p listed a h1 ?_
    unfold wpT at h
    refine quiet_mono (fun a' hq => ?_) h
    refine wpAnyH_all hrd (by simp) fun i hi => ?_
    rw [ho, ho2] at hq
    rcases List.mem_cons.1 hi with rfl | hi
    · refine wpOp_step ho fun K' hK => ?_
      refine hq.1 K' fun a2 w2 h6 S' hS' hS2 h7 => hK _ _ ⟨h6, ?_⟩
      exact anyH_mono hS' _ _ _ _ (any_of_t hs hQ t S' _ a2 w2 _ h4 hS2 h7)
    · rw [List.mem_singleton] at hi
      subst hi
      refine wpOp_step ho2 fun K' hK => ?_
      refine hq.2 K' fun a2 w2 h6 S' hS' hS2 h7 => hK _ _ ⟨h6, ?_⟩
      exact anyH_mono hS' _ _ _ _ (any_of_t hs hQ t2 S' _ a2 w2 _ h42 hS2 h7)

/-- A region that draws its order, by a tree of phases. -/
theorem region_tree {id : Nat} {a : Act} {w : World} {l : List Oper} (S : World → Prop) (t : Ph) (hm : P.follows .mixedOrders = true)
    (hB : (Region.noSelect l.toArray && tB .any l.toArray t (Array.replicate l.toArray.size false) l.toArray.size) = true)
    (hQ : ∀ c a d v w, Q (.panic c) (a.put d v) w → Q (.panic c) a w) (hS : S w.drew)
    (h : wpT P l.toArray Q t S a w.drew) : (Code.region id l.toArray true).wp P Q a w := by
  simp only [Bool.and_eq_true] at hB
  refine wp_region_held (S := S) hm ?_
  exact any_of_t hB.1 hQ t S _ a w.drew _ hB.2 hS h
end

/-- The worlds that go on from one and leave all but one block as it was. -/
def OnR (R : Nat) (w : World) : Type := {x : World // w.grownBy x (some R)}
instance (R : Nat) (w : World) : Nonempty (OnR R w) := ⟨⟨w, World.grownBy.refl _ _⟩⟩
/-- The worlds whose block is as one's. -/
def OnB (g : Nat) (w : World) : Type := {x : World // x.heap[g]? = w.heap[g]?}
instance (g : Nat) (w : World) : Nonempty (OnB g w) := ⟨⟨w, rfl⟩⟩
end Go.Calm
