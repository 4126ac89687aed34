/- A region that draws its order, of operations that only read beside calls that make memory: walked once, by phases: first what only reads, then the one call that may come up, and so on. Own work, on the library's laws for such regions. -/
import Derived.Test.YtoehbkgdodogkaaGreatShared
import Derived.OrdersHeld
namespace Go.Calm
open Go.RowKit

section
variable {P : Program} {ops : Array Oper} {Q : Exit → Act → World → Prop} {md : Region.Mode}

/-- An operation that yields a value and enters nothing. -/
def plainB : Op → Bool
  | .move _ | .assign _ | .pick .. | .load .. | .convert .. | .binOp .. | .unOp .. | .slice .. | .fieldAddr .. | .field .. | .indexAddr .. | .index .. | .extract .. | .build .. => true
  | .call c => match c.callee with
    | .builtin .len | .builtin .cap => true
    | _ => false
  | _ => false

theorem value_of {s : Sem Value} {w w' : World} {n : Next} (h : ((do pure (.value (← s))) : Sem Next).run P w = .ok n w') : ∃ u, n = .value u := by
  rw [Sem.run_bind] at h
  cases hs : s.run P w with
  | ok v w1 => rw [hs] at h; simp [Result.andThen, Sem.run_pure] at h; exact ⟨v, h.1.symm⟩
  | halt x w1 => rw [hs] at h; simp [Result.andThen] at h

theorem plain_value {o : Oper} (hp : plainB o.op = true) {a : Act} {w w' : World} {n : Next} (h : (execOp a.eval o).run P w = .ok n w') : ∃ u, n = .value u := by
  obtain ⟨dst, op, type, pos, after, guard⟩ := o
  cases op with
  | call c =>
    obtain ⟨callee, args, ats⟩ := c
    cases callee with
    | builtin b =>
      cases b with
      | len => exact value_of (s := Builtin.len_ ats type (args.map a.eval)) h
      | cap => exact value_of (s := Builtin.cap_ ats type (args.map a.eval)) h
      | _ => exact absurd hp (by simp [plainB])
    | invoke recv name => exact absurd hp (by simp [plainB])
    | value f => exact absurd hp (by simp [plainB])
  | move x => simp [execOp, Sem.run_pure] at h; exact ⟨_, h.1.symm⟩
  | assign x => simp [execOp, Sem.run_pure] at h; exact ⟨_, h.1.symm⟩
  | pick c x y =>
    simp only [execOp, Sem.run_bind] at h
    cases hs : (asBool (a.eval c)).run P w with
    | ok v w1 => rw [hs] at h; simp [Result.andThen, Sem.run_pure] at h; exact ⟨_, h.1.symm⟩
    | halt x w1 => rw [hs] at h; simp [Result.andThen] at h
  | _ => first
    | (simp [plainB] at hp; done)
    | exact value_of h

theorem yieldsIf_of {S : World → Prop} {o : Oper} {a : Act} {v : Value} (hp : plainB o.op = true) (hw : Region.wanted o (yielded ops a.tmps) = true) (h : ∀ w, S w → o.quietAt P a S w v) : YieldsIf P ops S o v a := by
  refine .inl ⟨hw, fun w hS => ?_⟩
  have h1 := h w hS
  unfold Oper.quietAt at h1
  cases hr : (execOp a.eval o).run P w with
  | ok n w' =>
    obtain ⟨u, rfl⟩ := plain_value hp hr
    rw [hr] at h1
    simp only [Oper.quietUpon] at h1
    rw [h1.1, h1.2]
  | halt x w' => rw [hr] at h1; simp [Oper.quietUpon] at h1

def pickOps (ops : Array Oper) : List Nat → List Oper
  | [] => []
  | i :: r => match ops[i]? with
    | some o => o :: pickOps ops r
    | none => pickOps ops r
def marked : List Nat → Array Bool → Array Bool
  | [], l => l
  | i :: r, l => marked r (l.setIfInBounds i true)
def stillB (md : Region.Mode) (ops : Array Oper) : List Nat → Array Bool → Bool
  | [], _ => true
  | i :: r, l => (match ops[i]? with | some o => plainB o.op | none => false) && Region.free md ops l i && (Region.ready md ops l).contains i && stillB md ops r (l.setIfInBounds i true)

theorem anyH_mono {S S' : World → Prop} (h : ∀ x, S' x → S x) : ∀ (fuel : Nat) (listed : Array Bool) (a : Act) (w : World), wpAnyH P md ops Q S' fuel listed a w → wpAnyH P md ops Q S fuel listed a w
  | 0, _, _, _, k => k
  | fuel + 1, _, _, _, k => ⟨k.1, fun i hi => wpOp_mono (fun a w hk => ⟨h _ hk.1, anyH_mono h fuel _ a w hk.2⟩) (k.2 i hi)⟩

/-- What only reads comes first. -/
theorem still_block {S : World → Prop} (hs : Region.noSelect ops = true) (hQ : ∀ c a d v w, Q (.panic c) (a.put d v) w → Q (.panic c) a w) {w : World} (hS : S w) (fuel : Nat) :
    ∀ (p : List Nat) (listed : Array Bool) (a : Act), stillB md ops p listed = true →
      wpQuiet P ops S (fun a' => wpAnyH P md ops Q S fuel (marked p listed) a' w) (pickOps ops p) a → wpAnyH P md ops Q S (p.length + fuel) listed a w
  | [], _, _, _, h => by rw [List.length_nil, Nat.zero_add]; exact h
  | i :: r, listed, a, hb, h => by
    unfold stillB at hb
    cases ho : ops[i]? with
    | none => rw [ho] at hb; simp at hb
    | some o =>
      rw [ho] at hb
      simp only [Bool.and_eq_true] at hb
      obtain ⟨⟨⟨hp, hf⟩, hr⟩, hrest⟩ := hb
      have hl : pickOps ops (i :: r) = o :: pickOps ops r := by simp only [pickOps, ho]
      rw [hl] at h
      rw [show (i :: r).length + fuel = (r.length + fuel) + 1 by rw [List.length_cons]; omega]
      unfold wpQuiet at h
      by_cases hw : Region.wanted o (yielded ops a.tmps) = true
      · rw [if_pos hw] at h
        obtain ⟨v, h1, h2⟩ := h
        exact wpAnyH_take ho hs hf hr (fun c a w => hQ c a o.dst v w) (yieldsIf_of hp hw h1) hS (still_block hs hQ hS fuel r _ _ hrest h2)
      · rw [if_neg hw] at h
        exact wpAnyH_take ho hs hf hr (fun c a w => hQ c a o.dst undef w) (.inr ⟨by simpa using hw, rfl⟩) hS (still_block hs hQ hS fuel r _ _ hrest h)

/-- The phases: what only reads, then one operation; at last what only reads. Behind the operation a narrower class of worlds may be taken. -/
def wpPh (P : Program) (ops : Array Oper) (Q : Exit → Act → World → Prop) (last : List Oper) : List (List Oper × Oper) → (World → Prop) → Act → World → Prop
  | [], S, a, w => wpQuiet P ops S (fun a' => Q .normal a' w) last a
  | (p, o) :: r, S, a, w => wpQuiet P ops S (fun a' => ∀ K : Act → World → Prop, (∀ a2 w2, (S w2 ∧ ∃ S' : World → Prop, (∀ x, S' x → S x) ∧ S' w2 ∧ wpPh P ops Q last r S' a2 w2) → K a2 w2) →
      if Region.wanted o (yielded ops a'.tmps) = true then Oper.wp P o a' w K Q else K (a'.put o.dst undef) w) p a
def phB (md : Region.Mode) (ops : Array Oper) (last : List Nat) : List (List Nat × Nat) → Array Bool → Bool
  | [], l => stillB md ops last l && (Region.ready md ops (marked last l)).isEmpty
  | (p, k) :: r, l => stillB md ops p l && (match Region.ready md ops (marked p l) with | [j] => j == k | _ => false) && (ops[k]?).isSome && phB md ops last r ((marked p l).setIfInBounds k true)
def phOps (ops : Array Oper) : List (List Nat × Nat) → List (List Oper × Oper)
  | [] => []
  | (p, k) :: r => match ops[k]? with
    | some o => (pickOps ops p, o) :: phOps ops r
    | none => phOps ops r
def phLen : List (List Nat × Nat) → Nat
  | [] => 0
  | (p, _) :: r => p.length + 1 + phLen r

theorem any_of_ph (hs : Region.noSelect ops = true) (hQ : ∀ c a d v w, Q (.panic c) (a.put d v) w → Q (.panic c) a w) (last : List Nat) (x : Nat) :
    ∀ (ph : List (List Nat × Nat)) (S : World → Prop) (listed : Array Bool) (a : Act) (w : World), phB md ops last ph listed = true → S w →
      wpPh P ops Q (pickOps ops last) (phOps ops ph) S a w → wpAnyH P md ops Q S (phLen ph + (last.length + x)) listed a w
  | [], S, listed, a, w, hb, hS, h => by
    unfold phB at hb
    simp only [Bool.and_eq_true, List.isEmpty_iff] at hb
    have e : phLen [] + (last.length + x) = last.length + x := Nat.zero_add _
    rw [e]
    refine still_block hs hQ hS x last listed a hb.1 ?_
    have h' : wpQuiet P ops S (fun a' => Q .normal a' w) (pickOps ops last) a := h
    exact wpQuiet_mono' (fun a' hq => wpAnyH_done hb.2 hq x) h'
  | (p, k) :: r, S, listed, a, w, hb, hS, h => by
    unfold phB at hb
    simp only [Bool.and_eq_true] at hb
    obtain ⟨⟨⟨h1, h2⟩, h3⟩, h4⟩ := hb
    obtain ⟨o, ho⟩ := Option.isSome_iff_exists.1 h3
    have hl : phOps ops ((p, k) :: r) = (pickOps ops p, o) :: phOps ops r := by simp only [phOps, ho]
    rw [hl] at h
    have hrd : Region.ready md ops (marked p listed) = [k] := by
      split at h2
      · rename_i j hj; rw [hj]; rw [beq_iff_eq] at h2; rw [h2]
      · cases h2
    have e : phLen ((p, k) :: r) + (last.length + x) = p.length + (phLen r + (last.length + x) + 1) := by simp only [phLen]; omega
    rw [e]
    refine still_block hs hQ hS _ p listed a h1 ?_
    unfold wpPh at h
    refine wpQuiet_mono' (fun a' hq => ?_) h
    refine wpAnyH_all hrd (by simp) fun i hi => ?_
    rw [List.mem_singleton] at hi
    subst hi
    refine wpOp_step ho fun K' hK => ?_
    refine hq K' fun a2 w2 h5 => hK _ _ ⟨h5.1, ?_⟩
    obtain ⟨_, S', hS', hS2, h6⟩ := h5
    exact anyH_mono hS' _ _ _ _ (any_of_ph hs hQ last x r S' _ a2 w2 h4 hS2 h6)
where
  wpQuiet_mono' {S : World → Prop} {Q1 Q2 : Act → Prop} (h : ∀ a, Q1 a → Q2 a) : ∀ {l : List Oper} {a : Act}, wpQuiet P ops S Q1 l a → wpQuiet P ops S Q2 l a
    | [], _, k => h _ k
    | o :: r, a, k => by
      unfold wpQuiet at k ⊢
      split
      · rename_i hw; rw [if_pos hw] at k; obtain ⟨v, h1, h2⟩ := k; exact ⟨v, h1, wpQuiet_mono' h h2⟩
      · rename_i hw; rw [if_neg hw] at k; exact wpQuiet_mono' h k

/-- A region that draws its order, by phases. -/
theorem region_calm {id : Nat} {a : Act} {w : World} {l : List Oper} (S : World → Prop) (ph : List (List Nat × Nat)) (last : List Nat) (hm : P.follows .mixedOrders = true)
    (hB : (Region.noSelect l.toArray && phB .any l.toArray last ph (Array.replicate l.toArray.size false) && decide (phLen ph + last.length = l.toArray.size)) = true)
    (hQ : ∀ c a d v w, Q (.panic c) (a.put d v) w → Q (.panic c) a w) (hS : S w.drew)
    (h : wpPh P l.toArray Q (pickOps l.toArray last) (phOps l.toArray ph) S a w.drew) : (Code.region id l.toArray true).wp P Q a w := by
  simp only [Bool.and_eq_true, decide_eq_true_iff] at hB
  refine wp_region_held (S := S) hm ?_
  have := any_of_ph hB.1.1 hQ last 0 ph S _ a w.drew hB.1.2 hS h
  rw [Nat.add_zero, hB.2] at this
  exact this
end

/-- The worlds that go on from one and leave what lies below B as it was. -/
def On (B : Nat) (w : World) : Type := {x : World // Below B w x}
instance (B : Nat) (w : World) : Nonempty (On B w) := ⟨⟨w, Below.refl _ _⟩⟩
end Go.Calm
