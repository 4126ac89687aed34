/- A region that draws its order, of operations that only read, checks of nil and look-ups among them, beside ones that make memory or call: walked by a tree of phases. Own work, on the library's laws for such regions. -/
import Derived.Test.YtoehbkgdodogkaaGreatShared
import Derived.OrdersHeld
import Derived.Test.YtoehbkgdodogkaaGreatKG
namespace Go.CalmN
open Go.RowKit

section
variable {P : Program} {ops : Array Oper} {Q : Exit → Act → World → Prop} {md : Region.Mode}

/-- An operation that yields a value and enters nothing. -/
def plainB : Op → Bool
  | .move _ | .assign _ | .pick .. | .load .. | .convert .. | .binOp .. | .unOp .. | .slice .. | .fieldAddr .. | .field .. | .indexAddr .. | .index .. | .extract .. | .build .. | .nilCheck _ | .lookup .. => true
  | .call c => match c.callee with
    | .builtin .len | .builtin .cap => true
    | _ => false
  | _ => false

theorem value_of {s : Sem Value} {w w' : World} {n : Next} (h : ((do pure (.value (← s))) : Sem Next).run P w = .ok n w') : ∃ u, n = .value u := by
  rw [Sem.run_bind] at h
  cases hs : s.run P w with
  | ok v w1 => rw [hs] at h; simp [Result.andThen, Sem.run_pure] at h; exact ⟨v, h.1.symm⟩
  | halt x w1 => rw [hs] at h; simp [Result.andThen] at h

theorem never_rt {α : Type} {w w' : World} {n : α} (h : (runtimePanic .nilDeref : Sem α).run P w = .ok n w') : False := by
  simp [runtimePanic, Result.andThen] at h
theorem plain_value {o : Oper} (hp : plainB o.op = true) {a : Act} {w w' : World} {n : Next} (h : (execOp a.eval o).run P w = .ok n w') : ∃ u, n = .value u := by
  obtain ⟨dst, op, type, pos, after, guard⟩ := o
  cases op with
  | call c =>
    obtain ⟨callee, args, ats⟩ := c
    cases callee with
    | builtin b =>
      cases b with
      | len => exact value_of (s := Builtin.len_ ats type (args.map a.eval)) h
      | cap => exact value_of (s := Builtin.cap_ ats type (args.map a.eval)) h
      | _ => exact absurd hp (by simp [plainB])
    | invoke recv name => exact absurd hp (by simp [plainB])
    | value f => exact absurd hp (by simp [plainB])
  | move x => simp [execOp, Sem.run_pure] at h; exact ⟨_, h.1.symm⟩
  | assign x => simp [execOp, Sem.run_pure] at h; exact ⟨_, h.1.symm⟩
  | pick c x y =>
    simp only [execOp, Sem.run_bind] at h
    cases hs : (asBool (a.eval c)).run P w with
    | ok v w1 => rw [hs] at h; simp [Result.andThen, Sem.run_pure] at h; exact ⟨_, h.1.symm⟩
    | halt x w1 => rw [hs] at h; simp [Result.andThen] at h
  | nilCheck x =>
    simp only [execOp] at h
    split at h
    · exact (never_rt h).elim
    · exact (never_rt h).elim
    · exact (never_rt h).elim
    · split at h
      · exact (never_rt h).elim
      · simp only [Sem.run_bind] at h
        generalize (program : Sem Program).run P w = r1 at h
        cases r1 with
        | halt x w1 => simp [Result.andThen] at h
        | ok pr w1 =>
          simp only [Result.andThen_ok] at h
          revert h
          generalize (nilAhead _ _ _ _).run P w1 = r2
          intro h
          cases r2 with
          | halt x w1 => simp [Result.andThen] at h
          | ok b w2 =>
            simp only [Result.andThen_ok] at h
            split at h
            · simp [Result.andThen] at h
            · simp [Sem.run_pure] at h; exact ⟨_, h.1.symm⟩
      · simp [Sem.run_pure] at h; exact ⟨_, h.1.symm⟩
    · simp [Sem.run_pure] at h; exact ⟨_, h.1.symm⟩
  | _ => first
    | (simp [plainB] at hp; done)
    | exact value_of h

theorem yieldsIf_of {S : World → Prop} {o : Oper} {a : Act} {v : Value} (hp : plainB o.op = true) (hw : Region.wanted o (yielded ops a.tmps) = true) (h : ∀ w, S w → o.quietAt P a S w v) : YieldsIf P ops S o v a := by
  refine .inl ⟨hw, fun w hS => ?_⟩
  have h1 := h w hS
  unfold Oper.quietAt at h1
  cases hr : (execOp a.eval o).run P w with
  | ok n w' =>
    obtain ⟨u, rfl⟩ := plain_value hp hr
    rw [hr] at h1
    simp only [Oper.quietUpon] at h1
    rw [h1.1, h1.2]
  | halt x w' => rw [hr] at h1; simp [Oper.quietUpon] at h1

def pickOps (ops : Array Oper) : List Nat → List Oper
  | [] => []
  | i :: r => match ops[i]? with
    | some o => o :: pickOps ops r
    | none => pickOps ops r
def marked : List Nat → Array Bool → Array Bool
  | [], l => l
  | i :: r, l => marked r (l.setIfInBounds i true)
def stillB (md : Region.Mode) (ops : Array Oper) : List Nat → Array Bool → Bool
  | [], _ => true
  | i :: r, l => (match ops[i]? with | some o => plainB o.op | none => false) && Region.free md ops l i && (Region.ready md ops l).contains i && stillB md ops r (l.setIfInBounds i true)

theorem anyH_mono {S S' : World → Prop} (h : ∀ x, S' x → S x) : ∀ (fuel : Nat) (listed : Array Bool) (a : Act) (w : World), wpAnyH P md ops Q S' fuel listed a w → wpAnyH P md ops Q S fuel listed a w
  | 0, _, _, _, k => k
  | fuel + 1, _, _, _, k => ⟨k.1, fun i hi => wpOp_mono (fun a w hk => ⟨h _ hk.1, anyH_mono h fuel _ a w hk.2⟩) (k.2 i hi)⟩

/-- What only reads comes first. -/
theorem still_block {S : World → Prop} (hs : Region.noSelect ops = true) (hQ : ∀ c a d v w, Q (.panic c) (a.put d v) w → Q (.panic c) a w) {w : World} (hS : S w) (fuel : Nat) :
    ∀ (p : List Nat) (listed : Array Bool) (a : Act), stillB md ops p listed = true →
      wpQuiet P ops S (fun a' => wpAnyH P md ops Q S fuel (marked p listed) a' w) (pickOps ops p) a → wpAnyH P md ops Q S (p.length + fuel) listed a w
  | [], _, _, _, h => by rw [List.length_nil, Nat.zero_add]; exact h
  | i :: r, listed, a, hb, h => by
    unfold stillB at hb
    cases ho : ops[i]? with
    | none => rw [ho] at hb; simp at hb
    | some o =>
      rw [ho] at hb
      simp only [Bool.and_eq_true] at hb
      obtain ⟨⟨⟨hp, hf⟩, hr⟩, hrest⟩ := hb
      have hl : pickOps ops (i :: r) = o :: pickOps ops r := by simp only [pickOps, ho]
      rw [hl] at h
      rw [show (i :: r).length + fuel = (r.length + fuel) + 1 by rw [List.length_cons]; omega]
      unfold wpQuiet at h
      by_cases hw : Region.wanted o (yielded ops a.tmps) = true
      · rw [if_pos hw] at h
        obtain ⟨v, h1, h2⟩ := h
        exact wpAnyH_take ho hs hf hr (fun c a w => hQ c a o.dst v w) (yieldsIf_of hp hw h1) hS (still_block hs hQ hS fuel r _ _ hrest h2)
      · rw [if_neg hw] at h
        exact wpAnyH_take ho hs hf hr (fun c a w => hQ c a o.dst undef w) (.inr ⟨by simpa using hw, rfl⟩) hS (still_block hs hQ hS fuel r _ _ hrest h)

end

section
variable {P : Program} {ops : Array Oper} {Q : Exit → Act → World → Prop} {md : Region.Mode}

/-- The phases: at last what only reads; or what only reads, and then one operation, or one of two. -/
inductive Ph where
  | fin (last : List Nat)
  | one (p : List Nat) (k : Nat) (t : Ph)
  | two (p : List Nat) (k : Nat) (t : Ph) (k2 : Nat) (t2 : Ph)

/-- One operation, and then the rest in a class of worlds that may be narrower. -/
def wpSt (P : Program) (ops : Array Oper) (Q : Exit → Act → World → Prop) (o : Option Oper) (S : World → Prop) (T : (World → Prop) → Act → World → Prop) (a : Act) (w : World) : Prop :=
  match o with
  | none => True
  | some o => ∀ K : Act → World → Prop, (∀ a2 w2, S w2 → ∀ S' : World → Prop, (∀ x, S' x → S x) → S' w2 → T S' a2 w2 → K a2 w2) →
      if Region.wanted o (yielded ops a.tmps) = true then Oper.wp P o a w K Q else K (a.put o.dst undef) w

def wpT (P : Program) (ops : Array Oper) (Q : Exit → Act → World → Prop) : Ph → (World → Prop) → Act → World → Prop
  | .fin last, S, a, w => wpQuiet P ops S (fun a' => Q .normal a' w) (pickOps ops last) a
  | .one p k t, S, a, w => wpQuiet P ops S (fun a' => wpSt P ops Q ops[k]? S (fun S' a2 w2 => wpT P ops Q t S' a2 w2) a' w) (pickOps ops p) a
  | .two p k t k2 t2, S, a, w => wpQuiet P ops S (fun a' => wpSt P ops Q ops[k]? S (fun S' a2 w2 => wpT P ops Q t S' a2 w2) a' w ∧ wpSt P ops Q ops[k2]? S (fun S' a2 w2 => wpT P ops Q t2 S' a2 w2) a' w) (pickOps ops p) a

def tB (md : Region.Mode) (ops : Array Oper) : Ph → Array Bool → Nat → Bool
  | .fin last, l, n => stillB md ops last l && (Region.ready md ops (marked last l)).isEmpty && (last.length == n)
  | .one p k t, l, n => stillB md ops p l && (match Region.ready md ops (marked p l) with | [j] => j == k | _ => false) && (ops[k]?).isSome && decide (p.length + 1 ≤ n) && tB md ops t ((marked p l).setIfInBounds k true) (n - (p.length + 1))
  | .two p k t k2 t2, l, n => stillB md ops p l && (match Region.ready md ops (marked p l) with | [j, j2] => j == k && j2 == k2 | _ => false) && (ops[k]?).isSome && (ops[k2]?).isSome && decide (p.length + 1 ≤ n) && tB md ops t ((marked p l).setIfInBounds k true) (n - (p.length + 1)) && tB md ops t2 ((marked p l).setIfInBounds k2 true) (n - (p.length + 1))

theorem quiet_mono {S : World → Prop} {Q1 Q2 : Act → Prop} (h : ∀ a, Q1 a → Q2 a) : ∀ {l : List Oper} {a : Act}, wpQuiet P ops S Q1 l a → wpQuiet P ops S Q2 l a
  | [], _, k => h _ k
  | o :: r, a, k => by
    unfold wpQuiet at k ⊢
    split
    · rename_i hw; rw [if_pos hw] at k; obtain ⟨v, h1, h2⟩ := k; exact ⟨v, h1, quiet_mono h h2⟩
    · rename_i hw; rw [if_neg hw] at k; exact quiet_mono h k

theorem any_of_t (hs : Region.noSelect ops = true) (hQ : ∀ c a d v w, Q (.panic c) (a.put d v) w → Q (.panic c) a w) :
    ∀ (t : Ph) (S : World → Prop) (listed : Array Bool) (a : Act) (w : World) (n : Nat), tB md ops t listed n = true → S w → wpT P ops Q t S a w → wpAnyH P md ops Q S n listed a w
  | .fin last, S, listed, a, w, n, hb, hS, h => by
    unfold tB at hb
    simp only [Bool.and_eq_true, List.isEmpty_iff, beq_iff_eq] at hb
    obtain ⟨⟨h1, h2⟩, rfl⟩ := hb
    have e : last.length = last.length + 0 := rfl
    rw [e]
    refine still_block hs hQ hS 0 last listed a h1 ?_
    exact quiet_mono (fun a' hq => wpAnyH_done h2 hq 0) h
  | .one p k t, S, listed, a, w, n, hb, hS, h => by
    unfold tB at hb
    simp only [Bool.and_eq_true, decide_eq_true_iff] at hb
    obtain ⟨⟨⟨⟨h1, h2⟩, h3⟩, h5⟩, h4⟩ := hb
    obtain ⟨o, ho⟩ := Option.isSome_iff_exists.1 h3
    have hrd : Region.ready md ops (marked p listed) = [k] := by
      split at h2
      · rename_i j hj; rw [hj]; rw [beq_iff_eq] at h2; rw [h2]
      · cases h2
    obtain ⟨m, rfl⟩ : ∃ m, n = p.length + (m + 1) := ⟨n - (p.length + 1), by omega⟩
    rw [show p.length + (m + 1) - (p.length + 1) = m by omega] at h4
    refine still_block hs hQ hS _ p listed a h1 ?_
    unfold wpT at h
    refine quiet_mono (fun a' hq => ?_) h
    refine wpAnyH_all hrd (by simp) fun i hi => ?_
    rw [List.mem_singleton] at hi
    subst hi
    refine wpOp_step ho fun K' hK => ?_
    rw [ho] at hq
    refine hq K' fun a2 w2 h6 S' hS' hS2 h7 => hK _ _ ⟨h6, ?_⟩
    exact anyH_mono hS' _ _ _ _ (any_of_t hs hQ t S' _ a2 w2 _ h4 hS2 h7)
  | .two p k t k2 t2, S, listed, a, w, n, hb, hS, h => by
    unfold tB at hb
    simp only [Bool.and_eq_true, decide_eq_true_iff] at hb
    obtain ⟨⟨⟨⟨⟨⟨h1, h2⟩, h3⟩, h32⟩, h5⟩, h4⟩, h42⟩ := hb
    obtain ⟨o, ho⟩ := Option.isSome_iff_exists.1 h3
    obtain ⟨o2, ho2⟩ := Option.isSome_iff_exists.1 h32
    have hrd : Region.ready md ops (marked p listed) = [k, k2] := by
      split at h2
      · rename_i j j2 hj; rw [hj]; simp only [Bool.and_eq_true, beq_iff_eq] at h2; rw [h2.1, h2.2]
      · cases h2
    obtain ⟨m, rfl⟩ : ∃ m, n = p.length + (m + 1) := ⟨n - (p.length + 1), by omega⟩
    rw [show p.length + (m + 1) - (p.length + 1) = m by omega] at h4 h42
    refine still_block hs hQ hS _ p listed a h1 ?_
    unfold wpT at h
    refine quiet_mono (fun a' hq => ?_) h
    refine wpAnyH_all hrd (by simp) fun i hi => ?_
    rw [ho, ho2] at hq
    rcases List.mem_cons.1 hi with rfl | hi
    · refine wpOp_step ho fun K' hK => ?_
      refine hq.1 K' fun a2 w2 h6 S' hS' hS2 h7 => hK _ _ ⟨h6, ?_⟩
      exact anyH_mono hS' _ _ _ _ (any_of_t hs hQ t S' _ a2 w2 _ h4 hS2 h7)
    · rw [List.mem_singleton] at hi
      subst hi
      refine wpOp_step ho2 fun K' hK => ?_
      refine hq.2 K' fun a2 w2 h6 S' hS' hS2 h7 => hK _ _ ⟨h6, ?_⟩
      exact anyH_mono hS' _ _ _ _ (any_of_t hs hQ t2 S' _ a2 w2 _ h42 hS2 h7)

/-- A region that draws its order, by a tree of phases. -/
theorem region_tree {id : Nat} {a : Act} {w : World} {l : List Oper} (S : World → Prop) (t : Ph) (hm : P.follows .mixedOrders = true)
    (hB : (Region.noSelect l.toArray && tB .any l.toArray t (Array.replicate l.toArray.size false) l.toArray.size) = true)
    (hQ : ∀ c a d v w, Q (.panic c) (a.put d v) w → Q (.panic c) a w) (hS : S w.drew)
    (h : wpT P l.toArray Q t S a w.drew) : (Code.region id l.toArray true).wp P Q a w := by
  simp only [Bool.and_eq_true] at hB
  refine wp_region_held (S := S) hm ?_
  exact any_of_t hB.1 hQ t S _ a w.drew _ hB.2 hS h
end

end Go.CalmN

/- Contracts over this program: a builder's nonterminals. -/
namespace Go.Proofs.YtoehbkgdodogkaaGreat
set_option maxRecDepth 100000
open Go.RowKit

/-- A store into a map, alone. -/
theorem wp_store {P : Program} {w : World} {o : Oper} {a : Act} {Q : Exit → Act → World → Prop} {K : Act → World → Prop}
    (m x v : Operand) (t : TypeId) (hop : o.op = Op.mapUpdate t m x v) {mv xv vv : Value} {R : World → Prop} (h : ∃ w', (Instr.mapUpdate t mv xv vv).run P w = .ok () w' ∧ R w') (hm : a.eval m = mv) (hx : a.eval x = xv) (hv : a.eval v = vv)
    (hK : ∀ w', R w' → K (a.put o.dst undef) w') : Oper.wp P o a w K Q := by
  obtain ⟨w', hrun, hR⟩ := h
  unfold Oper.wp
  simp [execOp, hop, hm, hx, hv, hrun, Result.andThen]
  exact hK w' hR
/-- What a rule's Left answers. -/
def AnsL (L : List Int) (w' : World) (B N R : Nat) (S : St) (x : Tok) (r : Gm.R (List (List Int))) (e : Ending) : Prop := match r with
  | .ok ns => e = .returned (.int .i64 0) ∧ Bld L w' B N R { S with ns := ns }
  | .bad y er => er ≠ 0 ∧ y = x ∧ e = .returned (.int .i64 er)
set_option maxHeartbeats 4000000 in
theorem left_any (L : List Int) (B N R : Nat) (S : St) (x : Tok) (w : World) (hb : Bld L w B N R S) (hs : K.Tx x.t) (hnm : T.isName x.t = true) (hB : B ≤ w.heap.size) (hlt : S.ns.length ≤ 16) :
    Calls Tryz.prog 64 #[.pointer (some ⟨R, 0, none⟩), .string (K.str x.t)] w fun e w' => AnsL L w' B N R S x (Gm.left1 S.s.ts S.ns x) e ∧ Below B w w' ∧ KeepA w w' := by
  have HNA := hide (fun y => name_any x.t hs.1 y)
  rw [hnm] at HNA
  have HBL := hide hb
  have HLK := hide (fun (y : World) (h : Below w.heap.size w y) => (by
    obtain ⟨vT, vN, vR, Ms, Mt, ml, tl, h⟩ := hb.below h
    exact ⟨vT, vN, vR, Ms, Mt, ml, tl, h, look_sym h.w.ms h.so x.t hs, h.w.at 4⟩ : ∃ vT vN vR Ms Mt ml tl, BldAt L y B N R S vT vN vR Ms Mt ml tl ∧ (Instr.lookup 72 (.map (some Ms)) (.string (K.str x.t)) true).run Tryz.prog y = .ok (.tuple #[(symV S.s.ts S.ns x.t).getD (.int .i64 0), .bool (symV S.s.ts S.ns x.t).isSome]) y ∧ y.cell? ⟨R, 4, none⟩ = some (.map (some Ms)) ∧ y.frozen? ⟨R, 4, none⟩ = false ∧ R < y.heap.size))
  have HTX := hide hs
  have HLT := hide hlt
  clear hb hs hnm hlt
  unfold Gm.left1
  by_cases h1 : 0 ≤ Gm.find (Gm.names S.s.ts) x.t
  · have he : symV S.s.ts S.ns x.t = some (.int .i64 (Gm.find (Gm.names S.s.ts) x.t)) := by unfold symV; rw [if_pos h1]
    rw [he] at HLK
    simp only [Option.getD_some, Option.isSome_some] at HLK
    have HIT := hide (fun y => isTerm_any (Gm.find (Gm.names S.s.ts) x.t) y)
    rw [decide_eq_true h1] at HIT
    simp only [if_pos h1]
    clear h1 he
    generalize Gm.find (Gm.names S.s.ts) x.t = z at *
    go_enter Tryz.func64, Tryz.ntmps64
    go_wp2_with fail
    refine (HNA.out _).mono ?_; rintro _ w2 ⟨rfl, hb2⟩
    have HB2 := hide hb2
    obtain ⟨vT, vN, vR, Ms, Mt, ml, tl, h, hlk, c4, _, hRs⟩ := HLK.out _ hb2
    clear h hb2
    go_wp2_with fail
    refine (HIT.out _).mono ?_; rintro _ w5 ⟨rfl, hw5⟩
    subst hw5
    go_wp2
    go_ret
    exact ⟨⟨by decide, rfl, rfl⟩, HB2.out.mono hB, KeepA.below HB2.out⟩
  by_cases h2 : 0 ≤ Gm.find S.ns x.t
  · have he : symV S.s.ts S.ns x.t = some (.int .i64 (-1 - Gm.find S.ns x.t)) := by unfold symV; rw [if_neg h1, if_pos h2]
    rw [he] at HLK
    simp only [Option.getD_some, Option.isSome_some] at HLK
    have HIT := hide (fun y => isTerm_any (-1 - Gm.find S.ns x.t) y)
    rw [decide_eq_false (by omega)] at HIT
    simp only [if_neg h1, if_pos h2]
    clear h1 h2 he
    generalize -1 - Gm.find S.ns x.t = z at *
    go_enter Tryz.func64, Tryz.ntmps64
    go_wp2_with fail
    refine (HNA.out _).mono ?_; rintro _ w2 ⟨rfl, hb2⟩
    have HB2 := hide hb2
    obtain ⟨vT, vN, vR, Ms, Mt, ml, tl, h, hlk, c4, _, hRs⟩ := HLK.out _ hb2
    clear h hb2
    go_wp2_with fail
    refine (HIT.out _).mono ?_; rintro _ w5 ⟨rfl, hw5⟩
    subst hw5
    go_wp2
    go_ret
    exact ⟨⟨rfl, HBL.out.below HB2.out⟩, HB2.out.mono hB, KeepA.below HB2.out⟩
  have he : symV S.s.ts S.ns x.t = none := symV_none (by omega) (by omega)
  rw [he] at HLK
  simp only [Option.getD_none, Option.isSome_none] at HLK
  simp only [if_neg h1, if_neg h2]
  by_cases h3 : S.ns.length = 16
  · simp only [if_pos h3]
    have e3 : ((S.ns.length : Int) == 16) = true := beq_iff_eq.2 (by omega)
    clear h1 h2 h3 he
    go_enter Tryz.func64, Tryz.ntmps64
    go_wp2_with fail
    refine (HNA.out _).mono ?_; rintro _ w2 ⟨rfl, hb2⟩
    have HB2 := hide hb2
    obtain ⟨vT, vN, vR, Ms, Mt, ml, tl, h, hlk, c4, _, hRs⟩ := HLK.out _ hb2
    obtain ⟨AN, cN, rfl, _, _⟩ := own_form h.w.n
    have c1 : w2.cell? ⟨R, 1, none⟩ = some (.slice AN S.ns.length cN) := cell_of_row w2 R 1 _ _ _ h.w.b
    clear h hb2
    go_wp2
    go_ret
    exact ⟨⟨by decide, rfl, rfl⟩, HB2.out.mono hB, KeepA.below HB2.out⟩
  simp only [if_neg h3]
  have e3 : ((S.ns.length : Int) == 16) = false := beq_eq_false_iff_ne.2 (by omega)
  have HSO := hide (fun ml (h : SymOk ml S.s.ts S.ns) => h.non (s := x.t) (by omega) (by omega))
  have HNO := hide (fun ml (h : SymOk ml S.s.ts S.ns) => ((h x.t).trans he : Mw.asc ml x.t = none))
  have hlen : (S.ns.length : Int) ≤ 16 := by have := HLT.out; omega
  have HNN := hide (fun y => non_any (S.ns.length : Int) (by omega) (by omega) y)
  clear h1 h2 h3 he
  go_enter Tryz.func64, Tryz.ntmps64
  go_wp2_with fail
  refine (HNA.out _).mono ?_; rintro _ w2 ⟨rfl, hb2⟩
  have HB2 := hide hb2
  obtain ⟨vT, vN, vR, Ms, Mt, ml, tl, h, hlk, c4, _, hRs⟩ := HLK.out _ hb2
  obtain ⟨AN, cN, rfl, _, _⟩ := own_form h.w.n
  have HH := hide h
  have c1 : w2.cell? ⟨R, 1, none⟩ = some (.slice AN S.ns.length cN) := cell_of_row w2 R 1 _ _ _ h.w.b
  have HST := hide (Mw.run_store (x := x.t) (h.w.ms.block (w' := w2.drew) rfl) strK Tryz.underlying72 HTX.out (.int .i64 (-1 - (S.ns.length : Int))) (.inl (HNO.out _ h.so)))
  rw [if_pos (HNO.out _ h.so)] at HST
  have hMs := h.w.hs
  have hne : Ms ≠ R := fun e => by have hb := h.w.b; rw [← e] at hb; exact h.w.ms.not_cells hb
  clear h hb2
  go_wp2_with fail
  have C1 : ∀ y : Calm.OnB R w2, y.1.cell? ⟨R, 1, none⟩ = some (.slice AN S.ns.length cN) := fun y => cell_of_row y.1 R 1 _ _ _ (y.2.trans HH.out.w.b)
  have C4 : ∀ y : Calm.OnB R w2, y.1.cell? ⟨R, 4, none⟩ = some (.map (some Ms)) := fun y => cell_of_row y.1 R 4 _ _ _ (y.2.trans HH.out.w.b)
  refine CalmN.region_tree (fun x => ∃ y : Calm.OnB R w2, x = y.1) (.one [0, 1, 2, 3, 4, 5, 6, 7, 8, 9, 10] 11 (.one [] 12 (.fin []))) (by kernel_rfl) (by kernel_rfl) (fun _ _ d _ _ h => by cases d <;> exact h) ⟨⟨w2.drew, rfl⟩, rfl⟩ ?_
  clear c1 c4 hlk
  simp only [CalmN.wpT, CalmN.wpSt, CalmN.pickOps, List.getElem?_toArray, List.getElem?_cons_zero, List.getElem?_cons_succ]
  repeat (go_big_quiet_step (fail))
  refine wpQuiet_nil ?_
  clear C1 C4
  intro KK hKK
  rw [if_pos (by rfl)]
  go_wp2_with fail
  refine (HNN.out _).mono ?_; rintro _ w5 ⟨rfl, hw5⟩
  subst hw5
  go_wp2_with fail
  refine hKK _ _ ⟨⟨w2.drew, rfl⟩, rfl⟩ (fun x => ∃ y : Calm.OnB R w2, x = y.1) (fun _ h => h) ⟨⟨w2.drew, rfl⟩, rfl⟩ ?_
  refine wpQuiet_nil ?_
  intro KK hKK
  rw [if_pos (by rfl)]
  refine wp_store _ _ _ _ rfl HST.out rfl rfl rfl ?_; rintro w3 ⟨hm3, hg3⟩
  have hR3 : w3.heap[R]? = w2.heap[R]? := hg3.block R hRs (fun e => by injection e with e; exact hne e.symm)
  have HG3 : Hid (w2.grownBy w3 (some Ms)) := hide ⟨hg3.os, hg3.tape, hg3.output, hg3.size, fun k h1 h2 => hg3.block k h1 h2⟩
  have H3 := hide (HH.out.w.ms_put hm3 HG3.out)
  have HR3 := hide hR3
  clear hm3 hg3 hR3
  refine hKK _ _ ⟨⟨w3, HR3.out⟩, rfl⟩ (fun x => ∃ y : Calm.OnB R w2, x = y.1) (fun _ h => h) ⟨⟨w3, HR3.out⟩, rfl⟩ ?_
  refine wpQuiet_nil ?_
  clear hKK
  have c1 : w3.cell? ⟨R, 1, none⟩ = some (.slice AN S.ns.length cN) := (H3.out.at 1).1
  have hR3s := (H3.out.at 1).2.2
  have hBw : B ≤ w3.heap.size := Nat.le_trans hB (Nat.le_trans HB2.out.size HG3.out.size)
  go_wp2_with (refine apN_arm rfl (.tmp 46) (.tmp 48) _ rfl Tryz.underlying23 B _ S.ns rfl (H3.out.alloc _).n _ _ x.t rfl ((new_cells _ [.string (K.str x.t)] _ 0)) (by have := HLT.out; omega) (by simp; omega) ?_; intro v4 w4 ho4 hg4; obtain ⟨A4, n4, c4, rfl⟩ := own_slice ho4; obtain ⟨hk4, hf4, hs4⟩ := (((H3.out.alloc _).n_put ho4 hg4).at 1))
  go_ret
  have a0 := H3.out.alloc (.cells #[.string (K.str x.t)] 9)
  have a1 := a0.n_put ho4 hg4
  have a2 := a1.set 1 (.slice A4 n4 c4)
  have hb1 : Below B w w3 := (HB2.out.mono hB).trans (below_row HG3.out (fun k e => by injection e with e; omega) (Nat.le_trans hB HB2.out.size))
  have hb4 : Below B w w4 := (hb1.alloc hBw (.cells #[.string (K.str x.t)] 9)).grown hg4 (by simp; omega) (fun k e => (own_holds a0.n e).1)
  refine ⟨⟨rfl, vT, .slice A4 n4 c4, vR, Ms, Mt, _, tl, ⟨a2, HSO.out _ HH.out.so, HH.out.ko⟩⟩, hb4.setCell a1.hR _, ?_⟩
  exact (((KeepA.below HB2.out).trans (KeepT.map HG3.out HH.out.w.ms).a).trans (KeepA.below ((Below.refl _ _).alloc (Nat.le_refl _) _))).trans ((KeepA.own a0.n hg4 (.inr (.inl rfl))).trans (KeepA.cells (only_set (World.grownBy.refl _ _) 1 _) a1.b (.inl rfl)))
end Go.Proofs.YtoehbkgdodogkaaGreat

/- Contracts over this program: a builder's second step. -/
namespace Go.Proofs.YtoehbkgdodogkaaGreat
set_option maxRecDepth 100000
open Go.RowKit

/-- A slice value's address A, with these rules of a source, all of it below block B. -/
def RdPd (L : List Int) (w : World) (B : Nat) (A : Option Addr) (ps : List Y.Prd) : Prop :=
  ps.length ≠ 0 → ∃ g o, A = some ⟨g, o, none⟩ ∧ g < B ∧ ∀ i (h : i < ps.length), w.cell? ⟨g, o + i * 5, none⟩ = some (.string (K.str ps[i].l.t)) ∧ w.cell? ⟨g, o + i * 5 + 1, none⟩ = some (.complex .f64 (rfX L ps[i].l) (rfY L ps[i].l)) ∧ (∃ A' c', w.cell? ⟨g, o + i * 5 + 2, none⟩ = some (.slice A' ps[i].r.length c') ∧ RdRf L w B A' ps[i].r) ∧ w.cell? ⟨g, o + i * 5 + 3, none⟩ = some (.string (soS ps[i].p)) ∧ w.cell? ⟨g, o + i * 5 + 4, none⟩ = some (.complex .f64 (soX L ps[i].p) (soY L ps[i].p))
theorem RdPd.keep {L : List Int} {w w' : World} {B : Nat} {A : Option Addr} {xs : List Y.Prd} (h : RdPd L w B A xs) (hb : Below B w w') : RdPd L w' B A xs := fun hn => by
  obtain ⟨g, o, e, hg, hc⟩ := h hn
  refine ⟨g, o, e, hg, fun i hi => ?_⟩
  obtain ⟨h1, h2, ⟨A', c', h3, h4⟩, h5, h6⟩ := hc i hi
  exact ⟨(hb.cell (p := ⟨g, o + i * 5, none⟩) hg).trans h1, (hb.cell (p := ⟨g, o + i * 5 + 1, none⟩) hg).trans h2, ⟨A', c', (hb.cell (p := ⟨g, o + i * 5 + 2, none⟩) hg).trans h3, h4.keep hb⟩, (hb.cell (p := ⟨g, o + i * 5 + 3, none⟩) hg).trans h5, (hb.cell (p := ⟨g, o + i * 5 + 4, none⟩) hg).trans h6⟩
/-- A rule of a source that may be. -/
def PdOk (p : Y.Prd) : Prop := (T.isName p.l.t = true ∧ K.Bytes p.l.t) ∧ (∀ x ∈ p.r, Gm.named x.t = true ∧ K.Bytes x.t) ∧ (∀ x, p.p = some x → Gm.named x.t = true ∧ K.Bytes x.t) ∧ p.r.length ≤ 1000000
theorem left1_len {ts : List Gm.Tm} {ns ns' : List (List Int)} {x : Tok} (h : Gm.left1 ts ns x = .ok ns') (hl : ns.length ≤ 16) : ns'.length ≤ 16 := by
  rcases Gm.left1_ok h with ⟨rfl, _⟩ | ⟨rfl, _, _, h4⟩
  · exact hl
  · rw [List.length_append, List.length_singleton]; omega
theorem lefts_drop {ts : List Gm.Tm} {ns : List (List Int)} {ps : List Y.Prd} {i : Nat} (h : i < ps.length) : Gm.lefts ts ns (ps.drop i) = (Gm.left1 ts ns ps[i].l).bind fun ns => Gm.lefts ts ns (ps.drop (i + 1)) := by
  rw [List.drop_eq_getElem_cons h, Gm.lefts]
theorem lefts_end {ts : List Gm.Tm} {ns : List (List Int)} {ps : List Y.Prd} {i : Nat} (h : ps.length ≤ i) : Gm.lefts ts ns (ps.drop i) = .ok ns := by
  rw [List.drop_eq_nil_of_le h, Gm.lefts]
/-- What the second step answers. -/
def AnsG (L : List Int) (w' : World) (B N R : Nat) (S : St) (r : Gm.R (List (List Int))) (e : Ending) : Prop := match r with
  | .ok ns => e = .returned (.tuple #[.complex .f64 0 0, .int .i64 0]) ∧ Bld L w' B N R { S with ns := ns } ∧ ns.length ≤ 16
  | .bad y er => er ≠ 0 ∧ e = .returned (.tuple #[.complex .f64 (rfX L y) (rfY L y), .int .i64 er])
def pdCells (L : List Int) (p : Y.Prd) (A : Option Addr) (c : Nat) : Array Value := #[.string (K.str p.l.t), .complex .f64 (rfX L p.l) (rfY L p.l), .slice A p.r.length c, .string (soS p.p), .complex .f64 (soX L p.p) (soY L p.p)]

set_option maxHeartbeats 4000000 in
theorem lead_any (L : List Int) (B N R : Nat) (S : St) (ps : List Y.Prd) (A A2 : Option Addr) (c n2 c2 : Nat) (w : World) (hb : Bld L w B N R S) (hd : ∀ d ∈ ps, PdOk d) (hr : RdPd L w B A ps) (hl : S.ns.length ≤ 16) (hB : B ≤ w.heap.size) (hlen : ps.length ≤ 1000000) :
    Calls Tryz.prog 45 #[.pointer (some ⟨R, 0, none⟩), .agg #[.slice A2 n2 c2, .slice A ps.length c]] w fun e w' => AnsG L w' B N R S (Gm.lefts S.s.ts S.ns ps) e ∧ Below B w w' ∧ KeepA w w' := by
  have SC := fun a w m X Y => show (store a (.complex .f64 X Y) m).run Tryz.prog w = stored Tryz.prog w a (.complex .f64 X Y) m from run_store _ w a _ m rfl
  have HR := hide hr
  have HDC := hide (fun (i : Nat) (hi : i < ps.length) => hd _ (List.getElem_mem hi))
  have HB0 := hide (hb.alloc (.cells #[.slice A2 n2 c2, .slice A ps.length c] 57))
  have HW0 := hide (((Below.refl B w).alloc hB (.cells #[.slice A2 n2 c2, .slice A ps.length c] 57)))
  have HK0 := hide (KeepA.below ((Below.refl w.heap.size w).alloc (Nat.le_refl _) (.cells #[.slice A2 n2 c2, .slice A ps.length c] 57)))
  have HL0 := hide hl
  clear hr hb hd hl
  go_enter Tryz.func45, Tryz.ntmps45
  go_wp2
  go_loopw [12] (fun vi wr => ∃ (i : Nat) (ns : List (List Int)), i ≤ ps.length ∧ vi = .int .i64 i ∧ Hid (Gm.lefts S.s.ts S.ns ps = Gm.lefts S.s.ts ns (ps.drop i)) ∧ Hid (ns.length ≤ 16) ∧ Hid (Bld L wr B N R { S with ns := ns }) ∧ Below B w wr ∧ Hid (KeepA w wr)) (fun vi _ => ps.length - (intOf vi).toNat)
  case atStart => exact ⟨0, S.ns, Nat.zero_le _, rfl, hide rfl, HL0, HB0, HW0.out, HK0⟩
  case round =>
    obtain ⟨i, ns, hi, rfl, HE, HL, HBL, hbw, HKT⟩ := hrel
    have HBW := hide hbw
    clear hbw
    by_cases hlt : i < ps.length
    · obtain ⟨g, o, rfl, hgB, hc⟩ := HR.out (by omega)
      obtain ⟨k0, k1, ⟨A', c', k2, _⟩, k3, k4⟩ := hc i hlt
      have k0 := (HBW.out.cell (p := ⟨g, o + i * 5, none⟩) hgB).trans k0
      have k1 := (HBW.out.cell (p := ⟨g, o + i * 5 + 1, none⟩) hgB).trans k1
      have k2 := (HBW.out.cell (p := ⟨g, o + i * 5 + 2, none⟩) hgB).trans k2
      have k3 := (HBW.out.cell (p := ⟨g, o + i * 5 + 3, none⟩) hgB).trans k3
      have k4 := (HBW.out.cell (p := ⟨g, o + i * 5 + 4, none⟩) hgB).trans k4
      have hBs := HBW.out.size
      have hgs : g < wr.heap.size := by omega
      obtain ⟨d1, _⟩ := HDC.out i hlt
      have HCB := hide (HBL.out.alloc (.cells (pdCells L ps[i] A' c') 102))
      have HCW := hide (HBW.out.alloc (Nat.le_trans hB HBW.out.size) (.cells (pdCells L ps[i] A' c') 102))
      have HCK := hide (HKT.out.trans (KeepA.below ((Below.refl wr.heap.size wr).alloc (Nat.le_refl _) (.cells (pdCells L ps[i] A' c') 102))))
      have HCR := hide (heap_alloc_new wr (.cells (pdCells L ps[i] A' c') 102))
      have HC := hide (left_any L B N R { S with ns := ns } ps[i].l _ HCB.out (Gm.tx_named ⟨by unfold Gm.named; rw [d1.1]; rfl, d1.2⟩) d1.1 (Nat.le_trans hB HCW.out.size) HL.out)
      have HD := hide (lefts_drop (ts := S.s.ts) (ns := ns) hlt)
      have HLN := hide (fun ns' (h : Gm.left1 S.s.ts ns ps[i].l = .ok ns') => left1_len h HL.out)
      unfold pdCells at HCB HCW HCK HCR HC
      clear hc d1
      generalize ps[i] = p at *
      simp only at HC
      cases q : Gm.left1 S.s.ts ns p.l with
      | ok ns' =>
        have HX := hide (HE.out.trans (HD.out.trans (by rw [q, Gm.R.bind_ok])))
        have HLZ := hide (HLN.out ns' q)
        rw [q] at HC
        clear HLN q HD
        generalize soS p.p = s3 at *
        generalize soX L p.p = x4 at *
        generalize soY L p.p = y4 at *
        generalize rfX L p.l = X at *
        generalize rfY L p.l = Y at *
        generalize K.str p.l.t = sx at *
        generalize p.r.length = rl at *
        go_wp2_with fail
        refine HC.out.mono ?_; rintro _ w2 ⟨⟨rfl, hb2⟩, hw2, hk2⟩
        have H2 := hide (And.intro hb2 (And.intro (HCW.out.trans hw2) (HCK.out.trans hk2)))
        clear hb2 hw2 hk2
        go_wp2
        go_roundw
        case rel => exact ⟨i + 1, ns', hlt, by go_num, HX, HLZ, hide H2.out.1, H2.out.2.1, hide H2.out.2.2⟩
        case measure => simp [intOf]; omega
      | bad y er =>
        have HX := hide (HE.out.trans (HD.out.trans (by rw [q, Gm.R.bind_bad])))
        rw [q] at HC
        clear HLN q HD
        have HXY : Hid (∀ X Y, y = p.l → er ≠ 0 → X = rfX L p.l → Y = rfY L p.l → AnsG L w B N R S (.bad y er) (.returned (.tuple #[.complex .f64 X Y, .int .i64 er]))) := hide (fun X Y h h0 h1 h2 => by subst h h1 h2; exact ⟨h0, rfl⟩)
        obtain ⟨X, hX⟩ : ∃ X, X = rfX L p.l := ⟨_, rfl⟩
        obtain ⟨Y, hY⟩ : ∃ Y, Y = rfY L p.l := ⟨_, rfl⟩
        rw [← hX, ← hY] at k1 HC HCB HCW HCK HCR
        have HXX := hide hX
        have HYY := hide hY
        clear hX hY
        generalize soS p.p = s3 at *
        generalize soX L p.p = x4 at *
        generalize soY L p.p = y4 at *
        generalize K.str p.l.t = sx at *
        generalize p.r.length = rl at *
        go_wp2_with fail
        refine HC.out.mono ?_; rintro _ w2 ⟨⟨her0, hyp, rfl⟩, hw2, hk2⟩
        have her : (er != 0) = true := by simpa using her0
        have HER := hide her0
        have HYP := hide hyp
        have H2 := hide (And.intro (HCW.out.trans hw2) (HCK.out.trans hk2))
        have hrr := hk2 _ _ _ HCR.out (by decide) (by decide) (by decide) (by decide)
        have r1 := cell_of_row w2 _ 1 _ _ _ hrr
        have hrz := (Array.getElem?_eq_some_iff.1 hrr).1
        clear hw2 hk2 her0 hyp hrr
        go_wp2
        go_ret2
        refine ⟨?_, H2.out⟩
        rw [HX.out]
        exact HXY.out _ _ HYP.out HER.out HXX.out HYY.out
    · obtain rfl : i = ps.length := by omega
      have HX := hide (HE.out.trans (lefts_end (Nat.le_refl _)))
      go_wp2
      go_ret2
      refine ⟨?_, HBW.out, HKT.out⟩
      rw [HX.out]
      exact ⟨rfl, HBL.out, HL.out⟩
end Go.Proofs.YtoehbkgdodogkaaGreat

/- Words over this program: what a builder's rule needs. -/
namespace Go.Proofs.YtoehbkgdodogkaaGreat
set_option maxRecDepth 100000
open Go.RowKit

/-- append of one rule to a slice of the call's own. -/
theorem apRl_wp {w : World} {o : Oper} {a : Act} {Q : Exit → Act → World → Prop} {K : Act → World → Prop}
    (s x : Operand) (t : TypeId) (ho : o.op = .call { callee := .builtin .append, args := #[s, x], argTypes := #[t, t] }) (ht : Tryz.prog.underlying t = some (.slice 43))
    (base N : Nat) (v : Value) (rs : List Gm.Rl) (hs : a.eval s = v) (hown : OwnRl w base N v rs) (g c : Nat) (q : RA) (hx : a.eval x = .slice (some ⟨g, 0, none⟩) 1 c) (hz : ∀ j u, (rlC q)[j]? = some u → w.cell? ⟨g, j, none⟩ = some u) (hr : q.1.r.length ≤ q.2.2 ∧ q.2.2 ≤ 9223372036854775807 ∧ RowI w base w.heap.size q.2.1 q.1.r)
    (hlen : rs.length ≤ 1000000) (hbase : base ≤ w.heap.size) (hN : N ≤ w.heap.size)
    (hK : ∀ v' w', OwnRl w' base w'.heap.size v' (rs ++ [q.1]) → w.grownBy w' v.ownBlock → K (a.put o.dst v') w') :
    o.wp Tryz.prog a w K Q := by
  obtain ⟨i, hi, hz0, hz1, hz2⟩ := info_parts infoRl
  obtain ⟨qs, hq1, hq2, hq3, hq4⟩ := hown
  have hlq : qs.length = rs.length := by rw [← hq1, List.length_map]
  refine wp_append_own w s x t ho base 43 i _ 3 40 ht hi hz0 hz1 hz2 rfl (by decide) v rs.length (rlsC qs) hs hq2 ⟨g, 0, none⟩ 1 c (rlC q) hx rfl ?_ ?_ (by unfold maxLen; omega) (by omega) hbase fun v' w' h1 h2 _ => hK v' w' ?_ h2
  · intro j u hj
    rw [addZ, Nat.zero_add]
    exact hz j u hj
  · intro u hu; simp [rlC] at hu; rcases hu with rfl | rfl | rfl <;> rfl
  · have hng : ∀ g', v.ownBlock = some g' → (∀ cur, w.heap[g']? ≠ some (.cells cur 3 (0, 0))) ∨ w.heap.size ≤ g' := fun g' e => by
      obtain ⟨_, cur, hc⟩ := own_holds hq2 e
      exact .inl (cells_ne hc (by decide))
    refine ⟨qs ++ [q], by rw [List.map_append, hq1]; rfl, ?_, fun k hk => ?_, fun p hp => ?_⟩
    · rw [List.length_append]
      unfold rlsC
      rw [List.flatMap_append, List.flatMap_singleton]
      exact h1
    · obtain ⟨_, cur, hc⟩ := own_holds h1 hk
      exact (Array.getElem?_eq_some_iff.1 hc).1
    · rcases List.mem_append.1 hp with h | h
      · obtain ⟨a1, a2, a3⟩ := hq4 p h
        exact ⟨a1, a2, ((a3.more hN).grown h2 hng).more h2.size⟩
      · rw [List.mem_singleton] at h
        subst h
        exact ⟨hr.1, hr.2.1, (hr.2.2.grown h2 hng).more h2.size⟩


theorem KeepT.beyond {w wr w' : World} {row : Option Nat} (h : KeepT w wr) (hg : wr.grownBy w' row) (hr : ∀ k, row = some k → w.heap.size ≤ k) : KeepT w w' := fun g cs T h1 h2 h3 => by
  have hk := h g cs T h1 h2 h3
  refine (hg.block g (Array.getElem?_eq_some_iff.1 hk).1 (fun e => ?_)).trans hk
  have := hr g e.symm
  have := (Array.getElem?_eq_some_iff.1 h1).1
  omega
/-- Numbers of the call's own stay where terminals alone are turned. -/
theorem OwnI.keepT {w w' : World} {base : Nat} {v : Value} {xs : List Int} (h : OwnI w base v xs) (hk : KeepT w w') : OwnI w' base v xs := by
  refine ⟨h.1, ?_⟩
  rcases h.2 with h0 | ⟨g, cap, cur, e, hb, hg, hr⟩
  · exact .inl h0
  · exact .inr ⟨g, cap, cur, e, hb, hk g cur _ hg (by decide) (by decide), hr⟩
/-- Numbers of the call's own, as a rule's. -/
theorem OwnI.row {w : World} {base B : Nat} {v : Value} {xs : List Int} (h : OwnI w base v xs) (hB : B ≤ base) : ∃ A c, v = .slice A xs.length c ∧ xs.length ≤ c ∧ c ≤ 9223372036854775807 ∧ RowI w B w.heap.size A xs := by
  rcases h.2 with ⟨rfl, h0⟩ | ⟨g, cap, cur, rfl, hb, hg, hn, hm, hs, ht⟩
  · exact ⟨none, 0, by rw [h0], by omega, by omega, fun hc => absurd h0 hc⟩
  · refine ⟨some ⟨g, 0, none⟩, cap, rfl, hn, by unfold maxLen at hm; omega, fun _ => ⟨g, cur, rfl, by omega, (Array.getElem?_eq_some_iff.1 hg).1, hg, fun j hj => ?_⟩⟩
    have hq : (cur.toList.take (xs.length * 1))[j]? = (xs.map (Value.int .i64))[j]? := by rw [ht]
    rw [List.getElem?_take_of_lt (by omega), List.getElem?_map, List.getElem?_eq_getElem hj] at hq
    simpa using hq
theorem OwnI.off {w : World} {N : Nat} {v : Value} {xs : List Int} (h : OwnI w N v xs) : Off w N v.ownBlock := ⟨fun g e => by
  obtain ⟨hb, cur, hc⟩ := own_holds h e
  exact ⟨cur, _, hc, by decide, by decide, by decide, .inr hb⟩⟩
/-- What a rule's symbols answer, in the document's words. -/
theorem syA_put {S : St} {x : Tok} (hN : Gm.Nin S.s.ts S.ns) : (∀ ts' z, Gm.symR S.ns S.s.ts x = .ok (ts', z) → SyA S x.t = (z, 0, { S with s := { S.s with ts := ts' } })) ∧ (∀ y e, Gm.symR S.ns S.s.ts x = .bad y e → (SyA S x.t).2.1 = e ∧ e ≠ 0 ∧ y = x) := by
  unfold Gm.symR SyA
  by_cases h2 : 0 ≤ Gm.find S.ns x.t
  · have h1 : ¬ 0 ≤ Gm.find (Gm.names S.s.ts) x.t := fun h => by
      obtain ⟨i, _, hi, e⟩ := Gm.find_some h2
      have := hN.no _ (List.getElem_mem hi)
      rw [e] at this
      have := Gm.find_none.2 this
      omega
    simp only [if_pos h2, if_neg h1]
    refine ⟨?_, ?_⟩
    · intro ts' z h; injection h with h; injection h with a b; subst a b; rfl
    · intro y e h; cases h
  · simp only [if_neg h2]
    unfold Gm.sym
    obtain ⟨p1, p2⟩ := tmA_put S x
    by_cases h1 : 0 ≤ Gm.find (Gm.names S.s.ts) x.t
    · simp only [if_pos h1, if_pos (Or.inl h1)]
      refine ⟨?_, ?_⟩
      · intro ts' z h
        have := p1 ts' z h
        unfold TmA at this
        rw [if_pos h1] at this
        exact this
      · intro y e h
        unfold Gm.put at h
        rw [if_pos h1] at h
        cases h
    · simp only [if_neg h1]
      by_cases h3 : T.isLit x.t = true ∨ x.t = [101, 114, 114, 111, 114]
      · simp only [if_pos h3, if_pos (Or.inr h3)]
        exact ⟨p1, p2⟩
      · have h4 : ¬ (0 ≤ Gm.find (Gm.names S.s.ts) x.t ∨ T.isLit x.t = true ∨ x.t = [101, 114, 114, 111, 114]) := fun h => h.elim h1 h3
        simp only [if_neg h3, if_neg h4]
        refine ⟨?_, ?_⟩
        · intro ts' z h; cases h
        · intro y e h; injection h with a b; subst a b; exact ⟨rfl, by decide, rfl⟩
theorem prA_put {S : St} {x : Tok} (hN : Gm.Nin S.s.ts S.ns) : (∀ ts' z, Gm.symP S.ns S.s.ts x = .ok (ts', z) → PrA S x.t = (z, 0, { S with s := { S.s with ts := ts' } })) ∧ (∀ y e, Gm.symP S.ns S.s.ts x = .bad y e → (PrA S x.t).2.1 = e ∧ e ≠ 0 ∧ y = x) := by
  obtain ⟨p1, p2⟩ := syA_put (x := x) hN
  unfold Gm.symP PrA
  unfold Gm.symR at p1 p2
  by_cases h2 : 0 ≤ Gm.find S.ns x.t
  · simp only [if_pos h2] at p1 p2 ⊢
    have := p1 _ _ rfl
    rw [this, if_pos ⟨rfl, by show -1 - Gm.find S.ns x.t < 0; omega⟩]
    refine ⟨?_, ?_⟩
    · intro ts' z h; cases h
    · intro y e h; injection h with a b; subst a b; exact ⟨rfl, by decide, rfl⟩
  · simp only [if_neg h2] at p1 p2 ⊢
    refine ⟨?_, ?_⟩
    · intro ts' z h
      have hq := p1 ts' z h
      have hz : 0 ≤ z := by
        unfold Gm.sym at h
        split at h
        · rcases Gm.put_ok h with ⟨j, _, _, hj, _⟩ | ⟨_, _, hj, _⟩ <;> omega
        · cases h
      rw [hq, if_neg (by rintro ⟨_, q⟩; exact absurd q (by show ¬ z < 0; omega))]
    · intro y e h
      obtain ⟨q1, q2, q3⟩ := p2 y e h
      rw [if_neg (by rintro ⟨q, _⟩; rw [q1] at q; exact q2 q)]
      exact ⟨q1, q2, q3⟩
theorem rights_drop {ns : List (List Int)} {ts : List Gm.Tm} {acc : List Int} {p : Int} {xs : List Tok} {i : Nat} (h : i < xs.length) : Gm.rights ns ts acc p (xs.drop i) = if acc.length = 6 then .bad xs[i] 5 else (Gm.symR ns ts xs[i]).bind fun q => Gm.rights ns q.1 (acc ++ [q.2]) (if 0 ≤ q.2 then q.2 else p) (xs.drop (i + 1)) := by
  rw [List.drop_eq_getElem_cons h, Gm.rights]
theorem rights_end {ns : List (List Int)} {ts : List Gm.Tm} {acc : List Int} {p : Int} {xs : List Tok} {i : Nat} (h : xs.length ≤ i) : Gm.rights ns ts acc p (xs.drop i) = .ok (ts, acc, p) := by
  rw [List.drop_eq_nil_of_le h, Gm.rights]
theorem build_rl (z : Int) (w : World) : (Instr.build 43 #[(0, .int .i64 z), (2, .int .i64 (-1))]).run Tryz.prog w = .ok (.agg #[.int .i64 z, .slice none 0 0, .int .i64 (-1)]) w := run_build w 43 _ _ (by kernel_rfl)
/-- A rule, whatever there is ahead of it. -/
def prR (ns : List (List Int)) (ts : List Gm.Tm) (rs : List Gm.Rl) (pr : Y.Prd) : Gm.R (List Gm.Tm × List Gm.Rl) := (Gm.rights ns ts [] (-1) pr.r).bind fun q => match pr.p with
  | none => .ok (q.1, rs ++ [⟨Gm.find ns pr.l.t, q.2.1, q.2.2⟩])
  | some x => (Gm.symP ns q.1 x).bind fun y => .ok (y.1, rs ++ [⟨Gm.find ns pr.l.t, q.2.1, y.2⟩])
theorem prR_bad {ns : List (List Int)} {ts : List Gm.Tm} {rs : List Gm.Rl} {pr : Y.Prd} {y : Tok} {e : Int} (h : Gm.rights ns ts [] (-1) pr.r = .bad y e) : prR ns ts rs pr = .bad y e := by
  unfold prR; rw [h]; rfl
theorem prR_none {ns : List (List Int)} {ts ts' : List Gm.Tm} {rs : List Gm.Rl} {pr : Y.Prd} {acc : List Int} {p : Int} (h : Gm.rights ns ts [] (-1) pr.r = .ok (ts', acc, p)) (hp : pr.p = none) : prR ns ts rs pr = .ok (ts', rs ++ [⟨Gm.find ns pr.l.t, acc, p⟩]) := by
  unfold prR; rw [h, Gm.R.bind_ok, hp]
theorem prR_bad2 {ns : List (List Int)} {ts ts' : List Gm.Tm} {rs : List Gm.Rl} {pr : Y.Prd} {acc : List Int} {p : Int} {x y : Tok} {e : Int} (h : Gm.rights ns ts [] (-1) pr.r = .ok (ts', acc, p)) (hp : pr.p = some x) (hq : Gm.symP ns ts' x = .bad y e) : prR ns ts rs pr = .bad y e := by
  unfold prR; rw [h, Gm.R.bind_ok, hp]; simp only [hq]; rfl
theorem prR_some {ns : List (List Int)} {ts ts' ts2 : List Gm.Tm} {rs : List Gm.Rl} {pr : Y.Prd} {acc : List Int} {p z : Int} {x : Tok} (h : Gm.rights ns ts [] (-1) pr.r = .ok (ts', acc, p)) (hp : pr.p = some x) (hq : Gm.symP ns ts' x = .ok (ts2, z)) : prR ns ts rs pr = .ok (ts2, rs ++ [⟨Gm.find ns pr.l.t, acc, z⟩]) := by
  unfold prR; rw [h, Gm.R.bind_ok, hp]; simp only [hq]; rfl
theorem ownrl_form {w : World} {base N : Nat} {v : Value} {rs : List Gm.Rl} (h : OwnRl w base N v rs) : ∃ A c, v = .slice A rs.length c ∧ rs.length ≤ c ∧ c ≤ maxLen := by
  obtain ⟨qs, _, h2, _⟩ := h
  exact own_form h2
theorem symR_len {ns : List (List Int)} {ts ts' : List Gm.Tm} {x : Tok} {z : Int} (h : Gm.symR ns ts x = .ok (ts', z)) (hl : ts.length ≤ 24) : ts'.length ≤ 24 := by
  unfold Gm.symR Gm.sym at h
  split at h
  · injection h with h; injection h with a _; subst a; exact hl
  · split at h
    · exact put_len h hl
    · cases h
theorem symP_len {ns : List (List Int)} {ts ts' : List Gm.Tm} {x : Tok} {z : Int} (h : Gm.symP ns ts x = .ok (ts', z)) (hl : ts.length ≤ 24) : ts'.length ≤ 24 := by
  unfold Gm.symP Gm.sym at h
  split at h
  · cases h
  · split at h
    · exact put_len h hl
    · cases h
theorem BRaw.more {w : World} {B N N' R : Nat} {cs : Array Value} {vT vN vR : Value} {ts : List Gm.Tm} {ns : List (List Int)} {rs : List Gm.Rl} {Ms Mt : Nat} {ml tl : List (List Int × Value)} (h : BRaw w B N R cs vT vN vR ts ns rs Ms Mt ml tl) (hN : N ≤ N') : BRaw w B N' R cs vT vN vR ts ns rs Ms Mt ml tl :=
  ⟨h.b, h.t, h.n, h.r.more hN, h.ms, h.mt, h.ne, h.hR, h.hs, h.ht⟩
/-- What a rule answers. -/
def AnsR (L : List Int) (w' : World) (B R : Nat) (S : St) (r : Gm.R (List Gm.Tm × List Gm.Rl)) (e : Ending) : Prop := match r with
  | .ok q => e = .returned (.tuple #[.complex .f64 0 0, .int .i64 0]) ∧ Bld L w' B w'.heap.size R { S with s := { S.s with ts := q.1 }, rs := q.2 } ∧ Gm.Nin q.1 S.ns ∧ q.1.length ≤ 24
  | .bad y er => er ≠ 0 ∧ e = .returned (.tuple #[.complex .f64 (rfX L y) (rfY L y), .int .i64 er])
end Go.Proofs.YtoehbkgdodogkaaGreat
