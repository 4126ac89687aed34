/- Part of the proofs over this program: SliceI, CalmN, CyFn, TrimFn, TrimPass, CyTo, TrimGrow, TrimTells, CalmA. -/
import Derived.Deep.Cut
import Derived.Test.YtajcegofflmoeaaGreatDoorKD
namespace Go.Proofs.YtajcegofflmoeaaGreatDoor
set_option maxRecDepth 100000
open Go.RowKit

theorem RdI.dropA {w : World} {B c : Nat} {A : Option Addr} {l : List Int} (h : RdI w B A l) (hc : l.length ≤ c) (k : Nat) : RdI w B (dropA A c k) (l.drop k) := by
  intro hn
  rw [List.length_drop] at hn
  obtain ⟨g, o, rfl, hg, hcl⟩ := h (by omega)
  refine ⟨g, o + k, ?_, hg, fun j hj => ?_⟩
  · have e : ((⟨g, o, none⟩ : Addr).add k) = ⟨g, o + k, none⟩ := by unfold Addr.add; by_cases h0 : k = 0 <;> simp [h0]
    unfold Go.Proofs.YtajcegofflmoeaaGreatDoor.dropA
    rw [if_neg (by omega), Option.map_some, e]
  · rw [List.length_drop] at hj
    rw [show o + k + j = o + (k + j) by omega, hcl (k + j) (by omega), L.gd_lt (by omega : k + j < l.length), L.gd_lt (by rw [List.length_drop]; exact hj), List.getElem_drop]
theorem sliceI_from (w : World) (A : Option Addr) (c n k : Nat) (hk : k ≤ n) : (Instr.sliceAt 29 (.slice A n c) (some (.int .i64 k)) none none).run Tryz.prog w = .ok (.slice (dropA A c k) (n - k) (c - k)) w := by
  rw [run_sliceAt_slice _ _ _ _ _ _ (by kernel_rfl), run_slice_l _ _ _ _ _ (by kernel_rfl) .i64 (k : Int) (by omega) (by omega)]
  have hs : (sizeOf (Tryz.prog.elem 29)).run Tryz.prog w = .ok 1 w := by kernel_rfl
  rw [hs]
  simp [Result.andThen, sliced, dropA]
theorem sliceI_to (w : World) (A : Option Addr) (c n k : Nat) (hk : k ≤ c) : (Instr.sliceAt 29 (.slice A n c) none (some (.int .i64 k)) none).run Tryz.prog w = .ok (.slice A k c) w := by
  rw [run_sliceAt_slice _ _ _ _ _ _ (by kernel_rfl), run_slice_h _ _ _ _ _ (by kernel_rfl) .i64 (k : Int) (by omega) (by omega)]
  have hs : (sizeOf (Tryz.prog.elem 29)).run Tryz.prog w = .ok 1 w := by kernel_rfl
  rw [hs]
  have e : ∀ A : Option Addr, A.map (fun x => x.add 0) = A := fun A => by
    cases A with
    | none => rfl
    | some x => simp [Addr.add]
  simp [Result.andThen, sliced, e]
end Go.Proofs.YtajcegofflmoeaaGreatDoor

namespace Go.CalmN
open Go.RowKit

section
variable {P : Program} {ops : Array Oper} {Q : Exit → Act → World → Prop} {md : Region.Mode}

def plainB : Op → Bool
  | .move _ | .assign _ | .pick .. | .load .. | .convert .. | .binOp .. | .unOp .. | .slice .. | .fieldAddr .. | .field .. | .indexAddr .. | .index .. | .extract .. | .build .. | .nilCheck _ | .lookup .. => true
  | .call c => match c.callee with
    | .builtin .len | .builtin .cap => true
    | _ => false
  | _ => false

theorem value_of {s : Sem Value} {w w' : World} {n : Next} (h : ((do pure (.value (← s))) : Sem Next).run P w = .ok n w') : ∃ u, n = .value u := by
  rw [Sem.run_bind] at h
  cases hs : s.run P w with
  | ok v w1 => rw [hs] at h; simp [Result.andThen, Sem.run_pure] at h; exact ⟨v, h.1.symm⟩
  | halt x w1 => rw [hs] at h; simp [Result.andThen] at h

theorem never_rt {α : Type} {w w' : World} {n : α} (h : (runtimePanic .nilDeref : Sem α).run P w = .ok n w') : False := by
  simp [runtimePanic, Result.andThen] at h
theorem plain_value {o : Oper} (hp : plainB o.op = true) {a : Act} {w w' : World} {n : Next} (h : (execOp a.eval o).run P w = .ok n w') : ∃ u, n = .value u := by
  obtain ⟨dst, op, type, pos, after, guard⟩ := o
  cases op with
  | call c =>
    obtain ⟨callee, args, ats⟩ := c
    cases callee with
    | builtin b =>
      cases b with
      | len => exact value_of (s := Builtin.len_ ats type (args.map a.eval)) h
      | cap => exact value_of (s := Builtin.cap_ ats type (args.map a.eval)) h
      | _ => exact absurd hp (by simp [plainB])
    | invoke recv name => exact absurd hp (by simp [plainB])
    | value f => exact absurd hp (by simp [plainB])
  | move x => simp [execOp, Sem.run_pure] at h; exact ⟨_, h.1.symm⟩
  | assign x => simp [execOp, Sem.run_pure] at h; exact ⟨_, h.1.symm⟩
  | pick c x y =>
    simp only [execOp, Sem.run_bind] at h
    cases hs : (asBool (a.eval c)).run P w with
    | ok v w1 => rw [hs] at h; simp [Result.andThen, Sem.run_pure] at h; exact ⟨_, h.1.symm⟩
    | halt x w1 => rw [hs] at h; simp [Result.andThen] at h
  | nilCheck x =>
    simp only [execOp] at h
    split at h
    · exact (never_rt h).elim
    · exact (never_rt h).elim
    · exact (never_rt h).elim
    · split at h
      · exact (never_rt h).elim
      · simp only [Sem.run_bind] at h
        generalize (program : Sem Program).run P w = r1 at h
        cases r1 with
        | halt x w1 => simp [Result.andThen] at h
        | ok pr w1 =>
          simp only [Result.andThen_ok] at h
          revert h
          generalize (nilAhead _ _ _ _).run P w1 = r2
          intro h
          cases r2 with
          | halt x w1 => simp [Result.andThen] at h
          | ok b w2 =>
            simp only [Result.andThen_ok] at h
            split at h
            · simp [Result.andThen] at h
            · simp [Sem.run_pure] at h; exact ⟨_, h.1.symm⟩
      · simp [Sem.run_pure] at h; exact ⟨_, h.1.symm⟩
    · simp [Sem.run_pure] at h; exact ⟨_, h.1.symm⟩
  | _ => first
    | (simp [plainB] at hp; done)
    | exact value_of h

theorem yieldsIf_of {S : World → Prop} {o : Oper} {a : Act} {v : Value} (hp : plainB o.op = true) (hw : Region.wanted o (yielded ops a.tmps) = true) (h : ∀ w, S w → o.quietAt P a S w v) : YieldsIf P ops S o v a := by
  refine .inl ⟨hw, fun w hS => ?_⟩
  have h1 := h w hS
  unfold Oper.quietAt at h1
  cases hr : (execOp a.eval o).run P w with
  | ok n w' =>
    obtain ⟨u, rfl⟩ := plain_value hp hr
    rw [hr] at h1
    simp only [Oper.quietUpon] at h1
    rw [h1.1, h1.2]
  | halt x w' => rw [hr] at h1; simp [Oper.quietUpon] at h1

def pickOps (ops : Array Oper) : List Nat → List Oper
  | [] => []
  | i :: r => match ops[i]? with
    | some o => o :: pickOps ops r
    | none => pickOps ops r
def marked : List Nat → Array Bool → Array Bool
  | [], l => l
  | i :: r, l => marked r (l.setIfInBounds i true)
def stillB (md : Region.Mode) (ops : Array Oper) : List Nat → Array Bool → Bool
  | [], _ => true
  | i :: r, l => (match ops[i]? with | some o => plainB o.op | none => false) && Region.free md ops l i && (Region.ready md ops l).contains i && stillB md ops r (l.setIfInBounds i true)

theorem anyH_mono {S S' : World → Prop} (h : ∀ x, S' x → S x) : ∀ (fuel : Nat) (listed : Array Bool) (a : Act) (w : World), wpAnyH P md ops Q S' fuel listed a w → wpAnyH P md ops Q S fuel listed a w
  | 0, _, _, _, k => k
  | fuel + 1, _, _, _, k => ⟨k.1, fun i hi => wpOp_mono (fun a w hk => ⟨h _ hk.1, anyH_mono h fuel _ a w hk.2⟩) (k.2 i hi)⟩

theorem still_block {S : World → Prop} (hs : Region.noSelect ops = true) (hQ : ∀ c a d v w, Q (.panic c) (a.put d v) w → Q (.panic c) a w) {w : World} (hS : S w) (fuel : Nat) :
    ∀ (p : List Nat) (listed : Array Bool) (a : Act), stillB md ops p listed = true →
      wpQuiet P ops S (fun a' => wpAnyH P md ops Q S fuel (marked p listed) a' w) (pickOps ops p) a → wpAnyH P md ops Q S (p.length + fuel) listed a w
  | [], _, _, _, h => by rw [List.length_nil, Nat.zero_add]; exact h
  | i :: r, listed, a, hb, h => by
    unfold stillB at hb
    cases ho : ops[i]? with
    | none => rw [ho] at hb; simp at hb
    | some o =>
      rw [ho] at hb
      simp only [Bool.and_eq_true] at hb
      obtain ⟨⟨⟨hp, hf⟩, hr⟩, hrest⟩ := hb
      have hl : pickOps ops (i :: r) = o :: pickOps ops r := by simp only [pickOps, ho]
      rw [hl] at h
      rw [show (i :: r).length + fuel = (r.length + fuel) + 1 by rw [List.length_cons]; omega]
      unfold wpQuiet at h
      by_cases hw : Region.wanted o (yielded ops a.tmps) = true
      · rw [if_pos hw] at h
        obtain ⟨v, h1, h2⟩ := h
        exact wpAnyH_take ho hs hf hr (fun c a w => hQ c a o.dst v w) (yieldsIf_of hp hw h1) hS (still_block hs hQ hS fuel r _ _ hrest h2)
      · rw [if_neg hw] at h
        exact wpAnyH_take ho hs hf hr (fun c a w => hQ c a o.dst undef w) (.inr ⟨by simpa using hw, rfl⟩) hS (still_block hs hQ hS fuel r _ _ hrest h)

end

section
variable {P : Program} {ops : Array Oper} {Q : Exit → Act → World → Prop} {md : Region.Mode}

inductive Ph where
  | fin (last : List Nat)
  | one (p : List Nat) (k : Nat) (t : Ph)
  | two (p : List Nat) (k : Nat) (t : Ph) (k2 : Nat) (t2 : Ph)

def wpSt (P : Program) (ops : Array Oper) (Q : Exit → Act → World → Prop) (o : Option Oper) (S : World → Prop) (T : (World → Prop) → Act → World → Prop) (a : Act) (w : World) : Prop :=
  match o with
  | none => True
  | some o => ∀ K : Act → World → Prop, (∀ a2 w2, S w2 → ∀ S' : World → Prop, (∀ x, S' x → S x) → S' w2 → T S' a2 w2 → K a2 w2) →
      if Region.wanted o (yielded ops a.tmps) = true then Oper.wp P o a w K Q else K (a.put o.dst undef) w

def wpT (P : Program) (ops : Array Oper) (Q : Exit → Act → World → Prop) : Ph → (World → Prop) → Act → World → Prop
  | .fin last, S, a, w => wpQuiet P ops S (fun a' => Q .normal a' w) (pickOps ops last) a
  | .one p k t, S, a, w => wpQuiet P ops S (fun a' => wpSt P ops Q ops[k]? S (fun S' a2 w2 => wpT P ops Q t S' a2 w2) a' w) (pickOps ops p) a
  | .two p k t k2 t2, S, a, w => wpQuiet P ops S (fun a' => wpSt P ops Q ops[k]? S (fun S' a2 w2 => wpT P ops Q t S' a2 w2) a' w ∧ wpSt P ops Q ops[k2]? S (fun S' a2 w2 => wpT P ops Q t2 S' a2 w2) a' w) (pickOps ops p) a

def tB (md : Region.Mode) (ops : Array Oper) : Ph → Array Bool → Nat → Bool
  | .fin last, l, n => stillB md ops last l && (Region.ready md ops (marked last l)).isEmpty && (last.length == n)
  | .one p k t, l, n => stillB md ops p l && (match Region.ready md ops (marked p l) with | [j] => j == k | _ => false) && (ops[k]?).isSome && decide (p.length + 1 ≤ n) && tB md ops t ((marked p l).setIfInBounds k true) (n - (p.length + 1))
  | .two p k t k2 t2, l, n => stillB md ops p l && (match Region.ready md ops (marked p l) with | [j, j2] => j == k && j2 == k2 | _ => false) && (ops[k]?).isSome && (ops[k2]?).isSome && decide (p.length + 1 ≤ n) && tB md ops t ((marked p l).setIfInBounds k true) (n - (p.length + 1)) && tB md ops t2 ((marked p l).setIfInBounds k2 true) (n - (p.length + 1))

theorem quiet_mono {S : World → Prop} {Q1 Q2 : Act → Prop} (h : ∀ a, Q1 a → Q2 a) : ∀ {l : List Oper} {a : Act}, wpQuiet P ops S Q1 l a → wpQuiet P ops S Q2 l a
  | [], _, k => h _ k
  | o :: r, a, k => by
    unfold wpQuiet at k ⊢
    split
    · rename_i hw; rw [if_pos hw] at k; obtain ⟨v, h1, h2⟩ := k; exact ⟨v, h1, quiet_mono h h2⟩
    · rename_i hw; rw [if_neg hw] at k; exact quiet_mono h k

theorem any_of_t (hs : Region.noSelect ops = true) (hQ : ∀ c a d v w, Q (.panic c) (a.put d v) w → Q (.panic c) a w) :
    ∀ (t : Ph) (S : World → Prop) (listed : Array Bool) (a : Act) (w : World) (n : Nat), tB md ops t listed n = true → S w → wpT P ops Q t S a w → wpAnyH P md ops Q S n listed a w
  | .fin last, S, listed, a, w, n, hb, hS, h => by
    unfold tB at hb
    simp only [Bool.and_eq_true, List.isEmpty_iff, beq_iff_eq] at hb
    obtain ⟨⟨h1, h2⟩, rfl⟩ := hb
    have e : last.length = last.length + 0 := rfl
    rw [e]
    refine still_block hs hQ hS 0 last listed a h1 ?_
    exact quiet_mono (fun a' hq => wpAnyH_done h2 hq 0) h
  | .one p k t, S, listed, a, w, n, hb, hS, h => by
    unfold tB at hb
    simp only [Bool.and_eq_true, decide_eq_true_iff] at hb
    obtain ⟨⟨⟨⟨h1, h2⟩, h3⟩, h5⟩, h4⟩ := hb
    obtain ⟨o, ho⟩ := Option.isSome_iff_exists.1 h3
    have hrd : Region.ready md ops (marked p listed) = [k] := by
      split at h2
      · rename_i j hj; rw [hj]; rw [beq_iff_eq] at h2; rw [h2]
      · cases h2
    obtain ⟨m, rfl⟩ : ∃ m, n = p.length + (m + 1) := ⟨n - (p.length + 1), by omega⟩
    rw [show p.length + (m + 1) - (p.length + 1) = m by omega] at h4
    refine still_block hs hQ hS _ p listed a h1 ?_
    unfold wpT at h
    refine quiet_mono (fun a' hq => ?_) h
    refine wpAnyH_all hrd (by simp) fun i hi => ?_
    rw [List.mem_singleton] at hi
    subst hi
    refine wpOp_step ho fun K' hK => ?_
    rw [ho] at hq
    refine hq K' fun a2 w2 h6 S' hS' hS2 h7 => hK _ _ ⟨h6, ?_⟩
    exact anyH_mono hS' _ _ _ _ (any_of_t hs hQ t S' _ a2 w2 _ h4 hS2 h7)
  | .two p k t k2 t2, S, listed, a, w, n, hb, hS, h => by
    unfold tB at hb
    simp only [Bool.and_eq_true, decide_eq_true_iff] at hb
    obtain ⟨⟨⟨⟨⟨⟨h1, h2⟩, h3⟩, h32⟩, h5⟩, h4⟩, h42⟩ := hb
    obtain ⟨o, ho⟩ := Option.isSome_iff_exists.1 h3
    obtain ⟨o2, ho2⟩ := Option.isSome_iff_exists.1 h32
    have hrd : Region.ready md ops (marked p listed) = [k, k2] := by
      split at h2
      · rename_i j j2 hj; rw [hj]; simp only [Bool.and_eq_true, beq_iff_eq] at h2; rw [h2.1, h2.2]
      · cases h2
    obtain ⟨m, rfl⟩ : ∃ m, n = p.length + (m + 1) := ⟨n - (p.length + 1), by omega⟩
    rw [show p.length + (m + 1) - (p.length + 1) = m by omega] at h4 h42
    refine still_block hs hQ hS _ p listed a h1 ?_
    unfold wpT at h
    refine quiet_mono (fun a' hq => ?_) h
    refine wpAnyH_all hrd (by simp) fun i hi => ?_
    rw [ho, ho2] at hq
    rcases List.mem_cons.1 hi with rfl | hi
    · refine wpOp_step ho fun K' hK => ?_
      refine hq.1 K' fun a2 w2 h6 S' hS' hS2 h7 => hK _ _ ⟨h6, ?_⟩
      exact anyH_mono hS' _ _ _ _ (any_of_t hs hQ t S' _ a2 w2 _ h4 hS2 h7)
    · rw [List.mem_singleton] at hi
      subst hi
      refine wpOp_step ho2 fun K' hK => ?_
      refine hq.2 K' fun a2 w2 h6 S' hS' hS2 h7 => hK _ _ ⟨h6, ?_⟩
      exact anyH_mono hS' _ _ _ _ (any_of_t hs hQ t2 S' _ a2 w2 _ h42 hS2 h7)

theorem region_tree {id : Nat} {a : Act} {w : World} {l : List Oper} (S : World → Prop) (t : Ph) (hm : P.follows .mixedOrders = true)
    (hB : (Region.noSelect l.toArray && tB .any l.toArray t (Array.replicate l.toArray.size false) l.toArray.size) = true)
    (hQ : ∀ c a d v w, Q (.panic c) (a.put d v) w → Q (.panic c) a w) (hS : S w.drew)
    (h : wpT P l.toArray Q t S a w.drew) : (Code.region id l.toArray true).wp P Q a w := by
  simp only [Bool.and_eq_true] at hB
  refine wp_region_held (S := S) hm ?_
  exact any_of_t hB.1 hQ t S _ a w.drew _ hB.2 hS h
end

end Go.CalmN

namespace Go.Proofs.YtajcegofflmoeaaGreatDoor
set_option maxRecDepth 100000
open Go.RowKit

def OneT (t : TypeId) (w : World) (a : Array Value) (wr : World) : Prop := Below (w.heap.size + 1) (w.alloc (.cells a t)) wr
section
variable {t : TypeId} {w wr wt : World} {a : Array Value}
theorem OneT.start (t : TypeId) (w : World) (a : Array Value) : OneT t w a (w.alloc (.cells a t)) := Below.refl _ _
theorem OneT.size (h : OneT t w a wr) : w.heap.size + 1 ≤ wr.heap.size := by have := Below.size h; simpa using this
theorem OneT.below (h : OneT t w a wr) : Below w.heap.size w wr := ((Below.refl w.heap.size w).alloc (Nat.le_refl _) _).trans (Below.mono h (by omega))
theorem OneT.on (h : OneT t w a wr) (k : Below wr.heap.size wr wt) : OneT t w a wt := Below.trans h (k.mono h.size)
theorem OneT.drewN (h : OneT t w a wr) (n : Nat) : OneT t w a (wr.drewN n) := below_drewN h n
theorem OneT.alloc (h : OneT t w a wr) (o : Obj) : OneT t w a (wr.alloc o) := Below.alloc h h.size o
theorem OneT.c (h : OneT t w a wr) (j : Nat) (u : Value) (hj : a[j]? = some u) : wr.cell? ⟨w.heap.size, j, none⟩ = some u := by
  have b0 := (Below.block h w.heap.size (by omega)).trans (heap_alloc_new w _)
  exact (cell_of_row wr _ j _ _ _ b0).trans hj
end

theorem cIsNon_any (z : Int) (w : World) :
    Calls Tryz.prog 56 #[.int .i64 z] w fun e w' => e = .returned (.bool (decide (z < 0))) ∧ w' = w := by
  go_enter Tryz.func56, Tryz.ntmps56
  go_wp2
  go_ret
  exact ⟨rfl, rfl⟩
theorem cNon_any (z : Int) (hz : -9223372036854775808 ≤ z) (hz' : z ≤ 9223372036854775807) (w : World) :
    Calls Tryz.prog 58 #[.int .i64 z] w fun e w' => e = .returned (.int .i64 (-1 - z)) ∧ w' = w := by
  have hs : IntKind.i64.wrap (-1 - z) = -1 - z := IntWalk.i64_in _ (by omega)
  clear hz hz'
  go_enter Tryz.func58, Tryz.ntmps58
  go_wp2
  go_ret
  exact ⟨rfl, rfl⟩
theorem cOnly_any (n : Int) (w : World) :
    Calls Tryz.prog 36 #[.int .i64 n] w fun e w' => e = .returned (.int .u32 (S.bit n)) ∧ Below w.heap.size w w' := by
  have H := hide (show Calls Tryz.prog 61 #[.slice (some ⟨w.heap.size, 0, none⟩) 1 1] (w.alloc (.cells #[.int .i64 n] 3)) _ from sof_any (some ⟨w.heap.size, 0, none⟩) 1 (w.alloc (cellsI [n])).heap.size [n] (w.alloc (cellsI [n])) (litI1 w [n]).1 (by simp))
  have HB := hide (litI1 w [n]).2
  rw [S.of_one] at H
  go_enter Tryz.func36, Tryz.ntmps36
  go_wp2_with fail
  refine H.out.mono ?_; rintro _ w2 ⟨rfl, q, rfl⟩
  go_wp2
  go_ret
  exact ⟨rfl, below_drewN HB.out q⟩

theorem ths_lt {fl : List Bool} (h : fl.length ≤ 32) : Gm.ths fl < 4294967296 := Gm.pow32 (Gm.thB_lt _ _) h
theorem ths_has {fl : List Bool} (h : fl.length ≤ 32) {m : Nat} (hm : m < fl.length) : S.has (Gm.ths fl) (m : Int) = fl.getD m false := by
  rw [S.has_nat _ (by omega), Bool.eq_iff_iff, Gm.ths_bit]

def Gm.neB (pr : List Bool) (z : Int) : Bool := decide (z < 0) && !pr.getD (-1 - z).toNat false
theorem Gm.any_neB (pr : List Bool) (r : List Int) : r.any (Gm.neB pr) = !Gm.allB true pr r := by
  unfold Gm.allB
  rw [List.all_eq_not_any_not, Bool.not_not]
  congr 1
  funext z
  unfold Gm.neB
  by_cases h : z < 0
  · rw [decide_eq_true h, if_neg (by omega)]; simp
  · rw [decide_eq_false h, if_pos (by omega)]; simp
set_option maxHeartbeats 1000000 in
theorem neverEnds_any (z : Int) (N : Nat) (pr : List Bool) (w : World) (hz : Gm.In z) (hs : z < 0 → -1 - z < (pr.length : Int)) (h32 : pr.length ≤ 32) :
    Calls Tryz.prog 55 #[.agg #[.int .u32 (N : Int), .int .u32 (Gm.ths pr : Int)], .int .i64 z] w fun e w' => e = .returned (.bool (Gm.neB pr z)) ∧ Below w.heap.size w w' := by
  unfold Gm.In at hz
  have HI := hide (fun w => cIsNon_any z w)
  have HX := hide (fun w => cNon_any z hz.1 hz.2 w)
  have HB := hide (fun o => (Below.refl w.heap.size w).alloc (Nat.le_refl _) o)
  by_cases h0 : z < 0
  · have hm := hs h0
    obtain ⟨m, he⟩ : ∃ m : Nat, -1 - z = (m : Int) := ⟨(-1 - z).toNat, by omega⟩
    have hbg : Gm.neB pr z = !pr.getD m false := by unfold Gm.neB; rw [decide_eq_true h0, he]; simp
    rw [he] at HX hm
    have HH := hide (fun w => shas_any (Gm.ths pr) m w (ths_lt h32))
    rw [ths_has h32 (by omega)] at HH
    rw [hbg]
    rw [decide_eq_true h0] at HI
    generalize pr.getD m false = b at *
    generalize Gm.ths pr = P at *
    clear hz hs h0 he hbg hm h32
    go_enter Tryz.func55, Tryz.ntmps55
    go_wp2_with fail
    go_quiet (first | (go_at_call 58; exact Calls.quiet_of_same (HX.out _)) | (go_at_call 56; exact Calls.quiet_of_same (HI.out _)) | (go_at_call 60; exact Calls.quiet_of_same (HH.out _)))
    go_wp2
    go_ret
    exact ⟨rfl, below_drewN (HB.out _) _⟩
  · have hbg : Gm.neB pr z = false := by unfold Gm.neB; rw [decide_eq_false h0, Bool.false_and]
    rw [hbg]
    rw [decide_eq_false h0] at HI
    clear hz hs h0 HX hbg
    go_enter Tryz.func55, Tryz.ntmps55
    go_wp2_with fail
    go_quiet ((go_at_call 56; exact Calls.quiet_of_same (HI.out _)))
    go_wp2
    go_ret
    exact ⟨rfl, below_drewN (HB.out _) _⟩

def Gm.nlB (nu : List Bool) (z : Int) : Bool := decide (z < 0) && nu.getD (-1 - z).toNat false
theorem Gm.all_nlB (nu : List Bool) (r : List Int) : Gm.allB false nu r = r.all (Gm.nlB nu) := by
  unfold Gm.allB
  congr 1
  funext z
  unfold Gm.nlB
  by_cases h : z < 0
  · rw [decide_eq_true h, if_neg (by omega)]; simp
  · rw [decide_eq_false h, if_pos (by omega)]; simp
theorem call_take {l : List Int} {p : Int → Bool} {k : Nat} (h : k < l.length) : (l.take (k + 1)).all p = ((l.take k).all p && p l[k]) := by
  rw [List.take_succ_eq_append_getElem h, List.all_append]; simp
theorem call_not {l : List Int} {p : Int → Bool} {k : Nat} (h : k < l.length) (hp : p l[k] = false) : l.all p = false := List.all_eq_false.2 ⟨_, List.getElem_mem h, by rw [hp]; simp⟩
set_option maxHeartbeats 2000000 in
theorem areNullable_any (l : List Int) (nu : List Bool) (P : Nat) (A : Option Addr) (c B : Nat) (w : World) (hr : RdI w B A l) (hB : B ≤ w.heap.size) (hin : ∀ z ∈ l, Gm.In z) (hs : ∀ z ∈ l, z < 0 → -1 - z < (nu.length : Int)) (h32 : nu.length ≤ 32) (hl : l.length ≤ 1000000) :
    Calls Tryz.prog 57 #[.agg #[.int .u32 (Gm.ths nu : Int), .int .u32 (P : Int)], .slice A l.length c] w fun e w' => e = .returned (.bool (Gm.allB false nu l)) ∧ Below w.heap.size w w' := by
  have HR := hide hr
  have HB := hide hB
  have HI := hide (fun z w => cIsNon_any z w)
  have HX := hide (fun z (hz : z ∈ l) w => cNon_any z (hin z hz).1 (hin z hz).2 w)
  have HS := hide (fun z (hz : z ∈ l) (h : z < 0) => (show ∃ m : Nat, -1 - z = (m : Int) ∧ m < nu.length from ⟨(-1 - z).toNat, by omega, by have := hs z hz h; omega⟩))
  have HH := hide (fun (m : Nat) (h : m < nu.length) w => (show Calls _ _ _ _ (fun e w' => e = .returned (.bool (nu.getD m false)) ∧ w' = w) from by have := shas_any (Gm.ths nu) m w (ths_lt h32); rw [ths_has h32 h] at this; exact this))
  have hlen : (l.length : Int) ≤ 9223372036854775807 := by omega
  rw [Gm.all_nlB]
  obtain ⟨N, hN⟩ : ∃ N, N = Gm.ths nu := ⟨_, rfl⟩
  rw [← hN] at HH ⊢
  clear hr hB hin hs h32 hl hN
  have HS0 := hide (OneT.start 54 w #[.int .u32 (N : Int), .int .u32 (P : Int)])
  go_enter Tryz.func57, Tryz.ntmps57
  go_wp2
  go_loopw [9] (fun vi wr => ∃ k : Nat, k ≤ l.length ∧ vi = .int .i64 k ∧ Hid ((l.take k).all (Gm.nlB nu) = true) ∧ Hid (OneT 54 w #[.int .u32 (N : Int), .int .u32 (P : Int)] wr)) (fun vi _ => l.length - (intOf vi).toNat)
  case atStart => exact ⟨0, Nat.zero_le _, rfl, hide (by simp), HS0⟩
  case round =>
    clear HS0
    obtain ⟨k, hk, rfl, HK, HW⟩ := hrel
    have q0 := HW.out.c 0 _ rfl
    have hd : w.heap.size < wr.heap.size := HW.out.size
    by_cases hlt : k < l.length
    · obtain ⟨g, o, rfl, hgb, hc⟩ := (HR.out.below HW.out.below HB.out) (by omega)
      have k0 := hc k hlt
      rw [L.gd_lt hlt] at k0
      have hm := List.getElem_mem hlt
      have HIz := hide (fun w => HI.out l[k] w)
      have HXz := hide (fun w => HX.out l[k] hm w)
      have HSz := hide (fun (h : l[k] < 0) => HS.out l[k] hm h)
      have HN := hide (call_take (p := Gm.nlB nu) hlt)
      have HY := hide (fun h => call_not (p := Gm.nlB nu) hlt h)
      have HNL : Hid (Gm.nlB nu l[k] = (decide (l[k] < 0) && nu.getD (-1 - l[k]).toNat false)) := hide rfl
      clear hc hm
      generalize l[k] = z at *
      by_cases h0 : z < 0
      · obtain ⟨m, he, hmn⟩ := HSz.out h0
        have HHm := hide (fun w => HH.out m hmn w)
        rw [he] at HXz
        have HNM := hide (show Gm.nlB nu z = nu.getD m false by rw [HNL.out, he, decide_eq_true h0]; simp)
        rw [decide_eq_true h0] at HIz
        clear h0 he hmn HSz HNL
        generalize nu.getD m false = b at *
        cases b
        · have HX2 := hide (HY.out HNM.out)
          clear HN HY
          go_wp2_with fail
          go_quiet (first | (go_at_call 58; exact Calls.quiet_of_same (HXz.out _)) | (go_at_call 56; exact Calls.quiet_of_same (HIz.out _)) | (go_at_call 60; exact Calls.quiet_of_same (HHm.out _)))
          go_wp2
          go_ret
          exact ⟨ret_bool HX2.out.symm, (HW.out.drewN _).below⟩
        · have HX2 := hide (HN.out.trans (by rw [HK.out, HNM.out]))
          clear HN HY
          go_wp2_with fail
          go_quiet (first | (go_at_call 58; exact Calls.quiet_of_same (HXz.out _)) | (go_at_call 56; exact Calls.quiet_of_same (HIz.out _)) | (go_at_call 60; exact Calls.quiet_of_same (HHm.out _)))
          go_wp2
          go_roundw
          case rel => exact ⟨k + 1, hlt, by go_num, HX2, hide (HW.out.drewN _)⟩
          case measure => simp [intOf]; omega
      · have HX2 := hide (HY.out (by rw [HNL.out, decide_eq_false h0]; rfl))
        rw [decide_eq_false h0] at HIz
        clear h0 HN HY HSz HNL HXz
        go_wp2_with fail
        go_quiet ((go_at_call 56; exact Calls.quiet_of_same (HIz.out _)))
        go_wp2
        go_ret
        exact ⟨ret_bool HX2.out.symm, (HW.out.drewN _).below⟩
    · obtain rfl : k = l.length := by omega
      rw [List.take_length] at HK
      go_wp2
      go_ret
      exact ⟨ret_bool HK.out.symm, HW.out.below⟩

theorem cany_take {l : List Int} {p : Int → Bool} {k : Nat} (h : k < l.length) : (l.take (k + 1)).any p = ((l.take k).any p || p l[k]) := by
  rw [List.take_succ_eq_append_getElem h, List.any_append]; simp
theorem cany_of {l : List Int} {p : Int → Bool} {k : Nat} (h : k < l.length) (hp : p l[k] = true) : l.any p = true := List.any_eq_true.2 ⟨_, List.getElem_mem h, hp⟩
set_option maxHeartbeats 2000000 in
theorem indexFuncB_any (fb : Nat) (cp : Value) (hE : ∀ args w, Sem.run Tryz.prog (callFunc fb args) w = .ok (.enter fb args) w) (l : List Int) (p : Int → Bool) (A : Option Addr) (c B : Nat) (w : World) (hr : RdI w B A l) (hB : B ≤ w.heap.size) (hl : l.length ≤ 9223372036854775807)
    (hp : ∀ y z, Below w.heap.size w y → z ∈ l → Calls Tryz.prog fb #[cp, .int .i64 z] y fun e w' => e = .returned (.bool (p z)) ∧ Below y.heap.size y w') :
    Calls Tryz.prog 90 #[.slice A l.length c, .func (Fn.func fb) #[cp] #[]] w fun e w' => (∃ k : Int, e = .returned (.int .i64 k) ∧ decide (0 ≤ k) = l.any p) ∧ Below w.heap.size w w' := by
  have HR := hide hr
  have HB := hide hB
  have HP := hide hp
  have hlen : (l.length : Int) ≤ 9223372036854775807 := by omega
  clear hr hp hB hl
  go_enter Tryz.func90, Tryz.ntmps90
  go_wp2
  go_loopw [8] (fun vi wr => ∃ k : Nat, k ≤ l.length ∧ vi = .int .i64 k ∧ Hid ((l.take k).any p = false) ∧ Hid (Below w.heap.size w wr)) (fun vi _ => l.length - (intOf vi).toNat)
  case atStart => exact ⟨0, Nat.zero_le _, rfl, hide (by simp), hide (Below.refl _ _)⟩
  case round =>
    obtain ⟨k, hk, rfl, HK, HW⟩ := hrel
    by_cases hlt : k < l.length
    · obtain ⟨g, o, rfl, hgb, hc⟩ := HR.out (by omega)
      have k0 := (HW.out.cell (p := ⟨g, o + k, none⟩) (Nat.lt_of_lt_of_le hgb HB.out)).trans (hc k hlt)
      rw [L.gd_lt hlt] at k0
      have HPz := hide (HP.out wr _ HW.out (List.getElem_mem hlt))
      have HN := hide (cany_take (p := p) hlt)
      have HY := hide (fun h => cany_of (p := p) hlt h)
      clear hc
      generalize l[k] = z at *
      cases hz : p z
      · rw [hz] at HPz HN
        have HX := hide (HN.out.trans (by rw [HK.out]))
        clear hz HN HY
        go_wp2_with fail
        refine HPz.out.mono ?_; rintro _ w2 ⟨rfl, hb⟩
        have HW2 := hide (HW.out.trans (hb.mono HW.out.size))
        clear hb
        go_wp2
        go_roundw
        case rel => exact ⟨k + 1, hlt, by go_num, HX, HW2⟩
        case measure => simp [intOf]; omega
      · rw [hz] at HPz
        have HX := hide (HY.out hz)
        clear hz HN HY
        go_wp2_with fail
        refine HPz.out.mono ?_; rintro _ w2 ⟨rfl, hb⟩
        have HW2 := hide (HW.out.trans (hb.mono HW.out.size))
        clear hb
        go_wp2
        go_ret
        exact ⟨⟨_, rfl, by rw [HX.out, decide_eq_true (by omega)]⟩, HW2.out⟩
    · obtain rfl : k = l.length := by omega
      rw [List.take_length] at HK
      go_wp2
      go_ret
      exact ⟨⟨_, rfl, by rw [HK.out]; rfl⟩, HW.out⟩
theorem containsFuncB_any (fb : Nat) (cp : Value) (hE : ∀ args w, Sem.run Tryz.prog (callFunc fb args) w = .ok (.enter fb args) w) (l : List Int) (p : Int → Bool) (A : Option Addr) (c B : Nat) (w : World) (hr : RdI w B A l) (hB : B ≤ w.heap.size) (hl : l.length ≤ 9223372036854775807)
    (hp : ∀ y z, Below w.heap.size w y → z ∈ l → Calls Tryz.prog fb #[cp, .int .i64 z] y fun e w' => e = .returned (.bool (p z)) ∧ Below y.heap.size y w') :
    Calls Tryz.prog 54 #[.slice A l.length c, .func (Fn.func fb) #[cp] #[]] w fun e w' => e = .returned (.bool (l.any p)) ∧ Below w.heap.size w w' := by
  have H := hide (indexFuncB_any fb cp hE l p A c B w hr hB hl hp)
  clear hr hB hl hp
  go_enter Tryz.func54, Tryz.ntmps54
  go_wp2_with fail
  refine H.out.mono ?_; rintro _ w2 ⟨⟨k, rfl, hk⟩, hb⟩
  have HK := hide hk
  have HB := hide hb
  clear hk hb
  go_wp2
  go_ret
  exact ⟨ret_bool HK.out, HB.out⟩
end Go.Proofs.YtajcegofflmoeaaGreatDoor

namespace Go.Proofs.YtajcegofflmoeaaGreatDoor
set_option maxRecDepth 100000
open Go.RowKit

def Gm.nts (r : List Int) : List Int := (r.filter fun z => decide (z < 0)).map fun z => -1 - z
theorem Gm.nts_next {r : List Int} {k : Nat} (h : k < r.length) : Gm.nts (r.take (k + 1)) = if r.getD k 0 < 0 then Gm.nts (r.take k) ++ [-1 - r.getD k 0] else Gm.nts (r.take k) := by
  unfold Gm.nts
  rw [L.take_snoc r k h, List.filter_append, List.map_append]
  generalize r.getD k 0 = z
  by_cases hz : z < 0
  · rw [if_pos hz]; simp [hz]
  · rw [if_neg hz]; simp [hz]
theorem Gm.nts_len (r : List Int) : (Gm.nts r).length ≤ r.length := by
  unfold Gm.nts; rw [List.length_map]; exact List.length_filter_le _ _
theorem Gm.nts_mem {r : List Int} {n : Int} : n ∈ Gm.nts r ↔ -1 - n ∈ r ∧ 0 ≤ n := by
  unfold Gm.nts
  rw [List.mem_map]
  constructor
  · rintro ⟨z, hz, rfl⟩
    have := List.mem_filter.1 hz
    have h2 := of_decide_eq_true this.2
    exact ⟨by rw [show -1 - (-1 - z) = z by omega]; exact this.1, by omega⟩
  · rintro ⟨h1, h2⟩
    exact ⟨-1 - n, List.mem_filter.2 ⟨h1, by simp; omega⟩, by omega⟩

theorem isNon_any (z : Int) (w : World) :
    Calls Tryz.prog 83 #[.int .i64 z] w fun e w' => e = .returned (.bool (decide (z < 0))) ∧ w' = w := by
  go_enter Tryz.func83, Tryz.ntmps83
  go_wp2
  go_ret
  exact ⟨rfl, rfl⟩
theorem tnon_any (z : Int) (hz : -9223372036854775808 ≤ z) (hz' : z ≤ 9223372036854775807) (w : World) :
    Calls Tryz.prog 84 #[.int .i64 z] w fun e w' => e = .returned (.int .i64 (-1 - z)) ∧ w' = w := by
  have hs : IntKind.i64.wrap (-1 - z) = -1 - z := IntWalk.i64_in _ (by omega)
  clear hz hz'
  go_enter Tryz.func84, Tryz.ntmps84
  go_wp2
  go_ret
  exact ⟨rfl, rfl⟩

set_option maxHeartbeats 2000000 in
theorem nons_any (x : Gm.Rl) (A : Option Addr) (c B : Nat) (w : World) (hr : RdI w B A x.r) (hin : ∀ z ∈ x.r, Gm.In z) (hB : B ≤ w.heap.size) (hl : x.r.length ≤ 1000000) :
    Calls Tryz.prog 88 #[.agg #[.int .i64 x.l, .slice A x.r.length c, .int .i64 x.p]] w fun e w' => ∃ v, e = .returned v ∧ OwnI w' w.heap.size v (Gm.nts x.r) ∧ Below w.heap.size w w' := by
  have HR := hide hr
  have HIN := hide hin
  have HI := hide (fun z w => isNon_any z w)
  have HX := hide (fun z h1 h2 w => tnon_any z h1 h2 w)
  have HB0 := hide hB
  have HL := hide hl
  have hlen : (x.r.length : Int) ≤ 9223372036854775807 := by omega
  have HA := hide (fun o => (Below.refl w.heap.size w).alloc (Nat.le_refl _) o)
  clear hr hin hB hl
  go_enter Tryz.func88, Tryz.ntmps88
  go_wp2
  go_loopw [3, 9] (fun vl vi wr => ∃ k : Nat, k ≤ x.r.length ∧ vi = .int .i64 k ∧ Hid (OwnI wr w.heap.size vl (Gm.nts (x.r.take k))) ∧ Hid (Below w.heap.size w wr)) (fun _ vi _ => x.r.length - (intOf vi).toNat)
  case atStart => exact ⟨0, Nat.zero_le _, rfl, hide (OwnI.nil _ _), HA.out _⟩
  case round =>
    obtain ⟨k, hk, rfl, HO, HB⟩ := hrel
    by_cases hlt : k < x.r.length
    · obtain ⟨g, o, rfl, hgb, hc⟩ := HR.out (by omega)
      have k0 := (HB.out.cell (p := ⟨g, o + k, none⟩) (Nat.lt_of_lt_of_le hgb HB0.out)).trans (hc k hlt)
      have hin := HIN.out (x.r.getD k 0) (by rw [L.gd_lt hlt]; exact List.getElem_mem _)
      have HN := hide (Gm.nts_next hlt)
      have HLN : Hid ((Gm.nts (x.r.take k)).length ≤ 1000000) := hide (Nat.le_trans (Gm.nts_len _) (by rw [List.length_take]; have := HL.out; omega))
      clear hc
      unfold Gm.In at hin
      generalize x.r.getD k 0 = z at *
      have HXz := hide (fun w => HX.out z hin.1 hin.2 w)
      have HIz := hide (fun w => HI.out z w)
      clear hin
      by_cases hz : z < 0
      · have HN2 := hide (HN.out.trans (if_pos hz))
        rw [decide_eq_true hz] at HIz
        clear hz
        go_wp2_with fail
        refine (HIz.out _).mono ?_; rintro _ w2 ⟨rfl, hw2⟩
        subst hw2
        go_wp2_with fail
        refine (HXz.out _).mono ?_; rintro _ w2 ⟨rfl, hw2⟩
        subst hw2
        generalize -1 - z = n at *
        go_wp2_with (at_builtin; refine apI_arm rfl (.tmp 15) (.tmp 18) _ rfl Tryz.underlying29 w.heap.size _ _ rfl (HO.out.alloc _) _ 1 n rfl (World.cell?_alloc_new _ _ _ 0) (by have := HLN.out; omega) (by have := HB.out.size; simp; omega) ?_; intro v' w2 ho2 hg2)
        go_roundw
        case rel => exact ⟨k + 1, hlt, by go_num, by rw [HN2.out]; exact ho2, below_grownI (HB.out.alloc (by have := HB.out.size; omega) _) (HO.out.alloc _) hg2 (by have := HB.out.size; simp; omega)⟩
        case measure => simp [intOf]; omega
      · have HN2 := hide (HN.out.trans (if_neg hz))
        rw [decide_eq_false hz] at HIz
        clear hz
        go_wp2_with fail
        refine (HIz.out _).mono ?_; rintro _ w2 ⟨rfl, hw2⟩
        subst hw2
        go_wp2_with fail
        go_roundw
        case rel => exact ⟨k + 1, hlt, by go_num, by rw [HN2.out]; exact HO, HB⟩
        case measure => simp [intOf]; omega
    · obtain rfl : k = x.r.length := by omega
      rw [List.take_length] at HO
      go_wp2
      go_ret
      exact ⟨_, rfl, HO.out, HB.out⟩

theorem Gm.allB_nts {is : List Bool} {r : List Int} : Gm.allB true is r = (Gm.nts r).all fun n => is.getD n.toNat false := by
  unfold Gm.allB Gm.nts
  rw [List.all_map, List.all_filter]
  congr 1
  funext z
  by_cases h : z < 0
  · simp [h, show ¬ 0 ≤ z by omega]
  · simp [h, show 0 ≤ z by omega]
def AllO (l : List Int) (p : Int → Bool) (k : Nat) : Prop := ∀ i (h : i < l.length), i < k → p l[i] = true
theorem AllO.next {l : List Int} {p : Int → Bool} {k : Nat} (h : AllO l p k) (hk : k < l.length) (hn : p l[k] = true) : AllO l p (k + 1) := fun i hi hik => by
  rcases Nat.lt_or_ge i k with q | q
  · exact h i hi q
  · obtain rfl : i = k := by omega
    exact hn
theorem AllO.all {l : List Int} {p : Int → Bool} (h : AllO l p l.length) : l.all p = true := by
  rw [List.all_eq_true]
  intro z hz
  obtain ⟨i, hi, rfl⟩ := List.getElem_of_mem hz
  exact h i hi hi
theorem AllO.not {l : List Int} {p : Int → Bool} {k : Nat} (hk : k < l.length) (h : p l[k] = false) : l.all p = false := by
  rw [List.all_eq_false]
  exact ⟨_, List.getElem_mem hk, by rw [h]; simp⟩

set_option maxHeartbeats 2000000 in
theorem isProductive_any (x : Gm.Rl) (is : List Bool) (A A2 : Option Addr) (c c2 B : Nat) (w : World) (hr : RdI w B A x.r) (hin : ∀ z ∈ x.r, Gm.In z) (hs : ∀ z ∈ x.r, z < 0 → -1 - z < (is.length : Int)) (hp : RdO w B A2 is) (hB : B ≤ w.heap.size) (hl : x.r.length ≤ 1000000) :
    Calls Tryz.prog 87 #[.agg #[.int .i64 x.l, .slice A x.r.length c, .int .i64 x.p], .slice A2 is.length c2] w fun e w' => e = .returned (.bool (Gm.allB true is x.r)) ∧ Below w.heap.size w w' := by
  have HNO := hide (fun (y : World) (h : Below w.heap.size w y) => nons_any x A c B y (hr.below h hB) hin (Nat.le_trans hB h.size) hl)
  have HP := hide hp
  have HB0 := hide hB
  have HMEM := hide (fun n (h : n ∈ Gm.nts x.r) => (show 0 ≤ n ∧ n < (is.length : Int) from ⟨(Gm.nts_mem.1 h).2, by have := hs _ (Gm.nts_mem.1 h).1 (by have := (Gm.nts_mem.1 h).2; omega); omega⟩))
  have HE := hide (Gm.allB_nts (is := is) (r := x.r))
  have HA := hide (fun o => (Below.refl w.heap.size w).alloc (Nat.le_refl _) o)
  have HLN := hide (Nat.le_trans (Gm.nts_len x.r) hl)
  rw [HE.out]
  generalize Gm.nts x.r = ls at *
  have hlen : (ls.length : Int) ≤ 9223372036854775807 := by have := HLN.out; omega
  clear hr hin hs hp hB hl HE
  go_enter Tryz.func87, Tryz.ntmps87
  go_wp2_with fail
  refine (HNO.out _ (HA.out _)).mono ?_; rintro _ w2 ⟨v, rfl, ho2, hb2⟩
  have HB2 := hide ((HA.out (.cells #[.int .i64 x.l, .slice A x.r.length c, .int .i64 x.p] 51)).trans (hb2.mono (by simp)))
  obtain ⟨A3, c3, rfl, h31, h32, hr3⟩ := ho2.form
  have HR3 := hide hr3
  clear ho2 hb2 hr3 h31 h32 HNO
  go_wp2
  go_loop [10] (fun vi => ∃ k : Nat, k ≤ ls.length ∧ vi = .int .i64 k ∧ Hid (AllO ls (fun n => is.getD n.toNat false) k)) (fun vi => ls.length - (intOf vi).toNat)
  case atStart => exact ⟨0, Nat.zero_le _, rfl, hide (fun _ _ h => absurd h (by omega))⟩
  case round =>
    obtain ⟨k, hk, rfl, HK⟩ := hrel
    by_cases hlt : k < ls.length
    · obtain ⟨g, o, rfl, hgb, hc⟩ := HR3.out (by omega)
      have k0 := hc k hlt
      have hm := HMEM.out _ (List.getElem_mem hlt)
      rw [L.gd_lt hlt] at k0
      have HY := hide (fun h => HK.out.next hlt h)
      have HN := hide (fun h => AllO.not (p := fun n => is.getD n.toNat false) hlt h)
      clear hc
      generalize ls[k] = n at *
      obtain ⟨m, rfl⟩ : ∃ m : Nat, n = (m : Int) := ⟨n.toNat, by omega⟩
      have hm2 : m < is.length := by omega
      obtain ⟨g2, o2, rfl, hgb2, hc2⟩ := HP.out (by omega)
      have k2 := (HB2.out.cell (p := ⟨g2, o2 + m, none⟩) (Nat.lt_of_lt_of_le hgb2 HB0.out)).trans (hc2 m hm2)
      have hl3 : (m : Int) < (is.length : Int) := by omega
      simp only [Int.toNat_natCast] at HY HN
      generalize is.getD m false = b at *
      clear hc2 hm
      cases b
      · have HX := hide (HN.out rfl)
        go_wp2
        go_ret
        exact ⟨ret_bool HX.out.symm, HB2.out⟩
      · have HX := hide (HY.out rfl)
        go_wp2
        go_round
        case rel => exact ⟨k + 1, hlt, by go_num, HX⟩
        case measure => simp [intOf]; omega
    · obtain rfl : k = ls.length := by omega
      have HX := hide (HK.out.all)
      go_wp2
      go_ret
      exact ⟨ret_bool HX.out.symm, HB2.out⟩
end Go.Proofs.YtajcegofflmoeaaGreatDoor

namespace Go.Proofs.YtajcegofflmoeaaGreatDoor
set_option maxRecDepth 100000
open Go.RowKit

def Gm.ps (tm : Bool) (is : List Bool) (z : Int) : Bool := if 0 ≤ z then tm else is.getD (-1 - z).toNat false
theorem Gm.allB_ps (tm : Bool) (is : List Bool) (r : List Int) : Gm.allB tm is r = r.all (Gm.ps tm is) := rfl
theorem Gm.ps_non {tm : Bool} {is : List Bool} {z : Int} (h : z < 0) : ∃ m : Nat, -1 - z = (m : Int) ∧ Gm.ps tm is z = is.getD m false := by
  refine ⟨(-1 - z).toNat, by omega, ?_⟩
  unfold Gm.ps
  rw [if_neg (by omega)]
theorem Gm.ps_term {tm : Bool} {is : List Bool} {z : Int} (h : ¬ z < 0) : Gm.ps tm is z = tm := by unfold Gm.ps; rw [if_pos (by omega)]

set_option maxHeartbeats 1000000 in
theorem passN_any (z : Int) (is : List Bool) (A : Option Addr) (c B : Nat) (w : World) (hz : Gm.In z) (hs : z < 0 → -1 - z < (is.length : Int)) (hr : RdO w B A is) :
    Calls Tryz.prog 89 #[.int .i64 z, .slice A is.length c] w fun e w' => e = .returned (.bool (Gm.ps false is z)) ∧ w' = w := by
  unfold Gm.In at hz
  have HI := hide (fun w => isNon_any z w)
  have HX := hide (fun w => tnon_any z hz.1 hz.2 w)
  by_cases h0 : z < 0
  · obtain ⟨m, he, hp⟩ := Gm.ps_non (tm := false) (is := is) h0
    have hm := hs h0
    rw [he] at HX hm
    have hm2 : m < is.length := by omega
    obtain ⟨g, o, rfl, hgb, hc⟩ := hr (by omega)
    have k0 := hc m hm2
    rw [hp]
    rw [decide_eq_true h0] at HI
    generalize is.getD m false = b at *
    clear hz hs hr hc h0 he hp
    go_enter Tryz.func89, Tryz.ntmps89
    go_wp2_with fail
    refine (HI.out _).mono ?_; rintro _ w2 ⟨rfl, hw2⟩
    subst hw2
    go_wp2_with fail
    refine (HX.out _).mono ?_; rintro _ w2 ⟨rfl, hw2⟩
    subst hw2
    go_wp2
    go_ret
    exact ⟨rfl, rfl⟩
  · rw [Gm.ps_term h0]
    rw [decide_eq_false h0] at HI
    clear hz hs hr h0 HX
    go_enter Tryz.func89, Tryz.ntmps89
    go_wp2_with fail
    refine (HI.out _).mono ?_; rintro _ w2 ⟨rfl, hw2⟩
    subst hw2
    go_wp2
    go_ret
    exact ⟨rfl, rfl⟩

set_option maxHeartbeats 1000000 in
theorem passP_any (z : Int) (is : List Bool) (A : Option Addr) (c B : Nat) (w : World) (hz : Gm.In z) (hs : z < 0 → -1 - z < (is.length : Int)) (hr : RdO w B A is) :
    Calls Tryz.prog 82 #[.int .i64 z, .slice A is.length c] w fun e w' => e = .returned (.bool (Gm.ps true is z)) ∧ w' = w := by
  unfold Gm.In at hz
  have HI := hide (fun w => isNon_any z w)
  have HX := hide (fun w => tnon_any z hz.1 hz.2 w)
  by_cases h0 : z < 0
  · obtain ⟨m, he, hp⟩ := Gm.ps_non (tm := true) (is := is) h0
    have hm := hs h0
    rw [he] at HX hm
    have hm2 : m < is.length := by omega
    obtain ⟨g, o, rfl, hgb, hc⟩ := hr (by omega)
    have k0 := hc m hm2
    rw [hp]
    rw [decide_eq_true h0] at HI
    generalize is.getD m false = b at *
    clear hz hs hr hc h0 he hp
    go_enter Tryz.func82, Tryz.ntmps82
    go_wp2_with fail
    refine (HI.out _).mono ?_; rintro _ w2 ⟨rfl, hw2⟩
    subst hw2
    go_wp2_with fail
    refine (HX.out _).mono ?_; rintro _ w2 ⟨rfl, hw2⟩
    subst hw2
    go_wp2
    go_ret
    exact ⟨rfl, rfl⟩
  · rw [Gm.ps_term h0]
    rw [decide_eq_false h0] at HI
    clear hz hs hr h0 HX
    go_enter Tryz.func82, Tryz.ntmps82
    go_wp2_with fail
    refine (HI.out _).mono ?_; rintro _ w2 ⟨rfl, hw2⟩
    subst hw2
    go_wp2
    go_ret
    exact ⟨rfl, rfl⟩

set_option maxHeartbeats 2000000 in
theorem rall_any (l : List Int) (is : List Bool) (tm : Bool) (A A2 : Option Addr) (c c2 B B2 : Nat) (w : World) (hr : RdI w B A l) (hin : ∀ z ∈ l, Gm.In z) (hs : ∀ z ∈ l, z < 0 → -1 - z < (is.length : Int)) (hp : RdO w B2 A2 is) (hl : l.length ≤ 1000000) :
    Calls Tryz.prog 41 #[.slice A l.length c, .slice A2 is.length c2, .bool tm] w fun e w' => e = .returned (.bool (Gm.allB tm is l)) ∧ w' = w := by
  have HR := hide hr
  have HP := hide hp
  have HIN := hide hin
  have HS := hide hs
  rw [Gm.allB_ps]
  have hlen : (l.length : Int) ≤ 9223372036854775807 := by omega
  clear hr hin hs hp hl
  go_enter Tryz.func41, Tryz.ntmps41
  go_wp2
  go_loop [7] (fun vi => ∃ k : Nat, k ≤ l.length ∧ vi = .int .i64 k ∧ Hid (AllO l (Gm.ps tm is) k)) (fun vi => l.length - (intOf vi).toNat)
  case atStart => exact ⟨0, Nat.zero_le _, rfl, hide (fun _ _ h => absurd h (by omega))⟩
  case round =>
    obtain ⟨k, hk, rfl, HK⟩ := hrel
    by_cases hlt : k < l.length
    · obtain ⟨g, o, rfl, hgb, hc⟩ := HR.out (by omega)
      have k0 := hc k hlt
      rw [L.gd_lt hlt] at k0
      have hz := HIN.out _ (List.getElem_mem hlt)
      have hq := HS.out _ (List.getElem_mem hlt)
      have HY := hide (fun h => HK.out.next hlt h)
      have HN := hide (fun h => AllO.not (p := Gm.ps tm is) hlt h)
      clear hc
      generalize l[k] = z at *
      unfold Gm.In at hz
      by_cases h0 : z < 0
      · obtain ⟨m, he, hps⟩ := Gm.ps_non (tm := tm) (is := is) h0
        have hm := hq h0
        rw [he] at hm
        have hm2 : m < is.length := by omega
        obtain ⟨g2, o2, rfl, hgb2, hc2⟩ := HP.out (by omega)
        have k2 := hc2 m hm2
        have d0 : decide (0 ≤ z) = false := decide_eq_false (by omega)
        have d1 : decide (z < 0) = true := decide_eq_true h0
        have d2 : IntKind.i64.wrap (-1 - z) = (m : Int) := by rw [IntWalk.i64_in _ (by omega)]; exact he
        rw [hps] at HY HN
        generalize is.getD m false = b at *
        clear hz hq hc2 he hps h0
        cases b
        · have HX := hide (HN.out rfl)
          go_wp2
          go_ret
          exact ⟨ret_bool HX.out.symm, rfl⟩
        · have HX := hide (HY.out rfl)
          go_wp2
          go_round
          case rel => exact ⟨k + 1, hlt, by go_num, HX⟩
          case measure => simp [intOf]; omega
      · have d0 : decide (0 ≤ z) = true := decide_eq_true (by omega)
        have d1 : decide (z < 0) = false := decide_eq_false h0
        rw [Gm.ps_term h0] at HY HN
        clear hz hq h0
        cases tm
        · have HX := hide (HN.out rfl)
          go_wp2
          go_ret
          exact ⟨ret_bool HX.out.symm, rfl⟩
        · have HX := hide (HY.out rfl)
          go_wp2
          go_round
          case rel => exact ⟨k + 1, hlt, by go_num, HX⟩
          case measure => simp [intOf]; omega
    · obtain rfl : k = l.length := by omega
      have HX := hide (HK.out.all)
      go_wp2
      go_ret
      exact ⟨ret_bool HX.out.symm, rfl⟩

theorem enter_of {f : Nat} {fn : Func} (hf : Tryz.prog.funcs[f]? = some fn) (hb : fn.body.isNone = false) (hn : (fn.name == "runtime.NumGoroutine") = false) (args : Array Value) (w : World) : Sem.run Tryz.prog (callFunc f args) w = .ok (.enter f args) w := by
  have hn2 : ¬ fn.name = "runtime.NumGoroutine" := by simpa using hn
  have hb2 : fn.body ≠ none := by intro h; rw [h] at hb; cases hb
  simp [callFunc, go_sem, hf, hb2, hn2]
theorem ownI_lit (w : World) (b : List Int) (base : Nat) (hb : base ≤ w.heap.size) (hm : b.length ≤ maxLen) : OwnI (w.alloc (.cells (b.map (Value.int .i64)).toArray 3)) base (.slice (some ⟨w.heap.size, 0, none⟩) b.length b.length) b :=
  ⟨by simp, .inr ⟨w.heap.size, b.length, _, rfl, hb, heap_alloc_new w _, Nat.le_refl _, hm, by simp, by simp [List.take_of_length_le]⟩⟩

def Gm.brL (tm : Bool) (is : List Bool) (x : Gm.Rl) : List Int := if Gm.allB tm is x.r = true then [x.l] else []
set_option maxHeartbeats 2000000 in
theorem lefts1_any (f : Nat) (hE : ∀ args w, Sem.run Tryz.prog (callFunc f args) w = .ok (.enter f args) w) (tm : Bool) (x : Gm.Rl) (is : List Bool) (A A2 : Option Addr) (c c2 B gp gk : Nat) (w : World)
    (hf : ∀ z y, Below w.heap.size w y → z ∈ x.r → Calls Tryz.prog f #[.int .i64 z, .slice A2 is.length c2] y fun e w' => e = .returned (.bool (Gm.ps tm is z)) ∧ w' = y)
    (hgp : w.cell? ⟨gp, 0, none⟩ = some (.func (Fn.func f) #[] #[])) (hgk : w.cell? ⟨gk, 0, none⟩ = some (.slice A2 is.length c2)) (hr : RdI w B A x.r) (hB : B ≤ w.heap.size) (hl : x.r.length ≤ 1000000) :
    Calls Tryz.prog 110 #[.agg #[.int .i64 x.l, .slice A x.r.length c, .int .i64 x.p], .pointer (some ⟨gp, 0, none⟩), .pointer (some ⟨gk, 0, none⟩)] w fun e w' => ∃ v, e = .returned v ∧ OwnI w' w.heap.size v (Gm.brL tm is x) ∧ Below w.heap.size w w' := by
  have HF := hide hf
  have HR := hide hr
  have HB0 := hide hB
  have HA := hide (fun o => (Below.refl w.heap.size w).alloc (Nat.le_refl _) o)
  have lp := block_lt_of_cell hgp
  have lk := block_lt_of_cell hgk
  have hlen : (x.r.length : Int) ≤ 9223372036854775807 := by omega
  have HE : Hid (Gm.brL tm is x = if x.r.all (Gm.ps tm is) = true then [x.l] else []) := hide rfl
  clear hf hr hB hl
  go_enter Tryz.func110, Tryz.ntmps110
  go_wp2
  go_loop [10] (fun vi => ∃ k : Nat, k ≤ x.r.length ∧ vi = .int .i64 k ∧ Hid (AllO x.r (Gm.ps tm is) k)) (fun vi => x.r.length - (intOf vi).toNat)
  case atStart => exact ⟨0, Nat.zero_le _, rfl, hide (fun _ _ h => absurd h (by omega))⟩
  case round =>
    obtain ⟨k, hk, rfl, HK⟩ := hrel
    by_cases hlt : k < x.r.length
    · obtain ⟨g, o, rfl, hgb, hc⟩ := HR.out (by omega)
      have k0 := hc k hlt
      rw [L.gd_lt hlt] at k0
      have hgs : g < w.heap.size := Nat.lt_of_lt_of_le hgb HB0.out
      have HFz := hide (fun y h => HF.out _ y h (List.getElem_mem hlt))
      have HY := hide (fun h => HK.out.next hlt h)
      have HN := hide (fun h => AllO.not (p := Gm.ps tm is) hlt h)
      clear hc
      generalize x.r[k] = z at *
      cases hb : Gm.ps tm is z
      · rw [hb] at HFz
        have HX := hide (HE.out.trans (if_neg (by rw [HN.out hb]; decide)))
        clear hb
        go_wp2_with fail
        refine (HFz.out _ (HA.out _)).mono ?_; rintro _ w2 ⟨rfl, hw2⟩
        subst hw2
        go_wp2
        go_ret
        exact ⟨_, rfl, by rw [HX.out]; exact OwnI.nil _ _, HA.out _⟩
      · rw [hb] at HFz
        have HX := hide (HY.out hb)
        clear hb
        go_wp2_with fail
        refine (HFz.out _ (HA.out _)).mono ?_; rintro _ w2 ⟨rfl, hw2⟩
        subst hw2
        go_wp2
        go_round
        case rel => exact ⟨k + 1, hlt, by go_num, HX⟩
        case measure => simp [intOf]; omega
    · obtain rfl : k = x.r.length := by omega
      have HX := hide (HE.out.trans (if_pos HK.out.all))
      go_wp2
      go_ret
      have q := ownI_lit (w.alloc (.cells #[.int .i64 x.l, .slice A x.r.length c, .int .i64 x.p] 51)) [x.l] w.heap.size (by simp) (by unfold maxLen; simp)
      rw [show (w.alloc (.cells #[.int .i64 x.l, .slice A x.r.length c, .int .i64 x.p] 51)).heap.size = w.heap.size + 1 by simp] at q
      exact ⟨_, rfl, by rw [HX.out]; exact q, (HA.out _).alloc (HA.out _).size _⟩
end Go.Proofs.YtajcegofflmoeaaGreatDoor

namespace Go.Proofs.YtajcegofflmoeaaGreatDoor
set_option maxRecDepth 100000
open Go.RowKit

theorem Gm.toB_no {nu : List Bool} {r : List Int} {k : Nat} (h : ¬ r.getD k 0 < 0) : Gm.toB nu r k = false := by unfold Gm.toB; rw [decide_eq_false h]; rfl
theorem Gm.toB_yes {nu : List Bool} {r : List Int} {k : Nat} (h : r.getD k 0 < 0) : Gm.toB nu r k = (Gm.allB false nu (r.take k) && Gm.allB false nu (r.drop (k + 1))) := by unfold Gm.toB; rw [decide_eq_true h]; rfl
theorem Gm.toK_lt {nu : List Bool} {r : List Int} (h : ∀ z ∈ r, z < 0 → -1 - z < (32 : Int)) : ∀ k, k ≤ r.length → Gm.toK nu r k < 4294967296 := fun k hk => by
  refine Nat.lt_pow_two_of_testBit (n := 32) _ fun t ht => ?_
  cases hb : (Gm.toK nu r k).testBit t
  · rfl
  · obtain ⟨i, h1, h2, h3⟩ := (Gm.toK_bit nu r t k).1 hb
    unfold Gm.toB at h2
    rw [Bool.and_eq_true, decide_eq_true_eq, L.gd_lt (by omega)] at h2
    rw [L.gd_lt (by omega)] at h3
    have := h r[i] (List.getElem_mem _) h2.1
    omega
theorem Gm.toK_step {nu : List Bool} {r : List Int} {k m : Nat} (hm : -1 - r.getD k 0 = (m : Int)) (h31 : m ≤ 31) (hb : Gm.toB nu r k = true) : Gm.toK nu r (k + 1) = Gm.toK nu r k ||| S.bit m := by
  rw [Gm.toK, if_pos hb, hm, S.bit_nat h31]; rfl
theorem Gm.toK_stay {nu : List Bool} {r : List Int} {k : Nat} (hb : Gm.toB nu r k = false) : Gm.toK nu r (k + 1) = Gm.toK nu r k := by
  rw [Gm.toK, if_neg (by rw [hb]; simp), Nat.or_zero]
set_option maxHeartbeats 8000000 in
theorem cto_any (r : List Int) (nu pr : List Bool) (A : Option Addr) (c B : Nat) (w : World) (hr : RdI w B A r) (hB : B ≤ w.heap.size) (hin : ∀ z ∈ r, Gm.In z) (hs : ∀ z ∈ r, z < 0 → -1 - z < (nu.length : Int)) (hn : pr.length = nu.length) (h32 : nu.length ≤ 32) (hl : r.length ≤ 1000000) (hc : r.length ≤ c) :
    Calls Tryz.prog 31 #[.agg #[.int .u32 (Gm.ths nu : Int), .int .u32 (Gm.ths pr : Int)], .slice A r.length c] w fun e w' => e = .returned (.int .u32 (Gm.toN nu pr r)) ∧ Below w.heap.size w w' := by
  have HS0 := hide (OneT.start 54 w #[.int .u32 (Gm.ths nu : Int), .int .u32 (Gm.ths pr : Int)])
  have HCF := hide (fun (x : World) (h : Below w.heap.size w x) => containsFuncB_any 55 (.agg #[.int .u32 (Gm.ths nu : Int), .int .u32 (Gm.ths pr : Int)]) (enter_of Tryz.func55 (by kernel_rfl) (by kernel_rfl)) r (Gm.neB pr) A c B x (hr.below h hB) (Nat.le_trans hB h.size) (by omega)
    (fun y z _ hz => neverEnds_any z (Gm.ths nu) pr y (hin z hz) (fun h => by rw [hn]; exact hs z hz h) (by omega)))
  rw [Gm.any_neB] at HCF
  have HAN := hide (fun (x : World) (h : Below w.heap.size w x) (k : Nat) => areNullable_any (r.take k) nu (Gm.ths pr) A c B x ((hr.below h hB).take k) (Nat.le_trans hB h.size) (fun z hz => hin z (List.mem_of_mem_take hz)) (fun z hz => hs z (List.mem_of_mem_take hz)) h32 (by rw [List.length_take]; omega))
  have HAD := hide (fun (x : World) (h : Below w.heap.size w x) (k : Nat) => areNullable_any (r.drop k) nu (Gm.ths pr) (dropA A c k) (c - k) B x ((hr.below h hB).dropA hc k) (Nat.le_trans hB h.size) (fun z hz => hin z (List.mem_of_mem_drop hz)) (fun z hz => hs z (List.mem_of_mem_drop hz)) h32 (by rw [List.length_drop]; omega))
  have HI := hide (fun z w => cIsNon_any z w)
  have HX := hide (fun z (hz : z ∈ r) w => cNon_any z (hin z hz).1 (hin z hz).2 w)
  have HO := hide (fun n w => cOnly_any n w)
  have HSN := hide (fun z (hz : z ∈ r) (h : z < 0) => (show ∃ m : Nat, -1 - z = (m : Int) ∧ m ≤ 31 from ⟨(-1 - z).toNat, by omega, by have := hs z hz h; omega⟩))
  have HKL := hide (Gm.toK_lt (nu := nu) (r := r) (fun z hz h => by have := hs z hz h; omega))
  have HR := hide hr
  have HB := hide hB
  have HC := hide hc
  have hlen : (r.length : Int) ≤ 9223372036854775807 := by omega
  have HLN := hide hl
  have HT : Hid (Gm.toN nu pr r = if Gm.allB true pr r = true then Gm.toK nu r r.length else 0) := hide rfl
  obtain ⟨tn, htn⟩ : ∃ t, t = Gm.toN nu pr r := ⟨_, rfl⟩
  rw [← htn] at HT ⊢
  generalize Gm.ths nu = N at *
  generalize Gm.ths pr = P at *
  have hmf : ∀ (fn : Fn) (first cap : Array Value) (w : World), (Instr.makeFunc fn first cap).run Tryz.prog w = .ok (.func fn first cap) w := fun _ _ _ _ => rfl
  clear hr hB hin hs hn h32 hl hc htn
  obtain ⟨w1, hw1⟩ : ∃ y, y = w.alloc (.cells #[.int .u32 (N : Int), .int .u32 (P : Int)] 54) := ⟨_, rfl⟩
  rw [← hw1] at HS0
  have q0 := HS0.out.c 0 _ rfl
  have q1 := HS0.out.c 1 _ rfl
  have hd : w.heap.size < w1.heap.size := HS0.out.size
  cases ha : Gm.allB true pr r
  · rw [ha] at HCF HT
    have HX0 : Hid (tn = 0) := hide (by rw [HT.out]; simp)
    clear ha
    go_enter Tryz.func31, Tryz.ntmps31
    go_upto_region 1 with fail
    rw [← hw1]
    clear hw1
    go_wp2_with fail
    refine (HCF.out _ HS0.out.below).mono ?_; rintro _ w2 ⟨rfl, hb⟩
    have HW2 := hide (HS0.out.on hb)
    clear hb
    go_wp2
    go_ret
    exact ⟨by rw [HX0.out]; rfl, HW2.out.below⟩
  · rw [ha] at HCF HT
    have HX0 : Hid (tn = Gm.toK nu r r.length) := hide (by rw [HT.out]; simp)
    clear ha HT
    go_enter Tryz.func31, Tryz.ntmps31
    go_upto_region 1 with fail
    rw [← hw1]
    clear hw1
    go_wp2_with fail
    refine (HCF.out _ HS0.out.below).mono ?_; rintro _ w2 ⟨rfl, hb⟩
    have HW2 := hide (HS0.out.on hb)
    clear hb q0 q1 hd HCF HS0
    go_wp2
    go_loopw [5, 14] (fun vs vi wr => ∃ k : Nat, k ≤ r.length ∧ vi = .int .i64 k ∧ vs = .int .u32 (Gm.toK nu r k) ∧ Hid (OneT 54 w #[.int .u32 (N : Int), .int .u32 (P : Int)] wr)) (fun _ vi _ => r.length - (intOf vi).toNat)
    case atStart => exact ⟨0, Nat.zero_le _, rfl, rfl, HW2⟩
    case round =>
      clear HW2
      obtain ⟨k, hk, rfl, rfl, HW⟩ := hrel
      have hd : w.heap.size < wr.heap.size := HW.out.size
      have q0 := fun y : Calm.On wr.heap.size wr => (y.2.cell (p := ⟨w.heap.size, 0, none⟩) hd).trans (HW.out.c 0 _ rfl)
      have q1 := fun y : Calm.On wr.heap.size wr => (y.2.cell (p := ⟨w.heap.size, 1, none⟩) hd).trans (HW.out.c 1 _ rfl)
      by_cases hlt : k < r.length
      · have hRw := HR.out.below HW.out.below HB.out
        obtain ⟨g, o, rfl, hgb, hc⟩ := hRw (by omega)
        have k0 := hc k hlt
        have HSz := hide (fun h => HSN.out (r.getD k 0) (by rw [L.gd_lt hlt]; exact List.getElem_mem hlt) h)
        have HXz := hide (fun w => HX.out (r.getD k 0) (by rw [L.gd_lt hlt]; exact List.getElem_mem hlt) w)
        have HIz := hide (fun w => HI.out (r.getD k 0) w)
        have HNo := hide (fun h => Gm.toK_stay (nu := nu) (r := r) (k := k) (Gm.toB_no h))
        have HYe := hide (fun h => Gm.toB_yes (nu := nu) (r := r) (k := k) h)
        have HSt := hide (fun m hm h31 hb => Gm.toK_step (nu := nu) (r := r) (k := k) (m := m) hm h31 hb)
        have HSy := hide (fun hb => Gm.toK_stay (nu := nu) (r := r) (k := k) hb)
        have HKk := hide (HKL.out k hk)
        have HSB : Hid (∀ z, Below wr.heap.size wr z → ∃ q : Calm.On wr.heap.size wr, z = q.1) := hide (fun z hz => ⟨⟨z, hz⟩, rfl⟩)
        have HD : Hid (Below wr.heap.size wr wr.drew) := hide (below_drewN (Below.refl _ _) 1)
        have HA1 := hide (fun (x : World) (h : Below w.heap.size w x) => HAN.out x h k)
        have HA2 := hide (fun (x : World) (h : Below w.heap.size w x) => HAD.out x h (k + 1))
        rw [List.length_take, Nat.min_eq_left hk] at HA1
        rw [List.length_drop] at HA2
        have S1 := fun w => sliceI_to w (some ⟨g, o, none⟩) c r.length k (Nat.le_trans hk HC.out)
        have S2 := fun w => sliceI_from w (some ⟨g, o, none⟩) c r.length (k + 1) hlt
        rw [show ((k + 1 : Nat) : Int) = (k : Int) + 1 by omega] at S2
        generalize dropA (some ⟨g, o, none⟩) c (k + 1) = D at *
        generalize r.length - (k + 1) = nd at *
        generalize c - (k + 1) = cd at *
        clear hc hRw
        generalize r.getD k 0 = z at *
        generalize Gm.toK nu r k = s at *
        by_cases h0 : z < 0
        · obtain ⟨m, he, h31⟩ := HSz.out h0
          have HYe := hide (HYe.out h0)
          have HSt := hide (HSt.out m he h31)
          rw [he] at HXz
          rw [decide_eq_true h0] at HIz
          clear h0 he HSz HNo
          cases h1 : Gm.allB false nu (r.take k)
          · rw [h1] at HA1
            have HEq := hide (HSy.out (by rw [HYe.out, h1]; rfl))
            clear h1 HYe HSt HSy HXz
            go_upto_region 7 with fail
            refine CalmN.region_tree (fun x => ∃ y : Calm.On wr.heap.size wr, x = y.1) (.one [0] 1 (.one [2, 3, 4, 5, 6] 7 (.one [8, 9, 10, 11, 12, 13, 14] 15 (.fin [16])))) (by kernel_rfl) (by kernel_rfl) (fun _ _ d _ _ h => by cases d <;> exact h) ⟨⟨wr.drew, HD.out⟩, rfl⟩ ?_
            simp only [CalmN.wpT, CalmN.wpSt, CalmN.pickOps, List.getElem?_toArray, List.getElem?_cons_zero, List.getElem?_cons_succ]
            repeat (go_big_quiet_step (fail))
            refine wpQuiet_nil ?_
            generalize wr.drew = wd at *
            intro KK hKK
            rw [if_pos (by rfl)]
            go_wp2_with fail
            refine (HIz.out wd).mono ?_; rintro _ _ ⟨rfl, rfl⟩
            go_wp2_with fail
            refine hKK _ _ (HSB.out _ HD.out) (fun x => ∃ y : Calm.On wr.heap.size wr, x = y.1) (fun _ h => h) (HSB.out _ HD.out) ?_
            clear hKK
            repeat (go_big_quiet_step (fail))
            refine wpQuiet_nil ?_
            intro KK hKK
            rw [if_pos (by rfl)]
            go_wp2_with fail
            refine (HA1.out _ (HW.out.on HD.out).below).mono ?_; rintro _ v1 ⟨rfl, hb⟩
            have HV1 := hide (HD.out.trans (hb.mono HD.out.size))
            clear hb
            go_wp2_with fail
            refine hKK _ _ (HSB.out _ HV1.out) (fun x => ∃ y : Calm.On wr.heap.size wr, x = y.1) (fun _ h => h) (HSB.out _ HV1.out) ?_
            clear hKK
            repeat (go_big_quiet_step (fail))
            refine wpQuiet_nil ?_
            intro KK hKK
            rw [if_neg (by exact (fun h => absurd (show false = true from h) (by decide)))]
            refine hKK _ _ (HSB.out _ HV1.out) (fun x => ∃ y : Calm.On wr.heap.size wr, x = y.1) (fun _ h => h) (HSB.out _ HV1.out) ?_
            clear hKK
            simp only [Act.put, List.setIfInBounds_toArray, List.set_cons_succ, List.set_cons_zero]
            repeat (go_big_quiet_step (fail))
            refine wpQuiet_nil ?_
            clear q0 q1
            go_wp2
            go_roundw
            case rel => exact ⟨k + 1, hlt, by go_num, by rw [HEq.out], hide (HW.out.on HV1.out)⟩
            case measure => simp [intOf]; omega
          · rw [h1] at HA1
            cases h2 : Gm.allB false nu (r.drop (k + 1))
            · rw [h2] at HA2
              have HEq := hide (HSy.out (by rw [HYe.out, h1, h2]; rfl))
              clear h1 h2 HYe HSt HSy HXz
              go_upto_region 7 with fail
              refine CalmN.region_tree (fun x => ∃ y : Calm.On wr.heap.size wr, x = y.1) (.one [0] 1 (.one [2, 3, 4, 5, 6] 7 (.one [8, 9, 10, 11, 12, 13, 14] 15 (.fin [16])))) (by kernel_rfl) (by kernel_rfl) (fun _ _ d _ _ h => by cases d <;> exact h) ⟨⟨wr.drew, HD.out⟩, rfl⟩ ?_
              simp only [CalmN.wpT, CalmN.wpSt, CalmN.pickOps, List.getElem?_toArray, List.getElem?_cons_zero, List.getElem?_cons_succ]
              repeat (go_big_quiet_step (fail))
              refine wpQuiet_nil ?_
              generalize wr.drew = wd at *
              intro KK hKK
              rw [if_pos (by rfl)]
              go_wp2_with fail
              refine (HIz.out wd).mono ?_; rintro _ _ ⟨rfl, rfl⟩
              go_wp2_with fail
              refine hKK _ _ (HSB.out _ HD.out) (fun x => ∃ y : Calm.On wr.heap.size wr, x = y.1) (fun _ h => h) (HSB.out _ HD.out) ?_
              clear hKK
              repeat (go_big_quiet_step (fail))
              refine wpQuiet_nil ?_
              intro KK hKK
              rw [if_pos (by rfl)]
              go_wp2_with fail
              refine (HA1.out _ (HW.out.on HD.out).below).mono ?_; rintro _ v1 ⟨rfl, hb⟩
              have HV1 := hide (HD.out.trans (hb.mono HD.out.size))
              clear hb
              go_wp2_with fail
              refine hKK _ _ (HSB.out _ HV1.out) (fun x => ∃ y : Calm.On wr.heap.size wr, x = y.1) (fun _ h => h) (HSB.out _ HV1.out) ?_
              clear hKK
              repeat (go_big_quiet_step (fail))
              refine wpQuiet_nil ?_
              intro KK hKK
              rw [if_pos (by rfl)]
              go_wp2_with fail
              refine (HA2.out _ (HW.out.on HV1.out).below).mono ?_; rintro _ v2 ⟨rfl, hb⟩
              have HV2 := hide (HV1.out.trans (hb.mono HV1.out.size))
              clear hb
              go_wp2_with fail
              refine hKK _ _ (HSB.out _ HV2.out) (fun x => ∃ y : Calm.On wr.heap.size wr, x = y.1) (fun _ h => h) (HSB.out _ HV2.out) ?_
              clear hKK
              repeat (go_big_quiet_step (fail))
              refine wpQuiet_nil ?_
              clear q0 q1
              go_wp2
              go_roundw
              case rel => exact ⟨k + 1, hlt, by go_num, by rw [HEq.out], hide (HW.out.on HV2.out)⟩
              case measure => simp [intOf]; omega
            · rw [h2] at HA2
              have HEq := hide (HSt.out (by rw [HYe.out, h1, h2]; rfl))
              clear h1 h2 HYe HSt HSy
              go_upto_region 7 with fail
              refine CalmN.region_tree (fun x => ∃ y : Calm.On wr.heap.size wr, x = y.1) (.one [0] 1 (.one [2, 3, 4, 5, 6] 7 (.one [8, 9, 10, 11, 12, 13, 14] 15 (.fin [16])))) (by kernel_rfl) (by kernel_rfl) (fun _ _ d _ _ h => by cases d <;> exact h) ⟨⟨wr.drew, HD.out⟩, rfl⟩ ?_
              simp only [CalmN.wpT, CalmN.wpSt, CalmN.pickOps, List.getElem?_toArray, List.getElem?_cons_zero, List.getElem?_cons_succ]
              repeat (go_big_quiet_step (fail))
              refine wpQuiet_nil ?_
              generalize wr.drew = wd at *
              intro KK hKK
              rw [if_pos (by rfl)]
              go_wp2_with fail
              refine (HIz.out wd).mono ?_; rintro _ _ ⟨rfl, rfl⟩
              go_wp2_with fail
              refine hKK _ _ (HSB.out _ HD.out) (fun x => ∃ y : Calm.On wr.heap.size wr, x = y.1) (fun _ h => h) (HSB.out _ HD.out) ?_
              clear hKK
              repeat (go_big_quiet_step (fail))
              refine wpQuiet_nil ?_
              intro KK hKK
              rw [if_pos (by rfl)]
              go_wp2_with fail
              refine (HA1.out _ (HW.out.on HD.out).below).mono ?_; rintro _ v1 ⟨rfl, hb⟩
              have HV1 := hide (HD.out.trans (hb.mono HD.out.size))
              clear hb
              go_wp2_with fail
              refine hKK _ _ (HSB.out _ HV1.out) (fun x => ∃ y : Calm.On wr.heap.size wr, x = y.1) (fun _ h => h) (HSB.out _ HV1.out) ?_
              clear hKK
              repeat (go_big_quiet_step (fail))
              refine wpQuiet_nil ?_
              intro KK hKK
              rw [if_pos (by rfl)]
              go_wp2_with fail
              refine (HA2.out _ (HW.out.on HV1.out).below).mono ?_; rintro _ v2 ⟨rfl, hb⟩
              have HV2 := hide (HV1.out.trans (hb.mono HV1.out.size))
              clear hb
              go_wp2_with fail
              refine hKK _ _ (HSB.out _ HV2.out) (fun x => ∃ y : Calm.On wr.heap.size wr, x = y.1) (fun _ h => h) (HSB.out _ HV2.out) ?_
              clear hKK
              repeat (go_big_quiet_step (fail))
              refine wpQuiet_nil ?_
              clear q0 q1
              have HOm := hide (fun w => HO.out (m : Int) w)
              have ho := hide (u32_or_nat s (S.bit m) HKk.out (S.bit_lt _))
              generalize S.bit (m : Int) = bm at *
              go_wp2_with fail
              refine (HXz.out _).mono ?_; rintro _ _ ⟨rfl, rfl⟩
              go_wp2_with fail
              refine (HOm.out _).mono ?_; rintro _ v3 ⟨rfl, hb⟩
              have HV3 := hide (HV2.out.trans (hb.mono HV2.out.size))
              clear hb
              go_wp2_with (rw [ho.out])
              go_roundw
              case rel => exact ⟨k + 1, hlt, by go_num, by rw [HEq.out], hide (HW.out.on HV3.out)⟩
              case measure => simp [intOf]; omega
        · have HEq := hide (HNo.out h0)
          rw [decide_eq_false h0] at HIz
          clear h0 HSz HXz HNo HYe HSt HSy
          go_upto_region 7 with fail
          refine CalmN.region_tree (fun x => ∃ y : Calm.On wr.heap.size wr, x = y.1) (.one [0] 1 (.one [2, 3, 4, 5, 6] 7 (.one [8, 9, 10, 11, 12, 13, 14] 15 (.fin [16])))) (by kernel_rfl) (by kernel_rfl) (fun _ _ d _ _ h => by cases d <;> exact h) ⟨⟨wr.drew, HD.out⟩, rfl⟩ ?_
          simp only [CalmN.wpT, CalmN.wpSt, CalmN.pickOps, List.getElem?_toArray, List.getElem?_cons_zero, List.getElem?_cons_succ]
          repeat (go_big_quiet_step (fail))
          refine wpQuiet_nil ?_
          generalize wr.drew = wd at *
          intro KK hKK
          rw [if_pos (by rfl)]
          go_wp2_with fail
          refine (HIz.out wd).mono ?_; rintro _ _ ⟨rfl, rfl⟩
          go_wp2_with fail
          refine hKK _ _ (HSB.out _ HD.out) (fun x => ∃ y : Calm.On wr.heap.size wr, x = y.1) (fun _ h => h) (HSB.out _ HD.out) ?_
          clear hKK
          repeat (go_big_quiet_step (fail))
          refine wpQuiet_nil ?_
          intro KK hKK
          rw [if_neg (by exact (fun h => absurd (show false = true from h) (by decide)))]
          refine hKK _ _ (HSB.out _ HD.out) (fun x => ∃ y : Calm.On wr.heap.size wr, x = y.1) (fun _ h => h) (HSB.out _ HD.out) ?_
          clear hKK
          simp only [Act.put, List.setIfInBounds_toArray, List.set_cons_succ, List.set_cons_zero]
          repeat (go_big_quiet_step (fail))
          refine wpQuiet_nil ?_
          intro KK hKK
          rw [if_neg (by exact (fun h => absurd (show false = true from h) (by decide)))]
          refine hKK _ _ (HSB.out _ HD.out) (fun x => ∃ y : Calm.On wr.heap.size wr, x = y.1) (fun _ h => h) (HSB.out _ HD.out) ?_
          clear hKK
          simp only [List.setIfInBounds_toArray, List.set_cons_succ, List.set_cons_zero]
          repeat (go_big_quiet_step (fail))
          refine wpQuiet_nil ?_
          clear q0 q1
          go_wp2
          go_roundw
          case rel => exact ⟨k + 1, hlt, by go_num, by rw [HEq.out], hide (HW.out.on HD.out)⟩
          case measure => simp [intOf]; omega
      · obtain rfl : k = r.length := by omega
        go_wp2
        go_ret
        exact ⟨by rw [HX0.out]; rfl, HW.out.below⟩

theorem Gm.thB_next (p : Nat → Bool) {k : Nat} (hk : k ≤ 31) : Gm.thB p (k + 1) = if p k = true then Gm.thB p k ||| S.bit k else Gm.thB p k := by
  rw [Gm.thB]
  split
  · rw [S.bit_nat hk]
  · rw [Nat.or_zero]
set_option maxHeartbeats 2000000 in
theorem those_any (fl : List Bool) (A : Option Addr) (c B : Nat) (w : World) (hr : RdO w B A fl) (hB : B ≤ w.heap.size) (h32 : fl.length ≤ 32) :
    Calls Tryz.prog 50 #[.slice A fl.length c] w fun e w' => e = .returned (.int .u32 (Gm.ths fl)) ∧ Below w.heap.size w w' := by
  have HR := hide hr
  have HB := hide hB
  have HO := hide (fun n w => cOnly_any n w)
  have H32 := hide h32
  have HLT := hide (fun k (hk : k ≤ fl.length) => Gm.pow32 (Gm.thB_lt (fun i => fl.getD i false) k) (Nat.le_trans hk h32))
  have HNX := hide (fun k (hk : k < fl.length) => Gm.thB_next (fun i => fl.getD i false) (k := k) (by omega))
  have HT : Hid (Gm.ths fl = Gm.thB (fun i => fl.getD i false) fl.length) := hide rfl
  have hlen : (fl.length : Int) ≤ 9223372036854775807 := by omega
  rw [HT.out]
  obtain ⟨th, hth⟩ : ∃ f : Nat → Nat, f = Gm.thB (fun i => fl.getD i false) := ⟨_, rfl⟩
  have h0 : th 0 = 0 := by rw [hth]; rfl
  have H0 := hide h0
  rw [← hth] at HLT HNX ⊢
  clear hr hB h32 HT hth h0
  go_enter Tryz.func50, Tryz.ntmps50
  go_wp2
  go_loopw [3, 8] (fun vs vi wr => ∃ k : Nat, k ≤ fl.length ∧ vi = .int .i64 k ∧ vs = .int .u32 (th k) ∧ Hid (Below w.heap.size w wr)) (fun _ vi _ => fl.length - (intOf vi).toNat)
  case atStart => exact ⟨0, Nat.zero_le _, rfl, by rw [H0.out]; rfl, hide (Below.refl _ _)⟩
  case round =>
    obtain ⟨k, hk, rfl, rfl, HW⟩ := hrel
    by_cases hlt : k < fl.length
    · obtain ⟨g, o, rfl, hgb, hc⟩ := HR.out (by omega)
      have k0 := (HW.out.cell (p := ⟨g, o + k, none⟩) (Nat.lt_of_lt_of_le hgb HB.out)).trans (hc k hlt)
      have HN := hide (HNX.out k hlt)
      have HL := hide (HLT.out k hk)
      have HOk := hide (fun w => HO.out (k : Int) w)
      clear hc
      generalize fl.getD k false = b at *
      generalize th k = s at *
      generalize hbt : S.bit (k : Int) = bt at *
      have ho := hide (u32_or_nat s bt HL.out (by rw [← hbt]; exact S.bit_lt _))
      clear hbt
      cases b
      · have HE := hide (HN.out.trans (if_neg (by simp)))
        clear HN
        go_wp2
        go_roundw
        case rel => exact ⟨k + 1, hlt, by go_num, by rw [HE.out], HW⟩
        case measure => simp [intOf]; omega
      · have HE := hide (HN.out.trans (if_pos rfl))
        clear HN
        go_wp2_with fail
        refine (HOk.out _).mono ?_; rintro _ w2 ⟨rfl, hb⟩
        have HW2 := hide (HW.out.trans (hb.mono HW.out.size))
        clear hb
        go_wp2_with (rw [ho.out])
        go_roundw
        case rel => exact ⟨k + 1, hlt, by go_num, by rw [HE.out], HW2⟩
        case measure => simp [intOf]; omega
    · obtain rfl : k = fl.length := by omega
      go_wp2
      go_ret
      exact ⟨rfl, HW.out⟩
end Go.Proofs.YtajcegofflmoeaaGreatDoor

namespace Go.Proofs.YtajcegofflmoeaaGreatDoor
set_option maxRecDepth 100000
open Go.RowKit

def cntO (w : World) (g : Nat) : Nat := match w.heap[g]? with
  | some (.cells cs _ _) => cs.toList.countP fun v => match v with | .bool false => true | _ => false
  | _ => 0
theorem UBO.cnt {w : World} {g : Nat} {s : List Bool} (h : UBO w g s) : cntO w g = s.count false := by
  unfold cntO
  rw [h]
  clear h
  simp only
  induction s with
  | nil => rfl
  | cons b s ih =>
    simp only [List.map_cons, List.countP_cons, List.count_cons] at ih ⊢
    rw [ih]
    cases b <;> rfl
theorem Gm.ct_false (s : List Bool) : s.count false + Gm.ct s = s.length := by
  unfold Gm.ct
  induction s with
  | nil => rfl
  | cons b s ih => cases b <;> simp <;> omega
theorem Gm.ct_set {s : List Bool} {i : Nat} (h : i < s.length) : (s.getD i false = true → s.set i true = s) ∧ (s.getD i false = false → Gm.ct (s.set i true) = Gm.ct s + 1) := by
  induction s generalizing i with
  | nil => simp at h
  | cons b s ih =>
    cases i with
    | zero => cases b <;> simp [Gm.ct]
    | succ i =>
      have := ih (i := i) (by simpa using h)
      simp only [List.getD_cons_succ, List.set_cons_succ]
      refine ⟨fun e => by rw [this.1 e], fun e => ?_⟩
      have h2 := this.2 e
      unfold Gm.ct at h2 ⊢
      cases b <;> simp_all
structure Grw (w wr : World) (gk n : Nat) (D : Int → Prop) (s0 s : List Bool) : Prop where
  u : UBO wr gk s
  l : s.length = n
  d : ∀ i : Nat, s.getD i false = true → D (i : Int)
  le : Gm.Le s0 s
  g : w.grownBy wr (some gk)
theorem Grw.alloc {w wr : World} {gk n : Nat} {D : Int → Prop} {s0 s : List Bool} (h : Grw w wr gk n D s0 s) (o : Obj) : Grw w (wr.alloc o) gk n D s0 s := ⟨h.u.alloc o, h.l, h.d, h.le, only_alloc h.g o⟩
theorem Grw.below {w wr w' : World} {gk n : Nat} {D : Int → Prop} {s0 s : List Bool} (h : Grw w wr gk n D s0 s) (hb : Below wr.heap.size wr w') : Grw w w' gk n D s0 s := ⟨h.u.below hb h.u.lt, h.l, h.d, h.le, only_trans h.g (only_below hb _)⟩
theorem Grw.set {w wr : World} {gk n : Nat} {D : Int → Prop} {s0 s : List Bool} (h : Grw w wr gk n D s0 s) {m : Nat} (hd : D (m : Int)) : Grw w (wr.setCell ⟨gk, m, none⟩ (.bool true)) gk n D s0 (s.set m true) :=
  ⟨h.u.set_ m true, by rw [List.length_set]; exact h.l, fun i hi => by
    rcases Gm.getD_set _ _ _ hi with h1 | h1
    · exact h.d i h1
    · rw [h1]; exact hd, h.le.trans (Gm.Le.set _ _), only_set h.g m _⟩
def Nw (s0 s : List Bool) (b : Bool) (C : Prop) : Prop := (b = false → s = s0 ∧ C) ∧ (b = true → Gm.ct s0 < Gm.ct s)

theorem Nw.start (s : List Bool) (C : Prop) (hC : C) : Nw s s false C := ⟨fun _ => ⟨rfl, hC⟩, fun h => by cases h⟩
theorem Nw.mono {s0 s : List Bool} {b : Bool} {C C' : Prop} (h : Nw s0 s b C) (k : C → C') : Nw s0 s b C' := ⟨fun e => ⟨(h.1 e).1, k (h.1 e).2⟩, h.2⟩
theorem Nw.next {s0 s : List Bool} {b : Bool} {C C' : Prop} {m : Nat} (h : Nw s0 s b C) (hm : m < s.length) (hC : C → s0.getD m false = true → C') : Nw s0 (s.set m true) (b || !s.getD m false) C' := by
  obtain ⟨h1, h2⟩ := Gm.ct_set hm
  cases hv : s.getD m false
  · refine ⟨fun e => by simp at e, fun _ => ?_⟩
    rw [h2 hv]
    cases b
    · rw [(h.1 rfl).1]; omega
    · have := h.2 rfl; omega
  · rw [h1 hv]
    refine ⟨fun e => ?_, fun e => h.2 (by simpa using e)⟩
    have hb : b = false := by simpa using e
    obtain ⟨e1, c⟩ := h.1 hb
    refine ⟨e1, hC c ?_⟩
    rw [← e1]; exact hv

theorem OwnI.rdOf {w : World} {base n c : Nat} {A : Option Addr} {xs : List Int} (h : OwnI w base (.slice A n c) xs) : RdI w w.heap.size A xs := by
  obtain ⟨A', c', e, _, _, hr⟩ := h.form
  injection e with e1 _ _
  rw [e1]; exact hr
theorem OwnI.far {w w' : World} {base gk : Nat} {v : Value} {xs : List Int} (h : OwnI w base v xs) (hg : w.grownBy w' (some gk)) (hlt : gk < base) : OwnI w' base v xs :=
  World.ownsRow.kept h hg (by
    cases hv : v.ownBlock with
    | none => exact .inl rfl
    | some k => exact .inr (fun e => by injection e with e; have := (World.ownsRow.lt h k hv).1; omega))
def bN : Value → Nat
  | .bool true => 1
  | _ => 0
theorem grown_cell {w wr : World} {gk B g o : Nat} (h : w.grownBy wr (some gk)) (hB : B ≤ w.heap.size) (hk : B ≤ gk) (hg : g < B) : wr.cell? ⟨g, o, none⟩ = w.cell? ⟨g, o, none⟩ :=
  World.cell?_of_block (h.block g (by omega) (fun e => by injection e with e; omega))
set_option maxHeartbeats 8000000 in
theorem grow_any (fb p1 p2 : Nat) (hE : ∀ args w, Sem.run Tryz.prog (callFunc fb args) w = .ok (.enter fb args) w) (rs : List Gm.Rl) (AR : Option Addr) (cR ck B gk n : Nat) (w : World) (s0 : List Bool) (D : Int → Prop) (br : List Bool → Gm.Rl → List Int)
    (hR : RdRl w B AR rs) (hB : B ≤ w.heap.size) (hk : B ≤ gk) (hu : UBO w gk s0) (hn : s0.length = n) (hd : ∀ i : Nat, s0.getD i false = true → D (i : Int)) (hl : rs.length ≤ 1000000)
    (hbr : ∀ (y : World) (s : List Bool) (x : Gm.Rl) (A' : Option Addr) (c' : Nat), w.grownBy y (some gk) → UBO y gk s → s.length = n → x ∈ rs → RdI y B A' x.r → Calls Tryz.prog fb #[.agg #[.int .i64 x.l, .slice A' x.r.length c', .int .i64 x.p], .pointer (some ⟨p1, 0, none⟩), .pointer (some ⟨p2, 0, none⟩)] y fun e w' => ∃ v, e = .returned v ∧ OwnI w' y.heap.size v (br s x) ∧ Below y.heap.size y w')
    (hsn : ∀ s x, x ∈ rs → s.length = n → (∀ i : Nat, s.getD i false = true → D (i : Int)) → ∀ m ∈ br s x, 0 ≤ m ∧ m < n ∧ D m) (hbl : ∀ s x, x ∈ rs → (br s x).length ≤ 1000000) :
    Calls Tryz.prog 85 #[.slice (some ⟨gk, 0, none⟩) n ck, .slice AR rs.length cR, .func (Fn.func fb) #[] #[.pointer (some ⟨p1, 0, none⟩), .pointer (some ⟨p2, 0, none⟩)]] w fun e w' => e = .returned (.tuple #[]) ∧ ∃ s, Grw w w' gk n D s0 s ∧ ∀ x ∈ rs, ∀ m ∈ br s x, s.getD m.toNat false = true := by
  have HR := hide hR
  have HB := hide hB
  have HK := hide hk
  have HBR := hide hbr
  have HSN := hide hsn
  have HBL := hide hbl
  have HG0 : Hid (Grw w w gk n D s0 s0) := hide ⟨hu, hn, hd, Gm.Le.refl _, World.grownBy.refl _ _⟩
  have hlen : (rs.length : Int) ≤ 9223372036854775807 := by omega
  clear hR hB hk hu hn hd hl hbr hsn hbl
  go_enter Tryz.func85, Tryz.ntmps85
  go_wp2
  go_loopw [6] (fun vg wr => ∃ (s : List Bool) (b : Bool), vg = .bool b ∧ Hid (Grw w wr gk n D s0 s) ∧ Hid (b = false → ∀ x ∈ rs, ∀ m ∈ br s x, s.getD m.toNat false = true)) (fun vg wr => 2 * cntO wr gk + bN vg)
  case atStart => exact ⟨s0, true, rfl, HG0, hide (fun h => by cases h)⟩
  case round =>
    obtain ⟨s, b, rfl, HG, HC⟩ := hrel
    obtain ⟨wo, hwo⟩ : ∃ wo : World, wo = wr := ⟨_, rfl⟩
    subst hwo
    cases b
    · go_wp2
      go_end0
      exact ⟨rfl, s, HG.out, HC.out (by trivial)⟩
    · clear HC
      go_wp2
      go_loopw [6, 14] (fun vg vi wr => ∃ (s1 : List Bool) (b1 : Bool) (i : Nat), i ≤ rs.length ∧ vg = .bool b1 ∧ vi = .int .i64 i ∧ Hid (Grw w wr gk n D s0 s1) ∧ Hid (Gm.Le s s1) ∧ Hid (Nw s s1 b1 (∀ x ∈ rs.take i, ∀ m ∈ br s x, s.getD m.toNat false = true))) (fun _ vi _ => rs.length - (intOf vi).toNat)
      case atStart => exact ⟨s, false, 0, Nat.zero_le _, rfl, rfl, HG, hide (Gm.Le.refl _), hide (Nw.start _ _ (by simp))⟩
      case round =>
        obtain ⟨s1, b1, i, hi, rfl, rfl, HG1, HLe, HN1⟩ := hrel
        obtain ⟨wi, hwi⟩ : ∃ wi : World, wi = wr := ⟨_, rfl⟩
        subst hwi
        by_cases hlt : i < rs.length
        · obtain ⟨g, o, rfl, hgB, hc⟩ := HR.out (by omega)
          obtain ⟨k0, ⟨A', c', k1, _, _, hri⟩, k2⟩ := hc i hlt
          have k0 := (grown_cell HG1.out.g HB.out HK.out hgB).trans k0
          have k1 := (grown_cell HG1.out.g HB.out HK.out hgB).trans k1
          have k2 := (grown_cell HG1.out.g HB.out HK.out hgB).trans k2
          have hgs : g < wi.heap.size := by have := HG1.out.g.size; have := HB.out; omega
          have HBi := hide (fun (o : Obj) => HBR.out (wi.alloc o) s1 rs[i] A' c' (HG1.out.alloc o).g (HG1.out.alloc o).u HG1.out.l (List.getElem_mem hlt) (hri.keep fun g o hg => grown_cell (HG1.out.alloc _).g HB.out HK.out hg))
          have HSi := hide (HSN.out s1 rs[i] (List.getElem_mem hlt) HG1.out.l HG1.out.d)
          have HLi := hide (HBL.out s1 rs[i] (List.getElem_mem hlt))
          have HTi : Hid (rs.take (i + 1) = rs.take i ++ [rs[i]]) := hide (List.take_succ_eq_append_getElem hlt)
          clear hc hri
          generalize rs[i] = x at *
          have HLe2 := HLe
          go_wp2_with fail
          refine (HBi.out _).mono ?_; rintro _ w2 ⟨v, rfl, ho2, hb2⟩
          have HG2 := hide ((HG1.out.alloc _).below hb2)
          have hkl := HG1.out.u.lt
          obtain ⟨A3, c3, rfl, h31, h32, _⟩ := ho2.form
          have HO2 := hide ho2
          have hll : ((br s1 x).length : Int) ≤ 9223372036854775807 := by have := HLi.out; omega
          obtain ⟨ls, hls⟩ : ∃ ls, ls = br s1 x := ⟨_, rfl⟩
          rw [← hls] at HO2 HSi hll ⊢
          have HLS := hide hls
          clear ho2 hb2 hls k0 k1 k2 hgs
          go_wp2
          go_loopw [6, 22] (fun vg vk wr => ∃ (s2 : List Bool) (b2 : Bool) (k : Nat), k ≤ ls.length ∧ vg = .bool b2 ∧ vk = .int .i64 k ∧ Hid (Grw w wr gk n D s0 s2) ∧ Hid (Gm.Le s1 s2) ∧ Hid (OwnI wr (wi.heap.size + 1) (.slice A3 ls.length c3) ls) ∧ Hid (Nw s s2 b2 ((∀ x ∈ rs.take i, ∀ m ∈ br s x, s.getD m.toNat false = true) ∧ ∀ m ∈ ls.take k, s.getD m.toNat false = true))) (fun _ vk _ => ls.length - (intOf vk).toNat)
          case atStart => exact ⟨s1, b1, 0, Nat.zero_le _, rfl, rfl, HG2, hide (Gm.Le.refl _), hide (by have := HO2.out; simpa using this), hide (HN1.out.mono fun h => ⟨h, by simp⟩)⟩
          case round =>
            clear HG2 HO2
            obtain ⟨s2, b2, k, hk2, rfl, rfl, HG3, HL3, HO3, HN3⟩ := hrel
            by_cases hlt2 : k < ls.length
            · obtain ⟨g3, o3, rfl, hg3, hc3⟩ := HO3.out.rdOf (by omega)
              have k3 := hc3 k hlt2
              rw [L.gd_lt hlt2] at k3
              obtain ⟨hm0, hm1, hmD⟩ := HSi.out _ (List.getElem_mem hlt2)
              have HT3 : Hid (ls.take (k + 1) = ls.take k ++ [ls[k]]) := hide (List.take_succ_eq_append_getElem hlt2)
              clear hc3
              generalize ls[k] = mz at *
              obtain ⟨m, rfl⟩ : ∃ m : Nat, mz = (m : Int) := ⟨mz.toNat, by omega⟩
              have hmn : m < s2.length := by rw [HG3.out.l]; omega
              have HS4 := hide (HG3.out.set hmD)
              have HL4 := hide (HL3.out.trans (Gm.Le.set s2 m))
              have HO4 := hide (HO3.out.far (only_set (World.grownBy.refl wr (some gk)) m (.bool true)) (by omega))
              have HN4 := hide (HN3.out.next hmn (C' := (∀ x ∈ rs.take i, ∀ m ∈ br s x, s.getD m.toNat false = true) ∧ ∀ m ∈ ls.take (k + 1), s.getD m.toNat false = true) (fun hC hv => ⟨hC.1, fun q hq => by
                rw [HT3.out] at hq
                rcases List.mem_append.1 hq with h | h
                · exact hC.2 q h
                · obtain rfl := List.mem_singleton.1 h
                  simpa using hv⟩))
              have k4 := HG3.out.u.cell m hmn
              have f4 := HG3.out.u.frozen m
              have hgk := HG3.out.u.lt
              have hm2 : (m : Int) < (n : Int) := hm1
              clear hmD hm0 hm1
              generalize s2.getD m false = bv at *
              cases b2
              · rw [Bool.false_or] at HN4
                go_wp2
                go_roundw
                case rel => exact ⟨s2.set m true, !bv, k + 1, hlt2, rfl, by go_num, HS4, HL4, HO4, HN4⟩
                case measure => simp [intOf]; omega
              · rw [Bool.true_or] at HN4
                go_wp2
                go_roundw
                case rel => exact ⟨s2.set m true, true, k + 1, hlt2, rfl, by go_num, HS4, HL4, HO4, HN4⟩
                case measure => simp [intOf]; omega
            · obtain rfl : k = ls.length := by omega
              rw [List.take_length] at HN3
              go_wp2
              go_roundw
              case rel =>
                refine ⟨s2, b2, i + 1, hlt, rfl, by go_num, HG3, hide (HLe2.out.trans HL3.out), hide ⟨fun e => ⟨(HN3.out.1 e).1, ?_⟩, HN3.out.2⟩⟩
                obtain ⟨e1, h1, h2⟩ := HN3.out.1 e
                have e2 : s1 = s := (by rw [← e1]; exact HL3.out : Gm.Le s1 s).anti HLe2.out
                intro y hy
                rw [HTi.out] at hy
                rcases List.mem_append.1 hy with h | h
                · exact h1 y h
                · obtain rfl := List.mem_singleton.1 h
                  intro q hq
                  exact h2 q (by rw [HLS.out, e2]; exact hq)
              case measure => simp [intOf]; omega
        · obtain rfl : i = rs.length := by omega
          rw [List.take_length] at HN1
          go_wp2
          go_roundw
          case rel => exact ⟨s1, b1, rfl, HG1, hide fun e => by
            obtain ⟨e1, h1⟩ := HN1.out.1 e
            rw [e1]; exact h1⟩
          case measure =>
            have q1 := HG.out.u.cnt
            have q2 := HG1.out.u.cnt
            have q3 := Gm.ct_false s
            have q4 := Gm.ct_false s1
            have q5 := HG.out.l
            have q6 := HG1.out.l
            rw [q1, q2]
            cases b1
            · obtain ⟨e1, _⟩ := HN1.out.1 rfl
              rw [e1]; simp [bN]
            · have := HN1.out.2 rfl
              simp [bN]; omega
end Go.Proofs.YtajcegofflmoeaaGreatDoor

namespace Go.Proofs.YtajcegofflmoeaaGreatDoor
set_option maxRecDepth 100000
open Go.RowKit

def RowT (s : List Bool) (w : World) (e : Ending) (w' : World) : Prop := ∃ g, e = .returned (.slice (some ⟨g, 0, none⟩) s.length s.length) ∧ w.heap.size ≤ g ∧ UBO w' g s ∧ Below w.heap.size w w'
theorem kept_cell {w wr : World} {gk g o : Nat} {u : Value} (h : w.grownBy wr (some gk)) (hg : w.cell? ⟨g, o, none⟩ = some u) (hne : g ≠ gk) : wr.cell? ⟨g, o, none⟩ = some u :=
  (World.cell?_of_block (h.block g (block_lt_of_cell hg) (fun e => by injection e with e; exact hne e))).trans hg
theorem Gm.brL_mem {tm : Bool} {is : List Bool} {x : Gm.Rl} {m : Int} (h : m ∈ Gm.brL tm is x) : m = x.l ∧ Gm.allB tm is x.r = true := by
  unfold Gm.brL at h
  split at h
  · exact ⟨List.mem_singleton.1 h, by assumption⟩
  · simp at h
theorem Gm.brL_of {tm : Bool} {is : List Bool} {x : Gm.Rl} (h : Gm.allB tm is x.r = true) : x.l ∈ Gm.brL tm is x := by
  unfold Gm.brL; rw [if_pos h]; exact List.mem_singleton.2 rfl
theorem Gm.brL_len (tm : Bool) (is : List Bool) (x : Gm.Rl) : (Gm.brL tm is x).length ≤ 1000000 := by
  unfold Gm.brL; split <;> simp

set_option maxHeartbeats 4000000 in
theorem lefts_any (f : Nat) (hE : ∀ args w, Sem.run Tryz.prog (callFunc f args) w = .ok (.enter f args) w) (tm : Bool)
    (hf : ∀ (z : Int) (is : List Bool) (A : Option Addr) (c B : Nat) (y : World), Gm.In z → (z < 0 → -1 - z < (is.length : Int)) → RdO y B A is → Calls Tryz.prog f #[.int .i64 z, .slice A is.length c] y fun e w' => e = .returned (.bool (Gm.ps tm is z)) ∧ w' = y)
    (v : Value) (G : Gm.Gr) (B : Nat) (w : World) (hg : RdGr w B v G) (hfit : Gm.Fit G) (hok : Gm.Ok G) (hB : B ≤ w.heap.size) :
    Calls Tryz.prog 81 #[v, .func (Fn.func f) #[] #[]] w (RowT (Gm.gn tm G.rs G.ns.length) w) := by
  obtain ⟨AT, cT, AN, cN, AR, cR, rfl, _, ⟨hlN, hmN⟩, _, _, _, hR⟩ := hg
  have HRl := hide hR
  have HB := hide hB
  have HOK := hide hok
  have HFT := hide hfit
  have HFF := hide hf
  have HN : Hid (G.ns.length ≤ 40) := hide (by have := (Gm.nons_iff G).1 hok.n; omega)
  have HR40 : Hid (G.rs.length ≤ 40) := hide hok.r40
  have hnn := HN.out
  obtain ⟨w1, hw1⟩ : ∃ y, y = (w.alloc (.cells #[.slice AT G.ts.length cT, .slice AN G.ns.length cN, .slice AR G.rs.length cR, .int .i64 G.st] 26)).alloc (.cells #[.func (Fn.func f) #[] #[]] 105) := ⟨_, rfl⟩
  have hs1 : w1.heap.size = w.heap.size + 2 := by rw [hw1]; simp
  have HB1 : Hid (Below w.heap.size w w1) := hide (by rw [hw1]; exact ((Below.refl _ w).alloc (Nat.le_refl _) _).alloc (by simp) _)
  have x0 : w1.heap[w.heap.size]? = some (.cells #[.slice AT G.ts.length cT, .slice AN G.ns.length cN, .slice AR G.rs.length cR, .int .i64 G.st] 26 (0, 0)) := by rw [hw1, Below.heap_alloc _ _ _ (by simp)]; exact heap_alloc_new w _
  have x1 : w1.heap[w.heap.size + 1]? = some (.cells #[.func (Fn.func f) #[] #[]] 105 (0, 0)) := by rw [hw1]; have := heap_alloc_new (w.alloc (.cells #[.slice AT G.ts.length cT, .slice AN G.ns.length cN, .slice AR G.rs.length cR, .int .i64 G.st] 26)) (.cells #[.func (Fn.func f) #[] #[]] 105); simpa using this
  have c1 : w1.cell? ⟨w.heap.size, 1, none⟩ = some (.slice AN G.ns.length cN) := by rw [cell_of_row w1 _ 1 _ _ _ x0]; rfl
  have c2 : w1.cell? ⟨w.heap.size, 2, none⟩ = some (.slice AR G.rs.length cR) := by rw [cell_of_row w1 _ 2 _ _ _ x0]; rfl
  have cf : w1.cell? ⟨w.heap.size + 1, 0, none⟩ = some (.func (Fn.func f) #[] #[]) := by rw [cell_of_row w1 _ 0 _ _ _ x1]; rfl
  have HC2 := hide c2
  have HCF := hide cf
  have HS1 := hide hs1
  have hd0 : w.heap.size < w1.heap.size := by omega
  have hlen : (G.ns.length : Int) ≤ 9223372036854775807 := by omega
  clear hR hB hok hfit hf x0 x1 c2 cf hs1
  go_enter Tryz.func81, Tryz.ntmps81
  go_upto_region 1 with fail
  rw [← hw1]
  clear hw1
  go_upto_region 2 with (at_make; refine mkO_arm rfl (.tmp 8) (.tmp 8) _ rfl Tryz.underlying39 G.ns.length _ _ rfl rfl rfl rfl (by omega) ?_; intro w2 hu2 hb2 hlt2)
  have x3 := heap_alloc_new w2 (.cells #[.slice (some ⟨w1.heap.size, 0, none⟩) G.ns.length G.ns.length] 39)
  have hu3 := hu2.alloc (.cells #[.slice (some ⟨w1.heap.size, 0, none⟩) G.ns.length G.ns.length] 39)
  have hb3 : Below w1.heap.size w1 (w2.alloc (.cells #[.slice (some ⟨w1.heap.size, 0, none⟩) G.ns.length G.ns.length] 39)) := hb2.alloc hb2.size _
  obtain ⟨w3, hw3⟩ : ∃ y, y = w2.alloc (.cells #[.slice (some ⟨w1.heap.size, 0, none⟩) G.ns.length G.ns.length] 39) := ⟨_, rfl⟩
  rw [← hw3] at x3 hu3 hb3 ⊢
  have hs3 : w2.heap.size < w3.heap.size := by rw [hw3]; simp
  have c2 := (hb3.cell (p := ⟨w.heap.size, 2, none⟩) (by simp only; omega)).trans HC2.out
  have cf := (hb3.cell (p := ⟨w.heap.size + 1, 0, none⟩) (by have := HS1.out; simp only; omega)).trans HCF.out
  have ck : w3.cell? ⟨w2.heap.size, 0, none⟩ = some (.slice (some ⟨w1.heap.size, 0, none⟩) G.ns.length G.ns.length) := by rw [cell_of_row w3 _ 0 _ _ _ x3]; rfl
  have hd3 : w.heap.size < w3.heap.size := by omega
  have hW3 : Below w.heap.size w w3 := HB1.out.trans (hb3.mono (by have := HS1.out; omega))
  have hR3 : RdRl w3 B AR G.rs := HRl.out.keep fun g o hg => hW3.cell (p := ⟨g, o, none⟩) (Nat.lt_of_lt_of_le hg HB.out)
  have HGR := hide (grow_any 110 (w.heap.size + 1) w2.heap.size (enter_of Tryz.func110 (by kernel_rfl) (by kernel_rfl)) G.rs AR cR G.ns.length B w1.heap.size G.ns.length w3 (List.replicate G.ns.length false) (Gm.Gn tm G.rs) (Gm.brL tm)
    hR3 (Nat.le_trans HB.out hW3.size) (by have := HB.out; omega) hu3 (by simp) (Gm.Snd.none tm G.rs _) (by have := HR40.out; omega)
    (fun y s x A' c' hgr hu hl hx hr => by
      have e := HFT.out.r x hx
      have q2 := kept_cell hgr ck (by omega)
      rw [← hl] at q2
      exact lefts1_any f hE tm x s A' (some ⟨w1.heap.size, 0, none⟩) c' s.length B (w.heap.size + 1) w2.heap.size y
        (fun z y' hy hz => HFF.out z s _ _ y'.heap.size y' (e.2.2 z hz) (fun h => by rw [hl]; exact HOK.out.sin x hx z hz h) ((hu.below hy hu.lt).rd0 (by have := hy.size; have := hu.lt; omega)))
        (kept_cell hgr cf (by have := HS1.out; omega)) q2 hr (Nat.le_trans HB.out (Nat.le_trans hW3.size hgr.size)) (by have := (Gm.rule_in (HOK.out.rr x hx)).1; omega))
    (fun s x hx hl hd m hm => by
      obtain ⟨rfl, ha⟩ := Gm.brL_mem hm
      have h1 := HOK.out.lin x hx
      exact ⟨h1.1, h1.2, Gm.Gn.of hx (Gm.Snd.all hd ha)⟩)
    (fun s x _ => Gm.brL_len tm s x))
  have HCK := hide ck
  have HX3 := hide (fun (y : World) (h : w3.grownBy y (some w1.heap.size)) => kept_cell h ck (by omega))
  have HW3 := hide hW3
  have HFIN : Hid (∀ (y : World) (s : List Bool), Grw w3 y w1.heap.size G.ns.length (Gm.Gn tm G.rs) (List.replicate G.ns.length false) s → (∀ x ∈ G.rs, ∀ m ∈ Gm.brL tm s x, s.getD m.toNat false = true) → s = Gm.gn tm G.rs G.ns.length ∧ Below w.heap.size w y) := hide (fun y s hg hc => ⟨Gm.gn_row hg.l hg.d (fun x hx ha => hc x hx _ (Gm.brL_of ha)), below_only HW3.out hg.g (by have := HS1.out; omega) HW3.out.size⟩)
  have hl2 : w2.heap.size < w3.heap.size := hs3
  clear hu3 hb3 x3 hR3 hW3 cf c1 hu2 hb2 hs3 hw3
  go_wp2_with fail
  refine HGR.out.mono ?_; rintro _ w4 ⟨rfl, s, hg4, hc4⟩
  obtain ⟨e4, hb4⟩ := HFIN.out w4 s hg4 hc4
  have ck4 := HX3.out w4 hg4.g
  have hu4 := hide hg4.u
  have HB4 := hide hb4
  have hl4 : w2.heap.size < w4.heap.size := block_lt_of_cell ck4
  clear hg4 hc4 hb4 HGR HFIN HX3
  go_wp2
  go_ret
  subst e4
  exact ⟨w1.heap.size, by rw [Gm.gn_len]; rfl, by omega, hu4.out, HB4.out⟩

def RowB (b : Bool) (s : List Bool) (w : World) (e : Ending) (w' : World) : Prop := (b = true → RowT s w e w') ∧ (b = false → e = .returned (.slice none 0 0) ∧ Below w.heap.size w w')
theorem RowB.rd {b : Bool} {s : List Bool} {w w' : World} {e : Ending} (h : RowB b s w e w') : ∃ A c, e = .returned (.slice A (if b = true then s else []).length c) ∧ RdO w' w'.heap.size A (if b = true then s else []) ∧ Below w.heap.size w w' := by
  cases b
  · obtain ⟨h1, h2⟩ := h.2 rfl
    exact ⟨none, 0, h1, RdO.nil _ _ _, h2⟩
  · obtain ⟨g, h1, h2, h3, h4⟩ := h.1 rfl
    exact ⟨some ⟨g, 0, none⟩, s.length, h1, h3.rd0 h3.lt, h4⟩
set_option maxHeartbeats 2000000 in
theorem nullable_any (v : Value) (G : Gm.Gr) (B : Nat) (w : World) (hg : RdGr w B v G) (hf : Gm.Fit G) (hB : B ≤ w.heap.size) :
    Calls Tryz.prog 53 #[v] w (RowB (Gm.right G) (Gm.gn false G.rs G.ns.length) w) := by
  have H1 := hide (fun (x : World) (h : Below w.heap.size w x) => gright_any v G B x (hg.below h hB) hf (Nat.le_trans hB h.size))
  have H2 := hide (fun (q : Gm.right G = true) (x : World) (h : Below w.heap.size w x) => lefts_any 89 (enter_of Tryz.func89 (by kernel_rfl) (by kernel_rfl)) false (fun z is A c B y h1 h2 h3 => passN_any z is A c B y h1 h2 h3) v G B x (hg.below h hB) hf (Gm.right_ok.1 q) (Nat.le_trans hB h.size))
  obtain ⟨AT, cT, AN, cN, AR, cR, rfl, _⟩ := hg
  have HS0 := hide (One.start w #[.slice AT G.ts.length cT, .slice AN G.ns.length cN, .slice AR G.rs.length cR, .int .i64 G.st])
  clear hf
  cases q : Gm.right G
  · rw [q] at H1
    clear q H2
    go_enter Tryz.func53, Tryz.ntmps53
    go_wp2_with fail
    refine (H1.out _ HS0.out.below).mono ?_; rintro _ w2 ⟨rfl, hb⟩
    have HB2 := hide (HS0.out.on hb)
    clear hb
    go_wp2
    go_ret
    exact ⟨fun h => by simp at h, fun _ => ⟨rfl, HB2.out.below⟩⟩
  · have H2 := hide (H2.out q)
    rw [q] at H1
    clear q
    go_enter Tryz.func53, Tryz.ntmps53
    go_wp2_with fail
    refine (H1.out _ HS0.out.below).mono ?_; rintro _ w2 ⟨rfl, hb⟩
    have HB2 := hide (HS0.out.on hb)
    have q0 := HB2.out.c 0 _ rfl
    have q1 := HB2.out.c 1 _ rfl
    have q2 := HB2.out.c 2 _ rfl
    have q3 := HB2.out.c 3 _ rfl
    have hz2 : w.heap.size < w2.heap.size := HB2.out.size
    clear hb
    go_wp2_with fail
    refine (H2.out _ HB2.out.below).mono ?_; rintro _ w3 ⟨g, rfl, hg1, hu, hb3⟩
    have HU := hide hu
    have HG1 := hide hg1
    have HB3 := hide (HB2.out.on hb3)
    clear hu hb3 hg1
    go_wp2
    go_ret
    exact ⟨fun _ => ⟨g, rfl, by have := HG1.out; omega, HU.out, HB3.out.below⟩, fun h => by simp at h⟩
set_option maxHeartbeats 2000000 in
theorem productive_any (v : Value) (G : Gm.Gr) (B : Nat) (w : World) (hg : RdGr w B v G) (hf : Gm.Fit G) (hB : B ≤ w.heap.size) :
    Calls Tryz.prog 51 #[v] w (RowB (Gm.right G) (Gm.gn true G.rs G.ns.length) w) := by
  have H1 := hide (fun (x : World) (h : Below w.heap.size w x) => gright_any v G B x (hg.below h hB) hf (Nat.le_trans hB h.size))
  have H2 := hide (fun (q : Gm.right G = true) (x : World) (h : Below w.heap.size w x) => lefts_any 82 (enter_of Tryz.func82 (by kernel_rfl) (by kernel_rfl)) true (fun z is A c B y h1 h2 h3 => passP_any z is A c B y h1 h2 h3) v G B x (hg.below h hB) hf (Gm.right_ok.1 q) (Nat.le_trans hB h.size))
  obtain ⟨AT, cT, AN, cN, AR, cR, rfl, _⟩ := hg
  have HS0 := hide (One.start w #[.slice AT G.ts.length cT, .slice AN G.ns.length cN, .slice AR G.rs.length cR, .int .i64 G.st])
  clear hf
  cases q : Gm.right G
  · rw [q] at H1
    clear q H2
    go_enter Tryz.func51, Tryz.ntmps51
    go_wp2_with fail
    refine (H1.out _ HS0.out.below).mono ?_; rintro _ w2 ⟨rfl, hb⟩
    have HB2 := hide (HS0.out.on hb)
    clear hb
    go_wp2
    go_ret
    exact ⟨fun h => by simp at h, fun _ => ⟨rfl, HB2.out.below⟩⟩
  · have H2 := hide (H2.out q)
    rw [q] at H1
    clear q
    go_enter Tryz.func51, Tryz.ntmps51
    go_wp2_with fail
    refine (H1.out _ HS0.out.below).mono ?_; rintro _ w2 ⟨rfl, hb⟩
    have HB2 := hide (HS0.out.on hb)
    have q0 := HB2.out.c 0 _ rfl
    have q1 := HB2.out.c 1 _ rfl
    have q2 := HB2.out.c 2 _ rfl
    have q3 := HB2.out.c 3 _ rfl
    have hz2 : w.heap.size < w2.heap.size := HB2.out.size
    clear hb
    go_wp2_with fail
    refine (H2.out _ HB2.out.below).mono ?_; rintro _ w3 ⟨g, rfl, hg1, hu, hb3⟩
    have HU := hide hu
    have HG1 := hide hg1
    have HB3 := hide (HB2.out.on hb3)
    clear hu hb3 hg1
    go_wp2
    go_ret
    exact ⟨fun _ => ⟨g, rfl, by have := HG1.out; omega, HU.out, HB3.out.below⟩, fun h => by simp at h⟩
end Go.Proofs.YtajcegofflmoeaaGreatDoor

namespace Go.CalmN
open Go.RowKit

section
variable {P : Program} {ops : Array Oper} {Q : Exit → Act → World → Prop} {md : Region.Mode}

def chB (md : Region.Mode) (ops : Array Oper) (t : Ph) : Nat → List Nat → Array Bool → Nat → Bool
  | 0, todo, l, n => todo.isEmpty && tB md ops t l n
  | f + 1, todo, l, n => (Region.ready md ops l == todo) && !todo.isEmpty && decide (1 ≤ n) && todo.all fun k => (ops[k]?).isSome && chB md ops t f (todo.erase k) (l.setIfInBounds k true) (n - 1)

theorem any_of_all (hs : Region.noSelect ops = true) (hQ : ∀ c a d v w, Q (.panic c) (a.put d v) w → Q (.panic c) a w) {S : World → Prop} {t : Ph} {J : List Nat → Act → World → Prop}
    (hstep : ∀ todo k a w, k ∈ todo → J todo a w → S w → wpSt P ops Q ops[k]? S (fun _ a2 w2 => J (todo.erase k) a2 w2) a w)
    (hend : ∀ a w, J [] a w → S w → wpT P ops Q t S a w) :
    ∀ (f : Nat) (todo : List Nat) (listed : Array Bool) (a : Act) (w : World) (n : Nat), chB md ops t f todo listed n = true → S w → J todo a w → wpAnyH P md ops Q S n listed a w
  | 0, todo, listed, a, w, n, hb, hS, h => by
    unfold chB at hb
    simp only [Bool.and_eq_true, List.isEmpty_iff] at hb
    obtain ⟨rfl, h2⟩ := hb
    exact any_of_t hs hQ t S listed a w n h2 hS (hend a w h hS)
  | f + 1, todo, listed, a, w, n, hb, hS, h => by
    unfold chB at hb
    simp only [Bool.and_eq_true, decide_eq_true_iff, beq_iff_eq, List.all_eq_true, Bool.not_eq_true', List.isEmpty_eq_false_iff] at hb
    obtain ⟨⟨⟨h1, h2⟩, h3⟩, h4⟩ := hb
    obtain ⟨m, rfl⟩ : ∃ m, n = m + 1 := ⟨n - 1, by omega⟩
    refine wpAnyH_all h1 h2 fun i hi => ?_
    obtain ⟨h5, h6⟩ := h4 i hi
    obtain ⟨o, ho⟩ := Option.isSome_iff_exists.1 h5
    have hq := hstep todo i a w hi h hS
    rw [ho] at hq
    refine wpOp_step ho fun K' hK => ?_
    refine hq K' fun a2 w2 h7 S' hS' hS2 h8 => hK _ _ ⟨h7, ?_⟩
    exact any_of_all hs hQ hstep hend f _ _ a2 w2 _ h6 h7 h8

theorem region_all {id : Nat} {a : Act} {w : World} {l : List Oper} (S : World → Prop) (p ks : List Nat) (t : Ph) (J : List Nat → Act → World → Prop) (hm : P.follows .mixedOrders = true)
    (hB : (Region.noSelect l.toArray && stillB .any l.toArray p (Array.replicate l.toArray.size false) && decide (p.length ≤ l.toArray.size) && chB .any l.toArray t ks.length ks (marked p (Array.replicate l.toArray.size false)) (l.toArray.size - p.length)) = true)
    (hQ : ∀ c a d v w, Q (.panic c) (a.put d v) w → Q (.panic c) a w) (hS : S w.drew)
    (h0 : wpQuiet P l.toArray S (fun a' => J ks a' w.drew) (pickOps l.toArray p) a)
    (hstep : ∀ todo k a w, k ∈ todo → J todo a w → S w → wpSt P l.toArray Q l.toArray[k]? S (fun _ a2 w2 => J (todo.erase k) a2 w2) a w)
    (hend : ∀ a w, J [] a w → S w → wpT P l.toArray Q t S a w) : (Code.region id l.toArray true).wp P Q a w := by
  simp only [Bool.and_eq_true, decide_eq_true_iff] at hB
  obtain ⟨⟨⟨h1, h2⟩, h3⟩, h4⟩ := hB
  refine wp_region_held (S := S) hm ?_
  have e : l.toArray.size = p.length + (l.toArray.size - p.length) := by omega
  rw [show wpAnyH P .any l.toArray Q S l.toArray.size = wpAnyH P .any l.toArray Q S (p.length + (l.toArray.size - p.length)) by rw [← e]]
  refine still_block h1 hQ hS _ p _ a h2 ?_
  exact quiet_mono (fun a' hj => any_of_all h1 hQ hstep hend _ ks _ a' _ _ h4 hS hj) h0

end
end Go.CalmN
