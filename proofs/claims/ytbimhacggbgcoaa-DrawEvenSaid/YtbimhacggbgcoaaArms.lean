/- Steps of a walk over this program: make, copy and append on slices of 32-bit numbers of the call's own, in the words of Base. -/
import Derived.Test.YtbimhacggbgcoaaBase
import Derived.Laws.CopyOwn
import Derived.Laws.OwnMore
namespace Go.Proofs.Ytbimhacggbgcoaa
open Go.RowKit

theorem info_u32 : (Try.prog.info? 34).map (fun i => (i.zero, i.size, i.bytes)) = some (some (.int .u32 0), 1, 4) := by kernel_rfl

theorem map_replicate_u32 (n : Nat) : (List.replicate n (0 : Int)).map (Value.int .u32) = List.replicate n (.int .u32 0) := by simp

/-- A slice of the call's own with these numbers, nil or not. -/
def OwnU (w : World) (base : Nat) (v : Value) (xs : List Int) : Prop := w.ownsRow base 34 1 v xs.length (xs.map (Value.int .u32))

theorem OwnU.nil (w : World) (base : Nat) : OwnU w base (.slice none 0 0) [] := World.ownsRow_nil w base _ _
theorem OwnU.alloc {w : World} {base : Nat} {v : Value} {xs : List Int} (h : OwnU w base v xs) (o : Obj) : OwnU (w.alloc o) base v xs := World.ownsRow.alloc h o
theorem OwnU.drewN {w : World} {base : Nat} {v : Value} {xs : List Int} (h : OwnU w base v xs) (n : Nat) : OwnU (w.drewN n) base v xs := h
theorem OwnU.form {w : World} {base : Nat} {v : Value} {xs : List Int} (h : OwnU w base v xs) : ∃ A c, v = .slice A xs.length c ∧ xs.length ≤ c ∧ c ≤ maxLen ∧ Rd w w.heap.size A xs := by
  rcases h.2 with ⟨rfl, h0⟩ | ⟨g, cap, cur, rfl, hb, hg, hn, hm, hs, ht⟩
  · exact ⟨none, 0, by rw [h0], by omega, by unfold maxLen; omega, fun hc => absurd h0 hc⟩
  · refine ⟨some ⟨g, 0, none⟩, cap, rfl, hn, hm, fun _ => ⟨g, 0, rfl, ?_, fun j hj => ?_⟩⟩
    · exact (Array.getElem?_eq_some_iff.1 hg).1
    · have hc := World.ownsRow.cells h (g := g) rfl j (.int .u32 (xs.getD j 0)) (by simp [hj, List.getD])
      have e : ((⟨g, 0, none⟩ : Addr).add j) = ⟨g, 0 + j, none⟩ := by unfold Addr.add; by_cases h0 : j = 0 <;> simp [h0]
      rw [e] at hc; exact hc

theorem ub_of_full {w : World} {base g n : Nat} {ls : List Int} (h : w.ownsRow base 34 1 (.slice (some ⟨g, 0, none⟩) n n) n (ls.map (Value.int .u32))) : UB w g ls := by
  rcases h.2 with ⟨he, _⟩ | ⟨g', cap, cur, he, hb, hg, hn, hm, hs, ht⟩
  · cases he
  · injection he with e1 e2 e3
    injection e1 with e1
    injection e1 with e1
    subst e1 e3
    unfold UB
    rw [hg, ← ht, List.take_of_length_le (by simp [hs])]

/-- make: as many noughts. -/
theorem mk_arm {w : World} {ops : Array Oper} {rest : List Oper} {o : Oper} {a : Act} {Q : Exit → Act → World → Prop}
    (hg : o.guard = none) (l c : Operand) (t : TypeId) (hop : o.op = Op.makeSlice t l c) (ht : Try.prog.underlying t = some (.slice 34)) (n : Nat) (L C : Int) (hl : a.eval l = .int .i64 L) (hc : a.eval c = .int .i64 C) (hL : L = (n : Int)) (hC : C = (n : Int)) (hb : n ≤ 1000000000000)
    (hK : ∀ w', UB w' w.heap.size (List.replicate n 0) → Below w.heap.size w w' → w.heap.size < w'.heap.size → wpList Try.prog ops Q rest (a.put o.dst (.slice (some ⟨w.heap.size, 0, none⟩) n n)) w') :
    wpList Try.prog ops Q (o :: rest) a w := by
  obtain ⟨i, hi, hz0, hz1, hz2⟩ := info_parts info_u32
  refine wpList_make_full w hg l c t hop w.heap.size 34 i (.int .u32 0) 1 ht hi hz0 hz1 .i64 .i64 L C n hl hc hL hC (by rw [hz2]; omega) (by unfold maxLen; omega) (Nat.le_refl _) fun w' hown hgr => ?_
  have hub : UB w' w.heap.size (List.replicate n 0) := by
    refine ub_of_full (base := w.heap.size) (n := n) ?_
    rw [map_replicate_u32]
    have e : (madeCells (Value.int IntKind.u32 0).cells (n * 1)).toList = List.replicate n (Value.int .u32 0) := by
      rw [Nat.mul_one]; exact toList_madeCells_one _ _
    rw [e] at hown; exact hown
  exact hK w' hub ⟨hgr.os, hgr.tape, hgr.output, hgr.size, fun k hk => hgr.block k hk (by simp)⟩ hub.lt

theorem setRow_grown (w : World) (g : Nat) (cs : Array Value) : w.grownBy (w.setRow g cs) (some g) :=
  ⟨rfl, rfl, rfl, by simp, fun k _ hne => setRow_other w g k cs (fun e => hne (by rw [e]))⟩

/-- copy into the head of a block of the call's own. -/
theorem cp_arm {w : World} {ops : Array Oper} {rest : List Oper} {o : Oper} {a : Act} {Q : Exit → Act → World → Prop}
    (hgd : o.guard = none) (d s : Operand) (dT sT : TypeId) (ho : o.op = .call { callee := .builtin .copy, args := #[d, s], argTypes := #[dT, sT] }) (ht : Try.prog.underlying dT = some (.slice 34))
    (g n cd m cs B : Nat) (A : Option Addr) (ls zs : List Int) (hd : a.eval d = .slice (some ⟨g, 0, none⟩) n cd) (hs : a.eval s = .slice A m cs) (hn : n = ls.length) (hm : m = zs.length) (hu : UB w g ls) (hr : Rd w B A zs) (hle : zs.length ≤ ls.length)
    (hK : ∀ w', UB w' g (zs ++ ls.drop zs.length) → w.grownBy w' (some g) → wpList Try.prog ops Q rest (a.put o.dst (goInt zs.length)) w') :
    wpList Try.prog ops Q (o :: rest) a w := by
  obtain ⟨i, hi, hz0, hz1, hz2⟩ := info_parts info_u32
  have hsz : (Try.prog.info? 34).map (·.size) = some 1 := by rw [hi]; simp [hz1]
  subst hn hm
  have hrun : ∃ w', (Builtin.copy_ #[dT, sT] o.type #[.slice (some ⟨g, 0, none⟩) ls.length cd, .slice A zs.length cs]).run Try.prog w = .ok (goInt zs.length) w' ∧ UB w' g (zs ++ ls.drop zs.length) ∧ w.grownBy w' (some g) := by
    by_cases h0 : zs.length = 0
    · refine ⟨w, ?_, ?_, World.grownBy.refl _ _⟩
      · rw [run_copy_none (P := Try.prog) w dT sT o.type 34 _ A ls.length cd zs.length cs ht hsz (by rw [h0]; exact Nat.zero_min _), h0]; rfl
      · obtain rfl := List.eq_nil_of_length_eq_zero h0
        simpa using hu
    · obtain ⟨g', o', rfl, _, hc⟩ := hr h0
      have hrow := run_copy_row (P := Try.prog) w dT sT o.type 34 g 0 ls.length cd ⟨g', o', none⟩ zs.length cs _ _ (zs.map (Value.int .u32)) ht hsz hu (by rw [List.length_map]; exact (Nat.min_eq_left hle).symm)
        (fun j v hj => by
          have hjl : j < zs.length := by have := (List.getElem?_eq_some_iff.1 hj).1; simpa using this
          have e : ((⟨g', o', none⟩ : Addr).add j) = ⟨g', o' + j, none⟩ := by unfold Addr.add; by_cases h0 : j = 0 <;> simp [h0]
          rw [e, hc j hjl]
          rw [List.getElem?_map, List.getElem?_eq_getElem hjl] at hj
          rw [M.gd_lt hjl]; simpa using hj)
        (by simpa using hle) (by intro v hv; obtain ⟨z, _, rfl⟩ := List.mem_map.1 hv; rfl)
      rw [List.length_map] at hrow
      refine ⟨_, hrow, ?_, setRow_grown w g _⟩
      unfold UB
      rw [setRow_heap w g _ _ _ _ hu]
      simp
  obtain ⟨w', hrun, h1, h2⟩ := hrun
  refine wpList_plain hgd fun K hK' => ?_
  unfold Oper.wp
  simp [execOp, ho, resolve, invoke, builtin, hd, hs, hrun, Result.andThen]
  exact hK' _ _ (hK w' h1 h2)

/-- append of one number, which lies in a block of its own, to a slice of the call's own. -/
theorem ap_arm {w : World} {ops : Array Oper} {rest : List Oper} {o : Oper} {a : Act} {Q : Exit → Act → World → Prop}
    (hgd : o.guard = none) (s x : Operand) (t : TypeId) (ho : o.op = .call { callee := .builtin .append, args := #[s, x], argTypes := #[t, t] }) (ht : Try.prog.underlying t = some (.slice 34))
    (base : Nat) (v : Value) (xs : List Int) (hs : a.eval s = v) (hown : OwnU w base v xs) (g c : Nat) (z : Int) (hx : a.eval x = .slice (some ⟨g, 0, none⟩) 1 c) (hz : w.cell? ⟨g, 0, none⟩ = some (.int .u32 z))
    (hlen : xs.length ≤ 1000000000000) (hbase : base ≤ w.heap.size)
    (hK : ∀ v' w', OwnU w' base v' (xs ++ [z]) → w.grownBy w' v.ownBlock → wpList Try.prog ops Q rest (a.put o.dst v') w') :
    wpList Try.prog ops Q (o :: rest) a w := by
  obtain ⟨i, hi, hz0, hz1, hz2⟩ := info_parts info_u32
  refine wpList_append_own w hgd s x t ho base 34 i (.int .u32 0) 1 4 ht hi hz0 hz1 hz2 rfl (by decide) v xs.length (xs.map (Value.int .u32)) hs hown ⟨g, 0, none⟩ 1 c [.int .u32 z] hx rfl ?_ ?_ (by unfold maxLen; omega) (by omega) hbase fun v' w' h1 h2 _ => hK v' w' ?_ h2
  · intro j u hj
    match j, hj with
    | 0, hj => simp at hj; subst hj; simpa [Addr.add] using hz
    | j + 1, hj => simp at hj
  · intro u hu; simp at hu; subst hu; rfl
  · unfold OwnU
    rw [List.length_append, List.map_append]; exact h1
end Go.Proofs.Ytbimhacggbgcoaa
