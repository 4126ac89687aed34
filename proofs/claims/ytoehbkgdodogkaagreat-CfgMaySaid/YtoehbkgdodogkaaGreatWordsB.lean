/- Words for memory over this program: slices of bytes: read, known whole, of the call's own; and steps of a walk on them. -/
import Derived.Test.YtoehbkgdodogkaaGreatShared
namespace Go.Proofs.YtoehbkgdodogkaaGreat
open Go.RowKit Go.ChangeShapes Go.WideShapes Go.ChangeAt

/-- A slice value's address A, with the elements zs, all of it below block B. -/
def RdB (w : World) (B : Nat) (A : Option Addr) (zs : List Int) : Prop :=
  zs.length ≠ 0 → ∃ g o, A = some ⟨g, o, none⟩ ∧ g < B ∧ ∀ j, j < zs.length → w.cell? ⟨g, o + j, none⟩ = some (.int .u8 (zs.getD j 0))

theorem RdB.nil (w : World) (B : Nat) (A : Option Addr) : RdB w B A [] := fun h => absurd rfl h
theorem RdB.keep {w w' : World} {B : Nat} {A : Option Addr} {zs : List Int} (h : RdB w B A zs) (hk : ∀ g o, g < B → w'.cell? ⟨g, o, none⟩ = w.cell? ⟨g, o, none⟩) : RdB w' B A zs := fun hn => by
  obtain ⟨g, o, e, hg, hc⟩ := h hn
  exact ⟨g, o, e, hg, fun j hj => (hk _ _ hg).trans (hc j hj)⟩
theorem RdB.more {w : World} {B B' : Nat} {A : Option Addr} {zs : List Int} (h : RdB w B A zs) (hB : B ≤ B') : RdB w B' A zs := fun hn => by
  obtain ⟨g, o, e, hg, hc⟩ := h hn
  exact ⟨g, o, e, by omega, hc⟩
theorem RdB.below {w w' : World} {B B' : Nat} {A : Option Addr} {zs : List Int} (h : RdB w B A zs) (hb : Below B' w w') (hB : B ≤ B') : RdB w' B A zs :=
  h.keep fun g o hg => hb.cell (p := ⟨g, o, none⟩) (Nat.lt_of_lt_of_le hg hB)
theorem RdB.up {w w' : World} {A : Option Addr} {zs : List Int} (h : RdB w w.heap.size A zs) (hb : Below w.heap.size w w') : RdB w' w'.heap.size A zs := (h.below hb (Nat.le_refl _)).more hb.size
theorem RdB.drewN {w : World} {B : Nat} {A : Option Addr} {zs : List Int} (h : RdB w B A zs) (n : Nat) : RdB (w.drewN n) B A zs := h
theorem RdB.drew {w : World} {B : Nat} {A : Option Addr} {zs : List Int} (h : RdB w B A zs) : RdB w.drew B A zs := h
theorem RdB.alloc {w : World} {B : Nat} {A : Option Addr} {zs : List Int} (h : RdB w B A zs) (hB : B ≤ w.heap.size) (o : Obj) : RdB (w.alloc o) B A zs :=
  h.keep fun g i hg => World.cell?_alloc_lt w o ⟨g, i, none⟩ (Nat.lt_of_lt_of_le hg hB)
theorem RdB.grown {w w' : World} {B : Nat} {A : Option Addr} {zs : List Int} {g : Nat} (h : RdB w B A zs) (hg : w.grownBy w' (some g)) (hB : B ≤ g) (hs : B ≤ w.heap.size) : RdB w' B A zs :=
  h.keep fun p o hp => World.cell?_of_block (hg.block p (by omega) (fun e => by injection e with e; omega))
theorem RdB.take {w : World} {B : Nat} {A : Option Addr} {zs : List Int} (h : RdB w B A zs) (k : Nat) : RdB w B A (zs.take k) := fun hn => by
  have hl : (zs.take k).length ≤ zs.length := by rw [List.length_take]; omega
  obtain ⟨g, o, e, hg, hc⟩ := h (by omega)
  refine ⟨g, o, e, hg, fun j hj => ?_⟩
  rw [hc j (by omega), L.gd_lt hj, L.gd_lt (by omega : j < zs.length), List.getElem_take]
/-- The cells of a slice that reads, by its own address. -/
theorem RdB.cell {w : World} {B : Nat} {zs : List Int} {g o : Nat} (h : RdB w B (some ⟨g, o, none⟩) zs) (j : Nat) (hj : j < zs.length) : w.cell? ⟨g, o + j, none⟩ = some (.int .u8 (zs.getD j 0)) := by
  obtain ⟨g', o', e, _, hc⟩ := h (by omega)
  injection e with e; injection e with e1 e2
  subst e1 e2
  exact hc j hj

/-- Block g is just the numbers ls, of the call's own. -/
def UBB (w : World) (g : Nat) (ls : List Int) : Prop := w.heap[g]? = some (.cells (ls.map (Value.int .u8)).toArray 5 (0, 0))

theorem UBB.lt {w : World} {g : Nat} {ls : List Int} (h : UBB w g ls) : g < w.heap.size := by
  rcases Nat.lt_or_ge g w.heap.size with hlt | hge
  · exact hlt
  · unfold UBB at h; rw [Array.getElem?_eq_none hge] at h; cases h
theorem UBB.cell {w : World} {g : Nat} {ls : List Int} (h : UBB w g ls) (i : Nat) (hi : i < ls.length) : w.cell? ⟨g, i, none⟩ = some (.int .u8 (ls.getD i 0)) := by
  rw [cell_of_row w g i _ _ _ h]; simp [hi, List.getD]
theorem UBB.frozen {w : World} {g : Nat} {ls : List Int} (h : UBB w g ls) (i : Nat) : w.frozen? ⟨g, i, none⟩ = false := frozen_of_row w g i _ _ h
theorem UBB.new (w : World) (ls : List Int) : UBB (w.alloc (.cells (ls.map (Value.int .u8)).toArray 5)) w.heap.size ls := heap_alloc_new w _
theorem UBB.drewN {w : World} {g : Nat} {ls : List Int} (h : UBB w g ls) (n : Nat) : UBB (w.drewN n) g ls := h
theorem UBB.drew {w : World} {g : Nat} {ls : List Int} (h : UBB w g ls) : UBB w.drew g ls := h
theorem UBB.alloc {w : World} {g : Nat} {ls : List Int} (h : UBB w g ls) (o : Obj) : UBB (w.alloc o) g ls := (Below.heap_alloc w o g h.lt).trans h
theorem UBB.set_ {w : World} {g : Nat} {ls : List Int} (h : UBB w g ls) (i : Nat) (z : Int) : UBB (w.setCell ⟨g, i, none⟩ (.int .u8 z)) g (ls.set i z) := by
  unfold UBB at h ⊢
  rw [heap_setCell_same w g i _ _ _ h]
  congr 2
  apply Array.ext'
  simp [List.map_set]
theorem UBB.far {w : World} {g : Nat} {ls : List Int} (h : UBB w g ls) {p : Addr} (hp : g ≠ p.block) (u : Value) : UBB (w.setCell p u) g ls := (Below.heap_setCell w p u g hp).trans h
theorem UBB.below {w w' : World} {g B : Nat} {ls : List Int} (h : UBB w g ls) (hb : Below B w w') (hg : g < B) : UBB w' g ls := (hb.block g hg).trans h
theorem UBB.grown {w w' : World} {g : Nat} {ls : List Int} {row : Option Nat} (h : UBB w g ls) (hb : w.grownBy w' row) (hg : some g ≠ row) : UBB w' g ls := (hb.block g h.lt hg).trans h
theorem UBB.mid {w : World} {g o : Nat} {pre xs post : List Int} (h : UBB w g (pre ++ xs ++ post)) (ho : o = pre.length) (k : Nat) (hk : k < xs.length) : w.cell? ⟨g, o + k, none⟩ = some (.int .u8 (xs.getD k 0)) := by
  rw [h.cell (o + k) (by simp; omega), ho, L.mid_getD pre xs post k hk]
theorem UBB.mid_set {w : World} {g o : Nat} {pre xs post : List Int} (h : UBB w g (pre ++ xs ++ post)) (ho : o = pre.length) (k : Nat) (z : Int) (hk : k < xs.length) : UBB (w.setCell ⟨g, o + k, none⟩ (.int .u8 z)) g (pre ++ xs.set k z ++ post) := by
  have := h.set_ (o + k) z; rwa [ho, L.mid_set pre xs post k z hk, ← ho] at this
/-- A part of a block of the call's own reads as its numbers. -/
theorem UBB.rd {w : World} {g : Nat} {ls : List Int} (h : UBB w g ls) (o n : Nat) (hn : o + n ≤ ls.length) {B : Nat} (hB : g < B) : RdB w B (some ⟨g, o, none⟩) ((ls.drop o).take n) := fun _ => by
  refine ⟨g, o, rfl, hB, fun j hj => ?_⟩
  have hj' : j < n := by rw [List.length_take] at hj; omega
  rw [h.cell (o + j) (by omega), L.gd_lt hj, L.gd_lt (by omega : o + j < ls.length), List.getElem_take, List.getElem_drop]
theorem UBB.rd0 {w : World} {g : Nat} {ls : List Int} (h : UBB w g ls) {B : Nat} (hB : g < B) : RdB w B (some ⟨g, 0, none⟩) ls := by
  have := h.rd 0 ls.length (by omega) hB; simpa using this

theorem infoB : (Tryz.prog.info? 5).map (fun i => (i.zero, i.size, i.bytes)) = some (some (.int .u8 0), 1, 1) := by kernel_rfl
theorem map_replicateB (n : Nat) : (List.replicate n (0 : Int)).map (Value.int .u8) = List.replicate n (.int .u8 0) := by simp

/-- Numbers that are built for a call. -/
def cellsB (ls : List Int) : Obj := .cells (ls.map (Value.int .u8)).toArray 5
theorem litB1 (w : World) (b : List Int) : RdB (w.alloc (cellsB b)) (w.alloc (cellsB b)).heap.size (some ⟨w.heap.size, 0, none⟩) b ∧ Below w.heap.size w (w.alloc (cellsB b)) :=
  ⟨(UBB.new w b).rd0 (by simp), (Below.refl _ _).alloc (Nat.le_refl _) _⟩

/-- A slice of the call's own with these numbers, nil or not. -/
def OwnB (w : World) (base : Nat) (v : Value) (xs : List Int) : Prop := w.ownsRow base 5 1 v xs.length (xs.map (Value.int .u8))

theorem OwnB.nil (w : World) (base : Nat) : OwnB w base (.slice none 0 0) [] := World.ownsRow_nil w base _ _
theorem OwnB.alloc {w : World} {base : Nat} {v : Value} {xs : List Int} (h : OwnB w base v xs) (o : Obj) : OwnB (w.alloc o) base v xs := World.ownsRow.alloc h o
theorem OwnB.drewN {w : World} {base : Nat} {v : Value} {xs : List Int} (h : OwnB w base v xs) (n : Nat) : OwnB (w.drewN n) base v xs := h
theorem OwnB.below {w w' : World} {base B : Nat} {v : Value} {xs : List Int} (h : OwnB w base v xs) (hb : Below B w w') (hB : w.heap.size ≤ B) : OwnB w' base v xs := by
  refine ⟨h.1, ?_⟩
  rcases h.2 with h0 | ⟨g, cap, cur, e, hb1, hg, hr⟩
  · exact .inl h0
  · exact .inr ⟨g, cap, cur, e, hb1, (hb.block g (Nat.lt_of_lt_of_le (Array.getElem?_eq_some_iff.1 hg).1 hB)).trans hg, hr⟩
theorem OwnB.form {w : World} {base : Nat} {v : Value} {xs : List Int} (h : OwnB w base v xs) : ∃ A c, v = .slice A xs.length c ∧ xs.length ≤ c ∧ c ≤ maxLen ∧ RdB w w.heap.size A xs := by
  rcases h.2 with ⟨rfl, h0⟩ | ⟨g, cap, cur, rfl, hb, hg, hn, hm, hs, ht⟩
  · exact ⟨none, 0, by rw [h0], by omega, by unfold maxLen; omega, fun hc => absurd h0 hc⟩
  · refine ⟨some ⟨g, 0, none⟩, cap, rfl, hn, hm, fun _ => ⟨g, 0, rfl, ?_, fun j hj => ?_⟩⟩
    · exact (Array.getElem?_eq_some_iff.1 hg).1
    · have hc := World.ownsRow.cells h (g := g) rfl j (.int .u8 (xs.getD j 0)) (by simp [hj, List.getD])
      have e : ((⟨g, 0, none⟩ : Addr).add j) = ⟨g, 0 + j, none⟩ := by unfold Addr.add; by_cases h0 : j = 0 <;> simp [h0]
      rw [e] at hc; exact hc
theorem OwnB.mono {w : World} {base base' : Nat} {v : Value} {xs : List Int} (h : OwnB w base v xs) (hb : base' ≤ base) : OwnB w base' v xs := by
  refine ⟨h.1, ?_⟩
  rcases h.2 with h0 | ⟨g, cap, cur, e, hb1, hr⟩
  · exact .inl h0
  · exact .inr ⟨g, cap, cur, e, by omega, hr⟩

/-- A slice of the call's own that is not empty: where it lies; its cells are read and written one by one. -/
theorem OwnB.addr {w : World} {base : Nat} {v : Value} {xs : List Int} (h : OwnB w base v xs) (h0 : xs.length ≠ 0) : ∃ g c, v = .slice (some ⟨g, 0, none⟩) xs.length c ∧ xs.length ≤ c ∧ c ≤ maxLen ∧ base ≤ g := by
  rcases h.2 with ⟨_, h1⟩ | ⟨g, cap, cur, rfl, hb, hg, hn, hm, hs, ht⟩
  · exact absurd h1 h0
  · exact ⟨g, cap, rfl, hn, hm, hb⟩
theorem OwnB.cellAt {w : World} {base g n c : Nat} {xs : List Int} (h : OwnB w base (.slice (some ⟨g, 0, none⟩) n c) xs) (hn : n = xs.length) (j : Nat) (hj : j < xs.length) : w.cell? ⟨g, j, none⟩ = some (.int .u8 (xs.getD j 0)) := by
  subst hn
  rw [World.ownsRow.cellAt h j (by omega)]
  simp [hj, List.getD]
theorem OwnB.frozenAt {w : World} {base g n c : Nat} {xs : List Int} (h : OwnB w base (.slice (some ⟨g, 0, none⟩) n c) xs) (hn : n = xs.length) (j : Nat) : w.frozen? ⟨g, j, none⟩ = false := by
  subst hn
  exact World.ownsRow.frozenAt h j
theorem OwnB.stored {w : World} {base g n c : Nat} {xs : List Int} (h : OwnB w base (.slice (some ⟨g, 0, none⟩) n c) xs) (hn : n = xs.length) (j : Nat) (z : Int) : OwnB (w.setCell ⟨g, j, none⟩ (.int .u8 z)) base (.slice (some ⟨g, 0, none⟩) n c) (xs.set j z) := by
  subst hn
  have := (World.ownsRow.stored h j (.int .u8 z)).1
  unfold OwnB
  rw [List.length_set, List.map_set]; exact this

theorem ubB_of_full {w : World} {base g n : Nat} {ls : List Int} (h : w.ownsRow base 5 1 (.slice (some ⟨g, 0, none⟩) n n) n (ls.map (Value.int .u8))) : UBB w g ls := by
  rcases h.2 with ⟨he, _⟩ | ⟨g', cap, cur, he, hb, hg, hn, hm, hs, ht⟩
  · cases he
  · injection he with e1 e2 e3
    injection e1 with e1
    injection e1 with e1
    subst e1 e3
    unfold UBB
    rw [hg, ← ht, List.take_of_length_le (by simp [hs])]

/-- make: as many noughts. -/
theorem mkB_arm {w : World} {ops : Array Oper} {rest : List Oper} {o : Oper} {a : Act} {Q : Exit → Act → World → Prop}
    (hg : o.guard = none) (l c : Operand) (t : TypeId) (hop : o.op = Op.makeSlice t l c) (ht : Tryz.prog.underlying t = some (.slice 5)) (n : Nat) (L C : Int) (hl : a.eval l = .int .i64 L) (hc : a.eval c = .int .i64 C) (hL : L = (n : Int)) (hC : C = (n : Int)) (hn : n ≤ 35184372088832)
    (hK : ∀ w', UBB w' w.heap.size (List.replicate n 0) → Below w.heap.size w w' → w.heap.size < w'.heap.size → wpList Tryz.prog ops Q rest (a.put o.dst (.slice (some ⟨w.heap.size, 0, none⟩) n n)) w') :
    wpList Tryz.prog ops Q (o :: rest) a w := by
  obtain ⟨i, hi, hz0, hz1, hz2⟩ := info_parts infoB
  refine wpList_make_full w hg l c t hop w.heap.size 5 i (.int .u8 0) 1 ht hi hz0 hz1 .i64 .i64 L C n hl hc hL hC (by rw [hz2]; omega) (by unfold maxLen; omega) (Nat.le_refl _) fun w' hown hgr => ?_
  have hub : UBB w' w.heap.size (List.replicate n 0) := by
    refine ubB_of_full (base := w.heap.size) (n := n) ?_
    rw [map_replicateB]
    have e : (madeCells (Value.int IntKind.u8 0).cells (n * 1)).toList = List.replicate n (Value.int .u8 0) := by
      rw [Nat.mul_one]; exact toList_madeCells_one _ _
    rw [e] at hown; exact hown
  exact hK w' hub ⟨hgr.os, hgr.tape, hgr.output, hgr.size, fun k hk => hgr.block k hk (by simp)⟩ hub.lt

/-- make of none, with room for some. -/
theorem mk0B_arm {w : World} {ops : Array Oper} {rest : List Oper} {o : Oper} {a : Act} {Q : Exit → Act → World → Prop}
    (hg : o.guard = none) (l c : Operand) (t : TypeId) (hop : o.op = Op.makeSlice t l c) (ht : Tryz.prog.underlying t = some (.slice 5)) (base n : Nat) (C : Int) (hl : a.eval l = .int .i64 0) (hc : a.eval c = .int .i64 C) (hC : C = (n : Int)) (hn : n ≤ 35184372088832) (hb : base ≤ w.heap.size)
    (hK : ∀ w' v, OwnB w' base v [] → Below w.heap.size w w' → wpList Tryz.prog ops Q rest (a.put o.dst v) w') :
    wpList Tryz.prog ops Q (o :: rest) a w := by
  obtain ⟨i, hi, hz0, hz1, hz2⟩ := info_parts infoB
  refine wpList_make_own w hg l c t hop base 5 i (.int .u8 0) 1 ht hi hz0 hz1 .i64 .i64 C n hl hc hC (by rw [hz2]; omega) (by unfold maxLen; omega) hb fun w' hown hgr => ?_
  exact hK w' _ hown ⟨hgr.os, hgr.tape, hgr.output, hgr.size, fun k hk => hgr.block k hk (by simp)⟩

/-- copy into the head of a block of the call's own. -/
theorem cpB_arm {w : World} {ops : Array Oper} {rest : List Oper} {o : Oper} {a : Act} {Q : Exit → Act → World → Prop}
    (hgd : o.guard = none) (d s : Operand) (dT sT : TypeId) (ho : o.op = .call { callee := .builtin .copy, args := #[d, s], argTypes := #[dT, sT] }) (ht : Tryz.prog.underlying dT = some (.slice 5))
    (g n cd m cs B : Nat) (A : Option Addr) (ls zs : List Int) (hd : a.eval d = .slice (some ⟨g, 0, none⟩) n cd) (hs : a.eval s = .slice A m cs) (hn : n = ls.length) (hm : m = zs.length) (hu : UBB w g ls) (hr : RdB w B A zs) (hle : zs.length ≤ ls.length)
    (hK : ∀ w', UBB w' g (zs ++ ls.drop zs.length) → w.grownBy w' (some g) → wpList Tryz.prog ops Q rest (a.put o.dst (goInt zs.length)) w') :
    wpList Tryz.prog ops Q (o :: rest) a w := by
  obtain ⟨i, hi, hz0, hz1, hz2⟩ := info_parts infoB
  have hsz : (Tryz.prog.info? 5).map (·.size) = some 1 := by rw [hi]; simp [hz1]
  subst hn hm
  have hrun : ∃ w', (Builtin.copy_ #[dT, sT] o.type #[.slice (some ⟨g, 0, none⟩) ls.length cd, .slice A zs.length cs]).run Tryz.prog w = .ok (goInt zs.length) w' ∧ UBB w' g (zs ++ ls.drop zs.length) ∧ w.grownBy w' (some g) := by
    by_cases h0 : zs.length = 0
    · refine ⟨w, ?_, ?_, World.grownBy.refl _ _⟩
      · rw [run_copy_none (P := Tryz.prog) w dT sT o.type 5 _ A ls.length cd zs.length cs ht hsz (by rw [h0]; exact Nat.zero_min _), h0]; rfl
      · obtain rfl := List.eq_nil_of_length_eq_zero h0
        simpa using hu
    · obtain ⟨g', o', rfl, _, hc⟩ := hr h0
      have hrow := run_copy_row (P := Tryz.prog) w dT sT o.type 5 g 0 ls.length cd ⟨g', o', none⟩ zs.length cs _ _ (zs.map (Value.int .u8)) ht hsz hu (by rw [List.length_map]; exact (Nat.min_eq_left hle).symm)
        (fun j v hj => by
          have hjl : j < zs.length := by have := (List.getElem?_eq_some_iff.1 hj).1; simpa using this
          have e : ((⟨g', o', none⟩ : Addr).add j) = ⟨g', o' + j, none⟩ := by unfold Addr.add; by_cases h0 : j = 0 <;> simp [h0]
          rw [e, hc j hjl]
          rw [List.getElem?_map, List.getElem?_eq_getElem hjl] at hj
          rw [L.gd_lt hjl]; simpa using hj)
        (by simpa using hle) (by intro v hv; obtain ⟨z, _, rfl⟩ := List.mem_map.1 hv; rfl)
      rw [List.length_map] at hrow
      refine ⟨_, hrow, ?_, setRow_grown w g _⟩
      unfold UBB
      rw [setRow_heap w g _ _ _ _ hu]
      simp
  obtain ⟨w', hrun, h1, h2⟩ := hrun
  refine wpList_plain hgd fun K hK' => ?_
  unfold Oper.wp
  simp [execOp, ho, resolve, invoke, builtin, hd, hs, hrun, Result.andThen]
  exact hK' _ _ (hK w' h1 h2)

/-- append of one number, which lies in a block of its own, to a slice of the call's own. -/
theorem apB_arm {w : World} {ops : Array Oper} {rest : List Oper} {o : Oper} {a : Act} {Q : Exit → Act → World → Prop}
    (hgd : o.guard = none) (s x : Operand) (t : TypeId) (ho : o.op = .call { callee := .builtin .append, args := #[s, x], argTypes := #[t, t] }) (ht : Tryz.prog.underlying t = some (.slice 5))
    (base : Nat) (v : Value) (xs : List Int) (hs : a.eval s = v) (hown : OwnB w base v xs) (g c : Nat) (z : Int) (hx : a.eval x = .slice (some ⟨g, 0, none⟩) 1 c) (hz : w.cell? ⟨g, 0, none⟩ = some (.int .u8 z))
    (hlen : xs.length ≤ 1000000000000) (hbase : base ≤ w.heap.size)
    (hK : ∀ v' w', OwnB w' base v' (xs ++ [z]) → w.grownBy w' v.ownBlock → wpList Tryz.prog ops Q rest (a.put o.dst v') w') :
    wpList Tryz.prog ops Q (o :: rest) a w := by
  obtain ⟨i, hi, hz0, hz1, hz2⟩ := info_parts infoB
  refine wpList_append_own w hgd s x t ho base 5 i (.int .u8 0) 1 1 ht hi hz0 hz1 hz2 rfl (by decide) v xs.length (xs.map (Value.int .u8)) hs hown ⟨g, 0, none⟩ 1 c [.int .u8 z] hx rfl ?_ ?_ (by unfold maxLen; omega) (by omega) hbase fun v' w' h1 h2 _ => hK v' w' ?_ h2
  · intro j u hj
    match j, hj with
    | 0, hj => simp at hj; subst hj; simpa [Addr.add] using hz
    | j + 1, hj => simp at hj
  · intro u hu; simp at hu; subst hu; rfl
  · unfold OwnB
    rw [List.length_append, List.map_append]; exact h1

/-- append of a whole list to a slice of the call's own. -/
theorem apnB_arm {w : World} {ops : Array Oper} {rest : List Oper} {o : Oper} {a : Act} {Q : Exit → Act → World → Prop}
    (hgd : o.guard = none) (s x : Operand) (t : TypeId) (ho : o.op = .call { callee := .builtin .append, args := #[s, x], argTypes := #[t, t] }) (ht : Tryz.prog.underlying t = some (.slice 5))
    (base : Nat) (v : Value) (xs : List Int) (hs : a.eval s = v) (hown : OwnB w base v xs) (B m c : Nat) (A : Option Addr) (zs : List Int) (hx : a.eval x = .slice A m c) (hm : m = zs.length) (hr : RdB w B A zs)
    (hlen : xs.length + zs.length ≤ 1000000000000) (hbase : base ≤ w.heap.size)
    (hK : ∀ v' w', OwnB w' base v' (xs ++ zs) → w.grownBy w' v.ownBlock → wpList Tryz.prog ops Q rest (a.put o.dst v') w') :
    wpList Tryz.prog ops Q (o :: rest) a w := by
  obtain ⟨i, hi, hz0, hz1, hz2⟩ := info_parts infoB
  subst hm
  rcases A with _ | ad
  · have hz : zs = [] := by
      rcases Nat.eq_zero_or_pos zs.length with h0 | h0
      · exact List.eq_nil_of_length_eq_zero h0
      · obtain ⟨g, o', h, _⟩ := hr (by omega); cases h
    subst hz
    have hrun := run_append_nil (P := Tryz.prog) w base t o.type 5 i 1 ht hi v xs.length _ hown c
    refine wpList_plain hgd fun K hK' => ?_
    unfold Oper.wp
    simp [execOp, ho, resolve, invoke, builtin, hs, hx, hrun, Result.andThen]
    exact hK' _ _ (hK v w (by simpa using hown) (World.grownBy.refl _ _))
  · refine wpList_append_own w hgd s x t ho base 5 i (.int .u8 0) 1 1 ht hi hz0 hz1 hz2 rfl (by decide) v xs.length (xs.map (Value.int .u8)) hs hown ad zs.length c (zs.map (Value.int .u8)) hx (by simp) ?_ ?_ (by unfold maxLen; omega) (by omega) hbase fun v' w' h1 h2 _ => hK v' w' ?_ h2
    · intro j u hj
      have hjl : j < zs.length := by have := (List.getElem?_eq_some_iff.1 hj).1; simpa using this
      obtain ⟨g, o', h, _, hc⟩ := hr (by omega)
      replace h := Option.some.inj h
      subst h
      have e : ((⟨g, o', none⟩ : Addr).add j) = ⟨g, o' + j, none⟩ := by unfold Addr.add; by_cases h0 : j = 0 <;> simp [h0]
      rw [e, hc j hjl]
      rw [List.getElem?_map, List.getElem?_eq_getElem hjl] at hj
      rw [L.gd_lt hjl]; simpa using hj
    · intro u hu; obtain ⟨z, _, rfl⟩ := List.mem_map.1 hu; rfl
    · unfold OwnB
      rw [List.length_append, List.map_append]; exact h1

theorem ownB_empty (w : World) : OwnB (w.alloc (.cells #[] 5)) w.heap.size (.slice (some ⟨w.heap.size, 0, none⟩) 0 0) [] := by
  have := World.ownsRow_made (base := w.heap.size) (e := 5) (size := 1) w #[] 0 (Nat.le_refl _) (by unfold maxLen; omega) rfl
  exact this
theorem below_grownB {B : Nat} {a w w' : World} {v : Value} {xs : List Int} (h : Below B a w) (ho : OwnB w B v xs) (hg : w.grownBy w' v.ownBlock) (hs : B ≤ w.heap.size) : Below B a w' :=
  h.grown hg hs (fun k e => (World.ownsRow.lt ho k e).1)

/-- What is answered is of the call's own. -/
def GotB (xs : List Int) (w : World) (e : Ending) (w' : World) : Prop := ∃ v, e = .returned v ∧ OwnB w' w.heap.size v xs ∧ Below w.heap.size w w'

/-- A slice of such numbers that came in: nil, or a row of so many cells. -/
def IsRowB (w : World) (a : Option Addr) (len cap : Nat) (zs : List Int) : Prop :=
  (a = none ∧ len = 0 ∧ cap = 0 ∧ zs = []) ∨
  ∃ x, a = some x ∧ len ≤ cap ∧ cap ≤ maxLen ∧ zs.length = cap ∧ (∀ i, i < zs.length → w.cell? (x.add i) = some (.int .u8 (zs.getD i 0))) ∧ ∀ n ∈ zs, (Lit.int .u8 n).wf = true

theorem IsRowB.rd {w : World} {a : Option Addr} {len cap : Nat} {zs : List Int} (h : IsRowB w a len cap zs) : ∃ xs, xs.length = len ∧ len ≤ cap ∧ cap ≤ 9223372036854775807 ∧ (∀ n ∈ xs, (Lit.int .u8 n).wf = true) ∧ RdB w w.heap.size a xs := by
  rcases h with ⟨rfl, rfl, rfl, rfl⟩ | ⟨x, rfl, hl, hm, hz, hc, hw⟩
  · exact ⟨[], rfl, Nat.le_refl _, by omega, by simp, RdB.nil _ _ _⟩
  · refine ⟨zs.take len, by rw [List.length_take]; omega, hl, by unfold maxLen at hm; omega, ?_, ?_⟩
    · intro n hn
      exact hw n (List.mem_of_mem_take hn)
    · intro h0
      have hlen : len ≠ 0 := by rw [List.length_take] at h0; omega
      obtain ⟨b, off, rfl, hc'⟩ := ints_at hc (by omega)
      refine ⟨b, off, rfl, block_lt_of_cell (hc' 0 (by omega)), fun j hj => ?_⟩
      have hj' : j < len := by rw [List.length_take] at hj; omega
      rw [hc' j (by omega), L.gd_lt hj, L.gd_lt (by omega : j < zs.length), List.getElem_take]
end Go.Proofs.YtoehbkgdodogkaaGreat
