/- Part of the proofs over this program: TrimK, Rcopy, TrimKept, TrimRed, TrimReduced, TrimReduce, RefRed, RefReduce. -/
import Derived.Test.YtajcegofflmoeaaGreatDoorKF
import Derived.Test.YtajcegofflmoeaaGreatDoorKK
import Derived.Test.YtajcegofflmoeaaGreatDoorKN
namespace Go.Proofs.YtajcegofflmoeaaGreatDoor
set_option maxRecDepth 100000

namespace Gm
theorem olds_lt {G : Gr} (h : Ok G) {j : Int} (hj : j ∈ olds G) : 0 ≤ j ∧ j < G.ns.length := (olds_in hj).2.lin h.lin
theorem olds_le {G : Gr} (h : Ok G) : (olds G).length ≤ G.ns.length := by
  have h1 := pigeons G.ns.length ((olds G).map (· + 1)) ?_ ?_
  · simpa using h1.1
  · refine List.nodup_iff_pairwise_ne.2 ?_
    rw [List.pairwise_map]
    exact (List.nodup_iff_pairwise_ne.1 (olds_nodup G)).imp fun h e => h (by omega)
  · intro x hx
    obtain ⟨y, hy, rfl⟩ := List.mem_map.1 hx
    have := olds_lt h hy
    omega
theorem red_name {G : Gr} (h : Ok G) (i : Nat) (hi : i < (olds G).length) : ∃ hk : ((olds G)[i]).toNat < G.ns.length, (reduce G).ns[i]'(by rw [red_ns]; exact hi) = G.ns[((olds G)[i]).toNat] := by
  have h1 := olds_lt h (List.getElem_mem hi)
  have hk : ((olds G)[i]).toNat < G.ns.length := by omega
  refine ⟨hk, ?_⟩
  simp [reduce, hk]
theorem red_ok {G : Gr} (h : Ok G) (hp : Gn true G.rs G.st) : Ok (reduce G) := by
  have hst := st_in hp
  have hpo := pos_lt hst
  have hN := (nons_iff G).1 h.n
  have hle := olds_le h
  have hns : ∀ s ∈ (reduce G).ns, s ∈ G.ns := fun s hs => by
    obtain ⟨i, hi, rfl⟩ := List.getElem_of_mem hs
    rw [red_ns] at hi
    obtain ⟨hk, e⟩ := red_name h i hi
    rw [e]; exact List.getElem_mem hk
  have hnd : (reduce G).ns.Nodup := by
    refine List.nodup_iff_pairwise_ne.2 (List.pairwise_iff_getElem.2 fun i j hi hj hij e => ?_)
    rw [red_ns] at hi hj
    obtain ⟨hk, e1⟩ := red_name h i hi
    obtain ⟨hk2, e2⟩ := red_name h j hj
    rw [e1, e2] at e
    have h1 := olds_lt h (List.getElem_mem hi)
    have h2 := olds_lt h (List.getElem_mem hj)
    have h3 : ((olds G)[i]).toNat = ((olds G)[j]).toNat := by
      have h4 := List.pairwise_iff_getElem.1 hN.2.2.2.1
      rcases Nat.lt_trichotomy ((olds G)[i]).toNat ((olds G)[j]).toNat with h5 | h5 | h5
      · exact absurd e (h4 _ _ hk hk2 h5)
      · exact h5
      · exact absurd e.symm (h4 _ _ hk2 hk h5)
    have h6 : (olds G)[i] = (olds G)[j] := by omega
    exact List.pairwise_iff_getElem.1 (olds_nodup G) i j hi hj hij h6
  refine ⟨h.t, (nons_iff _).2 ⟨by rw [red_ns]; omega, by rw [red_ns]; omega, fun s hs => hN.2.2.1 s (hns s hs), hnd, fun s hs => hN.2.2.2.2 s (hns s hs)⟩, ?_, ?_, hpo.1, by rw [red_ns]; exact hpo.2, ?_, red_tops G⟩
  · obtain ⟨x, hx, _⟩ := mem_olds.1 hst
    have : 0 < (krs G).length := List.length_pos_of_mem hx
    have e : (reduce G).rs.length = (krs G).length := by simp [reduce]
    omega
  · have h1 : (krs G).length ≤ G.rs.length := List.length_filter_le _ _
    have := h.r40
    have e : (reduce G).rs.length = (krs G).length := by simp [reduce]
    omega
  · intro y hy
    have hs := red_sin G y hy
    obtain ⟨x, hx, rfl⟩ := List.mem_map.1 hy
    obtain ⟨h1, h2, h3, h4⟩ := rule_in (h.rr x (mem_krs.1 hx).1)
    refine rule_of ⟨by simpa [re] using h1, h2, h3, fun z hz => ?_⟩
    have hz2 := hz
    obtain ⟨u, hu, e⟩ := List.mem_map.1 hz
    have h5 := h4 u hu
    by_cases h0 : z < 0
    · exact ⟨by have : (0:Int) ≤ ((reduce G).ts.length : Int) := by omega
                omega, hs z hz2 h0, fun h => absurd h0 (by omega)⟩
    · have : z = u := by
        rw [← e]; unfold re1
        by_cases h7 : u < 0
        · rw [if_pos h7, ← e] at *
          unfold re1 at h0
          rw [if_pos h7] at h0
          have := pos_lt (use_sym hx hu h7)
          omega
        · rw [if_neg h7]
      rw [this]
      exact ⟨h5.1, by have : (0:Int) ≤ ((reduce G).ns.length : Int) := by omega
                      omega, h5.2.2⟩
theorem kept_rs (G : Gr) : (kept G).map (fun i => G.rs.getD i ⟨0, [], 0⟩) = krs G := by
  unfold kept krs
  generalize use G = f
  have key : ∀ (rs pre : List Rl), ((List.range' pre.length rs.length).filter fun i => ((pre ++ rs)[i]?).any f).map (fun i => (pre ++ rs).getD i ⟨0, [], 0⟩) = rs.filter f := by
    intro rs
    induction rs with
    | nil => intro pre; simp
    | cons x rs ih =>
      intro pre
      have h1 := ih (pre ++ [x])
      simp only [List.append_assoc, List.singleton_append, List.length_append, List.length_singleton] at h1
      rw [List.length_cons, List.range'_succ, List.filter_cons, List.filter_cons]
      have h2 : (pre ++ x :: rs)[pre.length]? = some x := by simp
      rw [h2]
      simp only [Option.any_some]
      split
      · rw [List.map_cons, h1]
        congr 1
        simp
      · exact h1
  have := key G.rs []
  simpa [List.range_eq_range'] using this
theorem kept_len (G : Gr) : (kept G).length = (krs G).length := by rw [← kept_rs]; simp
theorem kept_lt {G : Gr} {i : Nat} (h : i ∈ kept G) : i < G.rs.length := by
  have := List.mem_filter.1 h
  exact List.mem_range.1 this.1
theorem kept_at {G : Gr} (i : Nat) (h : i < (kept G).length) (h2 : (kept G)[i] < G.rs.length) : (krs G)[i]'(by rw [← kept_len]; exact h) = G.rs[(kept G)[i]] := by
  have : (krs G)[i]? = some (G.rs[(kept G)[i]]) := by
    rw [← kept_rs, List.getElem?_map, List.getElem?_eq_getElem h]
    simp [h2]
  rw [List.getElem?_eq_getElem (by rw [← kept_len]; exact h)] at this
  exact Option.some.inj this
end Gm
end Go.Proofs.YtajcegofflmoeaaGreatDoor

namespace Go.Proofs.YtajcegofflmoeaaGreatDoor
set_option maxRecDepth 100000
open Go.RowKit

theorem apTs_arm {w : World} {ops : Array Oper} {rest : List Oper} {o : Oper} {a : Act} {Q : Exit → Act → World → Prop}
    (hgd : o.guard = none) (s x : Operand) (t : TypeId) (ho : o.op = .call { callee := .builtin .append, args := #[s, x], argTypes := #[t, t] }) (ht : Tryz.prog.underlying t = some (.slice 79))
    (base : Nat) (v : Value) (xs : List Gm.Tm) (hs : a.eval s = v) (hown : OwnTm w base v xs) (B m c : Nat) (A : Option Addr) (zs : List Gm.Tm) (hx : a.eval x = .slice A m c) (hm : m = zs.length) (hr : RdTm w B A zs)
    (hlen : xs.length + zs.length ≤ 1000000) (hbase : base ≤ w.heap.size)
    (hK : ∀ v' w', OwnTm w' base v' (xs ++ zs) → w.grownBy w' v.ownBlock → wpList Tryz.prog ops Q rest (a.put o.dst v') w') :
    wpList Tryz.prog ops Q (o :: rest) a w := by
  obtain ⟨i, hi, hz0, hz1, hz2⟩ := info_parts infoTm
  subst hm
  rcases A with _ | ad
  · have hz : zs = [] := by
      rcases Nat.eq_zero_or_pos zs.length with h0 | h0
      · exact List.eq_nil_of_length_eq_zero h0
      · obtain ⟨g, o', h, _⟩ := hr (by omega); cases h
    subst hz
    have hrun := run_append_nil (P := Tryz.prog) w base t o.type 79 i 3 ht hi v xs.length _ hown c
    refine wpList_plain hgd fun K hK' => ?_
    unfold Oper.wp
    simp [execOp, ho, resolve, invoke, builtin, hs, hx, hrun, Result.andThen]
    exact hK' _ _ (hK v w (by simpa using hown) (World.grownBy.refl _ _))
  · refine wpList_append_own w hgd s x t ho base 79 i _ 3 32 ht hi hz0 hz1 hz2 rfl (by decide) v xs.length (tmsC xs) hs hown ad zs.length c (tmsC zs) hx (three_len tmC (fun _ => rfl) zs) ?_ ?_ (by unfold maxLen; omega) (by omega) hbase fun v' w' h1 h2 _ => hK v' w' ?_ h2
    · intro j u hj
      have hjl : j < zs.length * 3 := by have := (List.getElem?_eq_some_iff.1 hj).1; rw [← three_len tmC (fun _ => rfl) zs]; exact this
      obtain ⟨g, o', h, _, hc⟩ := hr (by omega)
      replace h := Option.some.inj h
      subst h
      have e : ((⟨g, o', none⟩ : Addr).add j) = ⟨g, o' + j, none⟩ := by unfold Addr.add; by_cases h0 : j = 0 <;> simp [h0]
      rw [e]
      have hi3 : j / 3 < zs.length := by omega
      have hm3 : j % 3 < 3 := Nat.mod_lt _ (by decide)
      have hj2 : j = j / 3 * 3 + j % 3 := by omega
      have hk := three_at tmC (fun _ => rfl) zs (j / 3) (j % 3) hi3 hm3
      rw [← hj2] at hk
      have hj' : (tmC zs[j / 3])[j % 3]? = some u := hk.symm.trans hj
      obtain ⟨k0, k1, k2⟩ := hc (j / 3) hi3
      rw [hj2]
      generalize j % 3 = q at *
      match q, hm3 with
      | 0, _ => rw [Nat.add_zero, k0]; exact hj'
      | 1, _ => rw [← Nat.add_assoc, k1]; exact hj'
      | 2, _ => rw [← Nat.add_assoc, k2]; exact hj'
    · intro u hu
      unfold tmsC at hu
      obtain ⟨y, _, hy⟩ := List.mem_flatMap.1 hu
      simp [tmC] at hy; rcases hy with rfl | rfl | rfl <;> rfl
    · unfold OwnTm tmsC
      rw [List.length_append, List.flatMap_append]; exact h1
theorem ownTm_empty (w : World) : OwnTm (w.alloc (.cells #[] 79)) w.heap.size (.slice (some ⟨w.heap.size, 0, none⟩) 0 0) [] := by
  have := World.ownsRow_made (base := w.heap.size) (e := 79) (size := 3) w #[] 0 (Nat.le_refl _) (by unfold maxLen; omega) rfl
  exact this
end Go.Proofs.YtajcegofflmoeaaGreatDoor

namespace Go.Proofs.YtajcegofflmoeaaGreatDoor
set_option maxRecDepth 100000
open Go.RowKit

theorem Gm.use_rcB {G : Gm.Gr} (h : Gm.Ok G) {x : Gm.Rl} (hx : x ∈ G.rs) : Gm.rcB (Gm.gn true G.rs G.ns.length) (Gm.rc G) x = Gm.use G x := by
  unfold Gm.rcB Gm.use
  rw [Bool.eq_iff_iff, Bool.and_eq_true, Gm.tr_iff, Gm.allB_gn h.lin]
  have hl := h.lin x hx
  rw [Gm.rc_at G x.l.toNat (by omega), Gm.tr_iff, Int.toNat_of_nonneg hl.1]
noncomputable def Gm.kl (G : Gm.Gr) (i : Nat) : List Int := ((List.range i).filter fun j => (G.rs[j]?).any (Gm.use G)).map fun j : Nat => (j : Int)
theorem Gm.kl_next {G : Gm.Gr} {i : Nat} (h : i < G.rs.length) : Gm.kl G (i + 1) = if Gm.use G G.rs[i] = true then Gm.kl G i ++ [(i : Int)] else Gm.kl G i := by
  unfold Gm.kl
  rw [List.range_succ, List.filter_append, List.map_append]
  have e : (G.rs[i]?).any (Gm.use G) = Gm.use G G.rs[i] := by rw [List.getElem?_eq_getElem h]; rfl
  cases hu : Gm.use G G.rs[i]
  · simp [e, hu]
  · simp [e, hu]
theorem Gm.kl_len (G : Gm.Gr) (i : Nat) : (Gm.kl G i).length ≤ i := by
  unfold Gm.kl
  rw [List.length_map]
  have := List.length_filter_le (fun j => (G.rs[j]?).any (Gm.use G)) (List.range i)
  simpa using this
theorem Gm.kl_all (G : Gm.Gr) : Gm.kl G G.rs.length = (Gm.kept G).map fun j : Nat => (j : Int) := rfl

end Go.Proofs.YtajcegofflmoeaaGreatDoor

namespace Go.Proofs.YtajcegofflmoeaaGreatDoor
set_option maxRecDepth 100000
open Go.RowKit

/-! ### numbers as they come -/
theorem Gm.ord_snoc : ∀ (ls acc : List Int) (l : Int), Gm.ord acc (ls ++ [l]) = if l ∈ Gm.ord acc ls then Gm.ord acc ls else Gm.ord acc ls ++ [l]
  | [], acc, l => by rw [List.nil_append, Gm.ord, Gm.ord, Gm.ord]
  | x :: r, acc, l => by rw [List.cons_append, Gm.ord, Gm.ord, Gm.ord_snoc r]
def Gm.toL (n : Nat) (o : List Int) : List Int := (List.range n).map fun j : Nat => Gm.pos o j
theorem Gm.toL_len (n : Nat) (o : List Int) : (Gm.toL n o).length = n := by simp [Gm.toL]
theorem Gm.toL_at {n j : Nat} (h : j < n) (o : List Int) : (Gm.toL n o).getD j 0 = Gm.pos o j := by simp [Gm.toL, h]
theorem Gm.toL_nil (n : Nat) : Gm.toL n [] = List.replicate n (-1) := by
  refine List.ext_getElem (by simp [Gm.toL]) fun i h1 h2 => ?_
  simp [Gm.toL, Gm.pos]
theorem Gm.pos_no {o : List Int} {l : Int} (h : l ∉ o) : Gm.pos o l = -1 := by unfold Gm.pos; rw [if_neg h]
theorem Gm.pos_snoc {o : List Int} {l j : Int} (hj : j ≠ l) : Gm.pos (o ++ [l]) j = Gm.pos o j := by
  by_cases h : j ∈ o
  · exact Gm.pos_app h
  · rw [Gm.pos_no h, Gm.pos_no (by simp [h, hj])]
theorem Gm.pos_end {o : List Int} {l : Int} (hn : l ∉ o) : Gm.pos (o ++ [l]) l = o.length := Gm.pos_new (t := []) hn
theorem Gm.toL_snoc {n l : Nat} {o : List Int} (hn : (l : Int) ∉ o) : (Gm.toL n o).set l o.length = Gm.toL n (o ++ [(l : Int)]) := by
  refine List.ext_getElem (by simp [Gm.toL]) fun i h1 h2 => ?_
  rw [List.getElem_set]
  by_cases e : l = i
  · subst e
    rw [if_pos rfl]
    simp [Gm.toL, Gm.pos_end hn]
  · rw [if_neg e]
    have e2 : ¬ (i : Int) = (l : Int) := by omega
    simp only [Gm.toL, List.getElem_map, List.getElem_range]
    rw [Gm.pos_snoc e2]
def Gm.nmL (G : Gm.Gr) (o : List Int) : List (List Int) := o.map fun l => G.ns.getD l.toNat []

/-! ### what is built -/
structure RdS (w1 wr : World) (H gA : Nat) (cs : Array Value) (vT vN vR : Value) (ts : List Gm.Tm) (ns : List (List Int)) (rs : List Gm.Rl) (an : List Int) : Prop where
  h : wr.heap[H]? = some (.cells cs 26 (0, 0))
  t : OwnTm wr w1.heap.size vT ts
  nn : OwnN wr w1.heap.size vN ns
  r : OwnRl wr w1.heap.size wr.heap.size vR rs
  a : UBI wr gA an
  w : Below w1.heap.size w1 wr
  hH : w1.heap.size ≤ H
  hA : w1.heap.size ≤ gA
section
variable {w1 wr w' : World} {H gA : Nat} {cs : Array Value} {vT vN vR : Value} {ts : List Gm.Tm} {ns : List (List Int)} {rs : List Gm.Rl} {an : List Int}
theorem RdS.grown (h : RdS w1 wr H gA cs vT vN vR ts ns rs an) {row : Option Nat} (hg : wr.grownBy w' row) (ho : ∀ g, row = some g → g ≠ H ∧ w1.heap.size ≤ g ∧ ∃ cs T, wr.heap[g]? = some (.cells cs T (0, 0)) ∧ T ≠ 79 ∧ T ≠ 9 ∧ T ≠ 3 ∧ T ≠ 51) : RdS w1 w' H gA cs vT vN vR ts ns rs an := by
  refine ⟨(hg.block H (Array.getElem?_eq_some_iff.1 h.h).1 (fun e => (ho H e.symm).1 rfl)).trans h.h, World.ownsRow.kept h.t hg ?_, World.ownsRow.kept h.nn hg ?_, (h.r.grown hg ?_).more hg.size, ?_, h.w.grown hg h.w.size (fun k e => (ho k e).2.1), h.hH, h.hA⟩
  · rcases row with _ | g
    · exact none_away _
    · obtain ⟨_, _, cs, T, h1, h2, _⟩ := ho g rfl
      exact own_away h.t h1 (fun cur e => by injection e with _ e; exact h2 e)
  · rcases row with _ | g
    · exact none_away _
    · obtain ⟨_, _, cs, T, h1, _, h2, _⟩ := ho g rfl
      exact own_away h.nn h1 (fun cur e => by injection e with _ e; exact h2 e)
  · intro g e
    obtain ⟨_, _, cs, T, h1, _, _, h2, h3⟩ := ho g e
    exact .inl ⟨cells_ne h1 h2, cells_ne h1 h3⟩
  · refine h.a.grown hg fun e => ?_
    obtain ⟨_, _, cs, T, h1, _, _, h2, _⟩ := ho gA e.symm
    exact cells_ne h1 h2 _ h.a
theorem RdS.alloc (h : RdS w1 wr H gA cs vT vN vR ts ns rs an) (o : Obj) : RdS w1 (wr.alloc o) H gA cs vT vN vR ts ns rs an := h.grown (World.grownBy_alloc wr o .none) (fun g e => by cases e)
theorem RdS.below (h : RdS w1 wr H gA cs vT vN vR ts ns rs an) (hb : Below wr.heap.size wr w') : RdS w1 w' H gA cs vT vN vR ts ns rs an := h.grown (only_below hb .none) (fun g e => by cases e)
theorem RdS.drew (h : RdS w1 wr H gA cs vT vN vR ts ns rs an) : RdS w1 wr.drew H gA cs vT vN vR ts ns rs an := h.grown (drew_grown wr .none) (fun g e => by cases e)
theorem RdS.set (h : RdS w1 wr H gA cs vT vN vR ts ns rs an) {g : Nat} {cs' : Array Value} {T : TypeId} (hT : wr.heap[g]? = some (.cells cs' T (0, 0))) (h1 : T ≠ 79) (h2 : T ≠ 9) (h3 : T ≠ 3) (h4 : T ≠ 51) (hH : g ≠ H) (hb : w1.heap.size ≤ g) (j : Nat) (u : Value) : RdS w1 (wr.setCell ⟨g, j, none⟩ u) H gA cs vT vN vR ts ns rs an :=
  h.grown (only_set (World.grownBy.refl wr (some g)) j u) (fun g' e => by injection e with e; subst e; exact ⟨hH, hb, cs', T, hT, h1, h2, h3, h4⟩)
theorem RdS.setH (h : RdS w1 wr H gA cs vT vN vR ts ns rs an) (j : Nat) (u : Value) : RdS w1 (wr.setCell ⟨H, j, none⟩ u) H gA (cs.setIfInBounds j u) vT vN vR ts ns rs an := by
  have hs : wr.grownBy (wr.setCell ⟨H, j, none⟩ u) (some H) := only_set (World.grownBy.refl wr (some H)) j u
  refine ⟨heap_setCell_same wr H j _ _ u h.h, World.ownsRow.kept h.t hs (own_away h.t h.h (fun cur e => by injection e with _ e; cases e)), World.ownsRow.kept h.nn hs (own_away h.nn h.h (fun cur e => by injection e with _ e; cases e)), (h.r.grown hs ?_).more hs.size, h.a.grown hs ?_, h.w.grown hs h.w.size (fun k e => by injection e with e; rw [← e]; exact h.hH), h.hH, h.hA⟩
  · intro g e
    injection e with e
    subst e
    exact .inl ⟨cells_ne h.h (by decide), cells_ne h.h (by decide)⟩
  · intro e
    injection e with e
    have := h.a
    unfold UBI at this
    rw [e, h.h] at this
    injection this with this
    injection this with _ this
    cases this
theorem RdS.setA (h : RdS w1 wr H gA cs vT vN (.slice none 0 0) ts ns [] an) (j : Nat) (z : Int) : RdS w1 (wr.setCell ⟨gA, j, none⟩ (.int .i64 z)) H gA cs vT vN (.slice none 0 0) ts ns [] (an.set j z) := by
  have hs : wr.grownBy (wr.setCell ⟨gA, j, none⟩ (.int .i64 z)) (some gA) := only_set (World.grownBy.refl wr (some gA)) j _
  have ha := h.a
  unfold UBI at ha
  refine ⟨(hs.block H (Array.getElem?_eq_some_iff.1 h.h).1 (fun e => ?_)).trans h.h, World.ownsRow.kept h.t hs (own_away h.t ha (fun cur e => by injection e with _ e; cases e)), World.ownsRow.kept h.nn hs (own_away h.nn ha (fun cur e => by injection e with _ e; cases e)), OwnRl.nil _ _ _, h.a.set_ j z, h.w.grown hs h.w.size (fun k e => by injection e with e; rw [← e]; exact h.hA), h.hH, h.hA⟩
  injection e with e
  rw [← e, h.h] at ha
  injection ha with ha
  injection ha with _ ha
  cases ha
theorem RdS.putN (h : RdS w1 wr H gA cs vT vN vR ts ns rs an) {v' : Value} {ns' : List (List Int)} (ho : OwnN w' w1.heap.size v' ns') (hg : wr.grownBy w' vN.ownBlock) : RdS w1 w' H gA cs vT v' vR ts ns' rs an := by
  have hn := h.nn
  have hh := h.h
  have ha := h.a
  unfold UBI at ha
  refine ⟨cells_row hh hn (by decide) hg, World.ownsRow.kept h.t hg (other_row h.t hn (by decide)), ho, (h.r.grown hg fun g e => ?_).more hg.size, ?_, h.w.grown hg h.w.size (fun k e => (own_holds hn e).1), h.hH, h.hA⟩
  · obtain ⟨_, cur, hc⟩ := own_holds hn e
    exact .inl ⟨cells_ne hc (by decide), cells_ne hc (by decide)⟩
  · exact cells_row ha hn (by decide) hg
theorem RdS.putR (h : RdS w1 wr H gA cs vT vN vR ts ns rs an) {v' : Value} {rs' : List Gm.Rl} (ho : OwnRl w' w1.heap.size w'.heap.size v' rs') (hg : wr.grownBy w' vR.ownBlock) : RdS w1 w' H gA cs vT vN v' ts ns rs' an := by
  obtain ⟨qs, _, h2, _⟩ := id h.r
  have hh := h.h
  have ha := h.a
  unfold UBI at ha
  exact ⟨cells_row hh h2 (by decide) hg, World.ownsRow.kept h.t hg (other_row h.t h2 (by decide)), World.ownsRow.kept h.nn hg (other_row h.nn h2 (by decide)), ho, cells_row ha h2 (by decide) hg, h.w.grown hg h.w.size (fun k e => (own_holds h2 e).1), h.hH, h.hA⟩
theorem RdS.rd (h : RdS w1 wr H gA cs vT vN vR ts ns rs an) (z : Int) : RdGr wr wr.heap.size (.agg #[vT, vN, vR, .int .i64 z]) ⟨ts, ns, rs, z⟩ := by
  obtain ⟨AT, cT, rfl, h1, h2⟩ := tm_of_own h.t
  obtain ⟨AN, cN, rfl, h3, h4⟩ := n_of_own h.nn
  obtain ⟨AR, cR, rfl, h5, h6⟩ := rl_of_own h.r (Nat.le_refl _)
  exact ⟨AT, cT, AN, cN, AR, cR, rfl, h1, h3, h5, h2, h4, h6⟩
end
theorem apN_wp {w : World} {o : Oper} {a : Act} {KK : Act → World → Prop} {Q : Exit → Act → World → Prop}
    (s x : Operand) (t : TypeId) (ho : o.op = .call { callee := .builtin .append, args := #[s, x], argTypes := #[t, t] }) (ht : Tryz.prog.underlying t = some (.slice 9))
    (base : Nat) (v : Value) (ts : List (List Int)) (hs : a.eval s = v) (hown : OwnN w base v ts) (g c : Nat) (y : List Int) (hx : a.eval x = .slice (some ⟨g, 0, none⟩) 1 c) (hz : w.cell? ⟨g, 0, none⟩ = some (.string (K.str y)))
    (hlen : ts.length ≤ 1000000) (hbase : base ≤ w.heap.size)
    (hK : ∀ v' w', OwnN w' base v' (ts ++ [y]) → w.grownBy w' v.ownBlock → KK (a.put o.dst v') w') :
    o.wp Tryz.prog a w KK Q := by
  obtain ⟨i, hi, hz0, hz1, hz2⟩ := info_parts infoNm
  refine wp_append_own w s x t ho base 9 i _ 1 16 ht hi hz0 hz1 hz2 rfl (by decide) v ts.length (nmsC ts) hs hown ⟨g, 0, none⟩ 1 c [.string (K.str y)] hx rfl ?_ ?_ (by unfold maxLen; omega) (by omega) hbase fun v' w' h1 h2 _ => hK v' w' ?_ h2
  · intro j u hj
    rw [addZ, Nat.zero_add]
    rcases j with _ | j
    · simp at hj; rw [← hj]; exact hz
    · simp at hj
  · intro u hu; simp at hu; rcases hu with rfl; rfl
  · unfold OwnN nmsC
    rw [List.length_append, List.map_append]; exact h1
end Go.Proofs.YtajcegofflmoeaaGreatDoor

namespace Go.Proofs.YtajcegofflmoeaaGreatDoor
set_option maxRecDepth 100000
open Go.RowKit

theorem Gm.kl_at {G : Gm.Gr} {k : Nat} (h : k < (Gm.kl G G.rs.length).length) : ∃ i : Nat, (Gm.kl G G.rs.length)[k] = (i : Int) ∧ ∃ hi : i < G.rs.length, ∃ hk : k < (Gm.krs G).length, (Gm.krs G)[k] = G.rs[i] := by
  have e : Gm.kl G G.rs.length = (Gm.kept G).map fun j : Nat => (j : Int) := rfl
  have h2 : k < (Gm.kept G).length := by rw [e, List.length_map] at h; exact h
  have h3 := Gm.kept_lt (List.getElem_mem h2)
  refine ⟨(Gm.kept G)[k], by simp [e], h3, by rw [← Gm.kept_len]; exact h2, Gm.kept_at k h2 h3⟩
theorem Gm.kl_krs (G : Gm.Gr) : (Gm.kl G G.rs.length).length = (Gm.krs G).length := by rw [← Gm.kept_len, Gm.kl_all, List.length_map]
theorem Gm.krs_len (G : Gm.Gr) : (Gm.krs G).length ≤ G.rs.length := List.length_filter_le _ _

def OwnGr (w : World) (base : Nat) (v : Value) (G : Gm.Gr) : Prop := ∃ vT vN vR, v = .agg #[vT, vN, vR, .int .i64 G.st] ∧ OwnTm w base vT G.ts ∧ OwnN w base vN G.ns ∧ OwnRl w base w.heap.size vR G.rs
theorem OwnGr.rd {w : World} {base : Nat} {v : Value} {G : Gm.Gr} (h : OwnGr w base v G) : RdGr w w.heap.size v G := by
  obtain ⟨vT, vN, vR, rfl, h1, h2, h3⟩ := h
  obtain ⟨AT, cT, rfl, a1, a2⟩ := tm_of_own h1
  obtain ⟨AN, cN, rfl, a3, a4⟩ := n_of_own h2
  obtain ⟨AR, cR, rfl, a5, a6⟩ := rl_of_own h3 (Nat.le_refl _)
  exact ⟨AT, cT, AN, cN, AR, cR, rfl, a1, a3, a5, a2, a4, a6⟩
theorem own_far {w w' : World} {base : Nat} {e : TypeId} {size n : Nat} {v : Value} {xs : List Value} {row : Option Nat} (h : w.ownsRow base e size v n xs) (hg : w.grownBy w' row) (hr : ∀ g, row = some g → g < base) : w'.ownsRow base e size v n xs :=
  World.ownsRow.kept h hg (by
    cases hv : v.ownBlock with
    | none => exact .inl rfl
    | some k => exact .inr (fun e => by have := (own_holds h hv).1; have := hr k e.symm; omega))
theorem OwnGr.grown {w w' : World} {base : Nat} {v : Value} {G : Gm.Gr} {row : Option Nat} (h : OwnGr w base v G) (hg : w.grownBy w' row) (hr : ∀ g, row = some g → g < base) : OwnGr w' base v G := by
  obtain ⟨vT, vN, vR, rfl, h1, h2, qs, a1, a2, a3, a4⟩ := h
  refine ⟨vT, vN, vR, rfl, own_far h1 hg hr, own_far h2 hg hr, qs, a1, own_far a2 hg hr, fun k hk => Nat.lt_of_lt_of_le (a3 k hk) hg.size, fun q hq => ⟨(a4 q hq).1, (a4 q hq).2.1, fun hn => ?_⟩⟩
  obtain ⟨g, cur, e, hb, hN, hh, hc⟩ := (a4 q hq).2.2 hn
  exact ⟨g, cur, e, hb, Nat.lt_of_lt_of_le hN hg.size, (hg.block g (Array.getElem?_eq_some_iff.1 hh).1 (fun e => by have := hr g e.symm; omega)).trans hh, hc⟩
theorem UBI.row {w : World} {g base : Nat} {zs : List Int} (h : UBI w g zs) (hb : base ≤ g) : RowI w base w.heap.size (some ⟨g, 0, none⟩) zs := fun _ =>
  ⟨g, _, rfl, hb, h.lt, h, fun j hj => by simp [hj]⟩
theorem Gm.krs_next {G : Gm.Gr} {k : Nat} (h : k < (Gm.krs G).length) : ((Gm.krs G).take (k + 1)).map (Gm.re (Gm.olds G)) = ((Gm.krs G).take k).map (Gm.re (Gm.olds G)) ++ [Gm.re (Gm.olds G) (Gm.krs G)[k]] := by
  rw [List.take_succ_eq_append_getElem h, List.map_append, List.map_singleton]
end Go.Proofs.YtajcegofflmoeaaGreatDoor

namespace Go.Proofs.YtajcegofflmoeaaGreatDoor
set_option maxRecDepth 100000
open Go.RowKit

def Gm.gr0 : Gm.Gr := ⟨[], [], [], 0⟩
theorem gr0_rd (w : World) (B : Nat) : RdGr w B (.agg #[.slice none 0 0, .slice none 0 0, .slice none 0 0, .int .i64 0]) Gm.gr0 := ⟨none, 0, none, 0, none, 0, rfl, by simp [Gm.gr0], by simp [Gm.gr0], by simp [Gm.gr0], fun h => absurd rfl h, fun h => absurd rfl h, fun h => absurd rfl h⟩
theorem build_gr11 (w : World) : (Instr.build 26 #[]).run Tryz.prog w = .ok (.agg #[.slice none 0 0, .slice none 0 0, .slice none 0 0, .int .i64 0]) w := run_build w 26 _ _ (by kernel_rfl)
noncomputable def Gm.rdE (G : Gm.Gr) : Int := if Gm.right G = true then (if Gm.tr (Gm.Gn true G.rs G.st) = true then 0 else 9) else 1
noncomputable def Gm.rdG (G : Gm.Gr) : Gm.Gr := if Gm.rdE G = 0 then Gm.reduce G else Gm.gr0
noncomputable def Gm.rdL (G : Gm.Gr) : List Int := if Gm.rdE G = 0 then Gm.kl G G.rs.length else []
theorem Gm.rdE_no {G : Gm.Gr} (h : Gm.right G = false) : Gm.rdE G = 1 := by unfold Gm.rdE; rw [h]; rfl
theorem Gm.rdE_empty {G : Gm.Gr} (h : Gm.right G = true) (k : Gm.tr (Gm.Gn true G.rs G.st) = false) : Gm.rdE G = 9 := by unfold Gm.rdE; rw [h, k]; rfl
theorem Gm.rdE_ok {G : Gm.Gr} (h : Gm.right G = true) (k : Gm.tr (Gm.Gn true G.rs G.st) = true) : Gm.rdE G = 0 := by unfold Gm.rdE; rw [h, k]; rfl
def RedAns (G : Gm.Gr) (w : World) (e : Ending) (w' : World) : Prop := ∃ g A c, e = .returned (.tuple #[g, .slice A (Gm.rdL G).length c, .int .i64 (Gm.rdE G)]) ∧ RdGr w' w'.heap.size g (Gm.rdG G) ∧ RdI w' w'.heap.size A (Gm.rdL G) ∧ Below w.heap.size w w'

theorem RedAns.no {G : Gm.Gr} {w w' : World} {er : Int} (h : Gm.rdE G = er) (h0 : er ≠ 0) (hb : Below w.heap.size w w') : RedAns G w (.returned (.tuple #[.agg #[.slice none 0 0, .slice none 0 0, .slice none 0 0, .int .i64 0], .slice none 0 0, .int .i64 er])) w' := by
  have hL : Gm.rdL G = [] := by unfold Gm.rdL; rw [if_neg (by rw [h]; exact h0)]
  have hG : Gm.rdG G = Gm.gr0 := by unfold Gm.rdG; rw [if_neg (by rw [h]; exact h0)]
  refine ⟨_, none, 0, by rw [hL, h]; rfl, ?_, ?_, hb⟩
  · rw [hG]; exact gr0_rd _ _
  · rw [hL]; exact RdI.nil _ _ _
theorem RedAns.ok {G : Gm.Gr} {w w' : World} {g : Value} {A : Option Addr} {c : Nat} {ks : List Int} (h : Gm.rdE G = 0) (hk : ks = Gm.kl G G.rs.length) (hg : RdGr w' w'.heap.size g (Gm.reduce G)) (hr : RdI w' w'.heap.size A ks) (hb : Below w.heap.size w w') : RedAns G w (.returned (.tuple #[g, .slice A ks.length c, .int .i64 0])) w' := by
  have hL : Gm.rdL G = ks := by unfold Gm.rdL; rw [if_pos h, hk]
  have hG : Gm.rdG G = Gm.reduce G := by unfold Gm.rdG; rw [if_pos h]
  exact ⟨g, A, c, by rw [hL, h], by rw [hG]; exact hg, by rw [hL]; exact hr, hb⟩
theorem Gm.rdG_fit {G : Gm.Gr} (hf : Gm.Fit G) : Gm.Fit (Gm.rdG G) := by
  unfold Gm.rdG
  split
  case isFalse => exact ⟨by simp [Gm.gr0], by simp [Gm.gr0], by simp [Gm.gr0], by unfold Gm.In; simp [Gm.gr0]⟩
  case isTrue h =>
    have hr : Gm.right G = true := by
      cases q : Gm.right G
      · rw [Gm.rdE_no q] at h; cases h
      · rfl
    have hp : Gm.Gn true G.rs G.st := by
      cases q : Gm.tr (Gm.Gn true G.rs G.st)
      · rw [Gm.rdE_empty hr q] at h; cases h
      · exact Gm.tr_iff.1 q
    have hok := Gm.right_ok.1 hr
    have hle := Gm.olds_le hok
    have h40 := (Gm.nons_iff G).1 hok.n
    have hps : ∀ {l : Int}, l ∈ Gm.olds G → Gm.In (Gm.pos (Gm.olds G) l) := fun hl => by have := Gm.pos_lt hl; unfold Gm.In; omega
    refine ⟨hf.t, fun s hs => ?_, fun y hy => ?_, hps (Gm.st_in hp)⟩
    · obtain ⟨l, hl, rfl⟩ := List.mem_map.1 hs
      have := Gm.olds_lt hok hl
      rw [List.getD_eq_getElem?_getD, List.getElem?_eq_getElem (by omega), Option.getD_some]
      exact hf.n _ (List.getElem_mem _)
    · obtain ⟨x, hx, rfl⟩ := List.mem_map.1 hy
      have hfx := hf.r x (Gm.mem_krs.1 hx).1
      refine ⟨hps (Gm.use_left hx), hfx.2.1, fun z hz => ?_⟩
      obtain ⟨u, hu, rfl⟩ := List.mem_map.1 hz
      unfold Gm.re1
      by_cases h0 : u < 0
      · rw [if_pos h0]
        have := Gm.pos_lt (Gm.use_sym hx hu h0)
        unfold Gm.In; omega
      · rw [if_neg h0]; exact hfx.2.2 u hu
end Go.Proofs.YtajcegofflmoeaaGreatDoor

namespace Go.Proofs.YtajcegofflmoeaaGreatDoor
set_option maxRecDepth 100000
open Go.RowKit

noncomputable def Gm.oR (G : Gm.Gr) (i : Nat) : List Int := Gm.ord [] (((G.rs.take i).filter (Gm.use G)).map Gm.Rl.l)
theorem Gm.oR_next {G : Gm.Gr} {i : Nat} (h : i < G.rs.length) : Gm.oR G (i + 1) = if Gm.use G G.rs[i] = true then (if (G.rs[i]).l ∈ Gm.oR G i then Gm.oR G i else Gm.oR G i ++ [(G.rs[i]).l]) else Gm.oR G i := by
  unfold Gm.oR
  rw [List.take_succ_eq_append_getElem h, List.filter_append, List.map_append]
  cases hu : Gm.use G G.rs[i]
  · simp [hu]
  · rw [show [G.rs[i]].filter (Gm.use G) = [G.rs[i]] by simp [hu], List.map_singleton, Gm.ord_snoc, if_pos rfl]
theorem Gm.oR_all (G : Gm.Gr) : Gm.oR G G.rs.length = Gm.olds G := by unfold Gm.oR Gm.olds Gm.krs; rw [List.take_length]
theorem Gm.oR_mem {G : Gm.Gr} (h : Gm.Ok G) {i : Nat} {j : Int} (hj : j ∈ Gm.oR G i) : 0 ≤ j ∧ j < G.ns.length := by
  unfold Gm.oR at hj
  rw [Gm.ord_mem] at hj
  rcases hj with hj | hj
  · simp at hj
  · obtain ⟨x, hx, rfl⟩ := List.mem_map.1 hj
    exact h.lin x (List.mem_of_mem_take (List.mem_filter.1 hx).1)
theorem Gm.oR_len {G : Gm.Gr} (h : Gm.Ok G) (i : Nat) : (Gm.oR G i).length ≤ G.ns.length := by
  have h1 := Gm.pigeons G.ns.length ((Gm.oR G i).map (· + 1)) ?_ ?_
  · simpa using h1.1
  · refine List.nodup_iff_pairwise_ne.2 ?_
    rw [List.pairwise_map]
    have : (Gm.oR G i).Nodup := Gm.ord_nodup _ _ (by simp)
    exact (List.nodup_iff_pairwise_ne.1 this).imp fun h e => h (by omega)
  · intro x hx
    obtain ⟨y, hy, rfl⟩ := List.mem_map.1 hx
    have := Gm.oR_mem h hy
    omega
theorem Gm.pos_neg {o : List Int} {l : Int} : Gm.pos o l < 0 ↔ l ∉ o := by
  constructor
  · intro h hm
    have := Gm.pos_lt hm
    omega
  · intro h; rw [Gm.pos_no h]; omega
theorem Gm.toL_in {G : Gm.Gr} (h : Gm.Ok G) (o : List Int) (ho : o.length ≤ G.ns.length) (n i : Nat) (hi : i < n) : -1 ≤ (Gm.toL n o).getD i 0 ∧ (Gm.toL n o).getD i 0 ≤ 1000 := by
  rw [Gm.toL_at hi]
  have h3 := (Gm.nons_iff G).1 h.n
  by_cases hm : (i : Int) ∈ o
  · have h1 := Gm.pos_lt hm
    omega
  · rw [Gm.pos_no hm]; omega
theorem Gm.fill_to {n k : Nat} (h : k < n) : (List.replicate k (-1 : Int) ++ List.replicate (n - k) 0).set k (-1) = List.replicate (k + 1) (-1) ++ List.replicate (n - (k + 1)) 0 := by
  rw [List.set_append_right _ _ (by simp)]
  rw [List.length_replicate, Nat.sub_self, show n - k = (n - (k + 1)) + 1 by omega, List.replicate_succ, List.set_cons_zero, List.replicate_succ']
  simp

section
variable {w1 wr w' : World} {H gA base : Nat} {cs : Array Value} {vT vN vR vK : Value} {ts : List Gm.Tm} {ns : List (List Int)} {rs : List Gm.Rl} {an ks : List Int}
theorem RdS.other (h : RdS w1 wr H gA cs vT vN (.slice none 0 0) ts ns [] an) (ho : OwnI wr base vK ks) (hb : gA < base) (hg : wr.grownBy w' vK.ownBlock) : RdS w1 w' H gA cs vT vN (.slice none 0 0) ts ns [] an := by
  have hA := h.hA
  refine ⟨cells_row h.h ho (by decide) hg, World.ownsRow.kept h.t hg (other_row h.t ho (by decide)), World.ownsRow.kept h.nn hg (other_row h.nn ho (by decide)), OwnRl.nil _ _ _, h.a.grown hg (fun e => ?_), h.w.grown hg h.w.size (fun k e => ?_), h.hH, h.hA⟩
  · have := (World.ownsRow.lt ho gA e.symm).1
    omega
  · have := (World.ownsRow.lt ho k e).1
    omega
end
end Go.Proofs.YtajcegofflmoeaaGreatDoor

namespace Go.Proofs.YtajcegofflmoeaaGreatDoor
set_option maxRecDepth 100000
open Go.RowKit

set_option maxHeartbeats 8000000 in
theorem rReduce_any (v : Value) (G : Gm.Gr) (B : Nat) (w : World) (hg : RdGr w B v G) (hf : Gm.Fit G) (hB : B ≤ w.heap.size) :
    Calls Tryz.prog 24 #[v] w (RedAns G w) := by
  have H1 := hide (fun (x : World) (h : Below w.heap.size w x) => rright_any v G B x (hg.below h hB) hf (Nat.le_trans hB h.size))
  have H2 := hide (fun (x : World) (h : Below w.heap.size w x) => rproductive_any v G B x (hg.below h hB) hf (Nat.le_trans hB h.size))
  have H3 := hide (fun (x : World) (h : Below w.heap.size w x) => rreachable_any v G B x (hg.below h hB) hf (Nat.le_trans hB h.size))
  have hbg := fun w => build_gr11 w
  obtain ⟨AT, cT, AN, cN, AR, cR, rfl, _, ⟨hlN, hmN⟩, _, hT, hN, hR⟩ := hg
  have HRl := hide (fun (y : World) (h : Below w.heap.size w y) => hR.keep fun g o hg => h.cell (p := ⟨g, o, none⟩) (Nat.lt_of_lt_of_le hg hB))
  have HNm := hide (fun (y : World) (h : Below w.heap.size w y) => hN.keep fun g o hg => h.cell (p := ⟨g, o, none⟩) (Nat.lt_of_lt_of_le hg hB))
  have HTt := hide (fun (y : World) (h : Below w.heap.size w y) => hT.keep fun g o hg => h.cell (p := ⟨g, o, none⟩) (Nat.lt_of_lt_of_le hg hB))
  have HB := hide hB
  have HFT := hide hf
  obtain ⟨w1, hw1⟩ : ∃ y, y = (w.alloc (.cells #[.slice AT G.ts.length cT, .slice AN G.ns.length cN, .slice AR G.rs.length cR, .int .i64 G.st] 26)).alloc (.cells #[.slice none 0 0, .slice none 0 0, .slice none 0 0, .int .i64 0] 26) := ⟨_, rfl⟩
  have hs1 : w1.heap.size = w.heap.size + 2 := by rw [hw1]; simp
  have HB1 : Hid (Below w.heap.size w w1) := hide (by rw [hw1]; exact ((Below.refl _ w).alloc (Nat.le_refl _) _).alloc (by simp) _)
  have HX0 : Hid (w1.heap[w.heap.size]? = some (.cells #[.slice AT G.ts.length cT, .slice AN G.ns.length cN, .slice AR G.rs.length cR, .int .i64 G.st] 26 (0, 0))) := hide (by rw [hw1, Below.heap_alloc _ _ _ (by simp)]; exact heap_alloc_new w _)
  have HX1 : Hid (w1.heap[w.heap.size + 1]? = some (.cells #[.slice none 0 0, .slice none 0 0, .slice none 0 0, .int .i64 0] 26 (0, 0))) := hide (by rw [hw1]; have := heap_alloc_new (w.alloc (.cells #[.slice AT G.ts.length cT, .slice AN G.ns.length cN, .slice AR G.rs.length cR, .int .i64 G.st] 26)) (.cells #[.slice none 0 0, .slice none 0 0, .slice none 0 0, .int .i64 0] 26); simpa using this)
  have HS1 := hide hs1
  have HQ := hide (fun (y : World) (h : Below w1.heap.size w1 y) => (h.block w.heap.size (by omega)).trans HX0.out)
  have HZ := hide (fun (y : World) (h : Below w1.heap.size w1 y) => (h.block (w.heap.size + 1) (by omega)).trans HX1.out)
  have HBX := hide (fun (y : World) (h : Below w1.heap.size w1 y) => HB1.out.trans (h.mono (by omega)))
  have c0 : w1.cell? ⟨w.heap.size, 0, none⟩ = some (.slice AT G.ts.length cT) := by rw [cell_of_row w1 _ 0 _ _ _ HX0.out]; rfl
  have c1 : w1.cell? ⟨w.heap.size, 1, none⟩ = some (.slice AN G.ns.length cN) := by rw [cell_of_row w1 _ 1 _ _ _ HX0.out]; rfl
  have c2 : w1.cell? ⟨w.heap.size, 2, none⟩ = some (.slice AR G.rs.length cR) := by rw [cell_of_row w1 _ 2 _ _ _ HX0.out]; rfl
  have c3 : w1.cell? ⟨w.heap.size, 3, none⟩ = some (.int .i64 G.st) := by rw [cell_of_row w1 _ 3 _ _ _ HX0.out]; rfl
  have hd0 : w.heap.size < w1.heap.size := by omega
  clear hf hs1 hT hN hR hB
  cases q : Gm.right G
  · rw [q] at H1
    have HE := hide (Gm.rdE_no q)
    clear q H2 H3
    go_enter Tryz.func24, Tryz.ntmps24
    go_upto_region 1 with fail
    rw [← hw1]
    clear hw1
    go_wp2_with fail
    refine (H1.out _ HB1.out).mono ?_; rintro _ w2 ⟨rfl, hb2⟩
    have g0 : w2.cell? ⟨w.heap.size + 1, 0, none⟩ = some (.slice none 0 0) := by rw [cell_of_row w2 _ 0 _ _ _ (HZ.out w2 hb2)]; rfl
    have g1 : w2.cell? ⟨w.heap.size + 1, 1, none⟩ = some (.slice none 0 0) := by rw [cell_of_row w2 _ 1 _ _ _ (HZ.out w2 hb2)]; rfl
    have g2 : w2.cell? ⟨w.heap.size + 1, 2, none⟩ = some (.slice none 0 0) := by rw [cell_of_row w2 _ 2 _ _ _ (HZ.out w2 hb2)]; rfl
    have g3 : w2.cell? ⟨w.heap.size + 1, 3, none⟩ = some (.int .i64 0) := by rw [cell_of_row w2 _ 3 _ _ _ (HZ.out w2 hb2)]; rfl
    have e0 := frozen_of_row w2 _ 0 _ _ (HZ.out w2 hb2)
    have e1 := frozen_of_row w2 _ 1 _ _ (HZ.out w2 hb2)
    have e2 := frozen_of_row w2 _ 2 _ _ (HZ.out w2 hb2)
    have e3 := frozen_of_row w2 _ 3 _ _ (HZ.out w2 hb2)
    have lz := (Array.getElem?_eq_some_iff.1 (HZ.out w2 hb2)).1
    have HBF := hide (fun u1 u2 u3 u4 => ((((HBX.out w2 hb2).setCell (p := ⟨w.heap.size + 1, 0, none⟩) (by simp only; omega) u1).setCell (p := ⟨w.heap.size + 1, 1, none⟩) (by simp only; omega) u2).setCell (p := ⟨w.heap.size + 1, 2, none⟩) (by simp only; omega) u3).setCell (p := ⟨w.heap.size + 1, 3, none⟩) (by simp only; omega) u4)
    clear c0 c1 c2 c3 hb2 H1
    go_wp2
    refine bodyPost_ret (v := .tuple #[.agg #[.slice none 0 0, .slice none 0 0, .slice none 0 0, .int .i64 0], .slice none 0 0, .int .i64 1]) (by simp [results, Tryz.results24, go_sem, g0, g1, g2, g3]) rfl ?_
    exact RedAns.no HE.out (by decide) (HBF.out _ _ _ _)
  · have HQ1 := hide q
    have HOK := hide (Gm.right_ok.1 q)
    have H2 := hide (fun x h => (show Calls _ _ _ _ (RowT _ _) from (H2.out x h).mono fun e w' k => k.1 q))
    have H3 := hide (fun x h => (show Calls _ _ _ _ (RowT _ _) from (H3.out x h).mono fun e w' k => k.1 q))
    rw [q] at H1
    clear q
    have HUSE := hide (fun x hx => Gm.use_rcB HOK.out (x := x) hx)
    have HN40 : Hid (G.ns.length ≤ 40) := hide (by have := (Gm.nons_iff G).1 HOK.out.n; omega)
    have HT24 : Hid (G.ts.length ≤ 24) := hide (by have := HOK.out.t; unfold Gm.terms at this; rw [Bool.and_eq_true] at this; exact of_decide_eq_true this.1)
    have HR40 : Hid (G.rs.length ≤ 40) := hide HOK.out.r40
    obtain ⟨T, hT⟩ : ∃ x, x = Gm.gn true G.rs G.ns.length := ⟨_, rfl⟩
    have HTl : Hid (T.length = G.ns.length) := hide (by rw [hT, Gm.gn_len])
    rw [← hT] at H2 HUSE
    obtain ⟨R, hRr⟩ : ∃ x, x = Gm.rc G := ⟨_, rfl⟩
    have HRL : Hid (R.length = G.ns.length) := hide (by rw [hRr, Gm.rc_len])
    rw [← hRr] at H3 HUSE
    have hst := HOK.out.s0
    have hst1 := HOK.out.s1
    obtain ⟨m, hm⟩ : ∃ m : Nat, G.st = (m : Int) := ⟨G.st.toNat, by omega⟩
    obtain ⟨tb, htb⟩ : ∃ b, b = T.getD m false := ⟨_, rfl⟩
    have HTM : Hid (tb = Gm.tr (Gm.Gn true G.rs G.st)) := hide (by rw [htb, hT, Gm.gn_at _ _ _ _ (by omega), hm])
    have HTB := hide htb
    have HM := hide hm
    have hmn : m < G.ns.length := by omega
    have hmi : (m : Int) < (G.ns.length : Int) := by omega
    have hnn := HN40.out
    have hlenn : (G.ns.length : Int) ≤ 9223372036854775807 := by omega
    have hlenr : (G.rs.length : Int) ≤ 9223372036854775807 := by have := HR40.out; omega
    clear hT hst hst1 hm htb hRr
    go_enter Tryz.func24, Tryz.ntmps24
    go_upto_region 1 with fail
    rw [← hw1]
    clear hw1
    go_upto_region 3 with fail
    refine (H1.out _ HB1.out).mono ?_; rintro _ w2 ⟨rfl, hb2⟩
    have HB2 := hide hb2
    clear hb2 c0 c1 c2 c3 H1
    go_upto_region 3 with fail
    go_cut [5, 6] (fun v5 v6 wx => ∃ gp gr, v5 = .slice (some ⟨gp, 0, none⟩) G.ns.length G.ns.length ∧ v6 = .slice (some ⟨gr, 0, none⟩) G.ns.length G.ns.length ∧ UBO wx gp T ∧ UBO wx gr R ∧ Below w1.heap.size w1 wx)
    case first =>
      have q0 := fun y : Calm.On w2.heap.size w2 => (show y.1.cell? ⟨w.heap.size, 0, none⟩ = some (.slice AT G.ts.length cT) by rw [cell_of_row y.1 _ 0 _ _ _ (HQ.out y.1 (HB2.out.trans (y.2.mono HB2.out.size)))]; rfl)
      have q1 := fun y : Calm.On w2.heap.size w2 => (show y.1.cell? ⟨w.heap.size, 1, none⟩ = some (.slice AN G.ns.length cN) by rw [cell_of_row y.1 _ 1 _ _ _ (HQ.out y.1 (HB2.out.trans (y.2.mono HB2.out.size)))]; rfl)
      have q2 := fun y : Calm.On w2.heap.size w2 => (show y.1.cell? ⟨w.heap.size, 2, none⟩ = some (.slice AR G.rs.length cR) by rw [cell_of_row y.1 _ 2 _ _ _ (HQ.out y.1 (HB2.out.trans (y.2.mono HB2.out.size)))]; rfl)
      have q3 := fun y : Calm.On w2.heap.size w2 => (show y.1.cell? ⟨w.heap.size, 3, none⟩ = some (.int .i64 G.st) by rw [cell_of_row y.1 _ 3 _ _ _ (HQ.out y.1 (HB2.out.trans (y.2.mono HB2.out.size)))]; rfl)
      have HD2 : Hid (Below w2.heap.size w2 w2.drew) := hide (below_drewN (Below.refl _ _) 1)
      refine CalmN.region_tree (fun x => ∃ y : Calm.On w2.heap.size w2, x = y.1) (.one [0, 2] 1 (.one [] 3 (.fin [4, 5]))) (by kernel_rfl) (by kernel_rfl) (fun _ _ d _ _ h => by cases d <;> exact h) ⟨⟨w2.drew, HD2.out⟩, rfl⟩ ?_
      simp only [CalmN.wpT, CalmN.wpSt, CalmN.pickOps, List.getElem?_toArray, List.getElem?_cons_zero, List.getElem?_cons_succ]
      repeat (go_big_quiet_step (fail))
      refine wpQuiet_nil ?_
      clear q0 q1 q2 q3
      obtain ⟨wd, hwd⟩ : ∃ y, y = w2.drew := ⟨_, rfl⟩
      rw [← hwd] at HD2 ⊢
      clear hwd
      intro KK hKK
      rw [if_pos (by rfl)]
      go_wp2_with fail
      refine (H2.out wd (HBX.out _ (HB2.out.trans (HD2.out.mono HB2.out.size)))).mono ?_; rintro _ w3 ⟨ga, rfl, hga, hua, hb3⟩
      rw [HTl.out]
      have hb3' : Below w2.heap.size w2 w3 := HD2.out.trans (hb3.mono HD2.out.size)
      have HW3 := hide (HB2.out.trans (hb3'.mono HB2.out.size))
      go_wp2_with fail
      refine hKK _ _ ⟨⟨w3, hb3'⟩, rfl⟩ (fun x => ∃ y : Calm.On w2.heap.size w2, x = y.1) (fun _ h => h) ⟨⟨w3, hb3'⟩, rfl⟩ ?_
      refine wpQuiet_nil ?_
      intro KK hKK
      rw [if_pos (by rfl)]
      go_wp2_with fail
      refine (H3.out w3 (HBX.out _ HW3.out)).mono ?_; rintro _ w4 ⟨gb, rfl, hgb, hub, hb4⟩
      rw [HRL.out]
      have hb4' : Below w2.heap.size w2 w4 := hb3'.trans (hb4.mono hb3'.size)
      go_wp2_with fail
      refine hKK _ _ ⟨⟨w4, hb4'⟩, rfl⟩ (fun x => ∃ y : Calm.On w2.heap.size w2, x = y.1) (fun _ h => h) ⟨⟨w4, hb4'⟩, rfl⟩ ?_
      repeat (go_big_quiet_step (fail))
      refine wpQuiet_nil ?_
      go_wp2_with fail
      go_meet
      case rel => exact ⟨ga, gb, rfl, rfl, hua.below hb4 hua.lt, hub, HW3.out.trans (hb4.mono HW3.out.size)⟩
    case rest =>
      obtain ⟨gp, gr, rfl, rfl, hup, hur, hbc⟩ := hcut
      have HUP := hide hup
      have HUR := hide hur
      have HBC := hide hbc
      have q3 : wc.cell? ⟨w.heap.size, 3, none⟩ = some (.int .i64 m) := by rw [cell_of_row wc _ 3 _ _ _ (HQ.out wc hbc), ← HM.out]; rfl
      have km := hup.cell m (by rw [HTl.out]; exact hmn)
      rw [← HTB.out] at km
      have lq := block_lt_of_cell q3
      have lp := hup.lt
      clear hup hur hbc H2 H3 HB2
      cases hp : Gm.tr (Gm.Gn true G.rs G.st)
      · have HE := hide (Gm.rdE_empty HQ1.out hp)
        obtain rfl : tb = false := HTM.out.trans hp
        have g0 : wc.cell? ⟨w.heap.size + 1, 0, none⟩ = some (.slice none 0 0) := by rw [cell_of_row wc _ 0 _ _ _ (HZ.out wc HBC.out)]; rfl
        have g1 : wc.cell? ⟨w.heap.size + 1, 1, none⟩ = some (.slice none 0 0) := by rw [cell_of_row wc _ 1 _ _ _ (HZ.out wc HBC.out)]; rfl
        have g2 : wc.cell? ⟨w.heap.size + 1, 2, none⟩ = some (.slice none 0 0) := by rw [cell_of_row wc _ 2 _ _ _ (HZ.out wc HBC.out)]; rfl
        have g3 : wc.cell? ⟨w.heap.size + 1, 3, none⟩ = some (.int .i64 0) := by rw [cell_of_row wc _ 3 _ _ _ (HZ.out wc HBC.out)]; rfl
        have e0 := frozen_of_row wc _ 0 _ _ (HZ.out wc HBC.out)
        have e1 := frozen_of_row wc _ 1 _ _ (HZ.out wc HBC.out)
        have e2 := frozen_of_row wc _ 2 _ _ (HZ.out wc HBC.out)
        have e3 := frozen_of_row wc _ 3 _ _ (HZ.out wc HBC.out)
        have lz := (Array.getElem?_eq_some_iff.1 (HZ.out wc HBC.out)).1
        have HBF := hide (fun u1 u2 u3 u4 => ((((HBX.out wc HBC.out).setCell (p := ⟨w.heap.size + 1, 0, none⟩) (by simp only; omega) u1).setCell (p := ⟨w.heap.size + 1, 1, none⟩) (by simp only; omega) u2).setCell (p := ⟨w.heap.size + 1, 2, none⟩) (by simp only; omega) u3).setCell (p := ⟨w.heap.size + 1, 3, none⟩) (by simp only; omega) u4)
        clear hp HTM HTB
        go_wp2
        refine bodyPost_ret (v := .tuple #[.agg #[.slice none 0 0, .slice none 0 0, .slice none 0 0, .int .i64 0], .slice none 0 0, .int .i64 9]) (by simp [results, Tryz.results24, go_sem, g0, g1, g2, g3]) rfl ?_
        exact RedAns.no HE.out (by decide) (HBF.out _ _ _ _)
      · have HE := hide (Gm.rdE_ok HQ1.out hp)
        have HPS := hide (Gm.tr_iff.1 hp)
        obtain rfl : tb = true := HTM.out.trans hp
        clear hp HTM HTB
        have HQC := hide (fun (y : World) (h : Below wc.heap.size wc y) => HQ.out y (HBC.out.trans (h.mono HBC.out.size)))
        have HBW := hide (fun (y : World) (h : Below wc.heap.size wc y) => HBX.out y (HBC.out.trans (h.mono HBC.out.size)))
        have c0 : wc.cell? ⟨w.heap.size, 0, none⟩ = some (.slice AT G.ts.length cT) := by rw [cell_of_row wc _ 0 _ _ _ (HQ.out wc HBC.out)]; rfl
        go_upto_region 7 with (at_builtin; refine apTs_arm rfl (.tmp 33) (.tmp 35) _ rfl Tryz.underlying22 wc.heap.size _ [] rfl (ownTm_empty wc) B G.ts.length cT AT G.ts rfl rfl (HTt.out _ ((HBX.out _ HBC.out).alloc (HBX.out _ HBC.out).size _)) (by have := HT24.out; simp; omega) (by simp) ?_; intro v2 w5 ho5 hg5; have HO5 := hide ho5; have HB5 := hide (((Below.refl wc.heap.size wc).alloc (Nat.le_refl _) (.cells #[] 79)).grown hg5 (by simp) (fun k e => (own_holds (ownTm_empty wc) e).1)); obtain ⟨A2, c2, rfl, _, _⟩ := own_form ho5; clear ho5 hg5)
        obtain ⟨w6, hw6⟩ : ∃ y, y = w5.alloc (.cells #[.slice A2 G.ts.length c2, .slice none 0 0, .slice none 0 0, .int .i64 0] 26) := ⟨_, rfl⟩
        have HB6 : Hid (Below wc.heap.size wc w6) := hide (by rw [hw6]; exact HB5.out.alloc HB5.out.size _)
        have HO6 : Hid (OwnTm w6 wc.heap.size (.slice A2 G.ts.length c2) G.ts) := hide (by rw [hw6]; exact World.ownsRow.alloc HO5.out _)
        have HH6 : Hid (w6.heap[w5.heap.size]? = some (.cells #[.slice A2 G.ts.length c2, .slice none 0 0, .slice none 0 0, .int .i64 0] 26 (0, 0))) := hide (by rw [hw6]; exact heap_alloc_new w5 _)
        rw [← hw6]
        clear hw6 HO5 c0 q3 km lq
        have c1 : w6.cell? ⟨w.heap.size, 1, none⟩ = some (.slice AN G.ns.length cN) := by rw [cell_of_row w6 _ 1 _ _ _ (HQC.out w6 HB6.out)]; rfl
        have l6 := block_lt_of_cell c1
        go_upto_region 8 with (at_make; refine mkI_arm rfl (.tmp 40) (.tmp 40) _ rfl Tryz.underlying29 G.ns.length _ _ rfl rfl rfl rfl (by omega) ?_; intro w7 hu7 hb7 hlt7)
        have HS7 : Hid (RdS wc w7 w5.heap.size w6.heap.size #[.slice A2 G.ts.length c2, .slice none 0 0, .slice none 0 0, .int .i64 0] (.slice A2 G.ts.length c2) (.slice none 0 0) (.slice none 0 0) G.ts [] [] (List.replicate G.ns.length 0)) := hide
          ⟨heap_keep hb7 HH6.out, World.ownsRow.kept HO6.out (only_below hb7 .none) (none_away _), OwnN.nil _ _, OwnRl.nil _ _ _, hu7, HB6.out.trans (hb7.mono HB6.out.size), HB5.out.size, HB6.out.size⟩
        obtain ⟨vT, hvT⟩ : ∃ v, v = Value.slice A2 G.ts.length c2 := ⟨_, rfl⟩
        obtain ⟨H, hH⟩ : ∃ x, x = w5.heap.size := ⟨_, rfl⟩
        obtain ⟨gA, hgA⟩ : ∃ x, x = w6.heap.size := ⟨_, rfl⟩
        rw [← hvT, ← hH, ← hgA] at HS7
        rw [← hvT, ← hH, ← hgA]
        clear hvT hH hgA hu7 hb7 c1 l6 hlt7 HO6 HH6 HB6 HB5
        go_wp2
        go_loopw [9] (fun vk wr => ∃ (k : Nat), k ≤ G.ns.length ∧ vk = .int .i64 k ∧ Hid (RdS wc wr H gA #[vT, .slice none 0 0, .slice none 0 0, .int .i64 0] vT (.slice none 0 0) (.slice none 0 0) G.ts [] [] (List.replicate k (-1) ++ List.replicate (G.ns.length - k) 0))) (fun vk _ => G.ns.length - (intOf vk).toNat)
        case atStart => exact ⟨0, Nat.zero_le _, rfl, by simpa using HS7⟩
        case round =>
          clear HS7
          obtain ⟨k, hk, rfl, HS⟩ := hrel
          by_cases hlt : k < G.ns.length
          · have ka := HS.out.a.cell k (by simp; omega)
            have fa := HS.out.a.frozen k
            have la := HS.out.a.lt
            have HS2 := hide (HS.out.setA k (-1))
            rw [Gm.fill_to hlt] at HS2
            go_wp2
            go_roundw
            case rel => exact ⟨k + 1, hlt, by go_num, HS2⟩
            case measure => simp [intOf]; omega
          · obtain rfl : k = G.ns.length := by omega
            rw [Nat.sub_self, List.replicate_zero, List.append_nil, ← Gm.toL_nil] at HS
            go_wp2
            go_loopw [10, 11] (fun v10 v11 wr => ∃ (i : Nat) (vN : Value), i ≤ G.rs.length ∧ v11 = .int .i64 i ∧ Hid (RdS wc wr H gA #[vT, vN, .slice none 0 0, .int .i64 0] vT vN (.slice none 0 0) G.ts (Gm.nmL G (Gm.oR G i)) [] (Gm.toL G.ns.length (Gm.oR G i))) ∧ Hid (OwnI wr (gA + 1) v10 (Gm.kl G i))) (fun _ v11 _ => G.rs.length - (intOf v11).toNat)
            case atStart => exact ⟨0, _, Nat.zero_le _, rfl, HS, hide (OwnI.nil _ _)⟩
            case round =>
              clear HS hlt
              obtain ⟨i, vN, hi, rfl, HS, HK⟩ := hrel
              by_cases hlt : i < G.rs.length
              · obtain ⟨g, o, rfl, hgB, hc⟩ := HRl.out w1 HB1.out (by omega)
                obtain ⟨k0, ⟨A', c', k1, _, _, hri⟩, k2⟩ := hc i hlt
                have hgw : g < w1.heap.size := by have := HB.out; have := HS1.out; omega
                have HW1 := hide (fun (y : World) (h : Below wc.heap.size wc y) => HBC.out.trans (h.mono HBC.out.size))
                have k0 := ((HW1.out wr HS.out.w).cell (p := ⟨g, o + i * 3, none⟩) hgw).trans k0
                have k1 := ((HW1.out wr HS.out.w).cell (p := ⟨g, o + i * 3 + 1, none⟩) hgw).trans k1
                have k2 := ((HW1.out wr HS.out.w).cell (p := ⟨g, o + i * 3 + 2, none⟩) hgw).trans k2
                have hxm : G.rs[i] ∈ G.rs := List.getElem_mem hlt
                have e := HFT.out.r _ hxm
                have hxl := HOK.out.lin _ hxm
                have hr6 := (Gm.rule_in (HOK.out.rr _ hxm)).1
                have HNX := hide (Gm.kl_next hlt)
                have HON := hide (Gm.oR_next hlt)
                have HUS := hide (HUSE.out _ hxm)
                have HOL := hide (Gm.oR_len HOK.out i)
                have HKL := hide (Nat.le_trans (Gm.kl_len G i) hi)
                have HAL := hide (fun (y : World) (h : Below wc.heap.size wc y) => rall_any G.rs[i].r T true A' (some ⟨gp, 0, none⟩) c' G.ns.length B wc.heap.size y (hri.keep fun g o hg => (HW1.out y h).cell (p := ⟨g, o, none⟩) (by have := HB.out; have := HS1.out; simp only; omega)) e.2.2 (fun z hz h0 => by rw [HTl.out]; exact HOK.out.sin _ hxm z hz h0) ((HUP.out.rd0 HUP.out.lt).below h (Nat.le_refl _)) (by omega))
                rw [HTl.out] at HAL
                generalize G.rs[i] = x at *
                obtain ⟨l, r, pz⟩ := x
                simp only at k0 k1 k2 HAL hxl hr6 HON
                obtain ⟨ml, rfl⟩ : ∃ m : Nat, l = (m : Int) := ⟨l.toNat, by omega⟩
                have hmli := hxl.2
                have hmln : ml < G.ns.length := by omega
                have HE0 : Hid (Gm.rcB T R ⟨ml, r, pz⟩ = (R.getD ml false && Gm.allB true T r)) := hide (by simp [Gm.rcB])
                have HUE := hide (HUS.out.symm.trans HE0.out)
                generalize Gm.use G ⟨(ml : Int), r, pz⟩ = ub at *
                have q2 : wr.cell? ⟨w.heap.size, 2, none⟩ = some (.slice (some ⟨g, o, none⟩) G.rs.length cR) := by rw [cell_of_row wr _ 2 _ _ _ (HQC.out wr HS.out.w)]; rfl
                have lq := block_lt_of_cell q2
                have lg := block_lt_of_cell k0
                have kr := (HS.out.w.cell (p := ⟨gr, ml, none⟩) HUR.out.lt).trans (HUR.out.cell ml (by rw [HRL.out]; exact hmln))
                have lr := block_lt_of_cell kr
                have HS1' := hide (HS.out.alloc (.cells #[.int .i64 ml, .slice A' r.length c', .int .i64 pz] 51))
                have HK1 := hide (HK.out.alloc (.cells #[.int .i64 ml, .slice A' r.length c', .int .i64 pz] 51))
                have HD1 := hide (heap_alloc_new wr (.cells #[.int .i64 ml, .slice A' r.length c', .int .i64 pz] 51))
                clear hc hri e hxm hxl HUS HE0
                generalize R.getD ml false = rb at *
                cases rb
                · obtain rfl : ub = false := HUE.out
                  have HX : Hid (Gm.kl G (i + 1) = Gm.kl G i) := hide (HNX.out.trans (if_neg (by simp)))
                  have HX2 : Hid (Gm.oR G (i + 1) = Gm.oR G i) := hide (HON.out.trans (if_neg (by simp)))
                  clear HNX HON HUE
                  go_wp2
                  go_roundw
                  case rel => exact ⟨i + 1, vN, hlt, by go_num, by rw [HX2.out]; exact HS1', by rw [HX.out]; exact HK1⟩
                  case measure => simp [intOf]; omega
                · have HAW := hide (HAL.out _ HS1'.out.w)
                  generalize Gm.allB true T r = ab at *
                  cases ab
                  · obtain rfl : ub = false := HUE.out
                    have HX : Hid (Gm.kl G (i + 1) = Gm.kl G i) := hide (HNX.out.trans (if_neg (by simp)))
                    have HX2 : Hid (Gm.oR G (i + 1) = Gm.oR G i) := hide (HON.out.trans (if_neg (by simp)))
                    clear HNX HON HUE HAL
                    go_wp2_with fail
                    refine HAW.out.mono ?_; rintro _ w8 ⟨rfl, hw8⟩
                    subst hw8
                    go_wp2
                    go_roundw
                    case rel => exact ⟨i + 1, vN, hlt, by go_num, by rw [HX2.out]; exact HS1', by rw [HX.out]; exact HK1⟩
                    case measure => simp [intOf]; omega
                  · obtain rfl : ub = true := HUE.out
                    have HX : Hid (Gm.kl G (i + 1) = Gm.kl G i ++ [(i : Int)]) := hide (HNX.out.trans (if_pos rfl))
                    have HON2 := hide (HON.out.trans (if_pos rfl))
                    have HAl : Hid (gA < wr.heap.size) := hide HS.out.a.lt
                    clear HNX HON HUE HAL
                    go_upto_region 18 with fail
                    refine HAW.out.mono ?_; rintro _ w8 ⟨rfl, hw8⟩
                    subst hw8
                    go_upto_region 18 with fail
                    obtain ⟨w8, hw8⟩ : ∃ y, y = wr.alloc (.cells #[.int .i64 ml, .slice A' r.length c', .int .i64 pz] 51) := ⟨_, rfl⟩
                    have HZ8 : Hid (w8.heap.size = wr.heap.size + 1) := hide (by rw [hw8]; simp)
                    rw [← hw8] at HS1' HK1 HD1 ⊢
                    clear hw8 k0 k1 k2 q2 lq lg kr lr HAW
                    go_upto_region 19 with (at_builtin; refine apI_arm rfl (.tmp 76) (.tmp 78) _ rfl Tryz.underlying29 (gA + 1) _ _ rfl (HK1.out.alloc _) _ 1 i rfl (World.cell?_alloc_new _ _ _ 0) (by have := HKL.out; have := HR40.out; omega) (by have := HAl.out; have := HZ8.out; simp; omega) ?_; intro v' w9 ho9 hg9; have HS9 := hide ((HS1'.out.alloc _).other (HK1.out.alloc _) (by omega) hg9); have HK9 := hide ho9; have HD9 := hide (cells_row (heap_keep ((Below.refl _ _).alloc (Nat.le_refl _) _) HD1.out) (HK1.out.alloc _) (by decide) hg9); clear ho9 hg9)
                    clear HS1' HK1 HD1
                    have d0 : w9.cell? ⟨wr.heap.size, 0, none⟩ = some (.int .i64 ml) := by rw [cell_of_row w9 _ 0 _ _ _ HD9.out]; rfl
                    have ld := (Array.getElem?_eq_some_iff.1 HD9.out).1
                    have kt := HS9.out.a.cell ml (by rw [Gm.toL_len]; exact hmln)
                    rw [Gm.toL_at hmln] at kt
                    have lt9 := HS9.out.a.lt
                    by_cases hin : (ml : Int) ∈ Gm.oR G i
                    · have HX2 := hide (HON2.out.trans (if_pos hin))
                      have hq : decide (Gm.pos (Gm.oR G i) ml < 0) = false := decide_eq_false (fun h => Gm.pos_neg.1 h hin)
                      generalize Gm.pos (Gm.oR G i) ml = pq at *
                      clear hin HON2
                      go_wp2
                      go_roundw
                      case rel => exact ⟨i + 1, vN, hlt, by go_num, by rw [HX2.out]; exact HS9, by rw [HX.out]; exact HK9⟩
                      case measure => simp [intOf]; omega
                    · have HX2 := hide (HON2.out.trans (if_neg hin))
                      have hq : decide (Gm.pos (Gm.oR G i) ml < 0) = true := decide_eq_true (Gm.pos_neg.2 hin)
                      have HIN := hide hin
                      obtain ⟨A9, c9, rfl, _, _⟩ := own_form HS9.out.nn
                      have hnl : (Gm.nmL G (Gm.oR G i)).length = (Gm.oR G i).length := by simp [Gm.nmL]
                      have HNM : Hid (Gm.nmL G (Gm.oR G (i + 1)) = Gm.nmL G (Gm.oR G i) ++ [G.ns.getD ml []]) := hide (by rw [HX2.out]; simp [Gm.nmL])
                      have j1 : w9.cell? ⟨H, 1, none⟩ = some (.slice A9 (Gm.nmL G (Gm.oR G i)).length c9) := by rw [cell_of_row w9 _ 1 _ _ _ HS9.out.h]; rfl
                      have lh := block_lt_of_cell j1
                      have fa := HS9.out.a.frozen ml
                      have HS10 : Hid (RdS wc (w9.setCell ⟨gA, ml, none⟩ (.int .i64 (Gm.nmL G (Gm.oR G i)).length)) H gA #[vT, .slice A9 (Gm.nmL G (Gm.oR G i)).length c9, .slice none 0 0, .int .i64 0] vT (.slice A9 (Gm.nmL G (Gm.oR G i)).length c9) (.slice none 0 0) G.ts (Gm.nmL G (Gm.oR G i)) [] (Gm.toL G.ns.length (Gm.oR G (i + 1)))) := hide (by
                        have q := HS9.out.setA ml ((Gm.nmL G (Gm.oR G i)).length : Int)
                        rw [hnl] at q
                        rw [HX2.out, ← Gm.toL_snoc HIN.out]
                        rw [hnl]
                        exact q)
                      have HK10 := hide (HK9.out.far (only_set (World.grownBy.refl w9 (some gA)) ml (.int .i64 (Gm.nmL G (Gm.oR G i)).length)) (by omega))
                      have HD10 := hide ((Below.heap_setCell w9 ⟨gA, ml, none⟩ (.int .i64 (Gm.nmL G (Gm.oR G i)).length) wr.heap.size (by have := HAl.out; simp only; omega)).trans HD9.out)
                      generalize Gm.pos (Gm.oR G i) ml = pq at *
                      clear hin HON2 hnl
                      go_upto_region 21 with fail
                      obtain ⟨wz, hwz⟩ : ∃ y, y = w9.setCell ⟨gA, ml, none⟩ (.int .i64 (Gm.nmL G (Gm.oR G i)).length) := ⟨_, rfl⟩
                      rw [← hwz] at HS10 HK10 HD10 ⊢
                      clear hwz HS9 HK9 HD9 d0 ld kt lt9 j1 lh fa
                      obtain ⟨gN, oN, rfl, hgN, hcN⟩ := HNm.out w1 HB1.out (by omega)
                      have kN := hcN ml hmln
                      rw [show G.ns[ml] = G.ns.getD ml [] by rw [List.getD_eq_getElem?_getD, List.getElem?_eq_getElem hmln]; rfl] at kN
                      obtain ⟨nm, hnm⟩ : ∃ s, s = G.ns.getD ml [] := ⟨_, rfl⟩
                      rw [← hnm] at kN HNM
                      clear hnm
                      have hgn : gN < w1.heap.size := by have := HB.out; have := HS1.out; omega
                      have HYW := hide (fun (y : World) (h : Below wc.heap.size wz y) => HS10.out.w.trans h)
                      have bN := fun y : On9 wc.heap.size wr.heap.size wz => ((HW1.out y.1 (HYW.out y.1 y.2.1)).cell (p := ⟨gN, oN + ml, none⟩) hgn).trans kN
                      have bq := fun y : On9 wc.heap.size wr.heap.size wz => (show y.1.cell? ⟨w.heap.size, 1, none⟩ = some (.slice (some ⟨gN, oN, none⟩) G.ns.length cN) by rw [cell_of_row y.1 _ 1 _ _ _ (HQC.out y.1 (HYW.out y.1 y.2.1))]; rfl)
                      have bd := fun y : On9 wc.heap.size wr.heap.size wz => (show y.1.cell? ⟨wr.heap.size, 0, none⟩ = some (.int .i64 ml) by rw [cell_of_row y.1 _ 0 _ _ _ (y.2.2.trans HD10.out)]; rfl)
                      have HS8 := hide HS10.out.drew
                      have HK8 : Hid (OwnI wz.drew (gA + 1) v' (Gm.kl G i ++ [(i : Int)])) := hide (HK10.out.drewN 1)
                      have HP8 : Hid (Below wc.heap.size wz wz.drew ∧ wz.drew.heap[wr.heap.size]? = wz.heap[wr.heap.size]?) := hide ⟨below_drewN (Below.refl _ _) 1, rfl⟩
                      refine CalmN.region_tree (fun x => ∃ y : On9 wc.heap.size wr.heap.size wz, x = y.1) (.two [0, 2, 3, 4, 5, 6, 7] 1 (.one [] 8 (.one [] 9 (.one [10] 11 (.fin [])))) 8 (.one [] 1 (.one [] 9 (.one [10] 11 (.fin []))))) (by kernel_rfl) (by kernel_rfl) (fun _ _ d _ _ h => by cases d <;> exact h) ⟨⟨wz.drew, HP8.out⟩, rfl⟩ ?_
                      simp only [CalmN.wpT, CalmN.wpSt, CalmN.pickOps, List.getElem?_toArray, List.getElem?_cons_zero, List.getElem?_cons_succ]
                      repeat (go_big_quiet_step (fail))
                      refine wpQuiet_nil ?_
                      clear bN bq bd kN hcN
                      obtain ⟨w8', hw8⟩ : ∃ y, y = wz.drew := ⟨_, rfl⟩
                      rw [← hw8] at HS8 HK8 HP8 ⊢
                      clear hw8 HS10 HK10
                      have HS9 := hide (HS8.out.alloc (.cells #[.string (K.str nm)] 9))
                      have HK9 := hide (HK8.out.alloc (.cells #[.string (K.str nm)] 9))
                      have HP9 : Hid (Below wc.heap.size wz (w8'.alloc (.cells #[.string (K.str nm)] 9)) ∧ (w8'.alloc (.cells #[.string (K.str nm)] 9)).heap[wr.heap.size]? = wz.heap[wr.heap.size]?) := hide ⟨HP8.out.1.alloc HS8.out.w.size _, (Below.heap_alloc w8' _ _ (Array.getElem?_eq_some_iff.1 (HP8.out.2.trans HD10.out)).1).trans HP8.out.2⟩
                      have HY9 : Hid ((w8'.alloc (.cells #[.string (K.str nm)] 9)).cell? ⟨w8'.heap.size, 0, none⟩ = some (.string (K.str nm))) := hide (World.cell?_alloc_new _ _ _ 0)
                      have n8 := cell_of_row w8' _ 1 _ _ _ HS8.out.h
                      have n9 := cell_of_row _ _ 1 _ _ _ HS9.out.h
                      have lh8 := (Array.getElem?_eq_some_iff.1 HS8.out.h).1
                      have lh9 := (Array.getElem?_eq_some_iff.1 HS9.out.h).1
                      refine ⟨?_, ?_⟩
                      · intro KK hKK
                        rw [if_pos (by rfl)]
                        go_wp2_with fail
                        refine hKK _ _ ⟨⟨_, HP8.out⟩, rfl⟩ (fun x => ∃ y : On9 wc.heap.size wr.heap.size wz, x = y.1) (fun _ h => h) ⟨⟨_, HP8.out⟩, rfl⟩ ?_
                        refine wpQuiet_nil ?_
                        intro KK hKK
                        rw [if_pos (by rfl)]
                        go_wp2_with fail
                        refine hKK _ _ ⟨⟨_, HP9.out⟩, rfl⟩ (fun x => ∃ y : On9 wc.heap.size wr.heap.size wz, x = y.1) (fun _ h => h) ⟨⟨_, HP9.out⟩, rfl⟩ ?_
                        refine wpQuiet_nil ?_
                        intro KK hKK
                        rw [if_pos (by rfl)]
                        refine apN_wp (.tmp 94) (.tmp 101) _ rfl Tryz.underlying23 wc.heap.size _ _ rfl HS9.out.nn w8'.heap.size 1 _ rfl HY9.out (by have := HOL.out; have := HN40.out; unfold Gm.nmL; rw [List.length_map]; omega) HS9.out.w.size ?_
                        intro v2' w10 ho10 hg10
                        have HS10 := hide (HS9.out.putN ho10 hg10)
                        have HK10 : Hid (OwnI w10 (gA + 1) v' (Gm.kl G i ++ [(i : Int)])) := hide (World.ownsRow.kept HK9.out hg10 (other_row HK9.out HS9.out.nn (by decide)))
                        have HP10 : Hid (Below wc.heap.size wz w10 ∧ w10.heap[wr.heap.size]? = wz.heap[wr.heap.size]?) := hide ⟨HP9.out.1.grown hg10 HS9.out.w.size (fun k e => (own_holds HS9.out.nn e).1), (cells_row (HP9.out.2.trans HD10.out) HS9.out.nn (by decide) hg10).trans HD10.out.symm⟩
                        obtain ⟨A10, c10, rfl, _, _⟩ := own_form ho10
                        clear ho10 hg10
                        obtain ⟨n10, hn10⟩ : ∃ n, n = (Gm.nmL G (Gm.oR G i) ++ [nm]).length := ⟨_, rfl⟩
                        rw [← hn10] at HS10 ⊢
                        clear hn10
                        refine hKK _ _ ⟨⟨w10, HP10.out⟩, rfl⟩ (fun x => ∃ y : On9 wc.heap.size wr.heap.size wz, x = y.1) (fun _ h => h) ⟨⟨w10, HP10.out⟩, rfl⟩ ?_
                        go_frame
                        repeat (go_big_quiet_step (fail))
                        refine wpQuiet_nil ?_
                        intro KK hKK
                        rw [if_pos (by rfl)]
                        have j1 := cell_of_row w10 _ 1 _ _ _ HS10.out.h
                        have f1 := frozen_of_row w10 _ 1 _ _ HS10.out.h
                        have lh := (Array.getElem?_eq_some_iff.1 HS10.out.h).1
                        have HS11 := hide (HS10.out.setH 1 (.slice A10 n10 c10))
                        have HK11 : Hid (OwnI (w10.setCell ⟨H, 1, none⟩ (.slice A10 n10 c10)) (gA + 1) v' (Gm.kl G i ++ [(i : Int)])) := hide (World.ownsRow.kept HK10.out (only_set (World.grownBy.refl w10 (some H)) 1 _) (own_away HK10.out HS10.out.h (fun cur e => by injection e with _ e; cases e)))
                        have hHD : wr.heap.size ≠ H := fun e => by have h1 := HP10.out.2.trans HD10.out; rw [e, HS10.out.h] at h1; injection h1 with h1; injection h1 with _ h1; cases h1
                        have HP11 : Hid (Below wc.heap.size wz (w10.setCell ⟨H, 1, none⟩ (.slice A10 n10 c10)) ∧ (w10.setCell ⟨H, 1, none⟩ (.slice A10 n10 c10)).heap[wr.heap.size]? = wz.heap[wr.heap.size]?) := hide ⟨HP10.out.1.setCell (p := ⟨H, 1, none⟩) HS10.out.hH _, (Below.heap_setCell w10 ⟨H, 1, none⟩ _ wr.heap.size hHD).trans HP10.out.2⟩
                        clear hHD
                        go_wp2_with fail
                        refine hKK _ _ ⟨⟨_, HP11.out⟩, rfl⟩ (fun x => ∃ y : On9 wc.heap.size wr.heap.size wz, x = y.1) (fun _ h => h) ⟨⟨_, HP11.out⟩, rfl⟩ ?_
                        clear j1 f1 lh
                        refine wpQuiet_nil ?_
                        go_wp2
                        go_roundw
                        case rel => exact ⟨i + 1, _, hlt, by go_num, by rw [← HNM.out] at HS11; exact HS11, by rw [HX.out]; exact HK11⟩
                        case measure => simp [intOf]; omega
                      · intro KK hKK
                        rw [if_pos (by rfl)]
                        go_wp2_with fail
                        refine hKK _ _ ⟨⟨_, HP9.out⟩, rfl⟩ (fun x => ∃ y : On9 wc.heap.size wr.heap.size wz, x = y.1) (fun _ h => h) ⟨⟨_, HP9.out⟩, rfl⟩ ?_
                        refine wpQuiet_nil ?_
                        intro KK hKK
                        rw [if_pos (by rfl)]
                        go_wp2_with fail
                        refine hKK _ _ ⟨⟨_, HP9.out⟩, rfl⟩ (fun x => ∃ y : On9 wc.heap.size wr.heap.size wz, x = y.1) (fun _ h => h) ⟨⟨_, HP9.out⟩, rfl⟩ ?_
                        refine wpQuiet_nil ?_
                        intro KK hKK
                        rw [if_pos (by rfl)]
                        refine apN_wp (.tmp 94) (.tmp 101) _ rfl Tryz.underlying23 wc.heap.size _ _ rfl HS9.out.nn w8'.heap.size 1 _ rfl HY9.out (by have := HOL.out; have := HN40.out; unfold Gm.nmL; rw [List.length_map]; omega) HS9.out.w.size ?_
                        intro v2' w10 ho10 hg10
                        have HS10 := hide (HS9.out.putN ho10 hg10)
                        have HK10 : Hid (OwnI w10 (gA + 1) v' (Gm.kl G i ++ [(i : Int)])) := hide (World.ownsRow.kept HK9.out hg10 (other_row HK9.out HS9.out.nn (by decide)))
                        have HP10 : Hid (Below wc.heap.size wz w10 ∧ w10.heap[wr.heap.size]? = wz.heap[wr.heap.size]?) := hide ⟨HP9.out.1.grown hg10 HS9.out.w.size (fun k e => (own_holds HS9.out.nn e).1), (cells_row (HP9.out.2.trans HD10.out) HS9.out.nn (by decide) hg10).trans HD10.out.symm⟩
                        obtain ⟨A10, c10, rfl, _, _⟩ := own_form ho10
                        clear ho10 hg10
                        obtain ⟨n10, hn10⟩ : ∃ n, n = (Gm.nmL G (Gm.oR G i) ++ [nm]).length := ⟨_, rfl⟩
                        rw [← hn10] at HS10 ⊢
                        clear hn10
                        refine hKK _ _ ⟨⟨w10, HP10.out⟩, rfl⟩ (fun x => ∃ y : On9 wc.heap.size wr.heap.size wz, x = y.1) (fun _ h => h) ⟨⟨w10, HP10.out⟩, rfl⟩ ?_
                        go_frame
                        repeat (go_big_quiet_step (fail))
                        refine wpQuiet_nil ?_
                        intro KK hKK
                        rw [if_pos (by rfl)]
                        have j1 := cell_of_row w10 _ 1 _ _ _ HS10.out.h
                        have f1 := frozen_of_row w10 _ 1 _ _ HS10.out.h
                        have lh := (Array.getElem?_eq_some_iff.1 HS10.out.h).1
                        have HS11 := hide (HS10.out.setH 1 (.slice A10 n10 c10))
                        have HK11 : Hid (OwnI (w10.setCell ⟨H, 1, none⟩ (.slice A10 n10 c10)) (gA + 1) v' (Gm.kl G i ++ [(i : Int)])) := hide (World.ownsRow.kept HK10.out (only_set (World.grownBy.refl w10 (some H)) 1 _) (own_away HK10.out HS10.out.h (fun cur e => by injection e with _ e; cases e)))
                        have hHD : wr.heap.size ≠ H := fun e => by have h1 := HP10.out.2.trans HD10.out; rw [e, HS10.out.h] at h1; injection h1 with h1; injection h1 with _ h1; cases h1
                        have HP11 : Hid (Below wc.heap.size wz (w10.setCell ⟨H, 1, none⟩ (.slice A10 n10 c10)) ∧ (w10.setCell ⟨H, 1, none⟩ (.slice A10 n10 c10)).heap[wr.heap.size]? = wz.heap[wr.heap.size]?) := hide ⟨HP10.out.1.setCell (p := ⟨H, 1, none⟩) HS10.out.hH _, (Below.heap_setCell w10 ⟨H, 1, none⟩ _ wr.heap.size hHD).trans HP10.out.2⟩
                        clear hHD
                        go_wp2_with fail
                        refine hKK _ _ ⟨⟨_, HP11.out⟩, rfl⟩ (fun x => ∃ y : On9 wc.heap.size wr.heap.size wz, x = y.1) (fun _ h => h) ⟨⟨_, HP11.out⟩, rfl⟩ ?_
                        clear j1 f1 lh
                        refine wpQuiet_nil ?_
                        go_wp2
                        go_roundw
                        case rel => exact ⟨i + 1, _, hlt, by go_num, by rw [← HNM.out] at HS11; exact HS11, by rw [HX.out]; exact HK11⟩
                        case measure => simp [intOf]; omega
              · obtain rfl : i = G.rs.length := by omega
                rw [Gm.oR_all] at HS
                obtain ⟨AK, cK, hvk, _, _, _⟩ := HK.out.form
                subst hvk
                obtain ⟨ks, hks⟩ : ∃ ks, ks = Gm.kl G G.rs.length := ⟨_, rfl⟩
                rw [← hks] at HK ⊢
                have HKS := hide hks
                have HKL : Hid (ks.length = (Gm.krs G).length) := hide (by rw [hks]; exact Gm.kl_krs G)
                have hlenk : (ks.length : Int) ≤ 9223372036854775807 := by have := HKL.out; have := Gm.krs_len G; have := HR40.out; omega
                clear hks hlt
                have q2 : wr.cell? ⟨w.heap.size, 2, none⟩ = some (.slice AR G.rs.length cR) := by rw [cell_of_row wr _ 2 _ _ _ (HQC.out wr HS.out.w)]; rfl
                have lq := block_lt_of_cell q2
                go_wp2
                go_loopw [13] (fun vk wr => ∃ (k : Nat) (vR : Value), k ≤ ks.length ∧ vk = .int .i64 k ∧ Hid (RdS wc wr H gA #[vT, vN, vR, .int .i64 0] vT vN vR G.ts (Gm.nmL G (Gm.olds G)) (((Gm.krs G).take k).map (Gm.re (Gm.olds G))) (Gm.toL G.ns.length (Gm.olds G))) ∧ Hid (OwnI wr (gA + 1) (.slice AK ks.length cK) ks)) (fun vk _ => ks.length - (intOf vk).toNat)
                case atStart => exact ⟨0, _, Nat.zero_le _, rfl, HS, HK⟩
                case round =>
                  clear HS HK q2 lq
                  obtain ⟨k, vR, hk, rfl, HS, HK⟩ := hrel
                  obtain ⟨ws, hws⟩ : ∃ y : World, y = wr := ⟨_, rfl⟩
                  subst hws
                  have HW1 := hide (fun (y : World) (h : Below wc.heap.size wc y) => HBC.out.trans (h.mono HBC.out.size))
                  by_cases hlt : k < ks.length
                  · obtain ⟨gk, ok, rfl, hgk, hck⟩ := HK.out.rdOf (by omega)
                    have kk := hck k hlt
                    rw [L.gd_lt hlt] at kk
                    have lk := block_lt_of_cell kk
                    obtain ⟨i, hLi, hi, hkk, hkr⟩ := Gm.kl_at (G := G) (k := k) (by rw [← HKS.out]; exact hlt)
                    have hLi2 : ks[k] = (i : Int) := by simp only [HKS.out]; exact hLi
                    rw [hLi2] at kk
                    have HKN := hide (Gm.krs_next hkk)
                    have hxk : (Gm.krs G)[k] ∈ Gm.krs G := List.getElem_mem hkk
                    rw [hkr] at HKN hxk
                    have hxm : G.rs[i] ∈ G.rs := List.getElem_mem hi
                    have e := HFT.out.r _ hxm
                    have hxl := HOK.out.lin _ hxm
                    have HSN := hide (HOK.out.sin _ hxm)
                    have hr6 := (Gm.rule_in (HOK.out.rr _ hxm)).1
                    obtain ⟨g, o, rfl, hgB, hc⟩ := HRl.out w1 HB1.out (by omega)
                    obtain ⟨k0, ⟨A', c', k1, _, _, hri⟩, k2⟩ := hc i hi
                    have hgw : g < w1.heap.size := by have := HB.out; have := HS1.out; omega
                    have HRI := hide (fun (y : World) (h : Below wc.heap.size wc y) => hri.keep fun g o hg => (HW1.out y h).cell (p := ⟨g, o, none⟩) (by have := HB.out; have := HS1.out; simp only; omega))
                    have HRD : Hid (((Gm.krs G).take k).length ≤ 40) := hide (by rw [List.length_take]; have := Gm.krs_len G; have := HR40.out; omega)
                    have HIN := hide e.2.2
                    generalize G.rs[i] = x at *
                    obtain ⟨l, r, pz⟩ := x
                    simp only at k0 k1 k2 HRI HSN hr6 hxl HIN
                    obtain ⟨ml, rfl⟩ : ∃ m : Nat, l = (m : Int) := ⟨l.toNat, by omega⟩
                    have hmli := hxl.2
                    have hmln : ml < G.ns.length := by omega
                    have hrl : (r.length : Int) ≤ 9223372036854775807 := by omega
                    have hii : (i : Int) < (G.rs.length : Int) := by omega
                    have HRE : Hid (Gm.re (Gm.olds G) ⟨ml, r, pz⟩ = ⟨Gm.pos (Gm.olds G) ml, r.map (Gm.re1 (Gm.olds G)), pz⟩) := hide rfl
                    have HTO := hide (fun (i : Nat) (hi : i < G.ns.length) => Gm.toL_in HOK.out (Gm.olds G) (Gm.olds_le HOK.out) G.ns.length i hi)
                    go_upto_region 25 with fail
                    have HYW := hide (fun (y : World) (h : Below ws.heap.size ws y) => HS.out.w.trans (h.mono HS.out.w.size))
                    have b0 := fun y : Calm.On ws.heap.size ws => ((HW1.out y.1 (HYW.out y.1 y.2)).cell (p := ⟨g, o + i * 3, none⟩) hgw).trans k0
                    have b1 := fun y : Calm.On ws.heap.size ws => ((HW1.out y.1 (HYW.out y.1 y.2)).cell (p := ⟨g, o + i * 3 + 1, none⟩) hgw).trans k1
                    have b2 := fun y : Calm.On ws.heap.size ws => ((HW1.out y.1 (HYW.out y.1 y.2)).cell (p := ⟨g, o + i * 3 + 2, none⟩) hgw).trans k2
                    have bk := fun y : Calm.On ws.heap.size ws => (y.2.cell (p := ⟨gk, ok + k, none⟩) lk).trans kk
                    have bq := fun y : Calm.On ws.heap.size ws => (show y.1.cell? ⟨w.heap.size, 2, none⟩ = some (.slice (some ⟨g, o, none⟩) G.rs.length cR) by rw [cell_of_row y.1 _ 2 _ _ _ (HQC.out y.1 (HYW.out y.1 y.2))]; rfl)
                    have HD0 : Hid (Below ws.heap.size ws ws.drew) := hide (below_drewN (Below.refl _ _) 1)
                    clear kk hck hc hri hkk hkr hLi hLi2 hxk hxm e hxl k0 k1 k2
                    refine CalmN.region_tree (fun x => ∃ y : Calm.On ws.heap.size ws, x = y.1) (.one [0, 1, 2, 3, 4, 5, 6, 7] 8 (.one [] 9 (.fin []))) (by kernel_rfl) (by kernel_rfl) (fun _ _ d _ _ h => by cases d <;> exact h) ⟨⟨ws.drew, HD0.out⟩, rfl⟩ ?_
                    simp only [CalmN.wpT, CalmN.wpSt, CalmN.pickOps, List.getElem?_toArray, List.getElem?_cons_zero, List.getElem?_cons_succ]
                    repeat (go_big_quiet_step (fail))
                    refine wpQuiet_nil ?_
                    clear b0 b1 b2 bk bq
                    obtain ⟨wd, hwd⟩ : ∃ y, y = ws.drew := ⟨_, rfl⟩
                    have hzd : Hid (wd.heap.size = ws.heap.size) := hide (by rw [hwd]; rfl)
                    rw [← hwd] at HD0 ⊢
                    clear hwd
                    have ha0 := HD0.out.alloc HD0.out.size (.cells #[.int .i64 0, .slice none 0 0, .int .i64 0] 51)
                    intro KK hKK
                    rw [if_pos (by rfl)]
                    go_wp2_with fail
                    refine hKK _ _ ⟨⟨_, ha0⟩, rfl⟩ (fun x => ∃ y : Calm.On ws.heap.size ws, x = y.1) (fun _ h => h) ⟨⟨_, ha0⟩, rfl⟩ ?_
                    refine wpQuiet_nil ?_
                    have hx := heap_alloc_new wd (.cells #[.int .i64 0, .slice none 0 0, .int .i64 0] 51)
                    obtain ⟨D, hD⟩ : ∃ D, D = wd.heap.size := ⟨_, rfl⟩
                    have HDs : Hid (ws.heap.size ≤ D) := hide (by have := hzd.out; omega)
                    rw [← hD] at hx ⊢
                    obtain ⟨wa, hwa⟩ : ∃ y, y = wd.alloc (.cells #[.int .i64 0, .slice none 0 0, .int .i64 0] 51) := ⟨_, rfl⟩
                    rw [← hwa] at hx ha0 ⊢
                    clear hwa hKK hD hzd
                    have hs1' := heap_setCell_same wa D 0 _ _ (.int .i64 ml) hx
                    have hs2' := heap_setCell_same _ D 1 _ _ (.slice A' r.length c') hs1'
                    have hs3' := heap_setCell_same _ D 2 _ _ (.int .i64 pz) hs2'
                    have hb3' := ((ha0.setCell (p := ⟨D, 0, none⟩) HDs.out (.int .i64 ml)).setCell (p := ⟨D, 1, none⟩) HDs.out (.slice A' r.length c')).setCell (p := ⟨D, 2, none⟩) HDs.out (.int .i64 pz)
                    have d0 := cell_of_row wa _ 0 _ _ _ hx
                    have d1 := cell_of_row wa _ 1 _ _ _ hx
                    have d2 := cell_of_row wa _ 2 _ _ _ hx
                    have f0 := frozen_of_row wa _ 0 _ _ hx
                    have f1 := frozen_of_row wa _ 1 _ _ hx
                    have f2 := frozen_of_row wa _ 2 _ _ hx
                    have ld := (Array.getElem?_eq_some_iff.1 hx).1
                    clear hs1' hs2' ha0 hx
                    intro KK hKK
                    rw [if_pos (by rfl)]
                    go_wp2_with fail
                    obtain ⟨we, hwe⟩ : ∃ y, y = ((wa.setCell ⟨D, 0, none⟩ (.int .i64 ml)).setCell ⟨D, 1, none⟩ (.slice A' r.length c')).setCell ⟨D, 2, none⟩ (.int .i64 pz) := ⟨_, rfl⟩
                    rw [← hwe] at hs3' hb3' ⊢
                    refine hKK _ _ ⟨⟨we, hb3'⟩, rfl⟩ (fun x => ∃ y : Calm.On ws.heap.size ws, x = y.1) (fun _ h => h) ⟨⟨we, hb3'⟩, rfl⟩ ?_
                    have HD1 : Hid (we.heap[D]? = some (.cells #[.int .i64 ml, .slice A' r.length c', .int .i64 pz] 51 (0, 0))) := hide hs3'
                    have HBE := hide hb3'
                    clear d0 d1 d2 f0 f1 f2 ld hs3' hb3' hwe hKK HD0
                    refine wpQuiet_nil ?_
                    go_upto_region 26 with fail
                    have hDl := (Array.getElem?_eq_some_iff.1 HD1.out).1
                    have b0 := fun y : Calm.On we.heap.size we => (show y.1.cell? ⟨D, 0, none⟩ = some (.int .i64 ml) by rw [cell_of_row y.1 _ 0 _ _ _ (heap_keep y.2 HD1.out)]; rfl)
                    have b2 := fun y : Calm.On we.heap.size we => (show y.1.cell? ⟨D, 2, none⟩ = some (.int .i64 pz) by rw [cell_of_row y.1 _ 2 _ _ _ (heap_keep y.2 HD1.out)]; rfl)
                    obtain ⟨tl, htl⟩ : ∃ z, z = Gm.pos (Gm.olds G) (ml : Int) := ⟨_, rfl⟩
                    have kt := (HBE.out.cell (p := ⟨gA, ml, none⟩) HS.out.a.lt).trans (HS.out.a.cell ml (by rw [Gm.toL_len]; exact hmln))
                    rw [Gm.toL_at hmln, ← htl] at kt
                    rw [← htl] at HRE
                    clear htl
                    have bt := fun y : Calm.On we.heap.size we => (y.2.cell (p := ⟨gA, ml, none⟩) (block_lt_of_cell kt)).trans kt
                    have HD0 : Hid (Below we.heap.size we we.drew) := hide (below_drewN (Below.refl _ _) 1)
                    refine CalmN.region_tree (fun x => ∃ y : Calm.On we.heap.size we, x = y.1) (.one [0, 1, 2, 3, 4, 5, 6, 7] 8 (.one [] 9 (.fin []))) (by kernel_rfl) (by kernel_rfl) (fun _ _ d _ _ h => by cases d <;> exact h) ⟨⟨we.drew, HD0.out⟩, rfl⟩ ?_
                    simp only [CalmN.wpT, CalmN.wpSt, CalmN.pickOps, List.getElem?_toArray, List.getElem?_cons_zero, List.getElem?_cons_succ]
                    repeat (go_big_quiet_step (fail))
                    refine wpQuiet_nil ?_
                    clear b0 b2 bt kt
                    obtain ⟨wd2, hwd⟩ : ∃ y, y = we.drew := ⟨_, rfl⟩
                    have hzd : Hid (wd2.heap.size = we.heap.size) := hide (by rw [hwd]; rfl)
                    rw [← hwd] at HD0 ⊢
                    clear hwd
                    have ha0 := HD0.out.alloc HD0.out.size (.cells #[.int .i64 0, .slice none 0 0, .int .i64 0] 51)
                    intro KK hKK
                    rw [if_pos (by rfl)]
                    go_wp2_with fail
                    refine hKK _ _ ⟨⟨_, ha0⟩, rfl⟩ (fun x => ∃ y : Calm.On we.heap.size we, x = y.1) (fun _ h => h) ⟨⟨_, ha0⟩, rfl⟩ ?_
                    refine wpQuiet_nil ?_
                    have hx := heap_alloc_new wd2 (.cells #[.int .i64 0, .slice none 0 0, .int .i64 0] 51)
                    obtain ⟨E, hE⟩ : ∃ E, E = wd2.heap.size := ⟨_, rfl⟩
                    have HEs : Hid (we.heap.size ≤ E ∧ D < E) := hide (by have := hzd.out; omega)
                    rw [← hE] at hx ⊢
                    obtain ⟨wa2, hwa⟩ : ∃ y, y = wd2.alloc (.cells #[.int .i64 0, .slice none 0 0, .int .i64 0] 51) := ⟨_, rfl⟩
                    rw [← hwa] at hx ha0 ⊢
                    clear hwa hKK hE hzd
                    have hs1' := heap_setCell_same wa2 E 0 _ _ (.int .i64 tl) hx
                    have hs2' := heap_setCell_same _ E 1 _ _ (.slice none 0 0) hs1'
                    have hs3' := heap_setCell_same _ E 2 _ _ (.int .i64 pz) hs2'
                    have hb3' := ((ha0.setCell (p := ⟨E, 0, none⟩) HEs.out.1 (.int .i64 tl)).setCell (p := ⟨E, 1, none⟩) HEs.out.1 (.slice none 0 0)).setCell (p := ⟨E, 2, none⟩) HEs.out.1 (.int .i64 pz)
                    have d0 := cell_of_row wa2 _ 0 _ _ _ hx
                    have d1 := cell_of_row wa2 _ 1 _ _ _ hx
                    have d2 := cell_of_row wa2 _ 2 _ _ _ hx
                    have f0 := frozen_of_row wa2 _ 0 _ _ hx
                    have f1 := frozen_of_row wa2 _ 1 _ _ hx
                    have f2 := frozen_of_row wa2 _ 2 _ _ hx
                    have ld := (Array.getElem?_eq_some_iff.1 hx).1
                    clear hs1' hs2' ha0 hx
                    intro KK hKK
                    rw [if_pos (by rfl)]
                    go_wp2_with fail
                    obtain ⟨wf, hwf⟩ : ∃ y, y = ((wa2.setCell ⟨E, 0, none⟩ (.int .i64 tl)).setCell ⟨E, 1, none⟩ (.slice none 0 0)).setCell ⟨E, 2, none⟩ (.int .i64 pz) := ⟨_, rfl⟩
                    rw [← hwf] at hs3' hb3' ⊢
                    refine hKK _ _ ⟨⟨wf, hb3'⟩, rfl⟩ (fun x => ∃ y : Calm.On we.heap.size we, x = y.1) (fun _ h => h) ⟨⟨wf, hb3'⟩, rfl⟩ ?_
                    have HX0 : Hid (wf.heap[E]? = some (.cells #[.int .i64 tl, .slice none 0 0, .int .i64 pz] 51 (0, 0))) := hide hs3'
                    have HDf := hide (heap_keep hb3' HD1.out)
                    have HBF := hide (HBE.out.trans (hb3'.mono HBE.out.size))
                    have HEz : Hid (E < wf.heap.size) := hide (Array.getElem?_eq_some_iff.1 hs3').1
                    clear d0 d1 d2 f0 f1 f2 ld hs3' hb3' hwf hKK HD0 HD1 HBE hDl
                    refine wpQuiet_nil ?_
                    go_wp2
                    go_loopw [16] (fun vj wr => ∃ (j : Nat) (vx : Value), j ≤ r.length ∧ vj = .int .i64 j ∧ Hid (Below ws.heap.size ws wr) ∧ Hid (wr.heap[D]? = some (.cells #[.int .i64 ml, .slice A' r.length c', .int .i64 pz] 51 (0, 0))) ∧ Hid (wr.heap[E]? = some (.cells #[.int .i64 tl, vx, .int .i64 pz] 51 (0, 0))) ∧ Hid (OwnI wr (E + 1) vx ((r.take j).map (Gm.re1 (Gm.olds G))))) (fun vj _ => r.length - (intOf vj).toNat)
                    case atStart => exact ⟨0, _, Nat.zero_le _, rfl, HBF, HDf, HX0, hide (OwnI.nil _ _)⟩
                    case round =>
                      clear HBF HDf HX0 HEz
                      obtain ⟨j, vx, hj, rfl, HBr, HDr, HEr, HOr⟩ := hrel
                      obtain ⟨Ax, cx, hvx, _, _, _⟩ := HOr.out.form
                      subst hvx
                      have d1 : wr.cell? ⟨D, 1, none⟩ = some (.slice A' r.length c') := by rw [cell_of_row wr _ 1 _ _ _ HDr.out]; rfl
                      have ld := block_lt_of_cell d1
                      have hEl := (Array.getElem?_eq_some_iff.1 HEr.out).1
                      by_cases hlt2 : j < r.length
                      · obtain ⟨g5, o5, rfl, hg5, hc5⟩ := HRI.out wr (HYW.out wr HBr.out) (by omega)
                        have k5 := hc5 j hlt2
                        rw [L.gd_lt hlt2] at k5
                        have l5 := block_lt_of_cell k5
                        have hz0 := HSN.out _ (List.getElem_mem hlt2)
                        have hiz := HIN.out _ (List.getElem_mem hlt2)
                        have HT : Hid ((r.take (j + 1)).map (Gm.re1 (Gm.olds G)) = (r.take j).map (Gm.re1 (Gm.olds G)) ++ [Gm.re1 (Gm.olds G) r[j]]) := hide (by rw [List.take_succ_eq_append_getElem hlt2, List.map_append, List.map_singleton])
                        have HLx : Hid (((r.take j).map (Gm.re1 (Gm.olds G))).length ≤ 1000) := hide (by rw [List.length_map, List.length_take]; omega)
                        have HST := hide (fun u => HBr.out.setCell (p := ⟨E, 1, none⟩) (by have := HEs.out; have := HDs.out; simp only; omega) u)
                        have hED : D ≠ E := by have := HEs.out; omega
                        have HBG : Hid (∀ k, E + 1 ≤ k → ws.heap.size ≤ k) := hide (fun k h => by have := HEs.out.2; have := HDs.out; omega)
                        unfold Gm.In at hiz
                        generalize r[j] = z at *
                        obtain ⟨lx, hlx⟩ : ∃ n, n = ((r.take j).map (Gm.re1 (Gm.olds G))).length := ⟨_, rfl⟩
                        rw [← hlx] at HEr HOr
                        have HLX := hide hlx
                        have e1 : wr.cell? ⟨E, 1, none⟩ = some (.slice Ax lx cx) := by rw [cell_of_row wr _ 1 _ _ _ HEr.out]; rfl
                        clear hc5 hlx
                        by_cases hz : z < 0
                        · obtain ⟨q, hq⟩ : ∃ q : Nat, -1 - z = (q : Int) := ⟨(-1 - z).toNat, by omega⟩
                          have hqn := hz0 hz
                          rw [hq] at hqn
                          have hqq := HTO.out q (by omega)
                          have kt := (HBr.out.cell (p := ⟨gA, q, none⟩) HS.out.a.lt).trans (HS.out.a.cell q (by rw [Gm.toL_len]; omega))
                          have lt5 := block_lt_of_cell kt
                          have HEQ : Hid (Gm.re1 (Gm.olds G) z = -1 - (Gm.toL G.ns.length (Gm.olds G)).getD q 0) := hide (by unfold Gm.re1; rw [if_pos hz, hq, Gm.toL_at (by omega)])
                          generalize (Gm.toL G.ns.length (Gm.olds G)).getD q 0 = tq at *
                          have hw1' : IntKind.i64.wrap (-1 - z) = (q : Int) := by rw [IntWalk.i64_in _ (by omega)]; exact hq
                          have hzd : decide (z < 0) = true := decide_eq_true hz
                          obtain ⟨u, hu⟩ : ∃ u, u = -1 - tq := ⟨_, rfl⟩
                          have hw2' : IntKind.i64.wrap (-1 - tq) = u := by rw [hu]; exact IntWalk.i64_in _ (by omega)
                          rw [← hu] at HEQ
                          rw [HEQ.out] at HT
                          clear hz hq hiz hz0 hqq hu HEQ
                          have HAB : Hid (∀ y : World, (wr.alloc (.cells #[.int .i64 u] 3)).grownBy y (Value.slice Ax lx cx).ownBlock → y.heap[D]? = some (.cells #[.int .i64 ml, .slice (some ⟨g5, o5, none⟩) r.length c', .int .i64 pz] 51 (0, 0)) ∧ y.heap[E]? = some (.cells #[.int .i64 tl, .slice Ax lx cx, .int .i64 pz] 51 (0, 0)) ∧ Below ws.heap.size ws y) := hide (by
                            have hOb : OwnI (wr.alloc (.cells #[.int .i64 u] 3)) (E + 1) (.slice Ax lx cx) ((r.take j).map (Gm.re1 (Gm.olds G))) := HOr.out.alloc _
                            have hDb : (wr.alloc (.cells #[.int .i64 u] 3)).heap[D]? = some (.cells #[.int .i64 ml, .slice (some ⟨g5, o5, none⟩) r.length c', .int .i64 pz] 51 (0, 0)) := (Below.heap_alloc wr _ D (Array.getElem?_eq_some_iff.1 HDr.out).1).trans HDr.out
                            have hEb : (wr.alloc (.cells #[.int .i64 u] 3)).heap[E]? = some (.cells #[.int .i64 tl, .slice Ax lx cx, .int .i64 pz] 51 (0, 0)) := (Below.heap_alloc wr _ E (Array.getElem?_eq_some_iff.1 HEr.out).1).trans HEr.out
                            have hBb : Below ws.heap.size ws (wr.alloc (.cells #[.int .i64 u] 3)) := HBr.out.alloc HBr.out.size _
                            intro y h
                            have hlt' := World.ownsRow.lt hOb
                            exact ⟨cells_row hDb hOb (by decide) h, cells_row hEb hOb (by decide) h, hBb.grown h hBb.size (fun k e => HBG.out k (hlt' k e).1)⟩)
                          have HOA : Hid (OwnI (wr.alloc (.cells #[.int .i64 u] 3)) (E + 1) (.slice Ax lx cx) ((r.take j).map (Gm.re1 (Gm.olds G)))) := hide (HOr.out.alloc _)
                          have HEA : Hid (E + 1 ≤ (wr.alloc (.cells #[.int .i64 u] 3)).heap.size) := hide (by simp; omega)
                          have HEC : Hid (ws.heap.size ≤ E) := hide (by have := HEs.out; have := HDs.out; omega)
                          have HEE : Hid (E < E + 1) := hide (Nat.lt_succ_self E)
                          have HLA : Hid (((r.take j).map (Gm.re1 (Gm.olds G))).length ≤ 1000000000000) := hide (by have := HLx.out; omega)
                          go_wp2_with (at_builtin; (go_loud (refine apI_arm rfl (.tmp 147) (.tmp 149) _ rfl Tryz.underlying29 (E + 1) _ _ rfl HOA.out _ 1 u rfl (World.cell?_alloc_new _ _ _ 0) HLA.out HEA.out ?_)); intro v6 w6 ho6 hg6; rw [← HT.out] at ho6; obtain ⟨hDx, hEx, hBx⟩ := HAB.out w6 hg6; have HDx := hide hDx; have HEx := hide hEx; have HBx := hide hBx; have HO6 := hide ho6; obtain ⟨A6, c6, hv6, _, _, _⟩ := ho6.form; subst hv6; obtain ⟨n6, hn6⟩ : ∃ n, n = ((r.take (j + 1)).map (Gm.re1 (Gm.olds G))).length := ⟨_, rfl⟩; rw [← hn6] at HO6 ⊢; have e1' : w6.cell? ⟨E, 1, none⟩ = some (.slice Ax lx cx) := (cell_of_row w6 _ 1 _ _ _ HEx.out).trans rfl; have f1' := frozen_of_row w6 _ 1 _ _ HEx.out; have l1' := (Array.getElem?_eq_some_iff.1 HEx.out).1; have HB7 := hide (HBx.out.setCell (p := ⟨E, 1, none⟩) HEC.out (.slice A6 n6 c6)); have HD7 := hide ((Below.heap_setCell w6 ⟨E, 1, none⟩ (.slice A6 n6 c6) D hED).trans HDx.out); have HE7 := hide (heap_setCell_same w6 E 1 _ _ (.slice A6 n6 c6) HEx.out); have HO7 : Hid (OwnI (w6.setCell ⟨E, 1, none⟩ (.slice A6 n6 c6)) (E + 1) (.slice A6 n6 c6) ((r.take (j + 1)).map (Gm.re1 (Gm.olds G)))) := hide (HO6.out.far (only_set (World.grownBy.refl w6 (some E)) 1 _) HEE.out); clear ho6 hg6 hn6 hDx hEx hBx)
                          go_roundw
                          case rel => exact ⟨j + 1, _, hlt2, by go_num, HB7, HD7, HE7, HO7⟩
                          case measure => simp [intOf]; omega
                        · have HEQ : Hid (Gm.re1 (Gm.olds G) z = z) := hide (by unfold Gm.re1; rw [if_neg hz])
                          have hzd : decide (z < 0) = false := decide_eq_false hz
                          obtain ⟨u, hu⟩ : ∃ u, u = z := ⟨_, rfl⟩
                          rw [← hu] at HEQ k5 hzd
                          rw [← hu, HEQ.out] at HT
                          clear hz hiz hz0 hu HEQ
                          have HAB : Hid (∀ y : World, (wr.alloc (.cells #[.int .i64 u] 3)).grownBy y (Value.slice Ax lx cx).ownBlock → y.heap[D]? = some (.cells #[.int .i64 ml, .slice (some ⟨g5, o5, none⟩) r.length c', .int .i64 pz] 51 (0, 0)) ∧ y.heap[E]? = some (.cells #[.int .i64 tl, .slice Ax lx cx, .int .i64 pz] 51 (0, 0)) ∧ Below ws.heap.size ws y) := hide (by
                            have hOb : OwnI (wr.alloc (.cells #[.int .i64 u] 3)) (E + 1) (.slice Ax lx cx) ((r.take j).map (Gm.re1 (Gm.olds G))) := HOr.out.alloc _
                            have hDb : (wr.alloc (.cells #[.int .i64 u] 3)).heap[D]? = some (.cells #[.int .i64 ml, .slice (some ⟨g5, o5, none⟩) r.length c', .int .i64 pz] 51 (0, 0)) := (Below.heap_alloc wr _ D (Array.getElem?_eq_some_iff.1 HDr.out).1).trans HDr.out
                            have hEb : (wr.alloc (.cells #[.int .i64 u] 3)).heap[E]? = some (.cells #[.int .i64 tl, .slice Ax lx cx, .int .i64 pz] 51 (0, 0)) := (Below.heap_alloc wr _ E (Array.getElem?_eq_some_iff.1 HEr.out).1).trans HEr.out
                            have hBb : Below ws.heap.size ws (wr.alloc (.cells #[.int .i64 u] 3)) := HBr.out.alloc HBr.out.size _
                            intro y h
                            have hlt' := World.ownsRow.lt hOb
                            exact ⟨cells_row hDb hOb (by decide) h, cells_row hEb hOb (by decide) h, hBb.grown h hBb.size (fun k e => HBG.out k (hlt' k e).1)⟩)
                          have HOA : Hid (OwnI (wr.alloc (.cells #[.int .i64 u] 3)) (E + 1) (.slice Ax lx cx) ((r.take j).map (Gm.re1 (Gm.olds G)))) := hide (HOr.out.alloc _)
                          have HEA : Hid (E + 1 ≤ (wr.alloc (.cells #[.int .i64 u] 3)).heap.size) := hide (by simp; omega)
                          have HEC : Hid (ws.heap.size ≤ E) := hide (by have := HEs.out; have := HDs.out; omega)
                          have HEE : Hid (E < E + 1) := hide (Nat.lt_succ_self E)
                          have HLA : Hid (((r.take j).map (Gm.re1 (Gm.olds G))).length ≤ 1000000000000) := hide (by have := HLx.out; omega)
                          go_wp2_with (at_builtin; (go_loud (refine apI_arm rfl (.tmp 147) (.tmp 149) _ rfl Tryz.underlying29 (E + 1) _ _ rfl HOA.out _ 1 u rfl (World.cell?_alloc_new _ _ _ 0) HLA.out HEA.out ?_)); intro v6 w6 ho6 hg6; rw [← HT.out] at ho6; obtain ⟨hDx, hEx, hBx⟩ := HAB.out w6 hg6; have HDx := hide hDx; have HEx := hide hEx; have HBx := hide hBx; have HO6 := hide ho6; obtain ⟨A6, c6, hv6, _, _, _⟩ := ho6.form; subst hv6; obtain ⟨n6, hn6⟩ : ∃ n, n = ((r.take (j + 1)).map (Gm.re1 (Gm.olds G))).length := ⟨_, rfl⟩; rw [← hn6] at HO6 ⊢; have e1' : w6.cell? ⟨E, 1, none⟩ = some (.slice Ax lx cx) := (cell_of_row w6 _ 1 _ _ _ HEx.out).trans rfl; have f1' := frozen_of_row w6 _ 1 _ _ HEx.out; have l1' := (Array.getElem?_eq_some_iff.1 HEx.out).1; have HB7 := hide (HBx.out.setCell (p := ⟨E, 1, none⟩) HEC.out (.slice A6 n6 c6)); have HD7 := hide ((Below.heap_setCell w6 ⟨E, 1, none⟩ (.slice A6 n6 c6) D hED).trans HDx.out); have HE7 := hide (heap_setCell_same w6 E 1 _ _ (.slice A6 n6 c6) HEx.out); have HO7 : Hid (OwnI (w6.setCell ⟨E, 1, none⟩ (.slice A6 n6 c6)) (E + 1) (.slice A6 n6 c6) ((r.take (j + 1)).map (Gm.re1 (Gm.olds G)))) := hide (HO6.out.far (only_set (World.grownBy.refl w6 (some E)) 1 _) HEE.out); clear ho6 hg6 hn6 hDx hEx hBx)
                          go_roundw
                          case rel => exact ⟨j + 1, _, hlt2, by go_num, HB7, HD7, HE7, HO7⟩
                          case measure => simp [intOf]; omega
                      · obtain rfl : j = r.length := by omega
                        rw [List.take_length] at HOr HEr
                        have HSr := hide (HS.out.below HBr.out)
                        have HKr := hide (HK.out.below HBr.out (Nat.le_refl _))
                        have hvR := ownrl_form HSr.out.r
                        obtain ⟨AR5, cR5, rfl, _, _⟩ := hvR
                        obtain ⟨lR, hlR⟩ : ∃ n, n = (((Gm.krs G).take k).map (Gm.re (Gm.olds G))).length := ⟨_, rfl⟩
                        obtain ⟨lx, hlx⟩ : ∃ n, n = (r.map (Gm.re1 (Gm.olds G))).length := ⟨_, rfl⟩
                        rw [← hlR] at HSr
                        rw [← hlx] at HEr HOr
                        have HLX := hide hlx
                        have j2 : wr.cell? ⟨H, 2, none⟩ = some (.slice AR5 lR cR5) := by rw [cell_of_row wr _ 2 _ _ _ HSr.out.h]; rfl
                        have lh := block_lt_of_cell j2
                        have e0 : wr.cell? ⟨E, 0, none⟩ = some (.int .i64 tl) := by rw [cell_of_row wr _ 0 _ _ _ HEr.out]; rfl
                        have e1 : wr.cell? ⟨E, 1, none⟩ = some (.slice Ax lx cx) := by rw [cell_of_row wr _ 1 _ _ _ HEr.out]; rfl
                        have e2 : wr.cell? ⟨E, 2, none⟩ = some (.int .i64 pz) := by rw [cell_of_row wr _ 2 _ _ _ HEr.out]; rfl
                        obtain ⟨Ay, cy, hy, ry1, ry2, hrow⟩ := HOr.out.row (B := wc.heap.size) (by have := HEs.out; have := HDs.out; have := HS.out.w.size; omega)
                        injection hy with hy1 hy2 hy3
                        subst hy1 hy3
                        have HSa := hide (HSr.out.alloc (.cells #[.int .i64 tl, .slice Ax lx cx, .int .i64 pz] 51))
                        have HKa := hide (HKr.out.alloc (.cells #[.int .i64 tl, .slice Ax lx cx, .int .i64 pz] 51))
                        have HROW := hide ((hrow.grown (World.grownBy_alloc wr (.cells #[.int .i64 tl, .slice Ax lx cx, .int .i64 pz] 51) none) (fun g e => by cases e)).more (show wr.heap.size ≤ (wr.alloc (.cells #[.int .i64 tl, .slice Ax lx cx, .int .i64 pz] 51)).heap.size by simp))
                        have HNC : Hid (∀ j u, (rlC (⟨tl, r.map (Gm.re1 (Gm.olds G)), pz⟩, Ax, cx))[j]? = some u → (wr.alloc (.cells #[.int .i64 tl, .slice Ax lx cx, .int .i64 pz] 51)).cell? ⟨wr.heap.size, j, none⟩ = some u) := hide (fun j u hj => by
                          have h := new_cells wr [.int .i64 tl, .slice Ax lx cx, .int .i64 pz] 51 j
                          rw [HLX.out] at h ⊢
                          exact h.trans hj)
                        have HR12 := hide (And.intro ry1 ry2)
                        have HRL5 : Hid ((((Gm.krs G).take k).map (Gm.re (Gm.olds G))).length ≤ 1000000) := hide (by rw [List.length_map]; have := HRD.out; omega)
                        clear hlR hlx hy2 ry1 ry2 hrow
                        go_wp2_with (at_builtin; (go_loud (refine apRl_arm rfl (.tmp 153) (.tmp 155) _ rfl Tryz.underlying24 wc.heap.size _ (.slice AR5 lR cR5) _ rfl HSa.out.r _ _ (⟨tl, r.map (Gm.re1 (Gm.olds G)), pz⟩, Ax, cx) rfl HNC.out ⟨HR12.out.1, HR12.out.2, HROW.out⟩ HRL5.out HSa.out.w.size (Nat.le_refl _) ?_)); intro v5 w5 ho5 hg5; rw [← HRE.out, ← HKN.out] at ho5; have HS5 := hide (HSa.out.putR ho5 hg5); have HK5 : Hid (OwnI w5 (gA + 1) (.slice (some ⟨gk, ok, none⟩) ks.length cK) ks) := hide (by obtain ⟨qs, _, h2, _⟩ := id HSa.out.r; exact World.ownsRow.kept HKa.out hg5 (other_row HKa.out h2 (by decide))); obtain ⟨A6, c6, rfl, _, _⟩ := ownrl_form ho5; obtain ⟨n6, hn6⟩ : ∃ n, n = (((Gm.krs G).take (k + 1)).map (Gm.re (Gm.olds G))).length := ⟨_, rfl⟩; rw [← hn6] at HS5 ⊢; have j2' := cell_of_row w5 _ 2 _ _ _ HS5.out.h; have f2' := frozen_of_row w5 _ 2 _ _ HS5.out.h; have lh' := (Array.getElem?_eq_some_iff.1 HS5.out.h).1; have HS6 := hide (HS5.out.setH 2 (.slice A6 n6 c6)); have HK6 : Hid (OwnI (w5.setCell ⟨H, 2, none⟩ (.slice A6 n6 c6)) (gA + 1) (.slice (some ⟨gk, ok, none⟩) ks.length cK) ks) := hide (World.ownsRow.kept HK5.out (only_set (World.grownBy.refl w5 (some H)) 2 _) (own_away HK5.out HS5.out.h (fun cur e => by injection e with _ e; cases e))); clear ho5 hg5 hn6)
                        go_roundw
                        case rel => exact ⟨k + 1, _, hlt, by go_num, HS6, HK6⟩
                        case measure => simp [intOf]; omega
                  · obtain rfl : k = ks.length := by omega
                    rw [HKL.out, List.take_length] at HS
                    obtain ⟨AT5, cT5, rfl, _, _⟩ := own_form HS.out.t
                    obtain ⟨AN5, cN5, rfl, _, _⟩ := own_form HS.out.nn
                    obtain ⟨AR5, cR5, rfl, _, _⟩ := ownrl_form HS.out.r
                    have HP : Hid ((Gm.toL G.ns.length (Gm.olds G)).getD m 0 = Gm.pos (Gm.olds G) G.st) := hide (by rw [Gm.toL_at hmn, ← HM.out])
                    have q3 : ws.cell? ⟨w.heap.size, 3, none⟩ = some (.int .i64 m) := by rw [cell_of_row ws _ 3 _ _ _ (HQC.out ws HS.out.w), ← HM.out]; rfl
                    have km := HS.out.a.cell m (by rw [Gm.toL_len]; exact hmn)
                    rw [HP.out] at km
                    have la := HS.out.a.lt
                    have lq := block_lt_of_cell q3
                    have j3 := cell_of_row ws _ 3 _ _ _ HS.out.h
                    have f3 := frozen_of_row ws _ 3 _ _ HS.out.h
                    have lh := (Array.getElem?_eq_some_iff.1 HS.out.h).1
                    obtain ⟨pp, hpp⟩ : ∃ z, z = Gm.pos (Gm.olds G) G.st := ⟨_, rfl⟩
                    rw [← hpp] at km
                    have HPP := hide hpp
                    have HSF := hide (HS.out.setH 3 (.int .i64 pp))
                    have HKF : Hid (OwnI (ws.setCell ⟨H, 3, none⟩ (.int .i64 pp)) (gA + 1) (.slice AK ks.length cK) ks) := hide (World.ownsRow.kept HK.out (only_set (World.grownBy.refl ws (some H)) 3 _) (own_away HK.out HS.out.h (fun cur e => by injection e with _ e; cases e)))
                    obtain ⟨wy, hwy⟩ : ∃ y, y = ws.setCell ⟨H, 3, none⟩ (.int .i64 pp) := ⟨_, rfl⟩
                    rw [← hwy] at HSF HKF
                    clear hpp HP
                    go_upto_region 36 with fail
                    rw [← hwy]
                    clear hwy q3 km la lq j3 f3 lh
                    have j0 : wy.cell? ⟨H, 0, none⟩ = some (.slice AT5 G.ts.length cT5) := by rw [cell_of_row wy _ 0 _ _ _ HSF.out.h]; rfl
                    have j1 : wy.cell? ⟨H, 1, none⟩ = some (.slice AN5 (Gm.nmL G (Gm.olds G)).length cN5) := by rw [cell_of_row wy _ 1 _ _ _ HSF.out.h]; rfl
                    have j2 : wy.cell? ⟨H, 2, none⟩ = some (.slice AR5 ((Gm.krs G).map (Gm.re (Gm.olds G))).length cR5) := by rw [cell_of_row wy _ 2 _ _ _ HSF.out.h]; rfl
                    have j3 : wy.cell? ⟨H, 3, none⟩ = some (.int .i64 pp) := by rw [cell_of_row wy _ 3 _ _ _ HSF.out.h]; rfl
                    have lh := (Array.getElem?_eq_some_iff.1 HSF.out.h).1
                    have hby := HBC.out.trans (HSF.out.w.mono HBC.out.size)
                    have g0 : wy.cell? ⟨w.heap.size + 1, 0, none⟩ = some (.slice none 0 0) := by rw [cell_of_row wy _ 0 _ _ _ (HZ.out wy hby)]; rfl
                    have g1 : wy.cell? ⟨w.heap.size + 1, 1, none⟩ = some (.slice none 0 0) := by rw [cell_of_row wy _ 1 _ _ _ (HZ.out wy hby)]; rfl
                    have g2 : wy.cell? ⟨w.heap.size + 1, 2, none⟩ = some (.slice none 0 0) := by rw [cell_of_row wy _ 2 _ _ _ (HZ.out wy hby)]; rfl
                    have g3 : wy.cell? ⟨w.heap.size + 1, 3, none⟩ = some (.int .i64 0) := by rw [cell_of_row wy _ 3 _ _ _ (HZ.out wy hby)]; rfl
                    have e0 := frozen_of_row wy _ 0 _ _ (HZ.out wy hby)
                    have e1 := frozen_of_row wy _ 1 _ _ (HZ.out wy hby)
                    have e2 := frozen_of_row wy _ 2 _ _ (HZ.out wy hby)
                    have e3 := frozen_of_row wy _ 3 _ _ (HZ.out wy hby)
                    have lz := (Array.getElem?_eq_some_iff.1 (HZ.out wy hby)).1
                    have HBF := hide (fun u1 u2 u3 u4 => ((((HBX.out wy hby).setCell (p := ⟨w.heap.size + 1, 0, none⟩) (by simp only; omega) u1).setCell (p := ⟨w.heap.size + 1, 1, none⟩) (by simp only; omega) u2).setCell (p := ⟨w.heap.size + 1, 2, none⟩) (by simp only; omega) u3).setCell (p := ⟨w.heap.size + 1, 3, none⟩) (by simp only; omega) u4)
                    have hgf := only_set (only_set (only_set (only_set (World.grownBy.refl wy (some (w.heap.size + 1))) 0 (.slice AT5 G.ts.length cT5)) 1 (.slice AN5 (Gm.nmL G (Gm.olds G)).length cN5)) 2 (.slice AR5 ((Gm.krs G).map (Gm.re (Gm.olds G))).length cR5)) 3 (.int .i64 pp)
                    have hwc : w.heap.size + 1 < wc.heap.size := by have := HBC.out.size; have := HS1.out; omega
                    have hRG : Gm.reduce G = ⟨G.ts, Gm.nmL G (Gm.olds G), (Gm.krs G).map (Gm.re (Gm.olds G)), pp⟩ := by rw [HPP.out]; rfl
                    have HGR := hide ((show OwnGr wy wc.heap.size (.agg #[.slice AT5 G.ts.length cT5, .slice AN5 (Gm.nmL G (Gm.olds G)).length cN5, .slice AR5 ((Gm.krs G).map (Gm.re (Gm.olds G))).length cR5, .int .i64 pp]) (Gm.reduce G) from by rw [hRG]; exact ⟨_, _, _, rfl, HSF.out.t, HSF.out.nn, HSF.out.r⟩).grown hgf (fun g e => by injection e with e; omega))
                    have HRF := hide (HKF.out.far hgf (by have := HSF.out.hA; omega))
                    generalize Gm.nmL G (Gm.olds G) = nms at *
                    generalize (Gm.krs G).map (Gm.re (Gm.olds G)) = rls at *
                    clear hgf hRG hwc hby HS HSF HK HKF
                    go_wp2
                    refine bodyPost_ret (v := .tuple #[.agg #[.slice AT5 G.ts.length cT5, .slice AN5 nms.length cN5, .slice AR5 rls.length cR5, .int .i64 pp], .slice AK ks.length cK, .int .i64 0]) (by simp [results, Tryz.results24, go_sem, g0, g1, g2, g3]) rfl ?_
                    exact RedAns.ok HE.out HKS.out HGR.out.rd HRF.out.rdOf (HBF.out _ _ _ _)

end Go.Proofs.YtajcegofflmoeaaGreatDoor
