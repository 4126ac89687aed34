/- Part of the proofs over this program: CfgEq, ShowPrint, ShowSum, ShowDig, Alive10, Ints, CfgSame, CfgSame2, WalkTells10. -/
import Derived.Test.YtkfelkpilaipnaaDoorProg
import Derived.WalkKit
import Derived.WalkSpells
import Derived.WalkLawsBesides
import Derived.Deep.Draws
import Derived.BigQuiet
import Derived.Deep.QuietTactic
import Derived.RegionTactic
import Derived.Deep.DeepFit
import Derived.Deep.RegionWith
import Derived.Laws.CopyOwn
import Derived.Laws.OwnMore
import Derived.OwnWalk
import Derived.ProofKit
import Derived.OpenShut
import Derived.Laws.IdiomStrings
import Derived.Lib.IndexLaws
import Derived.Lib.IndexMore
import Derived.Lib.Strings
import Derived.Lib.Bytes
import Derived.Lib.Index
import Derived.Test.YtkfelkpilaipnaaDoorShelf
import Derived.ScopeJumps
import Derived.WalkMore
import Derived.Laws.FloatArith
import Derived.OrdersHeld
import Derived.IntWalk
import Derived.Maps.OwnSet
import Derived.Deep.DeepCutAuto
import Derived.Defers
import Derived.Recover
import Derived.Maps.AppendAt
import Derived.Deep.OwnRows
import Derived.Lib.AppendZerosOnto
import Derived.Lib.Builder
import Derived.Lib.AppendStr
import Derived.Lib.Join
import Derived.Laws.BitsAllLaws
import Derived.Laws.Shifts
import Derived.Lib.LaidTab
import Derived.Deep.RegionHeld3
import Derived.Test.YtkfelkpilaipnaaDoorKA
import Derived.Test.YtkfelkpilaipnaaDoorKB
import Derived.Test.YtkfelkpilaipnaaDoorKC
import Derived.Test.YtkfelkpilaipnaaDoorKE
import Derived.Test.YtkfelkpilaipnaaDoorKF
import Derived.Test.YtkfelkpilaipnaaDoorKG
import Derived.Test.YtkfelkpilaipnaaDoorKH
import Derived.Test.YtkfelkpilaipnaaDoorKI
namespace Go.Proofs.YtkfelkpilaipnaaDoor
set_option maxRecDepth 100000
open Go.RowKit

namespace Gm
/-- Different numbers from 1 to g: no more than g; and if so many, all. -/
theorem pigeons : ∀ (g : Nat) (l : List Int), l.Nodup → (∀ x ∈ l, 1 ≤ x ∧ x ≤ g) → l.length ≤ g ∧ (l.length = g → ∀ n : Nat, 1 ≤ n → n ≤ g → (n : Int) ∈ l)
  | 0, l, _, hb => by
    have : l = [] := by
      rcases l with _ | ⟨x, r⟩
      · rfl
      · have := hb x (by simp); omega
    subst this
    exact ⟨Nat.le_refl _, fun _ n h1 h2 => by omega⟩
  | g + 1, l, hn, hb => by
    by_cases hm : ((g + 1 : Nat) : Int) ∈ l
    · have hl := List.length_erase_of_mem hm
      have hpos : 0 < l.length := List.length_pos_of_mem hm
      obtain ⟨h1, h2⟩ := pigeons g (l.erase ((g + 1 : Nat) : Int)) (hn.erase _) (fun x hx => by
        have hx' := (hn.mem_erase_iff).1 hx
        have := hb x hx'.2
        have := hx'.1
        omega)
      refine ⟨by omega, fun e n q1 q2 => ?_⟩
      by_cases hg : n = g + 1
      · subst hg; exact hm
      · exact List.mem_of_mem_erase (h2 (by omega) n q1 (by omega))
    · obtain ⟨h1, _⟩ := pigeons g l hn (fun x hx => by
        have := hb x hx
        have : x ≠ ((g + 1 : Nat) : Int) := fun e => hm (e ▸ hx)
        omega)
      exact ⟨by omega, fun e => by omega⟩

/-- Levels that may be. -/
structure LvGood (ts : List Tm) : Prop where
  a : ∀ t ∈ ts, asB t = true
  b : ∀ t ∈ ts, ∀ u ∈ ts, 0 < t.lv → t.lv = u.lv → t.wy = u.wy
  c : ∀ t ∈ ts, ∀ n : Nat, 1 ≤ n → (n : Int) ≤ t.lv → ∃ u ∈ ts, u.lv = (n : Int)
theorem asB_iff (t : Tm) : asB t = true ↔ 0 ≤ t.lv ∧ 0 ≤ t.wy ∧ t.wy ≤ 3 ∧ (t.lv = 0 ↔ t.wy = 0) := by
  unfold asB
  by_cases h0 : t.wy = 0
  · rw [if_pos h0]
    simp only [beq_iff_eq]
    omega
  · rw [if_neg h0]
    by_cases h1 : t.wy = 1 ∨ t.wy = 2 ∨ t.wy = 3
    · rw [if_pos h1]
      simp only [decide_eq_true_eq]
      omega
    · rw [if_neg h1]
      simp only [Bool.false_eq_true, false_iff]
      omega
structure Inv (pre : List Tm) (m : List (Int × Int)) (g : Int) : Prop where
  n : (m.map Prod.fst).Nodup
  f : ∀ t ∈ pre, 0 < t.lv → Mw.asc m t.lv = some t.wy
  r : ∀ l w, Mw.asc m l = some w → 0 < l ∧ ∃ t ∈ pre, t.lv = l ∧ t.wy = w
  a : ∀ t ∈ pre, asB t = true
  g0 : 0 ≤ g
  g1 : ∀ t ∈ pre, t.lv ≤ g
  g2 : g = 0 ∨ ∃ t ∈ pre, t.lv = g
theorem Inv.nil : Inv [] [] 0 := ⟨by simp, by simp, fun _ _ h => by simp [Mw.asc] at h, by simp, Int.le_refl _, by simp, .inl rfl⟩
theorem Inv.key {pre : List Tm} {m : List (Int × Int)} {g : Int} (h : Inv pre m g) {x : Int} (hx : x ∈ m.map Prod.fst) : ∃ w, Mw.asc m x = some w := by
  obtain ⟨p, hp, rfl⟩ := List.mem_map.1 hx
  exact ⟨p.2, Mw.asc_of_mem h.n hp⟩
theorem Inv.next {pre : List Tm} {m : List (Int × Int)} {g : Int} {t : Tm} (h : Inv pre m g) (ha : asB t = true) (hc : ¬ ((Mw.asc m t.lv).isSome = true ∧ (Mw.asc m t.lv).getD 0 ≠ t.wy)) : Inv (pre ++ [t]) (lvPut m t) (max g t.lv) := by
  have hl := ((asB_iff t).1 ha).1
  have hmem : ∀ u, u ∈ pre ++ [t] ↔ u ∈ pre ∨ u = t := fun u => by simp
  have hg0 := h.g0
  have hgg : 0 ≤ max g t.lv ∧ (∀ u ∈ pre ++ [t], u.lv ≤ max g t.lv) ∧ (max g t.lv = 0 ∨ ∃ u ∈ pre ++ [t], u.lv = max g t.lv) := by
    refine ⟨by omega, fun u hu => ?_, ?_⟩
    · rcases (hmem u).1 hu with q | rfl
      · have := h.g1 u q; omega
      · omega
    · by_cases hgt : g ≤ t.lv
      · exact .inr ⟨t, (hmem t).2 (.inr rfl), by omega⟩
      · rcases h.g2 with q | ⟨u, hu, e⟩
        · omega
        · exact .inr ⟨u, (hmem u).2 (.inl hu), by omega⟩
  have haa : ∀ u ∈ pre ++ [t], asB u = true := fun u hu => by
    rcases (hmem u).1 hu with q | rfl
    · exact h.a u q
    · exact ha
  unfold lvPut
  by_cases hp : 0 < t.lv
  · rw [if_pos hp]
    cases hq : Mw.asc m t.lv with
    | none =>
      rw [if_pos rfl]
      refine ⟨?_, ?_, ?_, haa, hgg.1, hgg.2.1, hgg.2.2⟩
      · rw [List.map_append, List.nodup_append]
        refine ⟨h.n, by simp, fun x hx y hy e => ?_⟩
        simp only [List.map_cons, List.map_nil, List.mem_singleton] at hy
        obtain ⟨w, hw⟩ := h.key hx
        rw [e, hy, hq] at hw; cases hw
      · intro u hu h0
        rw [Mw.asc_snoc hq]
        rcases (hmem u).1 hu with q | rfl
        · have := h.f u q h0
          by_cases e : t.lv = u.lv
          · rw [← e, hq] at this; cases this
          · rw [if_neg e]; exact this
        · rw [if_pos rfl]
      · intro l w hw
        rw [Mw.asc_snoc hq] at hw
        by_cases e : t.lv = l
        · rw [if_pos e] at hw
          injection hw with hw
          exact ⟨by omega, t, (hmem t).2 (.inr rfl), e, hw⟩
        · rw [if_neg e] at hw
          obtain ⟨h1, u, hu, h2⟩ := h.r l w hw
          exact ⟨h1, u, (hmem u).2 (.inl hu), h2⟩
    | some w =>
      rw [if_neg (by simp)]
      have hwt : w = t.wy := Classical.byContradiction fun e => hc (by rw [hq]; exact ⟨rfl, e⟩)
      refine ⟨h.n, ?_, ?_, haa, hgg.1, hgg.2.1, hgg.2.2⟩
      · intro u hu h0
        rcases (hmem u).1 hu with q | rfl
        · exact h.f u q h0
        · rw [hq, hwt]
      · intro l w hw
        obtain ⟨h1, u, hu, h2⟩ := h.r l w hw
        exact ⟨h1, u, (hmem u).2 (.inl hu), h2⟩
  · rw [if_neg hp]
    refine ⟨h.n, ?_, ?_, haa, hgg.1, hgg.2.1, hgg.2.2⟩
    · intro u hu h0
      rcases (hmem u).1 hu with q | rfl
      · exact h.f u q h0
      · exact absurd h0 hp
    · intro l w hw
      obtain ⟨h1, u, hu, h2⟩ := h.r l w hw
      exact ⟨h1, u, (hmem u).2 (.inl hu), h2⟩
theorem rlF_iff : ∀ (r pre : List Tm) (m : List (Int × Int)) (g : Int), Inv pre m g → (rlF r m g = true ↔ LvGood (pre ++ r))
  | [], pre, m, g, h => by
    rw [List.append_nil, rlF, beq_iff_eq]
    have hin : ∀ x ∈ m.map Prod.fst, 1 ≤ x ∧ x ≤ (g.toNat : Int) := fun x hx => by
      obtain ⟨w, hw⟩ := h.key hx
      obtain ⟨h1, u, hu, h2, _⟩ := h.r x w hw
      have := h.g1 u hu
      have := h.g0
      omega
    obtain ⟨p1, p2⟩ := pigeons g.toNat (m.map Prod.fst) h.n hin
    rw [List.length_map] at p1 p2
    have hg0 := h.g0
    constructor
    · intro e
      refine ⟨h.a, fun t ht u hu h0 e' => ?_, fun t ht n q1 q2 => ?_⟩
      · have a1 := h.f t ht h0
        have a2 := h.f u hu (by omega)
        rw [e', a2] at a1
        injection a1 with a1
        exact a1.symm
      · have := h.g1 t ht
        have hk := p2 (by omega) n q1 (by omega)
        obtain ⟨w, hw⟩ := h.key hk
        obtain ⟨_, u, hu, h2, _⟩ := h.r _ w hw
        exact ⟨u, hu, h2⟩
    · intro hgd
      rcases h.g2 with q | ⟨t, ht, e⟩
      · omega
      · have : g.toNat ≤ (m.map Prod.fst).length := by
          have hh : ∀ n : Nat, 1 ≤ n → n ≤ g.toNat → ∃ t ∈ m.map (fun p => (⟨[], p.1, 0⟩ : Tm)), t.lv = (n : Int) := fun n q1 q2 => by
            obtain ⟨u, hu, e2⟩ := hgd.c t ht n q1 (by omega)
            have := h.f u hu (by omega)
            rw [e2] at this
            exact ⟨_, List.mem_map.2 ⟨_, Mw.asc_mem this, rfl⟩, rfl⟩
          have := few g.toNat _ hh
          simpa using this
        rw [List.length_map] at this
        omega
  | t :: r, pre, m, g, h => by
    rw [rlF]
    by_cases ha : asB t = false
    · rw [if_pos ha]
      simp only [Bool.false_eq_true, false_iff]
      intro q
      have := q.a t (by simp)
      rw [ha] at this; cases this
    · rw [if_neg ha]
      have ha : asB t = true := by simpa using ha
      by_cases hc : (Mw.asc m t.lv).isSome = true ∧ (Mw.asc m t.lv).getD 0 ≠ t.wy
      · rw [if_pos hc]
        simp only [Bool.false_eq_true, false_iff]
        intro q
        cases hq : Mw.asc m t.lv with
        | none => rw [hq] at hc; simp at hc
        | some w =>
          rw [hq] at hc
          obtain ⟨h1, u, hu, h2, h3⟩ := h.r _ w hq
          have := q.b u (by simp [hu]) t (by simp) (by omega) h2
          exact hc.2 (by simp only [Option.getD_some]; omega)
      · rw [if_neg hc, rlF_iff r (pre ++ [t]) _ _ (h.next ha hc), List.append_assoc, List.singleton_append]

theorem lev_inv {n : Int} : ∀ (ts : List Tm) (way : Int), (∀ t ∈ ts, t.lv = n → t.wy ≠ 0) → lev n ts way = true → (way ≠ 0 ∨ ∃ t ∈ ts, t.lv = n) ∧ ∃ w, (way = 0 ∨ way = w) ∧ ∀ t ∈ ts, t.lv = n → t.wy = w
  | [], way, _, h => by
    rw [lev] at h
    have : way ≠ 0 := by simpa using h
    exact ⟨.inl this, way, .inr rfl, by simp⟩
  | t :: r, way, hn, h => by
    rw [lev] at h
    by_cases h1 : t.lv ≠ n
    · rw [if_pos h1] at h
      obtain ⟨a, w, b, c⟩ := lev_inv r way (fun u hu => hn u (by simp [hu])) h
      refine ⟨?_, w, b, fun u hu e => ?_⟩
      · rcases a with a | ⟨u, hu, e⟩
        · exact .inl a
        · exact .inr ⟨u, by simp [hu], e⟩
      · rcases List.mem_cons.1 hu with rfl | hu
        · exact absurd e h1
        · exact c u hu e
    · rw [if_neg h1] at h
      have h1 : t.lv = n := Classical.byContradiction h1
      by_cases h2 : way ≠ 0 ∧ way ≠ t.wy
      · rw [if_pos h2] at h; cases h
      · rw [if_neg h2] at h
        obtain ⟨a, w, b, c⟩ := lev_inv r t.wy (fun u hu => hn u (by simp [hu])) h
        have hw : t.wy = w := by
          rcases b with b | b
          · exact absurd b (hn t (by simp) h1)
          · exact b
        refine ⟨.inr ⟨t, by simp, h1⟩, w, ?_, fun u hu e => ?_⟩
        · by_cases hw0 : way = 0
          · exact .inl hw0
          · refine .inr (Classical.byContradiction fun q => h2 ⟨hw0, fun e => q (e.trans hw)⟩)
        · rcases List.mem_cons.1 hu with rfl | hu
          · exact hw
          · exact c u hu e

/-- The levels of the document's own test. -/
def LvRef (ts : List Tm) : Prop := ∀ t ∈ ts, 0 ≤ t.lv ∧ t.lv ≤ 24 ∧ 0 ≤ t.wy ∧ t.wy ≤ 3 ∧ (t.lv = 0 ↔ t.wy = 0) ∧ ∀ n : Nat, n < t.lv.toNat → lev ((n + 1 : Nat) : Int) ts 0 = true
theorem lv_iff {ts : List Tm} (hl : ts.length ≤ 24) : LvGood ts ↔ LvRef ts := by
  constructor
  · intro h t ht
    have ha := (asB_iff t).1 (h.a t ht)
    have h24 : t.lv.toNat ≤ ts.length := few t.lv.toNat ts fun n q1 q2 => h.c t ht n q1 (by omega)
    refine ⟨ha.1, by omega, ha.2.1, ha.2.2.1, ha.2.2.2, fun n hn => ?_⟩
    obtain ⟨u, hu, e⟩ := h.c t ht (n + 1) (by omega) (by omega)
    have hau := (asB_iff u).1 (h.a u hu)
    exact lev_true (w := u.wy) (by omega) ts 0 (fun x hx ex => (h.b u hu x hx (by omega) (by omega)).symm) (.inl rfl) (.inr ⟨u, hu, e⟩)
  · intro h
    refine ⟨fun t ht => (asB_iff t).2 ?_, fun t ht u hu h0 e => ?_, fun t ht n q1 q2 => ?_⟩
    · obtain ⟨h1, h2, h3, h4, h5, _⟩ := h t ht
      exact ⟨h1, h3, h4, h5⟩
    · obtain ⟨h1, h2, h3, h4, h5, h6⟩ := h t ht
      have hl := h6 (t.lv.toNat - 1) (by omega)
      have hn : ((t.lv.toNat - 1 + 1 : Nat) : Int) = t.lv := by omega
      rw [hn] at hl
      obtain ⟨_, w, _, c⟩ := lev_inv ts 0 (fun x hx ex q => by have := (h x hx).2.2.2.2.1; omega) hl
      rw [c t ht rfl, c u hu e.symm]
    · obtain ⟨h1, h2, h3, h4, h5, h6⟩ := h t ht
      have hl := h6 (n - 1) (by omega)
      have hn : ((n - 1 + 1 : Nat) : Int) = (n : Int) := by omega
      rw [hn] at hl
      obtain ⟨a, _⟩ := lev_inv ts 0 (fun x hx ex q => by have := (h x hx).2.2.2.2.1; omega) hl
      rcases a with a | a
      · exact absurd rfl a
      · exact a
theorem nodup_find {l : List (List Int)} (h : ∀ i (hi : i < l.length), find l l[i] = (i : Int)) : l.Nodup := by
  rw [List.nodup_iff_pairwise_ne, List.pairwise_iff_getElem]
  intro i j hi hj hij e
  have h1 := h i hi
  have h2 := h j hj
  rw [e, h2] at h1
  omega
theorem terms_iff (ts : List Tm) : terms ts = true ↔ ts.length ≤ 24 ∧ (∀ t ∈ ts, named t.nm = true) ∧ (names ts).Nodup ∧ LvRef ts := by
  unfold terms
  rw [Bool.and_eq_true, decide_eq_true_eq, decide_eq_true_eq]
  have hnl : (names ts).length = ts.length := names_len ts
  have hni : ∀ i (h : i < ts.length), (names ts)[i]'(by omega) = ts[i].nm := fun i h => by simp [names]
  constructor
  · rintro ⟨h1, h2⟩
    have h3 : ∀ i (h : i < ts.length), named ts[i].nm = true ∧ find (names ts) ts[i].nm = (i : Int) ∧ 0 ≤ ts[i].lv ∧ ts[i].lv ≤ 24 ∧ 0 ≤ ts[i].wy ∧ ts[i].wy ≤ 3 ∧ (ts[i].lv = 0 ↔ ts[i].wy = 0) ∧ ∀ n : Nat, n < ts[i].lv.toNat → lev ((n + 1 : Nat) : Int) ts 0 = true := fun i h => by
      have := h2 i h
      unfold term1 at this
      simp only [Bool.and_eq_true, decide_eq_true_eq, beq_iff_eq] at this
      obtain ⟨⟨⟨⟨⟨⟨⟨a, b⟩, c⟩, d⟩, e⟩, f⟩, g⟩, k⟩ := this
      refine ⟨a, b, c, d, e, f, ?_, k⟩
      rw [Bool.eq_iff_iff, beq_iff_eq, beq_iff_eq] at g
      exact g
    refine ⟨h1, fun t ht => ?_, nodup_find fun i hi => ?_, fun t ht => ?_⟩
    · obtain ⟨i, hi, rfl⟩ := List.getElem_of_mem ht; exact (h3 i hi).1
    · rw [hni i (by omega)]; exact (h3 i (by omega)).2.1
    · obtain ⟨i, hi, rfl⟩ := List.getElem_of_mem ht; exact (h3 i hi).2.2
  · rintro ⟨h1, h2, h3, h4⟩
    refine ⟨h1, fun i hi => ?_⟩
    unfold term1
    simp only [Bool.and_eq_true, decide_eq_true_eq, beq_iff_eq]
    obtain ⟨c, d, e, f, g, k⟩ := h4 _ (List.getElem_mem hi)
    refine ⟨⟨⟨⟨⟨⟨⟨h2 _ (List.getElem_mem hi), ?_⟩, c⟩, d⟩, e⟩, f⟩, ?_⟩, k⟩
    · rw [← hni i hi]; exact find_self h3 i (by omega)
    · rw [Bool.eq_iff_iff, beq_iff_eq, beq_iff_eq]; exact g
theorem nons_iff (G : Gr) : nons G = true ↔ 1 ≤ G.ns.length ∧ G.ns.length ≤ 16 ∧ (∀ s ∈ G.ns, T.isName s = true) ∧ G.ns.Nodup ∧ ∀ s ∈ G.ns, s ∉ names G.ts := by
  unfold nons
  rw [Bool.and_eq_true, Bool.and_eq_true, decide_eq_true_eq, decide_eq_true_eq, decide_eq_true_eq]
  constructor
  · rintro ⟨⟨h1, h2⟩, h3⟩
    have h4 : ∀ i (h : i < G.ns.length), T.isName G.ns[i] = true ∧ find G.ns G.ns[i] = (i : Int) ∧ find (names G.ts) G.ns[i] < 0 := fun i h => by
      have := h3 i h
      unfold non1 non term at this
      simp only [Bool.and_eq_true, decide_eq_true_eq, beq_iff_eq] at this
      exact ⟨this.1.1, this.1.2, this.2⟩
    refine ⟨h1, h2, fun s hs => ?_, nodup_find fun i hi => (h4 i hi).2.1, fun s hs => ?_⟩
    · obtain ⟨i, hi, rfl⟩ := List.getElem_of_mem hs; exact (h4 i hi).1
    · obtain ⟨i, hi, rfl⟩ := List.getElem_of_mem hs; exact find_none.1 (h4 i hi).2.2
  · rintro ⟨h1, h2, h3, h4, h5⟩
    refine ⟨⟨h1, h2⟩, fun i hi => ?_⟩
    unfold non1 non term
    simp only [Bool.and_eq_true, decide_eq_true_eq, beq_iff_eq]
    exact ⟨⟨h3 _ (List.getElem_mem hi), find_self h4 i hi⟩, find_none.2 (h5 _ (List.getElem_mem hi))⟩
theorem rn_iff (G : Gr) : rnB G = true ↔ G.ts.length ≤ 24 ∧ 1 ≤ G.ns.length ∧ G.ns.length ≤ 16 ∧ (∀ t ∈ G.ts, named t.nm = true) ∧ (∀ s ∈ G.ns, T.isName s = true) ∧ (names G.ts ++ G.ns).Nodup := by
  unfold rnB nmL
  simp only [Bool.and_eq_true, decide_eq_true_eq, List.all_eq_true, List.length_map]
  have h := (dd_len [] (names G.ts ++ G.ns) (by simp)).2
  simp only [List.length_nil, Nat.zero_add, List.nil_append, List.length_append, names_len] at h
  rw [h]
  constructor
  · rintro ⟨⟨⟨⟨⟨a, b⟩, c⟩, d⟩, e⟩, f⟩; exact ⟨a, b, c, d, e, f⟩
  · rintro ⟨a, b, c, d, e, f⟩; exact ⟨⟨⟨⟨⟨a, b⟩, c⟩, d⟩, e⟩, f⟩
theorem ru_eq (G : Gr) (x : Rl) : ruB G x = rule G x := by
  rw [Bool.eq_iff_iff]
  unfold ruB rule
  have hn : x.r.any (noHas G) = false ↔ ∀ z ∈ x.r, has G z = true := by
    rw [List.any_eq_false]
    unfold noHas
    constructor
    · intro h z hz; have := h z hz; simpa using this
    · intro h z hz; rw [h z hz]; simp
  have ht : x.r.any isT = false ↔ ∀ z ∈ x.r, ¬ 0 ≤ z := by
    rw [List.any_eq_false]
    unfold isT
    constructor
    · intro h z hz; simpa using h z hz
    · intro h z hz; simpa using h z hz
  simp only [Bool.and_eq_true, decide_eq_true_eq, Bool.not_eq_true', List.all_eq_true, hn]
  by_cases hp : x.p = -1
  · rw [if_pos hp]
    simp only [Bool.not_eq_true', ht, hp, beq_self_eq_true, Bool.and_true, decide_eq_false_iff_not]
    constructor
    · rintro ⟨⟨a, b⟩, c⟩; exact ⟨⟨⟨a, by omega⟩, by omega⟩, fun z hz => ⟨b z hz, c z hz⟩⟩
    · rintro ⟨⟨⟨a, _⟩, _⟩, b⟩; exact ⟨⟨a, fun z hz => (b z hz).1⟩, fun z hz => (b z hz).2⟩
  · rw [if_neg hp]
    have hp' : (x.p == -1) = false := by simpa using hp
    simp only [hp', Bool.and_false, and_true, Bool.and_eq_true]
    unfold isT has
    rw [decide_eq_true_eq]
    constructor
    · rintro ⟨⟨a, b⟩, c, d⟩
      rw [if_pos c, decide_eq_true_eq] at d
      exact ⟨⟨⟨a, by omega⟩, d⟩, b⟩
    · rintro ⟨⟨⟨a, b⟩, c⟩, d⟩
      have h0 : 0 ≤ x.p := by omega
      exact ⟨⟨a, d⟩, h0, by rw [if_pos h0, decide_eq_true_eq]; exact c⟩
theorem rr_eq (G : Gr) : ∀ (rs : List Rl) (top : Int), rrF G rs (top + 1) = rules G rs top
  | [], top => by
    rw [rrF, rules, Bool.eq_iff_iff, beq_iff_eq, beq_iff_eq]
    omega
  | r :: rs, top => by
    rw [rrF, rules, ru_eq]
    by_cases h : r.l < 0 ∨ top + 1 < r.l ∨ rule G r = false
    · rw [if_pos h, if_pos h]
    · rw [if_neg h, if_neg h]
      rw [← rr_eq G rs]
      congr 1
      by_cases h2 : top < r.l
      · rw [if_pos h2]; omega
      · rw [if_neg h2]; omega
theorem right_eq (G : Gr) : cfgRight G = right G := by
  rw [Bool.eq_iff_iff]
  unfold cfgRight right rrB
  have hrr := rr_eq G G.rs (-1)
  rw [show (-1 : Int) + 1 = 0 from rfl] at hrr
  simp only [Bool.and_eq_true, decide_eq_true_eq, hrr, rn_iff, terms_iff, nons_iff]
  have hlv := rlF_iff G.ts [] [] 0 Inv.nil
  rw [List.nil_append] at hlv
  rw [hlv, List.nodup_append]
  constructor
  · rintro ⟨⟨⟨⟨⟨a, b, c, d, e, f1, f2, f3⟩, g⟩, h, k⟩, l⟩, m⟩
    refine ⟨⟨⟨⟨⟨⟨⟨a, d, f1, (lv_iff a).1 g⟩, b, c, e, f2, fun s hs q => f3 s q s hs rfl⟩, ?_⟩, h⟩, l⟩, m⟩, k⟩
    rcases hz : G.rs with _ | ⟨x, r⟩
    · rw [hz, rules, beq_iff_eq] at k; omega
    · simp
  · rintro ⟨⟨⟨⟨⟨⟨⟨a, d, f1, g⟩, b, c, e, f2, f3⟩, _⟩, h⟩, l⟩, m⟩, k⟩
    exact ⟨⟨⟨⟨⟨a, b, c, d, e, f1, f2, fun s hs q hq ee => f3 q hq (ee ▸ hs)⟩, (lv_iff a).2 g⟩, h, k⟩, l⟩, m⟩
end Gm

theorem gright_any (v : Value) (G : Gm.Gr) (B : Nat) (w : World) (hg : RdGr w B v G) (hf : Gm.Fit G) (hB : B ≤ w.heap.size) :
    Calls Tryd.prog 11 #[v] w fun e w' => e = .returned (.bool (Gm.right G)) ∧ Below w.heap.size w w' := by
  rw [← Gm.right_eq]
  exact gright_raw v G B w hg hf hB
end Go.Proofs.YtkfelkpilaipnaaDoor

namespace Go.Proofs.YtkfelkpilaipnaaDoor
set_option maxRecDepth 100000
open Go.RowKit

namespace Sh
open Gm Y
/-- What is printed: a text, or none, and why. -/
def pr (G : Gr) : List Int × Int := if right G = true then (if 4000 < (text G).length then ([], 5) else (text G, 0)) else ([], 1)
theorem joinW_len (ws : List (List Int)) (h : ∀ w ∈ ws, w.length ≤ 20) : (joinW ws).length ≤ 21 * ws.length := by
  induction ws with
  | nil => simp [joinW]
  | cons w r ih => cases r with
    | nil => have := h w (by simp); simp [joinW]; omega
    | cons v r =>
      have h1 := h w (by simp)
      have h2 := ih (fun x hx => h x (by simp [hx]))
      simp only [joinW, List.length_append, List.length_cons] at h2 ⊢
      omega
theorem flat_len (ls : List (List (List Int))) (h : ∀ l ∈ ls, l.length ≤ 27 ∧ ∀ w ∈ l, w.length ≤ 20) : (flat ls).length ≤ 600 * ls.length := by
  induction ls with
  | nil => simp [flat]
  | cons l r ih =>
    have h1 := joinW_len l (h l (by simp)).2
    have h3 := (h l (by simp)).1
    have h2 := ih (fun x hx => h x (by simp [hx]))
    unfold flat at h2 ⊢
    rw [List.flatMap_cons, List.length_append]
    unfold lineOf at h2 ⊢
    simp only [List.length_append, List.length_cons, List.length_nil] at h2 ⊢
    omega
theorem named_len {w : List Int} (h : named w = true) : w.length ≤ 20 := by
  unfold named at h
  rw [Bool.or_eq_true] at h
  rcases h with h | h
  · exact (Sh.name_pos h).2
  · have := T.isLit_len h; omega
theorem name_len {G : Gr} (hg : Rt G) (z : Int) (hz : has G z = true) : (name G z).length ≤ 20 := by
  unfold name
  rw [if_pos hz]
  unfold has at hz
  by_cases h0 : 0 ≤ z
  · rw [if_pos h0] at hz ⊢
    have hz : z < G.ts.length := by simpa using hz
    rw [names_getD _ (by omega)]
    exact named_len (hg.tn z.toNat (by omega))
  · rw [if_neg h0] at hz ⊢
    have hz : -1 - z < G.ns.length := by simpa using hz
    rw [getD_at _ _ _ (by omega)]
    exact (Sh.name_pos (hg.nn (-1 - z).toNat (by omega)).1).2
theorem lines_len {G : Gr} (hg : Rt G) : (lines G).length ≤ 90 ∧ ∀ l ∈ lines G, l ≠ [] ∧ l.length ≤ 27 ∧ ∀ w ∈ l, w.length ≤ 20 := by
  have hTop : top G.ts ≤ 24 := by
    rcases top_has G.ts with e | ⟨t, hm, e⟩
    · omega
    · rw [← e]; exact (hg.tl t hm).2.1
  refine ⟨?_, fun l hl => ⟨(lines_wd hg l hl).1, ?_⟩⟩
  · unfold lines
    have h1 := hg.t24
    have h2 := hg.r1
    simp only [List.length_append, List.length_map, List.length_cons, List.length_nil]
    unfold tokens levels
    rw [List.length_map, List.length_map, List.length_range]
    omega
  unfold lines at hl
  simp only [List.mem_append, List.mem_singleton] at hl
  rcases hl with (((hl | hl) | hl) | hl) | hl
  · obtain ⟨t, ht, rfl⟩ := List.mem_map.1 hl
    obtain ⟨i, hi, rfl⟩ := List.getElem_of_mem ht
    refine ⟨by simp, fun w hw => ?_⟩
    rcases List.mem_cons.1 hw with rfl | hw
    · decide
    · rw [List.mem_singleton.1 hw]; exact named_len (hg.tn i hi)
  · unfold levels at hl
    obtain ⟨i, hi, rfl⟩ := List.mem_map.1 hl
    refine ⟨Nat.le_trans (level_len _ _) (by have := hg.t24; omega), ?_⟩
    obtain ⟨t, r, e, hw, hall⟩ := level_some hg i (by simpa using hi)
    unfold level
    rw [e]
    intro w hw'
    rcases List.mem_cons.1 hw' with rfl | hw'
    · rcases hw with q | q | q <;> rw [q] <;> decide
    · obtain ⟨s, hs, rfl⟩ := List.mem_map.1 hw'
      have : s ∈ onLev G.ts ((i + 1 : Nat) : Int) := by rw [e]; exact hs
      obtain ⟨j, hj, rfl⟩ := List.getElem_of_mem (List.mem_filter.1 this).1
      exact named_len (hg.tn j hj)
  · subst hl
    have hs := hg.s0
    refine ⟨by simp, fun w hw => ?_⟩
    rcases List.mem_cons.1 hw with rfl | hw
    · decide
    · rw [List.mem_singleton.1 hw, getD_at _ _ _ (by omega)]
      exact (Sh.name_pos (hg.nn _ (by omega)).1).2
  · subst hl
    exact ⟨by simp, fun w hw => by rw [List.mem_singleton.1 hw]; decide⟩
  · obtain ⟨r, hr, rfl⟩ := List.mem_map.1 hl
    obtain ⟨l0, l1, hru⟩ := (rules_le G G.rs _ hg.rr).2 r hr
    obtain ⟨a1, a2, a3, a4, a5⟩ := rule_parts hru
    refine ⟨by unfold rule; split <;> simp <;> omega, fun w hw => ?_⟩
    unfold rule at hw
    simp only [List.mem_cons, List.mem_append] at hw
    rcases hw with rfl | rfl | (hw | hw) | hw
    · rw [getD_at _ _ _ (by omega)]
      exact (Sh.name_pos (hg.nn _ (by omega)).1).2
    · decide
    · obtain ⟨z, hz, rfl⟩ := List.mem_map.1 hw
      exact name_len hg z (a4 z hz)
    · split at hw
      · cases hw
      · rename_i hne
        simp only [List.mem_cons, List.not_mem_nil, or_false] at hw
        rcases hw with rfl | rfl
        · decide
        · exact name_len hg r.p (by unfold has; rw [if_pos (a5 hne)]; simpa using a3)
    · simp only [List.not_mem_nil, or_false] at hw
      rw [hw]; decide
end Sh

set_option maxHeartbeats 2000000 in
theorem print_any (v : Value) (G : Gm.Gr) (B : Nat) (w : World) (hg : RdGr w B v G) (hf : Gm.Fit G) (hB : B ≤ w.heap.size) :
    Calls Tryd.prog 6 #[v] w fun e w' => e = .returned (.tuple #[.string (K.str (Sh.pr G).1), .int .i64 (Sh.pr G).2]) ∧ Below w.heap.size w w' := by
  have HG := hide hg
  obtain ⟨AT, cT, AN, cN, AR, cR, rfl, _, _, _, _, _, _⟩ := hg
  have HRI := hide (fun (x : World) (h : Below w.heap.size w x) => gright_any _ G B x (HG.out.below h hB) hf (Nat.le_trans hB h.size))
  have HS0 := hide (One.start w #[.slice AT G.ts.length cT, .slice AN G.ns.length cN, .slice AR G.rs.length cR, .int .i64 G.st])
  have HS0b := hide HS0.out.below
  by_cases hr : Gm.right G = true
  · have hrt := Gm.rt_of hr
    have hll := Sh.lines_len hrt
    have hfl := Sh.flat_len (Sh.lines G) (fun l hl => (hll.2 l hl).2)
    have HLI := hide (fun (x : World) (h : Below w.heap.size w x) => lines_any _ G B x (HG.out.below h hB) hf hr (Nat.le_trans hB h.size))
    have HJO := hide (fun (x : World) (base : Nat) (A : Option Addr) (n c : Nat) (ho : OwnL x base (.slice A n c) (Sh.lines G)) => joined_any A base n c (Sh.lines G) x ho (fun l hl => (hll.2 l hl).1) (by omega) (fun l hl => by have := (hll.2 l hl).2.1; omega) (by omega))
    rw [hr] at HRI
    have HPR : Hid (Sh.pr G = if 4000 < (Sh.text G).length then ([], 5) else (Sh.text G, 0)) := hide (by unfold Sh.pr; rw [if_pos hr])
    have HTX : Hid (Sh.flat (Sh.lines G) = Sh.text G) := hide rfl
    have hsz : (K.str (Sh.text G)).size = (Sh.text G).length := by show (K.bytes _).toArray.size = _; rw [List.size_toArray, K.bytes_len]
    rw [HPR.out]
    rw [HTX.out] at HJO
    clear hrt hll hfl hf hr
    obtain ⟨n, hn⟩ : ∃ n, n = (Sh.text G).length := ⟨_, rfl⟩
    rw [← hn] at hsz ⊢
    generalize Sh.text G = tx at *
    generalize Sh.lines G = li at *
    by_cases h4 : 4000 < n
    · rw [if_pos h4]
      have h4' : (n : Int) > 4000 := by omega
      go_enter Tryd.func6, Tryd.ntmps6
      go_wp2_with fail
      refine (HRI.out _ HS0b.out).mono ?_; rintro _ w1 ⟨rfl, hb1⟩
      have hs1 := HS0.out.on hb1
      have HB1 := hide hs1.below
      have q0 := hs1.c 0 _ rfl
      have q1 := hs1.c 1 _ rfl
      have q2 := hs1.c 2 _ rfl
      have q3 := hs1.c 3 _ rfl
      have hz1 : w.heap.size < w1.heap.size := by have := hs1.size; omega
      clear hb1 hs1
      go_wp2_with fail
      refine (HLI.out _ HB1.out).mono ?_; rintro _ w2 ⟨v2, rfl, ho2, hb2⟩
      have HB2 := hide (HB1.out.trans (hb2.mono HB1.out.size))
      obtain ⟨A2, c2, rfl, _, _⟩ := ho2.form
      have HJ2 := hide (HJO.out _ _ _ _ _ ho2)
      clear ho2 hb2
      go_wp2_with fail
      refine HJ2.out.mono ?_; rintro _ w3 ⟨rfl, hb3⟩
      have HB3 := hide (HB2.out.trans (hb3.mono HB2.out.size))
      clear hb3
      go_wp2
      go_ret2
      exact ⟨rfl, HB3.out⟩
    · rw [if_neg h4]
      have h4' : ¬ (n : Int) > 4000 := by omega
      go_enter Tryd.func6, Tryd.ntmps6
      go_wp2_with fail
      refine (HRI.out _ HS0b.out).mono ?_; rintro _ w1 ⟨rfl, hb1⟩
      have hs1 := HS0.out.on hb1
      have HB1 := hide hs1.below
      have q0 := hs1.c 0 _ rfl
      have q1 := hs1.c 1 _ rfl
      have q2 := hs1.c 2 _ rfl
      have q3 := hs1.c 3 _ rfl
      have hz1 : w.heap.size < w1.heap.size := by have := hs1.size; omega
      clear hb1 hs1
      go_wp2_with fail
      refine (HLI.out _ HB1.out).mono ?_; rintro _ w2 ⟨v2, rfl, ho2, hb2⟩
      have HB2 := hide (HB1.out.trans (hb2.mono HB1.out.size))
      obtain ⟨A2, c2, rfl, _, _⟩ := ho2.form
      have HJ2 := hide (HJO.out _ _ _ _ _ ho2)
      clear ho2 hb2
      go_wp2_with fail
      refine HJ2.out.mono ?_; rintro _ w3 ⟨rfl, hb3⟩
      have HB3 := hide (HB2.out.trans (hb3.mono HB2.out.size))
      clear hb3
      go_wp2
      go_ret2
      exact ⟨rfl, HB3.out⟩
  · rw [Bool.eq_false_iff.2 hr] at HRI
    have HPR : Hid (Sh.pr G = ([], 1)) := hide (by unfold Sh.pr; rw [if_neg hr])
    rw [HPR.out]
    clear hr hf
    go_enter Tryd.func6, Tryd.ntmps6
    go_wp2_with fail
    refine (HRI.out _ HS0b.out).mono ?_; rintro _ w1 ⟨rfl, hb1⟩
    have HB1 := hide (HS0.out.on hb1).below
    clear hb1
    go_wp2
    go_ret2
    exact ⟨rfl, HB1.out⟩
end Go.Proofs.YtkfelkpilaipnaaDoor

namespace Go.Proofs.YtkfelkpilaipnaaDoor
open Go.RowKit

namespace K
def P : Nat := 3988292384
def clk (c : Nat) : Nat := c / 2 ^^^ (if c % 2 = 1 then P else 0)
def clkN : Nat → Nat → Nat
  | 0, c => c
  | n + 1, c => clkN n (clk c)
def top : Nat := 4294967295
/-- What is left of a state and all bytes, byte by byte. -/
def run (c : Nat) (l : List Int) : Nat := l.foldl (fun c z => clkN 8 (c ^^^ z.toNat)) c
def more (s : Nat) (l : List Int) : Nat := top - run (top - s) l
def sum (l : List Int) : Nat := more 0 l

theorem xor_div2 (a b : Nat) : (a ^^^ b) / 2 = a / 2 ^^^ b / 2 := by
  apply Nat.eq_of_testBit_eq; intro i
  rw [Nat.testBit_xor, ← Nat.testBit_succ, ← Nat.testBit_succ, ← Nat.testBit_succ, Nat.testBit_xor]
theorem xor_mod2 (a b : Nat) : (a ^^^ b) % 2 = (a % 2 + b % 2) % 2 := by
  have h := Nat.testBit_xor a b 0
  simp only [Nat.testBit_zero] at h
  rcases Nat.mod_two_eq_zero_or_one a with ha | ha <;> rcases Nat.mod_two_eq_zero_or_one b with hb | hb <;> rcases Nat.mod_two_eq_zero_or_one (a ^^^ b) with hc | hc <;> simp [ha, hb, hc] at h ⊢
theorem clk_xor (a b : Nat) : clk (a ^^^ b) = clk a ^^^ clk b := by
  unfold clk
  rw [xor_div2, xor_mod2]
  have e : ∀ x y z : Nat, (x ^^^ y) ^^^ z = (x ^^^ z) ^^^ y := fun x y z => by rw [Nat.xor_assoc, Nat.xor_comm y z, ← Nat.xor_assoc]
  rcases Nat.mod_two_eq_zero_or_one a with ha | ha <;> rcases Nat.mod_two_eq_zero_or_one b with hb | hb <;> rw [ha, hb] <;> simp
  · rw [Nat.xor_assoc]
  · rw [e]
  · rw [← Nat.xor_assoc, e (a / 2) P (b / 2), Nat.xor_assoc _ P P, Nat.xor_self, Nat.xor_zero]
theorem clkN_xor : ∀ (n a b : Nat), clkN n (a ^^^ b) = clkN n a ^^^ clkN n b
  | 0, _, _ => rfl
  | n + 1, a, b => by show clkN n (clk (a ^^^ b)) = _; rw [clk_xor, clkN_xor n]; rfl
theorem clkN_add : ∀ (m n c : Nat), clkN (m + n) c = clkN n (clkN m c)
  | 0, n, c => by rw [Nat.zero_add]; rfl
  | m + 1, n, c => by rw [show m + 1 + n = (m + n) + 1 by omega]; exact clkN_add m n (clk c)
theorem clk_double (c : Nat) : clk (2 * c) = c := by unfold clk; rw [show 2 * c / 2 = c by omega, if_neg (by omega), Nat.xor_zero]
theorem clkN_shift : ∀ (n c : Nat), clkN n (2 ^ n * c) = c
  | 0, c => by show 2 ^ 0 * c = c; omega
  | n + 1, c => by
    show clkN n (clk (2 ^ (n + 1) * c)) = c
    rw [Nat.pow_succ, show 2 ^ n * 2 * c = 2 * (2 ^ n * c) by rw [Nat.mul_comm (2 ^ n) 2, Nat.mul_assoc], clk_double, clkN_shift n]
theorem xor_lt {a b : Nat} (ha : a < 4294967296) (hb : b < 4294967296) : a ^^^ b < 4294967296 := by
  have := Nat.xor_lt_two_pow (n := 32) (x := a) (y := b) (by omega) (by omega); omega
theorem clk_lt {c : Nat} (h : c < 4294967296) : clk c < 4294967296 := by
  unfold clk
  refine xor_lt (by omega) ?_
  split
  · unfold P; omega
  · omega
theorem clkN_lt : ∀ (n : Nat) {c : Nat}, c < 4294967296 → clkN n c < 4294967296
  | 0, _, h => h
  | n + 1, _, h => clkN_lt n (clk_lt h)
/-- One bit, as the document says it: the state's lowest bit is held against the byte's. -/
theorem bit_step (c x : Nat) : (if c % 2 ≠ x % 2 then c / 2 ^^^ P else c / 2) ^^^ x / 2 = clk (c ^^^ x) := by
  unfold clk
  rw [xor_div2, xor_mod2]
  have e : ∀ x y z : Nat, (x ^^^ y) ^^^ z = (x ^^^ z) ^^^ y := fun x y z => by rw [Nat.xor_assoc, Nat.xor_comm y z, ← Nat.xor_assoc]
  rcases Nat.mod_two_eq_zero_or_one c with hc | hc <;> rcases Nat.mod_two_eq_zero_or_one x with hx | hx <;> rw [hc, hx] <;> simp
  · rw [e]
  · rw [e]

theorem run_lt (l : List Int) (h : Bytes l) : ∀ {c : Nat}, c < 4294967296 → run c l < 4294967296 := by
  induction l with
  | nil => intro c hc; exact hc
  | cons z r ih =>
    intro c hc
    have hz := h.hd
    exact ih h.tl (clkN_lt 8 (xor_lt hc (by omega)))
theorem join_xor4 (z n : Nat) (h : z < 16) : z + 16 * n = z ^^^ 16 * n := by
  have := Nat.two_pow_add_eq_or_of_lt (i := 4) (b := z) (by omega) n
  rw [show (2 : Nat) ^ 4 = 16 from rfl] at this
  rw [Nat.add_comm, this]
  apply Nat.eq_of_testBit_eq; intro i
  rw [Nat.testBit_or, Nat.testBit_xor]
  by_cases hi : i < 4
  · rw [show 16 * n = 2 ^ 4 * n from rfl, Nat.mul_comm (2 ^ 4), Nat.testBit_mul_two_pow]
    have : ¬ 4 ≤ i := by omega
    simp [this]
  · have : z.testBit i = false := Nat.testBit_lt_two_pow (Nat.lt_of_lt_of_le (show z < 2 ^ 4 by omega) (Nat.pow_le_pow_right (by decide) (by omega)))
    rw [this]; simp
theorem top_sub {c : Nat} (h : c < 4294967296) : top - c = top ^^^ c := by
  have := Nat.xor_comm top c
  rw [this]
  have e := Nat.testBit_two_pow_sub_succ (n := 32) (x := c) (by omega)
  apply Nat.eq_of_testBit_eq; intro i
  rw [show top - c = 2 ^ 32 - (c + 1) by unfold top; omega, e, Nat.testBit_xor, show top = 2 ^ 32 - 1 from rfl, Nat.testBit_two_pow_sub_one]
  by_cases hi : i < 32
  · simp [hi]
  · have : c.testBit i = false := Nat.testBit_lt_two_pow (Nat.lt_of_lt_of_le (show c < 2 ^ 32 by omega) (Nat.pow_le_pow_right (by decide) (by omega)))
    simp [hi, this]
end K

namespace K
def fours : List Nat := [0, 498536548, 997073096, 651767980, 1994146192, 1802195444, 1303535960, 1342533948, 3988292384, 4027552580, 3604390888, 3412177804, 2607071920, 2262029012, 2685067896, 3183342108]
theorem fours_at : ∀ i : Fin 16, fours.getD i.1 0 = clkN 4 i.1 := by decide +kernel
theorem four_step (s : Nat) : s / 16 ^^^ fours.getD (s % 16) 0 = clkN 4 s := by
  rw [fours_at ⟨s % 16, by omega⟩]
  have h := join_xor4 (s % 16) (s / 16) (by omega)
  have e : s = s % 16 ^^^ 16 * (s / 16) := by rw [← h]; omega
  conv => rhs; rw [e]
  rw [clkN_xor, show 16 * (s / 16) = 2 ^ 4 * (s / 16) from rfl, clkN_shift, Nat.xor_comm]
theorem byte_step (c z : Nat) : clkN 4 (clkN 4 (c ^^^ z)) = clkN 8 (c ^^^ z) := (clkN_add 4 4 _).symm
theorem run_snoc (c : Nat) (l : List Int) (z : Int) : run c (l ++ [z]) = clkN 8 (run c l ^^^ z.toNat) := by unfold run; rw [List.foldl_append]; rfl
theorem fours_lt : ∀ i : Fin 16, fours.getD i.1 0 < 4294967296 := by decide +kernel
end K

/-- The table of sixteen as the program lays it. -/
def Fours (w : World) : Prop := Lib.TabIs Tryd.prog w "gerund/crc.fours" .u32 (K.fours.map Int.ofNat)
theorem Fours.below {w w' : World} (h : Fours w) (hb : Below w.heap.size w w') : Fours w' := by
  unfold Fours Lib.TabIs at *
  have hg : Tryd.prog.globalNamed "gerund/crc.fours" = some 0 := by kernel_rfl
  refine var?_below hb hg ?_ h
  have h' := h
  unfold World.var? at h'
  rw [hg] at h'
  simp only [Option.bind_some] at h'
  rcases Nat.lt_or_ge 0 w.heap.size with hl | hl
  · exact hl
  · rw [Array.getElem?_eq_none hl] at h'; simp at h'
theorem fours_cell (k i : Nat) (hi : i < 16) (h2 : K.fours.getD i 0 = k) : ((K.fours.map Int.ofNat).map fun z => Value.int .u32 z)[i]? = some (.int .u32 (k : Int)) := by
  have hl : i < K.fours.length := hi
  rw [List.getD, List.getElem?_eq_getElem hl] at h2
  simp only [Option.getD_some] at h2
  rw [List.getElem?_map, List.getElem?_map, List.getElem?_eq_getElem hl, h2]
  rfl
theorem Fours.cell {w : World} (h : Fours w) (i : Nat) (hi : i < 16) : w.cell? ⟨0, i, none⟩ = some (.int .u32 ((K.fours.getD i 0 : Nat) : Int)) := by
  have hg : Tryd.prog.globalNamed "gerund/crc.fours" = some 0 := by kernel_rfl
  rw [World.var?_cell hg h, List.getElem?_toArray]
  exact fours_cell _ i hi rfl

theorem not_u32 (s : Nat) (h : s < 4294967296) : bits .xor .u32 IntKind.u32.max (s : Int) = ((K.top - s : Nat) : Int) := by
  have := u32_xor_nat 4294967295 s (by omega) h
  rw [show (4294967295 : Nat) = K.top from rfl, ← K.top_sub h] at this
  exact this
theorem shr4 (x : Nat) : (x : Int) / 16 = ((x / 16 : Nat) : Int) := by omega
theorem mod16 (x : Nat) : (x : Int) % 16 = ((x % 16 : Nat) : Int) := by omega

set_option maxHeartbeats 1000000 in
theorem more_any (s : Nat) (A : Option Addr) (c B : Nat) (l : List Int) (w : World) (hs : s < 4294967296) (hr : RdB w B A l) (hl : K.Bytes l) (hn : l.length ≤ 9223372036854775807) (ht : Fours w) :
    Calls Tryd.prog 37 #[.int .u32 s, .slice A l.length c] w fun e w' => e = .returned (.int .u32 (K.more s l)) ∧ w' = w := by
  have E0 := hide (not_u32 s hs)
  go_enter Tryd.func37, Tryd.ntmps37
  go_wp2
  go_loop [12, 5] (fun vi vs => ∃ (k : Nat), k ≤ l.length ∧ vi = .int .i64 k ∧ vs = .int .u32 (K.run (K.top - s) (l.take k))) (fun vi _ => l.length - (intOf vi).toNat)
  case atStart => exact ⟨0, by omega, rfl, by rw [E0.out]; rfl⟩
  case round =>
    obtain ⟨k, hk, rfl, rfl⟩ := hrel
    by_cases hlt : k < l.length
    · obtain ⟨g, o, rfl, _, hc⟩ := hr (by omega)
      have hcell := hc k hlt
      have hz := hl.getD k
      have hst := hide (show K.clkN 4 (K.clkN 4 (K.run (K.top - s) (l.take k) ^^^ (l.getD k 0).toNat)) = K.run (K.top - s) (l.take (k + 1)) by rw [L.take_snoc l k hlt, K.run_snoc, K.byte_step])
      have hlt1 := K.run_lt (l.take k) (hl.take k) (c := K.top - s) (by unfold K.top; omega)
      generalize l.getD k 0 = z at *
      generalize K.run (K.top - s) (l.take k) = r at *
      obtain ⟨b, rfl⟩ := Int.eq_ofNat_of_zero_le hz.1
      rw [Int.toNat_natCast] at hst
      have hb : b < 256 := by omega
      clear hc hz
      have e1 := u32_xor_nat r b hlt1 (by omega)
      have hx := K.xor_lt hlt1 (show b < 4294967296 by omega)
      generalize r ^^^ b = x at *
      have q1 := hide (shr4 x)
      have m1 := hide (mod16 x)
      have c1 := ht.cell (x % 16) (by omega)
      have f1 := K.fours_lt ⟨x % 16, by omega⟩
      have e2 := u32_xor_nat (x / 16) (K.fours.getD (x % 16) 0) (by omega) f1
      rw [K.four_step] at e2
      have hy := K.clkN_lt 4 hx
      generalize K.clkN 4 x = y at *
      have q2 := hide (shr4 y)
      have m2 := hide (mod16 y)
      have c2 := ht.cell (y % 16) (by omega)
      have f2 := K.fours_lt ⟨y % 16, by omega⟩
      have e3 := u32_xor_nat (y / 16) (K.fours.getD (y % 16) 0) (by omega) f2
      rw [K.four_step] at e3
      simp only at f1 f2
      generalize K.fours.getD (x % 16) 0 = v1 at *
      generalize K.fours.getD (y % 16) 0 = v2 at *
      have i1 : x % 16 < 16 := by omega
      have i2 : y % 16 < 16 := by omega
      generalize x % 16 = j1 at *
      generalize y % 16 = j2 at *
      generalize x / 16 = p1 at *
      generalize y / 16 = p2 at *
      go_wp2_with (first | simp only [q1.out, m1.out] | simp only [q1.out] | simp only [m1.out] | simp only [e2] | simp only [q2.out, m2.out] | simp only [q2.out] | simp only [m2.out] | simp only [e3])
      go_round
      case rel => exact ⟨k + 1, by omega, by go_num, by rw [hst.out]⟩
      case measure => simp [intOf]; omega
    · obtain rfl : k = l.length := by omega
      rw [List.take_length]
      have hlt1 := K.run_lt l hl (c := K.top - s) (by unfold K.top; omega)
      have E1 := hide (not_u32 _ hlt1)
      go_wp2
      go_ret
      exact ⟨ret_int E1.out, rfl⟩
theorem sum_any (A : Option Addr) (c B : Nat) (l : List Int) (w : World) (hr : RdB w B A l) (hl : K.Bytes l) (hn : l.length ≤ 9223372036854775807) (ht : Fours w) :
    Calls Tryd.prog 17 #[.slice A l.length c] w fun e w' => e = .returned (.int .u32 (K.sum l)) ∧ w' = w := by
  have H := hide (show Calls Tryd.prog 37 #[.int .u32 0, .slice A l.length c] w _ from more_any 0 A c B l w (by omega) hr hl hn ht)
  clear hr hl hn ht
  go_enter Tryd.func17, Tryd.ntmps17
  go_wp2_with fail
  refine H.out.mono ?_; rintro _ _ ⟨rfl, rfl⟩
  go_wp2
  go_ret
  exact ⟨rfl, rfl⟩

theorem K.clkN_succ (k c : Nat) : K.clkN (k + 1) c = K.clk (K.clkN k c) := K.clkN_add k 1 c
theorem K.bit_like {c x : Nat} (h : c % 2 = x % 2) : c / 2 ^^^ x / 2 = K.clk (c ^^^ x) := by have := K.bit_step c x; rwa [if_neg (by simpa using h)] at this
theorem K.bit_unlike {c x : Nat} (h : c % 2 ≠ x % 2) : (c / 2 ^^^ K.P) ^^^ x / 2 = K.clk (c ^^^ x) := by have := K.bit_step c x; rwa [if_pos h] at this

set_option maxHeartbeats 1000000 in
theorem rmore_any (s : Nat) (A : Option Addr) (c B : Nat) (l : List Int) (w : World) (hs : s < 4294967296) (hr : RdB w B A l) (hl : K.Bytes l) (hn : l.length ≤ 9223372036854775807) :
    Calls Tryd.prog 18 #[.int .u32 s, .slice A l.length c] w fun e w' => e = .returned (.int .u32 (K.more s l)) ∧ w' = w := by
  go_enter Tryd.func18, Tryd.ntmps18
  go_wp2
  go_loop [6, 5] (fun vi vs => ∃ (k : Nat), k ≤ l.length ∧ vi = .int .i64 k ∧ vs = .int .u32 (K.run (K.top - s) (l.take k))) (fun vi _ => l.length - (intOf vi).toNat)
  case atStart => exact ⟨0, by omega, rfl, congrArg (Value.int .u32) (show (4294967295 : Int) - (s : Int) = ((K.top - s : Nat) : Int) by unfold K.top; omega)⟩
  case round =>
    obtain ⟨k, hk, rfl, rfl⟩ := hrel
    by_cases hlt : k < l.length
    · obtain ⟨g, o, rfl, _, hc⟩ := hr (by omega)
      have hcell := hc k hlt
      have hz := hl.getD k
      have hst := hide (show K.clkN 8 (K.run (K.top - s) (l.take k) ^^^ (l.getD k 0).toNat) = K.run (K.top - s) (l.take (k + 1)) by rw [L.take_snoc l k hlt, K.run_snoc])
      have hlt1 := K.run_lt (l.take k) (hl.take k) (c := K.top - s) (by unfold K.top; omega)
      generalize l.getD k 0 = z at *
      generalize K.run (K.top - s) (l.take k) = r at *
      obtain ⟨b, rfl⟩ := Int.eq_ofNat_of_zero_le hz.1
      rw [Int.toNat_natCast] at hst
      have hb : b < 256 := by omega
      clear hc hz
      go_wp2
      go_loop [8, 5, 7] (fun vi vs vx => ∃ (i c x : Nat), i ≤ 8 ∧ vi = .int .i64 i ∧ vs = .int .u32 c ∧ vx = .int .u8 x ∧ c < 4294967296 ∧ x = b / 2 ^ i ∧ c ^^^ x = K.clkN i (r ^^^ b)) (fun vi _ _ => 8 - (intOf vi).toNat)
      case atStart => exact ⟨0, r, b, by omega, rfl, rfl, rfl, hlt1, by simp, rfl⟩
      case round =>
        obtain ⟨i, d, x, hi, rfl, rfl, rfl, hd, hx, hxc⟩ := hrel
        by_cases hi8 : i < 8
        · have hx2 := hide (show x / 2 = b / 2 ^ (i + 1) by rw [hx, Nat.div_div_eq_div_mul, Nat.pow_succ])
          have hx256 : x < 256 := by rw [hx]; exact Nat.lt_of_le_of_lt (Nat.div_le_self _ _) hb
          have hn := hide (K.clkN_succ i (r ^^^ b))
          have HXC := hide hxc
          have HDT := hide (show d / 2 < 4294967296 by omega)
          clear hx hxc
          by_cases hp : d % 2 = x % 2
          · have hq := hide (K.bit_like hp)
            have hbo : ((d : Int) % 2 != (x : Int) % 2) = false := by rw [bne_eq_false_iff_eq]; omega
            have hie : (d : Int) % 2 = (x : Int) % 2 := by omega
            go_wp2
            go_round
            case rel => exact ⟨i + 1, d / 2, x / 2, by omega, by go_num, by go_num, by go_num, HDT.out, hx2.out, by rw [hq.out, HXC.out, hn.out]⟩
            case measure => simp [intOf]; omega
          · have hq := hide (K.bit_unlike hp)
            have hbo : ((d : Int) % 2 != (x : Int) % 2) = true := by rw [bne_iff_ne]; omega
            have hie : ¬ (d : Int) % 2 = (x : Int) % 2 := by omega
            have hxr := u32_xor_nat (d / 2) K.P (by omega) (by unfold K.P; omega)
            rw [show ((d / 2 : Nat) : Int) = (d : Int) / 2 by omega, show ((K.P : Nat) : Int) = 3988292384 from rfl] at hxr
            have hxl := hide (K.xor_lt (show d / 2 < 4294967296 by omega) (show K.P < 4294967296 by unfold K.P; omega))
            go_wp2
            go_round
            case rel => exact ⟨i + 1, d / 2 ^^^ K.P, x / 2, by omega, by go_num, by first | rfl | rw [hxr], by go_num, hxl.out, hx2.out, by rw [hq.out, HXC.out, hn.out]⟩
            case measure => simp [intOf]; omega
        · obtain rfl : i = 8 := by omega
          have hx0 : x = 0 := by rw [hx]; omega
          subst hx0
          rw [Nat.xor_zero, hst.out] at hxc
          subst hxc
          go_wp2
          go_round
          case rel => exact ⟨k + 1, by omega, by go_num, rfl⟩
          case measure => simp [intOf]; omega
    · obtain rfl : k = l.length := by omega
      rw [List.take_length]
      have hlt1 := K.run_lt l hl (c := K.top - s) (by unfold K.top; omega)
      go_wp2
      go_ret
      exact ⟨ret_int (show (4294967295 : Int) - (K.run (K.top - s) l : Nat) = ((K.top - K.run (K.top - s) l : Nat) : Int) by unfold K.top at *; omega), rfl⟩

theorem rsum_any (A : Option Addr) (c B : Nat) (l : List Int) (w : World) (hr : RdB w B A l) (hl : K.Bytes l) (hn : l.length ≤ 9223372036854775807) :
    Calls Tryd.prog 10 #[.slice A l.length c] w fun e w' => e = .returned (.int .u32 (K.sum l)) ∧ w' = w := by
  have H := hide (show Calls Tryd.prog 18 #[.int .u32 0, .slice A l.length c] w _ from rmore_any 0 A c B l w (by omega) hr hl hn)
  clear hr hl hn
  go_enter Tryd.func10, Tryd.ntmps10
  go_wp2_with fail
  refine H.out.mono ?_; rintro _ _ ⟨rfl, rfl⟩
  go_wp2
  go_ret
  exact ⟨rfl, rfl⟩
end Go.Proofs.YtkfelkpilaipnaaDoor

namespace Go.Proofs.YtkfelkpilaipnaaDoor
set_option maxRecDepth 100000
open Go.RowKit

namespace Sh
open Gm Y
/-- What every name and every word of the document's own has, every word of the lines has. -/
theorem lines_all {G : Gr} (hg : Rt G) (P : List Int → Prop) (hc : P wToken ∧ P wLeft ∧ P wRight ∧ P wNon ∧ P wStart ∧ P wPrec ∧ P wMark ∧ P wColon ∧ P wSemi) (ht : ∀ t ∈ G.ts, P t.nm) (hn : ∀ s ∈ G.ns, P s) : ∀ l ∈ lines G, ∀ w ∈ l, P w := by
  obtain ⟨c1, c2, c3, c4, c5, c6, c7, c8, c9⟩ := hc
  have hname : ∀ z, has G z = true → P (name G z) := by
    intro z hz
    unfold name
    rw [if_pos hz]
    unfold has at hz
    by_cases h0 : 0 ≤ z
    · rw [if_pos h0] at hz ⊢
      have hz : z < G.ts.length := by simpa using hz
      rw [names_getD _ (by omega)]
      exact ht _ (List.getElem_mem _)
    · rw [if_neg h0] at hz ⊢
      have hz : -1 - z < G.ns.length := by simpa using hz
      rw [getD_at _ _ _ (by omega)]
      exact hn _ (List.getElem_mem _)
  intro l hl w hw
  unfold lines at hl
  simp only [List.mem_append, List.mem_singleton] at hl
  rcases hl with (((hl | hl) | hl) | hl) | hl
  · obtain ⟨t, hm, rfl⟩ := List.mem_map.1 hl
    rcases List.mem_cons.1 hw with rfl | hw
    · exact c1
    · rw [List.mem_singleton.1 hw]; exact ht t hm
  · unfold levels at hl
    obtain ⟨i, hi, rfl⟩ := List.mem_map.1 hl
    obtain ⟨t, r, e, hwy, hall⟩ := level_some hg i (by simpa using hi)
    unfold level at hw
    rw [e] at hw
    rcases List.mem_cons.1 hw with rfl | hw'
    · rcases hwy with q | q | q <;> rw [q]
      · exact c2
      · exact c3
      · exact c4
    · obtain ⟨s, hs, rfl⟩ := List.mem_map.1 hw'
      have : s ∈ onLev G.ts ((i + 1 : Nat) : Int) := by rw [e]; exact hs
      exact ht s (List.mem_filter.1 this).1
  · subst hl
    have hs := hg.s0
    rcases List.mem_cons.1 hw with rfl | hw
    · exact c5
    · rw [List.mem_singleton.1 hw, getD_at _ _ _ (by omega)]
      exact hn _ (List.getElem_mem _)
  · subst hl
    rw [List.mem_singleton.1 hw]; exact c7
  · obtain ⟨r, hr, rfl⟩ := List.mem_map.1 hl
    obtain ⟨l0, l1, hru⟩ := (rules_le G G.rs _ hg.rr).2 r hr
    obtain ⟨a1, a2, a3, a4, a5⟩ := rule_parts hru
    unfold rule at hw
    simp only [List.mem_cons, List.mem_append] at hw
    rcases hw with rfl | rfl | (hw | hw) | hw
    · rw [getD_at _ _ _ (by omega)]
      exact hn _ (List.getElem_mem _)
    · exact c8
    · obtain ⟨z, hz, rfl⟩ := List.mem_map.1 hw
      exact hname z (a4 z hz)
    · split at hw
      · cases hw
      · rename_i hne
        simp only [List.mem_cons, List.not_mem_nil, or_false] at hw
        rcases hw with rfl | rfl
        · exact c6
        · exact hname r.p (by unfold has; rw [if_pos (a5 hne)]; simpa using a3)
    · simp only [List.not_mem_nil, or_false] at hw
      rw [hw]; exact c9
theorem joinW_bytes (ws : List (List Int)) (h : ∀ w ∈ ws, K.Bytes w) : K.Bytes (joinW ws) := by
  induction ws with
  | nil => exact K.Bytes.nil
  | cons w r ih => cases r with
    | nil => exact h w (by simp)
    | cons v r =>
      intro z hz
      simp only [joinW] at hz
      rcases List.mem_append.1 hz with q | q
      · exact h w (by simp) z q
      · rcases List.mem_cons.1 q with rfl | q
        · omega
        · exact ih (fun x hx => h x (by simp [hx])) z q
theorem text_bytes {G : Gr} (hg : Rt G) (hf : Fit G) : K.Bytes (text G) := by
  have hb := lines_all hg K.Bytes (by refine ⟨?_, ?_, ?_, ?_, ?_, ?_, ?_, ?_, ?_⟩ <;> (unfold K.Bytes; decide)) (fun t ht => (hf.t t ht).1.1) (fun s hs => (hf.n s hs).1)
  intro z hz
  unfold text flat at hz
  obtain ⟨l, hl, hz⟩ := List.mem_flatMap.1 hz
  unfold lineOf at hz
  rcases List.mem_append.1 hz with q | q
  · exact joinW_bytes l (hb l hl) z q
  · rw [List.mem_singleton.1 q]; omega
theorem pr_bytes {G : Gr} (hf : Fit G) : K.Bytes (pr G).1 := by
  unfold pr
  split
  · rename_i h
    split
    · exact K.Bytes.nil
    · exact text_bytes (rt_of h) hf
  · exact K.Bytes.nil
theorem pr_len (G : Gr) : (pr G).1.length ≤ 4000 := by
  unfold pr
  split
  · split
    · simp
    · simp only; omega
  · simp
/-- What the digest is. -/
def dg (G : Gr) : Nat := if (pr G).2 = 0 then K.sum (pr G).1 else 0
end Sh

set_option maxHeartbeats 2000000 in
theorem digest_any (v : Value) (G : Gm.Gr) (B : Nat) (w : World) (hg : RdGr w B v G) (hf : Gm.Fit G) (hB : B ≤ w.heap.size) (ht : Fours w) :
    Calls Tryd.prog 9 #[v] w fun e w' => e = .returned (.tuple #[.int .u32 (Sh.dg G : Nat), .int .i64 (Sh.pr G).2]) ∧ Below w.heap.size w w' := by
  have HG := hide hg
  obtain ⟨AT, cT, AN, cN, AR, cR, rfl, _, _, _, _, _, _⟩ := hg
  have HPR := hide (fun (x : World) (h : Below w.heap.size w x) => print_any _ G B x (HG.out.below h hB) hf (Nat.le_trans hB h.size))
  have HS0 := hide (One.start w #[.slice AT G.ts.length cT, .slice AN G.ns.length cN, .slice AR G.rs.length cR, .int .i64 G.st]).below
  have hb := Sh.pr_bytes hf
  have hl := Sh.pr_len G
  have HT := hide ht
  have hsz := K.str_size (Sh.pr G).1
  unfold Sh.dg
  by_cases h0 : (Sh.pr G).2 = 0
  · rw [h0] at HPR
    rw [if_pos h0, h0]
    generalize (Sh.pr G).1 = l at *
    have C1 := fun w => str_bytes w l
    have P1 := hide (fun (x : World) (h : Below w.heap.size w x) => sum_any (some ⟨x.heap.size, 0, none⟩) (scap x l) _ l (x.drew.alloc (sobj x l)) (str_rd x l hb).1 hb (by omega) ((HT.out.below h).below (str_rd x l hb).2.1))
    have B1 := hide (fun (x : World) => (str_rd x l hb).2.1)
    clear h0 hf ht hb
    go_enter Tryd.func9, Tryd.ntmps9
    go_wp2_with fail
    refine (HPR.out _ HS0.out).mono ?_; rintro _ w1 ⟨rfl, hb1⟩
    have HB1 := hide (HS0.out.trans (hb1.mono HS0.out.size))
    clear hb1
    go_wp2_with fail
    refine (P1.out _ HB1.out).mono ?_; rintro _ w' ⟨rfl, rfl⟩
    go_wp2
    go_ret2
    exact ⟨rfl, HB1.out.trans ((B1.out w1).mono HB1.out.size)⟩
  · rw [if_neg h0]
    have h0' : ((Sh.pr G).2 != 0) = true := by simpa using h0
    generalize (Sh.pr G).2 = er at *
    clear h0 hf ht hb
    go_enter Tryd.func9, Tryd.ntmps9
    go_wp2_with fail
    refine (HPR.out _ HS0.out).mono ?_; rintro _ w1 ⟨rfl, hb1⟩
    have HB1 := hide (HS0.out.trans (hb1.mono HS0.out.size))
    clear hb1
    go_wp2
    go_ret2
    exact ⟨rfl, HB1.out⟩
end Go.Proofs.YtkfelkpilaipnaaDoor

namespace Go.Proofs.YtkfelkpilaipnaaDoor
set_option maxRecDepth 100000
open Go.RowKit

def et1 : List Int := [37, 37, 32, 115, 32, 58, 32, 39, 97, 39, 32, 115, 32, 124, 32, 59]
def et2 : List Int := [37, 114, 105, 103, 104, 116, 32, 85, 32, 37, 108, 101, 102, 116, 32, 39, 45, 39, 32, 37, 37, 32, 101, 32, 58, 32, 39, 45, 39, 32, 101, 32, 37, 112, 114, 101, 99, 32, 85, 32, 124, 32, 101, 32, 39, 45, 39, 32, 101, 32, 59]
def lt1 : List Int := [37, 116, 111, 107, 101, 110, 32, 39, 97, 39, 10, 37, 115, 116, 97, 114, 116, 32, 115, 10, 37, 37, 10, 115, 32, 58, 32, 39, 97, 39, 32, 115, 32, 59, 10, 115, 32, 58, 32, 59, 10]
def lt2 : List Int := [37, 116, 111, 107, 101, 110, 32, 85, 10, 37, 116, 111, 107, 101, 110, 32, 39, 45, 39, 10, 37, 114, 105, 103, 104, 116, 32, 85, 10, 37, 108, 101, 102, 116, 32, 39, 45, 39, 10, 37, 115, 116, 97, 114, 116, 32, 101, 10, 37, 37, 10, 101, 32, 58, 32, 39, 45, 39, 32, 101, 32, 37, 112, 114, 101, 99, 32, 85, 32, 59, 10, 101, 32, 58, 32, 101, 32, 39, 45, 39, 32, 101, 32, 59, 10]
def gt1 : Gm.Gr := ⟨[⟨[39, 97, 39], 0, 0⟩], [[115]], [⟨0, [0, -1], 0⟩, ⟨0, [], -1⟩], 0⟩
def gt2 : Gm.Gr := ⟨[⟨[85], 1, 2⟩, ⟨[39, 45, 39], 2, 1⟩], [[101]], [⟨0, [1, -1], 0⟩, ⟨0, [-1, 1, -1], 1⟩], 0⟩
def gt0 : Gm.Gr := ⟨[], [], [], 0⟩
theorem gre1 : gr9 et1 = some gt1 := by kernel_rfl
theorem gre2 : gr9 et2 = some gt2 := by kernel_rfl
theorem prt1 : Sh.pr gt1 = (lt1, 0) := by kernel_rfl
theorem prt2 : Sh.pr gt2 = (lt2, 0) := by kernel_rfl
theorem prt0 : Sh.pr gt0 = ([], 1) := by kernel_rfl
theorem dgt1 : Sh.dg gt1 = K.sum lt1 := by unfold Sh.dg; rw [prt1]; rfl
theorem str_lt1 : K.str lt1 = ⟨#[37, 116, 111, 107, 101, 110, 32, 39, 97, 39, 10, 37, 115, 116, 97, 114, 116, 32, 115, 10, 37, 37, 10, 115, 32, 58, 32, 39, 97, 39, 32, 115, 32, 59, 10, 115, 32, 58, 32, 59, 10]⟩ := by decide +kernel
theorem str_lt2 : K.str lt2 = ⟨([37, 116, 111, 107, 101, 110, 32, 85, 10, 37, 116, 111, 107, 101, 110, 32, 39, 45, 39, 10, 37, 114, 105, 103, 104, 116, 32, 85, 10, 37, 108, 101, 102, 116, 32, 39, 45, 39, 10, 37, 115, 116, 97, 114, 116, 32, 101, 10].append [37, 37, 10, 101, 32, 58, 32, 39, 45, 39, 32, 101, 32, 37, 112, 114, 101, 99, 32, 85, 32, 59, 10, 101, 32, 58, 32, 101, 32, 39, 45, 39, 32, 101, 32, 59, 10]).toArray⟩ := by decide +kernel
theorem gt0_fit : Gm.Fit gt0 := ⟨by simp [gt0], by simp [gt0], by simp [gt0], by unfold Gm.In; simp [gt0]⟩
theorem gt0_rd (w : World) (B : Nat) : RdGr w B (.agg #[.slice none 0 0, .slice none 0 0, .slice none 0 0, .int .i64 0]) gt0 := ⟨none, 0, none, 0, none, 0, rfl, by simp [gt0], by simp [gt0], by simp [gt0], fun h => absurd rfl h, fun h => absurd rfl h, fun h => absurd rfl h⟩
theorem build_gr10 (w : World) : (Instr.build 26 #[]).run Tryd.prog w = .ok (.agg #[.slice none 0 0, .slice none 0 0, .slice none 0 0, .int .i64 0]) w := run_build w 26 _ _ (by kernel_rfl)
set_option maxHeartbeats 4000000 in
theorem alive10_any (w : World) (hf4 : Fours w) : Calls Tryd.prog 4 #[] w fun e w' => e = .returned (.bool true) ∧ Below w.heap.size w w' := by
  have T1 := hide (gread_const et1 gt1 (by decide) (by decide) gre1 w w.heap.size rfl)
  have T2 := hide (fun (w1 : World) (n : Nat) (hw : n = w1.heap.size) => gread_const et2 gt2 (by decide) (by decide) gre2 w1 n hw)
  have V1 := hide (fun w : World => show (convert 36 36 (.slice (some ⟨w.heap.size, 0, none⟩) 16 16)).run Tryd.prog (w.alloc (.cells #[.int .u8 37, .int .u8 37, .int .u8 32, .int .u8 115, .int .u8 32, .int .u8 58, .int .u8 32, .int .u8 39, .int .u8 97, .int .u8 39, .int .u8 32, .int .u8 115, .int .u8 32, .int .u8 124, .int .u8 32, .int .u8 59] 5)) = .ok (.slice (some ⟨w.heap.size, 0, none⟩) 16 16) (w.alloc (cellsM et1)) from lit_conv w et1 16 16)
  have V2 := hide (fun w : World => show (convert 36 36 (.slice (some ⟨w.heap.size, 0, none⟩) 51 51)).run Tryd.prog (w.alloc (.cells #[.int .u8 37, .int .u8 114, .int .u8 105, .int .u8 103, .int .u8 104, .int .u8 116, .int .u8 32, .int .u8 85, .int .u8 32, .int .u8 37, .int .u8 108, .int .u8 101, .int .u8 102, .int .u8 116, .int .u8 32, .int .u8 39, .int .u8 45, .int .u8 39, .int .u8 32, .int .u8 37, .int .u8 37, .int .u8 32, .int .u8 101, .int .u8 32, .int .u8 58, .int .u8 32, .int .u8 39, .int .u8 45, .int .u8 39, .int .u8 32, .int .u8 101, .int .u8 32, .int .u8 37, .int .u8 112, .int .u8 114, .int .u8 101, .int .u8 99, .int .u8 32, .int .u8 85, .int .u8 32, .int .u8 124, .int .u8 32, .int .u8 101, .int .u8 32, .int .u8 39, .int .u8 45, .int .u8 39, .int .u8 32, .int .u8 101, .int .u8 32, .int .u8 59] 5)) = .ok (.slice (some ⟨w.heap.size, 0, none⟩) 51 51) (w.alloc (cellsM et2)) from lit_conv w et2 51 51)
  have U1 := V1.out w
  have HF4 := hide hf4
  have hbg := fun w => build_gr10 w
  have hs1 : ∀ (x : World) (o : Obj), (x.alloc o).heap.size = x.heap.size + 1 := fun x o => by simp
  have HBA := hide (fun (x : World) (h : Below w.heap.size w x) (o : Obj) => h.alloc h.size o)
  have hl1 : et1.length = 16 := rfl
  have hl2 : et2.length = 51 := rfl
  rw [hl1] at T1
  rw [hl2] at T2
  clear hf4 V1 hl1 hl2
  go_enter Tryd.func4, Tryd.ntmps4
  go_wp2_with fail
  refine T1.out.mono ?_; rintro _ w1 ⟨⟨g, rfl, hg1, hft1⟩, hb1⟩
  have HG1 := hide hg1
  have HFT1 := hide hft1
  have HB1 := hide hb1
  obtain ⟨AT1, cT1, AN1, cN1, AR1, cR1, rfl, _, _, _, _, _, _⟩ := hg1
  clear hb1 U1 T1 hft1
  have U2 := fun (o : Obj) => V2.out (w1.alloc o)
  simp only [hs1] at U2
  clear V2
  go_wp2_with fail
  refine (T2.out _ _ (hs1 _ _).symm).mono ?_; rintro _ w2 ⟨⟨g, rfl, hg2, hft2⟩, hb2⟩
  have HB2 := hide ((HBA.out _ HB1.out _).trans (hb2.mono (HBA.out _ HB1.out _).size))
  have HX2 := hide hb2
  have HG2 := hide hg2
  have HFT2 := hide hft2
  obtain ⟨AT2, cT2, AN2, cN2, AR2, cR2, rfl, _, _, _, _, _, _⟩ := hg2
  clear U2 hb2 T2 hft2
  go_upto_region 3 with fail
  have x1 := (HX2.out.block w1.heap.size (by simp)).trans (heap_alloc_new w1 _)
  have HBz := hide ((Below.refl w2.heap.size w2).alloc (Nat.le_refl _) (.cells #[.slice AT2 gt2.ts.length cT2, .slice AN2 gt2.ns.length cN2, .slice AR2 gt2.rs.length cR2, .int .i64 gt2.st] 26))
  obtain ⟨wz, hwz⟩ : ∃ x, x = w2.alloc (.cells #[.slice AT2 gt2.ts.length cT2, .slice AN2 gt2.ns.length cN2, .slice AR2 gt2.rs.length cR2, .int .i64 gt2.st] 26) := ⟨_, rfl⟩
  have x2 : wz.heap[w2.heap.size]? = some (.cells #[.slice AT2 gt2.ts.length cT2, .slice AN2 gt2.ns.length cN2, .slice AR2 gt2.rs.length cR2, .int .i64 gt2.st] 26 (0, 0)) := by rw [hwz]; exact heap_alloc_new w2 _
  rw [← hwz] at HBz ⊢
  have d12 : Below w1.heap.size w1 w2 := ((Below.refl _ w1).alloc (Nat.le_refl _) _).trans (HX2.out.mono (by simp))
  have d1z : Below w1.heap.size w1 wz := d12.trans (HBz.out.mono d12.size)
  have x1z := (HBz.out.block w1.heap.size (Array.getElem?_eq_some_iff.1 x1).1).trans x1
  have HZ := hide (HB2.out.trans (HBz.out.mono HB2.out.size))
  have HP1 := hide (fun (x : World) (h : Below wz.heap.size wz x) => print_any _ gt1 w1.heap.size x (HG1.out.below (d1z.trans (h.mono d1z.size)) (Nat.le_refl _)) HFT1.out (Nat.le_trans d1z.size h.size))
  have HP2 := hide (fun (x : World) (h : Below wz.heap.size wz x) => print_any _ gt2 w2.heap.size x (HG2.out.below (HBz.out.trans (h.mono HBz.out.size)) (Nat.le_refl _)) HFT2.out (Nat.le_trans HBz.out.size h.size))
  have HD1 := hide (fun (x : World) (h : Below wz.heap.size wz x) => digest_any _ gt1 w1.heap.size x (HG1.out.below (d1z.trans (h.mono d1z.size)) (Nat.le_refl _)) HFT1.out (Nat.le_trans d1z.size h.size) (HF4.out.below (HZ.out.trans (h.mono HZ.out.size))))
  have HP0 := hide (fun (x : World) => print_any _ gt0 x.heap.size x (gt0_rd x _) gt0_fit (Nat.le_refl _))
  rw [prt1, str_lt1] at HP1
  rw [prt2, str_lt2] at HP2
  rw [prt0] at HP0
  rw [dgt1, prt1] at HD1
  simp only at HP1 HP2 HP0 HD1
  have HSM := hide (fun (x : World) => rsum_any (some ⟨x.heap.size, 0, none⟩) (scap x lt1) _ lt1 (x.drew.alloc (sobj x lt1)) (str_rd x lt1 (bytes_lit _ (by decide))).1 (bytes_lit _ (by decide)) (by decide))
  have CV := fun x => str_bytes x lt1
  rw [str_lt1] at CV
  have HCB := hide (fun (x : World) => (str_rd x lt1 (bytes_lit _ (by decide))).2.1)
  have X1 := hide (And.intro (cell_of_row _ _ 0 _ _ _ x1z) (And.intro (cell_of_row _ _ 1 _ _ _ x1z) (And.intro (cell_of_row _ _ 2 _ _ _ x1z) (cell_of_row _ _ 3 _ _ _ x1z))))
  have X2 := hide (And.intro (cell_of_row _ _ 0 _ _ _ x2) (And.intro (cell_of_row _ _ 1 _ _ _ x2) (And.intro (cell_of_row _ _ 2 _ _ _ x2) (cell_of_row _ _ 3 _ _ _ x2))))
  have hl1 := Array.getElem?_eq_some_iff.1 x1z
  have hl2 := Array.getElem?_eq_some_iff.1 x2
  have l1 : w1.heap.size < wz.heap.size := hl1.1
  have l2 : w2.heap.size < wz.heap.size := hl2.1
  generalize K.sum lt1 = sm at *
  have u0 := X1.out.1
  have u1 := X1.out.2.1
  have u2 := X1.out.2.2.1
  have u3 := X1.out.2.2.2
  simp only [List.getElem?_toArray, List.getElem?_cons_zero, List.getElem?_cons_succ] at u0 u1 u2 u3
  clear hwz hl1 hl2 x1 x1z x2 d12 d1z HX2 HG1 HG2 HBz HBA HB2 HB1
  go_wp2_with fail
  refine (HP1.out wz (Below.refl _ _)).mono ?_; rintro _ w3 ⟨rfl, hb3⟩
  have HB3 := hide hb3
  clear hb3 HP1 u0 u1 u2 u3
  have u0 := (HB3.out.cell (p := ⟨w2.heap.size, 0, none⟩) l2).trans X2.out.1
  have u1 := (HB3.out.cell (p := ⟨w2.heap.size, 1, none⟩) l2).trans X2.out.2.1
  have u2 := (HB3.out.cell (p := ⟨w2.heap.size, 2, none⟩) l2).trans X2.out.2.2.1
  have u3 := (HB3.out.cell (p := ⟨w2.heap.size, 3, none⟩) l2).trans X2.out.2.2.2
  simp only [List.getElem?_toArray, List.getElem?_cons_zero, List.getElem?_cons_succ] at u0 u1 u2 u3
  go_wp2_with fail
  refine (HP2.out w3 HB3.out).mono ?_; rintro _ w4 ⟨rfl, hb4⟩
  have HB4 := hide (HB3.out.trans (hb4.mono HB3.out.size))
  clear hb4 HP2 u0 u1 u2 u3
  have u0 := (HB4.out.cell (p := ⟨w1.heap.size, 0, none⟩) l1).trans X1.out.1
  have u1 := (HB4.out.cell (p := ⟨w1.heap.size, 1, none⟩) l1).trans X1.out.2.1
  have u2 := (HB4.out.cell (p := ⟨w1.heap.size, 2, none⟩) l1).trans X1.out.2.2.1
  have u3 := (HB4.out.cell (p := ⟨w1.heap.size, 3, none⟩) l1).trans X1.out.2.2.2
  simp only [List.getElem?_toArray, List.getElem?_cons_zero, List.getElem?_cons_succ] at u0 u1 u2 u3
  go_wp2_with fail
  refine (HD1.out w4 HB4.out).mono ?_; rintro _ w5 ⟨rfl, hb5⟩
  have HB5 := hide (HB4.out.trans (hb5.mono HB4.out.size))
  clear hb5 HD1 u0 u1 u2 u3
  go_wp2_with fail
  refine (HP0.out w5).mono ?_; rintro _ w6 ⟨rfl, hb6⟩
  have HB6 := hide (HB5.out.trans (hb6.mono HB5.out.size))
  clear hb6 HP0
  go_wp2_with fail
  refine (HSM.out w6).mono ?_; rintro _ w7 ⟨rfl, rfl⟩
  go_wp2
  go_ret
  exact ⟨rfl, (HZ.out.trans (HB6.out.mono HZ.out.size)).trans ((HCB.out w6).mono (HZ.out.trans (HB6.out.mono HZ.out.size)).size)⟩
end Go.Proofs.YtkfelkpilaipnaaDoor

namespace Go.Proofs.YtkfelkpilaipnaaDoor
open Go.RowKit

theorem ints_any (A A' : Option Addr) (ca cb : Nat) (xs ys : List Int) (w : World) (hra : RdI w w.heap.size A xs) (hrb : RdI w w.heap.size A' ys) (hxl : xs.length ≤ 9223372036854775807) (hyl : ys.length ≤ 9223372036854775807) :
    Calls Tryd.prog 14 #[.slice A xs.length ca, .slice A' ys.length cb] w fun e w' => e = .returned (.bool (decide (xs = ys))) ∧ ∃ n, w' = w.drewN n := by
  by_cases hl : xs.length = ys.length
  · have HL := hide hl
    rw [← hl]
    have hne : ((xs.length : Int) != (xs.length : Int)) = false := by simp
    clear hl hyl
    go_enter Tryd.func14, Tryd.ntmps14
    go_wp2
    go_loopw [5] (fun vi wr => ∃ (k q : Nat), k ≤ xs.length ∧ vi = .int .i64 k ∧ xs.take k = ys.take k ∧ wr = w.drewN q) (fun vi _ => xs.length - (intOf vi).toNat)
    case atStart => exact ⟨0, 0, Nat.zero_le _, rfl, rfl, rfl⟩
    case round =>
      obtain ⟨k, q, hk, rfl, ht, hwr⟩ := hrel
      have HT := hide ht
      have HW := hide hwr
      by_cases hlt : k < xs.length
      · obtain ⟨ga, oa, rfl, _, ha⟩ := hra (by omega)
        obtain ⟨gb, ob, rfl, _, hb⟩ := hrb (by have := HL.out; omega)
        have ca' : wr.cell? ⟨ga, oa + k, none⟩ = some (.int .i64 (xs.getD k 0)) := by rw [hwr]; exact ha k hlt
        have cb' : wr.cell? ⟨gb, ob + k, none⟩ = some (.int .i64 (ys.getD k 0)) := by rw [hwr]; exact hb k (by have := HL.out; omega)
        have k0 : (0 : Int) ≤ (k : Int) := by omega
        have k1 : (k : Int) < (xs.length : Int) := by omega
        clear ha hb ht hwr hra hrb
        by_cases hxy : xs.getD k 0 = ys.getD k 0
        · have HN : Hid (xs.take (k + 1) = ys.take (k + 1)) := by
            show xs.take (k + 1) = ys.take (k + 1)
            rw [L.take_snoc xs k hlt, L.take_snoc ys k (by have := HL.out; omega), HT.out, hxy]
          rw [← hxy] at cb'
          generalize xs.getD k 0 = x at *
          have hx' : (x != x) = false := by simp
          clear hxy
          go_wp2_with fail
          go_quiet (fail)
          go_wp2
          go_roundw
          case rel => exact ⟨k + 1, _, hlt, by go_num, HN.out, by rw [HW.out]; exact World.drewN_drewN _ _ _⟩
          case measure => simp [intOf]; omega
        · have HN : Hid (decide (xs = ys) = false) := by
            show decide (xs = ys) = false
            rw [decide_eq_false_iff_not]; rintro rfl; exact hxy rfl
          generalize xs.getD k 0 = x at *
          generalize ys.getD k 0 = y at *
          have hx' : (x != y) = true := by simpa using hxy
          clear hxy
          go_wp2_with fail
          go_quiet (fail)
          go_wp2
          go_ret
          exact ⟨ret_bool HN.out.symm, _, by rw [HW.out, World.drewN_drewN]⟩
      · obtain rfl : k = xs.length := by omega
        have HE : Hid (decide (xs = ys) = true) := by
          show decide (xs = ys) = true
          rw [decide_eq_true_iff]
          have h := HT.out
          rwa [List.take_length, HL.out, List.take_length] at h
        clear ht
        subst hwr
        go_wp2
        go_ret
        exact ⟨ret_bool HE.out.symm, _, rfl⟩
  · have HE : Hid (decide (xs = ys) = false) := by
      show decide (xs = ys) = false
      rw [decide_eq_false_iff_not]; rintro rfl; exact hl rfl
    have hne : ((xs.length : Int) != (ys.length : Int)) = true := by simp; omega
    go_enter Tryd.func14, Tryd.ntmps14
    go_wp2
    go_ret
    exact ⟨ret_bool HE.out.symm, 0, rfl⟩

end Go.Proofs.YtkfelkpilaipnaaDoor

namespace Go.Proofs.YtkfelkpilaipnaaDoor
set_option maxRecDepth 100000
open Go.RowKit

/-- Are two the same? -/
noncomputable def eqb {α : Type} (a b : α) : Bool := @decide (a = b) (Classical.propDecidable _)
theorem eqb_yes {α : Type} {a b : α} (h : a = b) : eqb a b = true := by unfold eqb; exact @decide_eq_true _ (Classical.propDecidable _) h
theorem eqb_no {α : Type} {a b : α} (h : ¬ a = b) : eqb a b = false := by unfold eqb; exact @decide_eq_false _ (Classical.propDecidable _) h
theorem tm_eqIn (s s' : ByteArray) (a a' b b' : Int) (w : World) : (Op.equalIn 10000 48 (.agg #[.string s, .int .i64 a, .int .i64 b]) (.agg #[.string s', .int .i64 a', .int .i64 b'])).run Tryd.prog w = .ok ((s.toList == s'.toList) && (a == a') && (b == b')) w := by
  have u3 := Tryd.underlying3
  have a3 := Tryd.isAgg3
  have z3 := Tryd.sizeOf3
  have u9 := Tryd.underlying9
  have a9 := Tryd.isAgg9
  have z9 := Tryd.sizeOf9
  have hS : Tryd.prog.underlying 48 = some (.struct (Tryd.prog.fieldsOf 48)) := by kernel_rfl
  rw [show (10000 : Nat) = 9999 + 1 from rfl, run_equalIn_agg w 9999 48 _ _ hS (by kernel_rfl)]
  simp only [Program.fieldsOf, Tryd.underlying48]
  go_simp
  by_cases h0 : s.toList = s'.toList <;> by_cases h1 : a = a' <;> by_cases h2 : b = b' <;> simp [h0, h1, h2]
/-- Are two terminals the same? -/
theorem tm_same {x y : Gm.Tm} (hx : K.Tx x.nm) (hy : K.Tx y.nm) : (((K.str x.nm).toList == (K.str y.nm).toList) && (x.lv == y.lv) && (x.wy == y.wy)) = eqb x y := by
  rw [K.eqB hx hy]
  by_cases h : x = y
  · subst h; rw [eqb_yes rfl]; simp
  · rw [eqb_no h]
    rw [Bool.and_eq_false_iff, Bool.and_eq_false_iff]
    by_cases h1 : x.nm = y.nm
    · by_cases h2 : x.lv = y.lv
      · by_cases h3 : x.wy = y.wy
        · exact absurd (by cases x; cases y; simp_all) h
        · exact .inr (by simpa using h3)
      · exact .inl (.inr (by simpa using h2))
    · exact .inl (.inl (by simpa using h1))

/-- The first k ones are the same. -/
def Alike {α : Type} (xs ys : List α) (k : Nat) : Prop := xs.take k = ys.take k
theorem Alike.zero {α : Type} (xs ys : List α) : Alike xs ys 0 := rfl
theorem Alike.next {α : Type} {xs ys : List α} {k : Nat} (h : Alike xs ys k) (h1 : k < xs.length) (h2 : k < ys.length) (e : xs[k] = ys[k]) : Alike xs ys (k + 1) := by
  unfold Alike at *
  rw [List.take_succ_eq_append_getElem h1, List.take_succ_eq_append_getElem h2, h, e]
theorem Alike.all {α : Type} {xs ys : List α} {k : Nat} (h : Alike xs ys k) (hk : k = xs.length) (hl : xs.length = ys.length) : eqb xs ys = true := by
  unfold Alike at h
  rw [hk, List.take_length, hl, List.take_length] at h
  exact eqb_yes h
theorem unlike {α : Type} {xs ys : List α} {k : Nat} (h1 : k < xs.length) (h2 : k < ys.length) (e : ¬ xs[k] = ys[k]) : eqb xs ys = false := eqb_no fun h => e (by subst h; rfl)
theorem unlike_len {α : Type} {xs ys : List α} (h : ¬ xs.length = ys.length) : eqb xs ys = false := eqb_no fun e => h (by rw [e])

end Go.Proofs.YtkfelkpilaipnaaDoor

namespace Go.Proofs.YtkfelkpilaipnaaDoor
set_option maxRecDepth 100000
open Go.RowKit

/-- Are two grammars the same? -/
noncomputable def Gm.same (G H : Gm.Gr) : Bool := eqb G.ts H.ts && eqb G.ns H.ns && eqb G.rs H.rs && eqb G.st H.st
theorem Gm.same_self (G : Gm.Gr) : Gm.same G G = true := by
  unfold Gm.same
  rw [eqb_yes rfl, eqb_yes rfl, eqb_yes rfl, eqb_yes rfl]; rfl

theorem heap_alloc2_0 (w : World) (o o' : Obj) (n : Nat) : (((w.alloc o).alloc o').drewN n).heap[w.heap.size]? = some o := by
  show ((w.alloc o).alloc o').heap[w.heap.size]? = some o
  rw [Below.heap_alloc _ _ _ (by simp)]
  exact heap_alloc_new w o
theorem heap_alloc2_1 (w : World) (o o' : Obj) (n : Nat) : (((w.alloc o).alloc o').drewN n).heap[w.heap.size + 1]? = some o' := by
  have := heap_alloc_new (w.alloc o) o'
  simpa [World.drewN] using this
/-- A world that went on behind one in which two grammars were laid. -/
def Two (w : World) (a b : Array Value) (wr : World) : Prop := Below (w.heap.size + 2) ((w.alloc (.cells a 26)).alloc (.cells b 26)) wr
theorem Two.start (w : World) (a b : Array Value) : Two w a b ((w.alloc (.cells a 26)).alloc (.cells b 26)) := Below.refl _ _
theorem Two.size {w wr : World} {a b : Array Value} (h : Two w a b wr) : w.heap.size + 2 ≤ wr.heap.size := by have := Below.size h; simpa using this
theorem Two.below {w wr : World} {a b : Array Value} (h : Two w a b wr) : Below w.heap.size w wr := (((Below.refl w.heap.size w).alloc (Nat.le_refl _) _).alloc (by simp) _).trans (Below.mono h (by omega))
theorem Two.on {w wr wt : World} {a b : Array Value} (h : Two w a b wr) (k : Below wr.heap.size wr wt) : Two w a b wt := Below.trans h (k.mono h.size)
theorem Two.drewN {w wr : World} {a b : Array Value} (h : Two w a b wr) (n : Nat) : Two w a b (wr.drewN n) := below_drewN h n
theorem Two.drew {w wr : World} {a b : Array Value} (h : Two w a b wr) : Two w a b wr.drew := below_drewN h 1
theorem Two.alloc {w wr : World} {a b : Array Value} (h : Two w a b wr) (o : Obj) : Two w a b (wr.alloc o) := Below.alloc h h.size o
theorem Two.c0 {w wr : World} {a b : Array Value} (h : Two w a b wr) (j : Nat) (u : Value) (hj : a[j]? = some u) : wr.cell? ⟨w.heap.size, j, none⟩ = some u := by
  have b0 := (Below.block h w.heap.size (by omega)).trans (heap_alloc2_0 w _ _ 0)
  exact (cell_of_row wr _ j _ _ _ b0).trans hj
theorem Two.c1 {w wr : World} {a b : Array Value} (h : Two w a b wr) (j : Nat) (u : Value) (hj : b[j]? = some u) : wr.cell? ⟨w.heap.size + 1, j, none⟩ = some u := by
  have b0 := (Below.block h (w.heap.size + 1) (by omega)).trans (heap_alloc2_1 w _ _ 0)
  exact (cell_of_row wr _ j _ _ _ b0).trans hj

set_option maxHeartbeats 8000000 in
theorem rsame_any (v u : Value) (G H : Gm.Gr) (B B' : Nat) (w : World) (hg : RdGr w B v G) (hh : RdGr w B' u H) (fg : Gm.Fit G) (fh : Gm.Fit H) (hB : B ≤ w.heap.size) (hB' : B' ≤ w.heap.size) :
    Calls Tryd.prog 7 #[v, u] w fun e w' => e = .returned (.bool (Gm.same G H)) ∧ Below w.heap.size w w' := by
  have HB0 := hide (fun o o' => ((Below.refl w.heap.size w).alloc (Nat.le_refl _) o).alloc (by simp) o')
  obtain ⟨AT, cT, AN, cN, AR, cR, rfl, ⟨hlT, hmT⟩, ⟨hlN, hmN⟩, ⟨hlR, hmR⟩, ht, hn, hr⟩ := hg
  obtain ⟨BT, dT, BN, dN, BR, dR, rfl, _, _, _, gt, gn, gr⟩ := hh
  by_cases h1 : G.ts.length = H.ts.length
  case neg =>
    have HE : Hid (Gm.same G H = false) := hide (by unfold Gm.same; rw [unlike_len h1]; rfl)
    have h1' : ((G.ts.length : Int) != (H.ts.length : Int)) = true := by simp; omega
    rw [HE.out]
    clear ht hn hr gt gn gr hlT hmT hlN hmN hlR hmR fg fh hB hB' h1
    go_enter Tryd.func7, Tryd.ntmps7
    go_wp2
    go_ret
    exact ⟨rfl, HB0.out _ _⟩
  by_cases h2 : G.ns.length = H.ns.length
  case neg =>
    have HE : Hid (Gm.same G H = false) := hide (by unfold Gm.same; rw [unlike_len h2]; simp)
    have h1' : ((G.ts.length : Int) != (H.ts.length : Int)) = false := by simp; omega
    have h2' : ((G.ns.length : Int) != (H.ns.length : Int)) = true := by simp; omega
    rw [HE.out]
    clear ht hn hr gt gn gr hlT hmT hlN hmN hlR hmR fg fh hB hB' h1 h2
    go_enter Tryd.func7, Tryd.ntmps7
    go_wp2
    go_ret
    exact ⟨rfl, HB0.out _ _⟩
  by_cases h3 : G.rs.length = H.rs.length
  case neg =>
    have HE : Hid (Gm.same G H = false) := hide (by unfold Gm.same; rw [unlike_len h3]; simp)
    have h1' : ((G.ts.length : Int) != (H.ts.length : Int)) = false := by simp; omega
    have h2' : ((G.ns.length : Int) != (H.ns.length : Int)) = false := by simp; omega
    have h3' : ((G.rs.length : Int) != (H.rs.length : Int)) = true := by simp; omega
    rw [HE.out]
    clear ht hn hr gt gn gr hlT hmT hlN hmN hlR hmR fg fh hB hB' h1 h2 h3
    go_enter Tryd.func7, Tryd.ntmps7
    go_wp2
    go_ret
    exact ⟨rfl, HB0.out _ _⟩
  by_cases h4 : G.st = H.st
  case neg =>
    have HE : Hid (Gm.same G H = false) := hide (by unfold Gm.same; rw [eqb_no h4]; simp)
    have h1' : ((G.ts.length : Int) != (H.ts.length : Int)) = false := by simp; omega
    have h2' : ((G.ns.length : Int) != (H.ns.length : Int)) = false := by simp; omega
    have h3' : ((G.rs.length : Int) != (H.rs.length : Int)) = false := by simp; omega
    have h4' : (G.st != H.st) = true := by simpa using h4
    rw [HE.out]
    clear ht hn hr gt gn gr hlT hmT hlN hmN hlR hmR fg fh hB hB' h1 h2 h3 h4
    go_enter Tryd.func7, Tryd.ntmps7
    go_wp2
    go_ret
    exact ⟨rfl, HB0.out _ _⟩
  have h1' : ((G.ts.length : Int) != (H.ts.length : Int)) = false := by simp; omega
  have h2' : ((G.ns.length : Int) != (H.ns.length : Int)) = false := by simp; omega
  have h3' : ((G.rs.length : Int) != (H.rs.length : Int)) = false := by simp; omega
  have h4' : (G.st != H.st) = false := by simpa using h4
  have HES : Hid (Gm.same G H = (eqb G.ts H.ts && eqb G.ns H.ns && eqb G.rs H.rs)) := hide (by unfold Gm.same; rw [eqb_yes h4]; simp)
  have HT := hide ht
  have HN := hide hn
  have HR := hide hr
  have GT := hide gt
  have GN := hide gn
  have GR := hide gr
  have FT := hide (fun i (h : i < G.ts.length) => (fg.t _ (List.getElem_mem h)).1)
  have FT' := hide (fun i (h : i < H.ts.length) => (fh.t _ (List.getElem_mem h)).1)
  have FN := hide (fun i (h : i < G.ns.length) => fg.n _ (List.getElem_mem h))
  have FN' := hide (fun i (h : i < H.ns.length) => fh.n _ (List.getElem_mem h))
  have L1 := hide h1
  have L2 := hide h2
  have L3 := hide h3
  have hs0 := Two.start w #[.slice AT G.ts.length cT, .slice AN G.ns.length cN, .slice AR G.rs.length cR, .int .i64 G.st] #[.slice BT H.ts.length dT, .slice BN H.ns.length dN, .slice BR H.rs.length dR, .int .i64 H.st]
  have HS0 := hide hs0
  clear ht hn hr gt gn gr fg fh h1 h2 h3 h4 HB0 hs0
  go_enter Tryd.func7, Tryd.ntmps7
  go_wp2
  go_loopw [5] (fun vi wr => ∃ (k : Nat), k ≤ G.ts.length ∧ vi = .int .i64 k ∧ Alike G.ts H.ts k ∧ Two w #[.slice AT G.ts.length cT, .slice AN G.ns.length cN, .slice AR G.rs.length cR, .int .i64 G.st] #[.slice BT H.ts.length dT, .slice BN H.ns.length dN, .slice BR H.rs.length dR, .int .i64 H.st] wr) (fun vi _ => G.ts.length - (intOf vi).toNat)
  case atStart => exact ⟨0, Nat.zero_le _, rfl, Alike.zero _ _, HS0.out⟩
  case round =>
    obtain ⟨k, hk, rfl, ha, hb⟩ := hrel
    have HA := hide ha
    have HB := hide hb
    have q00 := hb.c0 0 _ rfl
    have q10 := hb.c1 0 _ rfl
    have q01 := hb.c0 1 _ rfl
    have hz := hb.size
    have hbw := hb.below
    clear ha hb
    by_cases hlt : k < G.ts.length
    · have hlt2 : k < H.ts.length := by have := L1.out; omega
      clear q01
      obtain ⟨ga, oa, rfl, hga, ca⟩ := HT.out (by omega)
      obtain ⟨gb, ob, rfl, hgb, cb⟩ := GT.out (by omega)
      have a0 := (hbw.cell (p := ⟨ga, oa + k * 3, none⟩) (Nat.lt_of_lt_of_le hga hB)).trans (ca k hlt).1
      have a1 := (hbw.cell (p := ⟨ga, oa + k * 3 + 1, none⟩) (Nat.lt_of_lt_of_le hga hB)).trans (ca k hlt).2.1
      have a2 := (hbw.cell (p := ⟨ga, oa + k * 3 + 2, none⟩) (Nat.lt_of_lt_of_le hga hB)).trans (ca k hlt).2.2
      have b0 := (hbw.cell (p := ⟨gb, ob + k * 3, none⟩) (Nat.lt_of_lt_of_le hgb hB')).trans (cb k hlt2).1
      have b1 := (hbw.cell (p := ⟨gb, ob + k * 3 + 1, none⟩) (Nat.lt_of_lt_of_le hgb hB')).trans (cb k hlt2).2.1
      have b2 := (hbw.cell (p := ⟨gb, ob + k * 3 + 2, none⟩) (Nat.lt_of_lt_of_le hgb hB')).trans (cb k hlt2).2.2
      have hE0 := tm_same (FT.out k hlt) (FT'.out k hlt2)
      have E := fun w => tm_eqIn (K.str G.ts[k].nm) (K.str H.ts[k].nm) G.ts[k].lv H.ts[k].lv G.ts[k].wy H.ts[k].wy w
      rw [hE0] at E
      have hga' : ga < wr.heap.size := by omega
      have hgb' : gb < wr.heap.size := by omega
      have kk0 : (0 : Int) ≤ (k : Int) := by omega
      have kk1 : (k : Int) < (G.ts.length : Int) := by omega
      have kk2 : (k : Int) < (H.ts.length : Int) := by omega
      clear hE0 ca cb hbw HT GT FT FT'
      by_cases hxy : G.ts[k] = H.ts[k]
      · have HX : Hid (Alike G.ts H.ts (k + 1)) := hide (HA.out.next hlt hlt2 hxy)
        rw [eqb_yes hxy] at E
        clear hxy
        generalize K.str G.ts[k].nm = x0 at *
        generalize K.str H.ts[k].nm = y0 at *
        generalize G.ts[k].lv = x1 at *
        generalize H.ts[k].lv = y1 at *
        generalize G.ts[k].wy = x2 at *
        generalize H.ts[k].wy = y2 at *
        go_wp2_with fail
        go_quiet (fail)
        go_wp2
        go_roundw
        case rel => exact ⟨k + 1, hlt, by go_num, HX.out, HB.out.drewN _⟩
        case measure => simp [intOf]; omega
      · have HX : Hid (Gm.same G H = false) := hide (by rw [HES.out, unlike hlt hlt2 hxy]; rfl)
        rw [eqb_no hxy] at E
        clear hxy
        generalize K.str G.ts[k].nm = x0 at *
        generalize K.str H.ts[k].nm = y0 at *
        generalize G.ts[k].lv = x1 at *
        generalize H.ts[k].lv = y1 at *
        generalize G.ts[k].wy = x2 at *
        generalize H.ts[k].wy = y2 at *
        go_wp2_with fail
        go_quiet (fail)
        go_wp2
        go_ret
        exact ⟨ret_bool HX.out.symm, (HB.out.drewN _).below⟩
    · obtain rfl : k = G.ts.length := by omega
      have HEE : Hid (Gm.same G H = (eqb G.ns H.ns && eqb G.rs H.rs)) := hide (by rw [HES.out, HA.out.all rfl L1.out]; rfl)
      clear hbw HES hk
      go_wp2
      go_loopw [6] (fun vi wr => ∃ (k : Nat), k ≤ G.ns.length ∧ vi = .int .i64 k ∧ Alike G.ns H.ns k ∧ Two w #[.slice AT G.ts.length cT, .slice AN G.ns.length cN, .slice AR G.rs.length cR, .int .i64 G.st] #[.slice BT H.ts.length dT, .slice BN H.ns.length dN, .slice BR H.rs.length dR, .int .i64 H.st] wr) (fun vi _ => G.ns.length - (intOf vi).toNat)
      case atStart => exact ⟨0, Nat.zero_le _, rfl, Alike.zero _ _, HB.out⟩
      case round =>
        clear q00 q10 q01 hz HB
        obtain ⟨k, hk, rfl, ha, hb⟩ := hrel
        have HA2 := hide ha
        have HB := hide hb
        have q01 := hb.c0 1 _ rfl
        have q11 := hb.c1 1 _ rfl
        have q02 := hb.c0 2 _ rfl
        have hz := hb.size
        have hbw := hb.below
        clear ha hb
        by_cases hlt : k < G.ns.length
        · have hlt2 : k < H.ns.length := by have := L2.out; omega
          clear q02
          obtain ⟨ga, oa, rfl, hga, ca⟩ := HN.out (by omega)
          obtain ⟨gb, ob, rfl, hgb, cb⟩ := GN.out (by omega)
          have a0 := (hbw.cell (p := ⟨ga, oa + k, none⟩) (Nat.lt_of_lt_of_le hga hB)).trans (ca k hlt)
          have b0 := (hbw.cell (p := ⟨gb, ob + k, none⟩) (Nat.lt_of_lt_of_le hgb hB')).trans (cb k hlt2)
          have E := K.eqB (FN.out k hlt) (FN'.out k hlt2)
          have hga' : ga < wr.heap.size := by omega
          have hgb' : gb < wr.heap.size := by omega
          have kk0 : (0 : Int) ≤ (k : Int) := by omega
          have kk1 : (k : Int) < (G.ns.length : Int) := by omega
          have kk2 : (k : Int) < (H.ns.length : Int) := by omega
          clear ca cb hbw HN GN FN FN'
          by_cases hxy : G.ns[k] = H.ns[k]
          · have HX : Hid (Alike G.ns H.ns (k + 1)) := hide (HA2.out.next hlt hlt2 hxy)
            rw [decide_eq_true hxy] at E
            have E' : ((K.str G.ns[k]).toList != (K.str H.ns[k]).toList) = false := by rw [bne, E]; rfl
            clear hxy
            generalize K.str G.ns[k] = x0 at *
            generalize K.str H.ns[k] = y0 at *
            go_wp2_with fail
            go_quiet (fail)
            go_wp2
            go_roundw
            case rel => exact ⟨k + 1, hlt, by go_num, HX.out, HB.out.drewN _⟩
            case measure => simp [intOf]; omega
          · have HX : Hid (Gm.same G H = false) := hide (by rw [HEE.out, unlike hlt hlt2 hxy]; rfl)
            rw [decide_eq_false hxy] at E
            have E' : ((K.str G.ns[k]).toList != (K.str H.ns[k]).toList) = true := by rw [bne, E]; rfl
            clear hxy
            generalize K.str G.ns[k] = x0 at *
            generalize K.str H.ns[k] = y0 at *
            go_wp2_with fail
            go_quiet (fail)
            go_wp2
            go_ret
            exact ⟨ret_bool HX.out.symm, (HB.out.drewN _).below⟩
        · obtain rfl : k = G.ns.length := by omega
          have HE3 : Hid (Gm.same G H = eqb G.rs H.rs) := hide (by rw [HEE.out, HA2.out.all rfl L2.out]; rfl)
          clear hbw HEE hk
          go_wp2
          go_loopw [7] (fun vi wr => ∃ (k : Nat), k ≤ G.rs.length ∧ vi = .int .i64 k ∧ Alike G.rs H.rs k ∧ Two w #[.slice AT G.ts.length cT, .slice AN G.ns.length cN, .slice AR G.rs.length cR, .int .i64 G.st] #[.slice BT H.ts.length dT, .slice BN H.ns.length dN, .slice BR H.rs.length dR, .int .i64 H.st] wr) (fun vi _ => G.rs.length - (intOf vi).toNat)
          case atStart => exact ⟨0, Nat.zero_le _, rfl, Alike.zero _ _, HB.out⟩
          case round =>
            clear q01 q11 q02 hz HB
            obtain ⟨k, hk, rfl, ha, hb⟩ := hrel
            have HA3 := hide ha
            have HB := hide hb
            have q02 := hb.c0 2 _ rfl
            have q12 := hb.c1 2 _ rfl
            have hz := hb.size
            have hbw := hb.below
            clear ha hb
            by_cases hlt : k < G.rs.length
            · have hlt2 : k < H.rs.length := by have := L3.out; omega
              obtain ⟨ga, oa, rfl, hga, ca⟩ := HR.out (by omega)
              obtain ⟨gb, ob, rfl, hgb, cb⟩ := GR.out (by omega)
              obtain ⟨a0, ⟨Aa, cca, a1, _, _, ra⟩, a2⟩ := ca k hlt
              obtain ⟨b0, ⟨Ab, ccb, b1, _, _, rb⟩, b2⟩ := cb k hlt2
              have hls : G.rs[k].r.length ≤ 9223372036854775807 := by omega
              have hls2 : H.rs[k].r.length ≤ 9223372036854775807 := by omega
              have a0 := (hbw.cell (p := ⟨ga, oa + k * 3, none⟩) (Nat.lt_of_lt_of_le hga hB)).trans a0
              have a1 := (hbw.cell (p := ⟨ga, oa + k * 3 + 1, none⟩) (Nat.lt_of_lt_of_le hga hB)).trans a1
              have a2 := (hbw.cell (p := ⟨ga, oa + k * 3 + 2, none⟩) (Nat.lt_of_lt_of_le hga hB)).trans a2
              have b0 := (hbw.cell (p := ⟨gb, ob + k * 3, none⟩) (Nat.lt_of_lt_of_le hgb hB')).trans b0
              have b1 := (hbw.cell (p := ⟨gb, ob + k * 3 + 1, none⟩) (Nat.lt_of_lt_of_le hgb hB')).trans b1
              have b2 := (hbw.cell (p := ⟨gb, ob + k * 3 + 2, none⟩) (Nat.lt_of_lt_of_le hgb hB')).trans b2
              have HS := hide (fun (z : World) (h : Below w.heap.size w z) => ints_any Aa Ab cca ccb G.rs[k].r H.rs[k].r z ((ra.keep fun g o hg => h.cell (p := ⟨g, o, none⟩) (Nat.lt_of_lt_of_le hg hB)).more (Nat.le_trans hB h.size)) ((rb.keep fun g o hg => h.cell (p := ⟨g, o, none⟩) (Nat.lt_of_lt_of_le hg hB')).more (Nat.le_trans hB' h.size)) hls hls2)
              have hga' : ga < wr.heap.size := by omega
              have hgb' : gb < wr.heap.size := by omega
              have kk0 : (0 : Int) ≤ (k : Int) := by omega
              have kk1 : (k : Int) < (G.rs.length : Int) := by omega
              have kk2 : (k : Int) < (H.rs.length : Int) := by omega
              have x8 := hide (hbw)
              have CL := hide (fun (y : Calm.On wr.heap.size wr) (g j : Nat) (u : Value) (hg : g < wr.heap.size) (h : wr.cell? ⟨g, j, none⟩ = some u) => (y.2.cell (p := ⟨g, j, none⟩) hg).trans h)
              have R0 := fun y : Calm.On wr.heap.size wr => CL.out y _ _ _ (by omega) q02
              have R1 := fun y : Calm.On wr.heap.size wr => CL.out y _ _ _ (by omega) q12
              have A0 := fun y : Calm.On wr.heap.size wr => CL.out y _ _ _ hga' a0
              have A1 := fun y : Calm.On wr.heap.size wr => CL.out y _ _ _ hga' a1
              have A2 := fun y : Calm.On wr.heap.size wr => CL.out y _ _ _ hga' a2
              have B0 := fun y : Calm.On wr.heap.size wr => CL.out y _ _ _ hgb' b0
              have B1 := fun y : Calm.On wr.heap.size wr => CL.out y _ _ _ hgb' b1
              have B2 := fun y : Calm.On wr.heap.size wr => CL.out y _ _ _ hgb' b2
              have HZ3 := hide (fun o o' : Obj => below_drewN (((Below.refl wr.heap.size wr).alloc (Nat.le_refl _) o).alloc (by simp) o') 1)
              have HZ1 := hide (fun o : Obj => (below_drewN (Below.refl wr.heap.size wr) 1).alloc (Nat.le_refl _) o)
              have HZ2 := hide (fun o o' : Obj => ((below_drewN (Below.refl wr.heap.size wr) 1).alloc (Nat.le_refl _) o).alloc (by simp) o')
              go_wp2_with fail
              refine Calm.region_tree (fun x => ∃ y : Calm.On wr.heap.size wr, x = y.1) (.two [0, 1, 2, 3, 4, 5, 6, 7, 8, 9] 10 (.one [] 11 (.one [] 12 (.one [] 13 (.fin [])))) 11 (.one [] 10 (.one [] 12 (.one [] 13 (.fin []))))) (by kernel_rfl) (by kernel_rfl) (fun _ _ d _ _ h => by cases d <;> exact h) ⟨⟨wr.drew, below_drewN (Below.refl _ _) 1⟩, rfl⟩ ?_
              clear q02 q12 a0 a1 a2 b0 b1 b2
              simp only [Calm.wpT, Calm.wpSt, Calm.pickOps, List.getElem?_toArray, List.getElem?_cons_zero, List.getElem?_cons_succ]
              repeat (go_big_quiet_step (fail))
              refine wpQuiet_nil ?_
              clear R0 R1 A0 A1 A2 B0 B1 B2
              refine ⟨?_, ?_⟩
              · intro KK hKK
                rw [if_pos (by rfl)]
                go_wp2_with fail
                refine hKK _ _ ⟨⟨_, HZ1.out _⟩, rfl⟩ (fun x => ∃ y : Calm.On wr.heap.size wr, x = y.1) (fun _ h => h) ⟨⟨_, HZ1.out _⟩, rfl⟩ ?_
                refine wpQuiet_nil ?_
                intro KK hKK
                rw [if_pos (by rfl)]
                go_wp2_with fail
                refine hKK _ _ ⟨⟨_, HZ2.out _ _⟩, rfl⟩ (fun x => ∃ y : Calm.On wr.heap.size wr, x = y.1) (fun _ h => h) ⟨⟨_, HZ2.out _ _⟩, rfl⟩ ?_
                refine wpQuiet_nil ?_
                intro KK hKK
                rw [if_pos (by rfl)]
                go_wp2_with fail
                refine hKK _ _ ⟨⟨_, HZ3.out _ _⟩, rfl⟩ (fun x => ∃ y : Calm.On wr.heap.size wr, x = y.1) (fun _ h => h) ⟨⟨_, HZ3.out _ _⟩, rfl⟩ ?_
                refine wpQuiet_nil ?_
                intro KK hKK
                rw [if_pos (by rfl)]
                go_wp2_with fail
                refine hKK _ _ ⟨⟨_, HZ3.out _ _⟩, rfl⟩ (fun x => ∃ y : Calm.On wr.heap.size wr, x = y.1) (fun _ h => h) ⟨⟨_, HZ3.out _ _⟩, rfl⟩ ?_
                refine wpQuiet_nil ?_
                have HBZ := hide (fun o o' : Obj => (HB.out.on (HZ3.out o o')))
                have HBN := hide (fun (o o' : Obj) (n : Nat) => (HB.out.on (below_drewN (((Below.refl wr.heap.size wr).alloc (Nat.le_refl _) o).alloc (by simp) o') n)))
                clear hKK
                generalize qx : G.rs[k] = x at *
                generalize qy : H.rs[k] = y at *
                have QX := hide qx
                have QY := hide qy
                clear qx qy
                by_cases hx1 : x.l = y.l
                case neg =>
                  have HX : Hid (Gm.same G H = false) := hide (by rw [HE3.out, unlike hlt hlt2 (fun e => hx1 (by rw [← QX.out, ← QY.out]; exact congrArg Gm.Rl.l e))])
                  have e1 : (x.l != y.l) = true := by simpa using hx1
                  clear hx1
                  go_wp2_with fail
                  go_ret
                  exact ⟨ret_bool HX.out.symm, (HBZ.out _ _).below⟩
                have e1 : (x.l != y.l) = false := by simpa using hx1
                by_cases hx2 : x.p = y.p
                case neg =>
                  have HX : Hid (Gm.same G H = false) := hide (by rw [HE3.out, unlike hlt hlt2 (fun e => hx2 (by rw [← QX.out, ← QY.out]; exact congrArg Gm.Rl.p e))])
                  have e2 : (x.p != y.p) = true := by simpa using hx2
                  clear hx1 hx2
                  go_wp2_with fail
                  go_ret
                  exact ⟨ret_bool HX.out.symm, (HBZ.out _ _).below⟩
                have e2 : (x.p != y.p) = false := by simpa using hx2
                by_cases hx3 : x.r = y.r
                · have HX : Hid (Alike G.rs H.rs (k + 1)) := hide (HA3.out.next hlt hlt2 (QX.out.trans (Eq.trans (by cases x; cases y; simp_all) QY.out.symm)))
                  rw [decide_eq_true hx3] at HS
                  clear hx1 hx2 hx3
                  go_wp2_with fail
                  refine (HS.out _ (HBZ.out _ _).below).mono ?_; rintro _ w6 ⟨rfl, n6, rfl⟩
                  go_wp2
                  go_roundw
                  case rel => exact ⟨k + 1, hlt, by go_num, HX.out, HBN.out _ _ _⟩
                  case measure => simp [intOf]; omega
                · have HX : Hid (Gm.same G H = false) := hide (by rw [HE3.out, unlike hlt hlt2 (fun e => hx3 (by rw [← QX.out, ← QY.out]; exact congrArg Gm.Rl.r e))])
                  rw [decide_eq_false hx3] at HS
                  clear hx1 hx2 hx3
                  go_wp2_with fail
                  refine (HS.out _ (HBZ.out _ _).below).mono ?_; rintro _ w6 ⟨rfl, n6, rfl⟩
                  go_wp2
                  go_ret
                  exact ⟨ret_bool HX.out.symm, (HBN.out _ _ _).below⟩
              · intro KK hKK
                rw [if_pos (by rfl)]
                go_wp2_with fail
                refine hKK _ _ ⟨⟨_, HZ1.out _⟩, rfl⟩ (fun x => ∃ y : Calm.On wr.heap.size wr, x = y.1) (fun _ h => h) ⟨⟨_, HZ1.out _⟩, rfl⟩ ?_
                refine wpQuiet_nil ?_
                intro KK hKK
                rw [if_pos (by rfl)]
                go_wp2_with fail
                refine hKK _ _ ⟨⟨_, HZ2.out _ _⟩, rfl⟩ (fun x => ∃ y : Calm.On wr.heap.size wr, x = y.1) (fun _ h => h) ⟨⟨_, HZ2.out _ _⟩, rfl⟩ ?_
                refine wpQuiet_nil ?_
                intro KK hKK
                rw [if_pos (by rfl)]
                go_wp2_with fail
                refine hKK _ _ ⟨⟨_, HZ3.out _ _⟩, rfl⟩ (fun x => ∃ y : Calm.On wr.heap.size wr, x = y.1) (fun _ h => h) ⟨⟨_, HZ3.out _ _⟩, rfl⟩ ?_
                refine wpQuiet_nil ?_
                intro KK hKK
                rw [if_pos (by rfl)]
                go_wp2_with fail
                refine hKK _ _ ⟨⟨_, HZ3.out _ _⟩, rfl⟩ (fun x => ∃ y : Calm.On wr.heap.size wr, x = y.1) (fun _ h => h) ⟨⟨_, HZ3.out _ _⟩, rfl⟩ ?_
                refine wpQuiet_nil ?_
                have HBZ := hide (fun o o' : Obj => (HB.out.on (HZ3.out o o')))
                have HBN := hide (fun (o o' : Obj) (n : Nat) => (HB.out.on (below_drewN (((Below.refl wr.heap.size wr).alloc (Nat.le_refl _) o).alloc (by simp) o') n)))
                clear hKK
                generalize qx : G.rs[k] = x at *
                generalize qy : H.rs[k] = y at *
                have QX := hide qx
                have QY := hide qy
                clear qx qy
                by_cases hx1 : x.l = y.l
                case neg =>
                  have HX : Hid (Gm.same G H = false) := hide (by rw [HE3.out, unlike hlt hlt2 (fun e => hx1 (by rw [← QX.out, ← QY.out]; exact congrArg Gm.Rl.l e))])
                  have e1 : (x.l != y.l) = true := by simpa using hx1
                  clear hx1
                  go_wp2_with fail
                  go_ret
                  exact ⟨ret_bool HX.out.symm, (HBZ.out _ _).below⟩
                have e1 : (x.l != y.l) = false := by simpa using hx1
                by_cases hx2 : x.p = y.p
                case neg =>
                  have HX : Hid (Gm.same G H = false) := hide (by rw [HE3.out, unlike hlt hlt2 (fun e => hx2 (by rw [← QX.out, ← QY.out]; exact congrArg Gm.Rl.p e))])
                  have e2 : (x.p != y.p) = true := by simpa using hx2
                  clear hx1 hx2
                  go_wp2_with fail
                  go_ret
                  exact ⟨ret_bool HX.out.symm, (HBZ.out _ _).below⟩
                have e2 : (x.p != y.p) = false := by simpa using hx2
                by_cases hx3 : x.r = y.r
                · have HX : Hid (Alike G.rs H.rs (k + 1)) := hide (HA3.out.next hlt hlt2 (QX.out.trans (Eq.trans (by cases x; cases y; simp_all) QY.out.symm)))
                  rw [decide_eq_true hx3] at HS
                  clear hx1 hx2 hx3
                  go_wp2_with fail
                  refine (HS.out _ (HBZ.out _ _).below).mono ?_; rintro _ w6 ⟨rfl, n6, rfl⟩
                  go_wp2
                  go_roundw
                  case rel => exact ⟨k + 1, hlt, by go_num, HX.out, HBN.out _ _ _⟩
                  case measure => simp [intOf]; omega
                · have HX : Hid (Gm.same G H = false) := hide (by rw [HE3.out, unlike hlt hlt2 (fun e => hx3 (by rw [← QX.out, ← QY.out]; exact congrArg Gm.Rl.r e))])
                  rw [decide_eq_false hx3] at HS
                  clear hx1 hx2 hx3
                  go_wp2_with fail
                  refine (HS.out _ (HBZ.out _ _).below).mono ?_; rintro _ w6 ⟨rfl, n6, rfl⟩
                  go_wp2
                  go_ret
                  exact ⟨ret_bool HX.out.symm, (HBN.out _ _ _).below⟩
            · obtain rfl : k = G.rs.length := by omega
              have HX : Hid (Gm.same G H = true) := hide (by rw [HE3.out, HA3.out.all rfl L3.out])
              go_wp2
              go_ret
              exact ⟨ret_bool HX.out.symm, HB.out.below⟩
end Go.Proofs.YtkfelkpilaipnaaDoor

namespace Go.Proofs.YtkfelkpilaipnaaDoor
set_option maxRecDepth 100000
open Go.RowKit

/-- One text, one grammar. -/
theorem text_inj {G H : Gm.Gr} (hg : Gm.right G = true) (hh : Gm.right H = true) (h : Sh.text G = Sh.text H) : G = H := by
  obtain ⟨xs, s, a1, a2, a3⟩ := Sh.text_back hg
  obtain ⟨ys, t, b1, b2, b3⟩ := Sh.text_back hh
  rw [h, b1] at a1
  injection a1 with e
  subst e
  rw [b2] at a2
  injection a2 with e
  subst e
  rw [b3] at a3
  injection a3 with e
  exact e.symm
theorem same_no {G H : Gm.Gr} (h : G ≠ H) : Gm.same G H = false := by
  cases hs : Gm.same G H with
  | false => rfl
  | true =>
    exfalso
    have ht : ∀ {α : Type} {a b : α}, eqb a b = true → a = b := fun {α a b} hh => Classical.byContradiction fun hn => by rw [eqb_no hn] at hh; cases hh
    unfold Gm.same at hs
    simp only [Bool.and_eq_true] at hs
    obtain ⟨⟨⟨h1, h2⟩, h3⟩, h4⟩ := hs
    apply h
    cases G; cases H
    have e1 := ht h1; have e2 := ht h2; have e3 := ht h3; have e4 := ht h4
    simp only at e1 e2 e3 e4
    rw [e1, e2, e3, e4]
theorem pr_two (G : Gm.Gr) : (Gm.right G = true ∧ Sh.pr G = (Sh.text G, 0)) ∨ Sh.pr G = ([], 5) ∨ Sh.pr G = ([], 1) := by
  unfold Sh.pr
  split
  · rename_i h
    split
    · exact .inr (.inl rfl)
    · exact .inl ⟨h, rfl⟩
  · exact .inr (.inr rfl)
theorem text_ne {G H : Gm.Gr} (fg : Gm.Fit G) (fh : Gm.Fit H) (hg : Gm.right G = true) (hh : Gm.right H = true) (pg : Sh.pr G = (Sh.text G, 0)) (ph : Sh.pr H = (Sh.text H, 0)) (h : G ≠ H) : ((K.str (Sh.text G)).toList == (K.str (Sh.text H)).toList) = false := by
  have b1 : K.Bytes (Sh.text G) := by have := Sh.pr_bytes fg; rw [pg] at this; exact this
  have b2 : K.Bytes (Sh.text H) := by have := Sh.pr_bytes fh; rw [ph] at this; exact this
  exact str_ne fun e => h (text_inj hg hh ((K.str_eq b1 b2).1 e))

/-- What the walk stands on: two grammars in their boxes. -/
structure Tel (w wr : World) (a b : Array Value) : Prop where
  h : Below w.heap.size w wr
  x : wr.heap[w.heap.size]? = some (.cells a 26 (0, 0))
  y : wr.heap[w.heap.size + 1]? = some (.cells b 26 (0, 0))
theorem Tel.up {w wr wn : World} {a b : Array Value} (h : Tel w wr a b) (hb : Below wr.heap.size wr wn) : Tel w wn a b :=
  ⟨h.h.trans (hb.mono h.h.size), (hb.block _ (Array.getElem?_eq_some_iff.1 h.x).1).trans h.x, (hb.block _ (Array.getElem?_eq_some_iff.1 h.y).1).trans h.y⟩

set_option maxHeartbeats 8000000 in
theorem showTells_walk (v u : Value) (G H : Gm.Gr) (w : World) (hg : RdGr w w.heap.size v G) (hh : RdGr w w.heap.size u H) (fg : Gm.Fit G) (fh : Gm.Fit H) (h4 : Fours w) :
    Calls Tryd.prog 3 #[v, u] w fun e w' => e = .returned (.bool true) ∧ Below w.heap.size w w' := by
  have HGG := hide (fun (x : World) (h : Below w.heap.size w x) => hg.below h (Nat.le_refl _))
  have HHH := hide (fun (x : World) (h : Below w.heap.size w x) => hh.below h (Nat.le_refl _))
  have HAL := hide (fun (x : World) (h : Below w.heap.size w x) => alive10_any x (h4.below h))
  have TG := hide (fun (x : World) (h : Below w.heap.size w x) => great9_any v G w.heap.size x (HGG.out x h) h.size)
  have TG2 := hide (fun (x : World) (h : Below w.heap.size w x) => great9_any u H w.heap.size x (HHH.out x h) h.size)
  have TP := hide (fun (x : World) (h : Below w.heap.size w x) => print_any v G w.heap.size x (HGG.out x h) fg h.size)
  have TP2 := hide (fun (x : World) (h : Below w.heap.size w x) => print_any u H w.heap.size x (HHH.out x h) fh h.size)
  have TS := hide (fun (x : World) (h : Below w.heap.size w x) => rsame_any v u G H w.heap.size w.heap.size x (HGG.out x h) (HHH.out x h) fg fh h.size h.size)
  have HPG := hide (pr_two G)
  have HPH := hide (pr_two H)
  have HCS : Hid (Gm.right G = true → Gm.right H = true → Sh.pr G = (Sh.text G, 0) → Sh.pr H = (Sh.text H, 0) → (K.str (Sh.text G) = K.str (Sh.text H) ∧ Gm.same G H = true) ∨ (((K.str (Sh.text G)).toList == (K.str (Sh.text H)).toList) = false ∧ Gm.same G H = false)) := hide fun h1 h2 h3 h4 => by
    by_cases e : G = H
    · subst e; exact .inl ⟨rfl, Gm.same_self G⟩
    · exact .inr ⟨text_ne fg fh h1 h2 h3 h4 e, same_no e⟩
  obtain ⟨A0, c0, A1, c1, A2, c2, rfl, _⟩ := hg
  obtain ⟨B0, d0, B1, d1, B2, d2, rfl, _⟩ := hh
  have HW0 := hide (fun o1 o2 => ((Below.refl w.heap.size w).alloc (Nat.le_refl _) o1).alloc (by simp) o2)
  have HQ0 : Hid (Tel w ((w.alloc (.cells #[.slice A0 G.ts.length c0, .slice A1 G.ns.length c1, .slice A2 G.rs.length c2, .int .i64 G.st] 26)).alloc (.cells #[.slice B0 H.ts.length d0, .slice B1 H.ns.length d1, .slice B2 H.rs.length d2, .int .i64 H.st] 26)) #[.slice A0 G.ts.length c0, .slice A1 G.ns.length c1, .slice A2 G.rs.length c2, .int .i64 G.st] #[.slice B0 H.ts.length d0, .slice B1 H.ns.length d1, .slice B2 H.rs.length d2, .int .i64 H.st]) := hide ⟨HW0.out _ _, by rw [Below.heap_alloc _ _ _ (by simp)]; exact heap_alloc_new w _, by
      have := heap_alloc_new (w.alloc (.cells #[.slice A0 G.ts.length c0, .slice A1 G.ns.length c1, .slice A2 G.rs.length c2, .int .i64 G.st] 26)) (.cells #[.slice B0 H.ts.length d0, .slice B1 H.ns.length d1, .slice B2 H.rs.length d2, .int .i64 H.st] 26)
      simpa using this⟩
  clear fg fh HGG HHH h4
  generalize G.ts.length = gt at *
  generalize G.ns.length = gn at *
  generalize G.rs.length = gr at *
  generalize G.st = gs at *
  generalize H.ts.length = ht at *
  generalize H.ns.length = hn at *
  generalize H.rs.length = hr at *
  generalize H.st = hs at *
  go_enter Tryd.func3, Tryd.ntmps3
  go_wp2_with fail
  refine (HAL.out _ (HW0.out _ _)).mono ?_; rintro _ w1 ⟨rfl, hb1⟩
  have HQ1 := hide (HQ0.out.up hb1)
  have x0 := cell_of_row w1 _ 0 _ _ _ HQ1.out.x
  have x1 := cell_of_row w1 _ 1 _ _ _ HQ1.out.x
  have x2 := cell_of_row w1 _ 2 _ _ _ HQ1.out.x
  have x3 := cell_of_row w1 _ 3 _ _ _ HQ1.out.x
  clear hb1 HQ0 HW0 HAL
  cases hgr : Gm.great G with
  | true =>
    rw [hgr] at TG
    go_wp2_with fail
    refine (TG.out _ HQ1.out.h).mono ?_; rintro _ w2 ⟨rfl, hb2⟩
    have HQ2 := hide (HQ1.out.up hb2)
    clear hb2
    go_wp2
    go_ret
    exact ⟨rfl, HQ2.out.h⟩
  | false =>
    rw [hgr] at TG
    go_wp2_with fail
    refine (TG.out _ HQ1.out.h).mono ?_; rintro _ w2 ⟨rfl, hb2⟩
    have HQ2 := hide (HQ1.out.up hb2)
    have y0 := cell_of_row w2 _ 0 _ _ _ HQ2.out.y
    have y1 := cell_of_row w2 _ 1 _ _ _ HQ2.out.y
    have y2 := cell_of_row w2 _ 2 _ _ _ HQ2.out.y
    have y3 := cell_of_row w2 _ 3 _ _ _ HQ2.out.y
    clear hb2 hgr TG x0 x1 x2 x3
    cases hgh : Gm.great H with
    | true =>
      rw [hgh] at TG2
      go_wp2_with fail
      refine (TG2.out _ HQ2.out.h).mono ?_; rintro _ w3 ⟨rfl, hb3⟩
      have HQ3 := hide (HQ2.out.up hb3)
      clear hb3
      go_wp2
      go_ret
      exact ⟨rfl, HQ3.out.h⟩
    | false =>
      rw [hgh] at TG2
      go_wp2_with fail
      refine (TG2.out _ HQ2.out.h).mono ?_; rintro _ w3 ⟨rfl, hb3⟩
      have HQ3 := hide (HQ2.out.up hb3)
      have x0 := cell_of_row w3 _ 0 _ _ _ HQ3.out.x
      have x1 := cell_of_row w3 _ 1 _ _ _ HQ3.out.x
      have x2 := cell_of_row w3 _ 2 _ _ _ HQ3.out.x
      have x3 := cell_of_row w3 _ 3 _ _ _ HQ3.out.x
      clear hb3 hgh TG2 y0 y1 y2 y3 HQ2 HQ1
      have HYC := hide (fun (x : World) (h : Tel w x #[.slice A0 gt c0, .slice A1 gn c1, .slice A2 gr c2, .int .i64 gs] #[.slice B0 ht d0, .slice B1 hn d1, .slice B2 hr d2, .int .i64 hs]) => And.intro (cell_of_row x _ 0 _ _ _ h.y) (And.intro (cell_of_row x _ 1 _ _ _ h.y) (And.intro (cell_of_row x _ 2 _ _ _ h.y) (cell_of_row x _ 3 _ _ _ h.y))))
      rcases HPG.out with ⟨hr1, hp⟩ | hp | hp
      · have HC1 := hide (HCS.out hr1)
        rw [hp] at TP
        simp only at TP
        rcases HPH.out with ⟨hr2, hq⟩ | hq | hq
        · have HC2 := hide (HC1.out hr2 hp hq)
          rw [hq] at TP2
          simp only at TP2
          clear hr1 hr2 hp hq HC1 HCS HPG HPH
          generalize K.str (Sh.text G) = tx at *
          generalize K.str (Sh.text H) = ty at *
          go_wp2_with fail
          refine (TP.out _ HQ3.out.h).mono ?_; rintro _ w4 ⟨rfl, hb4⟩
          have HQ4 := hide (HQ3.out.up hb4)
          clear hb4 TP x0 x1 x2 x3
          obtain ⟨y0, y1, y2, y3⟩ := HYC.out w4 HQ4.out
          go_wp2_with fail
          refine (TP2.out _ HQ4.out.h).mono ?_; rintro _ w5 ⟨rfl, hb5⟩
          have HQ5 := hide (HQ4.out.up hb5)
          clear hb5 TP2 y0 y1 y2 y3
          have x0 := cell_of_row w5 _ 0 _ _ _ HQ5.out.x
          have x1 := cell_of_row w5 _ 1 _ _ _ HQ5.out.x
          have x2 := cell_of_row w5 _ 2 _ _ _ HQ5.out.x
          have x3 := cell_of_row w5 _ 3 _ _ _ HQ5.out.x
          obtain ⟨y0, y1, y2, y3⟩ := HYC.out w5 HQ5.out
          rcases HC2.out with ⟨e1, e2⟩ | ⟨e1, e2⟩
          · subst e1
            rw [e2] at TS
            go_wp2_with fail
            refine (TS.out _ HQ5.out.h).mono ?_; rintro _ w6 ⟨rfl, hb6⟩
            have HQ6 := hide (HQ5.out.up hb6)
            clear hb6
            go_wp2
            go_ret
            exact ⟨rfl, HQ6.out.h⟩
          · rw [e2] at TS
            clear e2
            go_wp2_with fail
            refine (TS.out _ HQ5.out.h).mono ?_; rintro _ w6 ⟨rfl, hb6⟩
            have HQ6 := hide (HQ5.out.up hb6)
            clear hb6
            go_wp2
            go_ret
            exact ⟨rfl, HQ6.out.h⟩
        all_goals
          rw [hq] at TP2
          simp only at TP2
          clear hr1 hp hq HC1 HCS HPG HPH
          generalize K.str (Sh.text G) = tx at *
          generalize K.str ([] : List Int) = ty at *
          go_wp2_with fail
          refine (TP.out _ HQ3.out.h).mono ?_; rintro _ w4 ⟨rfl, hb4⟩
          have HQ4 := hide (HQ3.out.up hb4)
          clear hb4 TP x0 x1 x2 x3
          obtain ⟨y0, y1, y2, y3⟩ := HYC.out w4 HQ4.out
          go_wp2_with fail
          refine (TP2.out _ HQ4.out.h).mono ?_; rintro _ w5 ⟨rfl, hb5⟩
          have HQ5 := hide (HQ4.out.up hb5)
          clear hb5 TP2 y0 y1 y2 y3
          go_wp2
          go_ret
          exact ⟨rfl, HQ5.out.h⟩
      all_goals
        rw [hp] at TP
        simp only at TP
        clear hp HCS HPG HPH
        generalize K.str ([] : List Int) = tx at *
        generalize K.str (Sh.pr H).1 = ty at *
        generalize (Sh.pr H).2 = er at *
        go_wp2_with fail
        refine (TP.out _ HQ3.out.h).mono ?_; rintro _ w4 ⟨rfl, hb4⟩
        have HQ4 := hide (HQ3.out.up hb4)
        clear hb4 TP x0 x1 x2 x3
        obtain ⟨y0, y1, y2, y3⟩ := HYC.out w4 HQ4.out
        go_wp2_with fail
        refine (TP2.out _ HQ4.out.h).mono ?_; rintro _ w5 ⟨rfl, hb5⟩
        have HQ5 := hide (HQ4.out.up hb5)
        clear hb5 TP2 y0 y1 y2 y3
        go_wp2
        go_ret
        exact ⟨rfl, HQ5.out.h⟩
end Go.Proofs.YtkfelkpilaipnaaDoor
