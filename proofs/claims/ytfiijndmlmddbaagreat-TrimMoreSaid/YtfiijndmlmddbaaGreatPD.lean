/- Part of the proofs over this program: TrimFn, TrimPass, TrimGrow, TrimTells, CalmN, CalmA, TrimReach, TrimRef, TrimD, TrimK. -/
import Derived.Deep.Cut
import Derived.Test.YtfiijndmlmddbaaGreatPC
namespace Go.Proofs.YtfiijndmlmddbaaGreat
set_option maxRecDepth 100000
open Go.RowKit

/-- The nonterminals of some symbols. -/
def Gm.nts (r : List Int) : List Int := (r.filter fun z => decide (z < 0)).map fun z => -1 - z
theorem Gm.nts_next {r : List Int} {k : Nat} (h : k < r.length) : Gm.nts (r.take (k + 1)) = if r.getD k 0 < 0 then Gm.nts (r.take k) ++ [-1 - r.getD k 0] else Gm.nts (r.take k) := by
  unfold Gm.nts
  rw [L.take_snoc r k h, List.filter_append, List.map_append]
  generalize r.getD k 0 = z
  by_cases hz : z < 0
  · rw [if_pos hz]; simp [hz]
  · rw [if_neg hz]; simp [hz]
theorem Gm.nts_len (r : List Int) : (Gm.nts r).length ≤ r.length := by
  unfold Gm.nts; rw [List.length_map]; exact List.length_filter_le _ _
theorem Gm.nts_mem {r : List Int} {n : Int} : n ∈ Gm.nts r ↔ -1 - n ∈ r ∧ 0 ≤ n := by
  unfold Gm.nts
  rw [List.mem_map]
  constructor
  · rintro ⟨z, hz, rfl⟩
    have := List.mem_filter.1 hz
    have h2 := of_decide_eq_true this.2
    exact ⟨by rw [show -1 - (-1 - z) = z by omega]; exact this.1, by omega⟩
  · rintro ⟨h1, h2⟩
    exact ⟨-1 - n, List.mem_filter.2 ⟨h1, by simp; omega⟩, by omega⟩

theorem isNon_any (z : Int) (w : World) :
    Calls Tryz.prog 30 #[.int .i64 z] w fun e w' => e = .returned (.bool (decide (z < 0))) ∧ w' = w := by
  go_enter Tryz.func30, Tryz.ntmps30
  go_wp2
  go_ret
  exact ⟨rfl, rfl⟩
theorem tnon_any (z : Int) (hz : -9223372036854775808 ≤ z) (hz' : z ≤ 9223372036854775807) (w : World) :
    Calls Tryz.prog 31 #[.int .i64 z] w fun e w' => e = .returned (.int .i64 (-1 - z)) ∧ w' = w := by
  have hs : IntKind.i64.wrap (-1 - z) = -1 - z := IntWalk.i64_in _ (by omega)
  clear hz hz'
  go_enter Tryz.func31, Tryz.ntmps31
  go_wp2
  go_ret
  exact ⟨rfl, rfl⟩

set_option maxHeartbeats 2000000 in
theorem nons_any (x : Gm.Rl) (A : Option Addr) (c B : Nat) (w : World) (hr : RdI w B A x.r) (hin : ∀ z ∈ x.r, Gm.In z) (hB : B ≤ w.heap.size) (hl : x.r.length ≤ 1000000) :
    Calls Tryz.prog 37 #[.agg #[.int .i64 x.l, .slice A x.r.length c, .int .i64 x.p]] w fun e w' => ∃ v, e = .returned v ∧ OwnI w' w.heap.size v (Gm.nts x.r) ∧ Below w.heap.size w w' := by
  have HR := hide hr
  have HIN := hide hin
  have HI := hide (fun z w => isNon_any z w)
  have HX := hide (fun z h1 h2 w => tnon_any z h1 h2 w)
  have HB0 := hide hB
  have HL := hide hl
  have hlen : (x.r.length : Int) ≤ 9223372036854775807 := by omega
  have HA := hide (fun o => (Below.refl w.heap.size w).alloc (Nat.le_refl _) o)
  clear hr hin hB hl
  go_enter Tryz.func37, Tryz.ntmps37
  go_wp2
  go_loopw [3, 9] (fun vl vi wr => ∃ k : Nat, k ≤ x.r.length ∧ vi = .int .i64 k ∧ Hid (OwnI wr w.heap.size vl (Gm.nts (x.r.take k))) ∧ Hid (Below w.heap.size w wr)) (fun _ vi _ => x.r.length - (intOf vi).toNat)
  case atStart => exact ⟨0, Nat.zero_le _, rfl, hide (OwnI.nil _ _), HA.out _⟩
  case round =>
    obtain ⟨k, hk, rfl, HO, HB⟩ := hrel
    by_cases hlt : k < x.r.length
    · obtain ⟨g, o, rfl, hgb, hc⟩ := HR.out (by omega)
      have k0 := (HB.out.cell (p := ⟨g, o + k, none⟩) (Nat.lt_of_lt_of_le hgb HB0.out)).trans (hc k hlt)
      have hin := HIN.out (x.r.getD k 0) (by rw [L.gd_lt hlt]; exact List.getElem_mem _)
      have HN := hide (Gm.nts_next hlt)
      have HLN : Hid ((Gm.nts (x.r.take k)).length ≤ 1000000) := hide (Nat.le_trans (Gm.nts_len _) (by rw [List.length_take]; have := HL.out; omega))
      clear hc
      unfold Gm.In at hin
      generalize x.r.getD k 0 = z at *
      have HXz := hide (fun w => HX.out z hin.1 hin.2 w)
      have HIz := hide (fun w => HI.out z w)
      clear hin
      by_cases hz : z < 0
      · have HN2 := hide (HN.out.trans (if_pos hz))
        rw [decide_eq_true hz] at HIz
        clear hz
        go_wp2_with fail
        refine (HIz.out _).mono ?_; rintro _ w2 ⟨rfl, hw2⟩
        subst hw2
        go_wp2_with fail
        refine (HXz.out _).mono ?_; rintro _ w2 ⟨rfl, hw2⟩
        subst hw2
        generalize -1 - z = n at *
        go_wp2_with (at_builtin; refine apI_arm rfl (.tmp 15) (.tmp 18) _ rfl Tryz.underlying33 w.heap.size _ _ rfl (HO.out.alloc _) _ 1 n rfl (World.cell?_alloc_new _ _ _ 0) (by have := HLN.out; omega) (by have := HB.out.size; simp; omega) ?_; intro v' w2 ho2 hg2)
        go_roundw
        case rel => exact ⟨k + 1, hlt, by go_num, by rw [HN2.out]; exact ho2, below_grownI (HB.out.alloc (by have := HB.out.size; omega) _) (HO.out.alloc _) hg2 (by have := HB.out.size; simp; omega)⟩
        case measure => simp [intOf]; omega
      · have HN2 := hide (HN.out.trans (if_neg hz))
        rw [decide_eq_false hz] at HIz
        clear hz
        go_wp2_with fail
        refine (HIz.out _).mono ?_; rintro _ w2 ⟨rfl, hw2⟩
        subst hw2
        go_wp2_with fail
        go_roundw
        case rel => exact ⟨k + 1, hlt, by go_num, by rw [HN2.out]; exact HO, HB⟩
        case measure => simp [intOf]; omega
    · obtain rfl : k = x.r.length := by omega
      rw [List.take_length] at HO
      go_wp2
      go_ret
      exact ⟨_, rfl, HO.out, HB.out⟩

/-- Do some symbols pass, by the row, as isProductive asks: all its nonterminals do? -/
theorem Gm.allB_nts {is : List Bool} {r : List Int} : Gm.allB true is r = (Gm.nts r).all fun n => is.getD n.toNat false := by
  unfold Gm.allB Gm.nts
  rw [List.all_map, List.all_filter]
  congr 1
  funext z
  by_cases h : z < 0
  · simp [h, show ¬ 0 ≤ z by omega]
  · simp [h, show 0 ≤ z by omega]
/-- Which of the first k fail. -/
def AllO (l : List Int) (p : Int → Bool) (k : Nat) : Prop := ∀ i (h : i < l.length), i < k → p l[i] = true
theorem AllO.next {l : List Int} {p : Int → Bool} {k : Nat} (h : AllO l p k) (hk : k < l.length) (hn : p l[k] = true) : AllO l p (k + 1) := fun i hi hik => by
  rcases Nat.lt_or_ge i k with q | q
  · exact h i hi q
  · obtain rfl : i = k := by omega
    exact hn
theorem AllO.all {l : List Int} {p : Int → Bool} (h : AllO l p l.length) : l.all p = true := by
  rw [List.all_eq_true]
  intro z hz
  obtain ⟨i, hi, rfl⟩ := List.getElem_of_mem hz
  exact h i hi hi
theorem AllO.not {l : List Int} {p : Int → Bool} {k : Nat} (hk : k < l.length) (h : p l[k] = false) : l.all p = false := by
  rw [List.all_eq_false]
  exact ⟨_, List.getElem_mem hk, by rw [h]; simp⟩

set_option maxHeartbeats 2000000 in
theorem isProductive_any (x : Gm.Rl) (is : List Bool) (A A2 : Option Addr) (c c2 B : Nat) (w : World) (hr : RdI w B A x.r) (hin : ∀ z ∈ x.r, Gm.In z) (hs : ∀ z ∈ x.r, z < 0 → -1 - z < (is.length : Int)) (hp : RdO w B A2 is) (hB : B ≤ w.heap.size) (hl : x.r.length ≤ 1000000) :
    Calls Tryz.prog 36 #[.agg #[.int .i64 x.l, .slice A x.r.length c, .int .i64 x.p], .slice A2 is.length c2] w fun e w' => e = .returned (.bool (Gm.allB true is x.r)) ∧ Below w.heap.size w w' := by
  have HNO := hide (fun (y : World) (h : Below w.heap.size w y) => nons_any x A c B y (hr.below h hB) hin (Nat.le_trans hB h.size) hl)
  have HP := hide hp
  have HB0 := hide hB
  have HMEM := hide (fun n (h : n ∈ Gm.nts x.r) => (show 0 ≤ n ∧ n < (is.length : Int) from ⟨(Gm.nts_mem.1 h).2, by have := hs _ (Gm.nts_mem.1 h).1 (by have := (Gm.nts_mem.1 h).2; omega); omega⟩))
  have HE := hide (Gm.allB_nts (is := is) (r := x.r))
  have HA := hide (fun o => (Below.refl w.heap.size w).alloc (Nat.le_refl _) o)
  have HLN := hide (Nat.le_trans (Gm.nts_len x.r) hl)
  rw [HE.out]
  generalize Gm.nts x.r = ls at *
  have hlen : (ls.length : Int) ≤ 9223372036854775807 := by have := HLN.out; omega
  clear hr hin hs hp hB hl HE
  go_enter Tryz.func36, Tryz.ntmps36
  go_wp2_with fail
  refine (HNO.out _ (HA.out _)).mono ?_; rintro _ w2 ⟨v, rfl, ho2, hb2⟩
  have HB2 := hide ((HA.out (.cells #[.int .i64 x.l, .slice A x.r.length c, .int .i64 x.p] 40)).trans (hb2.mono (by simp)))
  obtain ⟨A3, c3, rfl, h31, h32, hr3⟩ := ho2.form
  have HR3 := hide hr3
  clear ho2 hb2 hr3 h31 h32 HNO
  go_wp2
  go_loop [10] (fun vi => ∃ k : Nat, k ≤ ls.length ∧ vi = .int .i64 k ∧ Hid (AllO ls (fun n => is.getD n.toNat false) k)) (fun vi => ls.length - (intOf vi).toNat)
  case atStart => exact ⟨0, Nat.zero_le _, rfl, hide (fun _ _ h => absurd h (by omega))⟩
  case round =>
    obtain ⟨k, hk, rfl, HK⟩ := hrel
    by_cases hlt : k < ls.length
    · obtain ⟨g, o, rfl, hgb, hc⟩ := HR3.out (by omega)
      have k0 := hc k hlt
      have hm := HMEM.out _ (List.getElem_mem hlt)
      rw [L.gd_lt hlt] at k0
      have HY := hide (fun h => HK.out.next hlt h)
      have HN := hide (fun h => AllO.not (p := fun n => is.getD n.toNat false) hlt h)
      clear hc
      generalize ls[k] = n at *
      obtain ⟨m, rfl⟩ : ∃ m : Nat, n = (m : Int) := ⟨n.toNat, by omega⟩
      have hm2 : m < is.length := by omega
      obtain ⟨g2, o2, rfl, hgb2, hc2⟩ := HP.out (by omega)
      have k2 := (HB2.out.cell (p := ⟨g2, o2 + m, none⟩) (Nat.lt_of_lt_of_le hgb2 HB0.out)).trans (hc2 m hm2)
      have hl3 : (m : Int) < (is.length : Int) := by omega
      simp only [Int.toNat_natCast] at HY HN
      generalize is.getD m false = b at *
      clear hc2 hm
      cases b
      · have HX := hide (HN.out rfl)
        go_wp2
        go_ret
        exact ⟨ret_bool HX.out.symm, HB2.out⟩
      · have HX := hide (HY.out rfl)
        go_wp2
        go_round
        case rel => exact ⟨k + 1, hlt, by go_num, HX⟩
        case measure => simp [intOf]; omega
    · obtain rfl : k = ls.length := by omega
      have HX := hide (HK.out.all)
      go_wp2
      go_ret
      exact ⟨ret_bool HX.out.symm, HB2.out⟩
end Go.Proofs.YtfiijndmlmddbaaGreat

namespace Go.Proofs.YtfiijndmlmddbaaGreat
set_option maxRecDepth 100000
open Go.RowKit

/-- Does a symbol pass? -/
def Gm.ps (tm : Bool) (is : List Bool) (z : Int) : Bool := if 0 ≤ z then tm else is.getD (-1 - z).toNat false
theorem Gm.ps_non {tm : Bool} {is : List Bool} {z : Int} (h : z < 0) : ∃ m : Nat, -1 - z = (m : Int) ∧ Gm.ps tm is z = is.getD m false := by
  refine ⟨(-1 - z).toNat, by omega, ?_⟩
  unfold Gm.ps
  rw [if_neg (by omega)]
theorem Gm.ps_term {tm : Bool} {is : List Bool} {z : Int} (h : ¬ z < 0) : Gm.ps tm is z = tm := by unfold Gm.ps; rw [if_pos (by omega)]

set_option maxHeartbeats 1000000 in
theorem passN_any (z : Int) (is : List Bool) (A : Option Addr) (c B : Nat) (w : World) (hz : Gm.In z) (hs : z < 0 → -1 - z < (is.length : Int)) (hr : RdO w B A is) :
    Calls Tryz.prog 29 #[.int .i64 z, .slice A is.length c] w fun e w' => e = .returned (.bool (Gm.ps false is z)) ∧ w' = w := by
  unfold Gm.In at hz
  have HI := hide (fun w => isNon_any z w)
  have HX := hide (fun w => tnon_any z hz.1 hz.2 w)
  by_cases h0 : z < 0
  · obtain ⟨m, he, hp⟩ := Gm.ps_non (tm := false) (is := is) h0
    have hm := hs h0
    rw [he] at HX hm
    have hm2 : m < is.length := by omega
    obtain ⟨g, o, rfl, hgb, hc⟩ := hr (by omega)
    have k0 := hc m hm2
    rw [hp]
    rw [decide_eq_true h0] at HI
    generalize is.getD m false = b at *
    clear hz hs hr hc h0 he hp
    go_enter Tryz.func29, Tryz.ntmps29
    go_wp2_with fail
    refine (HI.out _).mono ?_; rintro _ w2 ⟨rfl, hw2⟩
    subst hw2
    go_wp2_with fail
    refine (HX.out _).mono ?_; rintro _ w2 ⟨rfl, hw2⟩
    subst hw2
    go_wp2
    go_ret
    exact ⟨rfl, rfl⟩
  · rw [Gm.ps_term h0]
    rw [decide_eq_false h0] at HI
    clear hz hs hr h0 HX
    go_enter Tryz.func29, Tryz.ntmps29
    go_wp2_with fail
    refine (HI.out _).mono ?_; rintro _ w2 ⟨rfl, hw2⟩
    subst hw2
    go_wp2
    go_ret
    exact ⟨rfl, rfl⟩

set_option maxHeartbeats 1000000 in
theorem passP_any (z : Int) (is : List Bool) (A : Option Addr) (c B : Nat) (w : World) (hz : Gm.In z) (hs : z < 0 → -1 - z < (is.length : Int)) (hr : RdO w B A is) :
    Calls Tryz.prog 33 #[.int .i64 z, .slice A is.length c] w fun e w' => e = .returned (.bool (Gm.ps true is z)) ∧ w' = w := by
  unfold Gm.In at hz
  have HI := hide (fun w => isNon_any z w)
  have HX := hide (fun w => tnon_any z hz.1 hz.2 w)
  by_cases h0 : z < 0
  · obtain ⟨m, he, hp⟩ := Gm.ps_non (tm := true) (is := is) h0
    have hm := hs h0
    rw [he] at HX hm
    have hm2 : m < is.length := by omega
    obtain ⟨g, o, rfl, hgb, hc⟩ := hr (by omega)
    have k0 := hc m hm2
    rw [hp]
    rw [decide_eq_true h0] at HI
    generalize is.getD m false = b at *
    clear hz hs hr hc h0 he hp
    go_enter Tryz.func33, Tryz.ntmps33
    go_wp2_with fail
    refine (HI.out _).mono ?_; rintro _ w2 ⟨rfl, hw2⟩
    subst hw2
    go_wp2_with fail
    refine (HX.out _).mono ?_; rintro _ w2 ⟨rfl, hw2⟩
    subst hw2
    go_wp2
    go_ret
    exact ⟨rfl, rfl⟩
  · rw [Gm.ps_term h0]
    rw [decide_eq_false h0] at HI
    clear hz hs hr h0 HX
    go_enter Tryz.func33, Tryz.ntmps33
    go_wp2_with fail
    refine (HI.out _).mono ?_; rintro _ w2 ⟨rfl, hw2⟩
    subst hw2
    go_wp2
    go_ret
    exact ⟨rfl, rfl⟩

/-- A function with a body is entered. -/
theorem enter_of {f : Nat} {fn : Func} (hf : Tryz.prog.funcs[f]? = some fn) (hb : fn.body.isNone = false) (hn : (fn.name == "runtime.NumGoroutine") = false) (args : Array Value) (w : World) : Sem.run Tryz.prog (callFunc f args) w = .ok (.enter f args) w := by
  have hn2 : ¬ fn.name = "runtime.NumGoroutine" := by simpa using hn
  have hb2 : fn.body ≠ none := by intro h; rw [h] at hb; cases hb
  simp [callFunc, go_sem, hf, hb2, hn2]
/-- A list that is laid is the call's own. -/
theorem ownI_lit (w : World) (b : List Int) (base : Nat) (hb : base ≤ w.heap.size) (hm : b.length ≤ maxLen) : OwnI (w.alloc (.cells (b.map (Value.int .i64)).toArray 3)) base (.slice (some ⟨w.heap.size, 0, none⟩) b.length b.length) b :=
  ⟨by simp, .inr ⟨w.heap.size, b.length, _, rfl, hb, heap_alloc_new w _, Nat.le_refl _, hm, by simp, by simp [List.take_of_length_le]⟩⟩

/-- What a rule brings: its Left, when all of it passes. -/
def Gm.brL (tm : Bool) (is : List Bool) (x : Gm.Rl) : List Int := if Gm.allB tm is x.r = true then [x.l] else []
set_option maxHeartbeats 2000000 in
theorem lefts1_any (f : Nat) (hE : ∀ args w, Sem.run Tryz.prog (callFunc f args) w = .ok (.enter f args) w) (tm : Bool) (x : Gm.Rl) (is : List Bool) (A A2 : Option Addr) (c c2 B gp gk : Nat) (w : World)
    (hf : ∀ z y, Below w.heap.size w y → z ∈ x.r → Calls Tryz.prog f #[.int .i64 z, .slice A2 is.length c2] y fun e w' => e = .returned (.bool (Gm.ps tm is z)) ∧ w' = y)
    (hgp : w.cell? ⟨gp, 0, none⟩ = some (.func (Fn.func f) #[] #[])) (hgk : w.cell? ⟨gk, 0, none⟩ = some (.slice A2 is.length c2)) (hr : RdI w B A x.r) (hB : B ≤ w.heap.size) (hl : x.r.length ≤ 1000000) :
    Calls Tryz.prog 51 #[.agg #[.int .i64 x.l, .slice A x.r.length c, .int .i64 x.p], .pointer (some ⟨gp, 0, none⟩), .pointer (some ⟨gk, 0, none⟩)] w fun e w' => ∃ v, e = .returned v ∧ OwnI w' w.heap.size v (Gm.brL tm is x) ∧ Below w.heap.size w w' := by
  have HF := hide hf
  have HR := hide hr
  have HB0 := hide hB
  have HA := hide (fun o => (Below.refl w.heap.size w).alloc (Nat.le_refl _) o)
  have lp := block_lt_of_cell hgp
  have lk := block_lt_of_cell hgk
  have hlen : (x.r.length : Int) ≤ 9223372036854775807 := by omega
  have HE : Hid (Gm.brL tm is x = if x.r.all (Gm.ps tm is) = true then [x.l] else []) := hide rfl
  clear hf hr hB hl
  go_enter Tryz.func51, Tryz.ntmps51
  go_wp2
  go_loop [10] (fun vi => ∃ k : Nat, k ≤ x.r.length ∧ vi = .int .i64 k ∧ Hid (AllO x.r (Gm.ps tm is) k)) (fun vi => x.r.length - (intOf vi).toNat)
  case atStart => exact ⟨0, Nat.zero_le _, rfl, hide (fun _ _ h => absurd h (by omega))⟩
  case round =>
    obtain ⟨k, hk, rfl, HK⟩ := hrel
    by_cases hlt : k < x.r.length
    · obtain ⟨g, o, rfl, hgb, hc⟩ := HR.out (by omega)
      have k0 := hc k hlt
      rw [L.gd_lt hlt] at k0
      have hgs : g < w.heap.size := Nat.lt_of_lt_of_le hgb HB0.out
      have HFz := hide (fun y h => HF.out _ y h (List.getElem_mem hlt))
      have HY := hide (fun h => HK.out.next hlt h)
      have HN := hide (fun h => AllO.not (p := Gm.ps tm is) hlt h)
      clear hc
      generalize x.r[k] = z at *
      cases hb : Gm.ps tm is z
      · rw [hb] at HFz
        have HX := hide (HE.out.trans (if_neg (by rw [HN.out hb]; decide)))
        clear hb
        go_wp2_with fail
        refine (HFz.out _ (HA.out _)).mono ?_; rintro _ w2 ⟨rfl, hw2⟩
        subst hw2
        go_wp2
        go_ret
        exact ⟨_, rfl, by rw [HX.out]; exact OwnI.nil _ _, HA.out _⟩
      · rw [hb] at HFz
        have HX := hide (HY.out hb)
        clear hb
        go_wp2_with fail
        refine (HFz.out _ (HA.out _)).mono ?_; rintro _ w2 ⟨rfl, hw2⟩
        subst hw2
        go_wp2
        go_round
        case rel => exact ⟨k + 1, hlt, by go_num, HX⟩
        case measure => simp [intOf]; omega
    · obtain rfl : k = x.r.length := by omega
      have HX := hide (HE.out.trans (if_pos HK.out.all))
      go_wp2
      go_ret
      have q := ownI_lit (w.alloc (.cells #[.int .i64 x.l, .slice A x.r.length c, .int .i64 x.p] 40)) [x.l] w.heap.size (by simp) (by unfold maxLen; simp)
      rw [show (w.alloc (.cells #[.int .i64 x.l, .slice A x.r.length c, .int .i64 x.p] 40)).heap.size = w.heap.size + 1 by simp] at q
      exact ⟨_, rfl, by rw [HX.out]; exact q, (HA.out _).alloc (HA.out _).size _⟩
end Go.Proofs.YtfiijndmlmddbaaGreat

namespace Go.Proofs.YtfiijndmlmddbaaGreat
set_option maxRecDepth 100000
open Go.RowKit

/-- How many of a block's cells are not true. -/
def cntO (w : World) (g : Nat) : Nat := match w.heap[g]? with
  | some (.cells cs _ _) => cs.toList.countP fun v => match v with | .bool false => true | _ => false
  | _ => 0
theorem UBO.cnt {w : World} {g : Nat} {s : List Bool} (h : UBO w g s) : cntO w g = s.count false := by
  unfold cntO
  rw [h]
  clear h
  simp only
  induction s with
  | nil => rfl
  | cons b s ih =>
    simp only [List.map_cons, List.countP_cons, List.count_cons] at ih ⊢
    rw [ih]
    cases b <;> rfl
theorem Gm.ct_false (s : List Bool) : s.count false + Gm.ct s = s.length := by
  unfold Gm.ct
  induction s with
  | nil => rfl
  | cons b s ih => cases b <;> simp <;> omega
/-- One that is set anew. -/
theorem Gm.ct_set {s : List Bool} {i : Nat} (h : i < s.length) : (s.getD i false = true → s.set i true = s) ∧ (s.getD i false = false → Gm.ct (s.set i true) = Gm.ct s + 1) := by
  induction s generalizing i with
  | nil => simp at h
  | cons b s ih =>
    cases i with
    | zero => cases b <;> simp [Gm.ct]
    | succ i =>
      have := ih (i := i) (by simpa using h)
      simp only [List.getD_cons_succ, List.set_cons_succ]
      refine ⟨fun e => by rw [this.1 e], fun e => ?_⟩
      have h2 := this.2 e
      unfold Gm.ct at h2 ⊢
      cases b <;> simp_all
/-- What grow keeps: the row s in block gk, of n truths, each told by D, no fewer than in s0. -/
structure Grw (w wr : World) (gk n : Nat) (D : Int → Prop) (s0 s : List Bool) : Prop where
  u : UBO wr gk s
  l : s.length = n
  d : ∀ i : Nat, s.getD i false = true → D (i : Int)
  le : Gm.Le s0 s
  g : w.grownBy wr (some gk)
theorem Grw.alloc {w wr : World} {gk n : Nat} {D : Int → Prop} {s0 s : List Bool} (h : Grw w wr gk n D s0 s) (o : Obj) : Grw w (wr.alloc o) gk n D s0 s := ⟨h.u.alloc o, h.l, h.d, h.le, only_alloc h.g o⟩
theorem Grw.below {w wr w' : World} {gk n : Nat} {D : Int → Prop} {s0 s : List Bool} (h : Grw w wr gk n D s0 s) (hb : Below wr.heap.size wr w') : Grw w w' gk n D s0 s := ⟨h.u.below hb h.u.lt, h.l, h.d, h.le, only_trans h.g (only_below hb _)⟩
theorem Grw.set {w wr : World} {gk n : Nat} {D : Int → Prop} {s0 s : List Bool} (h : Grw w wr gk n D s0 s) {m : Nat} (hd : D (m : Int)) : Grw w (wr.setCell ⟨gk, m, none⟩ (.bool true)) gk n D s0 (s.set m true) :=
  ⟨h.u.set_ m true, by rw [List.length_set]; exact h.l, fun i hi => by
    rcases Gm.getD_set _ _ _ hi with h1 | h1
    · exact h.d i h1
    · rw [h1]; exact hd, h.le.trans (Gm.Le.set _ _), only_set h.g m _⟩
/-- What was so at a round's start: nothing new, and what was asked is closed; or more is true. -/
def Nw (s0 s : List Bool) (b : Bool) (C : Prop) : Prop := (b = false → s = s0 ∧ C) ∧ (b = true → Gm.ct s0 < Gm.ct s)

theorem Nw.start (s : List Bool) (C : Prop) (hC : C) : Nw s s false C := ⟨fun _ => ⟨rfl, hC⟩, fun h => by cases h⟩
theorem Nw.mono {s0 s : List Bool} {b : Bool} {C C' : Prop} (h : Nw s0 s b C) (k : C → C') : Nw s0 s b C' := ⟨fun e => ⟨(h.1 e).1, k (h.1 e).2⟩, h.2⟩
/-- One more is made known. -/
theorem Nw.next {s0 s : List Bool} {b : Bool} {C C' : Prop} {m : Nat} (h : Nw s0 s b C) (hm : m < s.length) (hC : C → s0.getD m false = true → C') : Nw s0 (s.set m true) (b || !s.getD m false) C' := by
  obtain ⟨h1, h2⟩ := Gm.ct_set hm
  cases hv : s.getD m false
  · refine ⟨fun e => by simp at e, fun _ => ?_⟩
    rw [h2 hv]
    cases b
    · rw [(h.1 rfl).1]; omega
    · have := h.2 rfl; omega
  · rw [h1 hv]
    refine ⟨fun e => ?_, fun e => h.2 (by simpa using e)⟩
    have hb : b = false := by simpa using e
    obtain ⟨e1, c⟩ := h.1 hb
    refine ⟨e1, hC c ?_⟩
    rw [← e1]; exact hv

theorem OwnI.rdOf {w : World} {base n c : Nat} {A : Option Addr} {xs : List Int} (h : OwnI w base (.slice A n c) xs) : RdI w w.heap.size A xs := by
  obtain ⟨A', c', e, _, _, hr⟩ := h.form
  injection e with e1 _ _
  rw [e1]; exact hr
theorem OwnI.far {w w' : World} {base gk : Nat} {v : Value} {xs : List Int} (h : OwnI w base v xs) (hg : w.grownBy w' (some gk)) (hlt : gk < base) : OwnI w' base v xs :=
  World.ownsRow.kept h hg (by
    cases hv : v.ownBlock with
    | none => exact .inl rfl
    | some k => exact .inr (fun e => by injection e with e; have := (World.ownsRow.lt h k hv).1; omega))
def bN : Value → Nat
  | .bool true => 1
  | _ => 0
theorem grown_cell {w wr : World} {gk B g o : Nat} (h : w.grownBy wr (some gk)) (hB : B ≤ w.heap.size) (hk : B ≤ gk) (hg : g < B) : wr.cell? ⟨g, o, none⟩ = w.cell? ⟨g, o, none⟩ :=
  World.cell?_of_block (h.block g (by omega) (fun e => by injection e with e; omega))
set_option maxHeartbeats 8000000 in
theorem grow_any (fb p1 p2 : Nat) (hE : ∀ args w, Sem.run Tryz.prog (callFunc fb args) w = .ok (.enter fb args) w) (rs : List Gm.Rl) (AR : Option Addr) (cR ck B gk n : Nat) (w : World) (s0 : List Bool) (D : Int → Prop) (br : List Bool → Gm.Rl → List Int)
    (hR : RdRl w B AR rs) (hB : B ≤ w.heap.size) (hk : B ≤ gk) (hu : UBO w gk s0) (hn : s0.length = n) (hd : ∀ i : Nat, s0.getD i false = true → D (i : Int)) (hl : rs.length ≤ 1000000)
    (hbr : ∀ (y : World) (s : List Bool) (x : Gm.Rl) (A' : Option Addr) (c' : Nat), w.grownBy y (some gk) → UBO y gk s → s.length = n → x ∈ rs → RdI y B A' x.r → Calls Tryz.prog fb #[.agg #[.int .i64 x.l, .slice A' x.r.length c', .int .i64 x.p], .pointer (some ⟨p1, 0, none⟩), .pointer (some ⟨p2, 0, none⟩)] y fun e w' => ∃ v, e = .returned v ∧ OwnI w' y.heap.size v (br s x) ∧ Below y.heap.size y w')
    (hsn : ∀ s x, x ∈ rs → s.length = n → (∀ i : Nat, s.getD i false = true → D (i : Int)) → ∀ m ∈ br s x, 0 ≤ m ∧ m < n ∧ D m) (hbl : ∀ s x, x ∈ rs → (br s x).length ≤ 1000000) :
    Calls Tryz.prog 34 #[.slice (some ⟨gk, 0, none⟩) n ck, .slice AR rs.length cR, .func (Fn.func fb) #[] #[.pointer (some ⟨p1, 0, none⟩), .pointer (some ⟨p2, 0, none⟩)]] w fun e w' => e = .returned (.tuple #[]) ∧ ∃ s, Grw w w' gk n D s0 s ∧ ∀ x ∈ rs, ∀ m ∈ br s x, s.getD m.toNat false = true := by
  have HR := hide hR
  have HB := hide hB
  have HK := hide hk
  have HBR := hide hbr
  have HSN := hide hsn
  have HBL := hide hbl
  have HG0 : Hid (Grw w w gk n D s0 s0) := hide ⟨hu, hn, hd, Gm.Le.refl _, World.grownBy.refl _ _⟩
  have hlen : (rs.length : Int) ≤ 9223372036854775807 := by omega
  clear hR hB hk hu hn hd hl hbr hsn hbl
  go_enter Tryz.func34, Tryz.ntmps34
  go_wp2
  go_loopw [6] (fun vg wr => ∃ (s : List Bool) (b : Bool), vg = .bool b ∧ Hid (Grw w wr gk n D s0 s) ∧ Hid (b = false → ∀ x ∈ rs, ∀ m ∈ br s x, s.getD m.toNat false = true)) (fun vg wr => 2 * cntO wr gk + bN vg)
  case atStart => exact ⟨s0, true, rfl, HG0, hide (fun h => by cases h)⟩
  case round =>
    obtain ⟨s, b, rfl, HG, HC⟩ := hrel
    obtain ⟨wo, hwo⟩ : ∃ wo : World, wo = wr := ⟨_, rfl⟩
    subst hwo
    cases b
    · go_wp2
      go_end0
      exact ⟨rfl, s, HG.out, HC.out (by trivial)⟩
    · clear HC
      go_wp2
      go_loopw [6, 14] (fun vg vi wr => ∃ (s1 : List Bool) (b1 : Bool) (i : Nat), i ≤ rs.length ∧ vg = .bool b1 ∧ vi = .int .i64 i ∧ Hid (Grw w wr gk n D s0 s1) ∧ Hid (Gm.Le s s1) ∧ Hid (Nw s s1 b1 (∀ x ∈ rs.take i, ∀ m ∈ br s x, s.getD m.toNat false = true))) (fun _ vi _ => rs.length - (intOf vi).toNat)
      case atStart => exact ⟨s, false, 0, Nat.zero_le _, rfl, rfl, HG, hide (Gm.Le.refl _), hide (Nw.start _ _ (by simp))⟩
      case round =>
        obtain ⟨s1, b1, i, hi, rfl, rfl, HG1, HLe, HN1⟩ := hrel
        obtain ⟨wi, hwi⟩ : ∃ wi : World, wi = wr := ⟨_, rfl⟩
        subst hwi
        by_cases hlt : i < rs.length
        · obtain ⟨g, o, rfl, hgB, hc⟩ := HR.out (by omega)
          obtain ⟨k0, ⟨A', c', k1, _, _, hri⟩, k2⟩ := hc i hlt
          have k0 := (grown_cell HG1.out.g HB.out HK.out hgB).trans k0
          have k1 := (grown_cell HG1.out.g HB.out HK.out hgB).trans k1
          have k2 := (grown_cell HG1.out.g HB.out HK.out hgB).trans k2
          have hgs : g < wi.heap.size := by have := HG1.out.g.size; have := HB.out; omega
          have HBi := hide (fun (o : Obj) => HBR.out (wi.alloc o) s1 rs[i] A' c' (HG1.out.alloc o).g (HG1.out.alloc o).u HG1.out.l (List.getElem_mem hlt) (hri.keep fun g o hg => grown_cell (HG1.out.alloc _).g HB.out HK.out hg))
          have HSi := hide (HSN.out s1 rs[i] (List.getElem_mem hlt) HG1.out.l HG1.out.d)
          have HLi := hide (HBL.out s1 rs[i] (List.getElem_mem hlt))
          have HTi : Hid (rs.take (i + 1) = rs.take i ++ [rs[i]]) := hide (List.take_succ_eq_append_getElem hlt)
          clear hc hri
          generalize rs[i] = x at *
          have HLe2 := HLe
          go_wp2_with fail
          refine (HBi.out _).mono ?_; rintro _ w2 ⟨v, rfl, ho2, hb2⟩
          have HG2 := hide ((HG1.out.alloc _).below hb2)
          have hkl := HG1.out.u.lt
          obtain ⟨A3, c3, rfl, h31, h32, _⟩ := ho2.form
          have HO2 := hide ho2
          have hll : ((br s1 x).length : Int) ≤ 9223372036854775807 := by have := HLi.out; omega
          obtain ⟨ls, hls⟩ : ∃ ls, ls = br s1 x := ⟨_, rfl⟩
          rw [← hls] at HO2 HSi hll ⊢
          have HLS := hide hls
          clear ho2 hb2 hls k0 k1 k2 hgs
          go_wp2
          go_loopw [6, 22] (fun vg vk wr => ∃ (s2 : List Bool) (b2 : Bool) (k : Nat), k ≤ ls.length ∧ vg = .bool b2 ∧ vk = .int .i64 k ∧ Hid (Grw w wr gk n D s0 s2) ∧ Hid (Gm.Le s1 s2) ∧ Hid (OwnI wr (wi.heap.size + 1) (.slice A3 ls.length c3) ls) ∧ Hid (Nw s s2 b2 ((∀ x ∈ rs.take i, ∀ m ∈ br s x, s.getD m.toNat false = true) ∧ ∀ m ∈ ls.take k, s.getD m.toNat false = true))) (fun _ vk _ => ls.length - (intOf vk).toNat)
          case atStart => exact ⟨s1, b1, 0, Nat.zero_le _, rfl, rfl, HG2, hide (Gm.Le.refl _), hide (by have := HO2.out; simpa using this), hide (HN1.out.mono fun h => ⟨h, by simp⟩)⟩
          case round =>
            clear HG2 HO2
            obtain ⟨s2, b2, k, hk2, rfl, rfl, HG3, HL3, HO3, HN3⟩ := hrel
            by_cases hlt2 : k < ls.length
            · obtain ⟨g3, o3, rfl, hg3, hc3⟩ := HO3.out.rdOf (by omega)
              have k3 := hc3 k hlt2
              rw [L.gd_lt hlt2] at k3
              obtain ⟨hm0, hm1, hmD⟩ := HSi.out _ (List.getElem_mem hlt2)
              have HT3 : Hid (ls.take (k + 1) = ls.take k ++ [ls[k]]) := hide (List.take_succ_eq_append_getElem hlt2)
              clear hc3
              generalize ls[k] = mz at *
              obtain ⟨m, rfl⟩ : ∃ m : Nat, mz = (m : Int) := ⟨mz.toNat, by omega⟩
              have hmn : m < s2.length := by rw [HG3.out.l]; omega
              have HS4 := hide (HG3.out.set hmD)
              have HL4 := hide (HL3.out.trans (Gm.Le.set s2 m))
              have HO4 := hide (HO3.out.far (only_set (World.grownBy.refl wr (some gk)) m (.bool true)) (by omega))
              have HN4 := hide (HN3.out.next hmn (C' := (∀ x ∈ rs.take i, ∀ m ∈ br s x, s.getD m.toNat false = true) ∧ ∀ m ∈ ls.take (k + 1), s.getD m.toNat false = true) (fun hC hv => ⟨hC.1, fun q hq => by
                rw [HT3.out] at hq
                rcases List.mem_append.1 hq with h | h
                · exact hC.2 q h
                · obtain rfl := List.mem_singleton.1 h
                  simpa using hv⟩))
              have k4 := HG3.out.u.cell m hmn
              have f4 := HG3.out.u.frozen m
              have hgk := HG3.out.u.lt
              have hm2 : (m : Int) < (n : Int) := hm1
              clear hmD hm0 hm1
              generalize s2.getD m false = bv at *
              cases b2
              · rw [Bool.false_or] at HN4
                go_wp2
                go_roundw
                case rel => exact ⟨s2.set m true, !bv, k + 1, hlt2, rfl, by go_num, HS4, HL4, HO4, HN4⟩
                case measure => simp [intOf]; omega
              · rw [Bool.true_or] at HN4
                go_wp2
                go_roundw
                case rel => exact ⟨s2.set m true, true, k + 1, hlt2, rfl, by go_num, HS4, HL4, HO4, HN4⟩
                case measure => simp [intOf]; omega
            · obtain rfl : k = ls.length := by omega
              rw [List.take_length] at HN3
              go_wp2
              go_roundw
              case rel =>
                refine ⟨s2, b2, i + 1, hlt, rfl, by go_num, HG3, hide (HLe2.out.trans HL3.out), hide ⟨fun e => ⟨(HN3.out.1 e).1, ?_⟩, HN3.out.2⟩⟩
                obtain ⟨e1, h1, h2⟩ := HN3.out.1 e
                have e2 : s1 = s := (by rw [← e1]; exact HL3.out : Gm.Le s1 s).anti HLe2.out
                intro y hy
                rw [HTi.out] at hy
                rcases List.mem_append.1 hy with h | h
                · exact h1 y h
                · obtain rfl := List.mem_singleton.1 h
                  intro q hq
                  exact h2 q (by rw [HLS.out, e2]; exact hq)
              case measure => simp [intOf]; omega
        · obtain rfl : i = rs.length := by omega
          rw [List.take_length] at HN1
          go_wp2
          go_roundw
          case rel => exact ⟨s1, b1, rfl, HG1, hide fun e => by
            obtain ⟨e1, h1⟩ := HN1.out.1 e
            rw [e1]; exact h1⟩
          case measure =>
            have q1 := HG.out.u.cnt
            have q2 := HG1.out.u.cnt
            have q3 := Gm.ct_false s
            have q4 := Gm.ct_false s1
            have q5 := HG.out.l
            have q6 := HG1.out.l
            rw [q1, q2]
            cases b1
            · obtain ⟨e1, _⟩ := HN1.out.1 rfl
              rw [e1]; simp [bN]
            · have := HN1.out.2 rfl
              simp [bN]; omega
end Go.Proofs.YtfiijndmlmddbaaGreat

namespace Go.Proofs.YtfiijndmlmddbaaGreat
set_option maxRecDepth 100000
open Go.RowKit

/-- A row of truths that is answered. -/
def RowT (s : List Bool) (w : World) (e : Ending) (w' : World) : Prop := ∃ g, e = .returned (.slice (some ⟨g, 0, none⟩) s.length s.length) ∧ w.heap.size ≤ g ∧ UBO w' g s ∧ Below w.heap.size w w'
theorem kept_cell {w wr : World} {gk g o : Nat} {u : Value} (h : w.grownBy wr (some gk)) (hg : w.cell? ⟨g, o, none⟩ = some u) (hne : g ≠ gk) : wr.cell? ⟨g, o, none⟩ = some u :=
  (World.cell?_of_block (h.block g (block_lt_of_cell hg) (fun e => by injection e with e; exact hne e))).trans hg
theorem Gm.brL_mem {tm : Bool} {is : List Bool} {x : Gm.Rl} {m : Int} (h : m ∈ Gm.brL tm is x) : m = x.l ∧ Gm.allB tm is x.r = true := by
  unfold Gm.brL at h
  split at h
  · exact ⟨List.mem_singleton.1 h, by assumption⟩
  · simp at h
theorem Gm.brL_of {tm : Bool} {is : List Bool} {x : Gm.Rl} (h : Gm.allB tm is x.r = true) : x.l ∈ Gm.brL tm is x := by
  unfold Gm.brL; rw [if_pos h]; exact List.mem_singleton.2 rfl
theorem Gm.brL_len (tm : Bool) (is : List Bool) (x : Gm.Rl) : (Gm.brL tm is x).length ≤ 1000000 := by
  unfold Gm.brL; split <;> simp

set_option maxHeartbeats 4000000 in
theorem lefts_any (f : Nat) (hE : ∀ args w, Sem.run Tryz.prog (callFunc f args) w = .ok (.enter f args) w) (tm : Bool)
    (hf : ∀ (z : Int) (is : List Bool) (A : Option Addr) (c B : Nat) (y : World), Gm.In z → (z < 0 → -1 - z < (is.length : Int)) → RdO y B A is → Calls Tryz.prog f #[.int .i64 z, .slice A is.length c] y fun e w' => e = .returned (.bool (Gm.ps tm is z)) ∧ w' = y)
    (v : Value) (G : Gm.Gr) (B : Nat) (w : World) (hg : RdGr w B v G) (hfit : Gm.Fit G) (hok : Gm.Ok G) (hB : B ≤ w.heap.size) :
    Calls Tryz.prog 28 #[v, .func (Fn.func f) #[] #[]] w (RowT (Gm.gn tm G.rs G.ns.length) w) := by
  obtain ⟨AT, cT, AN, cN, AR, cR, rfl, _, ⟨hlN, hmN⟩, _, _, _, hR⟩ := hg
  have HRl := hide hR
  have HB := hide hB
  have HOK := hide hok
  have HFT := hide hfit
  have HFF := hide hf
  have HN : Hid (G.ns.length ≤ 40) := hide (by have := (Gm.nons_iff G).1 hok.n; omega)
  have HR40 : Hid (G.rs.length ≤ 40) := hide hok.r40
  have hnn := HN.out
  obtain ⟨w1, hw1⟩ : ∃ y, y = (w.alloc (.cells #[.slice AT G.ts.length cT, .slice AN G.ns.length cN, .slice AR G.rs.length cR, .int .i64 G.st] 26)).alloc (.cells #[.func (Fn.func f) #[] #[]] 51) := ⟨_, rfl⟩
  have hs1 : w1.heap.size = w.heap.size + 2 := by rw [hw1]; simp
  have HB1 : Hid (Below w.heap.size w w1) := hide (by rw [hw1]; exact ((Below.refl _ w).alloc (Nat.le_refl _) _).alloc (by simp) _)
  have x0 : w1.heap[w.heap.size]? = some (.cells #[.slice AT G.ts.length cT, .slice AN G.ns.length cN, .slice AR G.rs.length cR, .int .i64 G.st] 26 (0, 0)) := by rw [hw1, Below.heap_alloc _ _ _ (by simp)]; exact heap_alloc_new w _
  have x1 : w1.heap[w.heap.size + 1]? = some (.cells #[.func (Fn.func f) #[] #[]] 51 (0, 0)) := by rw [hw1]; have := heap_alloc_new (w.alloc (.cells #[.slice AT G.ts.length cT, .slice AN G.ns.length cN, .slice AR G.rs.length cR, .int .i64 G.st] 26)) (.cells #[.func (Fn.func f) #[] #[]] 51); simpa using this
  have c1 : w1.cell? ⟨w.heap.size, 1, none⟩ = some (.slice AN G.ns.length cN) := by rw [cell_of_row w1 _ 1 _ _ _ x0]; rfl
  have c2 : w1.cell? ⟨w.heap.size, 2, none⟩ = some (.slice AR G.rs.length cR) := by rw [cell_of_row w1 _ 2 _ _ _ x0]; rfl
  have cf : w1.cell? ⟨w.heap.size + 1, 0, none⟩ = some (.func (Fn.func f) #[] #[]) := by rw [cell_of_row w1 _ 0 _ _ _ x1]; rfl
  have HC2 := hide c2
  have HCF := hide cf
  have HS1 := hide hs1
  have hd0 : w.heap.size < w1.heap.size := by omega
  have hlen : (G.ns.length : Int) ≤ 9223372036854775807 := by omega
  clear hR hB hok hfit hf x0 x1 c2 cf hs1
  go_enter Tryz.func28, Tryz.ntmps28
  go_upto_region 1 with fail
  rw [← hw1]
  clear hw1
  go_upto_region 2 with (at_make; refine mkO_arm rfl (.tmp 8) (.tmp 8) _ rfl Tryz.underlying30 G.ns.length _ _ rfl rfl rfl rfl (by omega) ?_; intro w2 hu2 hb2 hlt2)
  have x3 := heap_alloc_new w2 (.cells #[.slice (some ⟨w1.heap.size, 0, none⟩) G.ns.length G.ns.length] 30)
  have hu3 := hu2.alloc (.cells #[.slice (some ⟨w1.heap.size, 0, none⟩) G.ns.length G.ns.length] 30)
  have hb3 : Below w1.heap.size w1 (w2.alloc (.cells #[.slice (some ⟨w1.heap.size, 0, none⟩) G.ns.length G.ns.length] 30)) := hb2.alloc hb2.size _
  obtain ⟨w3, hw3⟩ : ∃ y, y = w2.alloc (.cells #[.slice (some ⟨w1.heap.size, 0, none⟩) G.ns.length G.ns.length] 30) := ⟨_, rfl⟩
  rw [← hw3] at x3 hu3 hb3 ⊢
  have hs3 : w2.heap.size < w3.heap.size := by rw [hw3]; simp
  have c2 := (hb3.cell (p := ⟨w.heap.size, 2, none⟩) (by simp only; omega)).trans HC2.out
  have cf := (hb3.cell (p := ⟨w.heap.size + 1, 0, none⟩) (by have := HS1.out; simp only; omega)).trans HCF.out
  have ck : w3.cell? ⟨w2.heap.size, 0, none⟩ = some (.slice (some ⟨w1.heap.size, 0, none⟩) G.ns.length G.ns.length) := by rw [cell_of_row w3 _ 0 _ _ _ x3]; rfl
  have hd3 : w.heap.size < w3.heap.size := by omega
  have hW3 : Below w.heap.size w w3 := HB1.out.trans (hb3.mono (by have := HS1.out; omega))
  have hR3 : RdRl w3 B AR G.rs := HRl.out.keep fun g o hg => hW3.cell (p := ⟨g, o, none⟩) (Nat.lt_of_lt_of_le hg HB.out)
  have HGR := hide (grow_any 51 (w.heap.size + 1) w2.heap.size (enter_of Tryz.func51 (by kernel_rfl) (by kernel_rfl)) G.rs AR cR G.ns.length B w1.heap.size G.ns.length w3 (List.replicate G.ns.length false) (Gm.Gn tm G.rs) (Gm.brL tm)
    hR3 (Nat.le_trans HB.out hW3.size) (by have := HB.out; omega) hu3 (by simp) (Gm.Snd.none tm G.rs _) (by have := HR40.out; omega)
    (fun y s x A' c' hgr hu hl hx hr => by
      have e := HFT.out.r x hx
      have q2 := kept_cell hgr ck (by omega)
      rw [← hl] at q2
      exact lefts1_any f hE tm x s A' (some ⟨w1.heap.size, 0, none⟩) c' s.length B (w.heap.size + 1) w2.heap.size y
        (fun z y' hy hz => HFF.out z s _ _ y'.heap.size y' (e.2.2 z hz) (fun h => by rw [hl]; exact HOK.out.sin x hx z hz h) ((hu.below hy hu.lt).rd0 (by have := hy.size; have := hu.lt; omega)))
        (kept_cell hgr cf (by have := HS1.out; omega)) q2 hr (Nat.le_trans HB.out (Nat.le_trans hW3.size hgr.size)) (by have := (Gm.rule_in (HOK.out.rr x hx)).1; omega))
    (fun s x hx hl hd m hm => by
      obtain ⟨rfl, ha⟩ := Gm.brL_mem hm
      have h1 := HOK.out.lin x hx
      exact ⟨h1.1, h1.2, Gm.Gn.of hx (Gm.Snd.all hd ha)⟩)
    (fun s x _ => Gm.brL_len tm s x))
  have HCK := hide ck
  have HX3 := hide (fun (y : World) (h : w3.grownBy y (some w1.heap.size)) => kept_cell h ck (by omega))
  have HW3 := hide hW3
  have HFIN : Hid (∀ (y : World) (s : List Bool), Grw w3 y w1.heap.size G.ns.length (Gm.Gn tm G.rs) (List.replicate G.ns.length false) s → (∀ x ∈ G.rs, ∀ m ∈ Gm.brL tm s x, s.getD m.toNat false = true) → s = Gm.gn tm G.rs G.ns.length ∧ Below w.heap.size w y) := hide (fun y s hg hc => ⟨Gm.gn_row hg.l hg.d (fun x hx ha => hc x hx _ (Gm.brL_of ha)), below_only HW3.out hg.g (by have := HS1.out; omega) HW3.out.size⟩)
  have hl2 : w2.heap.size < w3.heap.size := hs3
  clear hu3 hb3 x3 hR3 hW3 cf c1 hu2 hb2 hs3 hw3
  go_wp2_with fail
  refine HGR.out.mono ?_; rintro _ w4 ⟨rfl, s, hg4, hc4⟩
  obtain ⟨e4, hb4⟩ := HFIN.out w4 s hg4 hc4
  have ck4 := HX3.out w4 hg4.g
  have hu4 := hide hg4.u
  have HB4 := hide hb4
  have hl4 : w2.heap.size < w4.heap.size := block_lt_of_cell ck4
  clear hg4 hc4 hb4 HGR HFIN HX3
  go_wp2
  go_ret
  subst e4
  exact ⟨w1.heap.size, by rw [Gm.gn_len]; rfl, by omega, hu4.out, HB4.out⟩

/-- A row of truths that is answered, or none. -/
def RowB (b : Bool) (s : List Bool) (w : World) (e : Ending) (w' : World) : Prop := (b = true → RowT s w e w') ∧ (b = false → e = .returned (.slice none 0 0) ∧ Below w.heap.size w w')
theorem RowB.rd {b : Bool} {s : List Bool} {w w' : World} {e : Ending} (h : RowB b s w e w') : ∃ A c, e = .returned (.slice A (if b = true then s else []).length c) ∧ RdO w' w'.heap.size A (if b = true then s else []) ∧ Below w.heap.size w w' := by
  cases b
  · obtain ⟨h1, h2⟩ := h.2 rfl
    exact ⟨none, 0, h1, RdO.nil _ _ _, h2⟩
  · obtain ⟨g, h1, h2, h3, h4⟩ := h.1 rfl
    exact ⟨some ⟨g, 0, none⟩, s.length, h1, h3.rd0 h3.lt, h4⟩
set_option maxHeartbeats 2000000 in
theorem nullable_any (v : Value) (G : Gm.Gr) (B : Nat) (w : World) (hg : RdGr w B v G) (hf : Gm.Fit G) (hB : B ≤ w.heap.size) :
    Calls Tryz.prog 10 #[v] w (RowB (Gm.right G) (Gm.gn false G.rs G.ns.length) w) := by
  have H1 := hide (fun (x : World) (h : Below w.heap.size w x) => gright_any v G B x (hg.below h hB) hf (Nat.le_trans hB h.size))
  have H2 := hide (fun (q : Gm.right G = true) (x : World) (h : Below w.heap.size w x) => lefts_any 29 (enter_of Tryz.func29 (by kernel_rfl) (by kernel_rfl)) false (fun z is A c B y h1 h2 h3 => passN_any z is A c B y h1 h2 h3) v G B x (hg.below h hB) hf (Gm.right_ok.1 q) (Nat.le_trans hB h.size))
  obtain ⟨AT, cT, AN, cN, AR, cR, rfl, _⟩ := hg
  have HS0 := hide (One.start w #[.slice AT G.ts.length cT, .slice AN G.ns.length cN, .slice AR G.rs.length cR, .int .i64 G.st])
  clear hf
  cases q : Gm.right G
  · rw [q] at H1
    clear q H2
    go_enter Tryz.func10, Tryz.ntmps10
    go_wp2_with fail
    refine (H1.out _ HS0.out.below).mono ?_; rintro _ w2 ⟨rfl, hb⟩
    have HB2 := hide (HS0.out.on hb)
    clear hb
    go_wp2
    go_ret
    exact ⟨fun h => by simp at h, fun _ => ⟨rfl, HB2.out.below⟩⟩
  · have H2 := hide (H2.out q)
    rw [q] at H1
    clear q
    go_enter Tryz.func10, Tryz.ntmps10
    go_wp2_with fail
    refine (H1.out _ HS0.out.below).mono ?_; rintro _ w2 ⟨rfl, hb⟩
    have HB2 := hide (HS0.out.on hb)
    have q0 := HB2.out.c 0 _ rfl
    have q1 := HB2.out.c 1 _ rfl
    have q2 := HB2.out.c 2 _ rfl
    have q3 := HB2.out.c 3 _ rfl
    have hz2 : w.heap.size < w2.heap.size := HB2.out.size
    clear hb
    go_wp2_with fail
    refine (H2.out _ HB2.out.below).mono ?_; rintro _ w3 ⟨g, rfl, hg1, hu, hb3⟩
    have HU := hide hu
    have HG1 := hide hg1
    have HB3 := hide (HB2.out.on hb3)
    clear hu hb3 hg1
    go_wp2
    go_ret
    exact ⟨fun _ => ⟨g, rfl, by have := HG1.out; omega, HU.out, HB3.out.below⟩, fun h => by simp at h⟩
set_option maxHeartbeats 2000000 in
theorem productive_any (v : Value) (G : Gm.Gr) (B : Nat) (w : World) (hg : RdGr w B v G) (hf : Gm.Fit G) (hB : B ≤ w.heap.size) :
    Calls Tryz.prog 12 #[v] w (RowB (Gm.right G) (Gm.gn true G.rs G.ns.length) w) := by
  have H1 := hide (fun (x : World) (h : Below w.heap.size w x) => gright_any v G B x (hg.below h hB) hf (Nat.le_trans hB h.size))
  have H2 := hide (fun (q : Gm.right G = true) (x : World) (h : Below w.heap.size w x) => lefts_any 33 (enter_of Tryz.func33 (by kernel_rfl) (by kernel_rfl)) true (fun z is A c B y h1 h2 h3 => passP_any z is A c B y h1 h2 h3) v G B x (hg.below h hB) hf (Gm.right_ok.1 q) (Nat.le_trans hB h.size))
  obtain ⟨AT, cT, AN, cN, AR, cR, rfl, _⟩ := hg
  have HS0 := hide (One.start w #[.slice AT G.ts.length cT, .slice AN G.ns.length cN, .slice AR G.rs.length cR, .int .i64 G.st])
  clear hf
  cases q : Gm.right G
  · rw [q] at H1
    clear q H2
    go_enter Tryz.func12, Tryz.ntmps12
    go_wp2_with fail
    refine (H1.out _ HS0.out.below).mono ?_; rintro _ w2 ⟨rfl, hb⟩
    have HB2 := hide (HS0.out.on hb)
    clear hb
    go_wp2
    go_ret
    exact ⟨fun h => by simp at h, fun _ => ⟨rfl, HB2.out.below⟩⟩
  · have H2 := hide (H2.out q)
    rw [q] at H1
    clear q
    go_enter Tryz.func12, Tryz.ntmps12
    go_wp2_with fail
    refine (H1.out _ HS0.out.below).mono ?_; rintro _ w2 ⟨rfl, hb⟩
    have HB2 := hide (HS0.out.on hb)
    have q0 := HB2.out.c 0 _ rfl
    have q1 := HB2.out.c 1 _ rfl
    have q2 := HB2.out.c 2 _ rfl
    have q3 := HB2.out.c 3 _ rfl
    have hz2 : w.heap.size < w2.heap.size := HB2.out.size
    clear hb
    go_wp2_with fail
    refine (H2.out _ HB2.out.below).mono ?_; rintro _ w3 ⟨g, rfl, hg1, hu, hb3⟩
    have HU := hide hu
    have HG1 := hide hg1
    have HB3 := hide (HB2.out.on hb3)
    clear hu hb3 hg1
    go_wp2
    go_ret
    exact ⟨fun _ => ⟨g, rfl, by have := HG1.out; omega, HU.out, HB3.out.below⟩, fun h => by simp at h⟩
end Go.Proofs.YtfiijndmlmddbaaGreat

namespace Go.CalmN
open Go.RowKit

section
variable {P : Program} {ops : Array Oper} {Q : Exit → Act → World → Prop} {md : Region.Mode}

/-- An operation that yields a value and enters nothing. -/
def plainB : Op → Bool
  | .move _ | .assign _ | .pick .. | .load .. | .convert .. | .binOp .. | .unOp .. | .slice .. | .fieldAddr .. | .field .. | .indexAddr .. | .index .. | .extract .. | .build .. | .nilCheck _ | .lookup .. => true
  | .call c => match c.callee with
    | .builtin .len | .builtin .cap => true
    | _ => false
  | _ => false

theorem value_of {s : Sem Value} {w w' : World} {n : Next} (h : ((do pure (.value (← s))) : Sem Next).run P w = .ok n w') : ∃ u, n = .value u := by
  rw [Sem.run_bind] at h
  cases hs : s.run P w with
  | ok v w1 => rw [hs] at h; simp [Result.andThen, Sem.run_pure] at h; exact ⟨v, h.1.symm⟩
  | halt x w1 => rw [hs] at h; simp [Result.andThen] at h

theorem never_rt {α : Type} {w w' : World} {n : α} (h : (runtimePanic .nilDeref : Sem α).run P w = .ok n w') : False := by
  simp [runtimePanic, Result.andThen] at h
theorem plain_value {o : Oper} (hp : plainB o.op = true) {a : Act} {w w' : World} {n : Next} (h : (execOp a.eval o).run P w = .ok n w') : ∃ u, n = .value u := by
  obtain ⟨dst, op, type, pos, after, guard⟩ := o
  cases op with
  | call c =>
    obtain ⟨callee, args, ats⟩ := c
    cases callee with
    | builtin b =>
      cases b with
      | len => exact value_of (s := Builtin.len_ ats type (args.map a.eval)) h
      | cap => exact value_of (s := Builtin.cap_ ats type (args.map a.eval)) h
      | _ => exact absurd hp (by simp [plainB])
    | invoke recv name => exact absurd hp (by simp [plainB])
    | value f => exact absurd hp (by simp [plainB])
  | move x => simp [execOp, Sem.run_pure] at h; exact ⟨_, h.1.symm⟩
  | assign x => simp [execOp, Sem.run_pure] at h; exact ⟨_, h.1.symm⟩
  | pick c x y =>
    simp only [execOp, Sem.run_bind] at h
    cases hs : (asBool (a.eval c)).run P w with
    | ok v w1 => rw [hs] at h; simp [Result.andThen, Sem.run_pure] at h; exact ⟨_, h.1.symm⟩
    | halt x w1 => rw [hs] at h; simp [Result.andThen] at h
  | nilCheck x =>
    simp only [execOp] at h
    split at h
    · exact (never_rt h).elim
    · exact (never_rt h).elim
    · exact (never_rt h).elim
    · split at h
      · exact (never_rt h).elim
      · simp only [Sem.run_bind] at h
        generalize (program : Sem Program).run P w = r1 at h
        cases r1 with
        | halt x w1 => simp [Result.andThen] at h
        | ok pr w1 =>
          simp only [Result.andThen_ok] at h
          revert h
          generalize (nilAhead _ _ _ _).run P w1 = r2
          intro h
          cases r2 with
          | halt x w1 => simp [Result.andThen] at h
          | ok b w2 =>
            simp only [Result.andThen_ok] at h
            split at h
            · simp [Result.andThen] at h
            · simp [Sem.run_pure] at h; exact ⟨_, h.1.symm⟩
      · simp [Sem.run_pure] at h; exact ⟨_, h.1.symm⟩
    · simp [Sem.run_pure] at h; exact ⟨_, h.1.symm⟩
  | _ => first
    | (simp [plainB] at hp; done)
    | exact value_of h

theorem yieldsIf_of {S : World → Prop} {o : Oper} {a : Act} {v : Value} (hp : plainB o.op = true) (hw : Region.wanted o (yielded ops a.tmps) = true) (h : ∀ w, S w → o.quietAt P a S w v) : YieldsIf P ops S o v a := by
  refine .inl ⟨hw, fun w hS => ?_⟩
  have h1 := h w hS
  unfold Oper.quietAt at h1
  cases hr : (execOp a.eval o).run P w with
  | ok n w' =>
    obtain ⟨u, rfl⟩ := plain_value hp hr
    rw [hr] at h1
    simp only [Oper.quietUpon] at h1
    rw [h1.1, h1.2]
  | halt x w' => rw [hr] at h1; simp [Oper.quietUpon] at h1

def pickOps (ops : Array Oper) : List Nat → List Oper
  | [] => []
  | i :: r => match ops[i]? with
    | some o => o :: pickOps ops r
    | none => pickOps ops r
def marked : List Nat → Array Bool → Array Bool
  | [], l => l
  | i :: r, l => marked r (l.setIfInBounds i true)
def stillB (md : Region.Mode) (ops : Array Oper) : List Nat → Array Bool → Bool
  | [], _ => true
  | i :: r, l => (match ops[i]? with | some o => plainB o.op | none => false) && Region.free md ops l i && (Region.ready md ops l).contains i && stillB md ops r (l.setIfInBounds i true)

theorem anyH_mono {S S' : World → Prop} (h : ∀ x, S' x → S x) : ∀ (fuel : Nat) (listed : Array Bool) (a : Act) (w : World), wpAnyH P md ops Q S' fuel listed a w → wpAnyH P md ops Q S fuel listed a w
  | 0, _, _, _, k => k
  | fuel + 1, _, _, _, k => ⟨k.1, fun i hi => wpOp_mono (fun a w hk => ⟨h _ hk.1, anyH_mono h fuel _ a w hk.2⟩) (k.2 i hi)⟩

/-- What only reads comes first. -/
theorem still_block {S : World → Prop} (hs : Region.noSelect ops = true) (hQ : ∀ c a d v w, Q (.panic c) (a.put d v) w → Q (.panic c) a w) {w : World} (hS : S w) (fuel : Nat) :
    ∀ (p : List Nat) (listed : Array Bool) (a : Act), stillB md ops p listed = true →
      wpQuiet P ops S (fun a' => wpAnyH P md ops Q S fuel (marked p listed) a' w) (pickOps ops p) a → wpAnyH P md ops Q S (p.length + fuel) listed a w
  | [], _, _, _, h => by rw [List.length_nil, Nat.zero_add]; exact h
  | i :: r, listed, a, hb, h => by
    unfold stillB at hb
    cases ho : ops[i]? with
    | none => rw [ho] at hb; simp at hb
    | some o =>
      rw [ho] at hb
      simp only [Bool.and_eq_true] at hb
      obtain ⟨⟨⟨hp, hf⟩, hr⟩, hrest⟩ := hb
      have hl : pickOps ops (i :: r) = o :: pickOps ops r := by simp only [pickOps, ho]
      rw [hl] at h
      rw [show (i :: r).length + fuel = (r.length + fuel) + 1 by rw [List.length_cons]; omega]
      unfold wpQuiet at h
      by_cases hw : Region.wanted o (yielded ops a.tmps) = true
      · rw [if_pos hw] at h
        obtain ⟨v, h1, h2⟩ := h
        exact wpAnyH_take ho hs hf hr (fun c a w => hQ c a o.dst v w) (yieldsIf_of hp hw h1) hS (still_block hs hQ hS fuel r _ _ hrest h2)
      · rw [if_neg hw] at h
        exact wpAnyH_take ho hs hf hr (fun c a w => hQ c a o.dst undef w) (.inr ⟨by simpa using hw, rfl⟩) hS (still_block hs hQ hS fuel r _ _ hrest h)

end

section
variable {P : Program} {ops : Array Oper} {Q : Exit → Act → World → Prop} {md : Region.Mode}

/-- The phases: at last what only reads; or what only reads, and then one operation, or one of two. -/
inductive Ph where
  | fin (last : List Nat)
  | one (p : List Nat) (k : Nat) (t : Ph)
  | two (p : List Nat) (k : Nat) (t : Ph) (k2 : Nat) (t2 : Ph)

/-- One operation, and then the rest in a class of worlds that may be narrower. -/
def wpSt (P : Program) (ops : Array Oper) (Q : Exit → Act → World → Prop) (o : Option Oper) (S : World → Prop) (T : (World → Prop) → Act → World → Prop) (a : Act) (w : World) : Prop :=
  match o with
  | none => True
  | some o => ∀ K : Act → World → Prop, (∀ a2 w2, S w2 → ∀ S' : World → Prop, (∀ x, S' x → S x) → S' w2 → T S' a2 w2 → K a2 w2) →
      if Region.wanted o (yielded ops a.tmps) = true then Oper.wp P o a w K Q else K (a.put o.dst undef) w

def wpT (P : Program) (ops : Array Oper) (Q : Exit → Act → World → Prop) : Ph → (World → Prop) → Act → World → Prop
  | .fin last, S, a, w => wpQuiet P ops S (fun a' => Q .normal a' w) (pickOps ops last) a
  | .one p k t, S, a, w => wpQuiet P ops S (fun a' => wpSt P ops Q ops[k]? S (fun S' a2 w2 => wpT P ops Q t S' a2 w2) a' w) (pickOps ops p) a
  | .two p k t k2 t2, S, a, w => wpQuiet P ops S (fun a' => wpSt P ops Q ops[k]? S (fun S' a2 w2 => wpT P ops Q t S' a2 w2) a' w ∧ wpSt P ops Q ops[k2]? S (fun S' a2 w2 => wpT P ops Q t2 S' a2 w2) a' w) (pickOps ops p) a

def tB (md : Region.Mode) (ops : Array Oper) : Ph → Array Bool → Nat → Bool
  | .fin last, l, n => stillB md ops last l && (Region.ready md ops (marked last l)).isEmpty && (last.length == n)
  | .one p k t, l, n => stillB md ops p l && (match Region.ready md ops (marked p l) with | [j] => j == k | _ => false) && (ops[k]?).isSome && decide (p.length + 1 ≤ n) && tB md ops t ((marked p l).setIfInBounds k true) (n - (p.length + 1))
  | .two p k t k2 t2, l, n => stillB md ops p l && (match Region.ready md ops (marked p l) with | [j, j2] => j == k && j2 == k2 | _ => false) && (ops[k]?).isSome && (ops[k2]?).isSome && decide (p.length + 1 ≤ n) && tB md ops t ((marked p l).setIfInBounds k true) (n - (p.length + 1)) && tB md ops t2 ((marked p l).setIfInBounds k2 true) (n - (p.length + 1))

theorem quiet_mono {S : World → Prop} {Q1 Q2 : Act → Prop} (h : ∀ a, Q1 a → Q2 a) : ∀ {l : List Oper} {a : Act}, wpQuiet P ops S Q1 l a → wpQuiet P ops S Q2 l a
  | [], _, k => h _ k
  | o :: r, a, k => by
    unfold wpQuiet at k ⊢
    split
    · rename_i hw; rw [if_pos hw] at k; obtain ⟨v, h1, h2⟩ := k; exact ⟨v, h1, quiet_mono h h2⟩
    · rename_i hw; rw [if_neg hw] at k; exact quiet_mono h k

theorem any_of_t (hs : Region.noSelect ops = true) (hQ : ∀ c a d v w, Q (.panic c) (a.put d v) w → Q (.panic c) a w) :
    ∀ (t : Ph) (S : World → Prop) (listed : Array Bool) (a : Act) (w : World) (n : Nat), tB md ops t listed n = true → S w → wpT P ops Q t S a w → wpAnyH P md ops Q S n listed a w
  | .fin last, S, listed, a, w, n, hb, hS, h => by
    unfold tB at hb
    simp only [Bool.and_eq_true, List.isEmpty_iff, beq_iff_eq] at hb
    obtain ⟨⟨h1, h2⟩, rfl⟩ := hb
    have e : last.length = last.length + 0 := rfl
    rw [e]
    refine still_block hs hQ hS 0 last listed a h1 ?_
    exact quiet_mono (fun a' hq => wpAnyH_done h2 hq 0) h
  | .one p k t, S, listed, a, w, n, hb, hS, h => by
    unfold tB at hb
    simp only [Bool.and_eq_true, decide_eq_true_iff] at hb
    obtain ⟨⟨⟨⟨h1, h2⟩, h3⟩, h5⟩, h4⟩ := hb
    obtain ⟨o, ho⟩ := Option.isSome_iff_exists.1 h3
    have hrd : Region.ready md ops (marked p listed) = [k] := by
      split at h2
      · rename_i j hj; rw [hj]; rw [beq_iff_eq] at h2; rw [h2]
      · cases h2
    obtain ⟨m, rfl⟩ : ∃ m, n = p.length + (m + 1) := ⟨n - (p.length + 1), by omega⟩
    rw [show p.length + (m + 1) - (p.length + 1) = m by omega] at h4
    refine still_block hs hQ hS _ p listed a h1 ?_
    unfold wpT at h
    refine quiet_mono (fun a' hq => ?_) h
    refine wpAnyH_all hrd (by simp) fun i hi => ?_
    rw [List.mem_singleton] at hi
    subst hi
    refine wpOp_step ho fun K' hK => ?_
    rw [ho] at hq
    refine hq K' fun a2 w2 h6 S' hS' hS2 h7 => hK _ _ ⟨h6, ?_⟩
    exact anyH_mono hS' _ _ _ _ (any_of_t hs hQ t S' _ a2 w2 _ h4 hS2 h7)
  | .two p k t k2 t2, S, listed, a, w, n, hb, hS, h => by
    unfold tB at hb
    simp only [Bool.and_eq_true, decide_eq_true_iff] at hb
    obtain ⟨⟨⟨⟨⟨⟨h1, h2⟩, h3⟩, h32⟩, h5⟩, h4⟩, h42⟩ := hb
    obtain ⟨o, ho⟩ := Option.isSome_iff_exists.1 h3
    obtain ⟨o2, ho2⟩ := Option.isSome_iff_exists.1 h32
    have hrd : Region.ready md ops (marked p listed) = [k, k2] := by
      split at h2
      · rename_i j j2 hj; rw [hj]; simp only [Bool.and_eq_true, beq_iff_eq] at h2; rw [h2.1, h2.2]
      · cases h2
    obtain ⟨m, rfl⟩ : ∃ m, n = p.length + (m + 1) := ⟨n - (p.length + 1), by omega⟩
    rw [show p.length + (m + 1) - (p.length + 1) = m by omega] at h4 h42
    refine still_block hs hQ hS _ p listed a h1 ?_
    unfold wpT at h
    refine quiet_mono (fun a' hq => ?_) h
    refine wpAnyH_all hrd (by simp) fun i hi => ?_
    rw [ho, ho2] at hq
    rcases List.mem_cons.1 hi with rfl | hi
    · refine wpOp_step ho fun K' hK => ?_
      refine hq.1 K' fun a2 w2 h6 S' hS' hS2 h7 => hK _ _ ⟨h6, ?_⟩
      exact anyH_mono hS' _ _ _ _ (any_of_t hs hQ t S' _ a2 w2 _ h4 hS2 h7)
    · rw [List.mem_singleton] at hi
      subst hi
      refine wpOp_step ho2 fun K' hK => ?_
      refine hq.2 K' fun a2 w2 h6 S' hS' hS2 h7 => hK _ _ ⟨h6, ?_⟩
      exact anyH_mono hS' _ _ _ _ (any_of_t hs hQ t2 S' _ a2 w2 _ h42 hS2 h7)

/-- A region that draws its order, by a tree of phases. -/
theorem region_tree {id : Nat} {a : Act} {w : World} {l : List Oper} (S : World → Prop) (t : Ph) (hm : P.follows .mixedOrders = true)
    (hB : (Region.noSelect l.toArray && tB .any l.toArray t (Array.replicate l.toArray.size false) l.toArray.size) = true)
    (hQ : ∀ c a d v w, Q (.panic c) (a.put d v) w → Q (.panic c) a w) (hS : S w.drew)
    (h : wpT P l.toArray Q t S a w.drew) : (Code.region id l.toArray true).wp P Q a w := by
  simp only [Bool.and_eq_true] at hB
  refine wp_region_held (S := S) hm ?_
  exact any_of_t hB.1 hQ t S _ a w.drew _ hB.2 hS h
end

end Go.CalmN

namespace Go.CalmN
open Go.RowKit

section
variable {P : Program} {ops : Array Oper} {Q : Exit → Act → World → Prop} {md : Region.Mode}

/-- In each order the rest may come up just as it should. -/
def chB (md : Region.Mode) (ops : Array Oper) (t : Ph) : Nat → List Nat → Array Bool → Nat → Bool
  | 0, todo, l, n => todo.isEmpty && tB md ops t l n
  | f + 1, todo, l, n => (Region.ready md ops l == todo) && !todo.isEmpty && decide (1 ≤ n) && todo.all fun k => (ops[k]?).isSome && chB md ops t f (todo.erase k) (l.setIfInBounds k true) (n - 1)

theorem any_of_all (hs : Region.noSelect ops = true) (hQ : ∀ c a d v w, Q (.panic c) (a.put d v) w → Q (.panic c) a w) {S : World → Prop} {t : Ph} {J : List Nat → Act → World → Prop}
    (hstep : ∀ todo k a w, k ∈ todo → J todo a w → S w → wpSt P ops Q ops[k]? S (fun _ a2 w2 => J (todo.erase k) a2 w2) a w)
    (hend : ∀ a w, J [] a w → S w → wpT P ops Q t S a w) :
    ∀ (f : Nat) (todo : List Nat) (listed : Array Bool) (a : Act) (w : World) (n : Nat), chB md ops t f todo listed n = true → S w → J todo a w → wpAnyH P md ops Q S n listed a w
  | 0, todo, listed, a, w, n, hb, hS, h => by
    unfold chB at hb
    simp only [Bool.and_eq_true, List.isEmpty_iff] at hb
    obtain ⟨rfl, h2⟩ := hb
    exact any_of_t hs hQ t S listed a w n h2 hS (hend a w h hS)
  | f + 1, todo, listed, a, w, n, hb, hS, h => by
    unfold chB at hb
    simp only [Bool.and_eq_true, decide_eq_true_iff, beq_iff_eq, List.all_eq_true, Bool.not_eq_true', List.isEmpty_eq_false_iff] at hb
    obtain ⟨⟨⟨h1, h2⟩, h3⟩, h4⟩ := hb
    obtain ⟨m, rfl⟩ : ∃ m, n = m + 1 := ⟨n - 1, by omega⟩
    refine wpAnyH_all h1 h2 fun i hi => ?_
    obtain ⟨h5, h6⟩ := h4 i hi
    obtain ⟨o, ho⟩ := Option.isSome_iff_exists.1 h5
    have hq := hstep todo i a w hi h hS
    rw [ho] at hq
    refine wpOp_step ho fun K' hK => ?_
    refine hq K' fun a2 w2 h7 S' hS' hS2 h8 => hK _ _ ⟨h7, ?_⟩
    exact any_of_all hs hQ hstep hend f _ _ a2 w2 _ h6 h7 h8

/-- A region that draws its order: first what only reads; then some operations in any order; then a tree of phases. -/
theorem region_all {id : Nat} {a : Act} {w : World} {l : List Oper} (S : World → Prop) (p ks : List Nat) (t : Ph) (J : List Nat → Act → World → Prop) (hm : P.follows .mixedOrders = true)
    (hB : (Region.noSelect l.toArray && stillB .any l.toArray p (Array.replicate l.toArray.size false) && decide (p.length ≤ l.toArray.size) && chB .any l.toArray t ks.length ks (marked p (Array.replicate l.toArray.size false)) (l.toArray.size - p.length)) = true)
    (hQ : ∀ c a d v w, Q (.panic c) (a.put d v) w → Q (.panic c) a w) (hS : S w.drew)
    (h0 : wpQuiet P l.toArray S (fun a' => J ks a' w.drew) (pickOps l.toArray p) a)
    (hstep : ∀ todo k a w, k ∈ todo → J todo a w → S w → wpSt P l.toArray Q l.toArray[k]? S (fun _ a2 w2 => J (todo.erase k) a2 w2) a w)
    (hend : ∀ a w, J [] a w → S w → wpT P l.toArray Q t S a w) : (Code.region id l.toArray true).wp P Q a w := by
  simp only [Bool.and_eq_true, decide_eq_true_iff] at hB
  obtain ⟨⟨⟨h1, h2⟩, h3⟩, h4⟩ := hB
  refine wp_region_held (S := S) hm ?_
  have e : l.toArray.size = p.length + (l.toArray.size - p.length) := by omega
  rw [show wpAnyH P .any l.toArray Q S l.toArray.size = wpAnyH P .any l.toArray Q S (p.length + (l.toArray.size - p.length)) by rw [← e]]
  refine still_block h1 hQ hS _ p _ a h2 ?_
  exact quiet_mono (fun a' hj => any_of_all h1 hQ hstep hend _ ks _ a' _ _ h4 hS hj) h0

end
end Go.CalmN

namespace Go.Proofs.YtfiijndmlmddbaaGreat
set_option maxRecDepth 100000
open Go.RowKit

/-- What a rule brings: its nonterminals, when it is reached and productive. -/
def Gm.brR (p is : List Bool) (x : Gm.Rl) : List Int := if is.getD x.l.toNat false = true ∧ Gm.allB true p x.r = true then Gm.nts x.r else []
set_option maxHeartbeats 2000000 in
theorem reach1_any (x : Gm.Rl) (is p : List Bool) (A A1 A2 : Option Addr) (c c1 c2 B B1 B2 gk gp : Nat) (w : World)
    (hgk : w.cell? ⟨gk, 0, none⟩ = some (.slice A1 is.length c1)) (hgp : w.cell? ⟨gp, 0, none⟩ = some (.slice A2 p.length c2)) (hr : RdI w B A x.r) (h1 : RdO w B1 A1 is) (h2 : RdO w B2 A2 p)
    (hB : B ≤ w.heap.size) (hB2 : B2 ≤ w.heap.size) (hin : ∀ z ∈ x.r, Gm.In z) (hs : ∀ z ∈ x.r, z < 0 → -1 - z < (p.length : Int)) (hx : 0 ≤ x.l ∧ x.l < is.length) (hl : x.r.length ≤ 1000000) :
    Calls Tryz.prog 35 #[.agg #[.int .i64 x.l, .slice A x.r.length c, .int .i64 x.p], .pointer (some ⟨gk, 0, none⟩), .pointer (some ⟨gp, 0, none⟩)] w fun e w' => ∃ v, e = .returned v ∧ OwnI w' w.heap.size v (Gm.brR p is x) ∧ Below w.heap.size w w' := by
  have HA := hide (fun o => (Below.refl w.heap.size w).alloc (Nat.le_refl _) o)
  have HNO := hide (fun (y : World) (h : Below w.heap.size w y) => nons_any x A c B y (hr.below h hB) hin (Nat.le_trans hB h.size) hl)
  have HPR := hide (fun (y : World) (h : Below w.heap.size w y) => isProductive_any x p A A2 c c2 w.heap.size y ((hr.below h hB).more hB) hin hs ((h2.below h hB2).more hB2) h.size hl)
  have HE : Hid (Gm.brR p is x = if is.getD x.l.toNat false = true ∧ Gm.allB true p x.r = true then Gm.nts x.r else []) := hide rfl
  obtain ⟨l, r, q⟩ := x
  obtain ⟨m, rfl⟩ : ∃ m : Nat, l = (m : Int) := ⟨l.toNat, by have := hx.1; simp only at this; omega⟩
  simp only [Int.toNat_natCast] at HE hx HNO HPR ⊢
  obtain ⟨g, o, rfl, hgb, hc⟩ := h1 (by omega)
  have hm : m < is.length := by omega
  have hm2 : (m : Int) < (is.length : Int) := by omega
  have k0 := hc m hm
  have hl1 := block_lt_of_cell hgk
  have hl2 := block_lt_of_cell hgp
  have hl3 := block_lt_of_cell k0
  have HK2 := hide hgp
  generalize is.getD m false = b at *
  clear hr h1 h2 hB hB2 hin hs hx hl hc
  cases b
  · have HX := hide (HE.out.trans (if_neg (by simp)))
    clear HE
    go_enter Tryz.func35, Tryz.ntmps35
    go_wp2
    go_ret
    exact ⟨_, rfl, by rw [HX.out]; exact OwnI.nil _ _, HA.out _⟩
  · cases ha : Gm.allB true p r
    · have HX := hide (HE.out.trans (if_neg (by rw [ha]; simp)))
      rw [ha] at HPR
      clear HE ha
      go_enter Tryz.func35, Tryz.ntmps35
      go_wp2_with fail
      refine (HPR.out _ (HA.out _)).mono ?_; rintro _ w2 ⟨rfl, hb2⟩
      have HB2 := hide ((HA.out (.cells #[.int .i64 m, .slice A r.length c, .int .i64 q] 40)).trans (hb2.mono (by simp)))
      clear hb2
      go_wp2
      go_ret
      exact ⟨_, rfl, by rw [HX.out]; exact OwnI.nil _ _, HB2.out⟩
    · have HX := hide (HE.out.trans (if_pos ⟨rfl, ha⟩))
      rw [ha] at HPR
      clear HE ha
      go_enter Tryz.func35, Tryz.ntmps35
      go_wp2_with fail
      refine (HPR.out _ (HA.out _)).mono ?_; rintro _ w2 ⟨rfl, hb2⟩
      have HB2 := hide ((HA.out (.cells #[.int .i64 m, .slice A r.length c, .int .i64 q] 40)).trans (hb2.mono (by simp)))
      have hb := (hb2.block w.heap.size (by simp)).trans (heap_alloc_new w _)
      have d0 := cell_of_row w2 _ 0 _ _ _ hb
      have d1 := cell_of_row w2 _ 1 _ _ _ hb
      have d2 := cell_of_row w2 _ 2 _ _ _ hb
      have ld := (Array.getElem?_eq_some_iff.1 hb).1
      clear hb2 hb
      go_wp2_with fail
      refine (HNO.out _ HB2.out).mono ?_; rintro _ w3 ⟨v, rfl, ho3, hb3⟩
      have HO3 := hide (ho3.mono HB2.out.size)
      have HB3 := hide (HB2.out.trans (hb3.mono HB2.out.size))
      clear ho3 hb3
      go_wp2
      go_ret
      exact ⟨_, rfl, by rw [HX.out]; exact HO3.out, HB3.out⟩

theorem run_mkO (w : World) (t : TypeId) (ht : Tryz.prog.underlying t = some (.slice 4)) (n : Nat) (hn : n ≤ 35184372088832) :
    ∃ w', (Instr.makeSlice t (.int .i64 n) (.int .i64 n)).run Tryz.prog w = .ok (.slice (some ⟨w.heap.size, 0, none⟩) n n) w' ∧ UBO w' w.heap.size (List.replicate n false) ∧ Below w.heap.size w w' := by
  obtain ⟨i, hi, hz0, hz1, hz2⟩ := info_parts infoO
  obtain ⟨w', hrun, hown, hgr⟩ := run_make_full (P := Tryz.prog) w w.heap.size t 4 i (.bool false) 1 ht hi hz0 hz1 .i64 .i64 n (by rw [hz2]; omega) (by unfold maxLen; omega) (Nat.le_refl _)
  refine ⟨w', hrun, ?_, ⟨hgr.os, hgr.tape, hgr.output, hgr.size, fun k hk => hgr.block k hk (by simp)⟩⟩
  refine ubO_of_full (base := w.heap.size) (n := n) ?_
  rw [map_replicateO]
  have e : (madeCells (Value.bool false).cells (n * 1)).toList = List.replicate n (Value.bool false) := by
    rw [Nat.mul_one]; exact toList_madeCells_one _ _
  rw [e] at hown; exact hown
theorem mkO_wp {w : World} {o : Oper} {a : Act} {K : Act → World → Prop} {Q : Exit → Act → World → Prop} (l c : Operand) (t : TypeId) (hop : o.op = Op.makeSlice t l c) (ht : Tryz.prog.underlying t = some (.slice 4)) (n : Nat) (hl : a.eval l = .int .i64 n) (hc : a.eval c = .int .i64 n) (hn : n ≤ 35184372088832)
    (hK : ∀ w', UBO w' w.heap.size (List.replicate n false) → Below w.heap.size w w' → K (a.put o.dst (.slice (some ⟨w.heap.size, 0, none⟩) n n)) w') : Oper.wp Tryz.prog o a w K Q := by
  obtain ⟨w', hrun, h1, h2⟩ := run_mkO w t ht n hn
  unfold Oper.wp
  simp [execOp, hop, hl, hc, hrun, Result.andThen]
  exact hK w' h1 h2
/-- What has come up of a region that makes two rows and two cells, in any order. -/
structure JR (w2 : World) (n : Nat) (row : List Bool) (todo : List Nat) (wx : World) (x3 x5 x6 x7 : Value) (g3 g5 c6 c7 : Nat) : Prop where
  t : ∀ k ∈ todo, k = 3 ∨ k = 5 ∨ k = 6 ∨ k = 7
  b : Below w2.heap.size w2 wx
  h3 : 3 ∉ todo → x3 = .slice (some ⟨g3, 0, none⟩) n n ∧ w2.heap.size ≤ g3 ∧ UBO wx g3 (List.replicate n false)
  h5 : 5 ∉ todo → x5 = .slice (some ⟨g5, 0, none⟩) n n ∧ w2.heap.size ≤ g5 ∧ UBO wx g5 row
  h6 : 6 ∉ todo → x6 = .pointer (some ⟨c6, 0, none⟩) ∧ w2.heap.size ≤ c6 ∧ wx.heap[c6]? = some (.cells #[.slice none 0 0] 30 (0, 0))
  h7 : 7 ∉ todo → x7 = .pointer (some ⟨c7, 0, none⟩) ∧ w2.heap.size ≤ c7 ∧ wx.heap[c7]? = some (.cells #[.slice none 0 0] 30 (0, 0))
  d35 : 3 ∉ todo → 5 ∉ todo → g3 ≠ g5
  d67 : 6 ∉ todo → 7 ∉ todo → c6 ≠ c7
section
variable {w2 wx w' : World} {n : Nat} {row : List Bool} {todo : List Nat} {x3 x5 x6 x7 : Value} {g3 g5 c6 c7 : Nat}
theorem not_erase {l : List Nat} {j k : Nat} (h : j ∉ l.erase k) (hne : j ≠ k) : j ∉ l := fun hm => h ((List.mem_erase_of_ne hne).2 hm)
theorem heap_keep {g : Nat} {o : Obj} (hb : Below wx.heap.size wx w') (h : wx.heap[g]? = some o) : w'.heap[g]? = some o := (hb.block g (Array.getElem?_eq_some_iff.1 h).1).trans h
theorem JR.put3 (h : JR w2 n row todo wx x3 x5 x6 x7 g3 g5 c6 c7) (hb : Below wx.heap.size wx w') (hu : UBO w' wx.heap.size (List.replicate n false)) : JR w2 n row (todo.erase 3) w' (.slice (some ⟨wx.heap.size, 0, none⟩) n n) x5 x6 x7 wx.heap.size g5 c6 c7 where
  t k hk := h.t k (List.mem_of_mem_erase hk)
  b := h.b.trans (hb.mono h.b.size)
  h3 _ := ⟨rfl, h.b.size, hu⟩
  h5 q := by obtain ⟨a1, a2, a3⟩ := h.h5 (not_erase q (by decide)); exact ⟨a1, a2, heap_keep hb a3⟩
  h6 q := by obtain ⟨a1, a2, a3⟩ := h.h6 (not_erase q (by decide)); exact ⟨a1, a2, heap_keep hb a3⟩
  h7 q := by obtain ⟨a1, a2, a3⟩ := h.h7 (not_erase q (by decide)); exact ⟨a1, a2, heap_keep hb a3⟩
  d35 _ q := by have := UBO.lt (h.h5 (not_erase q (by decide))).2.2; omega
  d67 q1 q2 := h.d67 (not_erase q1 (by decide)) (not_erase q2 (by decide))
theorem JR.put5 (h : JR w2 n row todo wx x3 x5 x6 x7 g3 g5 c6 c7) (hb : Below wx.heap.size wx w') {g : Nat} (hg : wx.heap.size ≤ g) (hu : UBO w' g row) : JR w2 n row (todo.erase 5) w' x3 (.slice (some ⟨g, 0, none⟩) n n) x6 x7 g3 g c6 c7 where
  t k hk := h.t k (List.mem_of_mem_erase hk)
  b := h.b.trans (hb.mono h.b.size)
  h5 _ := ⟨rfl, Nat.le_trans h.b.size hg, hu⟩
  h3 q := by obtain ⟨a1, a2, a3⟩ := h.h3 (not_erase q (by decide)); exact ⟨a1, a2, heap_keep hb a3⟩
  h6 q := by obtain ⟨a1, a2, a3⟩ := h.h6 (not_erase q (by decide)); exact ⟨a1, a2, heap_keep hb a3⟩
  h7 q := by obtain ⟨a1, a2, a3⟩ := h.h7 (not_erase q (by decide)); exact ⟨a1, a2, heap_keep hb a3⟩
  d35 q _ := by have := UBO.lt (h.h3 (not_erase q (by decide))).2.2; omega
  d67 q1 q2 := h.d67 (not_erase q1 (by decide)) (not_erase q2 (by decide))
theorem JR.put6 (h : JR w2 n row todo wx x3 x5 x6 x7 g3 g5 c6 c7) : JR w2 n row (todo.erase 6) (wx.alloc (.cells #[.slice none 0 0] 30)) x3 x5 (.pointer (some ⟨wx.heap.size, 0, none⟩)) x7 g3 g5 wx.heap.size c7 where
  t k hk := h.t k (List.mem_of_mem_erase hk)
  b := h.b.alloc h.b.size _
  h6 _ := ⟨rfl, h.b.size, heap_alloc_new wx _⟩
  h3 q := by obtain ⟨a1, a2, a3⟩ := h.h3 (not_erase q (by decide)); exact ⟨a1, a2, a3.alloc _⟩
  h5 q := by obtain ⟨a1, a2, a3⟩ := h.h5 (not_erase q (by decide)); exact ⟨a1, a2, a3.alloc _⟩
  h7 q := by obtain ⟨a1, a2, a3⟩ := h.h7 (not_erase q (by decide)); exact ⟨a1, a2, heap_keep ((Below.refl _ _).alloc (Nat.le_refl _) _) a3⟩
  d35 q1 q2 := h.d35 (not_erase q1 (by decide)) (not_erase q2 (by decide))
  d67 _ q := by have := (Array.getElem?_eq_some_iff.1 (h.h7 (not_erase q (by decide))).2.2).1; omega
theorem JR.put7 (h : JR w2 n row todo wx x3 x5 x6 x7 g3 g5 c6 c7) : JR w2 n row (todo.erase 7) (wx.alloc (.cells #[.slice none 0 0] 30)) x3 x5 x6 (.pointer (some ⟨wx.heap.size, 0, none⟩)) g3 g5 c6 wx.heap.size where
  t k hk := h.t k (List.mem_of_mem_erase hk)
  b := h.b.alloc h.b.size _
  h7 _ := ⟨rfl, h.b.size, heap_alloc_new wx _⟩
  h3 q := by obtain ⟨a1, a2, a3⟩ := h.h3 (not_erase q (by decide)); exact ⟨a1, a2, a3.alloc _⟩
  h5 q := by obtain ⟨a1, a2, a3⟩ := h.h5 (not_erase q (by decide)); exact ⟨a1, a2, a3.alloc _⟩
  h6 q := by obtain ⟨a1, a2, a3⟩ := h.h6 (not_erase q (by decide)); exact ⟨a1, a2, heap_keep ((Below.refl _ _).alloc (Nat.le_refl _) _) a3⟩
  d35 q1 q2 := h.d35 (not_erase q1 (by decide)) (not_erase q2 (by decide))
  d67 q _ := by have := (Array.getElem?_eq_some_iff.1 (h.h6 (not_erase q (by decide))).2.2).1; omega
end
theorem Gm.brR_in {G : Gm.Gr} (hok : Gm.Ok G) {s : List Bool} {x : Gm.Rl} (hx : x ∈ G.rs) (hd : ∀ i : Nat, s.getD i false = true → Gm.Rc G (i : Int)) {m : Int} (hm : m ∈ Gm.brR (Gm.gn true G.rs G.ns.length) s x) : 0 ≤ m ∧ m < G.ns.length ∧ Gm.Rc G m := by
  unfold Gm.brR at hm
  split at hm
  · rename_i h
    obtain ⟨h1, h2⟩ := Gm.nts_mem.1 hm
    have h3 := hok.sin x hx _ h1 (by omega)
    have h4 := hd _ h.1
    rw [Int.toNat_of_nonneg (hok.lin x hx).1] at h4
    have h5 := Gm.Rc.on x hx h4 ((Gm.allB_gn hok.lin _).1 h.2) _ h1 (by omega)
    rw [show -1 - (-1 - m) = m by omega] at h5 h3
    exact ⟨h2, h3, h5⟩
  · simp at hm
theorem Gm.brR_len (p s : List Bool) (x : Gm.Rl) (h : x.r.length ≤ 6) : (Gm.brR p s x).length ≤ 1000000 := by
  unfold Gm.brR
  split
  · have := Gm.nts_len x.r; omega
  · simp
theorem Gm.rc_of {G : Gm.Gr} (hok : Gm.Ok G) {s : List Bool} (hl : s.length = G.ns.length) (hd : ∀ i : Nat, s.getD i false = true → Gm.Rc G (i : Int)) (hle : Gm.Le ((List.replicate G.ns.length false).set G.st.toNat true) s)
    (hc : ∀ x ∈ G.rs, ∀ m ∈ Gm.brR (Gm.gn true G.rs G.ns.length) s x, s.getD m.toNat false = true) : s = Gm.rc G := by
  refine Gm.rc_row hl hd ⟨hle.get _ (Gm.set_getD _ _ (by have := hok.s0; have := hok.s1; simp; omega)), fun x hx h1 h2 z hz hn => ?_⟩
  refine hc x hx (-1 - z) ?_
  unfold Gm.brR
  rw [if_pos ⟨h1, (Gm.allB_gn hok.lin _).2 h2⟩]
  exact Gm.nts_mem.2 ⟨by rw [show -1 - (-1 - z) = z by omega]; exact hz, by omega⟩
theorem Gm.st_snd {G : Gm.Gr} (hok : Gm.Ok G) (i : Nat) (h : ((List.replicate G.ns.length false).set G.st.toNat true).getD i false = true) : Gm.Rc G (i : Int) := by
  rcases Gm.getD_set _ _ _ h with h1 | h1
  · rw [List.getD_eq_getElem?_getD, List.getElem?_replicate] at h1
    split at h1 <;> cases h1
  · rw [h1, Int.toNat_of_nonneg hok.s0]; exact .st
set_option maxHeartbeats 8000000 in
theorem reachable_any (v : Value) (G : Gm.Gr) (B : Nat) (w : World) (hg : RdGr w B v G) (hf : Gm.Fit G) (hB : B ≤ w.heap.size) :
    Calls Tryz.prog 14 #[v] w (RowB (Gm.right G) (Gm.rc G) w) := by
  have H1 := hide (fun (x : World) (h : Below w.heap.size w x) => gright_any v G B x (hg.below h hB) hf (Nat.le_trans hB h.size))
  have H2 := hide (fun (x : World) (h : Below w.heap.size w x) => productive_any v G B x (hg.below h hB) hf (Nat.le_trans hB h.size))
  have HGG := hide (fun (x : World) (h : Below w.heap.size w x) => hg.below h hB)
  obtain ⟨AT, cT, AN, cN, AR, cR, rfl, _, ⟨hlN, hmN⟩, _, _, _, hR⟩ := hg
  have HS0 := hide (One.start w #[.slice AT G.ts.length cT, .slice AN G.ns.length cN, .slice AR G.rs.length cR, .int .i64 G.st])
  have HRl := hide hR
  have HB := hide hB
  have HFT := hide hf
  clear hf hR hB
  cases q : Gm.right G
  · rw [q] at H1
    clear q H2
    go_enter Tryz.func14, Tryz.ntmps14
    go_wp2_with fail
    refine (H1.out _ HS0.out.below).mono ?_; rintro _ w2 ⟨rfl, hb⟩
    have HB2 := hide (HS0.out.on hb)
    clear hb
    go_wp2
    go_ret
    exact ⟨fun h => by simp at h, fun _ => ⟨rfl, HB2.out.below⟩⟩
  · have HOK := hide (Gm.right_ok.1 q)
    have HN : Hid (G.ns.length ≤ 40) := hide (by have := (Gm.nons_iff G).1 HOK.out.n; omega)
    have HR40 : Hid (G.rs.length ≤ 40) := hide HOK.out.r40
    have H2 := hide (fun x h => (show Calls _ _ _ _ (RowT _ _) from (H2.out x h).mono fun e w' k => k.1 q))
    rw [q] at H1
    clear q
    have hnn := HN.out
    have hlen : (G.ns.length : Int) ≤ 9223372036854775807 := by omega
    go_enter Tryz.func14, Tryz.ntmps14
    go_upto_region 3 with fail
    refine (H1.out _ HS0.out.below).mono ?_; rintro _ w2 ⟨rfl, hb⟩
    have HB2 := hide (HS0.out.on hb)
    clear hb
    go_upto_region 3 with fail
    have HW2 : Hid (Below w.heap.size w w2) := hide HB2.out.below
    have HBX := hide ((Below.block HB2.out w.heap.size (by omega)).trans (heap_alloc_new w _))
    have hd1 : w.heap.size < w2.heap.size := HB2.out.size
    obtain ⟨T, hT⟩ : ∃ x, x = Gm.gn true G.rs G.ns.length := ⟨_, rfl⟩
    have HTl : Hid (T.length = G.ns.length) := hide (by rw [hT, Gm.gn_len])
    rw [← hT] at H2
    have HT := hide hT
    clear hT
    have H3 := hide (fun (x : World) (h : Below w2.heap.size w2 x) => H2.out x (HW2.out.trans (h.mono (Nat.le_of_lt hd1))))
    have q0 := fun y : Calm.On w2.heap.size w2 => (y.2.cell (p := ⟨w.heap.size, 0, none⟩) hd1).trans (HB2.out.c 0 _ rfl)
    have q1 := fun y : Calm.On w2.heap.size w2 => (y.2.cell (p := ⟨w.heap.size, 1, none⟩) hd1).trans (HB2.out.c 1 _ rfl)
    have q2 := fun y : Calm.On w2.heap.size w2 => (y.2.cell (p := ⟨w.heap.size, 2, none⟩) hd1).trans (HB2.out.c 2 _ rfl)
    have q3 := fun y : Calm.On w2.heap.size w2 => (y.2.cell (p := ⟨w.heap.size, 3, none⟩) hd1).trans (HB2.out.c 3 _ rfl)
    clear H1 HS0 H2
    refine CalmN.region_all (fun x => ∃ y : Calm.On w2.heap.size w2, x = y.1) [0, 1, 2, 4] [3, 5, 6, 7] (.one [] 8 (.one [] 9 (.fin [])))
      (fun todo a wx => ∃ x3 x5 x6 x7 g3 g5 c6 c7, a = { tmps := #[.agg #[.slice AT G.ts.length cT, .slice AN G.ns.length cN, .slice AR G.rs.length cR, .int .i64 G.st], .pointer (some ⟨w.heap.size, 0, none⟩), .slice none 0 0, x6, x7, .agg #[.slice AT G.ts.length cT, .slice AN G.ns.length cN, .slice AR G.rs.length cR, .int .i64 G.st], .bool true, .bool false, .pointer (some ⟨w.heap.size, 1, none⟩), .slice AN G.ns.length cN, .int .i64 G.ns.length, x3, .agg #[.slice AT G.ts.length cT, .slice AN G.ns.length cN, .slice AR G.rs.length cR, .int .i64 G.st], x5, undef, undef, undef, undef, undef, undef, undef, undef, undef, undef], defers := [] } ∧ JR w2 G.ns.length T todo wx x3 x5 x6 x7 g3 g5 c6 c7)
      (by kernel_rfl) (by kernel_rfl) (fun _ _ d _ _ h => by cases d <;> exact h) ⟨⟨w2.drew, below_drewN (Below.refl _ _) 1⟩, rfl⟩ ?_ ?_ ?_
    · simp only [CalmN.pickOps, List.getElem?_toArray, List.getElem?_cons_zero, List.getElem?_cons_succ]
      repeat (go_big_quiet_step (fail))
      refine wpQuiet_nil ?_
      exact ⟨undef, undef, undef, undef, 0, 0, 0, 0, rfl, ⟨by simp, below_drewN (Below.refl _ _) 1, fun h => absurd (by simp) h, fun h => absurd (by simp) h, fun h => absurd (by simp) h, fun h => absurd (by simp) h, fun h => absurd (by simp) h, fun h => absurd (by simp) h⟩⟩
    · intro todo k a wx hk hJ hS
      obtain ⟨x3, x5, x6, x7, g3, g5, c6, c7, rfl, hJ⟩ := hJ
      have HJ := hide hJ
      have hcase := hJ.t k hk
      clear hJ hS hk q0 q1 q2 q3
      rcases hcase with rfl | rfl | rfl | rfl
      · simp only [CalmN.wpSt, List.getElem?_toArray, List.getElem?_cons_zero, List.getElem?_cons_succ]
        intro KK hKK
        rw [if_pos (by rfl)]
        refine mkO_wp (.tmp 10) (.tmp 10) _ rfl Tryz.underlying30 G.ns.length rfl rfl (by omega) ?_
        intro w' hu hb
        have hj := HJ.out.put3 hb hu
        exact hKK _ _ ⟨⟨w', hj.b⟩, rfl⟩ (fun x => ∃ y : Calm.On w2.heap.size w2, x = y.1) (fun _ h => h) ⟨⟨w', hj.b⟩, rfl⟩ ⟨_, x5, x6, x7, _, g5, c6, c7, rfl, hj⟩
      · simp only [CalmN.wpSt, List.getElem?_toArray, List.getElem?_cons_zero, List.getElem?_cons_succ]
        intro KK hKK
        rw [if_pos (by rfl)]
        go_wp2_with fail
        refine (H3.out wx HJ.out.b).mono ?_; rintro _ w' ⟨g, rfl, hg, hu, hb⟩
        have hj := HJ.out.put5 hb hg hu
        go_wp2_with fail
        rw [HTl.out]
        exact hKK _ _ ⟨⟨w', hj.b⟩, rfl⟩ (fun x => ∃ y : Calm.On w2.heap.size w2, x = y.1) (fun _ h => h) ⟨⟨w', hj.b⟩, rfl⟩ ⟨x3, _, x6, x7, g3, _, c6, c7, rfl, hj⟩
      · simp only [CalmN.wpSt, List.getElem?_toArray, List.getElem?_cons_zero, List.getElem?_cons_succ]
        intro KK hKK
        rw [if_pos (by rfl)]
        have hj := HJ.out.put6
        go_wp2_with fail
        exact hKK _ _ ⟨⟨_, hj.b⟩, rfl⟩ (fun x => ∃ y : Calm.On w2.heap.size w2, x = y.1) (fun _ h => h) ⟨⟨_, hj.b⟩, rfl⟩ ⟨x3, x5, _, x7, g3, g5, _, c7, rfl, hj⟩
      · simp only [CalmN.wpSt, List.getElem?_toArray, List.getElem?_cons_zero, List.getElem?_cons_succ]
        intro KK hKK
        rw [if_pos (by rfl)]
        have hj := HJ.out.put7
        go_wp2_with fail
        exact hKK _ _ ⟨⟨_, hj.b⟩, rfl⟩ (fun x => ∃ y : Calm.On w2.heap.size w2, x = y.1) (fun _ h => h) ⟨⟨_, hj.b⟩, rfl⟩ ⟨x3, x5, x6, _, g3, g5, c6, _, rfl, hj⟩
    · intro a wx hJ hS
      obtain ⟨x3, x5, x6, x7, g3, g5, c6, c7, rfl, hJ⟩ := hJ
      obtain ⟨rfl, hg3, hu3⟩ := hJ.h3 (by simp)
      obtain ⟨rfl, hg5, hu5⟩ := hJ.h5 (by simp)
      obtain ⟨rfl, hc6, hu6⟩ := hJ.h6 (by simp)
      obtain ⟨rfl, hc7, hu7⟩ := hJ.h7 (by simp)
      have hd35 := hJ.d35 (by simp) (by simp)
      have hd67 := hJ.d67 (by simp) (by simp)
      have hbx := hJ.b
      clear hS q0 q1 q2 q3
      -- the two stores
      have hne36 : g3 ≠ c6 := fun e => by subst e; unfold UBO at hu3; rw [hu6] at hu3; injection hu3 with hu3; injection hu3 with _ hu3; cases hu3
      have hne56 : g5 ≠ c6 := fun e => by subst e; unfold UBO at hu5; rw [hu6] at hu5; injection hu5 with hu5; injection hu5 with _ hu5; cases hu5
      have hne37 : g3 ≠ c7 := fun e => by subst e; unfold UBO at hu3; rw [hu7] at hu3; injection hu3 with hu3; injection hu3 with _ hu3; cases hu3
      have hne57 : g5 ≠ c7 := fun e => by subst e; unfold UBO at hu5; rw [hu7] at hu5; injection hu5 with hu5; injection hu5 with _ hu5; cases hu5
      have l6 := (Array.getElem?_eq_some_iff.1 hu6).1
      have f6 := frozen_of_row wx _ 0 _ _ hu6
      have k6 := cell_of_row wx _ 0 _ _ _ hu6
      obtain ⟨wy, hwy⟩ : ∃ y, y = wx.setCell ⟨c6, 0, none⟩ (.slice (some ⟨g3, 0, none⟩) G.ns.length G.ns.length) := ⟨_, rfl⟩
      have hby : Below w2.heap.size w2 wy := by rw [hwy]; exact hbx.setCell (p := ⟨c6, 0, none⟩) hc6 _
      have hy3 : UBO wy g3 (List.replicate G.ns.length false) := by rw [hwy]; exact UBO.far hu3 hne36 _
      have hy5 : UBO wy g5 T := by rw [hwy]; exact UBO.far hu5 hne56 _
      have hy7 : wy.heap[c7]? = some (.cells #[.slice none 0 0] 30 (0, 0)) := by rw [hwy]; exact (Below.heap_setCell wx ⟨c6, 0, none⟩ _ c7 (by simp only; omega)).trans hu7
      have hy6 : wy.heap[c6]? = some (.cells #[.slice (some ⟨g3, 0, none⟩) G.ns.length G.ns.length] 30 (0, 0)) := by rw [hwy]; exact heap_setCell_same wx c6 0 _ _ _ hu6
      clear hu3 hu5 hu6 hu7 hJ hbx
      simp only [CalmN.wpT, CalmN.wpSt, CalmN.pickOps, List.getElem?_toArray, List.getElem?_cons_zero, List.getElem?_cons_succ]
      refine wpQuiet_nil ?_
      intro KK hKK
      rw [if_pos (by rfl)]
      go_wp2_with fail
      rw [← hwy]
      refine hKK _ _ ⟨⟨wy, hby⟩, rfl⟩ (fun x => ∃ y : Calm.On w2.heap.size w2, x = y.1) (fun _ h => h) ⟨⟨wy, hby⟩, rfl⟩ ?_
      clear hKK k6 f6 l6 hwy
      have l7 := (Array.getElem?_eq_some_iff.1 hy7).1
      have f7 := frozen_of_row wy _ 0 _ _ hy7
      have k7 := cell_of_row wy _ 0 _ _ _ hy7
      obtain ⟨wz, hwz⟩ : ∃ y, y = wy.setCell ⟨c7, 0, none⟩ (.slice (some ⟨g5, 0, none⟩) G.ns.length G.ns.length) := ⟨_, rfl⟩
      have hbz : Below w2.heap.size w2 wz := by rw [hwz]; exact hby.setCell (p := ⟨c7, 0, none⟩) hc7 _
      have hz3 : UBO wz g3 (List.replicate G.ns.length false) := by rw [hwz]; exact UBO.far hy3 hne37 _
      have hz5 : UBO wz g5 T := by rw [hwz]; exact UBO.far hy5 hne57 _
      have hz6 : wz.heap[c6]? = some (.cells #[.slice (some ⟨g3, 0, none⟩) G.ns.length G.ns.length] 30 (0, 0)) := by rw [hwz]; exact (Below.heap_setCell wy ⟨c7, 0, none⟩ _ c6 (by simp only; omega)).trans hy6
      have hz7 : wz.heap[c7]? = some (.cells #[.slice (some ⟨g5, 0, none⟩) G.ns.length G.ns.length] 30 (0, 0)) := by rw [hwz]; exact heap_setCell_same wy c7 0 _ _ _ hy7
      clear hy3 hy5 hy6 hy7 hby
      refine wpQuiet_nil ?_
      intro KK hKK
      rw [if_pos (by rfl)]
      go_wp2_with fail
      rw [← hwz]
      refine hKK _ _ ⟨⟨wz, hbz⟩, rfl⟩ (fun x => ∃ y : Calm.On w2.heap.size w2, x = y.1) (fun _ h => h) ⟨⟨wz, hbz⟩, rfl⟩ ?_
      clear hKK k7 f7 l7 hwz
      refine wpQuiet_nil ?_
      -- the start
      have r2 := (hbz.cell (p := ⟨w.heap.size, 2, none⟩) hd1).trans (HB2.out.c 2 _ rfl)
      have r3 := (hbz.cell (p := ⟨w.heap.size, 3, none⟩) hd1).trans (HB2.out.c 3 _ rfl)
      have hst := HOK.out.s0
      have hst1 := HOK.out.s1
      obtain ⟨m, hm⟩ : ∃ m : Nat, G.st = (m : Int) := ⟨G.st.toNat, by omega⟩
      have HM := hide hm
      rw [hm] at r3 hst1
      have k3 := hz3.cell m (by simp; omega)
      have f3 := hz3.frozen m
      have l3 := hz3.lt
      have k6 := cell_of_row wz _ 0 _ _ _ hz6
      have l6 := (Array.getElem?_eq_some_iff.1 hz6).1
      have ld : w.heap.size < wz.heap.size := Nat.lt_of_lt_of_le hd1 hbz.size
      obtain ⟨wv, hwv⟩ : ∃ y, y = wz.setCell ⟨g3, m, none⟩ (.bool true) := ⟨_, rfl⟩
      have hbv : Below w2.heap.size w2 wv := by rw [hwv]; exact hbz.setCell (p := ⟨g3, m, none⟩) hg3 _
      have hv3 : UBO wv g3 ((List.replicate G.ns.length false).set m true) := by rw [hwv]; exact hz3.set_ m true
      have hv5 : UBO wv g5 T := by rw [hwv]; exact UBO.far hz5 (by simp only; omega) _
      have hv6 : wv.heap[c6]? = some (.cells #[.slice (some ⟨g3, 0, none⟩) G.ns.length G.ns.length] 30 (0, 0)) := by rw [hwv]; exact (Below.heap_setCell wz ⟨g3, m, none⟩ _ c6 (by simp only; omega)).trans hz6
      have hv7 : wv.heap[c7]? = some (.cells #[.slice (some ⟨g5, 0, none⟩) G.ns.length G.ns.length] 30 (0, 0)) := by rw [hwv]; exact (Below.heap_setCell wz ⟨g3, m, none⟩ _ c7 (by simp only; omega)).trans hz7
      have HD := hide (And.intro hne36 (And.intro hne56 (And.intro hne37 (And.intro hne57 (And.intro hd35 (And.intro hg3 (And.intro hg5 hbz)))))))
      clear hz3 hz5 hz6 hz7 hm hne36 hne56 hne37 hne57 hd35 hd67 hc6 hc7 hg5 hbz
      go_upto_region 5 with fail
      rw [← hwv]
      have u2 := (hbv.cell (p := ⟨w.heap.size, 2, none⟩) hd1).trans (HB2.out.c 2 _ rfl)
      have u6 : wv.cell? ⟨c6, 0, none⟩ = some (.slice (some ⟨g3, 0, none⟩) G.ns.length G.ns.length) := by rw [cell_of_row wv _ 0 _ _ _ hv6]; rfl
      have u7 : wv.cell? ⟨c7, 0, none⟩ = some (.slice (some ⟨g5, 0, none⟩) G.ns.length G.ns.length) := by rw [cell_of_row wv _ 0 _ _ _ hv7]; rfl
      have hWv : Below w.heap.size w wv := HW2.out.trans (hbv.mono (Nat.le_of_lt hd1))
      have hdw : w.heap.size ≤ w2.heap.size := Nat.le_of_lt hd1
      have hRv : RdRl wv B AR G.rs := HRl.out.keep fun g o hg => hWv.cell (p := ⟨g, o, none⟩) (Nat.lt_of_lt_of_le hg HB.out)
      have hm2 : G.st.toNat = m := by rw [HM.out]; simp
      have hBg : B ≤ g3 := Nat.le_trans (Nat.le_trans HB.out hdw) hg3
      have hnT : G.ns.length = T.length := HTl.out.symm
      have HGR := hide (grow_any 35 c6 c7 (enter_of Tryz.func35 (by kernel_rfl) (by kernel_rfl)) G.rs AR cR G.ns.length B g3 G.ns.length wv ((List.replicate G.ns.length false).set G.st.toNat true) (Gm.Rc G) (Gm.brR T)
        hRv (Nat.le_trans HB.out hWv.size) hBg (by rw [hm2]; exact hv3) (by simp) (Gm.st_snd HOK.out) (by have := HR40.out; omega)
        (fun y s x A' c' hgr hu hl hx hr => by
          have e := HFT.out.r x hx
          have q2 := kept_cell hgr u6 (fun e => HD.out.1 e.symm)
          rw [← hl] at q2
          have q3 := kept_cell hgr u7 (fun e => HD.out.2.2.1 e.symm)
          have q5 : UBO y g5 T := hv5.grown hgr (fun e => by injection e with e; exact HD.out.2.2.2.2.1 e.symm)
          rw [hnT] at q3
          exact reach1_any x s T A' (some ⟨g3, 0, none⟩) (some ⟨g5, 0, none⟩) c' s.length T.length B y.heap.size y.heap.size c6 c7 y q2 q3 hr (hu.rd0 hu.lt) (q5.rd0 q5.lt) (Nat.le_trans HB.out (Nat.le_trans hWv.size hgr.size)) (Nat.le_refl _) e.2.2 (fun z hz h => by rw [← hnT]; exact HOK.out.sin x hx z hz h) (by rw [hl]; exact HOK.out.lin x hx) (by have := (Gm.rule_in (HOK.out.rr x hx)).1; omega))
        (fun s x hx hl hd m hm => by rw [HT.out] at hm; exact Gm.brR_in HOK.out hx hd hm)
        (fun s x hx => Gm.brR_len T s x (Gm.rule_in (HOK.out.rr x hx)).1))
      have HX6 := hide (fun (y : World) (h : wv.grownBy y (some g3)) => kept_cell h u6 (fun e => HD.out.1 e.symm))
      have HFIN : Hid (∀ (y : World) (s : List Bool), Grw wv y g3 G.ns.length (Gm.Rc G) ((List.replicate G.ns.length false).set G.st.toNat true) s → (∀ x ∈ G.rs, ∀ m ∈ Gm.brR T s x, s.getD m.toNat false = true) → s = Gm.rc G ∧ Below w.heap.size w y) := hide (fun y s hg hc => ⟨Gm.rc_of HOK.out hg.l hg.d hg.le (by rw [HT.out] at hc; exact hc), below_only hWv hg.g (Nat.le_trans hdw HD.out.2.2.2.2.2.1) hWv.size⟩)
      have lv : w.heap.size < wv.heap.size := Nat.lt_of_lt_of_le hd1 hbv.size
      have l6v : c6 < wv.heap.size := block_lt_of_cell u6
      have HG3 := hide (Nat.le_trans hdw HD.out.2.2.2.2.2.1)
      clear hv3 hv5 hv6 hv7 hwv hbv u7 hRv hWv hm2 hBg hnT r2 r3 k3 f3 l3 k6 l6 ld hst hst1 hg3 HD HT HTl H3 H2
      go_wp2_with fail
      refine HGR.out.mono ?_; rintro _ w4 ⟨rfl, s, hg4, hc4⟩
      obtain ⟨e4, hb4⟩ := HFIN.out w4 s hg4 hc4
      have ck4 := HX6.out w4 hg4.g
      have hu4 := hide hg4.u
      have HB4 := hide hb4
      have hl4 : c6 < w4.heap.size := block_lt_of_cell ck4
      clear hg4 hc4 hb4 HGR HFIN HX6 u6 u2
      go_wp2
      go_ret
      subst e4
      exact ⟨fun _ => ⟨g3, by rw [Gm.rc_len]; rfl, HG3.out, hu4.out, HB4.out⟩, fun h => by simp at h⟩
end Go.Proofs.YtfiijndmlmddbaaGreat

namespace Go.Proofs.YtfiijndmlmddbaaGreat
set_option maxRecDepth 100000
open Go.RowKit

/-- Is a rule in use, as Reachable asks? -/
def Gm.rcB (p s : List Bool) (x : Gm.Rl) : Bool := s.getD x.l.toNat false && Gm.allB true p x.r
end Go.Proofs.YtfiijndmlmddbaaGreat

namespace Go.Proofs.YtfiijndmlmddbaaGreat
set_option maxRecDepth 100000

namespace Gm
/-! ### numbers as they come first -/
def ord : List Int → List Int → List Int
  | acc, [] => acc
  | acc, l :: r => ord (if l ∈ acc then acc else acc ++ [l]) r
/-- The number that is given to one of them. -/
def pos (o : List Int) (l : Int) : Int := if l ∈ o then (o.idxOf l : Int) else -1
theorem ord_pre : ∀ (ls acc : List Int), ∃ t, ord acc ls = acc ++ t
  | [], acc => ⟨[], by rw [ord]; simp⟩
  | l :: r, acc => by
    rw [ord]
    obtain ⟨t, h⟩ := ord_pre r (if l ∈ acc then acc else acc ++ [l])
    rw [h]
    split
    · exact ⟨t, rfl⟩
    · exact ⟨l :: t, by simp⟩
theorem ord_mem : ∀ (ls acc : List Int) (x : Int), x ∈ ord acc ls ↔ x ∈ acc ∨ x ∈ ls
  | [], acc, x => by rw [ord]; simp
  | l :: r, acc, x => by
    rw [ord, ord_mem r]
    split
    · simp only [List.mem_cons]
      constructor
      · rintro (h | h)
        · exact .inl h
        · exact .inr (.inr h)
      · rintro (h | rfl | h)
        · exact .inl h
        · exact .inl (by assumption)
        · exact .inr h
    · simp only [List.mem_append, List.mem_cons, List.not_mem_nil, or_false]
      constructor
      · rintro ((h | h) | h)
        · exact .inl h
        · exact .inr (.inl h)
        · exact .inr (.inr h)
      · rintro (h | h | h)
        · exact .inl (.inl h)
        · exact .inl (.inr h)
        · exact .inr h
theorem ord_nodup : ∀ (ls acc : List Int), acc.Nodup → (ord acc ls).Nodup
  | [], acc, h => by rw [ord]; exact h
  | l :: r, acc, h => by
    rw [ord]
    refine ord_nodup r _ ?_
    split
    · exact h
    · rename_i hn
      rw [List.nodup_append]
      refine ⟨h, by simp, fun a ha b hb => ?_⟩
      simp at hb; subst hb
      exact fun e => hn (e ▸ ha)
theorem pos_of {o : List Int} {l : Int} (h : l ∈ o) : pos o l = (o.idxOf l : Int) := by unfold pos; rw [if_pos h]
theorem pos_lt {o : List Int} {l : Int} (h : l ∈ o) : 0 ≤ pos o l ∧ pos o l < o.length := by
  rw [pos_of h]
  have := List.idxOf_lt_length_of_mem h
  omega
theorem pos_app {acc t : List Int} {l : Int} (h : l ∈ acc) : pos (acc ++ t) l = pos acc l := by
  rw [pos_of h, pos_of (List.mem_append_left _ h), List.idxOf_append, if_pos h]
theorem pos_new {acc t : List Int} {l : Int} (h : l ∉ acc) : pos (acc ++ l :: t) l = acc.length := by
  rw [pos_of (by simp), List.idxOf_append, if_neg h]
  simp
theorem pos_get {o : List Int} (hn : o.Nodup) (i : Nat) (h : i < o.length) : pos o o[i] = i := by
  rw [pos_of (List.getElem_mem h)]
  congr 1
  have h1 := List.idxOf_lt_length_of_mem (List.getElem_mem h)
  have h2 : o[o.idxOf o[i]] = o[i] := List.getElem_idxOf h1
  have h3 := List.pairwise_iff_getElem.1 hn
  rcases Nat.lt_trichotomy (o.idxOf o[i]) i with h4 | h4 | h4
  · exact absurd h2 (h3 _ _ h1 h h4)
  · exact h4
  · exact absurd h2.symm (h3 _ _ h h1 h4)
/-- Numbered as they come, they come in order. -/
theorem ord_tops : ∀ (ls acc : List Int) (o : List Int), o = ord acc ls → tops o.length (ls.map (pos o)) ((acc.length : Int) - 1) = true
  | [], acc, o, h => by
    rw [ord] at h
    subst h
    rw [List.map_nil, tops]; simp
  | l :: r, acc, o, h => by
    rw [ord] at h
    rw [List.map_cons, tops]
    obtain ⟨t, ht⟩ := ord_pre r (if l ∈ acc then acc else acc ++ [l])
    rw [ht] at h
    by_cases hl : l ∈ acc
    · rw [if_pos hl] at ht h
      have h1 := pos_lt hl
      have h2 : pos o l = pos acc l := by rw [h]; exact pos_app hl
      rw [h2, if_neg (by omega), if_neg (by omega)]
      exact ord_tops r acc o (h.trans ht.symm)
    · rw [if_neg hl] at ht h
      have h2 : pos o l = acc.length := by rw [h, List.append_assoc]; exact pos_new hl
      rw [h2, if_neg (by omega), if_pos (by omega)]
      have := ord_tops r (acc ++ [l]) o (h.trans ht.symm)
      simpa using this
/-- The numbers 0, 1, .. -/
def ups (n : Nat) : List Int := (List.range n).map fun i : Nat => (i : Int)
theorem ups_len (n : Nat) : (ups n).length = n := by simp [ups]
theorem ups_mem (n : Nat) (x : Int) : x ∈ ups n ↔ 0 ≤ x ∧ x < n := by
  unfold ups
  rw [List.mem_map]
  constructor
  · rintro ⟨i, hi, rfl⟩
    have := List.mem_range.1 hi
    omega
  · intro h
    exact ⟨x.toNat, List.mem_range.2 (by omega), by omega⟩
theorem ups_succ (n : Nat) : ups (n + 1) = ups n ++ [(n : Int)] := by unfold ups; rw [List.range_succ]; simp
theorem ups_get (n i : Nat) (h : i < (ups n).length) : (ups n)[i] = i := by simp [ups]
theorem ups_nodup (n : Nat) : (ups n).Nodup := by
  unfold ups
  refine List.nodup_iff_pairwise_ne.2 ?_
  rw [List.pairwise_map]
  exact List.nodup_range.imp fun h e => h (by omega)
theorem pos_ups {n : Nat} {x : Int} (h : 0 ≤ x ∧ x < n) : pos (ups n) x = x := by
  have := pos_get (ups_nodup n) x.toNat (by rw [ups_len]; omega)
  rw [ups_get] at this
  rwa [Int.toNat_of_nonneg h.1] at this
/-- What comes in order keeps its numbers. -/
theorem tops_ord {n : Nat} : ∀ (ls : List Int) (k : Nat), tops n ls ((k : Int) - 1) = true → ord (ups k) ls = ups n
  | [], k, h => by
    rw [tops] at h
    have : (k : Int) - 1 = n - 1 := by simpa using h
    rw [ord, show k = n by omega]
  | l :: r, k, h => by
    rw [tops] at h
    split at h
    · cases h
    · rw [ord]
      by_cases hl : l < k
      · rw [if_pos ((ups_mem _ _).2 ⟨by omega, hl⟩)]
        rw [if_neg (by omega)] at h
        exact tops_ord r k h
      · have e : l = k := by omega
        rw [if_neg (fun hm => hl ((ups_mem _ _).1 hm).2)]
        rw [if_pos (by omega)] at h
        subst e
        rw [← ups_succ]
        exact tops_ord r (k + 1) (by simpa using h)

/-! ### reduced -/
/-- Is a rule of use? -/
noncomputable def use (G : Gr) (x : Rl) : Bool := tr (Rc G x.l ∧ Al true G.rs x.r)
noncomputable def krs (G : Gr) : List Rl := G.rs.filter (use G)
/-- The rules that are left, by number. -/
noncomputable def kept (G : Gr) : List Nat := (List.range G.rs.length).filter fun i => (G.rs[i]?).any (use G)
noncomputable def olds (G : Gr) : List Int := ord [] ((krs G).map Rl.l)
def re1 (o : List Int) (z : Int) : Int := if z < 0 then -1 - pos o (-1 - z) else z
def re (o : List Int) (x : Rl) : Rl := ⟨pos o x.l, x.r.map (re1 o), x.p⟩
noncomputable def reduce (G : Gr) : Gr := ⟨G.ts, (olds G).map fun l => G.ns.getD l.toNat [], (krs G).map (re (olds G)), pos (olds G) G.st⟩
theorem mem_krs {G : Gr} {x : Rl} : x ∈ krs G ↔ x ∈ G.rs ∧ Rc G x.l ∧ Al true G.rs x.r := by
  unfold krs use; rw [List.mem_filter, tr_iff]
theorem mem_olds {G : Gr} {l : Int} : l ∈ olds G ↔ ∃ x ∈ krs G, x.l = l := by
  unfold olds
  rw [ord_mem]
  simp
theorem olds_nodup (G : Gr) : (olds G).Nodup := ord_nodup _ _ (by simp)
/-- What is reached and productive has a rule of use. -/
theorem olds_of {G : Gr} {j : Int} (h : Rc G j) (hp : Gn true G.rs j) : j ∈ olds G := by
  obtain ⟨x, hx, rfl, ha⟩ := hp.rule
  exact mem_olds.2 ⟨x, mem_krs.2 ⟨hx, h, ha⟩, rfl⟩
theorem olds_in {G : Gr} {j : Int} (h : j ∈ olds G) : Rc G j ∧ Gn true G.rs j := by
  obtain ⟨x, hx, rfl⟩ := mem_olds.1 h
  obtain ⟨h1, h2, h3⟩ := mem_krs.1 hx
  exact ⟨h2, .of h1 h3⟩
theorem use_sym {G : Gr} {x : Rl} (hx : x ∈ krs G) {z : Int} (hz : z ∈ x.r) (hn : z < 0) : -1 - z ∈ olds G := by
  obtain ⟨h1, h2, h3⟩ := mem_krs.1 hx
  exact olds_of (.on x h1 h2 h3 z hz hn) (h3.2 z hz hn)
theorem use_left {G : Gr} {x : Rl} (hx : x ∈ krs G) : x.l ∈ olds G := mem_olds.2 ⟨x, hx, rfl⟩
/-- Productive in what is reduced. -/
theorem gn_red {G : Gr} {j : Int} (hp : Gn true G.rs j) : Rc G j → Gn true (reduce G).rs (pos (olds G) j) := by
  induction hp with
  | mk x hx ht hn ih =>
    intro hr
    have ha : Al true G.rs x.r := ⟨ht, hn⟩
    have hk : x ∈ krs G := mem_krs.2 ⟨hx, hr, ha⟩
    have hm : re (olds G) x ∈ (reduce G).rs := List.mem_map_of_mem hk
    refine Gn.of hm ⟨fun _ _ _ => rfl, fun z hz h0 => ?_⟩
    obtain ⟨y, hy, rfl⟩ := List.mem_map.1 hz
    unfold re1 at h0 ⊢
    by_cases h1 : y < 0
    · rw [if_pos h1] at h0 ⊢
      rw [show -1 - (-1 - pos (olds G) (-1 - y)) = pos (olds G) (-1 - y) by omega]
      exact ih y hy h1 (.on x hx hr ha y hy h1)
    · rw [if_neg h1] at h0; omega
theorem al_red {G : Gr} {x : Rl} (hk : x ∈ krs G) : Al true (reduce G).rs (re (olds G) x).r := by
  obtain ⟨hx, hr, ha⟩ := mem_krs.1 hk
  refine ⟨fun _ _ _ => rfl, fun z hz h0 => ?_⟩
  obtain ⟨y, hy, rfl⟩ := List.mem_map.1 hz
  unfold re1 at h0 ⊢
  by_cases h1 : y < 0
  · rw [if_pos h1] at h0 ⊢
    rw [show -1 - (-1 - pos (olds G) (-1 - y)) = pos (olds G) (-1 - y) by omega]
    exact gn_red (ha.2 y hy h1) (.on x hx hr ha y hy h1)
  · rw [if_neg h1] at h0; omega
/-- Reached in what is reduced. -/
theorem rc_red {G : Gr} {j : Int} (h : Rc G j) : Rc (reduce G) (pos (olds G) j) := by
  induction h with
  | st => exact .st
  | on x hx hr hp z hz hn ih =>
    have hk : x ∈ krs G := mem_krs.2 ⟨hx, hr, hp⟩
    have hm : re (olds G) x ∈ (reduce G).rs := List.mem_map_of_mem hk
    have h1 := pos_lt (use_sym hk hz hn)
    have := Rc.on (G := reduce G) (re (olds G) x) hm ih (al_red hk) (-1 - pos (olds G) (-1 - z)) (List.mem_map.2 ⟨z, hz, by unfold re1; rw [if_pos hn]⟩) (by omega)
    rwa [show -1 - (-1 - pos (olds G) (-1 - z)) = pos (olds G) (-1 - z) by omega] at this
theorem red_ns (G : Gr) : (reduce G).ns.length = (olds G).length := by simp [reduce]
/-- All of what is reduced is productive and reached. -/
theorem red_all {G : Gr} {i : Nat} (h : i < (reduce G).ns.length) : Gn true (reduce G).rs (i : Int) ∧ Rc (reduce G) (i : Int) := by
  rw [red_ns] at h
  have h1 := olds_in (List.getElem_mem h)
  have h2 := pos_get (olds_nodup G) i h
  exact ⟨by have := gn_red h1.2 h1.1; rwa [h2] at this, by have := rc_red h1.1; rwa [h2] at this⟩
theorem red_use {G : Gr} {y : Rl} (hy : y ∈ (reduce G).rs) : use (reduce G) y = true := by
  obtain ⟨x, hx, rfl⟩ := List.mem_map.1 hy
  unfold use
  rw [tr_iff]
  exact ⟨rc_red (mem_krs.1 hx).2.1, al_red hx⟩
theorem red_krs (G : Gr) : krs (reduce G) = (reduce G).rs := List.filter_eq_self.2 fun _ h => red_use h
theorem red_tops (G : Gr) : tops (reduce G).ns.length ((reduce G).rs.map Rl.l) (-1) = true := by
  have := ord_tops ((krs G).map Rl.l) [] (olds G) rfl
  rw [red_ns]
  have e : (reduce G).rs.map Rl.l = ((krs G).map Rl.l).map (pos (olds G)) := by
    unfold reduce; simp [re]
  rw [e]
  simpa using this
theorem red_olds (G : Gr) : olds (reduce G) = ups (reduce G).ns.length := by
  unfold olds
  rw [red_krs]
  exact tops_ord _ 0 (by simpa using red_tops G)
theorem map_self {α : Type} {f : α → α} {l : List α} (h : ∀ x ∈ l, f x = x) : l.map f = l := by
  rw [List.map_congr_left (g := id) h, List.map_id]
theorem re_self {n : Nat} {x : Rl} (hl : 0 ≤ x.l ∧ x.l < n) (hs : Sin n x.r) : re (ups n) x = x := by
  cases x with
  | mk l r p =>
    unfold re
    rw [pos_ups hl]
    congr 1
    refine map_self fun z hz => ?_
    unfold re1
    by_cases h0 : z < 0
    · rw [if_pos h0, pos_ups ⟨by omega, hs z hz h0⟩]; omega
    · rw [if_neg h0]
theorem red_lin (G : Gr) : Lin (reduce G).ns.length (reduce G).rs := fun x hx => (tops_lt _ _ (red_tops G)).2 x.l (List.mem_map_of_mem hx)
theorem red_sin (G : Gr) : ∀ x ∈ (reduce G).rs, Sin (reduce G).ns.length x.r := fun y hy z hz h0 => by
  obtain ⟨x, hx, rfl⟩ := List.mem_map.1 hy
  obtain ⟨u, hu, rfl⟩ := List.mem_map.1 hz
  unfold re1 at h0 ⊢
  by_cases h1 : u < 0
  · rw [if_pos h1] at h0 ⊢
    have := pos_lt (use_sym hx hu h1)
    rw [red_ns]; omega
  · rw [if_neg h1] at h0; omega
/-- The start, productive, keeps its place. -/
theorem st_in {G : Gr} (hp : Gn true G.rs G.st) : G.st ∈ olds G := olds_of .st hp
/-- Reduced once is reduced. -/
theorem red_red {G : Gr} (hp : Gn true G.rs G.st) : reduce (reduce G) = reduce G := by
  have h0 := red_olds G
  have hst : 0 ≤ (reduce G).st ∧ (reduce G).st < (reduce G).ns.length := by rw [red_ns]; exact pos_lt (st_in hp)
  generalize hH : reduce G = H at *
  unfold reduce
  rw [h0, ← hH, red_krs, hH, pos_ups hst]
  have e1 : (ups H.ns.length).map (fun l => H.ns.getD l.toNat []) = H.ns := by
    refine List.ext_getElem (by simp [ups_len]) fun i h1 h2 => ?_
    simp [ups_get, h2]
  have e2 : H.rs.map (re (ups H.ns.length)) = H.rs := by
    refine map_self fun x hx => ?_
    refine re_self ?_ ?_
    · have := red_lin G; rw [hH] at this; exact this x hx
    · have := red_sin G; rw [hH] at this; exact this x hx
  rw [e1, e2]
end Gm
end Go.Proofs.YtfiijndmlmddbaaGreat

namespace Go.Proofs.YtfiijndmlmddbaaGreat
set_option maxRecDepth 100000

namespace Gm
theorem olds_lt {G : Gr} (h : Ok G) {j : Int} (hj : j ∈ olds G) : 0 ≤ j ∧ j < G.ns.length := (olds_in hj).2.lin h.lin
theorem olds_le {G : Gr} (h : Ok G) : (olds G).length ≤ G.ns.length := by
  have h1 := pigeons G.ns.length ((olds G).map (· + 1)) ?_ ?_
  · simpa using h1.1
  · refine List.nodup_iff_pairwise_ne.2 ?_
    rw [List.pairwise_map]
    exact (List.nodup_iff_pairwise_ne.1 (olds_nodup G)).imp fun h e => h (by omega)
  · intro x hx
    obtain ⟨y, hy, rfl⟩ := List.mem_map.1 hx
    have := olds_lt h hy
    omega
/-- The name of one that is left. -/
theorem red_name {G : Gr} (h : Ok G) (i : Nat) (hi : i < (olds G).length) : ∃ hk : ((olds G)[i]).toNat < G.ns.length, (reduce G).ns[i]'(by rw [red_ns]; exact hi) = G.ns[((olds G)[i]).toNat] := by
  have h1 := olds_lt h (List.getElem_mem hi)
  have hk : ((olds G)[i]).toNat < G.ns.length := by omega
  refine ⟨hk, ?_⟩
  simp [reduce, hk]
/-- What is reduced may be. -/
theorem red_ok {G : Gr} (h : Ok G) (hp : Gn true G.rs G.st) : Ok (reduce G) := by
  have hst := st_in hp
  have hpo := pos_lt hst
  have hN := (nons_iff G).1 h.n
  have hle := olds_le h
  have hns : ∀ s ∈ (reduce G).ns, s ∈ G.ns := fun s hs => by
    obtain ⟨i, hi, rfl⟩ := List.getElem_of_mem hs
    rw [red_ns] at hi
    obtain ⟨hk, e⟩ := red_name h i hi
    rw [e]; exact List.getElem_mem hk
  have hnd : (reduce G).ns.Nodup := by
    refine List.nodup_iff_pairwise_ne.2 (List.pairwise_iff_getElem.2 fun i j hi hj hij e => ?_)
    rw [red_ns] at hi hj
    obtain ⟨hk, e1⟩ := red_name h i hi
    obtain ⟨hk2, e2⟩ := red_name h j hj
    rw [e1, e2] at e
    have h1 := olds_lt h (List.getElem_mem hi)
    have h2 := olds_lt h (List.getElem_mem hj)
    have h3 : ((olds G)[i]).toNat = ((olds G)[j]).toNat := by
      have h4 := List.pairwise_iff_getElem.1 hN.2.2.2.1
      rcases Nat.lt_trichotomy ((olds G)[i]).toNat ((olds G)[j]).toNat with h5 | h5 | h5
      · exact absurd e (h4 _ _ hk hk2 h5)
      · exact h5
      · exact absurd e.symm (h4 _ _ hk2 hk h5)
    have h6 : (olds G)[i] = (olds G)[j] := by omega
    exact List.pairwise_iff_getElem.1 (olds_nodup G) i j hi hj hij h6
  refine ⟨h.t, (nons_iff _).2 ⟨by rw [red_ns]; omega, by rw [red_ns]; omega, fun s hs => hN.2.2.1 s (hns s hs), hnd, fun s hs => hN.2.2.2.2 s (hns s hs)⟩, ?_, ?_, hpo.1, by rw [red_ns]; exact hpo.2, ?_, red_tops G⟩
  · obtain ⟨x, hx, _⟩ := mem_olds.1 hst
    have : 0 < (krs G).length := List.length_pos_of_mem hx
    have e : (reduce G).rs.length = (krs G).length := by simp [reduce]
    omega
  · have h1 : (krs G).length ≤ G.rs.length := List.length_filter_le _ _
    have := h.r40
    have e : (reduce G).rs.length = (krs G).length := by simp [reduce]
    omega
  · intro y hy
    have hs := red_sin G y hy
    obtain ⟨x, hx, rfl⟩ := List.mem_map.1 hy
    obtain ⟨h1, h2, h3, h4⟩ := rule_in (h.rr x (mem_krs.1 hx).1)
    refine rule_of ⟨by simpa [re] using h1, h2, h3, fun z hz => ?_⟩
    have hz2 := hz
    obtain ⟨u, hu, e⟩ := List.mem_map.1 hz
    have h5 := h4 u hu
    by_cases h0 : z < 0
    · exact ⟨by have : (0:Int) ≤ ((reduce G).ts.length : Int) := by omega
                omega, hs z hz2 h0, fun h => absurd h0 (by omega)⟩
    · have : z = u := by
        rw [← e]; unfold re1
        by_cases h7 : u < 0
        · rw [if_pos h7, ← e] at *
          unfold re1 at h0
          rw [if_pos h7] at h0
          have := pos_lt (use_sym hx hu h7)
          omega
        · rw [if_neg h7]
      rw [this]
      exact ⟨h5.1, by have : (0:Int) ≤ ((reduce G).ns.length : Int) := by omega
                      omega, h5.2.2⟩
/-- The rules that are left, by number: as many, in order. -/
theorem kept_rs (G : Gr) : (kept G).map (fun i => G.rs.getD i ⟨0, [], 0⟩) = krs G := by
  unfold kept krs
  generalize use G = f
  have key : ∀ (rs pre : List Rl), ((List.range' pre.length rs.length).filter fun i => ((pre ++ rs)[i]?).any f).map (fun i => (pre ++ rs).getD i ⟨0, [], 0⟩) = rs.filter f := by
    intro rs
    induction rs with
    | nil => intro pre; simp
    | cons x rs ih =>
      intro pre
      have h1 := ih (pre ++ [x])
      simp only [List.append_assoc, List.singleton_append, List.length_append, List.length_singleton] at h1
      rw [List.length_cons, List.range'_succ, List.filter_cons, List.filter_cons]
      have h2 : (pre ++ x :: rs)[pre.length]? = some x := by simp
      rw [h2]
      simp only [Option.any_some]
      split
      · rw [List.map_cons, h1]
        congr 1
        simp
      · exact h1
  have := key G.rs []
  simpa [List.range_eq_range'] using this
theorem kept_len (G : Gr) : (kept G).length = (krs G).length := by rw [← kept_rs]; simp
theorem kept_lt {G : Gr} {i : Nat} (h : i ∈ kept G) : i < G.rs.length := by
  have := List.mem_filter.1 h
  exact List.mem_range.1 this.1
theorem kept_at {G : Gr} (i : Nat) (h : i < (kept G).length) (h2 : (kept G)[i] < G.rs.length) : (krs G)[i]'(by rw [← kept_len]; exact h) = G.rs[(kept G)[i]] := by
  have : (krs G)[i]? = some (G.rs[(kept G)[i]]) := by
    rw [← kept_rs, List.getElem?_map, List.getElem?_eq_getElem h]
    simp [h2]
  rw [List.getElem?_eq_getElem (by rw [← kept_len]; exact h)] at this
  exact Option.some.inj this
end Gm
end Go.Proofs.YtfiijndmlmddbaaGreat
