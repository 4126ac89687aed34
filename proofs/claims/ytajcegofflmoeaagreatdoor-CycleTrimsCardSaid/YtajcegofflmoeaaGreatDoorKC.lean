/- Part of the proofs over this program: CfgNames, CfgLevels, CfgRules, CfgRight, LexQuo, LexPiece2, Floats, PlaceFn, PlaceAt, LexTok, LexScan, YaccL, CfgL, CfgR, CfgR2, CfgEq. -/
import Derived.ScopeJumps
import Derived.WalkMore
import Derived.Laws.FloatArith
import Derived.Test.YtajcegofflmoeaaGreatDoorKB
namespace Go.Proofs.YtajcegofflmoeaaGreatDoor
set_option maxRecDepth 100000
open Go.RowKit

def strE : Mw.Enc Tryz.prog 9 (List Int) where
  enc s := .string (K.str s)
  ok := K.Tx
  key s h := ⟨_, Go.WideMaps.keyOf_string_mk Tryz.underlying9 (by rw [K.str_size]; unfold maxLen; exact h.2)⟩
  inj x y hx hy h := by injection h with h; exact (K.str_eq hx.1 hy.1).1 h
theorem strK : Maps.Keyed Tryz.prog 9 := Maps.string_keyed Tryz.underlying9

theorem isSpelt_any (s : List Int) (hs : K.Tx s) (w : World) :
    Calls Tryz.prog 74 #[.string (K.str s)] w fun e w' => e = .returned (.bool (Gm.named s)) ∧ Below w.heap.size w w' := by
  have HN := hide (fun w => name_any s hs.1 w)
  have HL := hide (fun w => lit_any s hs.1 hs.2 w)
  unfold Gm.named
  clear hs
  cases q : T.isName s
  · rw [q] at HN
    clear q
    generalize T.isLit s = b at *
    go_enter Tryz.func74, Tryz.ntmps74
    go_wp2_with fail
    refine (HN.out _).mono ?_; rintro _ w1 ⟨rfl, hb⟩
    have HB := hide hb
    clear hb
    go_wp2_with fail
    refine (HL.out _).mono ?_; rintro _ _ ⟨rfl, rfl⟩
    go_wp2
    go_ret
    exact ⟨ret_bool (by simp), HB.out⟩
  · rw [q] at HN
    clear q
    go_enter Tryz.func74, Tryz.ntmps74
    go_wp2_with fail
    refine (HN.out _).mono ?_; rintro _ w1 ⟨rfl, hb⟩
    have HB := hide hb
    clear hb
    go_wp2
    go_ret
    exact ⟨ret_bool (by simp), HB.out⟩

def dd : List (List Int) → List (List Int) → List (List Int)
  | acc, [] => acc
  | acc, s :: r => dd (if s ∈ acc then acc else acc ++ [s]) r
theorem dd_snoc (acc l : List (List Int)) (s : List Int) : dd acc (l ++ [s]) = if s ∈ dd acc l then dd acc l else dd acc l ++ [s] := by
  induction l generalizing acc with
  | nil => rfl
  | cons x r ih => rw [List.cons_append, dd, dd, ih]
theorem dd_len (acc l : List (List Int)) (hn : acc.Nodup) : (dd acc l).length ≤ acc.length + l.length ∧ ((dd acc l).length = acc.length + l.length ↔ (acc ++ l).Nodup) := by
  induction l generalizing acc with
  | nil => simp [dd, hn]
  | cons x r ih =>
    rw [dd]
    by_cases hx : x ∈ acc
    · rw [if_pos hx]
      have := (ih acc hn).1
      refine ⟨by rw [List.length_cons]; omega, ⟨fun e => by rw [List.length_cons] at e; omega, fun h => ?_⟩⟩
      rw [List.nodup_append] at h
      exact absurd rfl (h.2.2 x hx x (by simp))
    · rw [if_neg hx]
      have hn' : (acc ++ [x]).Nodup := by
        rw [List.nodup_append]
        exact ⟨hn, by simp, fun a ha b hb e => by rw [List.mem_singleton] at hb; subst hb e; exact hx ha⟩
      have := ih (acc ++ [x]) hn'
      rw [List.length_append, List.length_singleton, List.append_assoc, List.singleton_append] at this
      refine ⟨by have := this.1; rw [List.length_cons]; omega, ?_⟩
      rw [← this.2, List.length_cons]
      omega
def nmL (l : List (List Int)) : List (List Int × Value) := (dd [] l).map fun s => (s, .bool true)
theorem asc_nmL (l : List (List Int)) (s : List Int) : Mw.asc (nmL l) s = if s ∈ dd [] l then some (.bool true) else none := by
  unfold nmL
  generalize dd [] l = m
  induction m with
  | nil => rfl
  | cons x r ih =>
    rw [List.map_cons, Mw.asc, ih]
    by_cases h : x = s
    · subst h; simp
    · rw [if_neg h]
      have : s ≠ x := fun e => h e.symm
      simp [this]
theorem nmL_snoc (l : List (List Int)) (s : List Int) : (if Mw.asc (nmL l) s = none then nmL l ++ [(s, .bool true)] else nmL l) = nmL (l ++ [s]) := by
  rw [asc_nmL]
  unfold nmL
  rw [dd_snoc]
  by_cases h : s ∈ dd [] l
  · rw [if_pos h, if_pos h]; rfl
  · rw [if_neg h, if_neg h, if_pos rfl, List.map_append]; rfl
theorem asc_nm (l : List (List Int)) (s : List Int) : Mw.asc (nmL l) s = none ∨ Mw.asc (nmL l) s = some (.bool true) := by
  rw [asc_nmL]
  split
  · exact .inr rfl
  · exact .inl rfl

def rnB (G : Gm.Gr) : Bool := decide (G.ts.length ≤ 24) && decide (1 ≤ G.ns.length) && decide (G.ns.length ≤ 16) && (G.ts.all fun t => Gm.named t.nm) && (G.ns.all T.isName) && decide ((nmL (Gm.names G.ts ++ G.ns)).length = G.ts.length + G.ns.length)
theorem rn_t {G : Gm.Gr} {k : Nat} (h : k < G.ts.length) (hn : Gm.named G.ts[k].nm = false) : rnB G = false := by
  unfold rnB
  have : (G.ts.all fun t => Gm.named t.nm) = false := List.all_eq_false.2 ⟨_, List.getElem_mem h, by rw [hn]; simp⟩
  rw [this]; simp
theorem rn_n {G : Gm.Gr} {k : Nat} (h : k < G.ns.length) (hn : T.isName G.ns[k] = false) : rnB G = false := by
  unfold rnB
  have : (G.ns.all T.isName) = false := List.all_eq_false.2 ⟨_, List.getElem_mem h, by rw [hn]; simp⟩
  rw [this]; simp
def AllK {α : Type} (l : List α) (f : α → Bool) (k : Nat) : Prop := ∀ i (h : i < l.length), i < k → f l[i] = true
theorem AllK.zero {α : Type} (l : List α) (f : α → Bool) : AllK l f 0 := fun _ _ h => by omega
theorem AllK.next {α : Type} {l : List α} {f : α → Bool} {k : Nat} (h : AllK l f k) (hk : k < l.length) (hn : f l[k] = true) : AllK l f (k + 1) := fun i hi hik => by
  rcases Nat.lt_or_ge i k with q | q
  · exact h i hi q
  · obtain rfl : i = k := by omega
    exact hn
theorem AllK.all {α : Type} {l : List α} {f : α → Bool} (h : AllK l f l.length) : l.all f = true := by
  rw [List.all_eq_true]
  intro x hx
  obtain ⟨i, hi, rfl⟩ := List.getElem_of_mem hx
  exact h i hi hi
theorem take_next {α : Type} {l : List α} {k : Nat} (h : k < l.length) : l.take (k + 1) = l.take k ++ [l[k]] := List.take_succ_eq_append_getElem h

set_option maxHeartbeats 4000000 in
theorem rightNames_any (v : Value) (G : Gm.Gr) (B : Nat) (w : World) (hg : RdGr w B v G) (hf : Gm.Fit G) (hB : B ≤ w.heap.size) :
    Calls Tryz.prog 44 #[v] w fun e w' => e = .returned (.bool (rnB G)) ∧ Below w.heap.size w w' := by
  obtain ⟨AT, cT, AN, cN, AR, cR, rfl, ⟨hlT, hmT⟩, ⟨hlN, hmN⟩, _, ht, hn, _⟩ := hg
  have HT := hide ht
  have HN := hide hn
  have HF := hide hf
  have HS0 := hide (One.start w #[.slice AT G.ts.length cT, .slice AN G.ns.length cN, .slice AR G.rs.length cR, .int .i64 G.st])
  have hlenT : (G.ts.length : Int) ≤ 9223372036854775807 := by omega
  have hlenN : (G.ns.length : Int) ≤ 9223372036854775807 := by omega
  clear ht hn hf
  by_cases h24 : 24 < G.ts.length
  · have HX : Hid (rnB G = false) := hide (by unfold rnB; rw [decide_eq_false (show ¬ G.ts.length ≤ 24 by omega)]; rfl)
    rw [HX.out]
    go_enter Tryz.func44, Tryz.ntmps44
    go_wp2
    go_ret
    exact ⟨rfl, HS0.out.below⟩
  by_cases h0 : G.ns.length < 1
  · have HX : Hid (rnB G = false) := hide (by unfold rnB; rw [decide_eq_false (show ¬ 1 ≤ G.ns.length by omega)]; simp)
    have e0 : ((G.ns.length : Int) == 0) = true := beq_iff_eq.2 (by omega)
    rw [HX.out]
    clear h0
    go_enter Tryz.func44, Tryz.ntmps44
    go_wp2
    go_ret
    exact ⟨rfl, HS0.out.below⟩
  have e0 : ((G.ns.length : Int) == 0) = false := beq_eq_false_iff_ne.2 (by omega)
  by_cases h16 : 16 < G.ns.length
  · have HX : Hid (rnB G = false) := hide (by unfold rnB; rw [decide_eq_false (show ¬ G.ns.length ≤ 16 by omega)]; simp)
    rw [HX.out]
    clear h0
    go_enter Tryz.func44, Tryz.ntmps44
    go_wp2
    go_ret
    exact ⟨rfl, HS0.out.below⟩
  clear h0
  have hmm := @run_makeMap Tryz.prog
  have HM0 := hide (Mw.MapIs.made strE (w.alloc (.cells #[.slice AT G.ts.length cT, .slice AN G.ns.length cN, .slice AR G.rs.length cR, .int .i64 G.st] 26)))
  have hs1 : (w.alloc (.cells #[.slice AT G.ts.length cT, .slice AN G.ns.length cN, .slice AR G.rs.length cR, .int .i64 G.st] 26)).heap.size = w.heap.size + 1 := by simp
  rw [hs1] at HM0
  have HS1 := hide (HS0.out.alloc (.map #[] 0))
  clear hs1
  go_enter Tryz.func44, Tryz.ntmps44
  go_wp2
  go_loopw [28] (fun vi wr => ∃ (k : Nat), k ≤ G.ts.length ∧ vi = .int .i64 k ∧ Hid (AllK G.ts (fun t => Gm.named t.nm) k) ∧ One w #[.slice AT G.ts.length cT, .slice AN G.ns.length cN, .slice AR G.rs.length cR, .int .i64 G.st] wr ∧ Hid (Mw.MapIs strE wr (w.heap.size + 1) (nmL (Gm.names (G.ts.take k))))) (fun vi _ => G.ts.length - (intOf vi).toNat)
  case atStart => exact ⟨0, Nat.zero_le _, rfl, hide (AllK.zero _ _), HS1.out, HM0⟩
  case round =>
    obtain ⟨k, hk, rfl, HA, hb, HM⟩ := hrel
    have HB := hide hb
    have hz : w.heap.size < wr.heap.size := hb.size
    have hz1 : w.heap.size + 1 < wr.heap.size := HM.out.lt
    have hbw := hb.below
    have q1 := hb.c 1 _ rfl
    clear hb
    by_cases hlt : k < G.ts.length
    · obtain ⟨g, o, rfl, hgb, hc⟩ := HT.out (by omega)
      have k0 := (hbw.cell (p := ⟨g, o + k * 3, none⟩) (Nat.lt_of_lt_of_le hgb hB)).trans (hc k hlt).1
      have k1 := (hbw.cell (p := ⟨g, o + k * 3 + 1, none⟩) (Nat.lt_of_lt_of_le hgb hB)).trans (hc k hlt).2.1
      have k2 := (hbw.cell (p := ⟨g, o + k * 3 + 2, none⟩) (Nat.lt_of_lt_of_le hgb hB)).trans (hc k hlt).2.2
      have hgs : g < wr.heap.size := by omega
      have hft := (HF.out.t _ (List.getElem_mem hlt)).1
      have HNM := hide (fun x => isSpelt_any _ hft x)
      have HTX := hide hft
      have HA' := hide (fun h => HA.out.next hlt h)
      have HNO := hide (fun h => rn_t hlt h)
      have HNX : Hid (nmL (Gm.names (G.ts.take k) ++ [G.ts[k].nm]) = nmL (Gm.names (G.ts.take (k + 1)))) := hide (by rw [take_next hlt]; unfold Gm.names; rw [List.map_append]; rfl)
      clear hc hbw hft
      generalize G.ts[k].nm = nm at *
      generalize G.ts[k].lv = lv at *
      generalize G.ts[k].wy = wy at *
      cases q : Gm.named nm
      · have HX := hide (HNO.out q)
        rw [q] at HNM
        clear q
        go_wp2_with fail
        refine (HNM.out _).mono ?_; rintro _ w2 ⟨rfl, hb2⟩
        have HB2 := hide ((HB.out.alloc _).on hb2)
        clear hb2
        go_wp2
        go_ret
        exact ⟨ret_bool HX.out.symm, HB2.out.below⟩
      · have HX := hide (HA'.out q)
        rw [q] at HNM
        clear q
        go_wp2_with fail
        refine (HNM.out _).mono ?_; rintro _ w2 ⟨rfl, hb2⟩
        have HB2 := hide ((HB.out.alloc _).on hb2)
        have hbb := (hb2.block wr.heap.size (by simp)).trans (heap_alloc_new wr _)
        have hz2 : wr.heap.size < w2.heap.size := (Array.getElem?_eq_some_iff.1 hbb).1
        have f0 := cell_of_row w2 _ 0 _ _ _ hbb
        have HM2 := hide ((HM.out.kept (World.grownBy_alloc wr _ none) (by simp)).kept (only_below hb2 none) (by simp))
        clear hb2 hbb
        have HST := hide (Mw.run_store (x := nm) HM2.out strK Tryz.underlying99 HTX.out (.bool true) (asc_nm _ _))
        go_wp2_with (at_mapUpdate; refine Mw.wpList_store rfl _ _ _ _ rfl HST.out rfl rfl rfl ?_; rintro w3 ⟨hm3, hg3⟩)
        have HB3 := hide (Below.grown HB2.out hg3 HB2.out.size (fun k e => by injection e with e; omega))
        have HM3 : Hid (Mw.MapIs strE w3 (w.heap.size + 1) (nmL (Gm.names (G.ts.take (k + 1))))) := hide (by rw [← HNX.out, ← nmL_snoc]; exact hm3)
        clear hm3 hg3
        go_roundw
        case rel => exact ⟨k + 1, by omega, by go_num, HX, HB3.out, HM3⟩
        case measure => simp [intOf]; omega
    · obtain rfl : k = G.ts.length := by omega
      have HA1 := hide HA.out.all
      have HM1 : Hid (Mw.MapIs strE wr (w.heap.size + 1) (nmL (Gm.names G.ts ++ G.ns.take 0))) := hide (by have h := HM.out; rw [List.take_length] at h; rw [List.take_zero, List.append_nil]; exact h)
      clear hbw hk hlt HA HM
      go_wp2
      go_loopw [43] (fun vi wr => ∃ (k : Nat), k ≤ G.ns.length ∧ vi = .int .i64 k ∧ Hid (AllK G.ns T.isName k) ∧ One w #[.slice AT G.ts.length cT, .slice AN G.ns.length cN, .slice AR G.rs.length cR, .int .i64 G.st] wr ∧ Hid (Mw.MapIs strE wr (w.heap.size + 1) (nmL (Gm.names G.ts ++ G.ns.take k)))) (fun vi _ => G.ns.length - (intOf vi).toNat)
      case atStart => exact ⟨0, Nat.zero_le _, rfl, hide (AllK.zero _ _), HB.out, HM1⟩
      case round =>
        clear q1 hz hz1 HB HM1
        obtain ⟨k, hk, rfl, HA, hb, HM⟩ := hrel
        have HB := hide hb
        have hz : w.heap.size < wr.heap.size := hb.size
        have hz1 : w.heap.size + 1 < wr.heap.size := HM.out.lt
        have hbw := hb.below
        have q0 := hb.c 0 _ rfl
        have q1 := hb.c 1 _ rfl
        clear hb
        by_cases hlt : k < G.ns.length
        · obtain ⟨g, o, rfl, hgb, hc⟩ := HN.out (by omega)
          have k0 := (hbw.cell (p := ⟨g, o + k, none⟩) (Nat.lt_of_lt_of_le hgb hB)).trans (hc k hlt)
          have hgs : g < wr.heap.size := by omega
          have hft := HF.out.n _ (List.getElem_mem hlt)
          have HNM := hide (fun x => name_any _ hft.1 x)
          have HTX := hide hft
          have HA' := hide (fun h => HA.out.next hlt h)
          have HNO := hide (fun h => rn_n hlt h)
          have HNX : Hid (nmL (Gm.names G.ts ++ G.ns.take k ++ [G.ns[k]]) = nmL (Gm.names G.ts ++ G.ns.take (k + 1))) := hide (by rw [take_next hlt, List.append_assoc])
          obtain ⟨s, qs⟩ : ∃ t, t = G.ns[k] := ⟨_, rfl⟩
          rw [← qs] at k0 HNM HTX HA' HNO HNX
          clear hc hbw hft qs
          cases q : T.isName s
          · have HX := hide (HNO.out q)
            rw [q] at HNM
            clear q
            go_wp2_with fail
            refine (HNM.out _).mono ?_; rintro _ w2 ⟨rfl, hb2⟩
            have HB2 := hide (HB.out.on hb2)
            clear hb2
            go_wp2
            go_ret
            exact ⟨ret_bool HX.out.symm, HB2.out.below⟩
          · have HX := hide (HA'.out q)
            rw [q] at HNM
            clear q
            go_wp2_with fail
            refine (HNM.out _).mono ?_; rintro _ w2 ⟨rfl, hb2⟩
            have HB2 := hide (HB.out.on hb2)
            have HM2 := hide (HM.out.kept (only_below hb2 none) (by simp))
            clear hb2
            have HST := hide (Mw.run_store (x := s) HM2.out strK Tryz.underlying99 HTX.out (.bool true) (asc_nm _ _))
            go_wp2_with (at_mapUpdate; refine Mw.wpList_store rfl _ _ _ _ rfl HST.out rfl rfl rfl ?_; rintro w3 ⟨hm3, hg3⟩)
            have HB3 := hide (Below.grown HB2.out hg3 HB2.out.size (fun k e => by injection e with e; omega))
            have HM3 : Hid (Mw.MapIs strE w3 (w.heap.size + 1) (nmL (Gm.names G.ts ++ G.ns.take (k + 1)))) := hide (by rw [← HNX.out, ← nmL_snoc]; exact hm3)
            clear hm3 hg3
            go_roundw
            case rel => exact ⟨k + 1, by omega, by go_num, HX, HB3.out, HM3⟩
            case measure => simp [intOf]; omega
        · obtain rfl : k = G.ns.length := by omega
          have HA2 := hide HA.out.all
          have HM1 : Hid (Mw.MapIs strE wr (w.heap.size + 1) (nmL (Gm.names G.ts ++ G.ns))) := hide (by have h := HM.out; rw [List.take_length] at h; exact h)
          have hL := Mw.run_len HM1.out Tryz.underlying99 3
          have HX : Hid (rnB G = (((nmL (Gm.names G.ts ++ G.ns)).length : Int) == (G.ts.length : Int) + (G.ns.length : Int))) := hide (by
            unfold rnB
            rw [HA1.out, HA2.out, decide_eq_true (show G.ts.length ≤ 24 by omega), decide_eq_true (show 1 ≤ G.ns.length by have := beq_eq_false_iff_ne.1 e0; omega), decide_eq_true (show G.ns.length ≤ 16 by omega)]
            simp only [Bool.true_and]
            rw [Bool.eq_iff_iff]
            simp only [decide_eq_true_eq, beq_iff_eq]
            omega)
          generalize (nmL (Gm.names G.ts ++ G.ns)).length = m at *
          clear hbw hk hlt HA HM HM1
          go_wp2_with (simp only [hL])
          go_ret
          exact ⟨ret_bool HX.out.symm, HB.out.below⟩
end Go.Proofs.YtajcegofflmoeaaGreatDoor

namespace Go.Proofs.YtajcegofflmoeaaGreatDoor
set_option maxRecDepth 100000
open Go.RowKit

def intE : Mw.Enc Tryz.prog 3 Int where
  enc z := .int .i64 z
  ok := Gm.In
  key z h := ⟨_, Maps.keyOf_int_mk Tryz.underlying3 (WalkArith.wf_i64 (by unfold Gm.In at h; omega))⟩
  inj x y _ _ h := by injection h
theorem intK : Maps.Keyed Tryz.prog 3 := Maps.int_keyed Tryz.underlying3

def asB (t : Gm.Tm) : Bool := if t.wy = 0 then t.lv == 0 else if t.wy = 1 ∨ t.wy = 2 ∨ t.wy = 3 then decide (0 < t.lv) else false
theorem rightAssoc_any (t : Gm.Tm) (w : World) :
    Calls Tryz.prog 76 #[.agg #[.string (K.str t.nm), .int .i64 t.lv, .int .i64 t.wy]] w fun e w' => e = .returned (.bool (asB t)) ∧ Below w.heap.size w w' := by
  have HB := hide (fun o => (Below.refl w.heap.size w).alloc (Nat.le_refl _) o)
  obtain ⟨nm, lv, wy⟩ := t
  unfold asB
  simp only
  generalize K.str nm = s at *
  by_cases h0 : wy = 0
  · subst h0
    rw [if_pos rfl]
    go_enter Tryz.func76, Tryz.ntmps76
    go_wp2
    go_ret
    exact ⟨rfl, HB.out _⟩
  rw [if_neg h0]
  by_cases h1 : wy = 1
  · subst h1
    rw [if_pos (by simp)]
    go_enter Tryz.func76, Tryz.ntmps76
    go_wp2
    go_ret
    exact ⟨rfl, HB.out _⟩
  by_cases h2 : wy = 2
  · subst h2
    rw [if_pos (by simp)]
    go_enter Tryz.func76, Tryz.ntmps76
    go_wp2
    go_ret
    exact ⟨rfl, HB.out _⟩
  by_cases h3 : wy = 3
  · subst h3
    rw [if_pos (by simp)]
    go_enter Tryz.func76, Tryz.ntmps76
    go_wp2
    go_ret
    exact ⟨rfl, HB.out _⟩
  rw [if_neg (by omega)]
  have e0 : (wy == 0) = false := beq_eq_false_iff_ne.2 h0
  have e1 : (wy == 1) = false := beq_eq_false_iff_ne.2 h1
  have e2 : (wy == 2) = false := beq_eq_false_iff_ne.2 h2
  have e3 : (wy == 3) = false := beq_eq_false_iff_ne.2 h3
  go_enter Tryz.func76, Tryz.ntmps76
  go_wp2
  go_ret
  exact ⟨rfl, HB.out _⟩

def lvPut (m : List (Int × Int)) (t : Gm.Tm) : List (Int × Int) := if 0 < t.lv then (if Mw.asc m t.lv = none then m ++ [(t.lv, t.wy)] else m) else m
def rlF : List Gm.Tm → List (Int × Int) → Int → Bool
  | [], m, g => (m.length : Int) == g
  | t :: r, m, g => if asB t = false then false else if (Mw.asc m t.lv).isSome = true ∧ (Mw.asc m t.lv).getD 0 ≠ t.wy then false else rlF r (lvPut m t) (max g t.lv)
theorem rlF_drop {ts : List Gm.Tm} {k : Nat} (h : k < ts.length) (m : List (Int × Int)) (g : Int) : rlF (ts.drop k) m g = if asB ts[k] = false then false else if (Mw.asc m ts[k].lv).isSome = true ∧ (Mw.asc m ts[k].lv).getD 0 ≠ ts[k].wy then false else rlF (ts.drop (k + 1)) (lvPut m ts[k]) (max g ts[k].lv) := by
  rw [List.drop_eq_getElem_cons h, rlF]
theorem rlF_end {ts : List Gm.Tm} {k : Nat} (h : ts.length ≤ k) (m : List (Int × Int)) (g : Int) : rlF (ts.drop k) m g = ((m.length : Int) == g) := by
  rw [List.drop_eq_nil_of_le h, rlF]
def lvL (m : List (Int × Int)) : List (Int × Value) := m.map fun p => (p.1, .int .i64 p.2)
theorem asc_lvL (m : List (Int × Int)) (z : Int) : Mw.asc (lvL m) z = (Mw.asc m z).map (fun y => .int .i64 y) := by
  unfold lvL
  induction m with
  | nil => rfl
  | cons p r ih =>
    obtain ⟨k, v⟩ := p
    rw [List.map_cons, Mw.asc, Mw.asc, ih]
    by_cases h : k = z
    · rw [if_pos h, if_pos h]; rfl
    · rw [if_neg h, if_neg h]
theorem lvL_look (m : List (Int × Int)) (z : Int) : (Mw.asc (lvL m) z).getD (.int .i64 0) = .int .i64 ((Mw.asc m z).getD 0) ∧ (Mw.asc (lvL m) z).isSome = (Mw.asc m z).isSome := by
  rw [asc_lvL]
  cases Mw.asc m z <;> exact ⟨rfl, rfl⟩
theorem zero_int (w : World) : (zeroValue 3).run Tryz.prog w = .ok (.int .i64 0) w := by kernel_rfl

set_option maxHeartbeats 4000000 in
theorem rightLevels_any (A : Option Addr) (c B : Nat) (ts : List Gm.Tm) (w : World) (ht : RdTm w B A ts) (hf : ∀ x ∈ ts, K.Tx x.nm ∧ Gm.In x.lv ∧ Gm.In x.wy) (hB : B ≤ w.heap.size) (hlen : (ts.length : Int) ≤ 9223372036854775807) :
    Calls Tryz.prog 45 #[.slice A ts.length c] w fun e w' => e = .returned (.bool (rlF ts [] 0)) ∧ Below w.heap.size w w' := by
  have HT := hide ht
  have HF := hide hf
  have hmm := @run_makeMap Tryz.prog
  have HM0 := hide (Mw.MapIs.made intE w)
  have HS0 := hide ((Below.refl w.heap.size w).alloc (Nat.le_refl _) (.map #[] 0))
  clear ht hf
  go_enter Tryz.func45, Tryz.ntmps45
  go_wp2
  go_loopw [4, 12] (fun vg vi wr => ∃ (k : Nat) (m : List (Int × Int)) (g : Int), k ≤ ts.length ∧ vi = .int .i64 k ∧ vg = .int .i64 g ∧ Hid (rlF ts [] 0 = rlF (ts.drop k) m g) ∧ Below w.heap.size w wr ∧ Hid (Mw.MapIs intE wr w.heap.size (lvL m))) (fun _ vi _ => ts.length - (intOf vi).toNat)
  case atStart => exact ⟨0, [], 0, Nat.zero_le _, rfl, rfl, hide rfl, HS0.out, HM0⟩
  case round =>
    obtain ⟨k, m, g, hk, rfl, rfl, HE, hb, HM⟩ := hrel
    have HB := hide hb
    have hz : w.heap.size < wr.heap.size := HM.out.lt
    by_cases hlt : k < ts.length
    · obtain ⟨gb, o, rfl, hgb, hc⟩ := HT.out (by omega)
      have k0 := (hb.cell (p := ⟨gb, o + k * 3, none⟩) (Nat.lt_of_lt_of_le hgb hB)).trans (hc k hlt).1
      have k1 := (hb.cell (p := ⟨gb, o + k * 3 + 1, none⟩) (Nat.lt_of_lt_of_le hgb hB)).trans (hc k hlt).2.1
      have k2 := (hb.cell (p := ⟨gb, o + k * 3 + 2, none⟩) (Nat.lt_of_lt_of_le hgb hB)).trans (hc k hlt).2.2
      have hgs : gb < wr.heap.size := by omega
      have hft := (HF.out _ (List.getElem_mem hlt)).2
      have HIN := hide hft
      have HAS := hide (fun x => rightAssoc_any ts[k] x)
      have HR := hide (rlF_drop hlt m g)
      clear hc hft
      generalize ts[k] = t at *
      obtain ⟨nm, lv, wy⟩ := t
      simp only at k0 k1 k2 HIN HAS HR
      have HM1 := hide (HM.out.kept (World.grownBy_alloc wr (.cells #[.string (K.str nm), .int .i64 lv, .int .i64 wy] 79) none) (by simp))
      have HLK := Mw.run_look (x := lv) HM1.out intK Tryz.underlying100 (zero_int _) HIN.out.1 true
      rw [if_pos rfl, (lvL_look m lv).1, (lvL_look m lv).2] at HLK
      have HLK' : (Instr.lookup 100 (.map (some w.heap.size)) (.int .i64 lv) true).run Tryz.prog (wr.alloc (.cells #[.string (K.str nm), .int .i64 lv, .int .i64 wy] 79)) = .ok (.tuple #[.int .i64 ((Mw.asc m lv).getD 0), .bool (Mw.asc m lv).isSome]) (wr.alloc (.cells #[.string (K.str nm), .int .i64 lv, .int .i64 wy] 79)) := HLK
      have HBA := hide (fun o => HB.out.alloc HB.out.size o)
      clear HLK hb
      generalize qa : asB ⟨nm, lv, wy⟩ = ba at *
      clear qa
      cases ba
      · have HX := hide (HE.out.trans (HR.out.trans (if_pos rfl)))
        go_wp2_with fail
        refine (HAS.out _).mono ?_; rintro _ w2 ⟨rfl, hb2⟩
        have HB2 := hide ((HBA.out _).trans (hb2.mono (HBA.out _).size))
        clear hb2
        go_wp2
        go_ret
        exact ⟨ret_bool HX.out.symm, HB2.out⟩
      have HR1 := hide (HE.out.trans (HR.out.trans (if_neg (by simp))))
      have HSO : Hid (¬ ((Mw.asc m lv).isSome = true ∧ (Mw.asc m lv).getD 0 ≠ wy) → Mw.asc (lvL m) lv = none ∨ Mw.asc (lvL m) lv = some (.int .i64 wy)) := hide (fun h => by
        rw [asc_lvL]
        cases q : Mw.asc m lv with
        | none => exact .inl rfl
        | some y =>
          rw [q] at h
          have : y = wy := Classical.byContradiction fun n => h ⟨rfl, n⟩
          rw [this]; exact .inr rfl)
      have HPUT : Hid (¬ 0 < lv → lvPut m ⟨nm, lv, wy⟩ = m) := hide (fun h => by unfold lvPut; rw [if_neg h])
      have HPUT2 : Hid (0 < lv → lvL (lvPut m ⟨nm, lv, wy⟩) = if Mw.asc (lvL m) lv = none then lvL m ++ [(lv, .int .i64 wy)] else lvL m) := hide (fun h => by
        unfold lvPut
        rw [if_pos h, asc_lvL]
        cases q : Mw.asc m lv with
        | none => simp [lvL]
        | some y => simp)
      by_cases h2 : (Mw.asc m lv).isSome = true ∧ (Mw.asc m lv).getD 0 ≠ wy
      · have HX := hide (HR1.out.trans (if_pos h2))
        obtain ⟨h3, h4⟩ := h2
        rw [h3] at HLK'
        have h5 : ((Mw.asc m lv).getD 0 != wy) = true := by simpa using h4
        clear h3 h4 HSO
        generalize (Mw.asc m lv).getD 0 = zs at *
        go_wp2_with fail
        refine (HAS.out _).mono ?_; rintro _ w2 ⟨rfl, hb2⟩
        have HB2 := hide ((HBA.out _).trans (hb2.mono (HBA.out _).size))
        have hbb := (hb2.block wr.heap.size (by simp)).trans (heap_alloc_new wr _)
        have hz2 : wr.heap.size < w2.heap.size := (Array.getElem?_eq_some_iff.1 hbb).1
        have f1 := cell_of_row w2 _ 1 _ _ _ hbb
        have f2 := cell_of_row w2 _ 2 _ _ _ hbb
        clear hb2 hbb
        go_wp2
        go_ret
        exact ⟨ret_bool HX.out.symm, HB2.out⟩
      · have HX := hide (HR1.out.trans (if_neg h2))
        have HSS := hide (HSO.out h2)
        have h3 : ((Mw.asc m lv).isSome && ((Mw.asc m lv).getD 0 != wy)) = false := by
          cases q : (Mw.asc m lv).isSome
          · rfl
          · rw [Bool.true_and]
            by_cases q2 : (Mw.asc m lv).getD 0 = wy
            · rw [q2]; simp
            · exact absurd ⟨q, q2⟩ h2
        generalize qs : (Mw.asc m lv).isSome = kn at HLK' h3
        generalize qg : (Mw.asc m lv).getD 0 = zs at HLK' h3
        clear h2 qs qg HSO HR1 HR HE
        by_cases hp : 0 < lv
        · have HP := hide (HPUT2.out hp)
          cases kn
          · go_wp2_with fail
            refine (HAS.out _).mono ?_; rintro _ w2 ⟨rfl, hb2⟩
            have HB2 := hide ((HBA.out _).trans (hb2.mono (HBA.out _).size))
            have hbb := (hb2.block wr.heap.size (by simp)).trans (heap_alloc_new wr _)
            have hz2 : wr.heap.size < w2.heap.size := (Array.getElem?_eq_some_iff.1 hbb).1
            have f1 := cell_of_row w2 _ 1 _ _ _ hbb
            have f2 := cell_of_row w2 _ 2 _ _ _ hbb
            have HM2 := hide (HM1.out.kept (only_below hb2 none) (by simp))
            have HBC := hide (fun (x : World) (h : w2.grownBy x (some w.heap.size)) => (cell_of_row x _ 1 _ _ _ ((h.block wr.heap.size hz2 (fun e => by injection e with e; omega)).trans hbb)))
            clear hb2 hbb
            have HST := hide (Mw.run_store (x := lv) HM2.out intK Tryz.underlying100 HIN.out.1 (.int .i64 wy) HSS.out)
            rw [← HP.out] at HST
            clear HLK'
            go_wp2_with (at_mapUpdate; refine Mw.wpList_store rfl _ _ _ _ rfl HST.out rfl rfl rfl ?_; rintro w3 ⟨hm3, hg3⟩; have f3 := HBC.out _ hg3)
            have HB3 := hide (Below.grown HB2.out hg3 HB2.out.size (fun k e => by injection e with e; omega))
            have HM3 := hide hm3
            clear hm3 hg3
            go_roundw
            case rel => exact ⟨k + 1, _, _, by omega, by go_num, rfl, HX, HB3.out, HM3⟩
            case measure => simp [intOf]; omega
          · have h4 : (zs != wy) = false := by simpa using h3
            clear h3
            go_wp2_with fail
            refine (HAS.out _).mono ?_; rintro _ w2 ⟨rfl, hb2⟩
            have HB2 := hide ((HBA.out _).trans (hb2.mono (HBA.out _).size))
            have hbb := (hb2.block wr.heap.size (by simp)).trans (heap_alloc_new wr _)
            have hz2 : wr.heap.size < w2.heap.size := (Array.getElem?_eq_some_iff.1 hbb).1
            have f1 := cell_of_row w2 _ 1 _ _ _ hbb
            have f2 := cell_of_row w2 _ 2 _ _ _ hbb
            have HM2 := hide (HM1.out.kept (only_below hb2 none) (by simp))
            have HBC := hide (fun (x : World) (h : w2.grownBy x (some w.heap.size)) => (cell_of_row x _ 1 _ _ _ ((h.block wr.heap.size hz2 (fun e => by injection e with e; omega)).trans hbb)))
            clear hb2 hbb
            have HST := hide (Mw.run_store (x := lv) HM2.out intK Tryz.underlying100 HIN.out.1 (.int .i64 wy) HSS.out)
            rw [← HP.out] at HST
            clear HLK'
            go_wp2_with (at_mapUpdate; refine Mw.wpList_store rfl _ _ _ _ rfl HST.out rfl rfl rfl ?_; rintro w3 ⟨hm3, hg3⟩; have f3 := HBC.out _ hg3)
            have HB3 := hide (Below.grown HB2.out hg3 HB2.out.size (fun k e => by injection e with e; omega))
            have HM3 := hide hm3
            clear hm3 hg3
            go_roundw
            case rel => exact ⟨k + 1, _, _, by omega, by go_num, rfl, HX, HB3.out, HM3⟩
            case measure => simp [intOf]; omega
        · have HP := hide (HPUT.out hp)
          have hp' := Int.not_lt.1 hp
          clear hp
          cases kn
          · go_wp2_with fail
            refine (HAS.out _).mono ?_; rintro _ w2 ⟨rfl, hb2⟩
            have HB2 := hide ((HBA.out _).trans (hb2.mono (HBA.out _).size))
            have hbb := (hb2.block wr.heap.size (by simp)).trans (heap_alloc_new wr _)
            have hz2 : wr.heap.size < w2.heap.size := (Array.getElem?_eq_some_iff.1 hbb).1
            have f1 := cell_of_row w2 _ 1 _ _ _ hbb
            have f2 := cell_of_row w2 _ 2 _ _ _ hbb
            have HM2 := hide (HM1.out.kept (only_below hb2 none) (by simp))
            clear hb2 hbb
            rw [HP.out] at HX
            clear HLK'
            go_wp2
            go_roundw
            case rel => exact ⟨k + 1, _, _, by omega, by go_num, rfl, HX, HB2.out, HM2⟩
            case measure => simp [intOf]; omega
          · have h4 : (zs != wy) = false := by simpa using h3
            clear h3
            go_wp2_with fail
            refine (HAS.out _).mono ?_; rintro _ w2 ⟨rfl, hb2⟩
            have HB2 := hide ((HBA.out _).trans (hb2.mono (HBA.out _).size))
            have hbb := (hb2.block wr.heap.size (by simp)).trans (heap_alloc_new wr _)
            have hz2 : wr.heap.size < w2.heap.size := (Array.getElem?_eq_some_iff.1 hbb).1
            have f1 := cell_of_row w2 _ 1 _ _ _ hbb
            have f2 := cell_of_row w2 _ 2 _ _ _ hbb
            have HM2 := hide (HM1.out.kept (only_below hb2 none) (by simp))
            clear hb2 hbb
            rw [HP.out] at HX
            clear HLK'
            go_wp2
            go_roundw
            case rel => exact ⟨k + 1, _, _, by omega, by go_num, rfl, HX, HB2.out, HM2⟩
            case measure => simp [intOf]; omega
    · obtain rfl : k = ts.length := by omega
      have hL := Mw.run_len HM.out Tryz.underlying100 3
      have HX := hide (HE.out.trans (rlF_end (Nat.le_refl _) m g))
      rw [show (lvL m).length = m.length by simp [lvL]] at hL
      generalize m.length = q at *
      clear hb
      go_wp2_with (simp only [hL])
      go_ret
      exact ⟨ret_bool HX.out.symm, HB.out⟩
end Go.Proofs.YtajcegofflmoeaaGreatDoor

namespace Go.Proofs.YtajcegofflmoeaaGreatDoor
set_option maxRecDepth 100000
open Go.RowKit

def isT (z : Int) : Bool := decide (0 ≤ z)
def noHas (G : Gm.Gr) (z : Int) : Bool := !Gm.has G z

set_option maxHeartbeats 2000000 in
theorem index_term (A : Option Addr) (c B : Nat) (l : List Int) (w : World) (hr : RdI w B A l) (hB : B ≤ w.heap.size) (hlen : (l.length : Int) ≤ 9223372036854775807) :
    Calls Tryz.prog 90 #[.slice A l.length c, .func (Fn.func 109) #[] #[]] w fun e w' => ∃ n : Int, e = .returned (.int .i64 n) ∧ decide (0 ≤ n) = l.any isT ∧ Below w.heap.size w w' := by
  have HT := hide hr
  have HB0 := hide (Below.refl w.heap.size w)
  clear hr
  go_enter Tryz.func90, Tryz.ntmps90
  go_wp2
  go_loopw [8] (fun vi wr => ∃ (k : Nat), k ≤ l.length ∧ vi = .int .i64 k ∧ Hid (AllK l (fun z => !isT z) k) ∧ Below w.heap.size w wr) (fun vi _ => l.length - (intOf vi).toNat)
  case atStart => exact ⟨0, Nat.zero_le _, rfl, hide (AllK.zero _ _), HB0.out⟩
  case round =>
    obtain ⟨k, hk, rfl, HA, hb⟩ := hrel
    have HB := hide hb
    by_cases hlt : k < l.length
    · obtain ⟨g, o, rfl, hgb, hc⟩ := HT.out (by omega)
      have k0 := (hb.cell (p := ⟨g, o + k, none⟩) (Nat.lt_of_lt_of_le hgb hB)).trans (hc k hlt)
      rw [L.gd_lt hlt] at k0
      have HC := hide (fun (x : World) (_ : Below w.heap.size w x) => (isTerm_any l[k] x).mono (fun e w' h => ⟨h.1, by rw [h.2]; exact Below.refl _ _⟩ : ∀ e w', _ → (e = .returned (.bool (isT l[k])) ∧ Below x.heap.size x w')))
      have HN := hide (fun h => HA.out.next hlt h)
      have HY := hide (fun (h : isT l[k] = true) => (List.any_eq_true.2 ⟨_, List.getElem_mem hlt, h⟩ : l.any isT = true))
      clear hb hc
      obtain ⟨z, qz⟩ : ∃ z, z = l[k] := ⟨_, rfl⟩
      rw [← qz] at k0 HC HN HY
      clear qz
      cases q : isT z
      · have HX := hide (HN.out (by simp only [q]; rfl))
        rw [q] at HC
        clear q HN HY
        go_wp2_with fail
        refine (HC.out _ HB.out).mono ?_; rintro _ w2 ⟨rfl, hb2⟩
        have HB2 := hide (HB.out.trans (hb2.mono HB.out.size))
        clear hb2
        go_wp2
        go_roundw
        case rel => exact ⟨k + 1, by omega, by go_num, HX, HB2.out⟩
        case measure => simp [intOf]; omega
      · have HX := hide (HY.out q)
        rw [q] at HC
        clear q HN HY
        go_wp2_with fail
        refine (HC.out _ HB.out).mono ?_; rintro _ w2 ⟨rfl, hb2⟩
        have HB2 := hide (HB.out.trans (hb2.mono HB.out.size))
        clear hb2
        go_wp2
        go_ret
        exact ⟨k, rfl, by rw [HX.out]; simp, HB2.out⟩
    · obtain rfl : k = l.length := by omega
      have HX : Hid (l.any isT = false) := hide (by
        rw [List.any_eq_false]
        intro z hz
        obtain ⟨i, hi, rfl⟩ := List.getElem_of_mem hz
        have := HA.out i hi hi
        simpa using this)
      clear hb
      go_wp2
      go_ret
      exact ⟨-1, rfl, by rw [HX.out]; rfl, HB.out⟩

theorem contains_term (A : Option Addr) (c B : Nat) (l : List Int) (w : World) (hr : RdI w B A l) (hB : B ≤ w.heap.size) (hlen : (l.length : Int) ≤ 9223372036854775807) :
    Calls Tryz.prog 54 #[.slice A l.length c, .func (Fn.func 109) #[] #[]] w fun e w' => e = .returned (.bool (l.any isT)) ∧ Below w.heap.size w w' := by
  have HI := hide (index_term A c B l w hr hB hlen)
  clear hr hlen
  go_enter Tryz.func54, Tryz.ntmps54
  go_wp2_with fail
  refine HI.out.mono ?_; rintro _ w2 ⟨n, rfl, hn, hb⟩
  have HN := hide hn
  have HB := hide hb
  clear hn hb
  go_wp2
  go_ret
  exact ⟨ret_bool HN.out, HB.out⟩

theorem hasNot_any (v : Value) (G : Gm.Gr) (B gb : Nat) (z : Int) (a : Array Value) (hv : v = .agg a) (hz : Gm.In z) (w : World) (hg : RdGr w B v G) (hb : w.heap[gb]? = some (.cells a 26 (0, 0))) :
    Calls Tryz.prog 107 #[.int .i64 z, .pointer (some ⟨gb, 0, none⟩)] w fun e w' => e = .returned (.bool (noHas G z)) ∧ Below w.heap.size w w' := by
  have HH := hide (has_any v G B z hz w hg)
  obtain ⟨AT, cT, AN, cN, AR, cR, rfl, _⟩ := hg
  injection hv with hv
  subst hv
  have c0 := cell_of_row w gb 0 _ _ _ hb
  have c1 := cell_of_row w gb 1 _ _ _ hb
  have c2 := cell_of_row w gb 2 _ _ _ hb
  have c3 := cell_of_row w gb 3 _ _ _ hb
  clear hb hz
  go_enter Tryz.func107, Tryz.ntmps107
  go_wp2_with fail
  refine HH.out.mono ?_; rintro _ w2 ⟨rfl, hb⟩
  have HB := hide hb
  clear hb
  go_wp2
  go_ret
  exact ⟨rfl, HB.out⟩

set_option maxHeartbeats 2000000 in
theorem index_has (A : Option Addr) (c B : Nat) (l : List Int) (w : World) (G : Gm.Gr) (gb B2 : Nat) (a : Array Value) (hin : ∀ z ∈ l, Gm.In z) (hg : ∀ x : World, Below w.heap.size w x → RdGr x B2 (.agg a) G) (hgb : ∀ x : World, Below w.heap.size w x → x.heap[gb]? = some (.cells a 26 (0, 0))) (hr : RdI w B A l) (hB : B ≤ w.heap.size) (hlen : (l.length : Int) ≤ 9223372036854775807) :
    Calls Tryz.prog 90 #[.slice A l.length c, .func (Fn.func 107) #[] #[.pointer (some ⟨gb, 0, none⟩)]] w fun e w' => ∃ n : Int, e = .returned (.int .i64 n) ∧ decide (0 ≤ n) = l.any (noHas G) ∧ Below w.heap.size w w' := by
  have HT := hide hr
  have HB0 := hide (Below.refl w.heap.size w)
  have HIN := hide hin
  have HG := hide hg
  have HGB := hide hgb
  clear hin hg hgb
  clear hr
  go_enter Tryz.func90, Tryz.ntmps90
  go_wp2
  go_loopw [8] (fun vi wr => ∃ (k : Nat), k ≤ l.length ∧ vi = .int .i64 k ∧ Hid (AllK l (fun z => !(noHas G) z) k) ∧ Below w.heap.size w wr) (fun vi _ => l.length - (intOf vi).toNat)
  case atStart => exact ⟨0, Nat.zero_le _, rfl, hide (AllK.zero _ _), HB0.out⟩
  case round =>
    obtain ⟨k, hk, rfl, HA, hb⟩ := hrel
    have HB := hide hb
    by_cases hlt : k < l.length
    · obtain ⟨g, o, rfl, hgb, hc⟩ := HT.out (by omega)
      have k0 := (hb.cell (p := ⟨g, o + k, none⟩) (Nat.lt_of_lt_of_le hgb hB)).trans (hc k hlt)
      rw [L.gd_lt hlt] at k0
      have HC := hide (fun (x : World) (h : Below w.heap.size w x) => hasNot_any (.agg a) G B2 gb l[k] a rfl (HIN.out _ (List.getElem_mem hlt)) x (HG.out x h) (HGB.out x h))
      have HN := hide (fun h => HA.out.next hlt h)
      have HY := hide (fun (h : (noHas G) l[k] = true) => (List.any_eq_true.2 ⟨_, List.getElem_mem hlt, h⟩ : l.any (noHas G) = true))
      clear hb hc
      obtain ⟨z, qz⟩ : ∃ z, z = l[k] := ⟨_, rfl⟩
      rw [← qz] at k0 HC HN HY
      clear qz
      cases q : (noHas G) z
      · have HX := hide (HN.out (by simp only [q]; rfl))
        rw [q] at HC
        clear q HN HY
        go_wp2_with fail
        refine (HC.out _ HB.out).mono ?_; rintro _ w2 ⟨rfl, hb2⟩
        have HB2 := hide (HB.out.trans (hb2.mono HB.out.size))
        clear hb2
        go_wp2
        go_roundw
        case rel => exact ⟨k + 1, by omega, by go_num, HX, HB2.out⟩
        case measure => simp [intOf]; omega
      · have HX := hide (HY.out q)
        rw [q] at HC
        clear q HN HY
        go_wp2_with fail
        refine (HC.out _ HB.out).mono ?_; rintro _ w2 ⟨rfl, hb2⟩
        have HB2 := hide (HB.out.trans (hb2.mono HB.out.size))
        clear hb2
        go_wp2
        go_ret
        exact ⟨k, rfl, by rw [HX.out]; simp, HB2.out⟩
    · obtain rfl : k = l.length := by omega
      have HX : Hid (l.any (noHas G) = false) := hide (by
        rw [List.any_eq_false]
        intro z hz
        obtain ⟨i, hi, rfl⟩ := List.getElem_of_mem hz
        have := HA.out i hi hi
        simpa using this)
      clear hb
      go_wp2
      go_ret
      exact ⟨-1, rfl, by rw [HX.out]; rfl, HB.out⟩

theorem contains_has (A : Option Addr) (c B : Nat) (l : List Int) (w : World) (G : Gm.Gr) (gb B2 : Nat) (a : Array Value) (hin : ∀ z ∈ l, Gm.In z) (hg : ∀ x : World, Below w.heap.size w x → RdGr x B2 (.agg a) G) (hgb : ∀ x : World, Below w.heap.size w x → x.heap[gb]? = some (.cells a 26 (0, 0))) (hr : RdI w B A l) (hB : B ≤ w.heap.size) (hlen : (l.length : Int) ≤ 9223372036854775807) :
    Calls Tryz.prog 54 #[.slice A l.length c, .func (Fn.func 107) #[] #[.pointer (some ⟨gb, 0, none⟩)]] w fun e w' => e = .returned (.bool (l.any (noHas G))) ∧ Below w.heap.size w w' := by
  have HI := hide (index_has A c B l w G gb B2 a hin hg hgb hr hB hlen)
  clear hr hlen hin hg hgb
  go_enter Tryz.func54, Tryz.ntmps54
  go_wp2_with fail
  refine HI.out.mono ?_; rintro _ w2 ⟨n, rfl, hn, hb⟩
  have HN := hide hn
  have HB := hide hb
  clear hn hb
  go_wp2
  go_ret
  exact ⟨ret_bool HN.out, HB.out⟩
end Go.Proofs.YtajcegofflmoeaaGreatDoor

namespace Go.Proofs.YtajcegofflmoeaaGreatDoor
set_option maxRecDepth 100000
open Go.RowKit

def ruB (G : Gm.Gr) (x : Gm.Rl) : Bool := decide (x.r.length ≤ 6) && !x.r.any (noHas G) && (if x.p = -1 then !x.r.any isT else isT x.p && Gm.has G x.p)

set_option maxHeartbeats 4000000 in
theorem rightRule_any (v : Value) (G : Gm.Gr) (B : Nat) (x : Gm.Rl) (A : Option Addr) (c : Nat) (w : World) (hg : RdGr w B v G) (hr : RdI w B A x.r) (hx : ∀ z ∈ x.r, Gm.In z) (hp : Gm.In x.p) (hB : B ≤ w.heap.size) :
    Calls Tryz.prog 77 #[v, .agg #[.int .i64 x.l, .slice A x.r.length c, .int .i64 x.p]] w fun e w' => e = .returned (.bool (ruB G x)) ∧ Below w.heap.size w w' := by
  have HG := hide hg
  obtain ⟨AT, cT, AN, cN, AR, cR, rfl, _⟩ := hg
  have HB0 := hide ((One.start w #[.slice AT G.ts.length cT, .slice AN G.ns.length cN, .slice AR G.rs.length cR, .int .i64 G.st]).alloc (.cells #[.int .i64 x.l, .slice A x.r.length c, .int .i64 x.p] 51))
  have HK0 : Hid (((w.alloc (.cells #[.slice AT G.ts.length cT, .slice AN G.ns.length cN, .slice AR G.rs.length cR, .int .i64 G.st] 26)).alloc (.cells #[.int .i64 x.l, .slice A x.r.length c, .int .i64 x.p] 51)).heap[w.heap.size + 1]? = some (.cells #[.int .i64 x.l, .slice A x.r.length c, .int .i64 x.p] 51 (0, 0))) := hide (by
    have := heap_alloc_new (w.alloc (.cells #[.slice AT G.ts.length cT, .slice AN G.ns.length cN, .slice AR G.rs.length cR, .int .i64 G.st] 26)) (.cells #[.int .i64 x.l, .slice A x.r.length c, .int .i64 x.p] 51)
    simpa using this)
  by_cases h6 : 6 < x.r.length
  · have HX : Hid (ruB G x = false) := hide (by unfold ruB; rw [decide_eq_false (show ¬ x.r.length ≤ 6 by omega)]; rfl)
    rw [HX.out]
    clear hr hx hp
    go_enter Tryz.func77, Tryz.ntmps77
    go_wp2
    go_ret
    exact ⟨rfl, HB0.out.below⟩
  have HOB := hide (fun (y : World) (h : One w #[.slice AT G.ts.length cT, .slice AN G.ns.length cN, .slice AR G.rs.length cR, .int .i64 G.st] y) => (Below.block h w.heap.size (by omega)).trans (heap_alloc_new w _))
  have HCF := hide (fun (y : World) (h : One w #[.slice AT G.ts.length cT, .slice AN G.ns.length cN, .slice AR G.rs.length cR, .int .i64 G.st] y) => contains_has A c B x.r y G w.heap.size B _ hx (fun z hz => HG.out.below (h.on hz).below hB) (fun z hz => HOB.out _ (h.on hz)) (hr.keep fun g o hg => h.below.cell (p := ⟨g, o, none⟩) (Nat.lt_of_lt_of_le hg hB)) (Nat.le_trans hB h.below.size) (by omega))
  have HCT := hide (fun (y : World) (h : One w #[.slice AT G.ts.length cT, .slice AN G.ns.length cN, .slice AR G.rs.length cR, .int .i64 G.st] y) => contains_term A c B x.r y (hr.keep fun g o hg => h.below.cell (p := ⟨g, o, none⟩) (Nat.lt_of_lt_of_le hg hB)) (Nat.le_trans hB h.below.size) (by omega))
  have HIT := hide (fun y => isTerm_any x.p y)
  have HHS := hide (fun (y : World) (h : One w #[.slice AT G.ts.length cT, .slice AN G.ns.length cN, .slice AR G.rs.length cR, .int .i64 G.st] y) => has_any _ G B x.p hp y (HG.out.below h.below hB))
  have HRU : Hid (ruB G x = (!x.r.any (noHas G) && (if x.p = -1 then !x.r.any isT else isT x.p && Gm.has G x.p))) := hide (by unfold ruB; rw [decide_eq_true (show x.r.length ≤ 6 by omega)]; rfl)
  clear hr hx hp HG
  cases q1 : x.r.any (noHas G)
  case true =>
    have HX : Hid (ruB G x = false) := hide (by rw [HRU.out, q1]; rfl)
    rw [q1] at HCF
    rw [HX.out]
    clear q1 HRU
    go_enter Tryz.func77, Tryz.ntmps77
    go_wp2_with fail
    refine (HCF.out _ HB0.out).mono ?_; rintro _ w2 ⟨rfl, hb⟩
    have HB2 := hide (HB0.out.on hb)
    clear hb
    go_wp2
    go_ret
    exact ⟨rfl, HB2.out.below⟩
  rw [q1] at HCF
  have HR2 : Hid (ruB G x = (if x.p = -1 then !x.r.any isT else isT x.p && Gm.has G x.p)) := hide (by rw [HRU.out, q1]; rfl)
  clear q1 HRU
  by_cases h1 : x.p = -1
  · have HX := hide (HR2.out.trans (if_pos h1))
    have e1 : (x.p == -1) = true := beq_iff_eq.2 h1
    rw [HX.out]
    generalize x.r.any isT = b at *
    clear h1 HIT HHS HR2 HX
    go_enter Tryz.func77, Tryz.ntmps77
    go_wp2_with fail
    refine (HCF.out _ HB0.out).mono ?_; rintro _ w2 ⟨rfl, hb⟩
    have HB2 := hide (HB0.out.on hb)
    have hbb := (hb.block (w.heap.size + 1) (by simp)).trans HK0.out
    have d1 := cell_of_row w2 _ 1 _ _ _ hbb
    have d2 := cell_of_row w2 _ 2 _ _ _ hbb
    have hz : w.heap.size + 1 < w2.heap.size := (Array.getElem?_eq_some_iff.1 hbb).1
    clear hb hbb
    go_wp2_with fail
    refine (HCT.out _ HB2.out).mono ?_; rintro _ w3 ⟨rfl, hb⟩
    have HB3 := hide (HB2.out.on hb)
    clear hb
    go_wp2
    go_ret
    exact ⟨rfl, HB3.out.below⟩
  · have HX := hide (HR2.out.trans (if_neg h1))
    have e1 : (x.p == -1) = false := beq_eq_false_iff_ne.2 h1
    rw [HX.out]
    unfold isT
    clear h1 HCT HR2 HX
    cases q2 : decide (0 ≤ x.p)
    · rw [q2] at HIT
      clear q2 HHS
      go_enter Tryz.func77, Tryz.ntmps77
      go_wp2_with fail
      refine (HCF.out _ HB0.out).mono ?_; rintro _ w2 ⟨rfl, hb⟩
      have HB2 := hide (HB0.out.on hb)
      have hbb := (hb.block (w.heap.size + 1) (by simp)).trans HK0.out
      have d1 := cell_of_row w2 _ 1 _ _ _ hbb
      have d2 := cell_of_row w2 _ 2 _ _ _ hbb
      have hz : w.heap.size + 1 < w2.heap.size := (Array.getElem?_eq_some_iff.1 hbb).1
      clear hb hbb
      go_wp2_with fail
      refine (HIT.out _).mono ?_; rintro _ _ ⟨rfl, rfl⟩
      go_wp2
      go_ret
      exact ⟨rfl, HB2.out.below⟩
    · rw [q2] at HIT
      clear q2
      generalize Gm.has G x.p = b at *
      go_enter Tryz.func77, Tryz.ntmps77
      go_wp2_with fail
      refine (HCF.out _ HB0.out).mono ?_; rintro _ w2 ⟨rfl, hb⟩
      have HB2 := hide (HB0.out.on hb)
      have hbb := (hb.block (w.heap.size + 1) (by simp)).trans HK0.out
      have d1 := cell_of_row w2 _ 1 _ _ _ hbb
      have d2 := cell_of_row w2 _ 2 _ _ _ hbb
      have hz : w.heap.size + 1 < w2.heap.size := (Array.getElem?_eq_some_iff.1 hbb).1
      have q0 := HB2.out.c 0 _ rfl
      have q1 := HB2.out.c 1 _ rfl
      have q2 := HB2.out.c 2 _ rfl
      have q3 := HB2.out.c 3 _ rfl
      clear hb hbb
      go_wp2_with fail
      refine (HIT.out _).mono ?_; rintro _ w5 ⟨rfl, hw5⟩
      subst hw5
      go_wp2_with fail
      refine (HHS.out _ HB2.out).mono ?_; rintro _ w3 ⟨rfl, hb⟩
      have HB3 := hide (HB2.out.on hb)
      clear hb
      go_wp2
      go_ret
      exact ⟨ret_bool (by simp), HB3.out.below⟩

def rrF (G : Gm.Gr) : List Gm.Rl → Int → Bool
  | [], n => n == G.ns.length
  | x :: r, n => if x.l < 0 ∨ n < x.l ∨ ruB G x = false then false else rrF G r (max n (x.l + 1))
theorem rrF_drop {G : Gm.Gr} {rs : List Gm.Rl} {k : Nat} (h : k < rs.length) (n : Int) : rrF G (rs.drop k) n = if rs[k].l < 0 ∨ n < rs[k].l ∨ ruB G rs[k] = false then false else rrF G (rs.drop (k + 1)) (max n (rs[k].l + 1)) := by
  rw [List.drop_eq_getElem_cons h, rrF]
theorem rrF_end {G : Gm.Gr} {rs : List Gm.Rl} {k : Nat} (h : rs.length ≤ k) (n : Int) : rrF G (rs.drop k) n = (n == (G.ns.length : Int)) := by
  rw [List.drop_eq_nil_of_le h, rrF]

def rrB (G : Gm.Gr) : Bool := decide (G.rs.length ≤ 40) && rrF G G.rs 0
set_option maxHeartbeats 4000000 in
theorem rightRules_any (v : Value) (G : Gm.Gr) (B : Nat) (w : World) (hg : RdGr w B v G) (hf : Gm.Fit G) (hB : B ≤ w.heap.size) :
    Calls Tryz.prog 46 #[v] w fun e w' => e = .returned (.bool (rrB G)) ∧ Below w.heap.size w w' := by
  have HG := hide hg
  obtain ⟨AT, cT, AN, cN, AR, cR, rfl, ⟨hlT, hmT⟩, ⟨hlN, hmN⟩, ⟨hlR, hmR⟩, _, _, ht⟩ := hg
  have HT := hide ht
  have HF := hide hf
  have HS0 := hide (One.start w #[.slice AT G.ts.length cT, .slice AN G.ns.length cN, .slice AR G.rs.length cR, .int .i64 G.st])
  have hlenN : (G.ns.length : Int) ≤ 9223372036854775807 := by omega
  clear ht hf
  by_cases h40 : 40 < G.rs.length
  · have HX : Hid (rrB G = false) := hide (by unfold rrB; rw [decide_eq_false (show ¬ G.rs.length ≤ 40 by omega)]; rfl)
    rw [HX.out]
    go_enter Tryz.func46, Tryz.ntmps46
    go_wp2
    go_ret
    exact ⟨rfl, HS0.out.below⟩
  have HRR : Hid (rrB G = rrF G (G.rs.drop 0) 0) := hide (by unfold rrB; rw [decide_eq_true (show G.rs.length ≤ 40 by omega)]; rfl)
  go_enter Tryz.func46, Tryz.ntmps46
  go_wp2
  go_loopw [3, 13] (fun vt vi wr => ∃ (k : Nat) (z : Int), k ≤ G.rs.length ∧ vi = .int .i64 k ∧ vt = .int .i64 z ∧ (0 ≤ z ∧ z ≤ 100 + k) ∧ Hid (rrB G = rrF G (G.rs.drop k) z) ∧ One w #[.slice AT G.ts.length cT, .slice AN G.ns.length cN, .slice AR G.rs.length cR, .int .i64 G.st] wr) (fun _ vi _ => G.rs.length - (intOf vi).toNat)
  case atStart => exact ⟨0, 0, Nat.zero_le _, rfl, rfl, by omega, HRR, HS0.out⟩
  case round =>
    obtain ⟨k, z, hk, rfl, rfl, hzz, HE, hb⟩ := hrel
    have HB := hide hb
    have hz : w.heap.size < wr.heap.size := hb.size
    have hbw := hb.below
    have q0 := hb.c 0 _ rfl
    have q1 := hb.c 1 _ rfl
    have q2 := hb.c 2 _ rfl
    have q3 := hb.c 3 _ rfl
    clear hb
    by_cases hlt : k < G.rs.length
    · obtain ⟨g, o, rfl, hgb, hc⟩ := HT.out (by omega)
      obtain ⟨k0, ⟨A', c', k1, _, _, hri⟩, k2⟩ := hc k hlt
      have k0 := (hbw.cell (p := ⟨g, o + k * 3, none⟩) (Nat.lt_of_lt_of_le hgb hB)).trans k0
      have k1 := (hbw.cell (p := ⟨g, o + k * 3 + 1, none⟩) (Nat.lt_of_lt_of_le hgb hB)).trans k1
      have k2 := (hbw.cell (p := ⟨g, o + k * 3 + 2, none⟩) (Nat.lt_of_lt_of_le hgb hB)).trans k2
      have hgs : g < wr.heap.size := by omega
      have hft := HF.out.r _ (List.getElem_mem hlt)
      have HRU := hide (fun (y : World) (h : One w #[.slice AT G.ts.length cT, .slice AN G.ns.length cN, .slice (some ⟨g, o, none⟩) G.rs.length cR, .int .i64 G.st] y) => rightRule_any _ G B G.rs[k] A' c' y (HG.out.below h.below hB) (hri.keep fun g o hg => h.below.cell (p := ⟨g, o, none⟩) (Nat.lt_of_lt_of_le hg hB)) hft.2.2 hft.2.1 (Nat.le_trans hB h.below.size))
      have HN := hide (HE.out.trans (rrF_drop hlt z))
      have hil := hft.1
      unfold Gm.In at hil
      clear hc hbw hft hri
      generalize G.rs[k] = x at *
      by_cases c1 : x.l < 0
      · have HX : Hid (rrB G = false) := hide (HN.out.trans (if_pos (.inl c1)))
        go_wp2
        go_ret
        exact ⟨ret_bool HX.out.symm, (HB.out.alloc _).below⟩
      have c1' := Int.not_lt.1 c1
      by_cases c2 : z < x.l
      · have HX : Hid (rrB G = false) := hide (HN.out.trans (if_pos (.inr (.inl c2))))
        go_wp2
        go_ret
        exact ⟨ret_bool HX.out.symm, (HB.out.alloc _).below⟩
      have c2' := Int.not_lt.1 c2
      cases c3 : ruB G x
      · have HX : Hid (rrB G = false) := hide (HN.out.trans (if_pos (.inr (.inr c3))))
        rw [c3] at HRU
        clear c3 c1 c2
        go_wp2_with fail
        refine (HRU.out _ (HB.out.alloc _)).mono ?_; rintro _ w4 ⟨rfl, hb4⟩
        have HB4 := hide ((HB.out.alloc _).on hb4)
        clear hb4
        go_wp2
        go_ret
        exact ⟨ret_bool HX.out.symm, HB4.out.below⟩
      · have HX := hide (HN.out.trans (if_neg (by rw [c3]; simp; omega)))
        rw [c3] at HRU
        clear c3 c1 c2
        go_wp2_with fail
        refine (HRU.out _ (HB.out.alloc _)).mono ?_; rintro _ w4 ⟨rfl, hb4⟩
        have HB4 := hide ((HB.out.alloc _).on hb4)
        have hbb := (hb4.block wr.heap.size (by simp)).trans (heap_alloc_new wr _)
        have hz4 : wr.heap.size < w4.heap.size := (Array.getElem?_eq_some_iff.1 hbb).1
        have f0 := cell_of_row w4 _ 0 _ _ _ hbb
        clear hb4 hbb
        go_wp2
        go_roundw
        case rel => exact ⟨k + 1, max z (x.l + 1), by omega, by go_num, rfl, by omega, HX, HB4.out⟩
        case measure => simp [intOf]; omega
    · obtain rfl : k = G.rs.length := by omega
      have HX := hide (HE.out.trans (rrF_end (Nat.le_refl _) z))
      clear hbw
      go_wp2
      go_ret
      exact ⟨ret_bool HX.out.symm, HB.out.below⟩

def cfgRight (G : Gm.Gr) : Bool := rnB G && rlF G.ts [] 0 && rrB G && decide (0 ≤ G.st) && decide (G.st < G.ns.length)
set_option maxHeartbeats 4000000 in
theorem gright_raw (v : Value) (G : Gm.Gr) (B : Nat) (w : World) (hg : RdGr w B v G) (hf : Gm.Fit G) (hB : B ≤ w.heap.size) :
    Calls Tryz.prog 26 #[v] w fun e w' => e = .returned (.bool (cfgRight G)) ∧ Below w.heap.size w w' := by
  have HG := hide hg
  have HF := hide hf
  obtain ⟨AT, cT, AN, cN, AR, cR, rfl, ⟨hlT, hmT⟩, ⟨hlN, hmN⟩, ⟨hlR, hmR⟩, htm, _, _⟩ := hg
  have HS0 := hide (One.start w #[.slice AT G.ts.length cT, .slice AN G.ns.length cN, .slice AR G.rs.length cR, .int .i64 G.st])
  have H1 := hide (fun (x : World) (h : One w #[.slice AT G.ts.length cT, .slice AN G.ns.length cN, .slice AR G.rs.length cR, .int .i64 G.st] x) => rightNames_any _ G B x (HG.out.below h.below hB) HF.out (Nat.le_trans hB h.below.size))
  have H2 := hide (fun (x : World) (h : One w #[.slice AT G.ts.length cT, .slice AN G.ns.length cN, .slice AR G.rs.length cR, .int .i64 G.st] x) => rightLevels_any AT cT B G.ts x (htm.keep fun g o hg => h.below.cell (p := ⟨g, o, none⟩) (Nat.lt_of_lt_of_le hg hB)) HF.out.t (Nat.le_trans hB h.below.size) (by omega))
  have H3 := hide (fun (x : World) (h : One w #[.slice AT G.ts.length cT, .slice AN G.ns.length cN, .slice AR G.rs.length cR, .int .i64 G.st] x) => rightRules_any _ G B x (HG.out.below h.below hB) HF.out (Nat.le_trans hB h.below.size))
  have hlenN : (G.ns.length : Int) ≤ 9223372036854775807 := by omega
  unfold cfgRight
  clear hf htm HG HF hlT hmT hlN hmN hlR hmR hB
  cases p1 : rnB G
  · rw [p1] at H1
    clear p1 H2 H3
    go_enter Tryz.func26, Tryz.ntmps26
    go_wp2_with fail
    refine (H1.out _ HS0.out).mono ?_; rintro _ w2 ⟨rfl, hb⟩
    have HB2 := hide (HS0.out.on hb)
    clear hb
    go_wp2
    go_ret
    exact ⟨rfl, HB2.out.below⟩
  rw [p1] at H1
  clear p1
  cases p2 : rlF G.ts [] 0
  · rw [p2] at H2
    clear p2 H3
    go_enter Tryz.func26, Tryz.ntmps26
    go_wp2_with fail
    refine (H1.out _ HS0.out).mono ?_; rintro _ w2 ⟨rfl, hb⟩
    have HB2 := hide (HS0.out.on hb)
    have q0 := HB2.out.c 0 _ rfl
    have z2 : w.heap.size < w2.heap.size := HB2.out.size
    clear hb
    go_wp2_with fail
    refine (H2.out _ HB2.out).mono ?_; rintro _ w3 ⟨rfl, hb⟩
    have HB3 := hide (HB2.out.on hb)
    clear hb
    go_wp2
    go_ret
    exact ⟨rfl, HB3.out.below⟩
  rw [p2] at H2
  clear p2
  cases p3 : rrB G
  · rw [p3] at H3
    clear p3
    go_enter Tryz.func26, Tryz.ntmps26
    go_wp2_with fail
    refine (H1.out _ HS0.out).mono ?_; rintro _ w2 ⟨rfl, hb⟩
    have HB2 := hide (HS0.out.on hb)
    have q0 := HB2.out.c 0 _ rfl
    have z2 : w.heap.size < w2.heap.size := HB2.out.size
    clear hb
    go_wp2_with fail
    refine (H2.out _ HB2.out).mono ?_; rintro _ w3 ⟨rfl, hb⟩
    have HB3 := hide (HB2.out.on hb)
    have r0 := HB3.out.c 0 _ rfl
    have r1 := HB3.out.c 1 _ rfl
    have r2 := HB3.out.c 2 _ rfl
    have r3 := HB3.out.c 3 _ rfl
    have z3 : w.heap.size < w3.heap.size := HB3.out.size
    clear hb
    go_wp2_with fail
    refine (H3.out _ HB3.out).mono ?_; rintro _ w4 ⟨rfl, hb⟩
    have HB4 := hide (HB3.out.on hb)
    clear hb
    go_wp2
    go_ret
    exact ⟨rfl, HB4.out.below⟩
  rw [p3] at H3
  clear p3
  by_cases h4 : 0 ≤ G.st
  · rw [decide_eq_true h4]
    go_enter Tryz.func26, Tryz.ntmps26
    go_wp2_with fail
    refine (H1.out _ HS0.out).mono ?_; rintro _ w2 ⟨rfl, hb⟩
    have HB2 := hide (HS0.out.on hb)
    have q0 := HB2.out.c 0 _ rfl
    have z2 : w.heap.size < w2.heap.size := HB2.out.size
    clear hb
    go_wp2_with fail
    refine (H2.out _ HB2.out).mono ?_; rintro _ w3 ⟨rfl, hb⟩
    have HB3 := hide (HB2.out.on hb)
    have r0 := HB3.out.c 0 _ rfl
    have r1 := HB3.out.c 1 _ rfl
    have r2 := HB3.out.c 2 _ rfl
    have r3 := HB3.out.c 3 _ rfl
    have z3 : w.heap.size < w3.heap.size := HB3.out.size
    clear hb
    go_wp2_with fail
    refine (H3.out _ HB3.out).mono ?_; rintro _ w4 ⟨rfl, hb⟩
    have HB4 := hide (HB3.out.on hb)
    have s1 := HB4.out.c 1 _ rfl
    have s3 := HB4.out.c 3 _ rfl
    have z4 : w.heap.size < w4.heap.size := HB4.out.size
    clear hb
    go_wp2
    go_ret
    exact ⟨ret_bool (by simp), HB4.out.below⟩
  · rw [decide_eq_false h4]
    have h4' := Int.not_le.1 h4
    clear h4
    go_enter Tryz.func26, Tryz.ntmps26
    go_wp2_with fail
    refine (H1.out _ HS0.out).mono ?_; rintro _ w2 ⟨rfl, hb⟩
    have HB2 := hide (HS0.out.on hb)
    have q0 := HB2.out.c 0 _ rfl
    have z2 : w.heap.size < w2.heap.size := HB2.out.size
    clear hb
    go_wp2_with fail
    refine (H2.out _ HB2.out).mono ?_; rintro _ w3 ⟨rfl, hb⟩
    have HB3 := hide (HB2.out.on hb)
    have r0 := HB3.out.c 0 _ rfl
    have r1 := HB3.out.c 1 _ rfl
    have r2 := HB3.out.c 2 _ rfl
    have r3 := HB3.out.c 3 _ rfl
    have z3 : w.heap.size < w3.heap.size := HB3.out.size
    clear hb
    go_wp2_with fail
    refine (H3.out _ HB3.out).mono ?_; rintro _ w4 ⟨rfl, hb⟩
    have HB4 := hide (HB3.out.on hb)
    have s1 := HB4.out.c 1 _ rfl
    have s3 := HB4.out.c 3 _ rfl
    have z4 : w.heap.size < w4.heap.size := HB4.out.size
    clear hb
    go_wp2
    go_ret
    exact ⟨rfl, HB4.out.below⟩
end Go.Proofs.YtajcegofflmoeaaGreatDoor

namespace Go.Proofs.YtajcegofflmoeaaGreatDoor
set_option maxRecDepth 100000
open Go.RowKit

def dropA (A : Option Addr) (c k : Nat) : Option Addr := if c = k then A else A.map fun x => x.add k
theorem RdB.dropA {w : World} {B c : Nat} {A : Option Addr} {l : List Int} (h : RdB w B A l) (hc : l.length ≤ c) (k : Nat) : RdB w B (dropA A c k) (l.drop k) := by
  intro hn
  rw [List.length_drop] at hn
  obtain ⟨g, o, rfl, hg, hcl⟩ := h (by omega)
  refine ⟨g, o + k, ?_, hg, fun j hj => ?_⟩
  · have e : ((⟨g, o, none⟩ : Addr).add k) = ⟨g, o + k, none⟩ := by unfold Addr.add; by_cases h0 : k = 0 <;> simp [h0]
    unfold Go.Proofs.YtajcegofflmoeaaGreatDoor.dropA
    rw [if_neg (by omega), Option.map_some, e]
  · rw [List.length_drop] at hj
    rw [show o + k + j = o + (k + j) by omega, hcl (k + j) (by omega), L.gd_lt (by omega : k + j < l.length), L.gd_lt (by rw [List.length_drop]; exact hj), List.getElem_drop]
def quoV (r : Option Nat) : Value := match r with | none => .tuple #[.int .i64 0, .int .i64 4] | some m => .tuple #[.int .i64 ((m + 1 : Nat) : Int), .int .i64 0]

end Go.Proofs.YtajcegofflmoeaaGreatDoor

namespace Go.Proofs.YtajcegofflmoeaaGreatDoor
set_option maxRecDepth 100000
open Go.RowKit

theorem slice_to (w : World) (A : Option Addr) (c n j : Nat) (h2 : j ≤ c) : (Instr.sliceAt 49 (.slice A n c) none (some (.int .i64 j)) none).run Tryz.prog w = .ok (.slice A j c) w := by
  rw [run_sliceAt_slice _ _ _ _ _ _ (by kernel_rfl), run_slice_h _ _ _ _ _ (by kernel_rfl) .i64 (j : Int) (by omega) (by omega)]
  have hs : (sizeOf (Tryz.prog.elem 49)).run Tryz.prog w = .ok 1 w := by kernel_rfl
  rw [hs]
  have e : ∀ A : Option Addr, A.map (fun x => x.add 0) = A := fun A => by
    cases A with
    | none => rfl
    | some x => simp [Addr.add]
  simp [Result.andThen, sliced, e]
end Go.Proofs.YtajcegofflmoeaaGreatDoor

namespace Go.Proofs.YtajcegofflmoeaaGreatDoor.Fl
open Ieee

def fl (n : Int) : Nat := floatOfInt .f64 n

def St (d : Datum) (n k : Nat) : Prop := d = .number false (n * 2 ^ k) (-(k : Int))

theorem lp : double.leastPlace = -1074 := by decide
theorem fb : double.fractionBits = 52 := rfl

end Go.Proofs.YtajcegofflmoeaaGreatDoor.Fl

namespace Go.Proofs.YtajcegofflmoeaaGreatDoor
set_option maxRecDepth 100000
open Go.RowKit

def pl (l c : Int) : Value := .complex .f64 (Fl.fl l) (Fl.fl c)
def okN (n : Int) : Prop := 1 ≤ n ∧ n ≤ 1073741824

def befP (l c m d : Int) : Bool := decide (l < m) || (decide (l = m) && decide (c < d))

theorem rof_yes (l c : Int) (w : World) (hl : okN l) (hc : okN c) :
    Calls Tryz.prog 115 #[.int .i64 l, .int .i64 c] w fun e w' => e = .returned (.complex .f64 (Fl.fl l) (Fl.fl c)) ∧ w = w' := by
  have C2 : ∀ n w, (convert 3 144 (.int .i64 n)).run Tryz.prog w = .ok (.float .f64 (Fl.fl n)) w := fun n w => run_convert_int_float w _ _ .i64 .f64 _ (by rw [Tryz.underlying3]; rfl) Tryz.underlying144
  obtain ⟨h1, h2⟩ := hl
  obtain ⟨h3, h4⟩ := hc
  go_enter Tryz.func115, Tryz.ntmps115
  go_wp2_with (simp only [C2])
  go_ret
  exact ⟨rfl, rfl⟩
end Go.Proofs.YtajcegofflmoeaaGreatDoor

namespace Go.Proofs.YtajcegofflmoeaaGreatDoor
set_option maxRecDepth 100000
open Go.RowKit

namespace Pl
def stp (p : Int × Int) (z : Int) : Int × Int := if z = 10 then (p.1 + 1, 1) else (p.1, p.2 + 1)
def pos (l : List Int) : Int × Int := l.foldl stp (1, 1)
theorem pos_snoc (l : List Int) (z : Int) : pos (l ++ [z]) = stp (pos l) z := by unfold pos; rw [List.foldl_append]; rfl
theorem pos_next (l : List Int) (k : Nat) (h : k < l.length) : pos (l.take (k + 1)) = stp (pos (l.take k)) (l.getD k 0) := by rw [L.take_snoc l k h, pos_snoc]
theorem pos_bd (l : List Int) (k : Nat) (h : k ≤ l.length) : 1 ≤ (pos (l.take k)).1 ∧ (pos (l.take k)).1 ≤ 1 + k ∧ 1 ≤ (pos (l.take k)).2 ∧ (pos (l.take k)).2 ≤ 1 + k := by
  induction k with
  | zero => simp [pos]
  | succ k ih =>
    have := ih (by omega)
    rw [pos_next l k (by omega)]
    unfold stp
    split <;> simp only <;> omega
theorem pos_lt (l : List Int) (i k : Nat) (h : i < k) (hk : k ≤ l.length) : befP (pos (l.take i)).1 (pos (l.take i)).2 (pos (l.take k)).1 (pos (l.take k)).2 = true := by
  induction k with
  | zero => omega
  | succ k ih =>
    rw [pos_next l k (by omega)]
    by_cases e : i = k
    · subst e
      unfold stp befP
      split <;> simp
      all_goals omega
    · have := ih (by omega) (by omega)
      unfold befP at this ⊢
      unfold stp
      simp only [Bool.or_eq_true, Bool.and_eq_true, decide_eq_true_eq] at this ⊢
      split <;> simp only <;> omega
end Pl

set_option maxHeartbeats 1000000 in
theorem rat_in (A : Option Addr) (c B : Nat) (l : List Int) (i : Nat) (w : World) (hr : RdB w B A l) (hn : l.length ≤ 2000) (hi : i ≤ l.length) :
    Calls Tryz.prog 96 #[.slice A l.length c, .int .i64 i] w fun e w' => e = .returned (.complex .f64 (Fl.fl (Pl.pos (l.take i)).1) (Fl.fl (Pl.pos (l.take i)).2)) ∧ w = w' := by
  have hi' : ¬ (l.length : Int) < i := by omega
  go_enter Tryz.func96, Tryz.ntmps96
  go_wp2
  go_loop [7, 5, 6] (fun vi vl vc => ∃ (k : Nat), k ≤ i ∧ vi = .int .i64 k ∧ vl = .int .i64 (Pl.pos (l.take k)).1 ∧ vc = .int .i64 (Pl.pos (l.take k)).2) (fun vi _ _ => i - (intOf vi).toNat)
  case atStart => exact ⟨0, by omega, rfl, rfl, rfl⟩
  case round =>
    obtain ⟨k, hk, rfl, rfl, rfl⟩ := hrel
    have hb := Pl.pos_bd l k (by omega)
    by_cases hlt : k < i
    · obtain ⟨g, o, rfl, _, hcl⟩ := hr (by omega)
      have hcell := hcl k (by omega)
      have hnx := hide (Pl.pos_next l k (by omega))
      have hkl : k < l.length := by omega
      generalize l.getD k 0 = z at *
      generalize Pl.pos (l.take k) = p at *
      obtain ⟨x, y⟩ := p
      simp only at hb
      obtain ⟨b1, b2, b3, b4⟩ := hb
      clear hcl
      by_cases h10 : z = 10
      · subst h10
        go_wp2
        go_round
        case rel => exact ⟨k + 1, by omega, by go_num, by rw [hnx.out]; rfl, by rw [hnx.out]; rfl⟩
        case measure => simp [intOf]; omega
      · have h11 : (z == 10) = false := by simpa using h10
        have HN := hide h10
        clear h10
        go_wp2
        go_round
        case rel => exact ⟨k + 1, by omega, by go_num, by rw [hnx.out]; unfold Pl.stp; rw [if_neg HN.out], by rw [hnx.out]; unfold Pl.stp; rw [if_neg HN.out]⟩
        case measure => simp [intOf]; omega
    · obtain rfl : k = i := by omega
      clear hr
      have HS := hide (fun w => rof_yes (Pl.pos (l.take k)).1 (Pl.pos (l.take k)).2 w (by unfold okN; omega) (by unfold okN; omega))
      clear hb
      go_wp2_with fail
      refine (HS.out _).mono ?_; rintro _ w' ⟨rfl, rfl⟩
      go_wp2
      go_ret
      exact ⟨rfl, rfl⟩
end Go.Proofs.YtajcegofflmoeaaGreatDoor

namespace Go.Proofs.YtajcegofflmoeaaGreatDoor
set_option maxRecDepth 100000
open Go.RowKit

namespace Pl
def go (p : Int × Int) (l : List Int) : Int × Int := l.foldl stp p
end Pl

theorem infoT : (Tryz.prog.info? 114).map (fun i => (i.zero, i.size, i.bytes)) = some (some (.agg #[.int .i64 0, .string ⟨#[]⟩, .complex .f64 0 0]), 3, 40) := by kernel_rfl

def ttext (k : Int) (l : List Int) : List Int := if k = 1 ∨ k = 2 then l else []

def tok0 : Obj := .cells #[.int .i64 0, .string ⟨#[]⟩, .complex .f64 0 0] 114

end Go.Proofs.YtajcegofflmoeaaGreatDoor

namespace Go.Proofs.YtajcegofflmoeaaGreatDoor
set_option maxRecDepth 100000
open Go.RowKit

structure Tok where
  k : Int
  t : List Int
  o : Nat
inductive Out where
  | ok : List Tok → Out
  | bad : Nat → Int → Out
def more (acc : List Tok) (k : Nat) (x : T.P3) (l : List Int) : List Tok := if x.1 = 0 then acc else acc ++ [⟨x.1, ttext x.1 (l.take x.2.1), k⟩]
def marksOn (m : Nat) (x : T.P3) : Nat := if x.1 = 9 then m + 1 else m
def scan : Nat → List Int → Nat → Nat → List Tok → Out
  | 0, _, _, _, acc => .ok acc
  | f + 1, l, k, m, acc => if l.length = 0 ∨ m = 2 then .ok acc else if (T.piece l).2.2 ≠ 0 then .bad k (T.piece l).2.2 else scan f (l.drop (T.piece l).2.1) (k + (T.piece l).2.1) (marksOn m (T.piece l)) (more acc k (T.piece l) l)
theorem scan_end (f : Nat) (l : List Int) (k m : Nat) (acc : List Tok) (h : l.length = 0 ∨ m = 2) : scan f l k m acc = .ok acc := by
  cases f with
  | zero => rfl
  | succ f => unfold scan; rw [if_pos h]
theorem scan_bad (f : Nat) (l : List Int) (k m : Nat) (acc : List Tok) (h : ¬ (l.length = 0 ∨ m = 2)) (hb : (T.piece l).2.2 ≠ 0) : scan (f + 1) l k m acc = .bad k (T.piece l).2.2 := by
  rw [scan, if_neg h, if_pos hb]
theorem scan_on (f : Nat) (l : List Int) (k m : Nat) (acc : List Tok) (h : ¬ (l.length = 0 ∨ m = 2)) (hb : (T.piece l).2.2 = 0) : scan (f + 1) l k m acc = scan f (l.drop (T.piece l).2.1) (k + (T.piece l).2.1) (marksOn m (T.piece l)) (more acc k (T.piece l) l) := by
  rw [scan, if_neg h, if_neg (by simpa using hb)]
def toks (l : List Int) : Out := scan (l.length + 1) l 0 0 []

def tcells (L : List Int) (x : Tok) : List Value := [.int .i64 x.k, .string (K.str x.t), .complex .f64 (Fl.fl (Pl.pos (L.take x.o)).1) (Fl.fl (Pl.pos (L.take x.o)).2)]
theorem tcells_at (L : List Int) (xs : List Tok) (i j : Nat) (hi : i < xs.length) (hj : j < 3) : (xs.flatMap (tcells L))[i * 3 + j]? = (tcells L xs[i])[j]? := by
  induction xs generalizing i with
  | nil => simp at hi
  | cons x r ih =>
    rw [List.flatMap_cons]
    have hl : (tcells L x).length = 3 := rfl
    cases i with
    | zero => rw [List.getElem?_append_left (by omega)]; simp
    | succ i =>
      rw [List.getElem?_append_right (by omega), hl, show (i + 1) * 3 + j - 3 = i * 3 + j by omega]
      simpa using ih i (by simpa using hi)

def OwnT (L : List Int) (w : World) (base : Nat) (v : Value) (xs : List Tok) : Prop := w.ownsRow base 114 3 v xs.length (xs.flatMap (tcells L))
theorem OwnT.nil (L : List Int) (w : World) (base : Nat) : OwnT L w base (.slice none 0 0) [] := World.ownsRow_nil w base _ _
theorem OwnT.alloc {L : List Int} {w : World} {base : Nat} {v : Value} {xs : List Tok} (h : OwnT L w base v xs) (o : Obj) : OwnT L (w.alloc o) base v xs := World.ownsRow.alloc h o
theorem OwnT.drewN {L : List Int} {w : World} {base : Nat} {v : Value} {xs : List Tok} (h : OwnT L w base v xs) (n : Nat) : OwnT L (w.drewN n) base v xs := h
theorem OwnT.below {L : List Int} {w w' : World} {base B : Nat} {v : Value} {xs : List Tok} (h : OwnT L w base v xs) (hb : Below B w w') (hB : w.heap.size ≤ B) : OwnT L w' base v xs := by
  refine ⟨h.1, ?_⟩
  rcases h.2 with h0 | ⟨g, cap, cur, e, hb1, hg, hr⟩
  · exact .inl h0
  · exact .inr ⟨g, cap, cur, e, hb1, (hb.block g (Nat.lt_of_lt_of_le (Array.getElem?_eq_some_iff.1 hg).1 hB)).trans hg, hr⟩
theorem OwnT.form {L : List Int} {w : World} {base : Nat} {v : Value} {xs : List Tok} (h : OwnT L w base v xs) : ∃ A c, v = .slice A xs.length c ∧ xs.length ≤ c ∧ c ≤ maxLen := by
  rcases h.2 with ⟨rfl, h0⟩ | ⟨g, cap, cur, rfl, hb, hg, hn, hm, hs, ht⟩
  · exact ⟨none, 0, by rw [h0], by omega, by unfold maxLen; omega⟩
  · exact ⟨_, cap, rfl, hn, hm⟩
theorem OwnT.addr {L : List Int} {w : World} {base : Nat} {v : Value} {xs : List Tok} (h : OwnT L w base v xs) (h0 : xs.length ≠ 0) : ∃ g c, v = .slice (some ⟨g, 0, none⟩) xs.length c ∧ xs.length ≤ c ∧ c ≤ maxLen ∧ base ≤ g ∧ g < w.heap.size ∧
    ∀ i j u, i < xs.length → j < 3 → (xs[i]?.map (tcells L)).bind (·[j]?) = some u → w.cell? ⟨g, i * 3 + j, none⟩ = some u := by
  rcases h.2 with ⟨_, h1⟩ | ⟨g, cap, cur, rfl, hb, hg, hn, hm, hs, ht⟩
  · exact absurd h1 h0
  · refine ⟨g, cap, rfl, hn, hm, hb, (Array.getElem?_eq_some_iff.1 hg).1, fun i j u hi hj hu => ?_⟩
    have hx : xs[i]? = some xs[i] := List.getElem?_eq_getElem hi
    rw [hx] at hu
    have hc := World.ownsRow.cells h (g := g) rfl (i * 3 + j) u (by rw [tcells_at L xs i j hi hj]; exact hu)
    rw [Go.WideShapes.add_plain, Nat.zero_add] at hc
    exact hc
theorem below_grownT {L : List Int} {B : Nat} {a w w' : World} {v : Value} {xs : List Tok} (h : Below B a w) (ho : OwnT L w B v xs) (hg : w.grownBy w' v.ownBlock) (hs : B ≤ w.heap.size) : Below B a w' :=
  h.grown hg hs (fun k e => (World.ownsRow.lt ho k e).1)

theorem apT_arm {w : World} {ops : Array Oper} {rest : List Oper} {o : Oper} {a : Act} {Q : Exit → Act → World → Prop}
    (hgd : o.guard = none) (s x : Operand) (t : TypeId) (ho : o.op = .call { callee := .builtin .append, args := #[s, x], argTypes := #[t, t] }) (ht : Tryz.prog.underlying t = some (.slice 114))
    (L : List Int) (base : Nat) (v : Value) (xs : List Tok) (hs : a.eval s = v) (hown : OwnT L w base v xs) (g c : Nat) (y : Tok) (hx : a.eval x = .slice (some ⟨g, 0, none⟩) 1 c) (hz : ∀ j u, (tcells L y)[j]? = some u → w.cell? ⟨g, j, none⟩ = some u)
    (hlen : xs.length ≤ 1000000) (hbase : base ≤ w.heap.size)
    (hK : ∀ v' w', OwnT L w' base v' (xs ++ [y]) → w.grownBy w' v.ownBlock → wpList Tryz.prog ops Q rest (a.put o.dst v') w') :
    wpList Tryz.prog ops Q (o :: rest) a w := by
  obtain ⟨i, hi, hz0, hz1, hz2⟩ := info_parts infoT
  refine wpList_append_own w hgd s x t ho base 114 i _ 3 40 ht hi hz0 hz1 hz2 rfl (by decide) v xs.length (xs.flatMap (tcells L)) hs hown ⟨g, 0, none⟩ 1 c (tcells L y) hx rfl ?_ ?_ (by unfold maxLen; omega) (by omega) hbase fun v' w' h1 h2 _ => hK v' w' ?_ h2
  · intro j u hj
    rw [Go.WideShapes.add_plain, Nat.zero_add]
    exact hz j u hj
  · intro u hu; simp [tcells] at hu; rcases hu with rfl | rfl | rfl <;> rfl
  · unfold OwnT
    rw [List.length_append, List.flatMap_append, List.flatMap_singleton]; exact h1
end Go.Proofs.YtajcegofflmoeaaGreatDoor

namespace Go.Proofs.YtajcegofflmoeaaGreatDoor
set_option maxRecDepth 100000

namespace Y
inductive Res (α : Type) where
  | ok : α → List Tok → Res α
  | bad : Option Tok → Res α
def Res.bind {α β : Type} (r : Res α) (f : α → List Tok → Res β) : Res β := match r with | .ok a l => f a l | .bad p => .bad p
theorem bind_ok {α β : Type} (a : α) (l : List Tok) (f : α → List Tok → Res β) : (Res.ok a l).bind f = f a l := rfl
structure Dcl where
  k : Int
  ns : List Tok
structure Prd where
  l : Tok
  r : List Tok
  p : Option Tok

def is (ks : List Int) : List Tok → Bool
  | [] => false
  | t :: _ => ks.contains t.k
def take (ks : List Int) : List Tok → Res Tok
  | [] => .bad none
  | t :: r => if ks.contains t.k then .ok t r else .bad (some t)
def isRef (t : Tok) : Bool := [(1 : Int), 2].contains t.k
def decl (ts : List Tok) : Res Dcl := (take [3, 4, 5, 6, 7] ts).bind fun t r => if t.k = 7 then (take [1] r).bind fun n r => .ok ⟨7, [n]⟩ r else (take [1, 2] r).bind fun n r => .ok ⟨t.k, n :: r.takeWhile isRef⟩ (r.dropWhile isRef)
def decls : Nat → List Dcl → List Tok → Res (List Dcl)
  | 0, acc, ts => .ok acc ts
  | f + 1, acc, ts => if is [9] ts then .ok acc ts else (decl ts).bind fun d r => decls f (acc ++ [d]) r
def rule2 (left : Tok) (rs r : List Tok) : Res Prd := if is [8] r then (take [8] r).bind fun _ r => (take [1, 2] r).bind fun p r => .ok ⟨left, rs, some p⟩ r else .ok ⟨left, rs, none⟩ r
def rule (left : Tok) (ts : List Tok) : Res Prd := rule2 left (ts.takeWhile isRef) (ts.dropWhile isRef)
def alts : Nat → Tok → List Prd → List Tok → Res (List Prd)
  | 0, _, acc, ts => .ok acc ts
  | f + 1, left, acc, ts => (rule left ts).bind fun p r => (take [11, 12] r).bind fun t r => if t.k = 11 then alts f left (acc ++ [p]) r else .ok (acc ++ [p]) r
def group (acc : List Prd) (ts : List Tok) : Res (List Prd) := (take [1] ts).bind fun left r => (take [10] r).bind fun _ r => alts (r.length + 1) left acc r
def groups : Nat → List Prd → List Tok → Res (List Prd)
  | 0, acc, ts => .ok acc ts
  | f + 1, acc, ts => if ts.length ≠ 0 ∧ is [9] ts = false then (group acc ts).bind fun ps r => groups f ps r else .ok acc ts
def tail2 (ts : List Tok) : Res Unit := if ts.length = 0 then .ok () ts else (take [] ts).bind fun _ r => .ok () r
def tail (ts : List Tok) : Res Unit := if is [9] ts then (take [9] ts).bind fun _ r => tail2 r else tail2 ts
def source (ts : List Tok) : Res (List Dcl × List Prd) := (decls (ts.length + 1) [] ts).bind fun ds r => (take [9] r).bind fun _ r => (group [] r).bind fun ps r => (groups (r.length + 1) ps r).bind fun ps r => (tail r).bind fun _ r => .ok (ds, ps) r

theorem take_cons (ks : List Int) (x : Tok) (xs : List Tok) : take ks (x :: xs) = if ks.contains x.k then .ok x xs else .bad (some x) := rfl
theorem take_ok {ks : List Int} {ts : List Tok} {t : Tok} {r : List Tok} (h : take ks ts = .ok t r) : ts = t :: r ∧ ks.contains t.k = true := by
  cases ts with
  | nil => cases h
  | cons x xs =>
    rw [take_cons] at h
    by_cases hx : ks.contains x.k = true
    · rw [if_pos hx] at h; injection h with h1 h2; subst h1 h2; exact ⟨rfl, hx⟩
    · rw [if_neg hx] at h; cases h
theorem is_true {ks : List Int} {ts : List Tok} (h : is ks ts = true) : ∃ t r, ts = t :: r ∧ take ks ts = .ok t r ∧ ks.contains t.k = true := by
  cases ts with
  | nil => cases h
  | cons x xs => exact ⟨x, xs, rfl, by rw [take_cons, if_pos (show ks.contains x.k = true from h)], h⟩
theorem refs_end {ts : List Tok} (h : is [1, 2] ts = false) : ts.takeWhile isRef = [] ∧ ts.dropWhile isRef = ts := by
  cases ts with
  | nil => exact ⟨rfl, rfl⟩
  | cons t r =>
    have h' : isRef t = false := h
    rw [List.takeWhile_cons, List.dropWhile_cons, h']
    exact ⟨rfl, rfl⟩
theorem bind_eq_ok {α β : Type} {x : Res α} {f : α → List Tok → Res β} {b : β} {r : List Tok} (h : x.bind f = .ok b r) : ∃ a m, x = .ok a m ∧ f a m = .ok b r := by
  cases x with
  | ok a m => exact ⟨a, m, rfl, h⟩
  | bad p => cases h

end Y
end Go.Proofs.YtajcegofflmoeaaGreatDoor

namespace Go.Proofs.YtajcegofflmoeaaGreatDoor
set_option maxRecDepth 100000

namespace Gm
inductive R (α : Type) where
  | ok : α → R α
  | bad : Tok → Int → R α
def R.bind {α β : Type} (r : R α) (f : α → R β) : R β := match r with | .ok a => f a | .bad x e => .bad x e
theorem R.bind_ok {α β : Type} (a : α) (f : α → R β) : (R.ok a).bind f = f a := rfl
theorem R.bind_eq {α β : Type} {x : R α} {f : α → R β} {b : β} (h : x.bind f = .ok b) : ∃ a, x = .ok a ∧ f a = .ok b := by
  cases x with
  | ok a => exact ⟨a, rfl, h⟩
  | bad x e => cases h
def put (ts : List Tm) (x : Tok) : R (List Tm × Int) :=
  if 0 ≤ find (names ts) x.t then .ok (ts, find (names ts) x.t) else if ts.length = 24 then .bad x 5 else .ok (ts ++ [⟨x.t, 0, 0⟩], ts.length)
structure S1 where
  ts : List Tm
  tk : List (List Int)
  st : Option Tok
  lv : Int
def decl1 (k : Int) (S : S1) (x : Tok) : R S1 :=
  if k = 7 then (if S.st.isSome then .bad x 7 else .ok { S with st := some x })
  else if k = 3 then (if x.t ∈ S.tk then .bad x 7 else (put S.ts x).bind fun p => .ok { S with ts := p.1, tk := S.tk ++ [x.t] })
  else if 0 ≤ find (names S.ts) x.t ∧ 0 < (S.ts.map Tm.lv).getD (find (names S.ts) x.t).toNat 0 then .bad x 7
  else (put S.ts x).bind fun p => .ok { S with ts := p.1.modify p.2.toNat fun t => ⟨t.nm, S.lv, k - 3⟩ }
def declN (k : Int) : S1 → List Tok → R S1
  | S, [] => .ok S
  | S, x :: r => (decl1 k S x).bind fun S => declN k S r
def up (k : Int) (S : S1) : S1 := if k = 3 ∨ k = 7 then S else { S with lv := S.lv + 1 }
def decls : S1 → List Y.Dcl → R S1
  | S, [] => .ok S
  | S, d :: r => (declN d.k (up d.k S) d.ns).bind fun S => decls S r
def left1 (ts : List Tm) (ns : List (List Int)) (x : Tok) : R (List (List Int)) :=
  if 0 ≤ find (names ts) x.t then .bad x 7 else if 0 ≤ find ns x.t then .ok ns else if ns.length = 16 then .bad x 5 else .ok (ns ++ [x.t])
def lefts (ts : List Tm) : List (List Int) → List Y.Prd → R (List (List Int))
  | ns, [] => .ok ns
  | ns, p :: r => (left1 ts ns p.l).bind fun ns => lefts ts ns r
def sym (ts : List Tm) (x : Tok) : R (List Tm × Int) :=
  if 0 ≤ find (names ts) x.t ∨ T.isLit x.t = true ∨ x.t = [101, 114, 114, 111, 114] then put ts x else .bad x 6
def symR (ns : List (List Int)) (ts : List Tm) (x : Tok) : R (List Tm × Int) := if 0 ≤ find ns x.t then .ok (ts, -1 - find ns x.t) else sym ts x
def symP (ns : List (List Int)) (ts : List Tm) (x : Tok) : R (List Tm × Int) := if 0 ≤ find ns x.t then .bad x 6 else sym ts x
def rights (ns : List (List Int)) : List Tm → List Int → Int → List Tok → R (List Tm × List Int × Int)
  | ts, acc, p, [] => .ok (ts, acc, p)
  | ts, acc, p, x :: r => if acc.length = 6 then .bad x 5 else (symR ns ts x).bind fun q => rights ns q.1 (acc ++ [q.2]) (if 0 ≤ q.2 then q.2 else p) r
def prod1 (ns : List (List Int)) (ts : List Tm) (rs : List Rl) (p : Y.Prd) : R (List Tm × List Rl) :=
  if rs.length = 40 then .bad p.l 5 else (rights ns ts [] (-1) p.r).bind fun q => match p.p with
    | none => .ok (q.1, rs ++ [⟨find ns p.l.t, q.2.1, q.2.2⟩])
    | some x => (symP ns q.1 x).bind fun y => .ok (y.1, rs ++ [⟨find ns p.l.t, q.2.1, y.2⟩])
def prods (ns : List (List Int)) : List Tm → List Rl → List Y.Prd → R (List Tm × List Rl)
  | ts, rs, [] => .ok (ts, rs)
  | ts, rs, p :: r => (prod1 ns ts rs p).bind fun q => prods ns q.1 q.2 r
def start (ns : List (List Int)) : Option Tok → R Int
  | none => .ok 0
  | some x => if 0 ≤ find ns x.t then .ok (find ns x.t) else .bad x 8
def build (ds : List Y.Dcl) (ps : List Y.Prd) : R Gr :=
  (decls ⟨[], [], none, 0⟩ ds).bind fun S => (lefts S.ts [] ps).bind fun ns => (prods ns S.ts [] ps).bind fun q => (start ns S.st).bind fun z => .ok ⟨q.1, ns, q.2, z⟩
end Gm
end Go.Proofs.YtajcegofflmoeaaGreatDoor

namespace Go.Proofs.YtajcegofflmoeaaGreatDoor
set_option maxRecDepth 100000

namespace Gm
theorem names_len (ts : List Tm) : (names ts).length = ts.length := by simp [names]
theorem put_ok {ts ts' : List Tm} {x : Tok} {n : Int} (h : put ts x = .ok (ts', n)) : (∃ j : Nat, find (names ts) x.t = (j : Int) ∧ ts' = ts ∧ n = (j : Int) ∧ ∃ hj : j < ts.length, (ts[j]).nm = x.t) ∨ (x.t ∉ names ts ∧ ts' = ts ++ [⟨x.t, 0, 0⟩] ∧ n = (ts.length : Int) ∧ ts.length ≠ 24) := by
  unfold put at h
  split at h
  · rename_i h0
    injection h with h
    injection h with h1 h2
    obtain ⟨i, e, hi, hs⟩ := find_some h0
    rw [names_len] at hi
    exact .inl ⟨i, e, h1.symm, by rw [← h2, e], hi, by simpa [names] using hs⟩
  · rename_i h0
    split at h
    · cases h
    · rename_i h24
      injection h with h
      injection h with h1 h2
      exact .inr ⟨find_none.1 (by omega), h1.symm, h2.symm, h24⟩
theorem mem_modify {l : List Tm} {n : Nat} {f : Tm → Tm} {t : Tm} (h : t ∈ l.modify n f) : t ∈ l ∨ ∃ hn : n < l.length, t = f l[n] := by
  obtain ⟨i, hi, rfl⟩ := List.getElem_of_mem h
  rw [List.length_modify] at hi
  rw [List.getElem_modify]
  split
  · rename_i e; subst e; exact .inr ⟨hi, rfl⟩
  · exact .inl (List.getElem_mem _)
theorem few : ∀ (L : Nat) (ts : List Tm), (∀ n : Nat, 1 ≤ n → n ≤ L → ∃ t ∈ ts, t.lv = (n : Int)) → L ≤ ts.length
  | 0, _, _ => Nat.zero_le _
  | L + 1, ts, h => by
    obtain ⟨t, ht, e⟩ := h (L + 1) (by omega) (by omega)
    obtain ⟨a, b, rfl⟩ := List.append_of_mem ht
    have := few L (a ++ b) (fun n h1 h2 => by
      obtain ⟨u, hu, eu⟩ := h n h1 (by omega)
      refine ⟨u, ?_, eu⟩
      simp only [List.mem_append, List.mem_cons] at hu ⊢
      rcases hu with q | q | q
      · exact .inl q
      · subst q; omega
      · exact .inr q)
    simp at this ⊢
    omega
theorem lev_true {n w : Int} (hw : w ≠ 0) : ∀ (ts : List Tm) (way : Int), (∀ t ∈ ts, t.lv = n → t.wy = w) → way = 0 ∨ way = w → way = w ∨ (∃ t ∈ ts, t.lv = n) → lev n ts way = true
  | [], way, _, _, h => by
    unfold lev
    rcases h with h | ⟨t, ht, _⟩
    · subst h; simpa using hw
    · simp at ht
  | t :: r, way, h1, h2, h3 => by
    rw [lev]
    by_cases hl : t.lv = n
    · have e := h1 t (List.mem_cons_self ..) hl
      rw [if_neg (show ¬ t.lv ≠ n from fun q => q hl), if_neg (show ¬ (way ≠ 0 ∧ way ≠ t.wy) from fun q => by rcases h2 with p | p; exact q.1 p; exact q.2 (p.trans e.symm))]
      exact lev_true hw r t.wy (fun u hu => h1 u (List.mem_cons_of_mem _ hu)) (.inr e) (.inl e)
    · rw [if_pos hl]
      refine lev_true hw r way (fun u hu => h1 u (List.mem_cons_of_mem _ hu)) h2 ?_
      rcases h3 with h3 | ⟨u, hu, eu⟩
      · exact .inl h3
      · rcases List.mem_cons.1 hu with q | q
        · subst q; exact absurd eu hl
        · exact .inr ⟨u, q, eu⟩
theorem find_self {l : List (List Int)} (hn : l.Nodup) (i : Nat) (hi : i < l.length) : find l l[i] = (i : Int) :=
  find_first i hi rfl fun k hk => fun e => List.pairwise_iff_getElem.1 hn k i (by omega) hi hk e
end Gm
end Go.Proofs.YtajcegofflmoeaaGreatDoor

namespace Go.Proofs.YtajcegofflmoeaaGreatDoor
set_option maxRecDepth 100000

namespace Gm
def tops (n : Nat) : List Int → Int → Bool
  | [], top => top == n - 1
  | l :: r, top => if l < 0 ∨ top + 1 < l then false else tops n r (if top < l then l else top)
theorem left1_ok {ts : List Tm} {ns ns' : List (List Int)} {x : Tok} (h : left1 ts ns x = .ok ns') : (ns' = ns ∧ 0 ≤ find ns x.t) ∨ (ns' = ns ++ [x.t] ∧ x.t ∉ ns ∧ x.t ∉ names ts ∧ ns.length ≠ 16) := by
  unfold left1 at h
  split at h
  · cases h
  · rename_i h1
    split at h
    · rename_i h2
      injection h with h
      exact .inl ⟨h.symm, h2⟩
    · rename_i h2
      split at h
      · cases h
      · rename_i h3
        injection h with h
        exact .inr ⟨h.symm, find_none.1 (by omega), find_none.1 (by omega), h3⟩
theorem rules_tops (G : Gr) : ∀ (rs : List Rl) (top : Int), (∀ r ∈ rs, rule G r = true) → tops G.ns.length (rs.map Rl.l) top = true → rules G rs top = true
  | [], _, _, h => h
  | r :: rs, top, hr, h => by
    rw [List.map_cons, tops] at h
    rw [rules]
    split at h
    · cases h
    · rename_i h1
      rw [if_neg (by rw [hr r (List.mem_cons_self ..)]; simp; omega)]
      exact rules_tops G rs _ (fun y hy => hr y (List.mem_cons_of_mem _ hy)) h

end Gm
end Go.Proofs.YtajcegofflmoeaaGreatDoor

namespace Go.Proofs.YtajcegofflmoeaaGreatDoor
set_option maxRecDepth 100000
open Go.RowKit

namespace Gm
theorem pigeons : ∀ (g : Nat) (l : List Int), l.Nodup → (∀ x ∈ l, 1 ≤ x ∧ x ≤ g) → l.length ≤ g ∧ (l.length = g → ∀ n : Nat, 1 ≤ n → n ≤ g → (n : Int) ∈ l)
  | 0, l, _, hb => by
    have : l = [] := by
      rcases l with _ | ⟨x, r⟩
      · rfl
      · have := hb x (by simp); omega
    subst this
    exact ⟨Nat.le_refl _, fun _ n h1 h2 => by omega⟩
  | g + 1, l, hn, hb => by
    by_cases hm : ((g + 1 : Nat) : Int) ∈ l
    · have hl := List.length_erase_of_mem hm
      have hpos : 0 < l.length := List.length_pos_of_mem hm
      obtain ⟨h1, h2⟩ := pigeons g (l.erase ((g + 1 : Nat) : Int)) (hn.erase _) (fun x hx => by
        have hx' := (hn.mem_erase_iff).1 hx
        have := hb x hx'.2
        have := hx'.1
        omega)
      refine ⟨by omega, fun e n q1 q2 => ?_⟩
      by_cases hg : n = g + 1
      · subst hg; exact hm
      · exact List.mem_of_mem_erase (h2 (by omega) n q1 (by omega))
    · obtain ⟨h1, _⟩ := pigeons g l hn (fun x hx => by
        have := hb x hx
        have : x ≠ ((g + 1 : Nat) : Int) := fun e => hm (e ▸ hx)
        omega)
      exact ⟨by omega, fun e => by omega⟩

structure LvGood (ts : List Tm) : Prop where
  a : ∀ t ∈ ts, asB t = true
  b : ∀ t ∈ ts, ∀ u ∈ ts, 0 < t.lv → t.lv = u.lv → t.wy = u.wy
  c : ∀ t ∈ ts, ∀ n : Nat, 1 ≤ n → (n : Int) ≤ t.lv → ∃ u ∈ ts, u.lv = (n : Int)
theorem asB_iff (t : Tm) : asB t = true ↔ 0 ≤ t.lv ∧ 0 ≤ t.wy ∧ t.wy ≤ 3 ∧ (t.lv = 0 ↔ t.wy = 0) := by
  unfold asB
  by_cases h0 : t.wy = 0
  · rw [if_pos h0]
    simp only [beq_iff_eq]
    omega
  · rw [if_neg h0]
    by_cases h1 : t.wy = 1 ∨ t.wy = 2 ∨ t.wy = 3
    · rw [if_pos h1]
      simp only [decide_eq_true_eq]
      omega
    · rw [if_neg h1]
      simp only [Bool.false_eq_true, false_iff]
      omega
structure Inv (pre : List Tm) (m : List (Int × Int)) (g : Int) : Prop where
  n : (m.map Prod.fst).Nodup
  f : ∀ t ∈ pre, 0 < t.lv → Mw.asc m t.lv = some t.wy
  r : ∀ l w, Mw.asc m l = some w → 0 < l ∧ ∃ t ∈ pre, t.lv = l ∧ t.wy = w
  a : ∀ t ∈ pre, asB t = true
  g0 : 0 ≤ g
  g1 : ∀ t ∈ pre, t.lv ≤ g
  g2 : g = 0 ∨ ∃ t ∈ pre, t.lv = g
theorem Inv.nil : Inv [] [] 0 := ⟨by simp, by simp, fun _ _ h => by simp [Mw.asc] at h, by simp, Int.le_refl _, by simp, .inl rfl⟩
theorem Inv.key {pre : List Tm} {m : List (Int × Int)} {g : Int} (h : Inv pre m g) {x : Int} (hx : x ∈ m.map Prod.fst) : ∃ w, Mw.asc m x = some w := by
  obtain ⟨p, hp, rfl⟩ := List.mem_map.1 hx
  exact ⟨p.2, Mw.asc_of_mem h.n hp⟩
theorem Inv.next {pre : List Tm} {m : List (Int × Int)} {g : Int} {t : Tm} (h : Inv pre m g) (ha : asB t = true) (hc : ¬ ((Mw.asc m t.lv).isSome = true ∧ (Mw.asc m t.lv).getD 0 ≠ t.wy)) : Inv (pre ++ [t]) (lvPut m t) (max g t.lv) := by
  have hl := ((asB_iff t).1 ha).1
  have hmem : ∀ u, u ∈ pre ++ [t] ↔ u ∈ pre ∨ u = t := fun u => by simp
  have hg0 := h.g0
  have hgg : 0 ≤ max g t.lv ∧ (∀ u ∈ pre ++ [t], u.lv ≤ max g t.lv) ∧ (max g t.lv = 0 ∨ ∃ u ∈ pre ++ [t], u.lv = max g t.lv) := by
    refine ⟨by omega, fun u hu => ?_, ?_⟩
    · rcases (hmem u).1 hu with q | rfl
      · have := h.g1 u q; omega
      · omega
    · by_cases hgt : g ≤ t.lv
      · exact .inr ⟨t, (hmem t).2 (.inr rfl), by omega⟩
      · rcases h.g2 with q | ⟨u, hu, e⟩
        · omega
        · exact .inr ⟨u, (hmem u).2 (.inl hu), by omega⟩
  have haa : ∀ u ∈ pre ++ [t], asB u = true := fun u hu => by
    rcases (hmem u).1 hu with q | rfl
    · exact h.a u q
    · exact ha
  unfold lvPut
  by_cases hp : 0 < t.lv
  · rw [if_pos hp]
    cases hq : Mw.asc m t.lv with
    | none =>
      rw [if_pos rfl]
      refine ⟨?_, ?_, ?_, haa, hgg.1, hgg.2.1, hgg.2.2⟩
      · rw [List.map_append, List.nodup_append]
        refine ⟨h.n, by simp, fun x hx y hy e => ?_⟩
        simp only [List.map_cons, List.map_nil, List.mem_singleton] at hy
        obtain ⟨w, hw⟩ := h.key hx
        rw [e, hy, hq] at hw; cases hw
      · intro u hu h0
        rw [Mw.asc_snoc hq]
        rcases (hmem u).1 hu with q | rfl
        · have := h.f u q h0
          by_cases e : t.lv = u.lv
          · rw [← e, hq] at this; cases this
          · rw [if_neg e]; exact this
        · rw [if_pos rfl]
      · intro l w hw
        rw [Mw.asc_snoc hq] at hw
        by_cases e : t.lv = l
        · rw [if_pos e] at hw
          injection hw with hw
          exact ⟨by omega, t, (hmem t).2 (.inr rfl), e, hw⟩
        · rw [if_neg e] at hw
          obtain ⟨h1, u, hu, h2⟩ := h.r l w hw
          exact ⟨h1, u, (hmem u).2 (.inl hu), h2⟩
    | some w =>
      rw [if_neg (by simp)]
      have hwt : w = t.wy := Classical.byContradiction fun e => hc (by rw [hq]; exact ⟨rfl, e⟩)
      refine ⟨h.n, ?_, ?_, haa, hgg.1, hgg.2.1, hgg.2.2⟩
      · intro u hu h0
        rcases (hmem u).1 hu with q | rfl
        · exact h.f u q h0
        · rw [hq, hwt]
      · intro l w hw
        obtain ⟨h1, u, hu, h2⟩ := h.r l w hw
        exact ⟨h1, u, (hmem u).2 (.inl hu), h2⟩
  · rw [if_neg hp]
    refine ⟨h.n, ?_, ?_, haa, hgg.1, hgg.2.1, hgg.2.2⟩
    · intro u hu h0
      rcases (hmem u).1 hu with q | rfl
      · exact h.f u q h0
      · exact absurd h0 hp
    · intro l w hw
      obtain ⟨h1, u, hu, h2⟩ := h.r l w hw
      exact ⟨h1, u, (hmem u).2 (.inl hu), h2⟩
theorem rlF_iff : ∀ (r pre : List Tm) (m : List (Int × Int)) (g : Int), Inv pre m g → (rlF r m g = true ↔ LvGood (pre ++ r))
  | [], pre, m, g, h => by
    rw [List.append_nil, rlF, beq_iff_eq]
    have hin : ∀ x ∈ m.map Prod.fst, 1 ≤ x ∧ x ≤ (g.toNat : Int) := fun x hx => by
      obtain ⟨w, hw⟩ := h.key hx
      obtain ⟨h1, u, hu, h2, _⟩ := h.r x w hw
      have := h.g1 u hu
      have := h.g0
      omega
    obtain ⟨p1, p2⟩ := pigeons g.toNat (m.map Prod.fst) h.n hin
    rw [List.length_map] at p1 p2
    have hg0 := h.g0
    constructor
    · intro e
      refine ⟨h.a, fun t ht u hu h0 e' => ?_, fun t ht n q1 q2 => ?_⟩
      · have a1 := h.f t ht h0
        have a2 := h.f u hu (by omega)
        rw [e', a2] at a1
        injection a1 with a1
        exact a1.symm
      · have := h.g1 t ht
        have hk := p2 (by omega) n q1 (by omega)
        obtain ⟨w, hw⟩ := h.key hk
        obtain ⟨_, u, hu, h2, _⟩ := h.r _ w hw
        exact ⟨u, hu, h2⟩
    · intro hgd
      rcases h.g2 with q | ⟨t, ht, e⟩
      · omega
      · have : g.toNat ≤ (m.map Prod.fst).length := by
          have hh : ∀ n : Nat, 1 ≤ n → n ≤ g.toNat → ∃ t ∈ m.map (fun p => (⟨[], p.1, 0⟩ : Tm)), t.lv = (n : Int) := fun n q1 q2 => by
            obtain ⟨u, hu, e2⟩ := hgd.c t ht n q1 (by omega)
            have := h.f u hu (by omega)
            rw [e2] at this
            exact ⟨_, List.mem_map.2 ⟨_, Mw.asc_mem this, rfl⟩, rfl⟩
          have := few g.toNat _ hh
          simpa using this
        rw [List.length_map] at this
        omega
  | t :: r, pre, m, g, h => by
    rw [rlF]
    by_cases ha : asB t = false
    · rw [if_pos ha]
      simp only [Bool.false_eq_true, false_iff]
      intro q
      have := q.a t (by simp)
      rw [ha] at this; cases this
    · rw [if_neg ha]
      have ha : asB t = true := by simpa using ha
      by_cases hc : (Mw.asc m t.lv).isSome = true ∧ (Mw.asc m t.lv).getD 0 ≠ t.wy
      · rw [if_pos hc]
        simp only [Bool.false_eq_true, false_iff]
        intro q
        cases hq : Mw.asc m t.lv with
        | none => rw [hq] at hc; simp at hc
        | some w =>
          rw [hq] at hc
          obtain ⟨h1, u, hu, h2, h3⟩ := h.r _ w hq
          have := q.b u (by simp [hu]) t (by simp) (by omega) h2
          exact hc.2 (by simp only [Option.getD_some]; omega)
      · rw [if_neg hc, rlF_iff r (pre ++ [t]) _ _ (h.next ha hc), List.append_assoc, List.singleton_append]

theorem lev_inv {n : Int} : ∀ (ts : List Tm) (way : Int), (∀ t ∈ ts, t.lv = n → t.wy ≠ 0) → lev n ts way = true → (way ≠ 0 ∨ ∃ t ∈ ts, t.lv = n) ∧ ∃ w, (way = 0 ∨ way = w) ∧ ∀ t ∈ ts, t.lv = n → t.wy = w
  | [], way, _, h => by
    rw [lev] at h
    have : way ≠ 0 := by simpa using h
    exact ⟨.inl this, way, .inr rfl, by simp⟩
  | t :: r, way, hn, h => by
    rw [lev] at h
    by_cases h1 : t.lv ≠ n
    · rw [if_pos h1] at h
      obtain ⟨a, w, b, c⟩ := lev_inv r way (fun u hu => hn u (by simp [hu])) h
      refine ⟨?_, w, b, fun u hu e => ?_⟩
      · rcases a with a | ⟨u, hu, e⟩
        · exact .inl a
        · exact .inr ⟨u, by simp [hu], e⟩
      · rcases List.mem_cons.1 hu with rfl | hu
        · exact absurd e h1
        · exact c u hu e
    · rw [if_neg h1] at h
      have h1 : t.lv = n := Classical.byContradiction h1
      by_cases h2 : way ≠ 0 ∧ way ≠ t.wy
      · rw [if_pos h2] at h; cases h
      · rw [if_neg h2] at h
        obtain ⟨a, w, b, c⟩ := lev_inv r t.wy (fun u hu => hn u (by simp [hu])) h
        have hw : t.wy = w := by
          rcases b with b | b
          · exact absurd b (hn t (by simp) h1)
          · exact b
        refine ⟨.inr ⟨t, by simp, h1⟩, w, ?_, fun u hu e => ?_⟩
        · by_cases hw0 : way = 0
          · exact .inl hw0
          · refine .inr (Classical.byContradiction fun q => h2 ⟨hw0, fun e => q (e.trans hw)⟩)
        · rcases List.mem_cons.1 hu with rfl | hu
          · exact hw
          · exact c u hu e

def LvRef (ts : List Tm) : Prop := ∀ t ∈ ts, 0 ≤ t.lv ∧ t.lv ≤ 24 ∧ 0 ≤ t.wy ∧ t.wy ≤ 3 ∧ (t.lv = 0 ↔ t.wy = 0) ∧ ∀ n : Nat, n < t.lv.toNat → lev ((n + 1 : Nat) : Int) ts 0 = true
theorem lv_iff {ts : List Tm} (hl : ts.length ≤ 24) : LvGood ts ↔ LvRef ts := by
  constructor
  · intro h t ht
    have ha := (asB_iff t).1 (h.a t ht)
    have h24 : t.lv.toNat ≤ ts.length := few t.lv.toNat ts fun n q1 q2 => h.c t ht n q1 (by omega)
    refine ⟨ha.1, by omega, ha.2.1, ha.2.2.1, ha.2.2.2, fun n hn => ?_⟩
    obtain ⟨u, hu, e⟩ := h.c t ht (n + 1) (by omega) (by omega)
    have hau := (asB_iff u).1 (h.a u hu)
    exact lev_true (w := u.wy) (by omega) ts 0 (fun x hx ex => (h.b u hu x hx (by omega) (by omega)).symm) (.inl rfl) (.inr ⟨u, hu, e⟩)
  · intro h
    refine ⟨fun t ht => (asB_iff t).2 ?_, fun t ht u hu h0 e => ?_, fun t ht n q1 q2 => ?_⟩
    · obtain ⟨h1, h2, h3, h4, h5, _⟩ := h t ht
      exact ⟨h1, h3, h4, h5⟩
    · obtain ⟨h1, h2, h3, h4, h5, h6⟩ := h t ht
      have hl := h6 (t.lv.toNat - 1) (by omega)
      have hn : ((t.lv.toNat - 1 + 1 : Nat) : Int) = t.lv := by omega
      rw [hn] at hl
      obtain ⟨_, w, _, c⟩ := lev_inv ts 0 (fun x hx ex q => by have := (h x hx).2.2.2.2.1; omega) hl
      rw [c t ht rfl, c u hu e.symm]
    · obtain ⟨h1, h2, h3, h4, h5, h6⟩ := h t ht
      have hl := h6 (n - 1) (by omega)
      have hn : ((n - 1 + 1 : Nat) : Int) = (n : Int) := by omega
      rw [hn] at hl
      obtain ⟨a, _⟩ := lev_inv ts 0 (fun x hx ex q => by have := (h x hx).2.2.2.2.1; omega) hl
      rcases a with a | a
      · exact absurd rfl a
      · exact a
theorem nodup_find {l : List (List Int)} (h : ∀ i (hi : i < l.length), find l l[i] = (i : Int)) : l.Nodup := by
  rw [List.nodup_iff_pairwise_ne, List.pairwise_iff_getElem]
  intro i j hi hj hij e
  have h1 := h i hi
  have h2 := h j hj
  rw [e, h2] at h1
  omega
theorem terms_iff (ts : List Tm) : terms ts = true ↔ ts.length ≤ 24 ∧ (∀ t ∈ ts, named t.nm = true) ∧ (names ts).Nodup ∧ LvRef ts := by
  unfold terms
  rw [Bool.and_eq_true, decide_eq_true_eq, decide_eq_true_eq]
  have hnl : (names ts).length = ts.length := names_len ts
  have hni : ∀ i (h : i < ts.length), (names ts)[i]'(by omega) = ts[i].nm := fun i h => by simp [names]
  constructor
  · rintro ⟨h1, h2⟩
    have h3 : ∀ i (h : i < ts.length), named ts[i].nm = true ∧ find (names ts) ts[i].nm = (i : Int) ∧ 0 ≤ ts[i].lv ∧ ts[i].lv ≤ 24 ∧ 0 ≤ ts[i].wy ∧ ts[i].wy ≤ 3 ∧ (ts[i].lv = 0 ↔ ts[i].wy = 0) ∧ ∀ n : Nat, n < ts[i].lv.toNat → lev ((n + 1 : Nat) : Int) ts 0 = true := fun i h => by
      have := h2 i h
      unfold term1 at this
      simp only [Bool.and_eq_true, decide_eq_true_eq, beq_iff_eq] at this
      obtain ⟨⟨⟨⟨⟨⟨⟨a, b⟩, c⟩, d⟩, e⟩, f⟩, g⟩, k⟩ := this
      refine ⟨a, b, c, d, e, f, ?_, k⟩
      rw [Bool.eq_iff_iff, beq_iff_eq, beq_iff_eq] at g
      exact g
    refine ⟨h1, fun t ht => ?_, nodup_find fun i hi => ?_, fun t ht => ?_⟩
    · obtain ⟨i, hi, rfl⟩ := List.getElem_of_mem ht; exact (h3 i hi).1
    · rw [hni i (by omega)]; exact (h3 i (by omega)).2.1
    · obtain ⟨i, hi, rfl⟩ := List.getElem_of_mem ht; exact (h3 i hi).2.2
  · rintro ⟨h1, h2, h3, h4⟩
    refine ⟨h1, fun i hi => ?_⟩
    unfold term1
    simp only [Bool.and_eq_true, decide_eq_true_eq, beq_iff_eq]
    obtain ⟨c, d, e, f, g, k⟩ := h4 _ (List.getElem_mem hi)
    refine ⟨⟨⟨⟨⟨⟨⟨h2 _ (List.getElem_mem hi), ?_⟩, c⟩, d⟩, e⟩, f⟩, ?_⟩, k⟩
    · rw [← hni i hi]; exact find_self h3 i (by omega)
    · rw [Bool.eq_iff_iff, beq_iff_eq, beq_iff_eq]; exact g
theorem nons_iff (G : Gr) : nons G = true ↔ 1 ≤ G.ns.length ∧ G.ns.length ≤ 16 ∧ (∀ s ∈ G.ns, T.isName s = true) ∧ G.ns.Nodup ∧ ∀ s ∈ G.ns, s ∉ names G.ts := by
  unfold nons
  rw [Bool.and_eq_true, Bool.and_eq_true, decide_eq_true_eq, decide_eq_true_eq, decide_eq_true_eq]
  constructor
  · rintro ⟨⟨h1, h2⟩, h3⟩
    have h4 : ∀ i (h : i < G.ns.length), T.isName G.ns[i] = true ∧ find G.ns G.ns[i] = (i : Int) ∧ find (names G.ts) G.ns[i] < 0 := fun i h => by
      have := h3 i h
      unfold non1 non term at this
      simp only [Bool.and_eq_true, decide_eq_true_eq, beq_iff_eq] at this
      exact ⟨this.1.1, this.1.2, this.2⟩
    refine ⟨h1, h2, fun s hs => ?_, nodup_find fun i hi => (h4 i hi).2.1, fun s hs => ?_⟩
    · obtain ⟨i, hi, rfl⟩ := List.getElem_of_mem hs; exact (h4 i hi).1
    · obtain ⟨i, hi, rfl⟩ := List.getElem_of_mem hs; exact find_none.1 (h4 i hi).2.2
  · rintro ⟨h1, h2, h3, h4, h5⟩
    refine ⟨⟨h1, h2⟩, fun i hi => ?_⟩
    unfold non1 non term
    simp only [Bool.and_eq_true, decide_eq_true_eq, beq_iff_eq]
    exact ⟨⟨h3 _ (List.getElem_mem hi), find_self h4 i hi⟩, find_none.2 (h5 _ (List.getElem_mem hi))⟩
theorem rn_iff (G : Gr) : rnB G = true ↔ G.ts.length ≤ 24 ∧ 1 ≤ G.ns.length ∧ G.ns.length ≤ 16 ∧ (∀ t ∈ G.ts, named t.nm = true) ∧ (∀ s ∈ G.ns, T.isName s = true) ∧ (names G.ts ++ G.ns).Nodup := by
  unfold rnB nmL
  simp only [Bool.and_eq_true, decide_eq_true_eq, List.all_eq_true, List.length_map]
  have h := (dd_len [] (names G.ts ++ G.ns) (by simp)).2
  simp only [List.length_nil, Nat.zero_add, List.nil_append, List.length_append, names_len] at h
  rw [h]
  constructor
  · rintro ⟨⟨⟨⟨⟨a, b⟩, c⟩, d⟩, e⟩, f⟩; exact ⟨a, b, c, d, e, f⟩
  · rintro ⟨a, b, c, d, e, f⟩; exact ⟨⟨⟨⟨⟨a, b⟩, c⟩, d⟩, e⟩, f⟩
theorem ru_eq (G : Gr) (x : Rl) : ruB G x = rule G x := by
  rw [Bool.eq_iff_iff]
  unfold ruB rule
  have hn : x.r.any (noHas G) = false ↔ ∀ z ∈ x.r, has G z = true := by
    rw [List.any_eq_false]
    unfold noHas
    constructor
    · intro h z hz; have := h z hz; simpa using this
    · intro h z hz; rw [h z hz]; simp
  have ht : x.r.any isT = false ↔ ∀ z ∈ x.r, ¬ 0 ≤ z := by
    rw [List.any_eq_false]
    unfold isT
    constructor
    · intro h z hz; simpa using h z hz
    · intro h z hz; simpa using h z hz
  simp only [Bool.and_eq_true, decide_eq_true_eq, Bool.not_eq_true', List.all_eq_true, hn]
  by_cases hp : x.p = -1
  · rw [if_pos hp]
    simp only [Bool.not_eq_true', ht, hp, beq_self_eq_true, Bool.and_true, decide_eq_false_iff_not]
    constructor
    · rintro ⟨⟨a, b⟩, c⟩; exact ⟨⟨⟨a, by omega⟩, by omega⟩, fun z hz => ⟨b z hz, c z hz⟩⟩
    · rintro ⟨⟨⟨a, _⟩, _⟩, b⟩; exact ⟨⟨a, fun z hz => (b z hz).1⟩, fun z hz => (b z hz).2⟩
  · rw [if_neg hp]
    have hp' : (x.p == -1) = false := by simpa using hp
    simp only [hp', Bool.and_false, and_true, Bool.and_eq_true]
    unfold isT has
    rw [decide_eq_true_eq]
    constructor
    · rintro ⟨⟨a, b⟩, c, d⟩
      rw [if_pos c, decide_eq_true_eq] at d
      exact ⟨⟨⟨a, by omega⟩, d⟩, b⟩
    · rintro ⟨⟨⟨a, b⟩, c⟩, d⟩
      have h0 : 0 ≤ x.p := by omega
      exact ⟨⟨a, d⟩, h0, by rw [if_pos h0, decide_eq_true_eq]; exact c⟩
theorem rr_eq (G : Gr) : ∀ (rs : List Rl) (top : Int), rrF G rs (top + 1) = rules G rs top
  | [], top => by
    rw [rrF, rules, Bool.eq_iff_iff, beq_iff_eq, beq_iff_eq]
    omega
  | r :: rs, top => by
    rw [rrF, rules, ru_eq]
    by_cases h : r.l < 0 ∨ top + 1 < r.l ∨ rule G r = false
    · rw [if_pos h, if_pos h]
    · rw [if_neg h, if_neg h]
      rw [← rr_eq G rs]
      congr 1
      by_cases h2 : top < r.l
      · rw [if_pos h2]; omega
      · rw [if_neg h2]; omega
theorem right_eq (G : Gr) : cfgRight G = right G := by
  rw [Bool.eq_iff_iff]
  unfold cfgRight right rrB
  have hrr := rr_eq G G.rs (-1)
  rw [show (-1 : Int) + 1 = 0 from rfl] at hrr
  simp only [Bool.and_eq_true, decide_eq_true_eq, hrr, rn_iff, terms_iff, nons_iff]
  have hlv := rlF_iff G.ts [] [] 0 Inv.nil
  rw [List.nil_append] at hlv
  rw [hlv, List.nodup_append]
  constructor
  · rintro ⟨⟨⟨⟨⟨a, b, c, d, e, f1, f2, f3⟩, g⟩, h, k⟩, l⟩, m⟩
    refine ⟨⟨⟨⟨⟨⟨⟨a, d, f1, (lv_iff a).1 g⟩, b, c, e, f2, fun s hs q => f3 s q s hs rfl⟩, ?_⟩, h⟩, l⟩, m⟩, k⟩
    rcases hz : G.rs with _ | ⟨x, r⟩
    · rw [hz, rules, beq_iff_eq] at k; omega
    · simp
  · rintro ⟨⟨⟨⟨⟨⟨⟨a, d, f1, g⟩, b, c, e, f2, f3⟩, _⟩, h⟩, l⟩, m⟩, k⟩
    exact ⟨⟨⟨⟨⟨a, b, c, d, e, f1, f2, fun s hs q hq ee => f3 q hq (ee ▸ hs)⟩, (lv_iff a).2 g⟩, h, k⟩, l⟩, m⟩
end Gm

theorem gright_any (v : Value) (G : Gm.Gr) (B : Nat) (w : World) (hg : RdGr w B v G) (hf : Gm.Fit G) (hB : B ≤ w.heap.size) :
    Calls Tryz.prog 26 #[v] w fun e w' => e = .returned (.bool (Gm.right G)) ∧ Below w.heap.size w w' := by
  rw [← Gm.right_eq]
  exact gright_raw v G B w hg hf hB
end Go.Proofs.YtajcegofflmoeaaGreatDoor
