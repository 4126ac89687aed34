/- Part of the proofs over this program: CfgLevels, BldD, BldE, BldF, BldH, CalmN, BldJ, BldK, BldP, BldX, Work9, Term9, ShowL. -/
import Derived.Test.YtkfelkpilaipnaaDoorProg
import Derived.WalkKit
import Derived.WalkSpells
import Derived.WalkLawsBesides
import Derived.Deep.Draws
import Derived.BigQuiet
import Derived.Deep.QuietTactic
import Derived.RegionTactic
import Derived.Deep.DeepFit
import Derived.Deep.RegionWith
import Derived.Laws.CopyOwn
import Derived.Laws.OwnMore
import Derived.OwnWalk
import Derived.ProofKit
import Derived.OpenShut
import Derived.Laws.IdiomStrings
import Derived.Lib.IndexLaws
import Derived.Lib.IndexMore
import Derived.Lib.Strings
import Derived.Lib.Bytes
import Derived.Lib.Index
import Derived.Test.YtkfelkpilaipnaaDoorShelf
import Derived.OrdersHeld
import Derived.IntWalk
import Derived.Maps.OwnSet
import Derived.ScopeJumps
import Derived.WalkMore
import Derived.Laws.FloatArith
import Derived.Deep.DeepCutAuto
import Derived.Defers
import Derived.Recover
import Derived.Test.YtkfelkpilaipnaaDoorKA
import Derived.Test.YtkfelkpilaipnaaDoorKB
import Derived.Test.YtkfelkpilaipnaaDoorKC
namespace Go.Proofs.YtkfelkpilaipnaaDoor
set_option maxRecDepth 100000
open Go.RowKit

/-- Numbers as keys. -/
def intE : Mw.Enc Tryd.prog 3 Int where
  enc z := .int .i64 z
  ok := Gm.In
  key z h := ⟨_, Maps.keyOf_int_mk Tryd.underlying3 (WalkArith.wf_i64 (by unfold Gm.In at h; omega))⟩
  inj x y _ _ h := by injection h
theorem intK : Maps.Keyed Tryd.prog 3 := Maps.int_keyed Tryd.underlying3

/-- May a terminal associate so? -/
def asB (t : Gm.Tm) : Bool := if t.wy = 0 then t.lv == 0 else if t.wy = 1 ∨ t.wy = 2 ∨ t.wy = 3 then decide (0 < t.lv) else false
theorem rightAssoc_any (t : Gm.Tm) (w : World) :
    Calls Tryd.prog 40 #[.agg #[.string (K.str t.nm), .int .i64 t.lv, .int .i64 t.wy]] w fun e w' => e = .returned (.bool (asB t)) ∧ Below w.heap.size w w' := by
  have HB := hide (fun o => (Below.refl w.heap.size w).alloc (Nat.le_refl _) o)
  obtain ⟨nm, lv, wy⟩ := t
  unfold asB
  simp only
  generalize K.str nm = s at *
  by_cases h0 : wy = 0
  · subst h0
    rw [if_pos rfl]
    go_enter Tryd.func40, Tryd.ntmps40
    go_wp2
    go_ret
    exact ⟨rfl, HB.out _⟩
  rw [if_neg h0]
  by_cases h1 : wy = 1
  · subst h1
    rw [if_pos (by simp)]
    go_enter Tryd.func40, Tryd.ntmps40
    go_wp2
    go_ret
    exact ⟨rfl, HB.out _⟩
  by_cases h2 : wy = 2
  · subst h2
    rw [if_pos (by simp)]
    go_enter Tryd.func40, Tryd.ntmps40
    go_wp2
    go_ret
    exact ⟨rfl, HB.out _⟩
  by_cases h3 : wy = 3
  · subst h3
    rw [if_pos (by simp)]
    go_enter Tryd.func40, Tryd.ntmps40
    go_wp2
    go_ret
    exact ⟨rfl, HB.out _⟩
  rw [if_neg (by omega)]
  have e0 : (wy == 0) = false := beq_eq_false_iff_ne.2 h0
  have e1 : (wy == 1) = false := beq_eq_false_iff_ne.2 h1
  have e2 : (wy == 2) = false := beq_eq_false_iff_ne.2 h2
  have e3 : (wy == 3) = false := beq_eq_false_iff_ne.2 h3
  go_enter Tryd.func40, Tryd.ntmps40
  go_wp2
  go_ret
  exact ⟨rfl, HB.out _⟩

def lvPut (m : List (Int × Int)) (t : Gm.Tm) : List (Int × Int) := if 0 < t.lv then (if Mw.asc m t.lv = none then m ++ [(t.lv, t.wy)] else m) else m
/-- May levels be, behind ones of which the map has these, and the greatest one is so? -/
def rlF : List Gm.Tm → List (Int × Int) → Int → Bool
  | [], m, g => (m.length : Int) == g
  | t :: r, m, g => if asB t = false then false else if (Mw.asc m t.lv).isSome = true ∧ (Mw.asc m t.lv).getD 0 ≠ t.wy then false else rlF r (lvPut m t) (max g t.lv)
theorem rlF_drop {ts : List Gm.Tm} {k : Nat} (h : k < ts.length) (m : List (Int × Int)) (g : Int) : rlF (ts.drop k) m g = if asB ts[k] = false then false else if (Mw.asc m ts[k].lv).isSome = true ∧ (Mw.asc m ts[k].lv).getD 0 ≠ ts[k].wy then false else rlF (ts.drop (k + 1)) (lvPut m ts[k]) (max g ts[k].lv) := by
  rw [List.drop_eq_getElem_cons h, rlF]
theorem rlF_end {ts : List Gm.Tm} {k : Nat} (h : ts.length ≤ k) (m : List (Int × Int)) (g : Int) : rlF (ts.drop k) m g = ((m.length : Int) == g) := by
  rw [List.drop_eq_nil_of_le h, rlF]
def lvL (m : List (Int × Int)) : List (Int × Value) := m.map fun p => (p.1, .int .i64 p.2)
theorem asc_lvL (m : List (Int × Int)) (z : Int) : Mw.asc (lvL m) z = (Mw.asc m z).map (fun y => .int .i64 y) := by
  unfold lvL
  induction m with
  | nil => rfl
  | cons p r ih =>
    obtain ⟨k, v⟩ := p
    rw [List.map_cons, Mw.asc, Mw.asc, ih]
    by_cases h : k = z
    · rw [if_pos h, if_pos h]; rfl
    · rw [if_neg h, if_neg h]
theorem lvL_look (m : List (Int × Int)) (z : Int) : (Mw.asc (lvL m) z).getD (.int .i64 0) = .int .i64 ((Mw.asc m z).getD 0) ∧ (Mw.asc (lvL m) z).isSome = (Mw.asc m z).isSome := by
  rw [asc_lvL]
  cases Mw.asc m z <;> exact ⟨rfl, rfl⟩
theorem zero_int (w : World) : (zeroValue 3).run Tryd.prog w = .ok (.int .i64 0) w := by kernel_rfl

set_option maxHeartbeats 4000000 in
theorem rightLevels_any (A : Option Addr) (c B : Nat) (ts : List Gm.Tm) (w : World) (ht : RdTm w B A ts) (hf : ∀ x ∈ ts, K.Tx x.nm ∧ Gm.In x.lv ∧ Gm.In x.wy) (hB : B ≤ w.heap.size) (hlen : (ts.length : Int) ≤ 9223372036854775807) :
    Calls Tryd.prog 20 #[.slice A ts.length c] w fun e w' => e = .returned (.bool (rlF ts [] 0)) ∧ Below w.heap.size w w' := by
  have HT := hide ht
  have HF := hide hf
  have hmm := @run_makeMap Tryd.prog
  have HM0 := hide (Mw.MapIs.made intE w)
  have HS0 := hide ((Below.refl w.heap.size w).alloc (Nat.le_refl _) (.map #[] 0))
  clear ht hf
  go_enter Tryd.func20, Tryd.ntmps20
  go_wp2
  go_loopw [4, 12] (fun vg vi wr => ∃ (k : Nat) (m : List (Int × Int)) (g : Int), k ≤ ts.length ∧ vi = .int .i64 k ∧ vg = .int .i64 g ∧ Hid (rlF ts [] 0 = rlF (ts.drop k) m g) ∧ Below w.heap.size w wr ∧ Hid (Mw.MapIs intE wr w.heap.size (lvL m))) (fun _ vi _ => ts.length - (intOf vi).toNat)
  case atStart => exact ⟨0, [], 0, Nat.zero_le _, rfl, rfl, hide rfl, HS0.out, HM0⟩
  case round =>
    obtain ⟨k, m, g, hk, rfl, rfl, HE, hb, HM⟩ := hrel
    have HB := hide hb
    have hz : w.heap.size < wr.heap.size := HM.out.lt
    by_cases hlt : k < ts.length
    · obtain ⟨gb, o, rfl, hgb, hc⟩ := HT.out (by omega)
      have k0 := (hb.cell (p := ⟨gb, o + k * 3, none⟩) (Nat.lt_of_lt_of_le hgb hB)).trans (hc k hlt).1
      have k1 := (hb.cell (p := ⟨gb, o + k * 3 + 1, none⟩) (Nat.lt_of_lt_of_le hgb hB)).trans (hc k hlt).2.1
      have k2 := (hb.cell (p := ⟨gb, o + k * 3 + 2, none⟩) (Nat.lt_of_lt_of_le hgb hB)).trans (hc k hlt).2.2
      have hgs : gb < wr.heap.size := by omega
      have hft := (HF.out _ (List.getElem_mem hlt)).2
      have HIN := hide hft
      have HAS := hide (fun x => rightAssoc_any ts[k] x)
      have HR := hide (rlF_drop hlt m g)
      clear hc hft
      generalize ts[k] = t at *
      obtain ⟨nm, lv, wy⟩ := t
      simp only at k0 k1 k2 HIN HAS HR
      have HM1 := hide (HM.out.kept (World.grownBy_alloc wr (.cells #[.string (K.str nm), .int .i64 lv, .int .i64 wy] 48) none) (by simp))
      have HLK := Mw.run_look (x := lv) HM1.out intK Tryd.underlying91 (zero_int _) HIN.out.1 true
      rw [if_pos rfl, (lvL_look m lv).1, (lvL_look m lv).2] at HLK
      have HLK' : (Instr.lookup 91 (.map (some w.heap.size)) (.int .i64 lv) true).run Tryd.prog (wr.alloc (.cells #[.string (K.str nm), .int .i64 lv, .int .i64 wy] 48)) = .ok (.tuple #[.int .i64 ((Mw.asc m lv).getD 0), .bool (Mw.asc m lv).isSome]) (wr.alloc (.cells #[.string (K.str nm), .int .i64 lv, .int .i64 wy] 48)) := HLK
      have HBA := hide (fun o => HB.out.alloc HB.out.size o)
      clear HLK hb
      generalize qa : asB ⟨nm, lv, wy⟩ = ba at *
      clear qa
      cases ba
      · have HX := hide (HE.out.trans (HR.out.trans (if_pos rfl)))
        go_wp2_with fail
        refine (HAS.out _).mono ?_; rintro _ w2 ⟨rfl, hb2⟩
        have HB2 := hide ((HBA.out _).trans (hb2.mono (HBA.out _).size))
        clear hb2
        go_wp2
        go_ret
        exact ⟨ret_bool HX.out.symm, HB2.out⟩
      have HR1 := hide (HE.out.trans (HR.out.trans (if_neg (by simp))))
      have HSO : Hid (¬ ((Mw.asc m lv).isSome = true ∧ (Mw.asc m lv).getD 0 ≠ wy) → Mw.asc (lvL m) lv = none ∨ Mw.asc (lvL m) lv = some (.int .i64 wy)) := hide (fun h => by
        rw [asc_lvL]
        cases q : Mw.asc m lv with
        | none => exact .inl rfl
        | some y =>
          rw [q] at h
          have : y = wy := Classical.byContradiction fun n => h ⟨rfl, n⟩
          rw [this]; exact .inr rfl)
      have HPUT : Hid (¬ 0 < lv → lvPut m ⟨nm, lv, wy⟩ = m) := hide (fun h => by unfold lvPut; rw [if_neg h])
      have HPUT2 : Hid (0 < lv → lvL (lvPut m ⟨nm, lv, wy⟩) = if Mw.asc (lvL m) lv = none then lvL m ++ [(lv, .int .i64 wy)] else lvL m) := hide (fun h => by
        unfold lvPut
        rw [if_pos h, asc_lvL]
        cases q : Mw.asc m lv with
        | none => simp [lvL]
        | some y => simp)
      by_cases h2 : (Mw.asc m lv).isSome = true ∧ (Mw.asc m lv).getD 0 ≠ wy
      · have HX := hide (HR1.out.trans (if_pos h2))
        obtain ⟨h3, h4⟩ := h2
        rw [h3] at HLK'
        have h5 : ((Mw.asc m lv).getD 0 != wy) = true := by simpa using h4
        clear h3 h4 HSO
        generalize (Mw.asc m lv).getD 0 = zs at *
        go_wp2_with fail
        refine (HAS.out _).mono ?_; rintro _ w2 ⟨rfl, hb2⟩
        have HB2 := hide ((HBA.out _).trans (hb2.mono (HBA.out _).size))
        have hbb := (hb2.block wr.heap.size (by simp)).trans (heap_alloc_new wr _)
        have hz2 : wr.heap.size < w2.heap.size := (Array.getElem?_eq_some_iff.1 hbb).1
        have f1 := cell_of_row w2 _ 1 _ _ _ hbb
        have f2 := cell_of_row w2 _ 2 _ _ _ hbb
        clear hb2 hbb
        go_wp2
        go_ret
        exact ⟨ret_bool HX.out.symm, HB2.out⟩
      · have HX := hide (HR1.out.trans (if_neg h2))
        have HSS := hide (HSO.out h2)
        have h3 : ((Mw.asc m lv).isSome && ((Mw.asc m lv).getD 0 != wy)) = false := by
          cases q : (Mw.asc m lv).isSome
          · rfl
          · rw [Bool.true_and]
            by_cases q2 : (Mw.asc m lv).getD 0 = wy
            · rw [q2]; simp
            · exact absurd ⟨q, q2⟩ h2
        generalize qs : (Mw.asc m lv).isSome = kn at HLK' h3
        generalize qg : (Mw.asc m lv).getD 0 = zs at HLK' h3
        clear h2 qs qg HSO HR1 HR HE
        by_cases hp : 0 < lv
        · have HP := hide (HPUT2.out hp)
          cases kn
          · go_wp2_with fail
            refine (HAS.out _).mono ?_; rintro _ w2 ⟨rfl, hb2⟩
            have HB2 := hide ((HBA.out _).trans (hb2.mono (HBA.out _).size))
            have hbb := (hb2.block wr.heap.size (by simp)).trans (heap_alloc_new wr _)
            have hz2 : wr.heap.size < w2.heap.size := (Array.getElem?_eq_some_iff.1 hbb).1
            have f1 := cell_of_row w2 _ 1 _ _ _ hbb
            have f2 := cell_of_row w2 _ 2 _ _ _ hbb
            have HM2 := hide (HM1.out.kept (only_below hb2 none) (by simp))
            have HBC := hide (fun (x : World) (h : w2.grownBy x (some w.heap.size)) => (cell_of_row x _ 1 _ _ _ ((h.block wr.heap.size hz2 (fun e => by injection e with e; omega)).trans hbb)))
            clear hb2 hbb
            have HST := hide (Mw.run_store (x := lv) HM2.out intK Tryd.underlying91 HIN.out.1 (.int .i64 wy) HSS.out)
            rw [← HP.out] at HST
            clear HLK'
            go_wp2_with (at_mapUpdate; refine Mw.wpList_store rfl _ _ _ _ rfl HST.out rfl rfl rfl ?_; rintro w3 ⟨hm3, hg3⟩; have f3 := HBC.out _ hg3)
            have HB3 := hide (Below.grown HB2.out hg3 HB2.out.size (fun k e => by injection e with e; omega))
            have HM3 := hide hm3
            clear hm3 hg3
            go_roundw
            case rel => exact ⟨k + 1, _, _, by omega, by go_num, rfl, HX, HB3.out, HM3⟩
            case measure => simp [intOf]; omega
          · have h4 : (zs != wy) = false := by simpa using h3
            clear h3
            go_wp2_with fail
            refine (HAS.out _).mono ?_; rintro _ w2 ⟨rfl, hb2⟩
            have HB2 := hide ((HBA.out _).trans (hb2.mono (HBA.out _).size))
            have hbb := (hb2.block wr.heap.size (by simp)).trans (heap_alloc_new wr _)
            have hz2 : wr.heap.size < w2.heap.size := (Array.getElem?_eq_some_iff.1 hbb).1
            have f1 := cell_of_row w2 _ 1 _ _ _ hbb
            have f2 := cell_of_row w2 _ 2 _ _ _ hbb
            have HM2 := hide (HM1.out.kept (only_below hb2 none) (by simp))
            have HBC := hide (fun (x : World) (h : w2.grownBy x (some w.heap.size)) => (cell_of_row x _ 1 _ _ _ ((h.block wr.heap.size hz2 (fun e => by injection e with e; omega)).trans hbb)))
            clear hb2 hbb
            have HST := hide (Mw.run_store (x := lv) HM2.out intK Tryd.underlying91 HIN.out.1 (.int .i64 wy) HSS.out)
            rw [← HP.out] at HST
            clear HLK'
            go_wp2_with (at_mapUpdate; refine Mw.wpList_store rfl _ _ _ _ rfl HST.out rfl rfl rfl ?_; rintro w3 ⟨hm3, hg3⟩; have f3 := HBC.out _ hg3)
            have HB3 := hide (Below.grown HB2.out hg3 HB2.out.size (fun k e => by injection e with e; omega))
            have HM3 := hide hm3
            clear hm3 hg3
            go_roundw
            case rel => exact ⟨k + 1, _, _, by omega, by go_num, rfl, HX, HB3.out, HM3⟩
            case measure => simp [intOf]; omega
        · have HP := hide (HPUT.out hp)
          have hp' := Int.not_lt.1 hp
          clear hp
          cases kn
          · go_wp2_with fail
            refine (HAS.out _).mono ?_; rintro _ w2 ⟨rfl, hb2⟩
            have HB2 := hide ((HBA.out _).trans (hb2.mono (HBA.out _).size))
            have hbb := (hb2.block wr.heap.size (by simp)).trans (heap_alloc_new wr _)
            have hz2 : wr.heap.size < w2.heap.size := (Array.getElem?_eq_some_iff.1 hbb).1
            have f1 := cell_of_row w2 _ 1 _ _ _ hbb
            have f2 := cell_of_row w2 _ 2 _ _ _ hbb
            have HM2 := hide (HM1.out.kept (only_below hb2 none) (by simp))
            clear hb2 hbb
            rw [HP.out] at HX
            clear HLK'
            go_wp2
            go_roundw
            case rel => exact ⟨k + 1, _, _, by omega, by go_num, rfl, HX, HB2.out, HM2⟩
            case measure => simp [intOf]; omega
          · have h4 : (zs != wy) = false := by simpa using h3
            clear h3
            go_wp2_with fail
            refine (HAS.out _).mono ?_; rintro _ w2 ⟨rfl, hb2⟩
            have HB2 := hide ((HBA.out _).trans (hb2.mono (HBA.out _).size))
            have hbb := (hb2.block wr.heap.size (by simp)).trans (heap_alloc_new wr _)
            have hz2 : wr.heap.size < w2.heap.size := (Array.getElem?_eq_some_iff.1 hbb).1
            have f1 := cell_of_row w2 _ 1 _ _ _ hbb
            have f2 := cell_of_row w2 _ 2 _ _ _ hbb
            have HM2 := hide (HM1.out.kept (only_below hb2 none) (by simp))
            clear hb2 hbb
            rw [HP.out] at HX
            clear HLK'
            go_wp2
            go_roundw
            case rel => exact ⟨k + 1, _, _, by omega, by go_num, rfl, HX, HB2.out, HM2⟩
            case measure => simp [intOf]; omega
    · obtain rfl : k = ts.length := by omega
      have hL := Mw.run_len HM.out Tryd.underlying91 3
      have HX := hide (HE.out.trans (rlF_end (Nat.le_refl _) m g))
      rw [show (lvL m).length = m.length by simp [lvL]] at hL
      generalize m.length = q at *
      clear hb
      go_wp2_with (simp only [hL])
      go_ret
      exact ⟨ret_bool HX.out.symm, HB.out⟩
end Go.Proofs.YtkfelkpilaipnaaDoor

namespace Go.Proofs.YtkfelkpilaipnaaDoor
set_option maxRecDepth 100000
open Go.RowKit

/-! ### a terminal's level -/
theorem tms_set (ts : List Gm.Tm) (n : Nat) (h : n < ts.length) (a b : Int) : ((tmsC ts).set (n * 3 + 1) (.int .i64 a)).set (n * 3 + 2) (.int .i64 b) = tmsC (ts.modify n fun t => ⟨t.nm, a, b⟩) := by
  induction ts generalizing n with
  | nil => simp at h
  | cons t r ih =>
    have e : tmsC (t :: r) = tmC t ++ tmsC r := by unfold tmsC; rw [List.flatMap_cons]
    cases n with
    | zero =>
      rw [e]
      simp [tmC, tmsC, List.modify]
    | succ n =>
      have hl : (tmC t).length = 3 := rfl
      rw [e, List.set_append_right _ _ (by omega), List.set_append_right _ _ (by omega), hl, show (n + 1) * 3 + 1 - 3 = n * 3 + 1 by omega, show (n + 1) * 3 + 2 - 3 = n * 3 + 2 by omega, ih n (by simpa using h)]
      rw [List.modify_succ_cons]
      unfold tmsC
      rw [List.flatMap_cons]
theorem tm_cells {w : World} {base : Nat} {v : Value} {ts : List Gm.Tm} (h : OwnTm w base v ts) (n : Nat) (hn : n < ts.length) : ∃ g c, v = .slice (some ⟨g, 0, none⟩) ts.length c ∧ ts.length ≤ c ∧ w.cell? ⟨g, n * 3 + 1, none⟩ = some (.int .i64 ts[n].lv) ∧ w.cell? ⟨g, n * 3 + 2, none⟩ = some (.int .i64 ts[n].wy) ∧ (∀ j, w.frozen? ⟨g, j, none⟩ = false) ∧ base ≤ g ∧ g < w.heap.size ∧ ∃ cur, w.heap[g]? = some (.cells cur 48 (0, 0)) := by
  rcases h.2 with ⟨_, h0⟩ | ⟨g, cap, cur, rfl, hb, hg, hnc, hm, hs, ht⟩
  · omega
  · refine ⟨g, cap, rfl, hnc, ?_, ?_, fun j => frozen_of_row w g j _ _ hg, hb, (Array.getElem?_eq_some_iff.1 hg).1, cur, hg⟩
    · rw [World.ownsRow.cellAt h (n * 3 + 1) (by omega)]
      exact three_at tmC (fun _ => rfl) ts n 1 hn (by omega)
    · rw [World.ownsRow.cellAt h (n * 3 + 2) (by omega)]
      exact three_at tmC (fun _ => rfl) ts n 2 hn (by omega)
end Go.Proofs.YtkfelkpilaipnaaDoor

namespace Go.Proofs.YtkfelkpilaipnaaDoor
set_option maxRecDepth 100000
open Go.RowKit

/-- A reference as a value. -/
def rfX (L : List Int) (x : Tok) : Nat := Fl.fl (Pl.pos (L.take x.o)).1
def rfY (L : List Int) (x : Tok) : Nat := Fl.fl (Pl.pos (L.take x.o)).2
/-! ### the document's own words -/
end Go.Proofs.YtkfelkpilaipnaaDoor

namespace Go.Proofs.YtkfelkpilaipnaaDoor
set_option maxRecDepth 100000
open Go.RowKit

/-! ### a source that is read -/
/-- A slice value's address A, with these references, all of it below block B. -/
def RdRf (L : List Int) (w : World) (B : Nat) (A : Option Addr) (xs : List Tok) : Prop :=
  xs.length ≠ 0 → ∃ g o, A = some ⟨g, o, none⟩ ∧ g < B ∧ ∀ i (h : i < xs.length), w.cell? ⟨g, o + i * 2, none⟩ = some (.string (K.str xs[i].t)) ∧ w.cell? ⟨g, o + i * 2 + 1, none⟩ = some (.complex .f64 (rfX L xs[i]) (rfY L xs[i]))
def RdDl (L : List Int) (w : World) (B : Nat) (A : Option Addr) (ds : List Y.Dcl) : Prop :=
  ds.length ≠ 0 → ∃ g o, A = some ⟨g, o, none⟩ ∧ g < B ∧ ∀ i (h : i < ds.length), w.cell? ⟨g, o + i * 2, none⟩ = some (.int .i64 ds[i].k) ∧ ∃ A' c', w.cell? ⟨g, o + i * 2 + 1, none⟩ = some (.slice A' ds[i].ns.length c') ∧ RdRf L w B A' ds[i].ns
theorem RdRf.keep {L : List Int} {w w' : World} {B : Nat} {A : Option Addr} {xs : List Tok} (h : RdRf L w B A xs) (hb : Below B w w') : RdRf L w' B A xs := fun hn => by
  obtain ⟨g, o, e, hg, hc⟩ := h hn
  exact ⟨g, o, e, hg, fun i hi => ⟨(hb.cell (p := ⟨g, o + i * 2, none⟩) hg).trans (hc i hi).1, (hb.cell (p := ⟨g, o + i * 2 + 1, none⟩) hg).trans (hc i hi).2⟩⟩
theorem RdDl.keep {L : List Int} {w w' : World} {B : Nat} {A : Option Addr} {xs : List Y.Dcl} (h : RdDl L w B A xs) (hb : Below B w w') : RdDl L w' B A xs := fun hn => by
  obtain ⟨g, o, e, hg, hc⟩ := h hn
  refine ⟨g, o, e, hg, fun i hi => ?_⟩
  obtain ⟨h1, A', c', h2, h3⟩ := hc i hi
  exact ⟨(hb.cell (p := ⟨g, o + i * 2, none⟩) hg).trans h1, A', c', (hb.cell (p := ⟨g, o + i * 2 + 1, none⟩) hg).trans h2, h3.keep hb⟩

end Go.Proofs.YtkfelkpilaipnaaDoor

namespace Go.Proofs.YtkfelkpilaipnaaDoor
set_option maxRecDepth 100000
open Go.RowKit

theorem decl1_lv {k : Int} {s s' : Gm.S1} {x : Tok} (h : Gm.decl1 k s x = .ok s') : s'.lv = s.lv := by
  unfold Gm.decl1 at h
  split at h
  · split at h
    · cases h
    · injection h with h; subst h; rfl
  · split at h
    · split at h
      · cases h
      · obtain ⟨p, _, h⟩ := Gm.R.bind_eq h
        injection h with h; subst h; rfl
    · split at h
      · cases h
      · obtain ⟨p, _, h⟩ := Gm.R.bind_eq h
        injection h with h; subst h; rfl
theorem declN_lv {k : Int} : ∀ (xs : List Tok) {s s' : Gm.S1}, Gm.declN k s xs = .ok s' → s'.lv = s.lv
  | [], s, s', h => by rw [Gm.declN] at h; injection h with h; subst h; rfl
  | x :: r, s, s', h => by
    rw [Gm.declN] at h
    obtain ⟨s1, h1, h2⟩ := Gm.R.bind_eq h
    rw [declN_lv r h2, decl1_lv h1]
theorem decls_drop {s : Gm.S1} {ds : List Y.Dcl} {i : Nat} (h : i < ds.length) : Gm.decls s (ds.drop i) = (Gm.declN ds[i].k (Gm.up ds[i].k s) ds[i].ns).bind fun s => Gm.decls s (ds.drop (i + 1)) := by
  rw [List.drop_eq_getElem_cons h, Gm.decls]
end Go.Proofs.YtkfelkpilaipnaaDoor

namespace Go.CalmN
open Go.RowKit

section
variable {P : Program} {ops : Array Oper} {Q : Exit → Act → World → Prop} {md : Region.Mode}

/-- An operation that yields a value and enters nothing. -/
def plainB : Op → Bool
  | .move _ | .assign _ | .pick .. | .load .. | .convert .. | .binOp .. | .unOp .. | .slice .. | .fieldAddr .. | .field .. | .indexAddr .. | .index .. | .extract .. | .build .. | .nilCheck _ | .lookup .. => true
  | .call c => match c.callee with
    | .builtin .len | .builtin .cap => true
    | _ => false
  | _ => false

theorem value_of {s : Sem Value} {w w' : World} {n : Next} (h : ((do pure (.value (← s))) : Sem Next).run P w = .ok n w') : ∃ u, n = .value u := by
  rw [Sem.run_bind] at h
  cases hs : s.run P w with
  | ok v w1 => rw [hs] at h; simp [Result.andThen, Sem.run_pure] at h; exact ⟨v, h.1.symm⟩
  | halt x w1 => rw [hs] at h; simp [Result.andThen] at h

theorem never_rt {α : Type} {w w' : World} {n : α} (h : (runtimePanic .nilDeref : Sem α).run P w = .ok n w') : False := by
  simp [runtimePanic, Result.andThen] at h
theorem plain_value {o : Oper} (hp : plainB o.op = true) {a : Act} {w w' : World} {n : Next} (h : (execOp a.eval o).run P w = .ok n w') : ∃ u, n = .value u := by
  obtain ⟨dst, op, type, pos, after, guard⟩ := o
  cases op with
  | call c =>
    obtain ⟨callee, args, ats⟩ := c
    cases callee with
    | builtin b =>
      cases b with
      | len => exact value_of (s := Builtin.len_ ats type (args.map a.eval)) h
      | cap => exact value_of (s := Builtin.cap_ ats type (args.map a.eval)) h
      | _ => exact absurd hp (by simp [plainB])
    | invoke recv name => exact absurd hp (by simp [plainB])
    | value f => exact absurd hp (by simp [plainB])
  | move x => simp [execOp, Sem.run_pure] at h; exact ⟨_, h.1.symm⟩
  | assign x => simp [execOp, Sem.run_pure] at h; exact ⟨_, h.1.symm⟩
  | pick c x y =>
    simp only [execOp, Sem.run_bind] at h
    cases hs : (asBool (a.eval c)).run P w with
    | ok v w1 => rw [hs] at h; simp [Result.andThen, Sem.run_pure] at h; exact ⟨_, h.1.symm⟩
    | halt x w1 => rw [hs] at h; simp [Result.andThen] at h
  | nilCheck x =>
    simp only [execOp] at h
    split at h
    · exact (never_rt h).elim
    · exact (never_rt h).elim
    · exact (never_rt h).elim
    · split at h
      · exact (never_rt h).elim
      · simp only [Sem.run_bind] at h
        generalize (program : Sem Program).run P w = r1 at h
        cases r1 with
        | halt x w1 => simp [Result.andThen] at h
        | ok pr w1 =>
          simp only [Result.andThen_ok] at h
          revert h
          generalize (nilAhead _ _ _ _).run P w1 = r2
          intro h
          cases r2 with
          | halt x w1 => simp [Result.andThen] at h
          | ok b w2 =>
            simp only [Result.andThen_ok] at h
            split at h
            · simp [Result.andThen] at h
            · simp [Sem.run_pure] at h; exact ⟨_, h.1.symm⟩
      · simp [Sem.run_pure] at h; exact ⟨_, h.1.symm⟩
    · simp [Sem.run_pure] at h; exact ⟨_, h.1.symm⟩
  | _ => first
    | (simp [plainB] at hp; done)
    | exact value_of h

theorem yieldsIf_of {S : World → Prop} {o : Oper} {a : Act} {v : Value} (hp : plainB o.op = true) (hw : Region.wanted o (yielded ops a.tmps) = true) (h : ∀ w, S w → o.quietAt P a S w v) : YieldsIf P ops S o v a := by
  refine .inl ⟨hw, fun w hS => ?_⟩
  have h1 := h w hS
  unfold Oper.quietAt at h1
  cases hr : (execOp a.eval o).run P w with
  | ok n w' =>
    obtain ⟨u, rfl⟩ := plain_value hp hr
    rw [hr] at h1
    simp only [Oper.quietUpon] at h1
    rw [h1.1, h1.2]
  | halt x w' => rw [hr] at h1; simp [Oper.quietUpon] at h1

def pickOps (ops : Array Oper) : List Nat → List Oper
  | [] => []
  | i :: r => match ops[i]? with
    | some o => o :: pickOps ops r
    | none => pickOps ops r
def marked : List Nat → Array Bool → Array Bool
  | [], l => l
  | i :: r, l => marked r (l.setIfInBounds i true)
def stillB (md : Region.Mode) (ops : Array Oper) : List Nat → Array Bool → Bool
  | [], _ => true
  | i :: r, l => (match ops[i]? with | some o => plainB o.op | none => false) && Region.free md ops l i && (Region.ready md ops l).contains i && stillB md ops r (l.setIfInBounds i true)

theorem anyH_mono {S S' : World → Prop} (h : ∀ x, S' x → S x) : ∀ (fuel : Nat) (listed : Array Bool) (a : Act) (w : World), wpAnyH P md ops Q S' fuel listed a w → wpAnyH P md ops Q S fuel listed a w
  | 0, _, _, _, k => k
  | fuel + 1, _, _, _, k => ⟨k.1, fun i hi => wpOp_mono (fun a w hk => ⟨h _ hk.1, anyH_mono h fuel _ a w hk.2⟩) (k.2 i hi)⟩

/-- What only reads comes first. -/
theorem still_block {S : World → Prop} (hs : Region.noSelect ops = true) (hQ : ∀ c a d v w, Q (.panic c) (a.put d v) w → Q (.panic c) a w) {w : World} (hS : S w) (fuel : Nat) :
    ∀ (p : List Nat) (listed : Array Bool) (a : Act), stillB md ops p listed = true →
      wpQuiet P ops S (fun a' => wpAnyH P md ops Q S fuel (marked p listed) a' w) (pickOps ops p) a → wpAnyH P md ops Q S (p.length + fuel) listed a w
  | [], _, _, _, h => by rw [List.length_nil, Nat.zero_add]; exact h
  | i :: r, listed, a, hb, h => by
    unfold stillB at hb
    cases ho : ops[i]? with
    | none => rw [ho] at hb; simp at hb
    | some o =>
      rw [ho] at hb
      simp only [Bool.and_eq_true] at hb
      obtain ⟨⟨⟨hp, hf⟩, hr⟩, hrest⟩ := hb
      have hl : pickOps ops (i :: r) = o :: pickOps ops r := by simp only [pickOps, ho]
      rw [hl] at h
      rw [show (i :: r).length + fuel = (r.length + fuel) + 1 by rw [List.length_cons]; omega]
      unfold wpQuiet at h
      by_cases hw : Region.wanted o (yielded ops a.tmps) = true
      · rw [if_pos hw] at h
        obtain ⟨v, h1, h2⟩ := h
        exact wpAnyH_take ho hs hf hr (fun c a w => hQ c a o.dst v w) (yieldsIf_of hp hw h1) hS (still_block hs hQ hS fuel r _ _ hrest h2)
      · rw [if_neg hw] at h
        exact wpAnyH_take ho hs hf hr (fun c a w => hQ c a o.dst undef w) (.inr ⟨by simpa using hw, rfl⟩) hS (still_block hs hQ hS fuel r _ _ hrest h)

end

section
variable {P : Program} {ops : Array Oper} {Q : Exit → Act → World → Prop} {md : Region.Mode}

/-- The phases: at last what only reads; or what only reads, and then one operation, or one of two. -/
inductive Ph where
  | fin (last : List Nat)
  | one (p : List Nat) (k : Nat) (t : Ph)
  | two (p : List Nat) (k : Nat) (t : Ph) (k2 : Nat) (t2 : Ph)

/-- One operation, and then the rest in a class of worlds that may be narrower. -/
def wpSt (P : Program) (ops : Array Oper) (Q : Exit → Act → World → Prop) (o : Option Oper) (S : World → Prop) (T : (World → Prop) → Act → World → Prop) (a : Act) (w : World) : Prop :=
  match o with
  | none => True
  | some o => ∀ K : Act → World → Prop, (∀ a2 w2, S w2 → ∀ S' : World → Prop, (∀ x, S' x → S x) → S' w2 → T S' a2 w2 → K a2 w2) →
      if Region.wanted o (yielded ops a.tmps) = true then Oper.wp P o a w K Q else K (a.put o.dst undef) w

def wpT (P : Program) (ops : Array Oper) (Q : Exit → Act → World → Prop) : Ph → (World → Prop) → Act → World → Prop
  | .fin last, S, a, w => wpQuiet P ops S (fun a' => Q .normal a' w) (pickOps ops last) a
  | .one p k t, S, a, w => wpQuiet P ops S (fun a' => wpSt P ops Q ops[k]? S (fun S' a2 w2 => wpT P ops Q t S' a2 w2) a' w) (pickOps ops p) a
  | .two p k t k2 t2, S, a, w => wpQuiet P ops S (fun a' => wpSt P ops Q ops[k]? S (fun S' a2 w2 => wpT P ops Q t S' a2 w2) a' w ∧ wpSt P ops Q ops[k2]? S (fun S' a2 w2 => wpT P ops Q t2 S' a2 w2) a' w) (pickOps ops p) a

def tB (md : Region.Mode) (ops : Array Oper) : Ph → Array Bool → Nat → Bool
  | .fin last, l, n => stillB md ops last l && (Region.ready md ops (marked last l)).isEmpty && (last.length == n)
  | .one p k t, l, n => stillB md ops p l && (match Region.ready md ops (marked p l) with | [j] => j == k | _ => false) && (ops[k]?).isSome && decide (p.length + 1 ≤ n) && tB md ops t ((marked p l).setIfInBounds k true) (n - (p.length + 1))
  | .two p k t k2 t2, l, n => stillB md ops p l && (match Region.ready md ops (marked p l) with | [j, j2] => j == k && j2 == k2 | _ => false) && (ops[k]?).isSome && (ops[k2]?).isSome && decide (p.length + 1 ≤ n) && tB md ops t ((marked p l).setIfInBounds k true) (n - (p.length + 1)) && tB md ops t2 ((marked p l).setIfInBounds k2 true) (n - (p.length + 1))

theorem quiet_mono {S : World → Prop} {Q1 Q2 : Act → Prop} (h : ∀ a, Q1 a → Q2 a) : ∀ {l : List Oper} {a : Act}, wpQuiet P ops S Q1 l a → wpQuiet P ops S Q2 l a
  | [], _, k => h _ k
  | o :: r, a, k => by
    unfold wpQuiet at k ⊢
    split
    · rename_i hw; rw [if_pos hw] at k; obtain ⟨v, h1, h2⟩ := k; exact ⟨v, h1, quiet_mono h h2⟩
    · rename_i hw; rw [if_neg hw] at k; exact quiet_mono h k

theorem any_of_t (hs : Region.noSelect ops = true) (hQ : ∀ c a d v w, Q (.panic c) (a.put d v) w → Q (.panic c) a w) :
    ∀ (t : Ph) (S : World → Prop) (listed : Array Bool) (a : Act) (w : World) (n : Nat), tB md ops t listed n = true → S w → wpT P ops Q t S a w → wpAnyH P md ops Q S n listed a w
  | .fin last, S, listed, a, w, n, hb, hS, h => by
    unfold tB at hb
    simp only [Bool.and_eq_true, List.isEmpty_iff, beq_iff_eq] at hb
    obtain ⟨⟨h1, h2⟩, rfl⟩ := hb
    have e : last.length = last.length + 0 := rfl
    rw [e]
    refine still_block hs hQ hS 0 last listed a h1 ?_
    exact quiet_mono (fun a' hq => wpAnyH_done h2 hq 0) h
  | .one p k t, S, listed, a, w, n, hb, hS, h => by
    unfold tB at hb
    simp only [Bool.and_eq_true, decide_eq_true_iff] at hb
    obtain ⟨⟨⟨⟨h1, h2⟩, h3⟩, h5⟩, h4⟩ := hb
    obtain ⟨o, ho⟩ := Option.isSome_iff_exists.1 h3
    have hrd : Region.ready md ops (marked p listed) = [k] := by
      split at h2
      · rename_i j hj; rw [hj]; rw [beq_iff_eq] at h2; rw [h2]
      · cases h2
    obtain ⟨m, rfl⟩ : ∃ m, n = p.length + (m + 1) := ⟨n - (p.length + 1), by omega⟩
    rw [show p.length + (m + 1) - (p.length + 1) = m by omega] at h4
    refine still_block hs hQ hS _ p listed a h1 ?_
    unfold wpT at h
    refine quiet_mono (fun a' hq => ?_) h
    refine wpAnyH_all hrd (by simp) fun i hi => ?_
    rw [List.mem_singleton] at hi
    subst hi
    refine wpOp_step ho fun K' hK => ?_
    rw [ho] at hq
    refine hq K' fun a2 w2 h6 S' hS' hS2 h7 => hK _ _ ⟨h6, ?_⟩
    exact anyH_mono hS' _ _ _ _ (any_of_t hs hQ t S' _ a2 w2 _ h4 hS2 h7)
  | .two p k t k2 t2, S, listed, a, w, n, hb, hS, h => by
    unfold tB at hb
    simp only [Bool.and_eq_true, decide_eq_true_iff] at hb
    obtain ⟨⟨⟨⟨⟨⟨h1, h2⟩, h3⟩, h32⟩, h5⟩, h4⟩, h42⟩ := hb
    obtain ⟨o, ho⟩ := Option.isSome_iff_exists.1 h3
    obtain ⟨o2, ho2⟩ := Option.isSome_iff_exists.1 h32
    have hrd : Region.ready md ops (marked p listed) = [k, k2] := by
      split at h2
      · rename_i j j2 hj; rw [hj]; simp only [Bool.and_eq_true, beq_iff_eq] at h2; rw [h2.1, h2.2]
      · cases h2
    obtain ⟨m, rfl⟩ : ∃ m, n = p.length + (m + 1) := ⟨n - (p.length + 1), by omega⟩
    rw [show p.length + (m + 1) - (p.length + 1) = m by omega] at h4 h42
    refine still_block hs hQ hS _ p listed a h1 ?_
    unfold wpT at h
    refine quiet_mono (fun a' hq => ?_) h
    refine wpAnyH_all hrd (by simp) fun i hi => ?_
    rw [ho, ho2] at hq
    rcases List.mem_cons.1 hi with rfl | hi
    · refine wpOp_step ho fun K' hK => ?_
      refine hq.1 K' fun a2 w2 h6 S' hS' hS2 h7 => hK _ _ ⟨h6, ?_⟩
      exact anyH_mono hS' _ _ _ _ (any_of_t hs hQ t S' _ a2 w2 _ h4 hS2 h7)
    · rw [List.mem_singleton] at hi
      subst hi
      refine wpOp_step ho2 fun K' hK => ?_
      refine hq.2 K' fun a2 w2 h6 S' hS' hS2 h7 => hK _ _ ⟨h6, ?_⟩
      exact anyH_mono hS' _ _ _ _ (any_of_t hs hQ t2 S' _ a2 w2 _ h42 hS2 h7)

/-- A region that draws its order, by a tree of phases. -/
theorem region_tree {id : Nat} {a : Act} {w : World} {l : List Oper} (S : World → Prop) (t : Ph) (hm : P.follows .mixedOrders = true)
    (hB : (Region.noSelect l.toArray && tB .any l.toArray t (Array.replicate l.toArray.size false) l.toArray.size) = true)
    (hQ : ∀ c a d v w, Q (.panic c) (a.put d v) w → Q (.panic c) a w) (hS : S w.drew)
    (h : wpT P l.toArray Q t S a w.drew) : (Code.region id l.toArray true).wp P Q a w := by
  simp only [Bool.and_eq_true] at hB
  refine wp_region_held (S := S) hm ?_
  exact any_of_t hB.1 hQ t S _ a w.drew _ hB.2 hS h
end

end Go.CalmN

namespace Go.Proofs.YtkfelkpilaipnaaDoor
set_option maxRecDepth 100000
open Go.RowKit

/-- A slice value's address A, with these rules of a source, all of it below block B. -/
def RdPd (L : List Int) (w : World) (B : Nat) (A : Option Addr) (ps : List Y.Prd) : Prop :=
  ps.length ≠ 0 → ∃ g o, A = some ⟨g, o, none⟩ ∧ g < B ∧ ∀ i (h : i < ps.length), w.cell? ⟨g, o + i * 5, none⟩ = some (.string (K.str ps[i].l.t)) ∧ w.cell? ⟨g, o + i * 5 + 1, none⟩ = some (.complex .f64 (rfX L ps[i].l) (rfY L ps[i].l)) ∧ (∃ A' c', w.cell? ⟨g, o + i * 5 + 2, none⟩ = some (.slice A' ps[i].r.length c') ∧ RdRf L w B A' ps[i].r) ∧ w.cell? ⟨g, o + i * 5 + 3, none⟩ = some (.string (soS ps[i].p)) ∧ w.cell? ⟨g, o + i * 5 + 4, none⟩ = some (.complex .f64 (soX L ps[i].p) (soY L ps[i].p))
theorem RdPd.keep {L : List Int} {w w' : World} {B : Nat} {A : Option Addr} {xs : List Y.Prd} (h : RdPd L w B A xs) (hb : Below B w w') : RdPd L w' B A xs := fun hn => by
  obtain ⟨g, o, e, hg, hc⟩ := h hn
  refine ⟨g, o, e, hg, fun i hi => ?_⟩
  obtain ⟨h1, h2, ⟨A', c', h3, h4⟩, h5, h6⟩ := hc i hi
  exact ⟨(hb.cell (p := ⟨g, o + i * 5, none⟩) hg).trans h1, (hb.cell (p := ⟨g, o + i * 5 + 1, none⟩) hg).trans h2, ⟨A', c', (hb.cell (p := ⟨g, o + i * 5 + 2, none⟩) hg).trans h3, h4.keep hb⟩, (hb.cell (p := ⟨g, o + i * 5 + 3, none⟩) hg).trans h5, (hb.cell (p := ⟨g, o + i * 5 + 4, none⟩) hg).trans h6⟩
theorem left1_len {ts : List Gm.Tm} {ns ns' : List (List Int)} {x : Tok} (h : Gm.left1 ts ns x = .ok ns') (hl : ns.length ≤ 16) : ns'.length ≤ 16 := by
  rcases Gm.left1_ok h with ⟨rfl, _⟩ | ⟨rfl, _, _, h4⟩
  · exact hl
  · rw [List.length_append, List.length_singleton]; omega
theorem lefts_drop {ts : List Gm.Tm} {ns : List (List Int)} {ps : List Y.Prd} {i : Nat} (h : i < ps.length) : Gm.lefts ts ns (ps.drop i) = (Gm.left1 ts ns ps[i].l).bind fun ns => Gm.lefts ts ns (ps.drop (i + 1)) := by
  rw [List.drop_eq_getElem_cons h, Gm.lefts]
theorem lefts_end {ts : List Gm.Tm} {ns : List (List Int)} {ps : List Y.Prd} {i : Nat} (h : ps.length ≤ i) : Gm.lefts ts ns (ps.drop i) = .ok ns := by
  rw [List.drop_eq_nil_of_le h, Gm.lefts]
def pdCells (L : List Int) (p : Y.Prd) (A : Option Addr) (c : Nat) : Array Value := #[.string (K.str p.l.t), .complex .f64 (rfX L p.l) (rfY L p.l), .slice A p.r.length c, .string (soS p.p), .complex .f64 (soX L p.p) (soY L p.p)]

end Go.Proofs.YtkfelkpilaipnaaDoor

namespace Go.Proofs.YtkfelkpilaipnaaDoor
set_option maxRecDepth 100000
open Go.RowKit

/-- append of one rule to a slice of the call's own. -/
theorem apRl_wp {w : World} {o : Oper} {a : Act} {Q : Exit → Act → World → Prop} {K : Act → World → Prop}
    (s x : Operand) (t : TypeId) (ho : o.op = .call { callee := .builtin .append, args := #[s, x], argTypes := #[t, t] }) (ht : Tryd.prog.underlying t = some (.slice 43))
    (base N : Nat) (v : Value) (rs : List Gm.Rl) (hs : a.eval s = v) (hown : OwnRl w base N v rs) (g c : Nat) (q : RA) (hx : a.eval x = .slice (some ⟨g, 0, none⟩) 1 c) (hz : ∀ j u, (rlC q)[j]? = some u → w.cell? ⟨g, j, none⟩ = some u) (hr : q.1.r.length ≤ q.2.2 ∧ q.2.2 ≤ 9223372036854775807 ∧ RowI w base w.heap.size q.2.1 q.1.r)
    (hlen : rs.length ≤ 1000000) (hbase : base ≤ w.heap.size) (hN : N ≤ w.heap.size)
    (hK : ∀ v' w', OwnRl w' base w'.heap.size v' (rs ++ [q.1]) → w.grownBy w' v.ownBlock → K (a.put o.dst v') w') :
    o.wp Tryd.prog a w K Q := by
  obtain ⟨i, hi, hz0, hz1, hz2⟩ := info_parts infoRl
  obtain ⟨qs, hq1, hq2, hq3, hq4⟩ := hown
  have hlq : qs.length = rs.length := by rw [← hq1, List.length_map]
  refine wp_append_own w s x t ho base 43 i _ 3 40 ht hi hz0 hz1 hz2 rfl (by decide) v rs.length (rlsC qs) hs hq2 ⟨g, 0, none⟩ 1 c (rlC q) hx rfl ?_ ?_ (by unfold maxLen; omega) (by omega) hbase fun v' w' h1 h2 _ => hK v' w' ?_ h2
  · intro j u hj
    rw [addZ, Nat.zero_add]
    exact hz j u hj
  · intro u hu; simp [rlC] at hu; rcases hu with rfl | rfl | rfl <;> rfl
  · have hng : ∀ g', v.ownBlock = some g' → (∀ cur, w.heap[g']? ≠ some (.cells cur 3 (0, 0))) ∨ w.heap.size ≤ g' := fun g' e => by
      obtain ⟨_, cur, hc⟩ := own_holds hq2 e
      exact .inl (cells_ne hc (by decide))
    refine ⟨qs ++ [q], by rw [List.map_append, hq1]; rfl, ?_, fun k hk => ?_, fun p hp => ?_⟩
    · rw [List.length_append]
      unfold rlsC
      rw [List.flatMap_append, List.flatMap_singleton]
      exact h1
    · obtain ⟨_, cur, hc⟩ := own_holds h1 hk
      exact (Array.getElem?_eq_some_iff.1 hc).1
    · rcases List.mem_append.1 hp with h | h
      · obtain ⟨a1, a2, a3⟩ := hq4 p h
        exact ⟨a1, a2, ((a3.more hN).grown h2 hng).more h2.size⟩
      · rw [List.mem_singleton] at h
        subst h
        exact ⟨hr.1, hr.2.1, (hr.2.2.grown h2 hng).more h2.size⟩


/-- Numbers of the call's own, as a rule's. -/
theorem OwnI.row {w : World} {base B : Nat} {v : Value} {xs : List Int} (h : OwnI w base v xs) (hB : B ≤ base) : ∃ A c, v = .slice A xs.length c ∧ xs.length ≤ c ∧ c ≤ 9223372036854775807 ∧ RowI w B w.heap.size A xs := by
  rcases h.2 with ⟨rfl, h0⟩ | ⟨g, cap, cur, rfl, hb, hg, hn, hm, hs, ht⟩
  · exact ⟨none, 0, by rw [h0], by omega, by omega, fun hc => absurd h0 hc⟩
  · refine ⟨some ⟨g, 0, none⟩, cap, rfl, hn, by unfold maxLen at hm; omega, fun _ => ⟨g, cur, rfl, by omega, (Array.getElem?_eq_some_iff.1 hg).1, hg, fun j hj => ?_⟩⟩
    have hq : (cur.toList.take (xs.length * 1))[j]? = (xs.map (Value.int .i64))[j]? := by rw [ht]
    rw [List.getElem?_take_of_lt (by omega), List.getElem?_map, List.getElem?_eq_getElem hj] at hq
    simpa using hq
theorem rights_drop {ns : List (List Int)} {ts : List Gm.Tm} {acc : List Int} {p : Int} {xs : List Tok} {i : Nat} (h : i < xs.length) : Gm.rights ns ts acc p (xs.drop i) = if acc.length = 6 then .bad xs[i] 5 else (Gm.symR ns ts xs[i]).bind fun q => Gm.rights ns q.1 (acc ++ [q.2]) (if 0 ≤ q.2 then q.2 else p) (xs.drop (i + 1)) := by
  rw [List.drop_eq_getElem_cons h, Gm.rights]
theorem rights_end {ns : List (List Int)} {ts : List Gm.Tm} {acc : List Int} {p : Int} {xs : List Tok} {i : Nat} (h : xs.length ≤ i) : Gm.rights ns ts acc p (xs.drop i) = .ok (ts, acc, p) := by
  rw [List.drop_eq_nil_of_le h, Gm.rights]
theorem build_rl (z : Int) (w : World) : (Instr.build 43 #[(0, .int .i64 z), (2, .int .i64 (-1))]).run Tryd.prog w = .ok (.agg #[.int .i64 z, .slice none 0 0, .int .i64 (-1)]) w := run_build w 43 _ _ (by kernel_rfl)
theorem ownrl_form {w : World} {base N : Nat} {v : Value} {rs : List Gm.Rl} (h : OwnRl w base N v rs) : ∃ A c, v = .slice A rs.length c ∧ rs.length ≤ c ∧ c ≤ maxLen := by
  obtain ⟨qs, _, h2, _⟩ := h
  exact own_form h2
end Go.Proofs.YtkfelkpilaipnaaDoor

namespace Go.Proofs.YtkfelkpilaipnaaDoor
set_option maxRecDepth 100000
open Go.RowKit

theorem OwnI.set_away {w : World} {base g : Nat} {v : Value} {xs : List Int} {cs : Array Value} (h : OwnI w base v xs) (hg : w.heap[g]? = some (.cells cs 43 (0, 0))) (j : Nat) (u : Value) : OwnI (w.setCell ⟨g, j, none⟩ u) base v xs :=
  World.ownsRow.kept h (only_set (World.grownBy.refl _ _) j u) (own_away h hg (fun cur e => by injection e with _ e; cases e))

theorem ints_own_nil (w : World) (base : Nat) : OwnI w base (.slice none 0 0) [] := OwnI.nil w base
end Go.Proofs.YtkfelkpilaipnaaDoor

namespace Go.Proofs.YtkfelkpilaipnaaDoor
set_option maxRecDepth 100000
open Go.RowKit

theorem rf_of_own {L : List Int} {w : World} {base : Nat} {A : Option Addr} {xs : List Tok} (h : RdR L w base A xs) : RdRf L w w.heap.size A xs := fun hn => by
  obtain ⟨g, cur, e, _, hh, _⟩ := h hn
  obtain ⟨g', e', _, hc⟩ := h.cell hn
  rw [e] at e'
  injection e' with e'
  injection e' with e'
  subst e'
  refine ⟨g, 0, e, (Array.getElem?_eq_some_iff.1 hh).1, fun i hi => ⟨?_, ?_⟩⟩
  · have := hc i 0 _ hi (by omega) rfl
    rw [Nat.zero_add]; exact this
  · have := hc i 1 _ hi (by omega) rfl
    rw [Nat.zero_add]; exact this
theorem dl_of_own {L : List Int} {w : World} {base : Nat} {v : Value} {ds : List Y.Dcl} (h : OwnD L w base v ds) : ∃ A c, v = .slice A ds.length c ∧ RdDl L w w.heap.size A ds := by
  have h' := h
  obtain ⟨qs, _, h2, _⟩ := h'
  rcases h2.2 with ⟨hv, h0⟩ | ⟨g, cap, cur, hv, _, hg, _⟩
  · exact ⟨none, 0, by rw [hv, h0], fun hn => absurd h0 hn⟩
  · refine ⟨some ⟨g, 0, none⟩, cap, hv, fun hn => ⟨g, 0, rfl, (Array.getElem?_eq_some_iff.1 hg).1, fun i hi => ?_⟩⟩
    obtain ⟨D, c, A, c', hv', k1, k2, k3⟩ := h.at i hi
    rw [hv] at hv'
    injection hv' with e1 e2 e3
    injection e1 with e1
    injection e1 with e1
    subst e1
    rw [Nat.zero_add]
    exact ⟨k1, A, c', k2, rf_of_own k3⟩
theorem pd_of_own {L : List Int} {w : World} {base : Nat} {v : Value} {ps : List Y.Prd} (h : OwnP L w base v ps) : ∃ A c, v = .slice A ps.length c ∧ RdPd L w w.heap.size A ps := by
  have h' := h
  obtain ⟨qs, _, h2, _⟩ := h'
  rcases h2.2 with ⟨hv, h0⟩ | ⟨g, cap, cur, hv, _, hg, _⟩
  · exact ⟨none, 0, by rw [hv, h0], fun hn => absurd h0 hn⟩
  · refine ⟨some ⟨g, 0, none⟩, cap, hv, fun hn => ⟨g, 0, rfl, (Array.getElem?_eq_some_iff.1 hg).1, fun i hi => ?_⟩⟩
    obtain ⟨D, c, A, c', hv', k, k3⟩ := h.at i hi
    rw [hv] at hv'
    injection hv' with e1 e2 e3
    injection e1 with e1
    injection e1 with e1
    subst e1
    rw [Nat.zero_add]
    refine ⟨k 0 _ (by omega) rfl, k 1 _ (by omega) rfl, ⟨A, c', k 2 _ (by omega) rfl, rf_of_own k3⟩, ?_, ?_⟩
    · refine k 3 _ (by omega) ?_
      unfold pcells precells
      rcases ps[i].p with _ | x <;> rfl
    · refine k 4 _ (by omega) ?_
      unfold pcells precells
      rcases ps[i].p with _ | x <;> rfl
theorem rdi_of_row {w : World} {base N : Nat} {A : Option Addr} {zs : List Int} (h : RowI w base N A zs) (hN : N ≤ w.heap.size) : RdI w w.heap.size A zs := fun hn => by
  obtain ⟨g, cur, e, _, hg, hh, hc⟩ := h hn
  refine ⟨g, 0, e, by omega, fun j hj => ?_⟩
  rw [Nat.zero_add, cell_of_row w g _ _ _ _ hh]
  rw [hc j hj]
  simp [List.getD, hj]
theorem tm_of_own {w : World} {base : Nat} {v : Value} {ts : List Gm.Tm} (h : OwnTm w base v ts) : ∃ A c, v = .slice A ts.length c ∧ (ts.length ≤ c ∧ c ≤ 9223372036854775807) ∧ RdTm w w.heap.size A ts := by
  have h0 := h
  unfold OwnTm at h0
  rcases h0.2 with ⟨hv, h1⟩ | ⟨g, cap, cur, hv, _, hg, hn, hm, _⟩
  · exact ⟨none, 0, by rw [hv, h1], by omega, fun hn => absurd h1 hn⟩
  · refine ⟨some ⟨g, 0, none⟩, cap, hv, ⟨hn, by unfold maxLen at hm; omega⟩, fun _ => ⟨g, 0, rfl, (Array.getElem?_eq_some_iff.1 hg).1, fun i hi => ?_⟩⟩
    subst hv
    have k := fun (j : Nat) (u : Value) (hj : j < 3) (hu : (tmC ts[i])[j]? = some u) => World.ownsRow.cells h0 (g := g) rfl (i * 3 + j) u (by unfold tmsC; rw [three_at tmC (fun _ => rfl) ts i j hi hj]; exact hu)
    have k0 := k 0 _ (by omega) rfl
    have k1 := k 1 _ (by omega) rfl
    have k2 := k 2 _ (by omega) rfl
    rw [addZ, Nat.zero_add] at k0 k1 k2
    rw [Nat.zero_add]
    exact ⟨k0, k1, k2⟩
theorem n_of_own {w : World} {base : Nat} {v : Value} {ns : List (List Int)} (h : OwnN w base v ns) : ∃ A c, v = .slice A ns.length c ∧ (ns.length ≤ c ∧ c ≤ 9223372036854775807) ∧ RdN w w.heap.size A ns := by
  have h0 := h
  unfold OwnN at h0
  rcases h0.2 with ⟨hv, h1⟩ | ⟨g, cap, cur, hv, _, hg, hn, hm, _⟩
  · exact ⟨none, 0, by rw [hv, h1], by omega, fun hn => absurd h1 hn⟩
  · refine ⟨some ⟨g, 0, none⟩, cap, hv, ⟨hn, by unfold maxLen at hm; omega⟩, fun _ => ⟨g, 0, rfl, (Array.getElem?_eq_some_iff.1 hg).1, fun i hi => ?_⟩⟩
    subst hv
    have k := World.ownsRow.cells h0 (g := g) rfl i (.string (K.str ns[i])) (by unfold nmsC; simp [hi])
    rw [addZ, Nat.zero_add] at k
    rw [Nat.zero_add]
    exact k
theorem rl_of_own {w : World} {base N : Nat} {v : Value} {rs : List Gm.Rl} (h : OwnRl w base N v rs) (hN : N ≤ w.heap.size) : ∃ A c, v = .slice A rs.length c ∧ (rs.length ≤ c ∧ c ≤ 9223372036854775807) ∧ RdRl w w.heap.size A rs := by
  obtain ⟨qs, rfl, h0, _, hq⟩ := h
  rcases h0.2 with ⟨hv, h1⟩ | ⟨g, cap, cur, hv, _, hg, hn, hm, _⟩
  · exact ⟨none, 0, by rw [hv, h1], by omega, fun hn => absurd h1 hn⟩
  · refine ⟨some ⟨g, 0, none⟩, cap, hv, ⟨hn, by unfold maxLen at hm; omega⟩, fun _ => ⟨g, 0, rfl, (Array.getElem?_eq_some_iff.1 hg).1, fun i hi => ?_⟩⟩
    subst hv
    have hi' : i < qs.length := by simpa using hi
    have k := fun (j : Nat) (u : Value) (hj : j < 3) (hu : (rlC qs[i])[j]? = some u) => World.ownsRow.cells h0 (g := g) rfl (i * 3 + j) u (by unfold rlsC; rw [three_at rlC (fun _ => rfl) qs i j hi' hj]; exact hu)
    have k0 := k 0 _ (by omega) rfl
    have k1 := k 1 _ (by omega) rfl
    have k2 := k 2 _ (by omega) rfl
    rw [addZ, Nat.zero_add] at k0 k1 k2
    rw [Nat.zero_add]
    obtain ⟨q1, q2, q3⟩ := hq qs[i] (List.getElem_mem hi')
    simp only [List.getElem_map]
    exact ⟨k0, ⟨_, _, k1, q1, q2, rdi_of_row q3 hN⟩, k2⟩
end Go.Proofs.YtkfelkpilaipnaaDoor

namespace Go.Proofs.YtkfelkpilaipnaaDoor
set_option maxRecDepth 100000
open Go.RowKit

/-- The block of the document's builder: no start, no token of its own, no error. -/
def wC (vT vN vR : Value) (lv : Int) : Array Value := #[vT, vN, vR, .int .i64 0, .slice none 0 0, .string ⟨#[]⟩, .complex .f64 0 0, .bool false, .int .i64 lv, .complex .f64 0 0, .int .i64 0]
structure WRaw (w : World) (B N R : Nat) (cs : Array Value) (vT vN vR : Value) (ts : List Gm.Tm) (ns : List (List Int)) (rs : List Gm.Rl) : Prop where
  b : w.heap[R]? = some (.cells cs 80 (0, 0))
  t : OwnTm w B vT ts
  n : OwnN w B vN ns
  r : OwnRl w B N vR rs
  hR : B ≤ R
/-- What is written to a block that is none of the builder's. -/
structure Off9 (w : World) (N : Nat) (row : Option Nat) : Prop where
  h : ∀ g, row = some g → ∃ cs T, w.heap[g]? = some (.cells cs T (0, 0)) ∧ T ≠ 80 ∧ T ≠ 48 ∧ T ≠ 9 ∧ ((T ≠ 43 ∧ T ≠ 3) ∨ N ≤ g)
theorem Off9.none (w : World) (N : Nat) : Off9 w N .none := ⟨fun _ h => by cases h⟩
section
variable {w w' : World} {B N R : Nat} {cs : Array Value} {vT vN vR : Value} {ts : List Gm.Tm} {ns : List (List Int)} {rs : List Gm.Rl} {row : Option Nat}
theorem WRaw.grown (h : WRaw w B N R cs vT vN vR ts ns rs) (hg : w.grownBy w' row) (ho : Off9 w N row) : WRaw w' B N R cs vT vN vR ts ns rs := by
  have hb : some R ≠ row := fun e => by
    obtain ⟨cs, T, h1, h2, _⟩ := ho.h R e.symm
    exact cells_ne h1 h2 _ h.b
  refine ⟨(hg.block R (Array.getElem?_eq_some_iff.1 h.b).1 hb).trans h.b, World.ownsRow.kept h.t hg ?_, World.ownsRow.kept h.n hg ?_, h.r.grown hg ?_, h.hR⟩
  · rcases row with _ | g
    · exact none_away _
    · obtain ⟨cs, T, h1, _, h2, _⟩ := ho.h g rfl
      exact own_away h.t h1 (fun cur e => by injection e with _ e; exact h2 e)
  · rcases row with _ | g
    · exact none_away _
    · obtain ⟨cs, T, h1, _, _, h2, _⟩ := ho.h g rfl
      exact own_away h.n h1 (fun cur e => by injection e with _ e; exact h2 e)
  · intro g e
    obtain ⟨cs, T, h1, _, _, _, h2⟩ := ho.h g e
    rcases h2 with q | q
    · exact .inl ⟨cells_ne h1 q.2, cells_ne h1 q.1⟩
    · exact .inr q
theorem WRaw.below (h : WRaw w B N R cs vT vN vR ts ns rs) (hb : Below w.heap.size w w') : WRaw w' B N R cs vT vN vR ts ns rs := h.grown (only_below hb .none) (Off9.none _ _)
theorem WRaw.alloc (h : WRaw w B N R cs vT vN vR ts ns rs) (o : Obj) : WRaw (w.alloc o) B N R cs vT vN vR ts ns rs := h.grown (World.grownBy_alloc w o .none) (Off9.none _ _)
theorem WRaw.tm_put (h : WRaw w B N R cs vT vN vR ts ns rs) {v' : Value} {ts' : List Gm.Tm} (ht : OwnTm w' B v' ts') (hg : w.grownBy w' vT.ownBlock) : WRaw w' B N R cs v' vN vR ts' ns rs := by
  refine ⟨cells_row h.b h.t (by decide) hg, ht, World.ownsRow.kept h.n hg (other_row h.n h.t (by decide)), h.r.grown hg (fun g e => .inl ?_), h.hR⟩
  obtain ⟨_, cur, hc⟩ := own_holds h.t e
  exact ⟨cells_ne hc (by decide), cells_ne hc (by decide)⟩
theorem WRaw.n_put (h : WRaw w B N R cs vT vN vR ts ns rs) {v' : Value} {ns' : List (List Int)} (ht : OwnN w' B v' ns') (hg : w.grownBy w' vN.ownBlock) : WRaw w' B N R cs vT v' vR ts ns' rs := by
  refine ⟨cells_row h.b h.n (by decide) hg, World.ownsRow.kept h.t hg (other_row h.t h.n (by decide)), ht, h.r.grown hg (fun g e => .inl ?_), h.hR⟩
  obtain ⟨_, cur, hc⟩ := own_holds h.n e
  exact ⟨cells_ne hc (by decide), cells_ne hc (by decide)⟩
theorem WRaw.r_put {N' : Nat} (h : WRaw w B N R cs vT vN vR ts ns rs) {v' : Value} {rs' : List Gm.Rl} (ht : OwnRl w' B N' v' rs') (hg : w.grownBy w' vR.ownBlock) : WRaw w' B N' R cs vT vN v' ts ns rs' := by
  obtain ⟨qs, _, h2, _⟩ := id h.r
  exact ⟨cells_row h.b h2 (by decide) hg, World.ownsRow.kept h.t hg (other_row h.t h2 (by decide)), World.ownsRow.kept h.n hg (other_row h.n h2 (by decide)), ht, h.hR⟩
theorem WRaw.set (h : WRaw w B N R cs vT vN vR ts ns rs) (j : Nat) (u : Value) : WRaw (w.setCell ⟨R, j, none⟩ u) B N R (cs.setIfInBounds j u) vT vN vR ts ns rs := by
  have hg : w.grownBy (w.setCell ⟨R, j, none⟩ u) (some R) := only_set (World.grownBy.refl _ _) j u
  refine ⟨heap_setCell_same w R j _ _ u h.b, World.ownsRow.kept h.t hg (own_away h.t h.b (fun cur e => by injection e with _ e; cases e)), World.ownsRow.kept h.n hg (own_away h.n h.b (fun cur e => by injection e with _ e; cases e)), h.r.grown hg (fun g e => .inl ?_), h.hR⟩
  injection e with e
  subst e
  exact ⟨cells_ne h.b (by decide), cells_ne h.b (by decide)⟩
theorem WRaw.more {N' : Nat} (h : WRaw w B N R cs vT vN vR ts ns rs) (hN : N ≤ N') : WRaw w B N' R cs vT vN vR ts ns rs := ⟨h.b, h.t, h.n, h.r.more hN, h.hR⟩
theorem WRaw.at (h : WRaw w B N R cs vT vN vR ts ns rs) (j : Nat) : w.cell? ⟨R, j, none⟩ = cs[j]? ∧ w.frozen? ⟨R, j, none⟩ = false ∧ R < w.heap.size :=
  ⟨cell_of_row w R j _ _ _ h.b, frozen_of_row w R j _ _ h.b, (Array.getElem?_eq_some_iff.1 h.b).1⟩
theorem WRaw.lt (h : WRaw w B N R cs vT vN vR ts ns rs) : R < w.heap.size := (Array.getElem?_eq_some_iff.1 h.b).1
/-- What the builder has, as a grammar. -/
theorem WRaw.rd (h : WRaw w B N R cs vT vN vR ts ns rs) (hN : N ≤ w.heap.size) (z : Int) : RdGr w w.heap.size (.agg #[vT, vN, vR, .int .i64 z]) ⟨ts, ns, rs, z⟩ := by
  obtain ⟨AT, cT, rfl, h1, h2⟩ := tm_of_own h.t
  obtain ⟨AN, cN, rfl, h3, h4⟩ := n_of_own h.n
  obtain ⟨AR, cR, rfl, h5, h6⟩ := rl_of_own h.r hN
  exact ⟨AT, cT, AN, cN, AR, cR, rfl, h1, h3, h5, h2, h4, h6⟩
end
/-- What a call that goes on from w leaves as it was: blocks of other kinds than a builder and terminals; also none of names and rules. -/
def KpT (w w' : World) : Prop := ∀ (g : Nat) (cs : Array Value) (T : TypeId), w.heap[g]? = some (.cells cs T (0, 0)) → T ≠ 80 → T ≠ 48 → w'.heap[g]? = some (.cells cs T (0, 0))
def KpA (w w' : World) : Prop := ∀ (g : Nat) (cs : Array Value) (T : TypeId), w.heap[g]? = some (.cells cs T (0, 0)) → T ≠ 80 → T ≠ 48 → T ≠ 9 → T ≠ 43 → w'.heap[g]? = some (.cells cs T (0, 0))
theorem KpT.refl (w : World) : KpT w w := fun _ _ _ h _ _ => h
theorem KpA.refl (w : World) : KpA w w := fun _ _ _ h _ _ _ _ => h
theorem KpT.trans {a b c : World} (h : KpT a b) (k : KpT b c) : KpT a c := fun g cs T h1 h2 h3 => k g cs T (h g cs T h1 h2 h3) h2 h3
theorem KpA.trans {a b c : World} (h : KpA a b) (k : KpA b c) : KpA a c := fun g cs T h1 h2 h3 h4 h5 => k g cs T (h g cs T h1 h2 h3 h4 h5) h2 h3 h4 h5
theorem KpT.a {w w' : World} (h : KpT w w') : KpA w w' := fun g cs T h1 h2 h3 _ _ => h g cs T h1 h2 h3
theorem KpT.below {w w' : World} (h : Below w.heap.size w w') : KpT w w' := fun g _ _ h1 _ _ => (h.block g (Array.getElem?_eq_some_iff.1 h1).1).trans h1
theorem KpA.below {w w' : World} (h : Below w.heap.size w w') : KpA w w' := (KpT.below h).a
theorem KpT.cells {w w' : World} {g : Nat} (h : w.grownBy w' (some g)) {T : TypeId} {cs : Array Value} (hg : w.heap[g]? = some (.cells cs T (0, 0))) (hT : T = 80 ∨ T = 48) : KpT w w' := fun k cs' T' h1 h2 h3 => by
  refine (h.block k (Array.getElem?_eq_some_iff.1 h1).1 (fun e => ?_)).trans h1
  injection e with e
  subst e
  rw [hg] at h1; injection h1 with h1; injection h1 with _ h1
  rcases hT with q | q
  · exact h2 (h1.symm.trans q)
  · exact h3 (h1.symm.trans q)
theorem KpA.cells {w w' : World} {g : Nat} (h : w.grownBy w' (some g)) {T : TypeId} {cs : Array Value} (hg : w.heap[g]? = some (.cells cs T (0, 0))) (hT : T = 80 ∨ T = 48 ∨ T = 9 ∨ T = 43) : KpA w w' := fun k cs' T' h1 h2 h3 h4 h5 => by
  refine (h.block k (Array.getElem?_eq_some_iff.1 h1).1 (fun e => ?_)).trans h1
  injection e with e
  subst e
  rw [hg] at h1; injection h1 with h1; injection h1 with _ h1
  rcases hT with q | q | q | q
  · exact h2 (h1.symm.trans q)
  · exact h3 (h1.symm.trans q)
  · exact h4 (h1.symm.trans q)
  · exact h5 (h1.symm.trans q)
theorem KpT.own {w w' : World} {base size n : Nat} {v : Value} {xs : List Value} (ho : w.ownsRow base 48 size v n xs) (h : w.grownBy w' v.ownBlock) : KpT w w' := by
  rcases hv : v.ownBlock with _ | k
  · rw [hv] at h; exact fun g _ _ h1 _ _ => (h.block g (Array.getElem?_eq_some_iff.1 h1).1 (by simp)).trans h1
  · rw [hv] at h
    obtain ⟨_, cur, hc⟩ := own_holds ho hv
    exact KpT.cells h hc (.inr rfl)
theorem KpA.own {w w' : World} {base size n : Nat} {v : Value} {xs : List Value} {e : TypeId} (ho : w.ownsRow base e size v n xs) (h : w.grownBy w' v.ownBlock) (he : e = 48 ∨ e = 9 ∨ e = 43) : KpA w w' := by
  rcases hv : v.ownBlock with _ | k
  · rw [hv] at h; exact fun g _ _ h1 _ _ _ _ => (h.block g (Array.getElem?_eq_some_iff.1 h1).1 (by simp)).trans h1
  · rw [hv] at h
    obtain ⟨_, cur, hc⟩ := own_holds ho hv
    exact KpA.cells h hc (.inr he)
theorem KpT.set {w : World} {B N R : Nat} {cs : Array Value} {vT vN vR : Value} {ts : List Gm.Tm} {ns : List (List Int)} {rs : List Gm.Rl} (h : WRaw w B N R cs vT vN vR ts ns rs) (j : Nat) (u : Value) : KpT w (w.setCell ⟨R, j, none⟩ u) := KpT.cells (only_set (World.grownBy.refl w (some R)) j u) h.b (.inl rfl)
/-- The document's builder, where nothing is wrong. -/
def Wk (w : World) (B N R : Nat) (ts : List Gm.Tm) (ns : List (List Int)) (rs : List Gm.Rl) (lv : Int) : Prop := ∃ vT vN vR, WRaw w B N R (wC vT vN vR lv) vT vN vR ts ns rs
theorem Wk.below {w w' : World} {B N R : Nat} {ts : List Gm.Tm} {ns : List (List Int)} {rs : List Gm.Rl} {lv : Int} (h : Wk w B N R ts ns rs lv) (hb : Below w.heap.size w w') : Wk w' B N R ts ns rs lv := by
  obtain ⟨vT, vN, vR, h⟩ := h; exact ⟨vT, vN, vR, h.below hb⟩
theorem Wk.alloc {w : World} {B N R : Nat} {ts : List Gm.Tm} {ns : List (List Int)} {rs : List Gm.Rl} {lv : Int} (h : Wk w B N R ts ns rs lv) (o : Obj) : Wk (w.alloc o) B N R ts ns rs lv := by
  obtain ⟨vT, vN, vR, h⟩ := h; exact ⟨vT, vN, vR, h.alloc o⟩
theorem Wk.more {w : World} {B N N' R : Nat} {ts : List Gm.Tm} {ns : List (List Int)} {rs : List Gm.Rl} {lv : Int} (h : Wk w B N R ts ns rs lv) (hN : N ≤ N') : Wk w B N' R ts ns rs lv := by
  obtain ⟨vT, vN, vR, h⟩ := h; exact ⟨vT, vN, vR, h.more hN⟩
theorem Wk.lt {w : World} {B N R : Nat} {ts : List Gm.Tm} {ns : List (List Int)} {rs : List Gm.Rl} {lv : Int} (h : Wk w B N R ts ns rs lv) : R < w.heap.size ∧ B ≤ R := by
  obtain ⟨vT, vN, vR, h⟩ := h; exact ⟨h.lt, h.hR⟩
end Go.Proofs.YtkfelkpilaipnaaDoor

namespace Go.Proofs.YtkfelkpilaipnaaDoor
set_option maxRecDepth 100000
open Go.RowKit

theorem build_tm9 (s : ByteArray) (w : World) : (Instr.build 48 #[(0, .string s)]).run Tryd.prog w = .ok (.agg #[.string s, .int .i64 0, .int .i64 0]) w := run_build w 48 _ _ (by kernel_rfl)
/-- append of one terminal, met as one operation. -/
theorem apTm_wp {w : World} {o : Oper} {a : Act} {KK : Act → World → Prop} {Q : Exit → Act → World → Prop}
    (s x : Operand) (t : TypeId) (ho : o.op = .call { callee := .builtin .append, args := #[s, x], argTypes := #[t, t] }) (ht : Tryd.prog.underlying t = some (.slice 48))
    (base : Nat) (v : Value) (ts : List Gm.Tm) (hs : a.eval s = v) (hown : OwnTm w base v ts) (g c : Nat) (y : Gm.Tm) (hx : a.eval x = .slice (some ⟨g, 0, none⟩) 1 c) (hz : ∀ j, w.cell? ⟨g, j, none⟩ = (tmC y)[j]?)
    (hlen : ts.length ≤ 1000000) (hbase : base ≤ w.heap.size)
    (hK : ∀ v' w', OwnTm w' base v' (ts ++ [y]) → w.grownBy w' v.ownBlock → KK (a.put o.dst v') w') :
    o.wp Tryd.prog a w KK Q := by
  obtain ⟨i, hi, hz0, hz1, hz2⟩ := info_parts infoTm
  refine wp_append_own w s x t ho base 48 i _ 3 32 ht hi hz0 hz1 hz2 rfl (by decide) v ts.length (tmsC ts) hs hown ⟨g, 0, none⟩ 1 c (tmC y) hx rfl ?_ ?_ (by unfold maxLen; omega) (by omega) hbase fun v' w' h1 h2 _ => hK v' w' ?_ h2
  · intro j u hj
    rw [addZ, Nat.zero_add]
    exact (hz j).trans hj
  · intro u hu; simp [tmC] at hu; rcases hu with rfl | rfl | rfl <;> rfl
  · unfold OwnTm tmsC
    rw [List.length_append, List.flatMap_append, List.flatMap_singleton]; exact h1

set_option maxHeartbeats 8000000 in
theorem terminal9 (L : List Int) (B N R : Nat) (ts ts' : List Gm.Tm) (ns : List (List Int)) (rs : List Gm.Rl) (lv n : Int) (x : Tok) (w : World) (hw : Wk w B N R ts ns rs lv) (hf : Gm.Fit ⟨ts, ns, rs, 0⟩) (hx : K.Tx x.t) (hN : N ≤ w.heap.size) (hB : B ≤ w.heap.size) (hp : Gm.put ts x = .ok (ts', n)) (h24 : ts.length ≤ 24) :
    Calls Tryd.prog 84 #[.pointer (some ⟨R, 0, none⟩), refV L x] w fun e w' => e = .returned (.int .i64 n) ∧ Wk w' B N R ts' ns rs lv ∧ Below B w w' ∧ KpT w w' := by
  have HW := hide hw
  obtain ⟨vT, vN, vR, h⟩ := hw
  have HH := hide h
  obtain ⟨AT, cT, rfl, hc1, _⟩ := own_form h.t
  obtain ⟨AN, cN, rfl, _, _⟩ := own_form h.n
  have hr3 : ∃ AR cR, vR = .slice AR rs.length cR := by obtain ⟨qs, _, h2, _⟩ := id h.r; obtain ⟨A, c, e, _⟩ := own_form h2; exact ⟨A, c, e⟩
  obtain ⟨AR, cR, rfl⟩ := hr3
  obtain ⟨k0, hf0, hRs⟩ := h.at 0
  have k1 := (h.at 1).1
  have k2 := (h.at 2).1
  have k3 := (h.at 3).1
  simp only [wC, List.getElem?_toArray, List.getElem?_cons_zero, List.getElem?_cons_succ] at k0 k1 k2 k3
  have HX := hide (Below.refl w.heap.size w)
  unfold refV
  obtain ⟨w1, hw1⟩ : ∃ y, y = w.alloc (.cells #[.string (K.str x.t), .complex .f64 (Fl.fl (Pl.pos (L.take x.o)).1) (Fl.fl (Pl.pos (L.take x.o)).2)] 78) := ⟨_, rfl⟩
  have HB1 : Hid (Below w.heap.size w w1) := hide (by rw [hw1]; exact (Below.refl _ _).alloc (Nat.le_refl _) _)
  have HR1 : Hid (w1.heap[w.heap.size]? = some (.cells #[.string (K.str x.t), .complex .f64 (Fl.fl (Pl.pos (L.take x.o)).1) (Fl.fl (Pl.pos (L.take x.o)).2)] 78 (0, 0))) := hide (by rw [hw1]; exact heap_alloc_new w _)
  have HT := hide (fun (y : World) (hb : Below w1.heap.size w1 y) => term_any (.agg #[.slice AT ts.length cT, .slice AN ns.length cN, .slice AR rs.length cR, .int .i64 0]) ⟨ts, ns, rs, 0⟩ x.t w.heap.size y ((h.rd hN 0).below (HB1.out.trans (hb.mono HB1.out.size)) (Nat.le_refl _)) hf hx (Nat.le_trans HB1.out.size hb.size))
  unfold Gm.term at HT
  unfold Gm.put at hp
  have HP := hide hp
  have HF := hide hf
  clear hp h hf
  go_enter Tryd.func84, Tryd.ntmps84
  go_wp2_with fail
  rw [← hw1]
  clear hw1
  have hk := HB1.out
  have p0 := (hk.cell (p := ⟨R, 0, none⟩) hRs).trans k0
  have p1 := (hk.cell (p := ⟨R, 1, none⟩) hRs).trans k1
  have p2 := (hk.cell (p := ⟨R, 2, none⟩) hRs).trans k2
  have p3 := (hk.cell (p := ⟨R, 3, none⟩) hRs).trans k3
  have hR1 : R < w1.heap.size := Nat.lt_of_lt_of_le hRs hk.size
  have hb1 : w.heap.size < w1.heap.size := (Array.getElem?_eq_some_iff.1 HR1.out).1
  have t0 : w1.cell? ⟨w.heap.size, 0, none⟩ = some (.string (K.str x.t)) := by rw [cell_of_row w1 _ 0 _ _ _ HR1.out]; rfl
  have Q0 := fun y : Calm.On w1.heap.size w1 => (y.2.cell (p := ⟨R, 0, none⟩) hR1).trans p0
  have Q1 := fun y : Calm.On w1.heap.size w1 => (y.2.cell (p := ⟨R, 1, none⟩) hR1).trans p1
  have Q2 := fun y : Calm.On w1.heap.size w1 => (y.2.cell (p := ⟨R, 2, none⟩) hR1).trans p2
  have Q3 := fun y : Calm.On w1.heap.size w1 => (y.2.cell (p := ⟨R, 3, none⟩) hR1).trans p3
  have Q4 := fun y : Calm.On w1.heap.size w1 => (y.2.cell (p := ⟨w.heap.size, 0, none⟩) hb1).trans t0
  clear hk
  refine CalmN.region_tree (fun x => ∃ y : Calm.On w1.heap.size w1, x = y.1) (.one [0, 1, 2, 3, 4, 5] 6 (.fin [7])) (by kernel_rfl) (by kernel_rfl) (fun _ _ d _ _ h => by cases d <;> exact h) ⟨⟨w1.drew, below_drewN (Below.refl _ _) 1⟩, rfl⟩ ?_
  simp only [CalmN.wpT, CalmN.wpSt, CalmN.pickOps, List.getElem?_toArray, List.getElem?_cons_zero, List.getElem?_cons_succ]
  repeat (go_big_quiet_step (fail))
  refine wpQuiet_nil ?_
  clear Q0 Q1 Q2 Q3 Q4 p0 p1 p2 p3 t0 k0 k1 k2 k3
  intro KK hKK
  rw [if_pos (by rfl)]
  go_wp2_with fail
  refine (HT.out w1.drew (below_drewN (Below.refl _ _) 1)).mono ?_; rintro _ w2 ⟨rfl, hb2⟩
  have hb12 : Below w1.heap.size w1 w2 := (below_drewN (Below.refl w1.heap.size w1) 1).trans hb2
  have HB12 := hide hb12
  clear hb2
  go_wp2_with fail
  refine hKK _ _ ⟨⟨w2, hb12⟩, rfl⟩ (fun x => ∃ y : Calm.On w1.heap.size w1, x = y.1) (fun _ h => h) ⟨⟨w2, hb12⟩, rfl⟩ ?_
  repeat (go_big_quiet_step (fail))
  refine wpQuiet_nil ?_
  have HB2 := hide (HB1.out.trans (hb12.mono HB1.out.size))
  have HW2 := hide (HH.out.below HB2.out)
  have HR2 := hide ((hb12.block w.heap.size hb1).trans HR1.out)
  clear hb12 hKK
  by_cases h0 : 0 ≤ Gm.find (Gm.names ts) x.t
  · have HE : Hid (ts = ts' ∧ Gm.find (Gm.names ts) x.t = n) := hide (by have h := HP.out; rw [if_pos h0] at h; injection h with h; exact ⟨congrArg Prod.fst h, congrArg Prod.snd h⟩)
    rw [HE.out.2] at h0 ⊢
    go_wp2
    go_ret
    exact ⟨rfl, ⟨_, _, _, by rw [← HE.out.1]; exact HW2.out⟩, HB2.out.mono hB, KpT.below HB2.out⟩
  · have HE : Hid (ts ++ [⟨x.t, 0, 0⟩] = ts' ∧ (ts.length : Int) = n ∧ ts.length ≠ 24) := hide (by
      have h := HP.out
      rw [if_neg h0] at h
      by_cases h24 : ts.length = 24
      · rw [if_pos h24] at h; cases h
      · rw [if_neg h24] at h; injection h with h; exact ⟨congrArg Prod.fst h, congrArg Prod.snd h, h24⟩)
    have hl24 : ((ts.length : Int) == 24) = false := beq_eq_false_iff_ne.2 (by have := HE.out.2.2; omega)
    obtain ⟨k0, hf0, hR2⟩ := HW2.out.at 0
    simp only [wC, List.getElem?_toArray, List.getElem?_cons_zero] at k0
    generalize Gm.find (Gm.names ts) x.t = z at *
    go_wp2_with fail
    have HR2r := HR2
    have HB26 := hide (HB2.out.mono hB)
    have HO6 := hide ((HW2.out.alloc (.cells (tmC ⟨x.t, 0, 0⟩).toArray 48)).t)
    have HB6 : Hid (B ≤ (w2.alloc (.cells (tmC ⟨x.t, 0, 0⟩).toArray 48)).drew.heap.size) := hide (by have := HB2.out.size; simp; omega)
    have HCE := hide (new_cells w2 (tmC ⟨x.t, 0, 0⟩) 48)
    have HT6 : Hid ((w2.alloc (.cells (tmC ⟨x.t, 0, 0⟩).toArray 48)).heap[w.heap.size]? = w2.heap[w.heap.size]?) := hide (((Below.refl _ w2).alloc (Nat.le_refl _) _).block _ (Array.getElem?_eq_some_iff.1 HR2.out).1)
    have RB := fun w => build_tm9 (K.str x.t) w
    have D8 := fun y : Calm.OnB w.heap.size w2 => (show y.1.cell? ⟨w.heap.size, 0, none⟩ = some (.string (K.str x.t)) by rw [cell_of_row y.1 _ 0 _ _ _ (y.2.trans HR2.out)]; rfl)
    refine CalmN.region_tree (fun y => ∃ z : Calm.OnB w.heap.size w2, y = z.1) (.two [0, 1, 2, 3, 4, 6, 7, 8] 5 (.one [] 9 (.one [] 10 (.one [11, 12, 13] 14 (.fin [])))) 9 (.one [] 5 (.one [] 10 (.one [11, 12, 13] 14 (.fin []))))) (by kernel_rfl) (by kernel_rfl) (fun _ _ d _ _ h => by cases d <;> exact h) ⟨⟨w2.drew, rfl⟩, rfl⟩ ?_
    simp only [CalmN.wpT, CalmN.wpSt, CalmN.pickOps, List.getElem?_toArray, List.getElem?_cons_zero, List.getElem?_cons_succ]
    repeat (go_big_quiet_step (fail))
    refine wpQuiet_nil ?_
    clear D8
    refine ⟨?_, ?_⟩
    · intro KK hKK
      rw [if_pos (by rfl)]
      go_wp2_with fail
      refine hKK _ _ ⟨⟨w2.drew, rfl⟩, rfl⟩ (fun y => ∃ z : Calm.OnB w.heap.size w2, y = z.1) (fun _ h => h) ⟨⟨w2.drew, rfl⟩, rfl⟩ ?_
      refine wpQuiet_nil ?_
      intro KK hKK
      try rw [if_pos (by rfl)]
      go_wp2_with fail
      refine hKK _ _ ⟨⟨(w2.alloc (.cells (tmC ⟨x.t, 0, 0⟩).toArray 48)).drew, HT6.out⟩, rfl⟩ (fun y => ∃ z : Calm.OnB w.heap.size w2, y = z.1) (fun _ h => h) ⟨⟨(w2.alloc (.cells (tmC ⟨x.t, 0, 0⟩).toArray 48)).drew, HT6.out⟩, rfl⟩ ?_
      refine wpQuiet_nil ?_
      intro KK hKK
      try rw [if_pos (by rfl)]
      refine apTm_wp (w := (w2.alloc (.cells (tmC ⟨x.t, 0, 0⟩).toArray 48)).drew) (.tmp 31) (.tmp 35) _ rfl Tryd.underlying22 B (.slice AT ts.length cT) ts rfl HO6.out _ 1 ⟨x.t, 0, 0⟩ rfl HCE.out (by omega) HB6.out ?_
      intro v7 w7 ho7 hg7'
      have hg7 := (drew_grown (w2.alloc (.cells (tmC ⟨x.t, 0, 0⟩).toArray 48)) _).trans hg7'
      obtain ⟨A7, c7, hv7, _, _⟩ := own_form ho7
      rw [show (ts ++ [(⟨x.t, 0, 0⟩ : Gm.Tm)]).length = ts.length + 1 by simp] at hv7
      subst hv7
      have hW7 := (HW2.out.alloc (.cells (tmC ⟨x.t, 0, 0⟩).toArray 48)).tm_put ho7 hg7
      have HW7 := hide hW7
      obtain ⟨k7, hf7, hR7⟩ := hW7.at 0
      simp only [wC, List.getElem?_toArray, List.getElem?_cons_zero] at k7
      have hK7 := (KpT.below ((Below.refl _ w2).alloc (Nat.le_refl _) (.cells (tmC ⟨x.t, 0, 0⟩).toArray 48))).trans (KpT.own (HW2.out.alloc (.cells (tmC ⟨x.t, 0, 0⟩).toArray 48)).t hg7)
      have HK7 := hide hK7
      have HT7 : Hid (w7.heap[w.heap.size]? = w2.heap[w.heap.size]?) := hide ((hK7 _ _ _ HR2r.out (by decide) (by decide)).trans HR2r.out.symm)
      have HB7 := hide ((HB26.out.alloc (Nat.le_trans hB HB2.out.size) (.cells (tmC ⟨x.t, 0, 0⟩).toArray 48)).grown hg7 (by have := HB2.out.size; simp; omega) (fun k e => (own_holds HW2.out.t e).1))
      clear ho7 hg7 hg7' hW7 hK7
      go_wp2_with fail
      refine hKK _ _ ⟨⟨w7, HT7.out⟩, rfl⟩ (fun y => ∃ z : Calm.OnB w.heap.size w2, y = z.1) (fun _ h => h) ⟨⟨w7, HT7.out⟩, rfl⟩ ?_
      repeat (go_big_quiet_step (fail))
      refine wpQuiet_nil ?_
      intro KK hKK
      try rw [if_pos (by rfl)]
      go_wp2_with fail
      have HW8 := hide (HW7.out.set 0 (.slice A7 (ts.length + 1) c7))
      have HK8 := hide (HK7.out.trans (KpT.set HW7.out 0 (.slice A7 (ts.length + 1) c7)))
      have HB8 := hide (HB7.out.setCell (p := ⟨R, 0, none⟩) HW7.out.hR (.slice A7 (ts.length + 1) c7))
      have HT8 : Hid ((w7.setCell ⟨R, 0, none⟩ (.slice A7 (ts.length + 1) c7)).heap[w.heap.size]? = w2.heap[w.heap.size]?) := hide ((HK8.out _ _ _ HR2r.out (by decide) (by decide)).trans HR2r.out.symm)
      refine hKK _ _ ⟨⟨_, HT8.out⟩, rfl⟩ (fun y => ∃ z : Calm.OnB w.heap.size w2, y = z.1) (fun _ h => h) ⟨⟨_, HT8.out⟩, rfl⟩ ?_
      refine wpQuiet_nil ?_
      obtain ⟨k8, _, hR8⟩ := HW8.out.at 0
      simp only [wC, List.setIfInBounds_toArray, List.set_cons_zero, List.getElem?_toArray, List.getElem?_cons_zero] at k8
      clear k7 hf7
      go_wp2
      go_ret
      refine ⟨by simp; exact HE.out.2.1, ⟨_, _, _, by rw [← HE.out.1]; exact HW8.out⟩, HB8.out, (KpT.below HB2.out).trans HK8.out⟩
    · intro KK hKK
      rw [if_pos (by rfl)]
      go_wp2_with fail
      refine hKK _ _ ⟨⟨(w2.alloc (.cells (tmC ⟨x.t, 0, 0⟩).toArray 48)).drew, HT6.out⟩, rfl⟩ (fun y => ∃ z : Calm.OnB w.heap.size w2, y = z.1) (fun _ h => h) ⟨⟨(w2.alloc (.cells (tmC ⟨x.t, 0, 0⟩).toArray 48)).drew, HT6.out⟩, rfl⟩ ?_
      refine wpQuiet_nil ?_
      intro KK hKK
      try rw [if_pos (by rfl)]
      go_wp2_with fail
      refine hKK _ _ ⟨⟨(w2.alloc (.cells (tmC ⟨x.t, 0, 0⟩).toArray 48)).drew, HT6.out⟩, rfl⟩ (fun y => ∃ z : Calm.OnB w.heap.size w2, y = z.1) (fun _ h => h) ⟨⟨(w2.alloc (.cells (tmC ⟨x.t, 0, 0⟩).toArray 48)).drew, HT6.out⟩, rfl⟩ ?_
      refine wpQuiet_nil ?_
      intro KK hKK
      try rw [if_pos (by rfl)]
      refine apTm_wp (w := (w2.alloc (.cells (tmC ⟨x.t, 0, 0⟩).toArray 48)).drew) (.tmp 31) (.tmp 35) _ rfl Tryd.underlying22 B (.slice AT ts.length cT) ts rfl HO6.out _ 1 ⟨x.t, 0, 0⟩ rfl HCE.out (by omega) HB6.out ?_
      intro v7 w7 ho7 hg7'
      have hg7 := (drew_grown (w2.alloc (.cells (tmC ⟨x.t, 0, 0⟩).toArray 48)) _).trans hg7'
      obtain ⟨A7, c7, hv7, _, _⟩ := own_form ho7
      rw [show (ts ++ [(⟨x.t, 0, 0⟩ : Gm.Tm)]).length = ts.length + 1 by simp] at hv7
      subst hv7
      have hW7 := (HW2.out.alloc (.cells (tmC ⟨x.t, 0, 0⟩).toArray 48)).tm_put ho7 hg7
      have HW7 := hide hW7
      obtain ⟨k7, hf7, hR7⟩ := hW7.at 0
      simp only [wC, List.getElem?_toArray, List.getElem?_cons_zero] at k7
      have hK7 := (KpT.below ((Below.refl _ w2).alloc (Nat.le_refl _) (.cells (tmC ⟨x.t, 0, 0⟩).toArray 48))).trans (KpT.own (HW2.out.alloc (.cells (tmC ⟨x.t, 0, 0⟩).toArray 48)).t hg7)
      have HK7 := hide hK7
      have HT7 : Hid (w7.heap[w.heap.size]? = w2.heap[w.heap.size]?) := hide ((hK7 _ _ _ HR2r.out (by decide) (by decide)).trans HR2r.out.symm)
      have HB7 := hide ((HB26.out.alloc (Nat.le_trans hB HB2.out.size) (.cells (tmC ⟨x.t, 0, 0⟩).toArray 48)).grown hg7 (by have := HB2.out.size; simp; omega) (fun k e => (own_holds HW2.out.t e).1))
      clear ho7 hg7 hg7' hW7 hK7
      go_wp2_with fail
      refine hKK _ _ ⟨⟨w7, HT7.out⟩, rfl⟩ (fun y => ∃ z : Calm.OnB w.heap.size w2, y = z.1) (fun _ h => h) ⟨⟨w7, HT7.out⟩, rfl⟩ ?_
      repeat (go_big_quiet_step (fail))
      refine wpQuiet_nil ?_
      intro KK hKK
      try rw [if_pos (by rfl)]
      go_wp2_with fail
      have HW8 := hide (HW7.out.set 0 (.slice A7 (ts.length + 1) c7))
      have HK8 := hide (HK7.out.trans (KpT.set HW7.out 0 (.slice A7 (ts.length + 1) c7)))
      have HB8 := hide (HB7.out.setCell (p := ⟨R, 0, none⟩) HW7.out.hR (.slice A7 (ts.length + 1) c7))
      have HT8 : Hid ((w7.setCell ⟨R, 0, none⟩ (.slice A7 (ts.length + 1) c7)).heap[w.heap.size]? = w2.heap[w.heap.size]?) := hide ((HK8.out _ _ _ HR2r.out (by decide) (by decide)).trans HR2r.out.symm)
      refine hKK _ _ ⟨⟨_, HT8.out⟩, rfl⟩ (fun y => ∃ z : Calm.OnB w.heap.size w2, y = z.1) (fun _ h => h) ⟨⟨_, HT8.out⟩, rfl⟩ ?_
      refine wpQuiet_nil ?_
      obtain ⟨k8, _, hR8⟩ := HW8.out.at 0
      simp only [wC, List.setIfInBounds_toArray, List.set_cons_zero, List.getElem?_toArray, List.getElem?_cons_zero] at k8
      clear k7 hf7
      go_wp2
      go_ret
      refine ⟨by simp; exact HE.out.2.1, ⟨_, _, _, by rw [← HE.out.1]; exact HW8.out⟩, HB8.out, (KpT.below HB2.out).trans HK8.out⟩
end Go.Proofs.YtkfelkpilaipnaaDoor

namespace Go.Proofs.YtkfelkpilaipnaaDoor
set_option maxRecDepth 100000

namespace Sh
theorem run_app (p : Int → Bool) (l r : List Int) (z : Int) (h : ∀ j, j < l.length → p (l.getD j 0) = true) (hz : p z = false) : T.run p (l ++ z :: r) = l.length := by
  induction l with
  | nil => simp [T.run, hz]
  | cons y l ih =>
    have h0 := h 0 (by simp)
    have h0' : p y = true := by simpa using h0
    rw [List.cons_append, T.run, if_pos h0', ih (fun j hj => by have := h (j + 1) (by simp; omega); simpa using this)]
    simp
theorem nsize_app (l r : List Int) (z : Int) (h : T.isName l = true) (hz : T.inName z = false) : T.nsize (l ++ z :: r) = l.length := by
  rw [T.isName_iff] at h
  simp only [Bool.and_eq_true, decide_eq_true_eq] at h
  obtain ⟨⟨⟨h1, h2⟩, h3⟩, h4⟩ := h
  cases l with
  | nil => simp at h1
  | cons y l =>
    rw [List.cons_append, T.nsize_cons, if_pos (by simpa using h3), run_app T.inName l r z (fun j hj => by have := h4 (j + 1) (by simp; omega); simpa using this) hz]
    simp
theorem name_pos {l : List Int} (h : T.isName l = true) : 0 < l.length ∧ l.length ≤ 20 := by
  rw [T.isName_iff] at h
  simp only [Bool.and_eq_true, decide_eq_true_eq] at h
  omega
theorem name_head {l : List Int} (h : T.isName l = true) (r : List Int) : T.head ((l ++ r).getD 0 0) = true := by
  have hp := (name_pos h).1
  rw [T.isName_iff] at h
  simp only [Bool.and_eq_true, decide_eq_true_eq] at h
  rw [L.append_getD_lt _ _ _ hp]
  exact h.1.2
theorem getD_at {α : Type} (l : List α) (j : Nat) (d : α) (h : j < l.length) : l.getD j d = l[j] := by
  rw [List.getD_eq_getElem?_getD, List.getElem?_eq_getElem h]; rfl
/-- Words, one blank between. -/
def joinW : List (List Int) → List Int
  | [] => []
  | [w] => w
  | w :: v :: r => w ++ 32 :: joinW (v :: r)
def lineOf (ws : List (List Int)) : List Int := joinW ws ++ [10]
def flat (ls : List (List (List Int))) : List Int := ls.flatMap lineOf
def wToken : List Int := [37, 116, 111, 107, 101, 110]
def wLeft : List Int := [37, 108, 101, 102, 116]
def wRight : List Int := [37, 114, 105, 103, 104, 116]
def wNon : List Int := [37, 110, 111, 110, 97, 115, 115, 111, 99]
def wStart : List Int := [37, 115, 116, 97, 114, 116]
def wPrec : List Int := [37, 112, 114, 101, 99]
def wMark : List Int := [37, 37]
def wColon : List Int := [58]
def wSemi : List Int := [59]
/-- The word of a level whose terminals associate so. -/
def wayW (a : Int) : List Int := if a = 1 then wLeft else if a = 2 then wRight else wNon
def tokens (ts : List Gm.Tm) : List (List (List Int)) := ts.map fun t => [wToken, t.nm]
/-- The greatest level. -/
def top (ts : List Gm.Tm) : Int := ts.foldl (fun m t => if m < t.lv then t.lv else m) 0
/-- The terminals of a level. -/
def onLev (ts : List Gm.Tm) (n : Int) : List Gm.Tm := ts.filter fun t => t.lv == n
def level (ts : List Gm.Tm) (n : Int) : List (List Int) := match onLev ts n with
  | [] => []
  | t :: r => wayW t.wy :: (t :: r).map Gm.Tm.nm
def levels (ts : List Gm.Tm) : List (List (List Int)) := (List.range (top ts).toNat).map fun i => level ts ((i + 1 : Nat) : Int)
/-- The last terminal of symbols; -1: there is none. -/
def last (l : List Int) : Int := l.foldl (fun m z => if 0 ≤ z then z else m) (-1)
def rule (G : Gm.Gr) (r : Gm.Rl) : List (List Int) := G.ns.getD r.l.toNat [] :: wColon :: (r.r.map (Gm.name G) ++ (if r.p = last r.r then [] else [wPrec, Gm.name G r.p]) ++ [wSemi])
def lines (G : Gm.Gr) : List (List (List Int)) := tokens G.ts ++ levels G.ts ++ [[wStart, G.ns.getD G.st.toNat []]] ++ [[wMark]] ++ G.rs.map (rule G)
/-- The text of a grammar. -/
def text (G : Gm.Gr) : List Int := flat (lines G)

/-- A word's kind. -/
def wkind (w : List Int) : Int := (T.piece (w ++ [32])).1
/-- A word: with a blank or a line feed behind it, it is one token. -/
def Wd (w : List Int) : Prop := 0 < w.length ∧ wkind w ≠ 0 ∧ ∀ s r, (s = 32 ∨ s = 10) → T.piece (w ++ s :: r) = (wkind w, w.length, 0)
def wkey (w : List Int) : Int × List Int := (wkind w, ttext (wkind w) w)
def key (x : Tok) : Int × List Int := (x.k, x.t)

theorem wd_name {w : List Int} (h : T.isName w = true) : Wd w ∧ wkind w = 1 := by
  have hp := name_pos h
  have hall : ∀ s r, (s = 32 ∨ s = 10) → T.piece (w ++ s :: r) = (1, w.length, 0) := by
    intro s r hs
    have hh := name_head h (s :: r)
    have hn := nsize_app w r s h (by rcases hs with rfl | rfl <;> decide)
    unfold T.piece
    simp only
    generalize (w ++ s :: r).getD 0 0 = z at hh ⊢
    have hz : (97 ≤ z ∧ z ≤ 122) ∨ (65 ≤ z ∧ z ≤ 90) ∨ z = 95 := by
      simp [T.head, T.small] at hh; omega
    rw [if_neg (by omega), if_neg (by omega), if_neg (by omega), if_neg (by omega), if_neg (by omega), if_neg (by omega), if_neg (by omega), if_neg (by omega), if_neg (by omega)]
    unfold T.name
    rw [hn, if_neg (by omega), if_neg (by omega)]
  have hk : wkind w = 1 := by unfold wkind; rw [hall 32 [] (Or.inl rfl)]
  exact ⟨⟨hp.1, by rw [hk]; decide, by rw [hk]; exact hall⟩, hk⟩
theorem wd_lit {w : List Int} (h : T.isLit w = true) : Wd w ∧ wkind w = 2 := by
  have hp := T.isLit_len h
  have hall : ∀ s r, (s = 32 ∨ s = 10) → T.piece (w ++ s :: r) = (2, w.length, 0) := by
    intro s r hs
    obtain ⟨m, hm⟩ := T.isLit_bare w h
    have hz : (w ++ s :: r).getD 0 0 = 39 := by rw [hm]; rfl
    unfold T.piece
    simp only
    rw [hz, if_neg (by decide), if_neg (by decide), if_neg (by decide), if_neg (by decide), if_neg (by decide), if_pos rfl]
    unfold T.literal
    match w, h with
    | [a, b, c], h => rw [show ([a, b, c] ++ s :: r).take 3 = [a, b, c] from rfl, if_pos h]; rfl
    | [a, b, c, d], h =>
      have h3 : T.isLit [a, b, c] = false := by
        simp [T.isLit] at h
        obtain ⟨⟨⟨_, _⟩, rfl⟩, _⟩ := h
        simp [T.isLit]
      rw [show ([a, b, c, d] ++ s :: r).take 3 = [a, b, c] from rfl, show ([a, b, c, d] ++ s :: r).take 4 = [a, b, c, d] from rfl, if_neg (by rw [h3]; simp), if_pos h]
      rfl
  have hk : wkind w = 2 := by unfold wkind; rw [hall 32 [] (Or.inl rfl)]
  exact ⟨⟨by omega, by rw [hk]; decide, by rw [hk]; exact hall⟩, hk⟩
/-- A text that may be a terminal's. -/
theorem wd_named {w : List Int} (h : Gm.named w = true) : Wd w ∧ (wkind w = 1 ∨ wkind w = 2) := by
  unfold Gm.named at h
  rw [Bool.or_eq_true] at h
  rcases h with h | h
  · exact ⟨(wd_name h).1, .inl (wd_name h).2⟩
  · exact ⟨(wd_lit h).1, .inr (wd_lit h).2⟩
theorem wd_key {w : List Int} (h : wkind w = 1 ∨ wkind w = 2) : ttext (wkind w) w = w := by unfold ttext; rw [if_pos h]

theorem hasPrefix_no (a b : Int) (l : List Int) (ha : 0 ≤ a ∧ a < 256) (hb : 0 ≤ b ∧ b < 256) (h : a ≠ b) (p : List Int) : T.pre (37 :: a :: l) (37 :: b :: p) = false := by
  unfold T.pre Lib.hasPrefix
  rw [Bool.eq_false_iff]
  intro q
  have q := List.isPrefixOf_iff_prefix.1 q
  obtain ⟨t, ht⟩ := q
  simp only [Lib.bytesOf, List.map_cons, List.cons_append, List.cons.injEq] at ht
  obtain ⟨_, h2, _⟩ := ht
  have := congrArg UInt8.toNat h2
  simp at this
  omega
/-- A word that a percent sign begins. -/
theorem wd_percent (a : Int) (v : List Int) (k : Int) (ha : 97 ≤ a ∧ a ≤ 122) (hv : ∀ z ∈ v, 97 ≤ z ∧ z ≤ 122) (hk : T.wkind (a :: v) = k) (hk0 : k ≠ 0) : Wd (37 :: a :: v) ∧ wkind (37 :: a :: v) = k := by
  have hrun : ∀ s r, (s = 32 ∨ s = 10) → T.psize ((37 :: a :: v) ++ s :: r) = (37 :: a :: v).length := by
    intro s r hs
    unfold T.psize
    have e : ((37 :: a :: v) ++ s :: r).drop 1 = (a :: v) ++ s :: r := rfl
    rw [e, run_app T.small (a :: v) r s _ (by rcases hs with rfl | rfl <;> decide)]
    · simp only [List.length_cons]; omega
    · intro j hj
      have hm : (a :: v).getD j 0 ∈ a :: v := by
        rw [getD_at _ _ _ hj]; exact List.getElem_mem hj
      have : 97 ≤ (a :: v).getD j 0 ∧ (a :: v).getD j 0 ≤ 122 := by
        rcases List.mem_cons.1 hm with q | q
        · rw [q]; exact ha
        · exact hv _ q
      unfold T.small
      simp only [Bool.and_eq_true, decide_eq_true_eq]
      exact this
  have hall : ∀ s r, (s = 32 ∨ s = 10) → T.piece ((37 :: a :: v) ++ s :: r) = (k, (37 :: a :: v).length, 0) := by
    intro s r hs
    have hr := hrun s r hs
    unfold T.piece
    have hz : ((37 :: a :: v) ++ s :: r).getD 0 0 = 37 := rfl
    simp only
    rw [hz, if_neg (by decide), if_neg (by decide), if_neg (by decide), if_neg (by decide), if_pos rfl]
    unfold T.percent
    rw [hr]
    have e : (((37 :: a :: v) ++ s :: r).take (37 :: a :: v).length).drop 1 = a :: v := by rw [List.take_left]; rfl
    rw [e, hk]
    have n1 : T.pre ((37 :: a :: v) ++ s :: r) [37, 37] = false := hasPrefix_no a 37 _ (by omega) (by omega) (by omega) []
    have n2 : T.pre ((37 :: a :: v) ++ s :: r) [37, 123] = false := hasPrefix_no a 123 _ (by omega) (by omega) (by omega) []
    rw [if_neg (by rw [n1]; simp), if_neg (by rw [n2]; simp), if_neg hk0]
  have hk' : wkind (37 :: a :: v) = k := by unfold wkind; rw [hall 32 [] (Or.inl rfl)]
  exact ⟨⟨by simp, by rw [hk']; exact hk0, by rw [hk']; exact hall⟩, hk'⟩
theorem wd_token : Wd wToken ∧ wkind wToken = 3 := wd_percent 116 _ 3 (by decide) (by decide) (by decide) (by decide)
theorem wd_left : Wd wLeft ∧ wkind wLeft = 4 := wd_percent 108 _ 4 (by decide) (by decide) (by decide) (by decide)
theorem wd_right : Wd wRight ∧ wkind wRight = 5 := wd_percent 114 _ 5 (by decide) (by decide) (by decide) (by decide)
theorem wd_non : Wd wNon ∧ wkind wNon = 6 := wd_percent 110 _ 6 (by decide) (by decide) (by decide) (by decide)
theorem wd_start : Wd wStart ∧ wkind wStart = 7 := wd_percent 115 _ 7 (by decide) (by decide) (by decide) (by decide)
theorem wd_prec : Wd wPrec ∧ wkind wPrec = 8 := wd_percent 112 _ 8 (by decide) (by decide) (by decide) (by decide)
theorem pre_two (a b : Int) (l : List Int) : T.pre (a :: b :: l) [a, b] = true := by
  unfold T.pre Lib.hasPrefix
  rw [List.isPrefixOf_iff_prefix]
  exact ⟨Lib.bytesOf l, by simp [Lib.bytesOf]⟩
theorem wd_mark : Wd wMark ∧ wkind wMark = 9 := by
  have hall : ∀ s r, (s = 32 ∨ s = 10) → T.piece (wMark ++ s :: r) = (9, 2, 0) := by
    intro s r hs
    unfold T.piece
    have hz : (wMark ++ s :: r).getD 0 0 = 37 := rfl
    simp only
    rw [hz, if_neg (by decide), if_neg (by decide), if_neg (by decide), if_neg (by decide), if_pos rfl]
    unfold T.percent
    rw [if_pos (show T.pre (wMark ++ s :: r) [37, 37] = true from pre_two 37 37 _)]
  have hk : wkind wMark = 9 := by unfold wkind; rw [hall 32 [] (Or.inl rfl)]
  exact ⟨⟨by decide, by rw [hk]; decide, by rw [hk]; exact hall⟩, hk⟩
theorem wd_colon : Wd wColon ∧ wkind wColon = 10 := ⟨⟨by decide, by decide, fun _ _ _ => rfl⟩, rfl⟩
theorem wd_semi : Wd wSemi ∧ wkind wSemi = 12 := ⟨⟨by decide, by decide, fun _ _ _ => rfl⟩, rfl⟩

/-- One word, and what parts it from the next one. -/
theorem scan_word (w r : List Int) (s : Int) (hw : Wd w) (hs : s = 32 ∨ s = 10) (f k m : Nat) (acc : List Tok) (hm : m ≠ 2) (hm' : (if wkind w = 9 then m + 1 else m) ≠ 2) :
    scan (f + 2) (w ++ s :: r) k m acc = scan f r (k + w.length + 1) (if wkind w = 9 then m + 1 else m) (acc ++ [⟨wkind w, ttext (wkind w) w, k⟩]) := by
  obtain ⟨h0, h1, h2⟩ := hw
  have hp := h2 s r hs
  rw [scan_on (f + 1) (w ++ s :: r) k m acc (by simp; omega) (by rw [hp]), hp]
  simp only
  have e1 : (w ++ s :: r).drop w.length = s :: r := List.drop_left
  have e2 : marksOn m (wkind w, w.length, 0) = if wkind w = 9 then m + 1 else m := rfl
  have e3 : more acc k (wkind w, w.length, 0) (w ++ s :: r) = acc ++ [⟨wkind w, ttext (wkind w) w, k⟩] := by
    unfold more
    rw [if_neg h1]
    simp only [List.take_left]
  have hb : T.piece (s :: r) = (0, 1, 0) := by rcases hs with rfl | rfl <;> rfl
  rw [e1, e2, e3]
  generalize (if wkind w = 9 then m + 1 else m) = m' at hm' ⊢
  rw [scan_on f (s :: r) _ m' _ (by simp; omega) (by rw [hb]), hb]
  rfl
/-- Words, each with what parts it from the next one. -/
def laid (ps : List (List Int × Int)) : List Int := ps.flatMap fun p => p.1 ++ [p.2]
theorem scan_laid : ∀ (ps : List (List Int × Int)) (f k m : Nat) (acc : List Tok), (∀ p ∈ ps, Wd p.1 ∧ (p.2 = 32 ∨ p.2 = 10)) → m + (ps.filter fun p => wkind p.1 == 9).length < 2 → 2 * ps.length ≤ f →
    ∃ xs : List Tok, xs.map key = ps.map (fun p => wkey p.1) ∧ scan f (laid ps) k m acc = .ok (acc ++ xs)
  | [], f, k, m, acc, _, _, _ => ⟨[], rfl, by rw [show laid [] = [] from rfl, scan_end _ _ _ _ _ (Or.inl rfl), List.append_nil]⟩
  | (w, s) :: ps, f, k, m, acc, h, hm, hf => by
    obtain ⟨hw, hs⟩ := h (w, s) (by simp)
    simp only [List.length_cons] at hf
    obtain ⟨f, rfl⟩ : ∃ f', f = f' + 2 := ⟨f - 2, by omega⟩
    have hm2 : m + ((if wkind w = 9 then 1 else 0) + (ps.filter fun p => wkind p.1 == 9).length) < 2 := by
      rw [List.filter_cons] at hm
      by_cases h9 : wkind w = 9
      · rw [if_pos (by simpa using h9), List.length_cons] at hm; rw [if_pos h9]; omega
      · rw [if_neg (by simpa using h9)] at hm; rw [if_neg h9]; omega
    have hm' : (if wkind w = 9 then m + 1 else m) + (ps.filter fun p => wkind p.1 == 9).length < 2 := by
      by_cases h9 : wkind w = 9
      · rw [if_pos h9] at hm2 ⊢; omega
      · rw [if_neg h9] at hm2 ⊢; omega
    obtain ⟨xs, h1, h2⟩ := scan_laid ps f (k + w.length + 1) (if wkind w = 9 then m + 1 else m) (acc ++ [⟨wkind w, ttext (wkind w) w, k⟩]) (fun p hp => h p (by simp [hp])) hm' (by omega)
    have e : laid ((w, s) :: ps) = w ++ s :: laid ps := by unfold laid; rw [List.flatMap_cons]; simp
    refine ⟨⟨wkind w, ttext (wkind w) w, k⟩ :: xs, by rw [List.map_cons, List.map_cons, h1]; rfl, ?_⟩
    rw [e, scan_word w (laid ps) s hw hs f k m acc (by omega) (by omega), h2]
    simp
/-- A line's words, each with what parts it from the next one. -/
def pairs : List (List Int) → List (List Int × Int)
  | [] => []
  | [w] => [(w, 10)]
  | w :: v :: r => (w, 32) :: pairs (v :: r)
theorem pairs_fst (ws : List (List Int)) : (pairs ws).map Prod.fst = ws := by
  induction ws with
  | nil => rfl
  | cons w r ih => cases r with
    | nil => rfl
    | cons v r => simp only [pairs, List.map_cons]; rw [ih]
theorem pairs_snd (ws : List (List Int)) : ∀ p ∈ pairs ws, p.2 = 32 ∨ p.2 = 10 := by
  induction ws with
  | nil => simp [pairs]
  | cons w r ih => cases r with
    | nil => simp [pairs]
    | cons v r =>
      intro p hp
      simp only [pairs, List.mem_cons] at hp ih ⊢
      rcases hp with rfl | hp
      · exact .inl rfl
      · exact ih p hp
theorem pairs_line (ws : List (List Int)) (h : ws ≠ []) : laid (pairs ws) = lineOf ws := by
  induction ws with
  | nil => exact absurd rfl h
  | cons w r ih => cases r with
    | nil => simp [laid, pairs, lineOf, joinW]
    | cons v r =>
      have := ih (by simp)
      unfold laid lineOf at *
      simp only [pairs, joinW] at this ⊢
      rw [List.flatMap_cons, this]
      simp
theorem laid_lines (ls : List (List (List Int))) (h : ∀ l ∈ ls, l ≠ []) : laid (ls.flatMap pairs) = flat ls := by
  induction ls with
  | nil => rfl
  | cons l r ih =>
    unfold flat at *
    rw [List.flatMap_cons, List.flatMap_cons, ← pairs_line l (h l (by simp)), ← ih (fun x hx => h x (by simp [hx]))]
    unfold laid
    rw [List.flatMap_append]
theorem flatMap_fst (ls : List (List (List Int))) : (ls.flatMap pairs).map Prod.fst = ls.flatten := by
  induction ls with
  | nil => rfl
  | cons l r ih => rw [List.flatMap_cons, List.map_append, ih, pairs_fst, List.flatten_cons]
theorem laid_len : ∀ (ps : List (List Int × Int)), (∀ p ∈ ps, 0 < p.1.length) → 2 * ps.length ≤ (laid ps).length
  | [], _ => by simp
  | p :: ps, h => by
    have h1 := h p (by simp)
    have h2 := laid_len ps (fun q hq => h q (by simp [hq]))
    have e : laid (p :: ps) = p.1 ++ [p.2] ++ laid ps := by unfold laid; rw [List.flatMap_cons]
    rw [e]
    simp only [List.length_append, List.length_cons, List.length_nil]
    omega
/-- The tokens of lines of words, one of which at most is the mark. -/
theorem toks_flat (ls : List (List (List Int))) (h : ∀ l ∈ ls, l ≠ [] ∧ ∀ w ∈ l, Wd w) (hm : (ls.flatten.filter fun w => wkind w == 9).length < 2) :
    ∃ xs : List Tok, xs.map key = ls.flatten.map wkey ∧ toks (flat ls) = .ok xs := by
  have hfst := flatMap_fst ls
  have hW : ∀ p ∈ ls.flatMap pairs, Wd p.1 ∧ (p.2 = 32 ∨ p.2 = 10) := by
    intro p hp
    obtain ⟨l, hl, hp'⟩ := List.mem_flatMap.1 hp
    refine ⟨(h l hl).2 _ ?_, pairs_snd l p hp'⟩
    have : p.1 ∈ (pairs l).map Prod.fst := List.mem_map_of_mem hp'
    rwa [pairs_fst] at this
  have hc : ((ls.flatMap pairs).filter fun p => wkind p.1 == 9).length < 2 := by
    rw [← hfst, List.filter_map, List.length_map] at hm
    exact hm
  have hlen := laid_len (ls.flatMap pairs) (fun p hp => (hW p hp).1.1)
  obtain ⟨xs, h1, h2⟩ := scan_laid (ls.flatMap pairs) ((laid (ls.flatMap pairs)).length + 1) 0 0 [] hW (by omega) (by omega)
  refine ⟨xs, ?_, ?_⟩
  · rw [h1, ← hfst, List.map_map]; rfl
  · unfold toks
    rw [← laid_lines ls (fun l hl => (h l hl).1), h2]
    rfl
end Sh
end Go.Proofs.YtkfelkpilaipnaaDoor
