/- Part of the proofs over this program: ShowLev2, ShowCat, ShowLines, ShowBuf, ShowJoin, CfgRules, CfgRight. -/
import Derived.Test.YtkfelkpilaipnaaDoorProg
import Derived.WalkKit
import Derived.WalkSpells
import Derived.WalkLawsBesides
import Derived.Deep.Draws
import Derived.BigQuiet
import Derived.Deep.QuietTactic
import Derived.RegionTactic
import Derived.Deep.DeepFit
import Derived.Deep.RegionWith
import Derived.Laws.CopyOwn
import Derived.Laws.OwnMore
import Derived.OwnWalk
import Derived.ProofKit
import Derived.OpenShut
import Derived.Laws.IdiomStrings
import Derived.Lib.IndexLaws
import Derived.Lib.IndexMore
import Derived.Lib.Strings
import Derived.Lib.Bytes
import Derived.Lib.Index
import Derived.Test.YtkfelkpilaipnaaDoorShelf
import Derived.ScopeJumps
import Derived.WalkMore
import Derived.Laws.FloatArith
import Derived.OrdersHeld
import Derived.Deep.DeepCutAuto
import Derived.IntWalk
import Derived.Maps.OwnSet
import Derived.Defers
import Derived.Recover
import Derived.Maps.AppendAt
import Derived.Deep.OwnRows
import Derived.Lib.AppendZerosOnto
import Derived.Lib.Builder
import Derived.Lib.AppendStr
import Derived.Lib.Join
import Derived.Test.YtkfelkpilaipnaaDoorKA
import Derived.Test.YtkfelkpilaipnaaDoorKB
import Derived.Test.YtkfelkpilaipnaaDoorKC
import Derived.Test.YtkfelkpilaipnaaDoorKE
import Derived.Test.YtkfelkpilaipnaaDoorKF
import Derived.Test.YtkfelkpilaipnaaDoorKG
namespace Go.Proofs.YtkfelkpilaipnaaDoor
set_option maxRecDepth 100000
open Go.RowKit

theorem lv_start (w : World) (m : Nat) (ts : List Gm.Tm) : OwnLv (w.alloc (.cells (madeCells #[.slice none 0 0] m) 23)) (w.heap.size + 1) w.heap.size (List.replicate m (.slice none 0 0)) (Sh.lvls ts m 0) := by
  have e : madeCells #[Value.slice none 0 0] m = (List.replicate m (Value.slice none 0 0)).toArray := by
    apply Array.ext'
    rw [toList_madeCells_one]
  refine ⟨by rw [Sh.lvls_len, List.length_replicate], by rw [heap_alloc_new, e], fun i h h' => ?_, fun i j hi hj _ g hg => ?_⟩
  · rw [List.getElem_replicate]
    have e2 : (Sh.lvls ts m 0)[i] = [] := by simp [Sh.lvls_start]
    rw [e2]
    exact OwnN.nil _ _
  · rw [List.getElem_replicate] at hg
    cases hg

set_option maxHeartbeats 4000000 in
theorem levels_any (A : Option Addr) (c B : Nat) (ts : List Gm.Tm) (w : World) (hr : RdTm w B A ts) (hB : B ≤ w.heap.size) (hl : ts.length ≤ 1000) (hlv : ∀ t ∈ ts, 0 ≤ t.lv ∧ t.lv ≤ 1000) :
    Calls Tryd.prog 28 #[.slice A ts.length c] w fun e w' => ∃ v, e = .returned v ∧ OwnL w' w.heap.size v (Sh.levels ts) ∧ Below w.heap.size w w' := by
  have HR := hide hr
  have HLV := hide hlv
  have htn : 0 ≤ Sh.top ts ∧ Sh.top ts ≤ 1000 := by
    refine ⟨Sh.top_nn ts fun t ht => (hlv t ht).1, ?_⟩
    rcases Sh.top_has ts with e | ⟨t, ht, e⟩
    · omega
    · rw [← e]; exact (hlv t ht).2
  obtain ⟨m, hm⟩ : ∃ m : Nat, Sh.top ts = (m : Int) := ⟨(Sh.top ts).toNat, by omega⟩
  have hm1 : m ≤ 1000 := by omega
  have HM := hide hm
  have hmk := fun w => run_make_row' (P := Tryd.prog) 45 23 (.slice none 0 0) 24 Tryd.underlying45 infoLi rfl .i64 .i64 m (by omega) (by omega) w
  clear hr hlv htn hm
  go_enter Tryd.func28, Tryd.ntmps28
  go_wp2
  go_loopw [3, 12] (fun vg vi wr => ∃ (k : Nat), k ≤ ts.length ∧ vi = .int .i64 k ∧ vg = .int .i64 (Sh.top (ts.take k)) ∧ Below w.heap.size w wr) (fun _ vi _ => ts.length - (intOf vi).toNat)
  case atStart => exact ⟨0, Nat.zero_le _, rfl, rfl, Below.refl _ _⟩
  case round =>
    obtain ⟨k, hk, rfl, rfl, hb⟩ := hrel
    have HB := hide hb
    have HS := hide hb.size
    by_cases hlt : k < ts.length
    · obtain ⟨g, o, rfl, hgB, hc⟩ := HR.out (by omega)
      have hgw : g < w.heap.size := by omega
      have k0 := (hb.cell (p := ⟨g, o + k * 3, none⟩) hgw).trans (hc k hlt).1
      have k1 := (hb.cell (p := ⟨g, o + k * 3 + 1, none⟩) hgw).trans (hc k hlt).2.1
      have k2 := (hb.cell (p := ⟨g, o + k * 3 + 2, none⟩) hgw).trans (hc k hlt).2.2
      have hgs : g < wr.heap.size := by have := hb.size; omega
      have HN : Hid (Sh.top (ts.take (k + 1)) = max (Sh.top (ts.take k)) ts[k].lv) := hide (by rw [Sh.top_take k hlt]; split <;> omega)
      clear hc hb
      generalize ts[k].nm = nm at *
      generalize ts[k].lv = lv at *
      generalize ts[k].wy = wy at *
      generalize Sh.top (ts.take k) = tp at *
      go_wp2
      go_roundw
      case rel => exact ⟨k + 1, by omega, by go_num, by rw [HN.out], HB.out.alloc HS.out _⟩
      case measure => simp [intOf]; omega
    · obtain rfl : k = ts.length := by omega
      have HT : Hid (Sh.top (ts.take ts.length) = (m : Int)) := hide (by rw [List.take_length]; exact HM.out)
      rw [HT.out]
      generalize wr = w1 at *
      have hb1 := hb.alloc hb.size (.cells (madeCells #[.slice none 0 0] m) 23)
      have HB1 := hide hb1
      have hO : w.heap.size ≤ w1.heap.size := hb.size
      have HV0 := hide (lv_start w1 m ts)
      clear hb hb1
      go_wp2
      go_loopw [25] (fun vi wt => ∃ (k : Nat) (vals : List Value), k ≤ ts.length ∧ vi = .int .i64 k ∧ OwnLv wt (w1.heap.size + 1) w1.heap.size vals (Sh.lvls ts m k) ∧ Below w.heap.size w wt) (fun vi _ => ts.length - (intOf vi).toNat)
      case atStart => exact ⟨0, _, Nat.zero_le _, rfl, HV0.out, HB1.out⟩
      case round =>
        obtain ⟨k, vals, hk, rfl, hv, hb⟩ := hrel
        have HV := hide hv
        have HB := hide hb
        have HS := hide hb.size
        by_cases hlt : k < ts.length
        · obtain ⟨g, o, rfl, hgB, hc⟩ := HR.out (by omega)
          have hgw : g < w.heap.size := by omega
          have k0 := (hb.cell (p := ⟨g, o + k * 3, none⟩) hgw).trans (hc k hlt).1
          have k1 := (hb.cell (p := ⟨g, o + k * 3 + 1, none⟩) hgw).trans (hc k hlt).2.1
          have k2 := (hb.cell (p := ⟨g, o + k * 3 + 2, none⟩) hgw).trans (hc k hlt).2.2
          have hgs : g < wr.heap.size := by have := hb.size; omega
          have hlv0 := HLV.out _ (List.getElem_mem hlt)
          have htop : ts[k].lv ≤ (m : Int) := by have := Sh.top_ge ts _ (List.getElem_mem hlt); rw [HM.out] at this; exact this
          by_cases hz : ts[k].lv = 0
          · have HN := hide (Sh.lvls_none (m := m) hlt hz)
            clear hc hb hv
            rw [hz] at k1
            generalize ts[k].nm = nm at *
            generalize ts[k].wy = wy at *
            clear hz hlv0 htop
            go_wp2
            go_roundw
            case rel => exact ⟨k + 1, vals, by omega, by go_num, by rw [HN.out]; exact HV.out.below ((Below.refl _ _).alloc (Nat.le_refl _) _), HB.out.alloc HS.out _⟩
            case measure => simp [intOf]; omega
          · obtain ⟨i, hi⟩ : ∃ i : Nat, ts[k].lv = ((i + 1 : Nat) : Int) := ⟨(ts[k].lv - 1).toNat, by omega⟩
            have hil : i < vals.length := by rw [hv.n, Sh.lvls_len]; omega
            have hil2 : i < (Sh.lvls ts m k).length := by rw [Sh.lvls_len]; omega
            have HN := hide (Sh.lvls_some (m := m) hlt hi)
            have HOI := hide (hv.o i hil hil2)
            rw [Sh.lvls_at] at HOI
            have hcell := hv.cell i hil
            obtain ⟨Ai, ci, hAi, _, _⟩ := HOI.out.form
            rw [hAi] at hcell HOI
            rw [hi] at k1
            clear hc hb hv
            generalize ts[k].nm = nm at *
            generalize ts[k].wy = wy at *
            clear hz hlv0 htop
            have hi0 : (0 : Int) ≤ (i : Int) := by omega
            have him : (i : Int) < (m : Int) := by have := HV.out.n; rw [Sh.lvls_len] at this; omega
            have hOl := HV.out.lt
            have hfr := HV.out.frozen i
            have hne : ((i : Int) + 1 == 0) = false := by simp; omega
            by_cases hem : Sh.level (ts.take k) ((i + 1 : Nat) : Int) = []
            · rw [hem] at HOI hcell hAi
              go_wp2_with fail
              refine (way_any wy _).mono ?_; rintro _ _ ⟨rfl, rfl⟩
              go_wp2_with fail
              have hw5 : ∃ w5 : World, w5 = ((wr.alloc (.cells #[.string (K.str nm), .int .i64 ((i : Int) + 1), .int .i64 wy] 48)).alloc (.cells #[.string (K.str (Sh.wayW wy))] 9)).setCell ⟨w1.heap.size, i, none⟩ (.slice (some ⟨wr.heap.size + 1, 0, none⟩) 1 1) ∧ ((wr.setCell ⟨w1.heap.size, i, none⟩ (.slice (some ⟨wr.heap.size + 1, 0, none⟩) 1 1)).alloc (.cells #[.string (K.str nm), .int .i64 ((i : Int) + 1), .int .i64 wy] 48)).alloc (.cells #[.string (K.str (Sh.wayW wy))] 9) = w5 := ⟨_, rfl, by rw [World.setCell_alloc_past _ _ _ _ (by simp; omega), World.setCell_alloc_past _ _ _ _ hOl]⟩
              obtain ⟨w5, hw5, hw6⟩ := hw5
              have HP : Hid (OwnLv w5 (w1.heap.size + 1) w1.heap.size (vals.set i (.slice (some ⟨wr.heap.size + 1, 0, none⟩) 1 1)) ((Sh.lvls ts m k).set i [Sh.wayW wy])) := hide (by rw [hw5]; exact ((HV.out.below ((Below.refl _ _).alloc (Nat.le_refl _) (.cells #[.string (K.str nm), .int .i64 ((i : Int) + 1), .int .i64 wy] 48))).put (by omega) i hil (only_alloc (World.grownBy.refl _ _) (.cells #[.string (K.str (Sh.wayW wy))] 9)) _ [Sh.wayW wy] (own_new (wr.alloc (.cells #[.string (K.str nm), .int .i64 ((i : Int) + 1), .int .i64 wy] 48)) (w1.heap.size + 1) (wr.heap.size + 1) 9 1 1 (nmsC [Sh.wayW wy]) (by simp) (by simp; omega) rfl (by unfold maxLen; omega)) (fun g e => .inr (by injection e with e; have e : wr.heap.size + 1 = g := e; simp; omega))))
              have HBP : Hid (Below w.heap.size w w5) := hide (by rw [hw5]; exact ((HB.out.alloc HS.out (.cells #[.string (K.str nm), .int .i64 ((i : Int) + 1), .int .i64 wy] 48)).alloc (by have := HS.out; simp; omega) (.cells #[.string (K.str (Sh.wayW wy))] 9)).setCell (p := ⟨w1.heap.size, i, none⟩) hO (.slice (some ⟨wr.heap.size + 1, 0, none⟩) 1 1))
              have HT8 : Hid (w5.heap[wr.heap.size]? = some (.cells #[.string (K.str nm), .int .i64 ((i : Int) + 1), .int .i64 wy] 48 (0, 0))) := hide (by rw [hw5, Below.heap_setCell _ _ _ _ (by simp only; omega)]; exact (((Below.refl _ _).alloc (Nat.le_refl _) _).block _ (by simp)).trans (heap_alloc_new wr _))
              have HL5 : Hid (Sh.lvls ts m (k + 1) = ((Sh.lvls ts m k).set i [Sh.wayW wy]).set i ([Sh.wayW wy] ++ [nm])) := hide (by rw [HN.out, hem, if_pos rfl, List.set_set])
              have hcell5 := HP.out.cell i (by rw [List.length_set]; exact hil)
              rw [List.getElem_set_self] at hcell5
              have HOI5 : Hid (OwnN w5 (w1.heap.size + 1) (.slice (some ⟨wr.heap.size + 1, 0, none⟩) 1 1) [Sh.wayW wy]) := hide (by have := HP.out.o i (by rw [List.length_set]; exact hil) (by rw [List.length_set]; exact hil2); rwa [List.getElem_set_self, List.getElem_set_self] at this)
              have hv5 : (vals.set i (.slice (some ⟨wr.heap.size + 1, 0, none⟩) 1 1))[i]'(by rw [List.length_set]; exact hil) = .slice (some ⟨wr.heap.size + 1, 0, none⟩) 1 1 := List.getElem_set_self _
              have hil5 : i < (vals.set i (.slice (some ⟨wr.heap.size + 1, 0, none⟩) 1 1)).length := by rw [List.length_set]; exact hil
              rw [hw6]
              clear hw5 hw6 HV HB HS HOI hcell hfr
              have HVI := hide hv5
              have HLN : Hid ([Sh.wayW wy].length ≤ 1000000) := hide (by simp)
              have hsz5 := (Array.getElem?_eq_some_iff.1 HT8.out).1
              have hO5 := HP.out.lt
              clear hv5
              refine Calm.region_tree (fun x => ∃ y : Calm.OnB wr.heap.size w5, x = y.1) (.two [0, 1, 2, 3, 4, 6, 7] 5 (.one [] 8 (.one [] 9 (.one [10] 11 (.fin [])))) 8 (.one [] 5 (.one [] 9 (.one [10] 11 (.fin []))))) (by kernel_rfl) (by kernel_rfl) (fun _ _ d _ _ h => by cases d <;> exact h) ⟨⟨w5.drew, rfl⟩, rfl⟩ ?_
              simp only [Calm.wpT, Calm.wpSt, Calm.pickOps, List.getElem?_toArray, List.getElem?_cons_zero, List.getElem?_cons_succ]
              have D8 := fun y : Calm.OnB wr.heap.size w5 => (show y.1.cell? ⟨wr.heap.size, 0, none⟩ = some (.string (K.str nm)) by rw [cell_of_row y.1 _ 0 _ _ _ (y.2.trans HT8.out)]; rfl)
              have HA5 := hide (only_alloc (World.grownBy.refl w5 .none) (.cells #[.string (K.str nm)] 9))
              have HP6 : Hid (OwnLv (w5.alloc (.cells #[.string (K.str nm)] 9)) (w1.heap.size + 1) w1.heap.size (vals.set i (.slice (some ⟨wr.heap.size + 1, 0, none⟩) 1 1)) ((Sh.lvls ts m k).set i [Sh.wayW wy])) := hide (HP.out.below ((Below.refl _ _).alloc (Nat.le_refl _) _))
              have HO6 : Hid (OwnN (w5.alloc (.cells #[.string (K.str nm)] 9)) (w1.heap.size + 1) (.slice (some ⟨wr.heap.size + 1, 0, none⟩) 1 1) [Sh.wayW wy]) := hide (HOI5.out.alloc _)
              have HT6 : Hid ((w5.alloc (.cells #[.string (K.str nm)] 9)).heap[wr.heap.size]? = w5.heap[wr.heap.size]?) := hide (((Below.refl _ w5).alloc (Nat.le_refl _) _).block _ hsz5)
              have HCE := hide (new_cells w5 [.string (K.str nm)] 9 0)
              have HAW := hide (own_away HO6.out (HT6.out.trans HT8.out) (fun cur e => by injection e with _ e; exact absurd e (by decide)))
              have HBa : Hid (Below w.heap.size w (w5.alloc (.cells #[.string (K.str nm)] 9))) := hide (HBP.out.alloc HBP.out.size _)
              repeat (go_big_quiet_step (fail))
              refine wpQuiet_nil ?_
              clear D8
              refine ⟨?_, ?_⟩
              · intro KK hKK
                rw [if_pos (by rfl)]
                go_wp2_with fail
                refine hKK _ _ ⟨⟨w5.drew, rfl⟩, rfl⟩ (fun x => ∃ y : Calm.OnB wr.heap.size w5, x = y.1) (fun _ h => h) ⟨⟨w5.drew, rfl⟩, rfl⟩ ?_
                refine wpQuiet_nil ?_
                intro KK hKK
                try rw [if_pos (by rfl)]
                go_wp2_with fail
                refine hKK _ _ ⟨⟨(w5.alloc (.cells #[.string (K.str nm)] 9)).drew, HT6.out⟩, rfl⟩ (fun x => ∃ y : Calm.OnB wr.heap.size w5, x = y.1) (fun _ h => h) ⟨⟨(w5.alloc (.cells #[.string (K.str nm)] 9)).drew, HT6.out⟩, rfl⟩ ?_
                refine wpQuiet_nil ?_
                intro KK hKK
                try rw [if_pos (by rfl)]
                refine apNat_wp (w := (w5.alloc (.cells #[.string (K.str nm)] 9)).drew) (.tmp 53) (.tmp 56) _ rfl Tryd.underlying23 (w1.heap.size + 1) (.slice (some ⟨wr.heap.size + 1, 0, none⟩) 1 1) [Sh.wayW wy] rfl HO6.out w5.heap.size 1 nm rfl HCE.out HLN.out (by simp; omega) ?_
                intro v7 w7 ho7 hg7' hl7
                have hg7 := (drew_grown (w5.alloc (.cells #[.string (K.str nm)] 9)) _).trans hg7'
                have hT7 : w7.heap[wr.heap.size]? = w5.heap[wr.heap.size]? := (World.grownBy.block hg7 wr.heap.size (by simp; omega) (by rcases HAW.out with q | q; rw [q]; simp; exact fun e => q e.symm)).trans HT6.out
                have hP7 := HP6.out.put (by omega) i hil5 (by rw [HVI.out]; exact hg7) v7 _ ho7 (fun g e => by rw [HVI.out]; rcases hl7 with q | q; exact .inl (q ▸ e); right; rw [q] at e; injection e with e; rw [← e]; exact Nat.le_refl _)
                have hb7 : Below w.heap.size w w7 := HBa.out.grown hg7 (by have := HBP.out.size; simp; omega) (fun g e => by have := (own_holds HO6.out e).1; omega)
                have hk7 := (World.grownBy.block hg7 w1.heap.size (by have := HP6.out.lt; exact this) (fun e => (HO6.out.notRow (by omega)) e.symm)).trans HP6.out.b
                have hf7 : w7.frozen? ⟨w1.heap.size, i, none⟩ = false := frozen_of_row w7 _ i _ _ hk7
                have hc7 : w7.cell? ⟨w1.heap.size, i, none⟩ = some (.slice (some ⟨wr.heap.size + 1, 0, none⟩) 1 1) := by rw [cell_of_row w7 _ i _ _ _ hk7, List.getElem?_toArray, List.getElem?_eq_getElem hil5, HVI.out]
                have hO7 : w1.heap.size < w7.heap.size := by have := hg7.size; have := HP6.out.lt; simp at *; omega
                obtain ⟨A7, c7, hv7, _, _⟩ := ho7.form
                rw [show ([Sh.wayW wy] ++ [nm]).length = 2 by simp] at hv7
                subst hv7
                have HP7 := hide hP7
                have HB7 := hide (hb7.setCell (p := ⟨w1.heap.size, i, none⟩) hO (.slice A7 2 c7))
                have HT7 := hide hT7
                clear hk7 ho7 hg7 hg7' hl7 hT7 hP7 hb7
                go_wp2_with fail
                refine hKK _ _ ⟨⟨w7, HT7.out⟩, rfl⟩ (fun x => ∃ y : Calm.OnB wr.heap.size w5, x = y.1) (fun _ h => h) ⟨⟨w7, HT7.out⟩, rfl⟩ ?_
                repeat (go_big_quiet_step (fail))
                refine wpQuiet_nil ?_
                intro KK hKK
                try rw [if_pos (by rfl)]
                go_wp2_with fail
                have HME := hide ((Below.heap_setCell w7 ⟨w1.heap.size, i, none⟩ (.slice A7 2 c7) wr.heap.size (by simp only; omega)).trans HT7.out)
                refine hKK _ _ ⟨⟨_, HME.out⟩, rfl⟩ (fun x => ∃ y : Calm.OnB wr.heap.size w5, x = y.1) (fun _ h => h) ⟨⟨_, HME.out⟩, rfl⟩ ?_
                refine wpQuiet_nil ?_
                go_wp2_with fail
                go_roundw
                case rel => exact ⟨k + 1, _, by omega, by go_num, by rw [HL5.out]; exact HP7.out, HB7.out⟩
                case measure => simp [intOf]; omega
              · intro KK hKK
                rw [if_pos (by rfl)]
                go_wp2_with fail
                refine hKK _ _ ⟨⟨(w5.alloc (.cells #[.string (K.str nm)] 9)).drew, HT6.out⟩, rfl⟩ (fun x => ∃ y : Calm.OnB wr.heap.size w5, x = y.1) (fun _ h => h) ⟨⟨(w5.alloc (.cells #[.string (K.str nm)] 9)).drew, HT6.out⟩, rfl⟩ ?_
                refine wpQuiet_nil ?_
                intro KK hKK
                try rw [if_pos (by rfl)]
                go_wp2_with fail
                refine hKK _ _ ⟨⟨(w5.alloc (.cells #[.string (K.str nm)] 9)).drew, HT6.out⟩, rfl⟩ (fun x => ∃ y : Calm.OnB wr.heap.size w5, x = y.1) (fun _ h => h) ⟨⟨(w5.alloc (.cells #[.string (K.str nm)] 9)).drew, HT6.out⟩, rfl⟩ ?_
                refine wpQuiet_nil ?_
                intro KK hKK
                try rw [if_pos (by rfl)]
                refine apNat_wp (w := (w5.alloc (.cells #[.string (K.str nm)] 9)).drew) (.tmp 53) (.tmp 56) _ rfl Tryd.underlying23 (w1.heap.size + 1) (.slice (some ⟨wr.heap.size + 1, 0, none⟩) 1 1) [Sh.wayW wy] rfl HO6.out w5.heap.size 1 nm rfl HCE.out HLN.out (by simp; omega) ?_
                intro v7 w7 ho7 hg7' hl7
                have hg7 := (drew_grown (w5.alloc (.cells #[.string (K.str nm)] 9)) _).trans hg7'
                have hT7 : w7.heap[wr.heap.size]? = w5.heap[wr.heap.size]? := (World.grownBy.block hg7 wr.heap.size (by simp; omega) (by rcases HAW.out with q | q; rw [q]; simp; exact fun e => q e.symm)).trans HT6.out
                have hP7 := HP6.out.put (by omega) i hil5 (by rw [HVI.out]; exact hg7) v7 _ ho7 (fun g e => by rw [HVI.out]; rcases hl7 with q | q; exact .inl (q ▸ e); right; rw [q] at e; injection e with e; rw [← e]; exact Nat.le_refl _)
                have hb7 : Below w.heap.size w w7 := HBa.out.grown hg7 (by have := HBP.out.size; simp; omega) (fun g e => by have := (own_holds HO6.out e).1; omega)
                have hk7 := (World.grownBy.block hg7 w1.heap.size (by have := HP6.out.lt; exact this) (fun e => (HO6.out.notRow (by omega)) e.symm)).trans HP6.out.b
                have hf7 : w7.frozen? ⟨w1.heap.size, i, none⟩ = false := frozen_of_row w7 _ i _ _ hk7
                have hc7 : w7.cell? ⟨w1.heap.size, i, none⟩ = some (.slice (some ⟨wr.heap.size + 1, 0, none⟩) 1 1) := by rw [cell_of_row w7 _ i _ _ _ hk7, List.getElem?_toArray, List.getElem?_eq_getElem hil5, HVI.out]
                have hO7 : w1.heap.size < w7.heap.size := by have := hg7.size; have := HP6.out.lt; simp at *; omega
                obtain ⟨A7, c7, hv7, _, _⟩ := ho7.form
                rw [show ([Sh.wayW wy] ++ [nm]).length = 2 by simp] at hv7
                subst hv7
                have HP7 := hide hP7
                have HB7 := hide (hb7.setCell (p := ⟨w1.heap.size, i, none⟩) hO (.slice A7 2 c7))
                have HT7 := hide hT7
                clear hk7 ho7 hg7 hg7' hl7 hT7 hP7 hb7
                go_wp2_with fail
                refine hKK _ _ ⟨⟨w7, HT7.out⟩, rfl⟩ (fun x => ∃ y : Calm.OnB wr.heap.size w5, x = y.1) (fun _ h => h) ⟨⟨w7, HT7.out⟩, rfl⟩ ?_
                repeat (go_big_quiet_step (fail))
                refine wpQuiet_nil ?_
                intro KK hKK
                try rw [if_pos (by rfl)]
                go_wp2_with fail
                have HME := hide ((Below.heap_setCell w7 ⟨w1.heap.size, i, none⟩ (.slice A7 2 c7) wr.heap.size (by simp only; omega)).trans HT7.out)
                refine hKK _ _ ⟨⟨_, HME.out⟩, rfl⟩ (fun x => ∃ y : Calm.OnB wr.heap.size w5, x = y.1) (fun _ h => h) ⟨⟨_, HME.out⟩, rfl⟩ ?_
                refine wpQuiet_nil ?_
                go_wp2_with fail
                go_roundw
                case rel => exact ⟨k + 1, _, by omega, by go_num, by rw [HL5.out]; exact HP7.out, HB7.out⟩
                case measure => simp [intOf]; omega
            · skip
              have hne2 : ((((Sh.level (ts.take k) ((i + 1 : Nat) : Int)).length : Nat) : Int) == 0) = false := by
                have : (Sh.level (ts.take k) ((i + 1 : Nat) : Int)).length ≠ 0 := fun e => hem (List.eq_nil_of_length_eq_zero e)
                exact beq_eq_false_iff_ne.2 (by omega)
              have HLN : Hid ((Sh.level (ts.take k) ((i + 1 : Nat) : Int)).length ≤ 1000000) := hide (by have := Sh.level_len (ts.take k) ((i + 1 : Nat) : Int); rw [List.length_take] at this; omega)
              have HL5 : Hid (Sh.lvls ts m (k + 1) = (Sh.lvls ts m k).set i (Sh.level (ts.take k) ((i + 1 : Nat) : Int) ++ [nm])) := hide (by rw [HN.out, if_neg hem])
              have HVI := hide hAi
              have hil5 := hil
              clear hem hAi HN
              generalize Sh.level (ts.take k) ((i + 1 : Nat) : Int) = line at *
              go_wp2_with fail
              obtain ⟨w5, hw5⟩ : ∃ w5 : World, w5 = wr.alloc (.cells #[.string (K.str nm), .int .i64 ((i : Int) + 1), .int .i64 wy] 48) := ⟨_, rfl⟩
              have HP : Hid (OwnLv w5 (w1.heap.size + 1) w1.heap.size vals (Sh.lvls ts m k)) := hide (by rw [hw5]; exact HV.out.below ((Below.refl _ _).alloc (Nat.le_refl _) _))
              have HBP : Hid (Below w.heap.size w w5) := hide (by rw [hw5]; exact HB.out.alloc HS.out _)
              have HT8 : Hid (w5.heap[wr.heap.size]? = some (.cells #[.string (K.str nm), .int .i64 ((i : Int) + 1), .int .i64 wy] 48 (0, 0))) := hide (by rw [hw5]; exact heap_alloc_new wr _)
              have hcell5 := HP.out.cell i hil
              rw [HVI.out] at hcell5
              have HOI5 : Hid (OwnN w5 (w1.heap.size + 1) (.slice Ai line.length ci) line) := hide (by rw [hw5]; exact HOI.out.alloc _)
              have hsz5 := (Array.getElem?_eq_some_iff.1 HT8.out).1
              have hO5 := HP.out.lt
              rw [← hw5]
              clear hw5 HV HB HS HOI hcell hfr
              refine Calm.region_tree (fun x => ∃ y : Calm.OnB wr.heap.size w5, x = y.1) (.two [0, 1, 2, 3, 4, 6, 7] 5 (.one [] 8 (.one [] 9 (.one [10] 11 (.fin [])))) 8 (.one [] 5 (.one [] 9 (.one [10] 11 (.fin []))))) (by kernel_rfl) (by kernel_rfl) (fun _ _ d _ _ h => by cases d <;> exact h) ⟨⟨w5.drew, rfl⟩, rfl⟩ ?_
              simp only [Calm.wpT, Calm.wpSt, Calm.pickOps, List.getElem?_toArray, List.getElem?_cons_zero, List.getElem?_cons_succ]
              have D8 := fun y : Calm.OnB wr.heap.size w5 => (show y.1.cell? ⟨wr.heap.size, 0, none⟩ = some (.string (K.str nm)) by rw [cell_of_row y.1 _ 0 _ _ _ (y.2.trans HT8.out)]; rfl)
              have HA5 := hide (only_alloc (World.grownBy.refl w5 .none) (.cells #[.string (K.str nm)] 9))
              have HP6 : Hid (OwnLv (w5.alloc (.cells #[.string (K.str nm)] 9)) (w1.heap.size + 1) w1.heap.size vals (Sh.lvls ts m k)) := hide (HP.out.below ((Below.refl _ _).alloc (Nat.le_refl _) _))
              have HO6 : Hid (OwnN (w5.alloc (.cells #[.string (K.str nm)] 9)) (w1.heap.size + 1) (.slice Ai line.length ci) line) := hide (HOI5.out.alloc _)
              have HT6 : Hid ((w5.alloc (.cells #[.string (K.str nm)] 9)).heap[wr.heap.size]? = w5.heap[wr.heap.size]?) := hide (((Below.refl _ w5).alloc (Nat.le_refl _) _).block _ hsz5)
              have HCE := hide (new_cells w5 [.string (K.str nm)] 9 0)
              have HAW := hide (own_away HO6.out (HT6.out.trans HT8.out) (fun cur e => by injection e with _ e; exact absurd e (by decide)))
              have HBa : Hid (Below w.heap.size w (w5.alloc (.cells #[.string (K.str nm)] 9))) := hide (HBP.out.alloc HBP.out.size _)
              repeat (go_big_quiet_step (fail))
              refine wpQuiet_nil ?_
              clear D8
              refine ⟨?_, ?_⟩
              · intro KK hKK
                rw [if_pos (by rfl)]
                go_wp2_with fail
                refine hKK _ _ ⟨⟨w5.drew, rfl⟩, rfl⟩ (fun x => ∃ y : Calm.OnB wr.heap.size w5, x = y.1) (fun _ h => h) ⟨⟨w5.drew, rfl⟩, rfl⟩ ?_
                refine wpQuiet_nil ?_
                intro KK hKK
                try rw [if_pos (by rfl)]
                go_wp2_with fail
                refine hKK _ _ ⟨⟨(w5.alloc (.cells #[.string (K.str nm)] 9)).drew, HT6.out⟩, rfl⟩ (fun x => ∃ y : Calm.OnB wr.heap.size w5, x = y.1) (fun _ h => h) ⟨⟨(w5.alloc (.cells #[.string (K.str nm)] 9)).drew, HT6.out⟩, rfl⟩ ?_
                refine wpQuiet_nil ?_
                intro KK hKK
                try rw [if_pos (by rfl)]
                refine apNat_wp (w := (w5.alloc (.cells #[.string (K.str nm)] 9)).drew) (.tmp 53) (.tmp 56) _ rfl Tryd.underlying23 (w1.heap.size + 1) (.slice Ai line.length ci) line rfl HO6.out w5.heap.size 1 nm rfl HCE.out HLN.out (by simp; omega) ?_
                intro v7 w7 ho7 hg7' hl7
                have hg7 := (drew_grown (w5.alloc (.cells #[.string (K.str nm)] 9)) _).trans hg7'
                have hT7 : w7.heap[wr.heap.size]? = w5.heap[wr.heap.size]? := (World.grownBy.block hg7 wr.heap.size (by simp; omega) (by rcases HAW.out with q | q; rw [q]; simp; exact fun e => q e.symm)).trans HT6.out
                have hP7 := HP6.out.put (by omega) i hil5 (by rw [HVI.out]; exact hg7) v7 _ ho7 (fun g e => by rw [HVI.out]; rcases hl7 with q | q; exact .inl (q ▸ e); right; rw [q] at e; injection e with e; rw [← e]; exact Nat.le_refl _)
                have hb7 : Below w.heap.size w w7 := HBa.out.grown hg7 (by have := HBP.out.size; simp; omega) (fun g e => by have := (own_holds HO6.out e).1; omega)
                have hk7 := (World.grownBy.block hg7 w1.heap.size (by have := HP6.out.lt; exact this) (fun e => (HO6.out.notRow (by omega)) e.symm)).trans HP6.out.b
                have hf7 : w7.frozen? ⟨w1.heap.size, i, none⟩ = false := frozen_of_row w7 _ i _ _ hk7
                have hc7 : w7.cell? ⟨w1.heap.size, i, none⟩ = some (.slice Ai line.length ci) := by rw [cell_of_row w7 _ i _ _ _ hk7, List.getElem?_toArray, List.getElem?_eq_getElem hil5, HVI.out]
                have hO7 : w1.heap.size < w7.heap.size := by have := hg7.size; have := HP6.out.lt; simp at *; omega
                obtain ⟨A7, c7, hv7, _, _⟩ := ho7.form
                rw [show (line ++ [nm]).length = (line.length + 1) by simp] at hv7
                subst hv7
                have HP7 := hide hP7
                have HB7 := hide (hb7.setCell (p := ⟨w1.heap.size, i, none⟩) hO (.slice A7 (line.length + 1) c7))
                have HT7 := hide hT7
                clear hk7 ho7 hg7 hg7' hl7 hT7 hP7 hb7
                go_wp2_with fail
                refine hKK _ _ ⟨⟨w7, HT7.out⟩, rfl⟩ (fun x => ∃ y : Calm.OnB wr.heap.size w5, x = y.1) (fun _ h => h) ⟨⟨w7, HT7.out⟩, rfl⟩ ?_
                repeat (go_big_quiet_step (fail))
                refine wpQuiet_nil ?_
                intro KK hKK
                try rw [if_pos (by rfl)]
                go_wp2_with fail
                have HME := hide ((Below.heap_setCell w7 ⟨w1.heap.size, i, none⟩ (.slice A7 (line.length + 1) c7) wr.heap.size (by simp only; omega)).trans HT7.out)
                refine hKK _ _ ⟨⟨_, HME.out⟩, rfl⟩ (fun x => ∃ y : Calm.OnB wr.heap.size w5, x = y.1) (fun _ h => h) ⟨⟨_, HME.out⟩, rfl⟩ ?_
                refine wpQuiet_nil ?_
                go_wp2_with fail
                go_roundw
                case rel => exact ⟨k + 1, _, by omega, by go_num, by rw [HL5.out]; exact HP7.out, HB7.out⟩
                case measure => simp [intOf]; omega
              · intro KK hKK
                rw [if_pos (by rfl)]
                go_wp2_with fail
                refine hKK _ _ ⟨⟨(w5.alloc (.cells #[.string (K.str nm)] 9)).drew, HT6.out⟩, rfl⟩ (fun x => ∃ y : Calm.OnB wr.heap.size w5, x = y.1) (fun _ h => h) ⟨⟨(w5.alloc (.cells #[.string (K.str nm)] 9)).drew, HT6.out⟩, rfl⟩ ?_
                refine wpQuiet_nil ?_
                intro KK hKK
                try rw [if_pos (by rfl)]
                go_wp2_with fail
                refine hKK _ _ ⟨⟨(w5.alloc (.cells #[.string (K.str nm)] 9)).drew, HT6.out⟩, rfl⟩ (fun x => ∃ y : Calm.OnB wr.heap.size w5, x = y.1) (fun _ h => h) ⟨⟨(w5.alloc (.cells #[.string (K.str nm)] 9)).drew, HT6.out⟩, rfl⟩ ?_
                refine wpQuiet_nil ?_
                intro KK hKK
                try rw [if_pos (by rfl)]
                refine apNat_wp (w := (w5.alloc (.cells #[.string (K.str nm)] 9)).drew) (.tmp 53) (.tmp 56) _ rfl Tryd.underlying23 (w1.heap.size + 1) (.slice Ai line.length ci) line rfl HO6.out w5.heap.size 1 nm rfl HCE.out HLN.out (by simp; omega) ?_
                intro v7 w7 ho7 hg7' hl7
                have hg7 := (drew_grown (w5.alloc (.cells #[.string (K.str nm)] 9)) _).trans hg7'
                have hT7 : w7.heap[wr.heap.size]? = w5.heap[wr.heap.size]? := (World.grownBy.block hg7 wr.heap.size (by simp; omega) (by rcases HAW.out with q | q; rw [q]; simp; exact fun e => q e.symm)).trans HT6.out
                have hP7 := HP6.out.put (by omega) i hil5 (by rw [HVI.out]; exact hg7) v7 _ ho7 (fun g e => by rw [HVI.out]; rcases hl7 with q | q; exact .inl (q ▸ e); right; rw [q] at e; injection e with e; rw [← e]; exact Nat.le_refl _)
                have hb7 : Below w.heap.size w w7 := HBa.out.grown hg7 (by have := HBP.out.size; simp; omega) (fun g e => by have := (own_holds HO6.out e).1; omega)
                have hk7 := (World.grownBy.block hg7 w1.heap.size (by have := HP6.out.lt; exact this) (fun e => (HO6.out.notRow (by omega)) e.symm)).trans HP6.out.b
                have hf7 : w7.frozen? ⟨w1.heap.size, i, none⟩ = false := frozen_of_row w7 _ i _ _ hk7
                have hc7 : w7.cell? ⟨w1.heap.size, i, none⟩ = some (.slice Ai line.length ci) := by rw [cell_of_row w7 _ i _ _ _ hk7, List.getElem?_toArray, List.getElem?_eq_getElem hil5, HVI.out]
                have hO7 : w1.heap.size < w7.heap.size := by have := hg7.size; have := HP6.out.lt; simp at *; omega
                obtain ⟨A7, c7, hv7, _, _⟩ := ho7.form
                rw [show (line ++ [nm]).length = (line.length + 1) by simp] at hv7
                subst hv7
                have HP7 := hide hP7
                have HB7 := hide (hb7.setCell (p := ⟨w1.heap.size, i, none⟩) hO (.slice A7 (line.length + 1) c7))
                have HT7 := hide hT7
                clear hk7 ho7 hg7 hg7' hl7 hT7 hP7 hb7
                go_wp2_with fail
                refine hKK _ _ ⟨⟨w7, HT7.out⟩, rfl⟩ (fun x => ∃ y : Calm.OnB wr.heap.size w5, x = y.1) (fun _ h => h) ⟨⟨w7, HT7.out⟩, rfl⟩ ?_
                repeat (go_big_quiet_step (fail))
                refine wpQuiet_nil ?_
                intro KK hKK
                try rw [if_pos (by rfl)]
                go_wp2_with fail
                have HME := hide ((Below.heap_setCell w7 ⟨w1.heap.size, i, none⟩ (.slice A7 (line.length + 1) c7) wr.heap.size (by simp only; omega)).trans HT7.out)
                refine hKK _ _ ⟨⟨_, HME.out⟩, rfl⟩ (fun x => ∃ y : Calm.OnB wr.heap.size w5, x = y.1) (fun _ h => h) ⟨⟨_, HME.out⟩, rfl⟩ ?_
                refine wpQuiet_nil ?_
                go_wp2_with fail
                go_roundw
                case rel => exact ⟨k + 1, _, by omega, by go_num, by rw [HL5.out]; exact HP7.out, HB7.out⟩
                case measure => simp [intOf]; omega
        · obtain rfl : k = ts.length := by omega
          have HO := hide (HV.out.own (base' := w.heap.size) hO (by rw [Sh.lvls_len]; unfold maxLen; omega))
          rw [Sh.lvls_len] at HO
          clear hb hv
          go_wp2
          go_ret
          refine ⟨_, rfl, ?_, HB.out⟩
          have e := Sh.lvls_end ts
          rw [HM.out, show ((m : Int)).toNat = m from rfl] at e
          rw [← e]
          exact HO.out
end Go.Proofs.YtkfelkpilaipnaaDoor

namespace Go.Proofs.YtkfelkpilaipnaaDoor
set_option maxRecDepth 100000
open Go.RowKit

theorem OwnL.parts {w : World} {base : Nat} {A : Option Addr} {n c : Nat} {ls : List (List (List Int))} (h : OwnL w base (.slice A n c) ls) :
    ∃ qs : List LA, qs.map (·.1) = ls ∧ qs.length = n ∧ (qs ≠ [] → ∃ g, A = some ⟨g, 0, none⟩ ∧ ∀ j u, (lisC qs)[j]? = some u → w.cell? ⟨g, j, none⟩ = some u) ∧ ∀ q ∈ qs, q.1.length ≤ q.2.2 ∧ q.2.2 ≤ 9223372036854775807 ∧ RowS w 0 w.heap.size q.2.1 q.1 := by
  obtain ⟨qs, h1, h2, h3⟩ := h
  have hl : qs.length = ls.length := by rw [← h1, List.length_map]
  rcases h2.2 with ⟨e, h0⟩ | ⟨g, cap, cur, e, hb, hg, hn, hm, hs, ht⟩
  · injection e with e1 e2 e3
    refine ⟨qs, h1, by omega, fun hne => ?_, h3⟩
    exact absurd (List.eq_nil_of_length_eq_zero (by omega)) hne
  · injection e with e1 e2 e3
    subst e1
    refine ⟨qs, h1, by omega, fun _ => ⟨g, rfl, fun j u hj => ?_⟩, h3⟩
    rw [cell_of_row w g j _ _ _ hg]
    rw [← ht] at hj
    have hjl := (List.getElem?_eq_some_iff.1 hj).1
    rw [List.length_take] at hjl
    rw [List.getElem?_take_of_lt (by omega)] at hj
    simpa using hj

set_option maxHeartbeats 1000000 in
theorem grow_none (n : Nat) (hn : n ≤ 1000000) (w : World) :
    Calls Tryd.prog 44 #[.slice none 0 0, .int .i64 n] w fun e w' => ∃ v, e = .returned v ∧ OwnL w' w.heap.size v [] ∧ Below w.heap.size w w' := by
  by_cases h0 : n = 0
  · subst h0
    go_enter Tryd.func44, Tryd.ntmps44
    go_wp2
    go_ret
    exact ⟨_, rfl, OwnL.nil _ _, Below.refl _ _⟩
  obtain ⟨i, hi, hz0, hz1, hz2⟩ := info_parts infoLi
  have hrz : ∀ ty, (Builtin.append_ #[45, 3] ty #[.slice none 0 0, .int .i64 n]).run Tryd.prog w = .ok (.slice (some ⟨w.heap.size, 0, none⟩) n (grownCap w n 0 23)) (w.drew.alloc (.cells ((#[] : Array Value) ++ Builtin.zeroCells #[.slice none 0 0] n ++ Builtin.zeroCells #[.slice none 0 0] (grownCap w n 0 23 - n)) 23)) := fun ty => by
    have h := Lib.run_append_grow_zeros (P := Tryd.prog) w 45 3 ty 23 i (.slice none 0 0) .i64 .i64 Tryd.underlying45 Tryd.underlying3 hi hz0 none 0 0 [] (run_firstCells_none (P := Tryd.prog) (w := w.drew) _ 0 0 0) n (by omega) (by omega) (by omega) (by omega) (by rw [hz2]; omega)
      (by rw [hz2]; exact growslice_fits (by omega) (by omega))
    rw [Nat.zero_add] at h
    exact h
  have hgc : n ≤ grownCap w n 0 23 := grownCap_ge w _ _ _
  have hgm : grownCap w n 0 23 ≤ maxLen := grownCap_le_maxLen w n 0 23 (by unfold maxLen; omega)
  generalize grownCap w n 0 23 = G at *
  have hsz : ((#[] : Array Value) ++ Builtin.zeroCells #[.slice none 0 0] n ++ Builtin.zeroCells #[.slice none 0 0] (G - n)).size = G := by
    have e : ∀ k, (Builtin.zeroCells #[Value.slice none 0 0] k).size = k := fun k => by simp [Builtin.zeroCells]
    simp only [Array.size_append, e]
    simp
    omega
  generalize ((#[] : Array Value) ++ Builtin.zeroCells #[.slice none 0 0] n ++ Builtin.zeroCells #[.slice none 0 0] (G - n)) = cs at *
  have hG63 : G ≤ 9223372036854775807 := by unfold maxLen at hgm; omega
  have h4 : (n : Int) > 0 := by omega
  have HO : Hid (OwnL (w.drew.alloc (.cells cs 23)) w.heap.size (.slice (some ⟨w.heap.size, 0, none⟩) 0 G) []) := hide ⟨[], rfl, ⟨rfl, .inr ⟨w.heap.size, G, cs, rfl, Nat.le_refl _, heap_alloc_new w.drew _, Nat.zero_le _, hgm, by rw [hsz, Nat.mul_one], rfl⟩⟩, fun q h => by cases h⟩
  have HB : Hid (Below w.heap.size w (w.drew.alloc (.cells cs 23))) := hide ((below_drewN (Below.refl w.heap.size w) 1).alloc (Nat.le_refl _) _)
  clear hsz hz0 hz1 hz2 hi
  go_enter Tryd.func44, Tryd.ntmps44
  go_wp2_with (at_builtin; refine Lib.wpList_append_run _ rfl _ _ _ _ rfl _ _ rfl rfl _ _ (hrz _) ?_)
  go_ret
  exact ⟨_, rfl, HO.out, HB.out⟩
/-- Two slices of lines: what the first k of them hold. -/
def two (l1 l2 : List (List (List Int))) : Nat → List (List (List Int))
  | 0 => []
  | 1 => l1
  | _ => l1 ++ l2
set_option maxHeartbeats 4000000 in
theorem concat_any (g base n1 n2 c1 c2 : Nat) (A1 A2 : Option Addr) (l1 l2 : List (List (List Int))) (w : World) (h0 : w.cell? ⟨g, 0, none⟩ = some (.slice A1 n1 c1)) (h1 : w.cell? ⟨g, 1, none⟩ = some (.slice A2 n2 c2)) (hg : g < w.heap.size)
    (ho1 : OwnL w base (.slice A1 n1 c1) l1) (ho2 : OwnL w base (.slice A2 n2 c2) l2) (hl : l1.length + l2.length ≤ 100000) :
    Calls Tryd.prog 26 #[.slice (some ⟨g, 0, none⟩) 2 2] w fun e w' => ∃ v, e = .returned v ∧ OwnL w' w.heap.size v (l1 ++ l2) ∧ Below w.heap.size w w' := by
  obtain ⟨q1, hq1, hn1, _, _⟩ := ho1.parts
  obtain ⟨q2, hq2, hn2, _, _⟩ := ho2.parts
  have hm1 : n1 = l1.length := by rw [← hq1, List.length_map, hn1]
  have hm2 : n2 = l2.length := by rw [← hq2, List.length_map, hn2]
  have HM := hide (And.intro hm1 hm2)
  have HO1 := hide ho1
  have HO2 := hide ho2
  have HL := hide hl
  have H0 := hide h0
  have H1 := hide h1
  have HGR := hide (fun x => grow_none (n1 + n2) (by omega) x)
  have hln : n1 + n2 ≤ 100000 := by omega
  clear ho1 ho2 hq1 hq2 hn1 hn2 hm1 hm2 hl h0 h1
  go_enter Tryd.func26, Tryd.ntmps26
  go_wp2
  go_loopw [3, 11] (fun vs vi wr => ∃ (k : Nat), k ≤ 2 ∧ vi = .int .i64 k ∧ vs = .int .i64 ((if 0 < k then n1 else 0) + (if 1 < k then n2 else 0) : Nat) ∧ w = wr) (fun _ vi _ => 2 - (intOf vi).toNat)
  case atStart => exact ⟨0, by omega, rfl, rfl, rfl⟩
  case round =>
    obtain ⟨k, hk, rfl, rfl, rfl⟩ := hrel
    have h0 := H0.out
    have h1 := H1.out
    rcases (by omega : k = 0 ∨ k = 1 ∨ k = 2) with rfl | rfl | rfl
    · rw [if_neg (by omega), if_neg (by omega)]
      have hnn : ¬ ((n1 : Int) < 0) := by omega
      go_wp2
      go_roundw
      case rel => exact ⟨1, by omega, rfl, by rw [if_pos (by omega), if_neg (by omega)]; simp, trivial⟩
      case measure => simp [intOf]
    · rw [if_pos (by omega), if_neg (by omega), Nat.add_zero]
      have hw : IntKind.i64.wrap ((n1 : Int) + (n2 : Int)) = (n1 : Int) + (n2 : Int) := IntWalk.i64_in _ (by omega)
      have hnn : ¬ ((n1 : Int) + (n2 : Int) < 0) := by omega
      go_wp2
      go_roundw
      case rel => exact ⟨2, by omega, rfl, by rw [if_pos (by omega), if_pos (by omega)]; simp, trivial⟩
      case measure => simp [intOf]
    · rw [if_pos (by omega), if_pos (by omega)]
      clear h0 h1
      go_wp2_with fail
      refine (HGR.out _).mono ?_; rintro _ w2 ⟨v2, rfl, ho2, hb2⟩
      have HV0 := hide ho2
      have HB0 := hide hb2
      clear ho2 hb2
      go_wp2
      go_loopw [6, 27] (fun vs vi wt => ∃ (k : Nat), k ≤ 2 ∧ vi = .int .i64 k ∧ OwnL wt w.heap.size vs (two l1 l2 k) ∧ Below w.heap.size w wt) (fun _ vi _ => 2 - (intOf vi).toNat)
      case atStart => exact ⟨0, by omega, rfl, HV0.out, HB0.out⟩
      case round =>
        obtain ⟨k, hk, rfl, ho, hbt⟩ := hrel
        have HB := hide hbt
        have HS := hide hbt.size
        have HO := hide ho
        obtain ⟨A6, c6, rfl, _, _⟩ := ho.form
        have h0 := (hbt.cell (p := ⟨g, 0, none⟩) hg).trans H0.out
        have h1 := (hbt.cell (p := ⟨g, 1, none⟩) hg).trans H1.out
        have hgr : g < wr.heap.size := by have := hbt.size; omega
        rcases (by omega : k = 0 ∨ k = 1 ∨ k = 2) with rfl | rfl | rfl
        · obtain ⟨q, e1, e2, e3, e4⟩ := (HO1.out.below hbt).parts
          have HE := hide e1
          have HE3 := hide e3
          have HE4 := hide e4
          clear ho hbt e1 e3 e4
          go_wp2_with (at_builtin; refine apL_arm rfl (.tmp 31) (.tmp 32) _ rfl Tryd.underlying45 w.heap.size _ (two l1 l2 0) rfl HO.out A1 n1 c1 q rfl e2.symm HE3.out HE4.out (by have := HM.out; have := HL.out; simp [two]; omega) (by have := HS.out; omega) ?_; intro v4 w4 ho4 hg4)
          have HB4 := hide (HB.out.grown hg4 HS.out (fun _ h => ownL_ge HO.out h))
          have HO4 := hide ho4
          clear ho4 hg4
          go_roundw
          case rel => exact ⟨1, by omega, rfl, by have := HO4.out; rw [HE.out] at this; exact this, HB4.out⟩
          case measure => simp [intOf]
        · obtain ⟨q, e1, e2, e3, e4⟩ := (HO2.out.below hbt).parts
          have HE := hide e1
          have HE3 := hide e3
          have HE4 := hide e4
          clear ho hbt e1 e3 e4
          go_wp2_with (at_builtin; refine apL_arm rfl (.tmp 31) (.tmp 32) _ rfl Tryd.underlying45 w.heap.size _ (two l1 l2 1) rfl HO.out A2 n2 c2 q rfl e2.symm HE3.out HE4.out (by have := HM.out; have := HL.out; simp [two]; omega) (by have := HS.out; omega) ?_; intro v4 w4 ho4 hg4)
          have HB4 := hide (HB.out.grown hg4 HS.out (fun _ h => ownL_ge HO.out h))
          have HO4 := hide ho4
          clear ho4 hg4
          go_roundw
          case rel => exact ⟨2, by omega, rfl, by have := HO4.out; rw [HE.out] at this; exact this, HB4.out⟩
          case measure => simp [intOf]
        · clear ho hbt h0 h1
          have HF : Hid (OwnL wr w.heap.size (.slice A6 (l1 ++ l2).length c6) (l1 ++ l2)) := hide HO.out
          have hlen : (two l1 l2 2).length = (l1 ++ l2).length := rfl
          rw [hlen]
          go_wp2
          go_ret
          refine ⟨_, rfl, ?_, HB.out⟩
          simpa using HF.out
end Go.Proofs.YtkfelkpilaipnaaDoor

namespace Go.Proofs.YtkfelkpilaipnaaDoor
set_option maxRecDepth 100000
open Go.RowKit

namespace Sh
open Gm
def headLines (G : Gr) : List (List (List Int)) := tokens G.ts ++ levels G.ts ++ [[wStart, G.ns.getD G.st.toNat []], [wMark]]
def someLines (G : Gr) (k : Nat) : List (List (List Int)) := headLines G ++ (G.rs.take k).map (rule G)
theorem someLines_next {G : Gr} {k : Nat} (h : k < G.rs.length) : someLines G (k + 1) = someLines G k ++ [rule G G.rs[k]] := by
  unfold someLines
  rw [List.take_succ_eq_append_getElem h, List.map_append, List.append_assoc]
  rfl
theorem someLines_all (G : Gr) : someLines G G.rs.length = lines G := by
  unfold someLines headLines lines
  rw [List.take_length]
  simp
theorem levels_len (ts : List Tm) : (levels ts).length = (top ts).toNat := by unfold levels; simp
end Sh

theorem lines_cell (w : World) (qs : List LA) (cs : Array Value) (n : Nat) (T : TypeId) (hn : n = w.heap.size) (hc : cs = (lisC qs).toArray) : ∀ j u, (lisC qs)[j]? = some u → (w.alloc (.cells cs T)).cell? ⟨n, j, none⟩ = some u := by
  intro j u hj
  subst hn hc
  exact (new_cells w (lisC qs) T j).trans hj
theorem One.own {w wr w' : World} {a : Array Value} {v : Value} {ls : List (List (List Int))} {base : Nat} (h : One w a wr) (ho : OwnL wr base v ls) (hb : w.heap.size + 1 ≤ base) (hg : wr.grownBy w' v.ownBlock) : One w a w' :=
  Below.grown h hg h.size (fun _ e => Nat.le_trans hb (ownL_ge ho e))

set_option maxHeartbeats 8000000 in
theorem lines_any (v : Value) (G : Gm.Gr) (B : Nat) (w : World) (hg : RdGr w B v G) (hf : Gm.Fit G) (hr : Gm.right G = true) (hB : B ≤ w.heap.size) :
    Calls Tryd.prog 13 #[v] w fun e w' => ∃ v', e = .returned v' ∧ OwnL w' w.heap.size v' (Sh.lines G) ∧ Below w.heap.size w w' := by
  have hrt := Gm.rt_of hr
  have HG := hide hg
  obtain ⟨AT, cT, AN, cN, AR, cR, rfl, ⟨hlT, hmT⟩, ⟨hlN, hmN⟩, ⟨hlR, hmR⟩, ht, hn, hrl⟩ := hg
  have HRT := hide hrt
  have hst : ∃ i : Nat, G.st = (i : Int) ∧ i < G.ns.length := ⟨G.st.toNat, by have := hrt.s0; omega, by have := hrt.s0; omega⟩
  obtain ⟨i, hi, hil⟩ := hst
  have hT24 := hrt.t24
  have hR40 := hrt.r1
  have hTop : Sh.top G.ts ≤ 24 := by
    rcases Sh.top_has G.ts with e | ⟨t, hm, e⟩
    · omega
    · rw [← e]; exact (hrt.tl t hm).2.1
  have HTK := hide (fun (x : World) (h : Below w.heap.size w x) => tokens_any AT cT B G.ts x (ht.keep fun g o hgB => h.cell (p := ⟨g, o, none⟩) (by simp only; omega)) (Nat.le_trans hB h.size) (by omega))
  have HLV := hide (fun (x : World) (h : Below w.heap.size w x) => levels_any AT cT B G.ts x (ht.keep fun g o hgB => h.cell (p := ⟨g, o, none⟩) (by simp only; omega)) (Nat.le_trans hB h.size) (by omega) (fun t hm => ⟨(hrt.tl t hm).1, by have := (hrt.tl t hm).2.1; omega⟩))
  obtain ⟨gn, on, rfl, hgn, hcn⟩ := hn (by omega)
  have n0 := hcn i hil
  have hgnw : gn < w.heap.size := by omega
  have HS0 := hide (One.start w #[.slice AT G.ts.length cT, .slice (some ⟨gn, on, none⟩) G.ns.length cN, .slice AR G.rs.length cR, .int .i64 G.st])
  have HRL := hide hrl
  have HF := hide hf
  have HI := hide hi
  have hi2 : (i : Int) < (G.ns.length : Int) := by omega
  have HNM : Hid (G.ns.getD G.st.toNat [] = G.ns[i]) := hide (by rw [hi, show ((i : Int)).toNat = i from rfl, Sh.getD_at _ _ _ hil])
  rw [hi] at HS0 ⊢
  have HTop : Hid ((Sh.levels G.ts).length ≤ 24) := hide (by rw [Sh.levels_len]; omega)
  clear hrt ht hn hrl hf hr hcn hi hTop
  generalize G.ns[i] = nm at *
  go_enter Tryd.func13, Tryd.ntmps13
  go_wp2_with fail
  obtain ⟨w1, hw1⟩ : ∃ x, x = w.alloc (.cells #[.slice AT G.ts.length cT, .slice (some ⟨gn, on, none⟩) G.ns.length cN, .slice AR G.rs.length cR, .int .i64 (i : Int)] 26) := ⟨_, rfl⟩
  rw [← hw1] at HS0 ⊢
  have q0 := HS0.out.c 0 _ rfl
  have Q0 := fun y : Calm.On w1.heap.size w1 => (y.2.cell (p := ⟨w.heap.size, 0, none⟩) (by have := HS0.out.size; simp only; omega)).trans q0
  refine Calm.region_tree (fun x => ∃ y : Calm.On w1.heap.size w1, x = y.1) (.one [0, 1, 3, 4] 2 (.one [] 5 (.one [] 6 (.one [] 7 (.fin [8]))))) (by kernel_rfl) (by kernel_rfl) (fun _ _ d _ _ h => by cases d <;> exact h) ⟨⟨w1.drew, below_drewN (Below.refl _ _) 1⟩, rfl⟩ ?_
  simp only [Calm.wpT, Calm.wpSt, Calm.pickOps, List.getElem?_toArray, List.getElem?_cons_zero, List.getElem?_cons_succ]
  have HW1 := hide (HS0.out.below)
  have HZ1 : Hid (w1.heap.size = w.heap.size + 1) := hide (by rw [hw1]; simp)
  have hS1 := HS0.out.size
  repeat (go_big_quiet_step (fail))
  refine wpQuiet_nil ?_
  clear Q0 q0 hw1
  intro KK hKK
  rw [if_pos (by rfl)]
  go_wp2_with fail
  refine (HTK.out w1.drew (below_drewN HW1.out 1)).mono ?_; rintro _ w2 ⟨v2, rfl, ho2, hb2⟩
  have HB2 : Hid (Below w1.heap.size w1 w2) := hide ((below_drewN (Below.refl w1.heap.size w1) 1).trans hb2)
  have HW2 := hide (HW1.out.trans (HB2.out.mono HW1.out.size))
  have HO2 := hide ho2
  obtain ⟨A2, c2, rfl, _, _⟩ := ho2.form
  have hs2 : w1.heap.size ≤ w2.heap.size := hb2.size
  clear ho2 hb2
  go_wp2_with fail
  refine hKK _ _ ⟨⟨w2, HB2.out⟩, rfl⟩ (fun x => ∃ y : Calm.On w1.heap.size w1, x = y.1) (fun _ h => h) ⟨⟨w2, HB2.out⟩, rfl⟩ ?_
  refine wpQuiet_nil ?_
  intro KK hKK
  try rw [if_pos (by rfl)]
  go_wp2_with fail
  refine (HLV.out w2 HW2.out).mono ?_; rintro _ w3 ⟨v3, rfl, ho3, hb3⟩
  have HB3 : Hid (Below w1.heap.size w1 w3) := hide (HB2.out.trans (hb3.mono hs2))
  have HW3 := hide (HW1.out.trans (HB3.out.mono HW1.out.size))
  have HO23 := hide (HO2.out.below hb3)
  have HO3 := hide ho3
  obtain ⟨A3, c3, rfl, _, _⟩ := ho3.form
  have hs3 : w1.heap.size ≤ w3.heap.size := Nat.le_trans hs2 hb3.size
  clear ho3 hb3 HO2
  go_wp2_with fail
  refine hKK _ _ ⟨⟨w3, HB3.out⟩, rfl⟩ (fun x => ∃ y : Calm.On w1.heap.size w1, x = y.1) (fun _ h => h) ⟨⟨w3, HB3.out⟩, rfl⟩ ?_
  refine wpQuiet_nil ?_
  intro KK hKK
  try rw [if_pos (by rfl)]
  go_wp2_with fail
  obtain ⟨w4, hw4⟩ : ∃ x, x = w3.alloc (.cells #[.slice A2 (Sh.tokens G.ts).length c2, .slice A3 (Sh.levels G.ts).length c3] 45) := ⟨_, rfl⟩
  rw [← hw4]
  have h34 : Below w3.heap.size w3 w4 := by rw [hw4]; exact (Below.refl _ _).alloc (Nat.le_refl _) _
  have HB4 : Hid (Below w1.heap.size w1 w4) := hide (HB3.out.trans (h34.mono hs3))
  have HC4 := hide (concat_any w3.heap.size w1.heap.size (Sh.tokens G.ts).length (Sh.levels G.ts).length c2 c3 A2 A3 (Sh.tokens G.ts) (Sh.levels G.ts) w4 (by rw [hw4]; exact new_cells w3 [.slice A2 (Sh.tokens G.ts).length c2, .slice A3 (Sh.levels G.ts).length c3] _ 0) (by rw [hw4]; exact new_cells w3 [.slice A2 (Sh.tokens G.ts).length c2, .slice A3 (Sh.levels G.ts).length c3] _ 1) (by rw [hw4]; simp) ((HO23.out.below h34).less (by have := HB2.out.size; simp)) ((HO3.out.below h34).less hs2) (by rw [Sh.tokens_len]; have := HTop.out; omega))
  have HW4 := hide (HW1.out.trans (HB4.out.mono HW1.out.size))
  clear hw4 h34
  refine hKK _ _ ⟨⟨w4, HB4.out⟩, rfl⟩ (fun x => ∃ y : Calm.On w1.heap.size w1, x = y.1) (fun _ h => h) ⟨⟨w4, HB4.out⟩, rfl⟩ ?_
  refine wpQuiet_nil ?_
  intro KK hKK
  try rw [if_pos (by rfl)]
  go_wp2_with fail
  refine HC4.out.mono ?_; rintro _ w5 ⟨v5, rfl, ho5, hb5⟩
  have HB5 : Hid (Below w1.heap.size w1 w5) := hide (HB4.out.trans (hb5.mono HB4.out.size))
  have HS5 := hide (HS0.out.on HB5.out)
  have HO5 := hide (ho5.less (base' := w1.heap.size) HB4.out.size)
  have HLEN5 : Hid ((Sh.tokens G.ts ++ Sh.levels G.ts).length ≤ 1000) := hide (by rw [List.length_append, Sh.tokens_len]; have := HTop.out; omega)
  have HHL : Hid (Sh.headLines G = (Sh.tokens G.ts ++ Sh.levels G.ts) ++ [[Sh.wStart, nm], [Sh.wMark]]) := hide (by unfold Sh.headLines; rw [HNM.out])
  generalize Sh.tokens G.ts ++ Sh.levels G.ts = l5 at *
  obtain ⟨A5, c5, rfl, _, _⟩ := ho5.form
  clear ho5 hb5 HO23 HO3 HC4
  go_wp2_with fail
  refine hKK _ _ ⟨⟨w5, HB5.out⟩, rfl⟩ (fun x => ∃ y : Calm.On w1.heap.size w1, x = y.1) (fun _ h => h) ⟨⟨w5, HB5.out⟩, rfl⟩ ?_
  repeat (go_big_quiet_step (fail))
  refine wpQuiet_nil ?_
  have q1 := HS5.out.c 1 _ rfl
  have q3 := HS5.out.c 3 _ rfl
  have q2 := HS5.out.c 2 _ rfl
  have hz5 : w.heap.size < w5.heap.size := by have := HS5.out.size; omega
  have n5 := (HS5.out.below.cell (p := ⟨gn, on + i, none⟩) hgnw).trans n0
  have hgn5 : gn < w5.heap.size := by omega
  have hi0 : (0 : Int) ≤ (i : Int) := by omega

  have HR1 := hide (((RowS.new w5 0 w5.heap.size [Sh.wStart, nm] _ rfl rfl (Nat.zero_le _)).alloc (.cells (nmsC [Sh.wMark]).toArray 9)).alloc (.cells (lisC [([Sh.wStart, nm], some ⟨w5.heap.size, 0, none⟩, 2), ([Sh.wMark], some ⟨w5.heap.size + 1, 0, none⟩, 1)]).toArray 23))
  have HR2 := hide ((RowS.new (w5.alloc (.cells (nmsC [Sh.wStart, nm]).toArray 9)) 0 (w5.heap.size + 1) [Sh.wMark] _ rfl (by simp) (Nat.zero_le _)).alloc (.cells (lisC [([Sh.wStart, nm], some ⟨w5.heap.size, 0, none⟩, 2), ([Sh.wMark], some ⟨w5.heap.size + 1, 0, none⟩, 1)]).toArray 23))
  have HO8 := hide (((HO5.out.alloc (.cells (nmsC [Sh.wStart, nm]).toArray 9)).alloc (.cells (nmsC [Sh.wMark]).toArray 9)).alloc (.cells (lisC [([Sh.wStart, nm], some ⟨w5.heap.size, 0, none⟩, 2), ([Sh.wMark], some ⟨w5.heap.size + 1, 0, none⟩, 1)]).toArray 23))
  have HS8 := hide (((HS5.out.alloc (.cells (nmsC [Sh.wStart, nm]).toArray 9)).alloc (.cells (nmsC [Sh.wMark]).toArray 9)).alloc (.cells (lisC [([Sh.wStart, nm], some ⟨w5.heap.size, 0, none⟩, 2), ([Sh.wMark], some ⟨w5.heap.size + 1, 0, none⟩, 1)]).toArray 23))
  have HZ8 := hide (lines_cell ((w5.alloc (.cells (nmsC [Sh.wStart, nm]).toArray 9)).alloc (.cells (nmsC [Sh.wMark]).toArray 9)) [([Sh.wStart, nm], some ⟨w5.heap.size, 0, none⟩, 2), ([Sh.wMark], some ⟨w5.heap.size + 1, 0, none⟩, 1)] _ (w5.heap.size + 1 + 1) 23 (by simp) rfl)
  go_wp2_with (at_builtin; (refine apL_arm rfl (.tmp 14) (.tmp 23) _ rfl Tryd.underlying45 w1.heap.size _ l5 rfl HO8.out _ 2 2 [([Sh.wStart, nm], some ⟨w5.heap.size, 0, none⟩, 2), ([Sh.wMark], some ⟨w5.heap.size + 1, 0, none⟩, 1)] rfl rfl (fun _ => ⟨_, rfl, HZ8.out⟩) (fun q hq => ?_) (by have := HLEN5.out; simp; omega) (by have := HB5.out.size; simp; omega) ?_))
  · rcases List.mem_cons.1 hq with e | hq
    · rw [e]; exact ⟨by simp, by show (2 : Nat) ≤ _; omega, HR1.out⟩
    · rw [List.mem_singleton.1 hq]; exact ⟨by simp, by show (1 : Nat) ≤ _; omega, HR2.out⟩
  intro v9 w9 ho9 hg9
  have HO9 : Hid (OwnL w9 w1.heap.size v9 (Sh.someLines G 0)) := hide (by unfold Sh.someLines; rw [HHL.out, List.take_zero, List.map_nil, List.append_nil]; exact ho9)
  have HS9 := hide (HS8.out.own HO8.out (by have := HS0.out.size; simp at *; omega) hg9)
  clear ho9 hg9 HO8 HS8 HZ8 HR1 HR2 HO5 HS5 q1 q2 q3 n5
  have q2 := HS9.out.c 2 _ rfl
  have hz9 : w.heap.size < w9.heap.size := by have := HS9.out.size; omega
  go_wp2
  go_loopw [3, 28] (fun vl vi wr => ∃ (k : Nat), k ≤ G.rs.length ∧ vi = .int .i64 k ∧ OwnL wr w1.heap.size vl (Sh.someLines G k) ∧ One w #[.slice AT G.ts.length cT, .slice (some ⟨gn, on, none⟩) G.ns.length cN, .slice AR G.rs.length cR, .int .i64 i] wr) (fun _ vi _ => G.rs.length - (intOf vi).toNat)
  case atStart => exact ⟨0, Nat.zero_le _, rfl, HO9.out, HS9.out⟩
  case round =>
    obtain ⟨k, hk, rfl, ho, hb⟩ := hrel
    have HO := hide ho
    have HB := hide hb
    obtain ⟨A6, c6, rfl, _, _⟩ := ho.form
    by_cases hlt : k < G.rs.length
    · obtain ⟨g, o, rfl, hgB, hc⟩ := HRL.out (by omega)
      obtain ⟨hc0, ⟨Ar, cr, hc1, hcr1, hcr2, hri⟩, hc2⟩ := hc k hlt
      have hgw : g < w.heap.size := by omega
      have hbw := hb.below
      have k0 := (hbw.cell (p := ⟨g, o + k * 3, none⟩) hgw).trans hc0
      have k1 := (hbw.cell (p := ⟨g, o + k * 3 + 1, none⟩) hgw).trans hc1
      have k2 := (hbw.cell (p := ⟨g, o + k * 3 + 2, none⟩) hgw).trans hc2
      have hgs : g < wr.heap.size := by have := hb.size; omega
      have hz : w.heap.size < wr.heap.size := by have := hb.size; omega
      have hrule := (Gm.rules_le G G.rs _ HRT.out.rr).2 _ (List.getElem_mem hlt)
      have hparts := Gm.rule_parts hrule.2.2
      have hfr := HF.out.r _ (List.getElem_mem hlt)
      have HSL := hide (fun (x : World) (h : One w #[.slice AT G.ts.length cT, .slice (some ⟨gn, on, none⟩) G.ns.length cN, .slice (some ⟨g, o, none⟩) G.rs.length cR, .int .i64 i] x) => sline_any _ G B G.rs[k] Ar cr x (HG.out.below h.below hB) (hri.below h.below hB) hfr.2.2 hfr.2.1 (Nat.le_trans hB h.below.size) hrule.1 hrule.2.1 (by omega))
      have HN := hide (Sh.someLines_next hlt)
      have p0 := hb.c 0 _ rfl
      have p1 := hb.c 1 _ rfl
      have p2 := hb.c 2 _ rfl
      have p3 := hb.c 3 _ rfl
      rw [HI.out] at HSL
      clear hc hc0 hc1 hc2 hcr1 hcr2 hri hbw hrule hparts hfr ho hb
      go_wp2_with fail
      refine (HSL.out _ (HB.out.alloc _)).mono ?_; rintro _ w7 ⟨v7, rfl, ho7, hb7⟩
      have HB7 := hide ((HB.out.alloc _).on hb7)
      have HO7 := hide ((HO.out.alloc _).below hb7)
      obtain ⟨A7, c7, rfl, hl7, hm7, hrw7⟩ := RowS.of_own (ho7.less (Nat.zero_le _))
      have HRW := hide (hrw7.alloc (.cells (liC (Sh.rule G G.rs[k], A7, c7)).toArray 23))
      have HLC := hide (And.intro hl7 (show c7 ≤ 9223372036854775807 by unfold maxLen at hm7; omega))
      have HCE := hide (line_cell w7 (Sh.rule G G.rs[k], A7, c7) w7.heap.size 23 rfl)
      have HLN : Hid ((Sh.someLines G k).length ≤ 2000) := hide (by unfold Sh.someLines; rw [HHL.out]; have := HLEN5.out; simp; omega)
      clear ho7 hb7 hrw7 hl7 hm7
      go_wp2_with (at_builtin; (refine apL_arm rfl (.tmp 32) (.tmp 36) _ rfl Tryd.underlying45 w1.heap.size _ (Sh.someLines G k) rfl (HO7.out.alloc _) _ 1 1 [(Sh.rule G G.rs[k], A7, c7)] rfl rfl (fun _ => ⟨_, rfl, HCE.out⟩) (fun q hq => by rw [List.mem_singleton.1 hq]; exact ⟨HLC.out.1, HLC.out.2, HRW.out⟩) (by have := HLN.out; simp; omega) (by have h1 := HB7.out.size; have h2 := HZ1.out; simp; omega) ?_; intro v8 w8 ho8 hg8))
      have HB8 := hide ((HB7.out.alloc _).own (HO7.out.alloc _) (by have := HS0.out.size; omega) hg8)
      have HO8 := hide ho8
      clear ho8 hg8
      go_roundw
      case rel => exact ⟨k + 1, by omega, by go_num, by rw [HN.out]; exact HO8.out, HB8.out⟩
      case measure => simp [intOf]; omega
    · obtain rfl : k = G.rs.length := by omega
      rw [Sh.someLines_all] at *
      clear ho hb
      go_wp2
      go_ret
      exact ⟨_, rfl, HO.out.less (by have := HS0.out.size; omega), HB.out.below⟩
end Go.Proofs.YtkfelkpilaipnaaDoor

namespace Go.Proofs.YtkfelkpilaipnaaDoor
set_option maxRecDepth 100000
open Go.RowKit

theorem sizeBuilder : (Tryd.prog.info? 61).map (·.size) = some 2 := by kernel_rfl
theorem liesBuilder : liesAt Tryd.prog Tryd.prog.depth 61 (2 / Tryd.prog.cellsOf 61) 0 61 1 = true := by kernel_rfl
theorem infoByte : (Tryd.prog.info? 5).map (fun i => (i.zero, i.size, i.bytes)) = some (some (.int .u8 0), 1, 1) := by kernel_rfl

set_option maxHeartbeats 1000000 in
set_option maxRecDepth 100000 in
theorem copyCheck_used (b : Nat) (w : World) (h0 : w.cell? ⟨b, 0, none⟩ = some (.pointer (some ⟨b, 0, none⟩))) :
    Calls Tryd.prog 42 #[.pointer (some ⟨b, 0, none⟩)] w fun e w' => e = .returned (.tuple #[]) ∧ w' = w := by
  obtain ⟨j, hj, _⟩ := Option.map_eq_some_iff.1 sizeBuilder
  go_enter Tryd.func42, Tryd.ntmps42
  go_wp2
  rw [Lib.run_neq_ptr_same w _ Tryd.underlying59 hj]
  go_wp2
  go_end0
  exact ⟨rfl, rfl⟩

set_option maxHeartbeats 1000000 in
set_option maxRecDepth 100000 in
theorem copyCheck_fresh (b : Nat) (w : World) (h0 : w.cell? ⟨b, 0, none⟩ = some (.pointer none)) (hsh : w.shape? b = some (61, 2)) (hfz : w.frozen? ⟨b, 0, none⟩ = false) :
    Calls Tryd.prog 42 #[.pointer (some ⟨b, 0, none⟩)] w fun e w' => e = .returned (.tuple #[]) ∧ w' = w.setCell ⟨b, 0, none⟩ (.pointer (some ⟨b, 0, none⟩)) := by
  obtain ⟨j, hj, hjs⟩ := Option.map_eq_some_iff.1 sizeBuilder
  go_enter Tryd.func42, Tryd.ntmps42
  go_wp2
  rw [Lib.run_to_unsafe w ⟨b, 0, none⟩ Tryd.underlying59 Tryd.underlying125 hj (by rw [hjs]; decide) hsh (Nat.zero_lt_succ 1)]
  simp only [Result.andThen]
  rw [Oper.upon_value]
  go_wp2
  rw [run_callFunc_extern Tryd.func67 (by kernel_rfl) (by kernel_rfl) (by kernel_rfl) (e := Extern.AbiNoEscape.same) (by kernel_rfl)]
  rw [Lib.run_noEscape]
  simp only [Result.andThen]
  rw [Oper.upon_value]
  go_wp2
  rw [Lib.run_from_unsafe w ⟨b, 0, none⟩ Tryd.underlying125 Tryd.underlying59 hj hsh liesBuilder]
  simp only [Result.andThen]
  rw [Oper.upon_value]
  go_wp2
  go_end0
  exact ⟨rfl, rfl⟩

theorem copyCheck_any (B b : Nat) (bs : List Value) (w : World) (h : Lib.IsBuilder 61 5 B b bs w) :
    Calls Tryd.prog 42 #[.pointer (some ⟨b, 0, none⟩)] w fun e w' => e = .returned (.tuple #[]) ∧ (Lib.BuilderAt 61 5 B b (.pointer (some ⟨b, 0, none⟩)) bs w' ∧ Below B w w') := by
  rcases h with h | h
  · refine (copyCheck_fresh b w h.cell0 h.shape h.frozen0).mono ?_
    rintro e w' ⟨rfl, rfl⟩
    exact ⟨rfl, h.used _, (Below.refl B w).setCell (p := ⟨b, 0, none⟩) h.1 _⟩
  · refine (copyCheck_used b w h.cell0).mono ?_
    rintro e w' ⟨rfl, rfl⟩
    exact ⟨rfl, h, Below.refl B _⟩

set_option maxHeartbeats 2000000 in
set_option maxRecDepth 100000 in
theorem writeString_any (B b : Nat) (bs : List Value) (s : ByteArray) (w : World) (h : Lib.IsBuilder 61 5 B b bs w) (hlen : bs.length + s.size ≤ 140737488355328) (hBw : B ≤ w.heap.size) :
    Calls Tryd.prog 22 #[.pointer (some ⟨b, 0, none⟩), .string s] w fun e w' => e = .returned (.tuple #[.int .i64 s.size, .nilIface]) ∧ (Lib.BuilderAt 61 5 B b (.pointer (some ⟨b, 0, none⟩)) (bs ++ Lib.strCells s) w' ∧ Below B w w') := by
  obtain ⟨i0, hi, hz0, hz1, hz2⟩ := info_parts infoByte
  go_enter Tryd.func22, Tryd.ntmps22
  go_wp2_with (go_at_call 42; refine (copyCheck_any B b bs _ h).mono ?_)
  rintro e w1 ⟨rfl, h1, hb1⟩
  obtain ⟨hB, v, hbk, hown, hne⟩ := h1
  have c0 : w1.cell? ⟨b, 0, none⟩ = some (.pointer (some ⟨b, 0, none⟩)) := by rw [Lib.cell_of_heap hbk]; rfl
  have c1 : w1.cell? ⟨b, 1, none⟩ = some v := by rw [Lib.cell_of_heap hbk]; rfl
  go_wp2_with (at_builtin; refine Lib.wpList_append_own_string _ rfl _ _ 36 9 rfl B 5 i0 Tryd.underlying36 Tryd.underlying9 hi hz0 hz1 hz2 _ _ _ rfl hown s rfl ?c3 ?c4 ?c5 ?_)
  case c3 => unfold maxLen; omega
  case c4 => omega
  case c5 => have := hb1.size; omega
  intro v' w2 hown' hgrow _
  have hlt : b < w1.heap.size := by
    rcases Nat.lt_or_ge b w1.heap.size with h' | h'
    · exact h'
    · simp [Array.getElem?_eq_none h'] at hbk
  have hb2 : w2.heap[b]? = some (.cells #[.pointer (some ⟨b, 0, none⟩), v] 61 (0, 0)) := by
    rw [hgrow.block b hlt (fun e => hne e.symm)]
    exact hbk
  have d0 : w2.cell? ⟨b, 0, none⟩ = some (.pointer (some ⟨b, 0, none⟩)) := by rw [Lib.cell_of_heap hb2]; rfl
  have d1 : w2.cell? ⟨b, 1, none⟩ = some v := by rw [Lib.cell_of_heap hb2]; rfl
  have f1 : w2.frozen? ⟨b, 1, none⟩ = false := Lib.frozen_of_heap hb2 1
  obtain ⟨ao, n', cap, rfl⟩ : ∃ ao n' cap, v' = .slice ao n' cap := by
    rcases hown'.2 with ⟨hv, _⟩ | ⟨g, cap, cur, hv, _⟩
    · exact ⟨_, _, _, hv⟩
    · exact ⟨_, _, _, hv⟩
  go_wp2
  go_ret2
  refine ⟨rfl, ?_, ?_⟩
  · exact Lib.BuilderAt.put (T := 61) (e := 5) hB hb2 (bs' := bs ++ Lib.strCells s) (by simpa [Lib.strCells_length] using hown') (by decide)
  · exact (hb1.grown hgrow (by have := hb1.size; omega) (fun k hk => (hown.lt k hk).1)).setCell (p := ⟨b, 1, none⟩) hB _

set_option maxHeartbeats 2000000 in
theorem writeByte_any (B b : Nat) (bs : List Value) (c : Int) (w : World) (h : Lib.IsBuilder 61 5 B b bs w) (hlen : bs.length + 1 ≤ 140737488355328) (hBw : B ≤ w.heap.size) :
    Calls Tryd.prog 24 #[.pointer (some ⟨b, 0, none⟩), .int .u8 c] w fun e w' => e = .returned .nilIface ∧ (Lib.BuilderAt 61 5 B b (.pointer (some ⟨b, 0, none⟩)) (bs ++ [.int .u8 c]) w' ∧ Below B w w') := by
  obtain ⟨i0, hi, hz0, hz1, hz2⟩ := info_parts infoByte
  go_enter Tryd.func24, Tryd.ntmps24
  go_wp2_with (go_at_call 42; refine (copyCheck_any B b bs _ h).mono ?_)
  rintro e w1 ⟨rfl, h1, hb1⟩
  obtain ⟨hB, v, hbk, hown, hne⟩ := h1
  have c0 : w1.cell? ⟨b, 0, none⟩ = some (.pointer (some ⟨b, 0, none⟩)) := by rw [Lib.cell_of_heap hbk]; rfl
  have c1 : w1.cell? ⟨b, 1, none⟩ = some v := by rw [Lib.cell_of_heap hbk]; rfl
  go_wp2_with (at_builtin; refine wpList_append_own _ rfl _ _ 36 rfl B 5 i0 (.int .u8 0) 1 1 Tryd.underlying36 hi hz0 hz1 hz2 rfl (by decide) _ _ _ rfl (hown.alloc _) ⟨w1.heap.size, 0, none⟩ 1 1 [.int .u8 c] rfl rfl ?c1 ?c2 ?c3 ?c4 ?c5 ?_)
  case c1 =>
    intro j u hj
    match j, hj with
    | 0, hj => simp at hj; subst hj; simp [Addr.add]
  case c2 => intro u hu; simp at hu; subst hu; rfl
  case c3 => unfold maxLen; omega
  case c4 => omega
  case c5 => have := hb1.size; simp; omega
  intro v' w2 hown' hgrow _
  have hlt : b < w1.heap.size := by
    rcases Nat.lt_or_ge b w1.heap.size with h' | h'
    · exact h'
    · simp [Array.getElem?_eq_none h'] at hbk
  have hb2 : w2.heap[b]? = some (.cells #[.pointer (some ⟨b, 0, none⟩), v] 61 (0, 0)) := by
    rw [hgrow.block b (by simp; omega) (fun e => hne e.symm), Lib.alloc_old w1 _ b hlt]
    exact hbk
  have d0 : w2.cell? ⟨b, 0, none⟩ = some (.pointer (some ⟨b, 0, none⟩)) := by rw [Lib.cell_of_heap hb2]; rfl
  have d1 : w2.cell? ⟨b, 1, none⟩ = some v := by rw [Lib.cell_of_heap hb2]; rfl
  have f1 : w2.frozen? ⟨b, 1, none⟩ = false := Lib.frozen_of_heap hb2 1
  obtain ⟨g, cap, rfl⟩ : ∃ g cap, v' = .slice (some ⟨g, 0, none⟩) (bs.length + 1) cap := by
    rcases hown'.2 with ⟨_, h0⟩ | ⟨g, cap, cur, hv, _⟩
    · omega
    · exact ⟨g, cap, hv⟩
  go_wp2
  go_ret
  refine ⟨rfl, ?_, ?_⟩
  · exact Lib.BuilderAt.put (T := 61) (e := 5) hB hb2 (bs' := bs ++ [.int .u8 c]) (by simpa using hown') (by decide)
  · exact ((hb1.alloc (by have := hb1.size; omega) _).grown hgrow (by have := hb1.size; simp; omega) (fun k hk => (hown.lt k hk).1)).setCell (p := ⟨b, 1, none⟩) hB _
end Go.Proofs.YtkfelkpilaipnaaDoor

namespace Go.Proofs.YtkfelkpilaipnaaDoor
set_option maxRecDepth 100000
open Go.RowKit

theorem K.bytes_app (l m : List Int) : K.bytes (l ++ m) = K.bytes l ++ K.bytes m := by unfold K.bytes; rw [List.map_append]
theorem K.bytes_len (l : List Int) : (K.bytes l).length = l.length := by unfold K.bytes; rw [List.length_map]
namespace Sh
theorem join_bytes (ws : List (List Int)) : Lib.join ((ws.map K.str).map (·.data.toList)) [32] = K.bytes (joinW ws) := by
  induction ws with
  | nil => rfl
  | cons w r ih => cases r with
    | nil => rw [List.map_cons, List.map_cons, List.map_nil, List.map_nil, Lib.join_one]; rfl
    | cons v r =>
      have e : Lib.join ((K.str w).data.toList :: (K.str v).data.toList :: (r.map K.str).map (·.data.toList)) [32] = (K.str w).data.toList ++ ([32] ++ Lib.join ((K.str v).data.toList :: (r.map K.str).map (·.data.toList)) [32]) := by
        unfold Lib.join List.intercalate
        simp [List.intersperse]
      have ih' : Lib.join ((K.str v).data.toList :: (r.map K.str).map (·.data.toList)) [32] = K.bytes (joinW (v :: r)) := ih
      rw [List.map_cons, List.map_cons, List.map_cons, List.map_cons, e, ih', joinW, K.bytes_app]
      rfl
theorem flat_take {ls : List (List (List Int))} (k : Nat) (h : k < ls.length) : flat (ls.take (k + 1)) = flat (ls.take k) ++ (joinW ls[k] ++ [10]) := by
  unfold flat
  rw [List.take_succ_eq_append_getElem h, List.flatMap_append, List.flatMap_singleton]
  rfl
theorem flat_take_le (ls : List (List (List Int))) (k : Nat) : (flat (ls.take k)).length ≤ (flat ls).length := by
  have e : flat ls = flat (ls.take k) ++ flat (ls.drop k) := by
    unfold flat; rw [← List.flatMap_append, List.take_append_drop]
  rw [e, List.length_append]
  omega
end Sh
theorem block_of_cell {w : World} {g o : Nat} {v : Value} (h : w.cell? ⟨g, o, none⟩ = some v) : g < w.heap.size := by
  rcases Nat.lt_or_ge g w.heap.size with q | q
  · exact q
  · simp [World.cell?, Array.getElem?_eq_none q] at h
theorem isB_below {T e : TypeId} {B b : Nat} {bs : List Value} {w w' : World} (h : Lib.IsBuilder T e B b bs w) (hb : Below w.heap.size w w') : Lib.IsBuilder T e B b bs w' := by
  have key : ∀ p, Lib.BuilderAt T e B b p bs w → Lib.BuilderAt T e B b p bs w' := fun p ⟨h1, v, h2, h3, h4⟩ =>
    ⟨h1, v, (hb.block b (Array.getElem?_eq_some_iff.1 h2).1).trans h2, World.ownsRow.kept h3 (only_below hb .none) (by rcases v.ownBlock with _ | k; exact .inl rfl; exact .inr (by simp)), h4⟩
  exact h.elim (fun x => .inl (key _ x)) (fun x => .inr (key _ x))
set_option maxHeartbeats 4000000 in
theorem joined_any (A : Option Addr) (base n c : Nat) (ls : List (List (List Int))) (w : World) (ho : OwnL w base (.slice A n c) ls) (hne : ∀ l ∈ ls, l ≠ []) (hlen : (Sh.flat ls).length ≤ 100000) (hlw : ∀ l ∈ ls, l.length ≤ 100000) (hn : ls.length ≤ 100000) :
    Calls Tryd.prog 12 #[.slice A n c] w fun e w' => e = .returned (.string (K.str (Sh.flat ls))) ∧ Below w.heap.size w w' := by
  obtain ⟨qs, hq1, hq2, hq3, hq4⟩ := ho.parts
  have hnl : n = ls.length := by rw [← hq1, List.length_map, hq2]
  subst hnl
  have HQ3 := hide hq3
  have HQ4 := hide hq4
  have HQ1 := hide (And.intro hq1 hq2)
  have HNE := hide hne
  have HLEN := hide hlen
  have HLW := hide hlw
  clear hq1 hq2 hq3 hq4 hne hlen hlw ho
  have HB0 : Hid (Lib.IsBuilder 61 5 w.heap.size w.heap.size (Lib.byteCells (K.bytes (Sh.flat (ls.take 0)))) (w.alloc (.cells #[.pointer none, .slice none 0 0] 61))) := hide (.inl ⟨Nat.le_refl _, _, heap_alloc_new w _, World.ownsRow_nil _ _ _ _, by intro e; cases e⟩)
  go_enter Tryd.func12, Tryd.ntmps12
  go_wp2
  go_loopw [8] (fun vi wr => ∃ (k : Nat), k ≤ ls.length ∧ vi = .int .i64 k ∧ Lib.IsBuilder 61 5 w.heap.size w.heap.size (Lib.byteCells (K.bytes (Sh.flat (ls.take k)))) wr ∧ Below w.heap.size w wr) (fun vi _ => ls.length - (intOf vi).toNat)
  case atStart => exact ⟨0, Nat.zero_le _, rfl, HB0.out, (Below.refl _ _).alloc (Nat.le_refl _) _⟩
  case round =>
    obtain ⟨k, hk, rfl, hbu, hb⟩ := hrel
    have HBU := hide hbu
    have HB := hide hb
    have HS := hide hb.size
    by_cases hlt : k < ls.length
    · have hkq : k < qs.length := by rw [HQ1.out.2]; exact hlt
      have hqk : qs[k].1 = ls[k] := by
        have := HQ1.out.1
        have e : (qs.map (·.1))[k]'(by simpa using hkq) = ls[k] := by simp only [this]
        simpa using e
      obtain ⟨g, rfl, hc⟩ := HQ3.out (by intro e; rw [e] at hkq; simp at hkq)
      have hcell := hc k (.slice qs[k].2.1 qs[k].1.length qs[k].2.2) (by rw [lisC_at, List.getElem?_eq_getElem hkq]; rfl)
      obtain ⟨e1, e2, hrow⟩ := HQ4.out qs[k] (List.getElem_mem hkq)
      rw [hqk] at hcell e1 hrow
      have hnek := HNE.out _ (List.getElem_mem hlt)
      have hl0 : ls[k].length ≠ 0 := fun e => hnek (List.eq_nil_of_length_eq_zero e)
      obtain ⟨gr, cur, e3, _, hgr, hheap, hcur⟩ := hrow hl0
      have hgw := block_of_cell hcell
      have c0 := (hb.cell (p := ⟨g, k, none⟩) hgw).trans hcell
      rw [e3] at c0
      have hgs : g < wr.heap.size := by have := hb.size; omega
      have HJ := hide (Tryd.strings_Join gr 0 qs[k].2.2 (ls[k].map K.str) ⟨#[32]⟩ wr (fun j x hj => by
        rw [List.getElem?_map] at hj
        obtain ⟨y, hy, rfl⟩ := Option.map_eq_some_iff.1 hj
        obtain ⟨hjl, rfl⟩ := List.getElem?_eq_some_iff.1 hy
        rw [Nat.zero_add]
        exact (hb.cell (p := ⟨gr, j, none⟩) hgr).trans ((cell_of_row w gr j _ _ _ hheap).trans (hcur j hjl))) (by have := hb.size; omega) (by have := HLW.out _ (List.getElem_mem hlt); rw [List.length_map]; omega) (by rw [List.length_map]; exact e1) (by
        rw [show (⟨#[32]⟩ : ByteArray).data.toList = [32] from rfl, Sh.join_bytes, K.bytes_len]
        have h1 := Sh.flat_take k hlt
        have h2 := Sh.flat_take_le ls (k + 1)
        rw [h1, List.length_append, List.length_append] at h2
        have := HLEN.out
        omega))
      rw [show (⟨#[32]⟩ : ByteArray).data.toList = [32] from rfl, Sh.join_bytes, List.length_map] at HJ
      have HFT := hide (Sh.flat_take k hlt)
      have HFL := hide (Sh.flat_take_le ls (k + 1))
      generalize hm : qs[k].2.2 = cq at *
      clear hcell hrow e1 e2 e3 hnek hl0 hcur hheap hgr hqk hc hbu hb
      go_wp2_with fail
      refine HJ.out.mono ?_; rintro _ w2 ⟨rfl, hb2⟩
      have HB2 := hide (HB.out.trans (hb2.mono HS.out))
      have HBU2 := hide (isB_below HBU.out hb2)
      clear hb2
      have hf : (Sh.flat (ls.take k)).length + (Sh.joinW ls[k]).length + 1 ≤ 100000 := by
        have h1 := HFL.out; rw [HFT.out, List.length_append, List.length_append] at h1
        have := HLEN.out
        simp at h1
        omega
      have HWS := hide (writeString_any w.heap.size w.heap.size _ (K.str (Sh.joinW ls[k])) w2 HBU2.out (by rw [Lib.byteCells_length, K.bytes_len]; have : (K.str (Sh.joinW ls[k])).size = (Sh.joinW ls[k]).length := (by show (K.bytes _).toArray.size = _; rw [List.size_toArray, K.bytes_len]); omega) HB2.out.size)
      go_wp2_with fail
      refine HWS.out.mono ?_; rintro _ w3 ⟨rfl, hbu3, hb3⟩
      have HB3 := hide (HB2.out.trans hb3)
      have HWB := hide (writeByte_any w.heap.size w.heap.size _ 10 w3 (.inr hbu3) (by rw [List.length_append, Lib.byteCells_length, K.bytes_len, Lib.strCells_length]; have : (K.str (Sh.joinW ls[k])).size = (Sh.joinW ls[k]).length := (by show (K.bytes _).toArray.size = _; rw [List.size_toArray, K.bytes_len]); omega) (HB2.out.trans hb3).size)
      clear hbu3 hb3
      go_wp2_with fail
      refine HWB.out.mono ?_; rintro _ w4 ⟨rfl, hbu4, hb4⟩
      have HB4 := hide (HB3.out.trans hb4)
      have HBU4 : Hid (Lib.IsBuilder 61 5 w.heap.size w.heap.size (Lib.byteCells (K.bytes (Sh.flat (ls.take (k + 1))))) w4) := hide (by
        have e : Lib.byteCells (K.bytes (Sh.flat (ls.take (k + 1)))) = Lib.byteCells (K.bytes (Sh.flat (ls.take k))) ++ Lib.strCells (K.str (Sh.joinW ls[k])) ++ [.int .u8 10] := by
          rw [HFT.out, K.bytes_app, K.bytes_app]
          unfold Lib.byteCells Lib.strCells
          rw [List.map_append, List.map_append, List.append_assoc]
          rfl
        rw [e]; exact .inr hbu4)
      clear hbu4 hb4
      go_wp2
      go_roundw
      case rel => exact ⟨k + 1, by omega, by go_num, HBU4.out, HB4.out⟩
      case measure => simp [intOf]; omega
    · obtain rfl : k = ls.length := by omega
      have HST := hide (Tryd.Builder_String_any w.heap.size w.heap.size (K.bytes (Sh.flat (ls.take ls.length))) wr HBU.out HS.out)
      rw [List.take_length] at HST
      clear hbu hb
      go_wp2_with fail
      refine HST.out.mono ?_; rintro _ w2 ⟨rfl, hb2⟩
      have HB2 := hide (HB.out.trans hb2)
      clear hb2
      go_wp2
      go_ret
      exact ⟨rfl, HB2.out⟩
end Go.Proofs.YtkfelkpilaipnaaDoor

namespace Go.Proofs.YtkfelkpilaipnaaDoor
set_option maxRecDepth 100000
open Go.RowKit

def isT (z : Int) : Bool := decide (0 ≤ z)
def noHas (G : Gm.Gr) (z : Int) : Bool := !Gm.has G z

set_option maxHeartbeats 2000000 in
theorem index_term (A : Option Addr) (c B : Nat) (l : List Int) (w : World) (hr : RdI w B A l) (hB : B ≤ w.heap.size) (hlen : (l.length : Int) ≤ 9223372036854775807) :
    Calls Tryd.prog 90 #[.slice A l.length c, .func (Fn.func 66) #[] #[]] w fun e w' => ∃ n : Int, e = .returned (.int .i64 n) ∧ decide (0 ≤ n) = l.any isT ∧ Below w.heap.size w w' := by
  have HT := hide hr
  have HB0 := hide (Below.refl w.heap.size w)
  clear hr
  go_enter Tryd.func90, Tryd.ntmps90
  go_wp2
  go_loopw [8] (fun vi wr => ∃ (k : Nat), k ≤ l.length ∧ vi = .int .i64 k ∧ Hid (AllK l (fun z => !isT z) k) ∧ Below w.heap.size w wr) (fun vi _ => l.length - (intOf vi).toNat)
  case atStart => exact ⟨0, Nat.zero_le _, rfl, hide (AllK.zero _ _), HB0.out⟩
  case round =>
    obtain ⟨k, hk, rfl, HA, hb⟩ := hrel
    have HB := hide hb
    by_cases hlt : k < l.length
    · obtain ⟨g, o, rfl, hgb, hc⟩ := HT.out (by omega)
      have k0 := (hb.cell (p := ⟨g, o + k, none⟩) (Nat.lt_of_lt_of_le hgb hB)).trans (hc k hlt)
      rw [L.gd_lt hlt] at k0
      have HC := hide (fun (x : World) (_ : Below w.heap.size w x) => (isTerm_any l[k] x).mono (fun e w' h => ⟨h.1, by rw [h.2]; exact Below.refl _ _⟩ : ∀ e w', _ → (e = .returned (.bool (isT l[k])) ∧ Below x.heap.size x w')))
      have HN := hide (fun h => HA.out.next hlt h)
      have HY := hide (fun (h : isT l[k] = true) => (List.any_eq_true.2 ⟨_, List.getElem_mem hlt, h⟩ : l.any isT = true))
      clear hb hc
      obtain ⟨z, qz⟩ : ∃ z, z = l[k] := ⟨_, rfl⟩
      rw [← qz] at k0 HC HN HY
      clear qz
      cases q : isT z
      · have HX := hide (HN.out (by simp only [q]; rfl))
        rw [q] at HC
        clear q HN HY
        go_wp2_with fail
        refine (HC.out _ HB.out).mono ?_; rintro _ w2 ⟨rfl, hb2⟩
        have HB2 := hide (HB.out.trans (hb2.mono HB.out.size))
        clear hb2
        go_wp2
        go_roundw
        case rel => exact ⟨k + 1, by omega, by go_num, HX, HB2.out⟩
        case measure => simp [intOf]; omega
      · have HX := hide (HY.out q)
        rw [q] at HC
        clear q HN HY
        go_wp2_with fail
        refine (HC.out _ HB.out).mono ?_; rintro _ w2 ⟨rfl, hb2⟩
        have HB2 := hide (HB.out.trans (hb2.mono HB.out.size))
        clear hb2
        go_wp2
        go_ret
        exact ⟨k, rfl, by rw [HX.out]; simp, HB2.out⟩
    · obtain rfl : k = l.length := by omega
      have HX : Hid (l.any isT = false) := hide (by
        rw [List.any_eq_false]
        intro z hz
        obtain ⟨i, hi, rfl⟩ := List.getElem_of_mem hz
        have := HA.out i hi hi
        simpa using this)
      clear hb
      go_wp2
      go_ret
      exact ⟨-1, rfl, by rw [HX.out]; rfl, HB.out⟩

theorem contains_term (A : Option Addr) (c B : Nat) (l : List Int) (w : World) (hr : RdI w B A l) (hB : B ≤ w.heap.size) (hlen : (l.length : Int) ≤ 9223372036854775807) :
    Calls Tryd.prog 63 #[.slice A l.length c, .func (Fn.func 66) #[] #[]] w fun e w' => e = .returned (.bool (l.any isT)) ∧ Below w.heap.size w w' := by
  have HI := hide (index_term A c B l w hr hB hlen)
  clear hr hlen
  go_enter Tryd.func63, Tryd.ntmps63
  go_wp2_with fail
  refine HI.out.mono ?_; rintro _ w2 ⟨n, rfl, hn, hb⟩
  have HN := hide hn
  have HB := hide hb
  clear hn hb
  go_wp2
  go_ret
  exact ⟨ret_bool HN.out, HB.out⟩

theorem hasNot_any (v : Value) (G : Gm.Gr) (B gb : Nat) (z : Int) (a : Array Value) (hv : v = .agg a) (hz : Gm.In z) (w : World) (hg : RdGr w B v G) (hb : w.heap[gb]? = some (.cells a 26 (0, 0))) :
    Calls Tryd.prog 64 #[.int .i64 z, .pointer (some ⟨gb, 0, none⟩)] w fun e w' => e = .returned (.bool (noHas G z)) ∧ Below w.heap.size w w' := by
  have HH := hide (has_any v G B z hz w hg)
  obtain ⟨AT, cT, AN, cN, AR, cR, rfl, _⟩ := hg
  injection hv with hv
  subst hv
  have c0 := cell_of_row w gb 0 _ _ _ hb
  have c1 := cell_of_row w gb 1 _ _ _ hb
  have c2 := cell_of_row w gb 2 _ _ _ hb
  have c3 := cell_of_row w gb 3 _ _ _ hb
  clear hb hz
  go_enter Tryd.func64, Tryd.ntmps64
  go_wp2_with fail
  refine HH.out.mono ?_; rintro _ w2 ⟨rfl, hb⟩
  have HB := hide hb
  clear hb
  go_wp2
  go_ret
  exact ⟨rfl, HB.out⟩

set_option maxHeartbeats 2000000 in
theorem index_has (A : Option Addr) (c B : Nat) (l : List Int) (w : World) (G : Gm.Gr) (gb B2 : Nat) (a : Array Value) (hin : ∀ z ∈ l, Gm.In z) (hg : ∀ x : World, Below w.heap.size w x → RdGr x B2 (.agg a) G) (hgb : ∀ x : World, Below w.heap.size w x → x.heap[gb]? = some (.cells a 26 (0, 0))) (hr : RdI w B A l) (hB : B ≤ w.heap.size) (hlen : (l.length : Int) ≤ 9223372036854775807) :
    Calls Tryd.prog 90 #[.slice A l.length c, .func (Fn.func 64) #[] #[.pointer (some ⟨gb, 0, none⟩)]] w fun e w' => ∃ n : Int, e = .returned (.int .i64 n) ∧ decide (0 ≤ n) = l.any (noHas G) ∧ Below w.heap.size w w' := by
  have HT := hide hr
  have HB0 := hide (Below.refl w.heap.size w)
  have HIN := hide hin
  have HG := hide hg
  have HGB := hide hgb
  clear hin hg hgb
  clear hr
  go_enter Tryd.func90, Tryd.ntmps90
  go_wp2
  go_loopw [8] (fun vi wr => ∃ (k : Nat), k ≤ l.length ∧ vi = .int .i64 k ∧ Hid (AllK l (fun z => !(noHas G) z) k) ∧ Below w.heap.size w wr) (fun vi _ => l.length - (intOf vi).toNat)
  case atStart => exact ⟨0, Nat.zero_le _, rfl, hide (AllK.zero _ _), HB0.out⟩
  case round =>
    obtain ⟨k, hk, rfl, HA, hb⟩ := hrel
    have HB := hide hb
    by_cases hlt : k < l.length
    · obtain ⟨g, o, rfl, hgb, hc⟩ := HT.out (by omega)
      have k0 := (hb.cell (p := ⟨g, o + k, none⟩) (Nat.lt_of_lt_of_le hgb hB)).trans (hc k hlt)
      rw [L.gd_lt hlt] at k0
      have HC := hide (fun (x : World) (h : Below w.heap.size w x) => hasNot_any (.agg a) G B2 gb l[k] a rfl (HIN.out _ (List.getElem_mem hlt)) x (HG.out x h) (HGB.out x h))
      have HN := hide (fun h => HA.out.next hlt h)
      have HY := hide (fun (h : (noHas G) l[k] = true) => (List.any_eq_true.2 ⟨_, List.getElem_mem hlt, h⟩ : l.any (noHas G) = true))
      clear hb hc
      obtain ⟨z, qz⟩ : ∃ z, z = l[k] := ⟨_, rfl⟩
      rw [← qz] at k0 HC HN HY
      clear qz
      cases q : (noHas G) z
      · have HX := hide (HN.out (by simp only [q]; rfl))
        rw [q] at HC
        clear q HN HY
        go_wp2_with fail
        refine (HC.out _ HB.out).mono ?_; rintro _ w2 ⟨rfl, hb2⟩
        have HB2 := hide (HB.out.trans (hb2.mono HB.out.size))
        clear hb2
        go_wp2
        go_roundw
        case rel => exact ⟨k + 1, by omega, by go_num, HX, HB2.out⟩
        case measure => simp [intOf]; omega
      · have HX := hide (HY.out q)
        rw [q] at HC
        clear q HN HY
        go_wp2_with fail
        refine (HC.out _ HB.out).mono ?_; rintro _ w2 ⟨rfl, hb2⟩
        have HB2 := hide (HB.out.trans (hb2.mono HB.out.size))
        clear hb2
        go_wp2
        go_ret
        exact ⟨k, rfl, by rw [HX.out]; simp, HB2.out⟩
    · obtain rfl : k = l.length := by omega
      have HX : Hid (l.any (noHas G) = false) := hide (by
        rw [List.any_eq_false]
        intro z hz
        obtain ⟨i, hi, rfl⟩ := List.getElem_of_mem hz
        have := HA.out i hi hi
        simpa using this)
      clear hb
      go_wp2
      go_ret
      exact ⟨-1, rfl, by rw [HX.out]; rfl, HB.out⟩

theorem contains_has (A : Option Addr) (c B : Nat) (l : List Int) (w : World) (G : Gm.Gr) (gb B2 : Nat) (a : Array Value) (hin : ∀ z ∈ l, Gm.In z) (hg : ∀ x : World, Below w.heap.size w x → RdGr x B2 (.agg a) G) (hgb : ∀ x : World, Below w.heap.size w x → x.heap[gb]? = some (.cells a 26 (0, 0))) (hr : RdI w B A l) (hB : B ≤ w.heap.size) (hlen : (l.length : Int) ≤ 9223372036854775807) :
    Calls Tryd.prog 63 #[.slice A l.length c, .func (Fn.func 64) #[] #[.pointer (some ⟨gb, 0, none⟩)]] w fun e w' => e = .returned (.bool (l.any (noHas G))) ∧ Below w.heap.size w w' := by
  have HI := hide (index_has A c B l w G gb B2 a hin hg hgb hr hB hlen)
  clear hr hlen hin hg hgb
  go_enter Tryd.func63, Tryd.ntmps63
  go_wp2_with fail
  refine HI.out.mono ?_; rintro _ w2 ⟨n, rfl, hn, hb⟩
  have HN := hide hn
  have HB := hide hb
  clear hn hb
  go_wp2
  go_ret
  exact ⟨ret_bool HN.out, HB.out⟩
end Go.Proofs.YtkfelkpilaipnaaDoor

namespace Go.Proofs.YtkfelkpilaipnaaDoor
set_option maxRecDepth 100000
open Go.RowKit

/-- May a rule be? -/
def ruB (G : Gm.Gr) (x : Gm.Rl) : Bool := decide (x.r.length ≤ 6) && !x.r.any (noHas G) && (if x.p = -1 then !x.r.any isT else isT x.p && Gm.has G x.p)

set_option maxHeartbeats 4000000 in
theorem rightRule_any (v : Value) (G : Gm.Gr) (B : Nat) (x : Gm.Rl) (A : Option Addr) (c : Nat) (w : World) (hg : RdGr w B v G) (hr : RdI w B A x.r) (hx : ∀ z ∈ x.r, Gm.In z) (hp : Gm.In x.p) (hB : B ≤ w.heap.size) :
    Calls Tryd.prog 41 #[v, .agg #[.int .i64 x.l, .slice A x.r.length c, .int .i64 x.p]] w fun e w' => e = .returned (.bool (ruB G x)) ∧ Below w.heap.size w w' := by
  have HG := hide hg
  obtain ⟨AT, cT, AN, cN, AR, cR, rfl, _⟩ := hg
  have HB0 := hide ((One.start w #[.slice AT G.ts.length cT, .slice AN G.ns.length cN, .slice AR G.rs.length cR, .int .i64 G.st]).alloc (.cells #[.int .i64 x.l, .slice A x.r.length c, .int .i64 x.p] 43))
  have HK0 : Hid (((w.alloc (.cells #[.slice AT G.ts.length cT, .slice AN G.ns.length cN, .slice AR G.rs.length cR, .int .i64 G.st] 26)).alloc (.cells #[.int .i64 x.l, .slice A x.r.length c, .int .i64 x.p] 43)).heap[w.heap.size + 1]? = some (.cells #[.int .i64 x.l, .slice A x.r.length c, .int .i64 x.p] 43 (0, 0))) := hide (by
    have := heap_alloc_new (w.alloc (.cells #[.slice AT G.ts.length cT, .slice AN G.ns.length cN, .slice AR G.rs.length cR, .int .i64 G.st] 26)) (.cells #[.int .i64 x.l, .slice A x.r.length c, .int .i64 x.p] 43)
    simpa using this)
  by_cases h6 : 6 < x.r.length
  · have HX : Hid (ruB G x = false) := hide (by unfold ruB; rw [decide_eq_false (show ¬ x.r.length ≤ 6 by omega)]; rfl)
    rw [HX.out]
    clear hr hx hp
    go_enter Tryd.func41, Tryd.ntmps41
    go_wp2
    go_ret
    exact ⟨rfl, HB0.out.below⟩
  have HOB := hide (fun (y : World) (h : One w #[.slice AT G.ts.length cT, .slice AN G.ns.length cN, .slice AR G.rs.length cR, .int .i64 G.st] y) => (Below.block h w.heap.size (by omega)).trans (heap_alloc_new w _))
  have HCF := hide (fun (y : World) (h : One w #[.slice AT G.ts.length cT, .slice AN G.ns.length cN, .slice AR G.rs.length cR, .int .i64 G.st] y) => contains_has A c B x.r y G w.heap.size B _ hx (fun z hz => HG.out.below (h.on hz).below hB) (fun z hz => HOB.out _ (h.on hz)) (hr.keep fun g o hg => h.below.cell (p := ⟨g, o, none⟩) (Nat.lt_of_lt_of_le hg hB)) (Nat.le_trans hB h.below.size) (by omega))
  have HCT := hide (fun (y : World) (h : One w #[.slice AT G.ts.length cT, .slice AN G.ns.length cN, .slice AR G.rs.length cR, .int .i64 G.st] y) => contains_term A c B x.r y (hr.keep fun g o hg => h.below.cell (p := ⟨g, o, none⟩) (Nat.lt_of_lt_of_le hg hB)) (Nat.le_trans hB h.below.size) (by omega))
  have HIT := hide (fun y => isTerm_any x.p y)
  have HHS := hide (fun (y : World) (h : One w #[.slice AT G.ts.length cT, .slice AN G.ns.length cN, .slice AR G.rs.length cR, .int .i64 G.st] y) => has_any _ G B x.p hp y (HG.out.below h.below hB))
  have HRU : Hid (ruB G x = (!x.r.any (noHas G) && (if x.p = -1 then !x.r.any isT else isT x.p && Gm.has G x.p))) := hide (by unfold ruB; rw [decide_eq_true (show x.r.length ≤ 6 by omega)]; rfl)
  clear hr hx hp HG
  cases q1 : x.r.any (noHas G)
  case true =>
    have HX : Hid (ruB G x = false) := hide (by rw [HRU.out, q1]; rfl)
    rw [q1] at HCF
    rw [HX.out]
    clear q1 HRU
    go_enter Tryd.func41, Tryd.ntmps41
    go_wp2_with fail
    refine (HCF.out _ HB0.out).mono ?_; rintro _ w2 ⟨rfl, hb⟩
    have HB2 := hide (HB0.out.on hb)
    clear hb
    go_wp2
    go_ret
    exact ⟨rfl, HB2.out.below⟩
  rw [q1] at HCF
  have HR2 : Hid (ruB G x = (if x.p = -1 then !x.r.any isT else isT x.p && Gm.has G x.p)) := hide (by rw [HRU.out, q1]; rfl)
  clear q1 HRU
  by_cases h1 : x.p = -1
  · have HX := hide (HR2.out.trans (if_pos h1))
    have e1 : (x.p == -1) = true := beq_iff_eq.2 h1
    rw [HX.out]
    generalize x.r.any isT = b at *
    clear h1 HIT HHS HR2 HX
    go_enter Tryd.func41, Tryd.ntmps41
    go_wp2_with fail
    refine (HCF.out _ HB0.out).mono ?_; rintro _ w2 ⟨rfl, hb⟩
    have HB2 := hide (HB0.out.on hb)
    have hbb := (hb.block (w.heap.size + 1) (by simp)).trans HK0.out
    have d1 := cell_of_row w2 _ 1 _ _ _ hbb
    have d2 := cell_of_row w2 _ 2 _ _ _ hbb
    have hz : w.heap.size + 1 < w2.heap.size := (Array.getElem?_eq_some_iff.1 hbb).1
    clear hb hbb
    go_wp2_with fail
    refine (HCT.out _ HB2.out).mono ?_; rintro _ w3 ⟨rfl, hb⟩
    have HB3 := hide (HB2.out.on hb)
    clear hb
    go_wp2
    go_ret
    exact ⟨rfl, HB3.out.below⟩
  · have HX := hide (HR2.out.trans (if_neg h1))
    have e1 : (x.p == -1) = false := beq_eq_false_iff_ne.2 h1
    rw [HX.out]
    unfold isT
    clear h1 HCT HR2 HX
    cases q2 : decide (0 ≤ x.p)
    · rw [q2] at HIT
      clear q2 HHS
      go_enter Tryd.func41, Tryd.ntmps41
      go_wp2_with fail
      refine (HCF.out _ HB0.out).mono ?_; rintro _ w2 ⟨rfl, hb⟩
      have HB2 := hide (HB0.out.on hb)
      have hbb := (hb.block (w.heap.size + 1) (by simp)).trans HK0.out
      have d1 := cell_of_row w2 _ 1 _ _ _ hbb
      have d2 := cell_of_row w2 _ 2 _ _ _ hbb
      have hz : w.heap.size + 1 < w2.heap.size := (Array.getElem?_eq_some_iff.1 hbb).1
      clear hb hbb
      go_wp2_with fail
      refine (HIT.out _).mono ?_; rintro _ _ ⟨rfl, rfl⟩
      go_wp2
      go_ret
      exact ⟨rfl, HB2.out.below⟩
    · rw [q2] at HIT
      clear q2
      generalize Gm.has G x.p = b at *
      go_enter Tryd.func41, Tryd.ntmps41
      go_wp2_with fail
      refine (HCF.out _ HB0.out).mono ?_; rintro _ w2 ⟨rfl, hb⟩
      have HB2 := hide (HB0.out.on hb)
      have hbb := (hb.block (w.heap.size + 1) (by simp)).trans HK0.out
      have d1 := cell_of_row w2 _ 1 _ _ _ hbb
      have d2 := cell_of_row w2 _ 2 _ _ _ hbb
      have hz : w.heap.size + 1 < w2.heap.size := (Array.getElem?_eq_some_iff.1 hbb).1
      have q0 := HB2.out.c 0 _ rfl
      have q1 := HB2.out.c 1 _ rfl
      have q2 := HB2.out.c 2 _ rfl
      have q3 := HB2.out.c 3 _ rfl
      clear hb hbb
      go_wp2_with fail
      refine (HIT.out _).mono ?_; rintro _ w5 ⟨rfl, hw5⟩
      subst hw5
      go_wp2_with fail
      refine (HHS.out _ HB2.out).mono ?_; rintro _ w3 ⟨rfl, hb⟩
      have HB3 := hide (HB2.out.on hb)
      clear hb
      go_wp2
      go_ret
      exact ⟨ret_bool (by simp), HB3.out.below⟩

/-- May rules be, behind ones of which so many nonterminals came? -/
def rrF (G : Gm.Gr) : List Gm.Rl → Int → Bool
  | [], n => n == G.ns.length
  | x :: r, n => if x.l < 0 ∨ n < x.l ∨ ruB G x = false then false else rrF G r (max n (x.l + 1))
theorem rrF_drop {G : Gm.Gr} {rs : List Gm.Rl} {k : Nat} (h : k < rs.length) (n : Int) : rrF G (rs.drop k) n = if rs[k].l < 0 ∨ n < rs[k].l ∨ ruB G rs[k] = false then false else rrF G (rs.drop (k + 1)) (max n (rs[k].l + 1)) := by
  rw [List.drop_eq_getElem_cons h, rrF]
theorem rrF_end {G : Gm.Gr} {rs : List Gm.Rl} {k : Nat} (h : rs.length ≤ k) (n : Int) : rrF G (rs.drop k) n = (n == (G.ns.length : Int)) := by
  rw [List.drop_eq_nil_of_le h, rrF]

def rrB (G : Gm.Gr) : Bool := decide (G.rs.length ≤ 40) && rrF G G.rs 0
set_option maxHeartbeats 4000000 in
theorem rightRules_any (v : Value) (G : Gm.Gr) (B : Nat) (w : World) (hg : RdGr w B v G) (hf : Gm.Fit G) (hB : B ≤ w.heap.size) :
    Calls Tryd.prog 21 #[v] w fun e w' => e = .returned (.bool (rrB G)) ∧ Below w.heap.size w w' := by
  have HG := hide hg
  obtain ⟨AT, cT, AN, cN, AR, cR, rfl, ⟨hlT, hmT⟩, ⟨hlN, hmN⟩, ⟨hlR, hmR⟩, _, _, ht⟩ := hg
  have HT := hide ht
  have HF := hide hf
  have HS0 := hide (One.start w #[.slice AT G.ts.length cT, .slice AN G.ns.length cN, .slice AR G.rs.length cR, .int .i64 G.st])
  have hlenN : (G.ns.length : Int) ≤ 9223372036854775807 := by omega
  clear ht hf
  by_cases h40 : 40 < G.rs.length
  · have HX : Hid (rrB G = false) := hide (by unfold rrB; rw [decide_eq_false (show ¬ G.rs.length ≤ 40 by omega)]; rfl)
    rw [HX.out]
    go_enter Tryd.func21, Tryd.ntmps21
    go_wp2
    go_ret
    exact ⟨rfl, HS0.out.below⟩
  have HRR : Hid (rrB G = rrF G (G.rs.drop 0) 0) := hide (by unfold rrB; rw [decide_eq_true (show G.rs.length ≤ 40 by omega)]; rfl)
  go_enter Tryd.func21, Tryd.ntmps21
  go_wp2
  go_loopw [3, 13] (fun vt vi wr => ∃ (k : Nat) (z : Int), k ≤ G.rs.length ∧ vi = .int .i64 k ∧ vt = .int .i64 z ∧ (0 ≤ z ∧ z ≤ 100 + k) ∧ Hid (rrB G = rrF G (G.rs.drop k) z) ∧ One w #[.slice AT G.ts.length cT, .slice AN G.ns.length cN, .slice AR G.rs.length cR, .int .i64 G.st] wr) (fun _ vi _ => G.rs.length - (intOf vi).toNat)
  case atStart => exact ⟨0, 0, Nat.zero_le _, rfl, rfl, by omega, HRR, HS0.out⟩
  case round =>
    obtain ⟨k, z, hk, rfl, rfl, hzz, HE, hb⟩ := hrel
    have HB := hide hb
    have hz : w.heap.size < wr.heap.size := hb.size
    have hbw := hb.below
    have q0 := hb.c 0 _ rfl
    have q1 := hb.c 1 _ rfl
    have q2 := hb.c 2 _ rfl
    have q3 := hb.c 3 _ rfl
    clear hb
    by_cases hlt : k < G.rs.length
    · obtain ⟨g, o, rfl, hgb, hc⟩ := HT.out (by omega)
      obtain ⟨k0, ⟨A', c', k1, _, _, hri⟩, k2⟩ := hc k hlt
      have k0 := (hbw.cell (p := ⟨g, o + k * 3, none⟩) (Nat.lt_of_lt_of_le hgb hB)).trans k0
      have k1 := (hbw.cell (p := ⟨g, o + k * 3 + 1, none⟩) (Nat.lt_of_lt_of_le hgb hB)).trans k1
      have k2 := (hbw.cell (p := ⟨g, o + k * 3 + 2, none⟩) (Nat.lt_of_lt_of_le hgb hB)).trans k2
      have hgs : g < wr.heap.size := by omega
      have hft := HF.out.r _ (List.getElem_mem hlt)
      have HRU := hide (fun (y : World) (h : One w #[.slice AT G.ts.length cT, .slice AN G.ns.length cN, .slice (some ⟨g, o, none⟩) G.rs.length cR, .int .i64 G.st] y) => rightRule_any _ G B G.rs[k] A' c' y (HG.out.below h.below hB) (hri.keep fun g o hg => h.below.cell (p := ⟨g, o, none⟩) (Nat.lt_of_lt_of_le hg hB)) hft.2.2 hft.2.1 (Nat.le_trans hB h.below.size))
      have HN := hide (HE.out.trans (rrF_drop hlt z))
      have hil := hft.1
      unfold Gm.In at hil
      clear hc hbw hft hri
      generalize G.rs[k] = x at *
      by_cases c1 : x.l < 0
      · have HX : Hid (rrB G = false) := hide (HN.out.trans (if_pos (.inl c1)))
        go_wp2
        go_ret
        exact ⟨ret_bool HX.out.symm, (HB.out.alloc _).below⟩
      have c1' := Int.not_lt.1 c1
      by_cases c2 : z < x.l
      · have HX : Hid (rrB G = false) := hide (HN.out.trans (if_pos (.inr (.inl c2))))
        go_wp2
        go_ret
        exact ⟨ret_bool HX.out.symm, (HB.out.alloc _).below⟩
      have c2' := Int.not_lt.1 c2
      cases c3 : ruB G x
      · have HX : Hid (rrB G = false) := hide (HN.out.trans (if_pos (.inr (.inr c3))))
        rw [c3] at HRU
        clear c3 c1 c2
        go_wp2_with fail
        refine (HRU.out _ (HB.out.alloc _)).mono ?_; rintro _ w4 ⟨rfl, hb4⟩
        have HB4 := hide ((HB.out.alloc _).on hb4)
        clear hb4
        go_wp2
        go_ret
        exact ⟨ret_bool HX.out.symm, HB4.out.below⟩
      · have HX := hide (HN.out.trans (if_neg (by rw [c3]; simp; omega)))
        rw [c3] at HRU
        clear c3 c1 c2
        go_wp2_with fail
        refine (HRU.out _ (HB.out.alloc _)).mono ?_; rintro _ w4 ⟨rfl, hb4⟩
        have HB4 := hide ((HB.out.alloc _).on hb4)
        have hbb := (hb4.block wr.heap.size (by simp)).trans (heap_alloc_new wr _)
        have hz4 : wr.heap.size < w4.heap.size := (Array.getElem?_eq_some_iff.1 hbb).1
        have f0 := cell_of_row w4 _ 0 _ _ _ hbb
        clear hb4 hbb
        go_wp2
        go_roundw
        case rel => exact ⟨k + 1, max z (x.l + 1), by omega, by go_num, rfl, by omega, HX, HB4.out⟩
        case measure => simp [intOf]; omega
    · obtain rfl : k = G.rs.length := by omega
      have HX := hide (HE.out.trans (rrF_end (Nat.le_refl _) z))
      clear hbw
      go_wp2
      go_ret
      exact ⟨ret_bool HX.out.symm, HB.out.below⟩

def cfgRight (G : Gm.Gr) : Bool := rnB G && rlF G.ts [] 0 && rrB G && decide (0 ≤ G.st) && decide (G.st < G.ns.length)
set_option maxHeartbeats 4000000 in
theorem gright_raw (v : Value) (G : Gm.Gr) (B : Nat) (w : World) (hg : RdGr w B v G) (hf : Gm.Fit G) (hB : B ≤ w.heap.size) :
    Calls Tryd.prog 11 #[v] w fun e w' => e = .returned (.bool (cfgRight G)) ∧ Below w.heap.size w w' := by
  have HG := hide hg
  have HF := hide hf
  obtain ⟨AT, cT, AN, cN, AR, cR, rfl, ⟨hlT, hmT⟩, ⟨hlN, hmN⟩, ⟨hlR, hmR⟩, htm, _, _⟩ := hg
  have HS0 := hide (One.start w #[.slice AT G.ts.length cT, .slice AN G.ns.length cN, .slice AR G.rs.length cR, .int .i64 G.st])
  have H1 := hide (fun (x : World) (h : One w #[.slice AT G.ts.length cT, .slice AN G.ns.length cN, .slice AR G.rs.length cR, .int .i64 G.st] x) => rightNames_any _ G B x (HG.out.below h.below hB) HF.out (Nat.le_trans hB h.below.size))
  have H2 := hide (fun (x : World) (h : One w #[.slice AT G.ts.length cT, .slice AN G.ns.length cN, .slice AR G.rs.length cR, .int .i64 G.st] x) => rightLevels_any AT cT B G.ts x (htm.keep fun g o hg => h.below.cell (p := ⟨g, o, none⟩) (Nat.lt_of_lt_of_le hg hB)) HF.out.t (Nat.le_trans hB h.below.size) (by omega))
  have H3 := hide (fun (x : World) (h : One w #[.slice AT G.ts.length cT, .slice AN G.ns.length cN, .slice AR G.rs.length cR, .int .i64 G.st] x) => rightRules_any _ G B x (HG.out.below h.below hB) HF.out (Nat.le_trans hB h.below.size))
  have hlenN : (G.ns.length : Int) ≤ 9223372036854775807 := by omega
  unfold cfgRight
  clear hf htm HG HF hlT hmT hlN hmN hlR hmR hB
  cases p1 : rnB G
  · rw [p1] at H1
    clear p1 H2 H3
    go_enter Tryd.func11, Tryd.ntmps11
    go_wp2_with fail
    refine (H1.out _ HS0.out).mono ?_; rintro _ w2 ⟨rfl, hb⟩
    have HB2 := hide (HS0.out.on hb)
    clear hb
    go_wp2
    go_ret
    exact ⟨rfl, HB2.out.below⟩
  rw [p1] at H1
  clear p1
  cases p2 : rlF G.ts [] 0
  · rw [p2] at H2
    clear p2 H3
    go_enter Tryd.func11, Tryd.ntmps11
    go_wp2_with fail
    refine (H1.out _ HS0.out).mono ?_; rintro _ w2 ⟨rfl, hb⟩
    have HB2 := hide (HS0.out.on hb)
    have q0 := HB2.out.c 0 _ rfl
    have z2 : w.heap.size < w2.heap.size := HB2.out.size
    clear hb
    go_wp2_with fail
    refine (H2.out _ HB2.out).mono ?_; rintro _ w3 ⟨rfl, hb⟩
    have HB3 := hide (HB2.out.on hb)
    clear hb
    go_wp2
    go_ret
    exact ⟨rfl, HB3.out.below⟩
  rw [p2] at H2
  clear p2
  cases p3 : rrB G
  · rw [p3] at H3
    clear p3
    go_enter Tryd.func11, Tryd.ntmps11
    go_wp2_with fail
    refine (H1.out _ HS0.out).mono ?_; rintro _ w2 ⟨rfl, hb⟩
    have HB2 := hide (HS0.out.on hb)
    have q0 := HB2.out.c 0 _ rfl
    have z2 : w.heap.size < w2.heap.size := HB2.out.size
    clear hb
    go_wp2_with fail
    refine (H2.out _ HB2.out).mono ?_; rintro _ w3 ⟨rfl, hb⟩
    have HB3 := hide (HB2.out.on hb)
    have r0 := HB3.out.c 0 _ rfl
    have r1 := HB3.out.c 1 _ rfl
    have r2 := HB3.out.c 2 _ rfl
    have r3 := HB3.out.c 3 _ rfl
    have z3 : w.heap.size < w3.heap.size := HB3.out.size
    clear hb
    go_wp2_with fail
    refine (H3.out _ HB3.out).mono ?_; rintro _ w4 ⟨rfl, hb⟩
    have HB4 := hide (HB3.out.on hb)
    clear hb
    go_wp2
    go_ret
    exact ⟨rfl, HB4.out.below⟩
  rw [p3] at H3
  clear p3
  by_cases h4 : 0 ≤ G.st
  · rw [decide_eq_true h4]
    go_enter Tryd.func11, Tryd.ntmps11
    go_wp2_with fail
    refine (H1.out _ HS0.out).mono ?_; rintro _ w2 ⟨rfl, hb⟩
    have HB2 := hide (HS0.out.on hb)
    have q0 := HB2.out.c 0 _ rfl
    have z2 : w.heap.size < w2.heap.size := HB2.out.size
    clear hb
    go_wp2_with fail
    refine (H2.out _ HB2.out).mono ?_; rintro _ w3 ⟨rfl, hb⟩
    have HB3 := hide (HB2.out.on hb)
    have r0 := HB3.out.c 0 _ rfl
    have r1 := HB3.out.c 1 _ rfl
    have r2 := HB3.out.c 2 _ rfl
    have r3 := HB3.out.c 3 _ rfl
    have z3 : w.heap.size < w3.heap.size := HB3.out.size
    clear hb
    go_wp2_with fail
    refine (H3.out _ HB3.out).mono ?_; rintro _ w4 ⟨rfl, hb⟩
    have HB4 := hide (HB3.out.on hb)
    have s1 := HB4.out.c 1 _ rfl
    have s3 := HB4.out.c 3 _ rfl
    have z4 : w.heap.size < w4.heap.size := HB4.out.size
    clear hb
    go_wp2
    go_ret
    exact ⟨ret_bool (by simp), HB4.out.below⟩
  · rw [decide_eq_false h4]
    have h4' := Int.not_le.1 h4
    clear h4
    go_enter Tryd.func11, Tryd.ntmps11
    go_wp2_with fail
    refine (H1.out _ HS0.out).mono ?_; rintro _ w2 ⟨rfl, hb⟩
    have HB2 := hide (HS0.out.on hb)
    have q0 := HB2.out.c 0 _ rfl
    have z2 : w.heap.size < w2.heap.size := HB2.out.size
    clear hb
    go_wp2_with fail
    refine (H2.out _ HB2.out).mono ?_; rintro _ w3 ⟨rfl, hb⟩
    have HB3 := hide (HB2.out.on hb)
    have r0 := HB3.out.c 0 _ rfl
    have r1 := HB3.out.c 1 _ rfl
    have r2 := HB3.out.c 2 _ rfl
    have r3 := HB3.out.c 3 _ rfl
    have z3 : w.heap.size < w3.heap.size := HB3.out.size
    clear hb
    go_wp2_with fail
    refine (H3.out _ HB3.out).mono ?_; rintro _ w4 ⟨rfl, hb⟩
    have HB4 := hide (HB3.out.on hb)
    have s1 := HB4.out.c 1 _ rfl
    have s3 := HB4.out.c 3 _ rfl
    have z4 : w.heap.size < w4.heap.size := HB4.out.size
    clear hb
    go_wp2
    go_ret
    exact ⟨rfl, HB4.out.below⟩
end Go.Proofs.YtkfelkpilaipnaaDoor
