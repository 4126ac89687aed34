/- The walk of the statement of any two grammars, over this program. -/
import Derived.Test.YtoehbkgdodogkaaGreatKK
import Derived.Test.YtoehbkgdodogkaaGreatKD
import Derived.IntWalk
namespace Go.Proofs.YtoehbkgdodogkaaGreat
set_option maxRecDepth 100000
open Go.RowKit

/-- What the walk stands on: two grammars in their boxes. -/
structure Asks (w wr : World) (a b : Array Value) : Prop where
  h : Below w.heap.size w wr
  x : wr.heap[w.heap.size]? = some (.cells a 26 (0, 0))
  y : wr.heap[w.heap.size + 1]? = some (.cells b 26 (0, 0))
theorem Asks.up {w wr wn : World} {a b : Array Value} (h : Asks w wr a b) (hb : Below wr.heap.size wr wn) : Asks w wn a b :=
  ⟨h.h.trans (hb.mono h.h.size), (hb.block _ (Array.getElem?_eq_some_iff.1 h.x).1).trans h.x, (hb.block _ (Array.getElem?_eq_some_iff.1 h.y).1).trans h.y⟩

set_option maxHeartbeats 8000000 in
theorem cfgAsks_walk (v u : Value) (G H : Gm.Gr) (z : Int) (w : World) (hg : RdGr w w.heap.size v G) (hh : RdGr w w.heap.size u H) (fg : Gm.Fit G) (fh : Gm.Fit H) (hz : Gm.In z) (hm : ML w) :
    Calls Tryz.prog 3 #[v, u, .int .i64 z] w fun e w' => e = .returned (.bool true) ∧ Below w.heap.size w w' := by
  have HGG := hide (fun (x : World) (h : Below w.heap.size w x) => hg.below h (Nat.le_refl _))
  have HHH := hide (fun (x : World) (h : Below w.heap.size w x) => hh.below h (Nat.le_refl _))
  have HZ := hide hz
  have HAL := hide (fun (x : World) (h : Below w.heap.size w x) => alive9_any x (hm.up h))
  have TG := hide (fun (x : World) (h : Below w.heap.size w x) => great9_any v G w.heap.size x (HGG.out x h) h.size)
  have TG2 := hide (fun (x : World) (h : Below w.heap.size w x) => great9_any u H w.heap.size x (HHH.out x h) h.size)
  have TH := hide (fun (k : Int) (hk : Gm.In k) (x : World) (h : Below w.heap.size w x) => has_any v G w.heap.size k hk x (HGG.out x h))
  have TH2 := hide (fun (k : Int) (hk : Gm.In k) (x : World) (h : Below w.heap.size w x) => rhas_any9 v G w.heap.size k hk x (HGG.out x h))
  have TN := hide (fun (k : Int) (hk : Gm.In k) (x : World) (h : Below w.heap.size w x) => gname_any v G w.heap.size k hk x (HGG.out x h) h.size)
  have TN2 := hide (fun (k : Int) (hk : Gm.In k) (x : World) (h : Below w.heap.size w x) => rname9_any v G w.heap.size k hk x (HGG.out x h) h.size)
  have TR := hide (fun (x : World) (h : Below w.heap.size w x) => gright_any v G w.heap.size x (HGG.out x h) fg h.size)
  have TR2 := hide (fun (x : World) (h : Below w.heap.size w x) => rright_any v G w.heap.size x (HGG.out x h) fg h.size)
  have TS := hide (fun (x : World) (h : Below w.heap.size w x) => gsame_any v u G H w.heap.size w.heap.size x (HGG.out x h) (HHH.out x h) fg fh h.size h.size)
  have TS2 := hide (fun (x : World) (h : Below w.heap.size w x) => rsame_any v u G H w.heap.size w.heap.size x (HGG.out x h) (HHH.out x h) fg fh h.size h.size)
  have TSS := hide (fun (x : World) (h : Below w.heap.size w x) => gsame_any v v G G w.heap.size w.heap.size x (HGG.out x h) (HGG.out x h) fg fg h.size h.size)
  rw [Gm.same_self] at TSS
  obtain ⟨A0, c0, A1, c1, A2, c2, rfl, _⟩ := hg
  obtain ⟨B0, d0, B1, d1, B2, d2, rfl, _⟩ := hh
  have HW0 := hide (fun o1 o2 => ((Below.refl w.heap.size w).alloc (Nat.le_refl _) o1).alloc (by simp) o2)
  have HQ0 : Hid (Asks w ((w.alloc (.cells #[.slice A0 G.ts.length c0, .slice A1 G.ns.length c1, .slice A2 G.rs.length c2, .int .i64 G.st] 26)).alloc (.cells #[.slice B0 H.ts.length d0, .slice B1 H.ns.length d1, .slice B2 H.rs.length d2, .int .i64 H.st] 26)) #[.slice A0 G.ts.length c0, .slice A1 G.ns.length c1, .slice A2 G.rs.length c2, .int .i64 G.st] #[.slice B0 H.ts.length d0, .slice B1 H.ns.length d1, .slice B2 H.rs.length d2, .int .i64 H.st]) := hide ⟨HW0.out _ _, by rw [Below.heap_alloc _ _ _ (by simp)]; exact heap_alloc_new w _, by
      have := heap_alloc_new (w.alloc (.cells #[.slice A0 G.ts.length c0, .slice A1 G.ns.length c1, .slice A2 G.rs.length c2, .int .i64 G.st] 26)) (.cells #[.slice B0 H.ts.length d0, .slice B1 H.ns.length d1, .slice B2 H.rs.length d2, .int .i64 H.st] 26)
      simpa using this⟩
  clear hm fg fh hz HGG HHH
  generalize G.ts.length = gt at *
  generalize G.ns.length = gn at *
  generalize G.rs.length = gr at *
  generalize G.st = gs at *
  generalize H.ts.length = ht at *
  generalize H.ns.length = hn at *
  generalize H.rs.length = hr at *
  generalize H.st = hs at *
  go_enter Tryz.func3, Tryz.ntmps3
  go_wp2_with fail
  refine (HAL.out _ (HW0.out _ _)).mono ?_; rintro _ w1 ⟨rfl, hb1⟩
  have HQ1 := hide (HQ0.out.up hb1)
  have x0 := cell_of_row w1 _ 0 _ _ _ HQ1.out.x
  have x1 := cell_of_row w1 _ 1 _ _ _ HQ1.out.x
  have x2 := cell_of_row w1 _ 2 _ _ _ HQ1.out.x
  have x3 := cell_of_row w1 _ 3 _ _ _ HQ1.out.x
  clear hb1 HQ0 HW0 HAL
  cases hgr : Gm.great G with
  | true =>
    rw [hgr] at TG
    go_wp2_with fail
    refine (TG.out _ HQ1.out.h).mono ?_; rintro _ w2 ⟨rfl, hb2⟩
    have HQ2 := hide (HQ1.out.up hb2)
    clear hb2
    go_wp2
    go_ret
    exact ⟨rfl, HQ2.out.h⟩
  | false =>
    rw [hgr] at TG
    go_wp2_with fail
    refine (TG.out _ HQ1.out.h).mono ?_; rintro _ w2 ⟨rfl, hb2⟩
    have HQ2 := hide (HQ1.out.up hb2)
    have y0 := cell_of_row w2 _ 0 _ _ _ HQ2.out.y
    have y1 := cell_of_row w2 _ 1 _ _ _ HQ2.out.y
    have y2 := cell_of_row w2 _ 2 _ _ _ HQ2.out.y
    have y3 := cell_of_row w2 _ 3 _ _ _ HQ2.out.y
    clear hb2 hgr TG x0 x1 x2 x3
    cases hgh : Gm.great H with
    | true =>
      rw [hgh] at TG2
      go_wp2_with fail
      refine (TG2.out _ HQ2.out.h).mono ?_; rintro _ w3 ⟨rfl, hb3⟩
      have HQ3 := hide (HQ2.out.up hb3)
      clear hb3
      go_wp2
      go_ret
      exact ⟨rfl, HQ3.out.h⟩
    | false =>
      rw [hgh] at TG2
      go_wp2_with fail
      refine (TG2.out _ HQ2.out.h).mono ?_; rintro _ w3 ⟨rfl, hb3⟩
      have HQ3 := hide (HQ2.out.up hb3)
      clear hb3 hgh TG2 y0 y1 y2 y3 HQ2 HQ1
      go_wp2
      go_loopw [7] (fun vi wr => ∃ k : Int, vi = .int .i64 k ∧ z ≤ k ∧ (z < 1000 → k ≤ z + 3) ∧ Hid (Asks w wr #[.slice A0 gt c0, .slice A1 gn c1, .slice A2 gr c2, .int .i64 gs] #[.slice B0 ht d0, .slice B1 hn d1, .slice B2 hr d2, .int .i64 hs])) (fun vi _ => (z + 3 - intOf vi).toNat)
      case atStart => exact ⟨z, rfl, Int.le_refl _, fun _ => by omega, HQ3⟩
      case round =>
        clear HQ3
        obtain ⟨k, rfl, hk1, hk2, HQR⟩ := hrel
        have hxs := (Array.getElem?_eq_some_iff.1 HQR.out.x).1
        have hys := (Array.getElem?_eq_some_iff.1 HQR.out.y).1
        have hzz := HZ.out
        unfold Gm.In at hzz
        by_cases hz0 : z < 1000
        · have hk3 := hk2 hz0
          by_cases hk0 : k ≤ z + 2
          · have C0 : ∀ y : Calm.On wr.heap.size wr, y.1.cell? ⟨w.heap.size, 0, none⟩ = some (.slice A0 gt c0) := fun y => cell_of_row y.1 _ 0 _ _ _ ((y.2.block _ hxs).trans HQR.out.x)
            have C1 : ∀ y : Calm.On wr.heap.size wr, y.1.cell? ⟨w.heap.size, 1, none⟩ = some (.slice A1 gn c1) := fun y => cell_of_row y.1 _ 1 _ _ _ ((y.2.block _ hxs).trans HQR.out.x)
            have C2 : ∀ y : Calm.On wr.heap.size wr, y.1.cell? ⟨w.heap.size, 2, none⟩ = some (.slice A2 gr c2) := fun y => cell_of_row y.1 _ 2 _ _ _ ((y.2.block _ hxs).trans HQR.out.x)
            have C3 : ∀ y : Calm.On wr.heap.size wr, y.1.cell? ⟨w.heap.size, 3, none⟩ = some (.int .i64 gs) := fun y => cell_of_row y.1 _ 3 _ _ _ ((y.2.block _ hxs).trans HQR.out.x)
            have HWD : Hid (Below wr.heap.size wr wr.drew) := hide (below_drewN (Below.refl wr.heap.size wr) 1)
            have HU := hide (fun (x : World) (h : Below wr.heap.size wr x) => HQR.out.h.trans (h.mono HQR.out.h.size))
            have hk : Gm.In k := by have := HZ.out; unfold Gm.In at this ⊢; omega
            have T1 := hide (TH.out k hk)
            have T2 := hide (TH2.out k hk)
            have T3 := hide (TN.out k hk)
            have T4 := hide (TN2.out k hk)
            generalize K.str (Gm.name G k) = sk at *
            clear hk
            cases hq : Gm.has G k
            · rw [hq] at T1 T2
              clear hq
              go_upto_region 8 with fail
              refine CalmN.region_tree (fun x => ∃ y : Calm.On wr.heap.size wr, x = y.1) (.one [0, 1, 3, 4] 2 (.one [] 5 (.one [6, 7, 8, 9, 11, 12] 10 (.one [] 13 (.fin [14, 15]))))) (by kernel_rfl) (by kernel_rfl) (fun _ _ d _ _ h => by cases d <;> exact h) ⟨⟨wr.drew, HWD.out⟩, rfl⟩ ?_
              simp only [CalmN.wpT, CalmN.wpSt, CalmN.pickOps, List.getElem?_toArray, List.getElem?_cons_zero, List.getElem?_cons_succ]
              repeat (go_big_quiet_step (fail))
              refine wpQuiet_nil ?_
              intro KK hKK
              rw [if_pos (by rfl)]
              go_wp2_with fail
              refine (T1.out _ (HU.out _ HWD.out)).mono ?_; rintro _ w5 ⟨rfl, hb⟩
              have Hw5 := hide (HWD.out.trans (hb.mono HWD.out.size))
              clear hb
              go_wp2_with fail
              refine hKK _ _ ⟨⟨_, Hw5.out⟩, rfl⟩ (fun x => ∃ y : Calm.On wr.heap.size wr, x = y.1) (fun _ h => h) ⟨⟨_, Hw5.out⟩, rfl⟩ ?_
              refine wpQuiet_nil ?_
              intro KK hKK
              rw [if_pos (by rfl)]
              go_wp2_with fail
              refine (T2.out _ (HU.out _ Hw5.out)).mono ?_; rintro _ w6 ⟨rfl, hb⟩
              have Hw6 := hide (Hw5.out.trans (hb.mono Hw5.out.size))
              clear hb
              go_wp2_with fail
              refine hKK _ _ ⟨⟨_, Hw6.out⟩, rfl⟩ (fun x => ∃ y : Calm.On wr.heap.size wr, x = y.1) (fun _ h => h) ⟨⟨_, Hw6.out⟩, rfl⟩ ?_
              repeat (go_big_quiet_step (fail))
              refine wpQuiet_nil ?_
              intro KK hKK
              rw [if_pos (by rfl)]
              go_wp2_with fail
              refine (T3.out _ (HU.out _ Hw6.out)).mono ?_; rintro _ w7 ⟨rfl, hb⟩
              have Hw7 := hide (Hw6.out.trans (hb.mono Hw6.out.size))
              clear hb
              go_wp2_with fail
              refine hKK _ _ ⟨⟨_, Hw7.out⟩, rfl⟩ (fun x => ∃ y : Calm.On wr.heap.size wr, x = y.1) (fun _ h => h) ⟨⟨_, Hw7.out⟩, rfl⟩ ?_
              refine wpQuiet_nil ?_
              intro KK hKK
              rw [if_pos (by rfl)]
              go_wp2_with fail
              refine (T4.out _ (HU.out _ Hw7.out)).mono ?_; rintro _ w8 ⟨rfl, hb⟩
              have Hw8 := hide (Hw7.out.trans (hb.mono Hw7.out.size))
              clear hb
              go_wp2_with fail
              refine hKK _ _ ⟨⟨_, Hw8.out⟩, rfl⟩ (fun x => ∃ y : Calm.On wr.heap.size wr, x = y.1) (fun _ h => h) ⟨⟨_, Hw8.out⟩, rfl⟩ ?_
              repeat (go_big_quiet_step (fail))
              refine wpQuiet_nil ?_
              clear C0 C1 C2 C3 hKK
              go_wp2
              go_roundw
              case rel => exact ⟨k + 1, by go_num, by omega, by omega, hide (HQR.out.up Hw8.out)⟩
              case measure => simp [intOf]; omega
            · rw [hq] at T1 T2
              clear hq
              go_upto_region 8 with fail
              refine CalmN.region_tree (fun x => ∃ y : Calm.On wr.heap.size wr, x = y.1) (.one [0, 1, 3, 4] 2 (.one [] 5 (.one [6, 7, 8, 9, 11, 12] 10 (.one [] 13 (.fin [14, 15]))))) (by kernel_rfl) (by kernel_rfl) (fun _ _ d _ _ h => by cases d <;> exact h) ⟨⟨wr.drew, HWD.out⟩, rfl⟩ ?_
              simp only [CalmN.wpT, CalmN.wpSt, CalmN.pickOps, List.getElem?_toArray, List.getElem?_cons_zero, List.getElem?_cons_succ]
              repeat (go_big_quiet_step (fail))
              refine wpQuiet_nil ?_
              intro KK hKK
              rw [if_pos (by rfl)]
              go_wp2_with fail
              refine (T1.out _ (HU.out _ HWD.out)).mono ?_; rintro _ w5 ⟨rfl, hb⟩
              have Hw5 := hide (HWD.out.trans (hb.mono HWD.out.size))
              clear hb
              go_wp2_with fail
              refine hKK _ _ ⟨⟨_, Hw5.out⟩, rfl⟩ (fun x => ∃ y : Calm.On wr.heap.size wr, x = y.1) (fun _ h => h) ⟨⟨_, Hw5.out⟩, rfl⟩ ?_
              refine wpQuiet_nil ?_
              intro KK hKK
              rw [if_pos (by rfl)]
              go_wp2_with fail
              refine (T2.out _ (HU.out _ Hw5.out)).mono ?_; rintro _ w6 ⟨rfl, hb⟩
              have Hw6 := hide (Hw5.out.trans (hb.mono Hw5.out.size))
              clear hb
              go_wp2_with fail
              refine hKK _ _ ⟨⟨_, Hw6.out⟩, rfl⟩ (fun x => ∃ y : Calm.On wr.heap.size wr, x = y.1) (fun _ h => h) ⟨⟨_, Hw6.out⟩, rfl⟩ ?_
              repeat (go_big_quiet_step (fail))
              refine wpQuiet_nil ?_
              intro KK hKK
              rw [if_pos (by rfl)]
              go_wp2_with fail
              refine (T3.out _ (HU.out _ Hw6.out)).mono ?_; rintro _ w7 ⟨rfl, hb⟩
              have Hw7 := hide (Hw6.out.trans (hb.mono Hw6.out.size))
              clear hb
              go_wp2_with fail
              refine hKK _ _ ⟨⟨_, Hw7.out⟩, rfl⟩ (fun x => ∃ y : Calm.On wr.heap.size wr, x = y.1) (fun _ h => h) ⟨⟨_, Hw7.out⟩, rfl⟩ ?_
              refine wpQuiet_nil ?_
              intro KK hKK
              rw [if_pos (by rfl)]
              go_wp2_with fail
              refine (T4.out _ (HU.out _ Hw7.out)).mono ?_; rintro _ w8 ⟨rfl, hb⟩
              have Hw8 := hide (Hw7.out.trans (hb.mono Hw7.out.size))
              clear hb
              go_wp2_with fail
              refine hKK _ _ ⟨⟨_, Hw8.out⟩, rfl⟩ (fun x => ∃ y : Calm.On wr.heap.size wr, x = y.1) (fun _ h => h) ⟨⟨_, Hw8.out⟩, rfl⟩ ?_
              repeat (go_big_quiet_step (fail))
              refine wpQuiet_nil ?_
              clear C0 C1 C2 C3 hKK
              go_wp2
              go_roundw
              case rel => exact ⟨k + 1, by go_num, by omega, by omega, hide (HQR.out.up Hw8.out)⟩
              case measure => simp [intOf]; omega
          · have C0 : ∀ y : Calm.On wr.heap.size wr, y.1.cell? ⟨w.heap.size, 0, none⟩ = some (.slice A0 gt c0) := fun y => cell_of_row y.1 _ 0 _ _ _ ((y.2.block _ hxs).trans HQR.out.x)
            have C1 : ∀ y : Calm.On wr.heap.size wr, y.1.cell? ⟨w.heap.size, 1, none⟩ = some (.slice A1 gn c1) := fun y => cell_of_row y.1 _ 1 _ _ _ ((y.2.block _ hxs).trans HQR.out.x)
            have C2 : ∀ y : Calm.On wr.heap.size wr, y.1.cell? ⟨w.heap.size, 2, none⟩ = some (.slice A2 gr c2) := fun y => cell_of_row y.1 _ 2 _ _ _ ((y.2.block _ hxs).trans HQR.out.x)
            have C3 : ∀ y : Calm.On wr.heap.size wr, y.1.cell? ⟨w.heap.size, 3, none⟩ = some (.int .i64 gs) := fun y => cell_of_row y.1 _ 3 _ _ _ ((y.2.block _ hxs).trans HQR.out.x)
            have D0 : ∀ y : Calm.On wr.heap.size wr, y.1.cell? ⟨w.heap.size + 1, 0, none⟩ = some (.slice B0 ht d0) := fun y => cell_of_row y.1 _ 0 _ _ _ ((y.2.block _ hys).trans HQR.out.y)
            have D1 : ∀ y : Calm.On wr.heap.size wr, y.1.cell? ⟨w.heap.size + 1, 1, none⟩ = some (.slice B1 hn d1) := fun y => cell_of_row y.1 _ 1 _ _ _ ((y.2.block _ hys).trans HQR.out.y)
            have D2 : ∀ y : Calm.On wr.heap.size wr, y.1.cell? ⟨w.heap.size + 1, 2, none⟩ = some (.slice B2 hr d2) := fun y => cell_of_row y.1 _ 2 _ _ _ ((y.2.block _ hys).trans HQR.out.y)
            have D3 : ∀ y : Calm.On wr.heap.size wr, y.1.cell? ⟨w.heap.size + 1, 3, none⟩ = some (.int .i64 hs) := fun y => cell_of_row y.1 _ 3 _ _ _ ((y.2.block _ hys).trans HQR.out.y)
            have HWD : Hid (Below wr.heap.size wr wr.drew) := hide (below_drewN (Below.refl wr.heap.size wr) 1)
            have HU := hide (fun (x : World) (h : Below wr.heap.size wr x) => HQR.out.h.trans (h.mono HQR.out.h.size))
            cases hq : Gm.right G <;> cases hs2 : Gm.same G H
            all_goals
              rw [hq] at TR TR2
              rw [hs2] at TS TS2
              clear hq hs2
              go_upto_region 10 with fail
              refine CalmN.region_tree (fun x => ∃ y : Calm.On wr.heap.size wr, x = y.1) (.one [0, 2] 1 (.one [] 3 (.one [4, 5, 6, 7, 9, 10] 8 (.one [] 11 (.one [12, 13, 14, 15, 16] 17 (.fin [18, 19])))))) (by kernel_rfl) (by kernel_rfl) (fun _ _ d _ _ h => by cases d <;> exact h) ⟨⟨wr.drew, HWD.out⟩, rfl⟩ ?_
              simp only [CalmN.wpT, CalmN.wpSt, CalmN.pickOps, List.getElem?_toArray, List.getElem?_cons_zero, List.getElem?_cons_succ]
              repeat (go_big_quiet_step (fail))
              refine wpQuiet_nil ?_
              intro KK hKK
              rw [if_pos (by rfl)]
              go_wp2_with fail
              refine (TR.out _ (HU.out _ HWD.out)).mono ?_; rintro _ w5 ⟨rfl, hb⟩
              have Hw5 := hide (HWD.out.trans (hb.mono HWD.out.size))
              clear hb
              go_wp2_with fail
              refine hKK _ _ ⟨⟨_, Hw5.out⟩, rfl⟩ (fun x => ∃ y : Calm.On wr.heap.size wr, x = y.1) (fun _ h => h) ⟨⟨_, Hw5.out⟩, rfl⟩ ?_
              refine wpQuiet_nil ?_
              intro KK hKK
              rw [if_pos (by rfl)]
              go_wp2_with fail
              refine (TR2.out _ (HU.out _ Hw5.out)).mono ?_; rintro _ w6 ⟨rfl, hb⟩
              have Hw6 := hide (Hw5.out.trans (hb.mono Hw5.out.size))
              clear hb
              go_wp2_with fail
              refine hKK _ _ ⟨⟨_, Hw6.out⟩, rfl⟩ (fun x => ∃ y : Calm.On wr.heap.size wr, x = y.1) (fun _ h => h) ⟨⟨_, Hw6.out⟩, rfl⟩ ?_
              repeat (go_big_quiet_step (fail))
              refine wpQuiet_nil ?_
              intro KK hKK
              rw [if_pos (by rfl)]
              go_wp2_with fail
              refine (TS.out _ (HU.out _ Hw6.out)).mono ?_; rintro _ w7 ⟨rfl, hb⟩
              have Hw7 := hide (Hw6.out.trans (hb.mono Hw6.out.size))
              clear hb
              go_wp2_with fail
              refine hKK _ _ ⟨⟨_, Hw7.out⟩, rfl⟩ (fun x => ∃ y : Calm.On wr.heap.size wr, x = y.1) (fun _ h => h) ⟨⟨_, Hw7.out⟩, rfl⟩ ?_
              refine wpQuiet_nil ?_
              intro KK hKK
              rw [if_pos (by rfl)]
              go_wp2_with fail
              refine (TS2.out _ (HU.out _ Hw7.out)).mono ?_; rintro _ w8 ⟨rfl, hb⟩
              have Hw8 := hide (Hw7.out.trans (hb.mono Hw7.out.size))
              clear hb
              go_wp2_with fail
              refine hKK _ _ ⟨⟨_, Hw8.out⟩, rfl⟩ (fun x => ∃ y : Calm.On wr.heap.size wr, x = y.1) (fun _ h => h) ⟨⟨_, Hw8.out⟩, rfl⟩ ?_
              repeat (go_big_quiet_step (fail))
              refine wpQuiet_nil ?_
              intro KK hKK
              rw [if_pos (by rfl)]
              go_wp2_with fail
              refine (TSS.out _ (HU.out _ Hw8.out)).mono ?_; rintro _ w9 ⟨rfl, hb⟩
              have Hw9 := hide (Hw8.out.trans (hb.mono Hw8.out.size))
              clear hb
              go_wp2_with fail
              refine hKK _ _ ⟨⟨_, Hw9.out⟩, rfl⟩ (fun x => ∃ y : Calm.On wr.heap.size wr, x = y.1) (fun _ h => h) ⟨⟨_, Hw9.out⟩, rfl⟩ ?_
              repeat (go_big_quiet_step (fail))
              refine wpQuiet_nil ?_
              clear C0 C1 C2 C3 D0 D1 D2 D3 hKK
              go_wp2
              go_ret
              exact ⟨rfl, HU.out _ Hw9.out⟩
        · have hz9 : ¬ z < 1000 := hz0
          obtain ⟨zw, hzw⟩ : ∃ q, q = IntKind.i64.wrap (z + 2) := ⟨_, rfl⟩
          have HZW := hide hzw
          have hadd : IntKind.i64.wrap (z + 2) = zw := hzw.symm
          clear hzw
          by_cases hk0 : k ≤ zw
          · have C0 : ∀ y : Calm.On wr.heap.size wr, y.1.cell? ⟨w.heap.size, 0, none⟩ = some (.slice A0 gt c0) := fun y => cell_of_row y.1 _ 0 _ _ _ ((y.2.block _ hxs).trans HQR.out.x)
            have C1 : ∀ y : Calm.On wr.heap.size wr, y.1.cell? ⟨w.heap.size, 1, none⟩ = some (.slice A1 gn c1) := fun y => cell_of_row y.1 _ 1 _ _ _ ((y.2.block _ hxs).trans HQR.out.x)
            have C2 : ∀ y : Calm.On wr.heap.size wr, y.1.cell? ⟨w.heap.size, 2, none⟩ = some (.slice A2 gr c2) := fun y => cell_of_row y.1 _ 2 _ _ _ ((y.2.block _ hxs).trans HQR.out.x)
            have C3 : ∀ y : Calm.On wr.heap.size wr, y.1.cell? ⟨w.heap.size, 3, none⟩ = some (.int .i64 gs) := fun y => cell_of_row y.1 _ 3 _ _ _ ((y.2.block _ hxs).trans HQR.out.x)
            have D0 : ∀ y : Calm.On wr.heap.size wr, y.1.cell? ⟨w.heap.size + 1, 0, none⟩ = some (.slice B0 ht d0) := fun y => cell_of_row y.1 _ 0 _ _ _ ((y.2.block _ hys).trans HQR.out.y)
            have D1 : ∀ y : Calm.On wr.heap.size wr, y.1.cell? ⟨w.heap.size + 1, 1, none⟩ = some (.slice B1 hn d1) := fun y => cell_of_row y.1 _ 1 _ _ _ ((y.2.block _ hys).trans HQR.out.y)
            have D2 : ∀ y : Calm.On wr.heap.size wr, y.1.cell? ⟨w.heap.size + 1, 2, none⟩ = some (.slice B2 hr d2) := fun y => cell_of_row y.1 _ 2 _ _ _ ((y.2.block _ hys).trans HQR.out.y)
            have D3 : ∀ y : Calm.On wr.heap.size wr, y.1.cell? ⟨w.heap.size + 1, 3, none⟩ = some (.int .i64 hs) := fun y => cell_of_row y.1 _ 3 _ _ _ ((y.2.block _ hys).trans HQR.out.y)
            have HWD : Hid (Below wr.heap.size wr wr.drew) := hide (below_drewN (Below.refl wr.heap.size wr) 1)
            have HU := hide (fun (x : World) (h : Below wr.heap.size wr x) => HQR.out.h.trans (h.mono HQR.out.h.size))
            cases hq : Gm.right G <;> cases hs2 : Gm.same G H
            all_goals
              rw [hq] at TR TR2
              rw [hs2] at TS TS2
              clear hq hs2
              go_upto_region 10 with fail
              refine CalmN.region_tree (fun x => ∃ y : Calm.On wr.heap.size wr, x = y.1) (.one [0, 2] 1 (.one [] 3 (.one [4, 5, 6, 7, 9, 10] 8 (.one [] 11 (.one [12, 13, 14, 15, 16] 17 (.fin [18, 19])))))) (by kernel_rfl) (by kernel_rfl) (fun _ _ d _ _ h => by cases d <;> exact h) ⟨⟨wr.drew, HWD.out⟩, rfl⟩ ?_
              simp only [CalmN.wpT, CalmN.wpSt, CalmN.pickOps, List.getElem?_toArray, List.getElem?_cons_zero, List.getElem?_cons_succ]
              repeat (go_big_quiet_step (fail))
              refine wpQuiet_nil ?_
              intro KK hKK
              rw [if_pos (by rfl)]
              go_wp2_with fail
              refine (TR.out _ (HU.out _ HWD.out)).mono ?_; rintro _ w5 ⟨rfl, hb⟩
              have Hw5 := hide (HWD.out.trans (hb.mono HWD.out.size))
              clear hb
              go_wp2_with fail
              refine hKK _ _ ⟨⟨_, Hw5.out⟩, rfl⟩ (fun x => ∃ y : Calm.On wr.heap.size wr, x = y.1) (fun _ h => h) ⟨⟨_, Hw5.out⟩, rfl⟩ ?_
              refine wpQuiet_nil ?_
              intro KK hKK
              rw [if_pos (by rfl)]
              go_wp2_with fail
              refine (TR2.out _ (HU.out _ Hw5.out)).mono ?_; rintro _ w6 ⟨rfl, hb⟩
              have Hw6 := hide (Hw5.out.trans (hb.mono Hw5.out.size))
              clear hb
              go_wp2_with fail
              refine hKK _ _ ⟨⟨_, Hw6.out⟩, rfl⟩ (fun x => ∃ y : Calm.On wr.heap.size wr, x = y.1) (fun _ h => h) ⟨⟨_, Hw6.out⟩, rfl⟩ ?_
              repeat (go_big_quiet_step (fail))
              refine wpQuiet_nil ?_
              intro KK hKK
              rw [if_pos (by rfl)]
              go_wp2_with fail
              refine (TS.out _ (HU.out _ Hw6.out)).mono ?_; rintro _ w7 ⟨rfl, hb⟩
              have Hw7 := hide (Hw6.out.trans (hb.mono Hw6.out.size))
              clear hb
              go_wp2_with fail
              refine hKK _ _ ⟨⟨_, Hw7.out⟩, rfl⟩ (fun x => ∃ y : Calm.On wr.heap.size wr, x = y.1) (fun _ h => h) ⟨⟨_, Hw7.out⟩, rfl⟩ ?_
              refine wpQuiet_nil ?_
              intro KK hKK
              rw [if_pos (by rfl)]
              go_wp2_with fail
              refine (TS2.out _ (HU.out _ Hw7.out)).mono ?_; rintro _ w8 ⟨rfl, hb⟩
              have Hw8 := hide (Hw7.out.trans (hb.mono Hw7.out.size))
              clear hb
              go_wp2_with fail
              refine hKK _ _ ⟨⟨_, Hw8.out⟩, rfl⟩ (fun x => ∃ y : Calm.On wr.heap.size wr, x = y.1) (fun _ h => h) ⟨⟨_, Hw8.out⟩, rfl⟩ ?_
              repeat (go_big_quiet_step (fail))
              refine wpQuiet_nil ?_
              intro KK hKK
              rw [if_pos (by rfl)]
              go_wp2_with fail
              refine (TSS.out _ (HU.out _ Hw8.out)).mono ?_; rintro _ w9 ⟨rfl, hb⟩
              have Hw9 := hide (Hw8.out.trans (hb.mono Hw8.out.size))
              clear hb
              go_wp2_with fail
              refine hKK _ _ ⟨⟨_, Hw9.out⟩, rfl⟩ (fun x => ∃ y : Calm.On wr.heap.size wr, x = y.1) (fun _ h => h) ⟨⟨_, Hw9.out⟩, rfl⟩ ?_
              repeat (go_big_quiet_step (fail))
              refine wpQuiet_nil ?_
              clear C0 C1 C2 C3 D0 D1 D2 D3 hKK
              go_wp2
              go_ret
              exact ⟨rfl, HU.out _ Hw9.out⟩
          · have C0 : ∀ y : Calm.On wr.heap.size wr, y.1.cell? ⟨w.heap.size, 0, none⟩ = some (.slice A0 gt c0) := fun y => cell_of_row y.1 _ 0 _ _ _ ((y.2.block _ hxs).trans HQR.out.x)
            have C1 : ∀ y : Calm.On wr.heap.size wr, y.1.cell? ⟨w.heap.size, 1, none⟩ = some (.slice A1 gn c1) := fun y => cell_of_row y.1 _ 1 _ _ _ ((y.2.block _ hxs).trans HQR.out.x)
            have C2 : ∀ y : Calm.On wr.heap.size wr, y.1.cell? ⟨w.heap.size, 2, none⟩ = some (.slice A2 gr c2) := fun y => cell_of_row y.1 _ 2 _ _ _ ((y.2.block _ hxs).trans HQR.out.x)
            have C3 : ∀ y : Calm.On wr.heap.size wr, y.1.cell? ⟨w.heap.size, 3, none⟩ = some (.int .i64 gs) := fun y => cell_of_row y.1 _ 3 _ _ _ ((y.2.block _ hxs).trans HQR.out.x)
            have D0 : ∀ y : Calm.On wr.heap.size wr, y.1.cell? ⟨w.heap.size + 1, 0, none⟩ = some (.slice B0 ht d0) := fun y => cell_of_row y.1 _ 0 _ _ _ ((y.2.block _ hys).trans HQR.out.y)
            have D1 : ∀ y : Calm.On wr.heap.size wr, y.1.cell? ⟨w.heap.size + 1, 1, none⟩ = some (.slice B1 hn d1) := fun y => cell_of_row y.1 _ 1 _ _ _ ((y.2.block _ hys).trans HQR.out.y)
            have D2 : ∀ y : Calm.On wr.heap.size wr, y.1.cell? ⟨w.heap.size + 1, 2, none⟩ = some (.slice B2 hr d2) := fun y => cell_of_row y.1 _ 2 _ _ _ ((y.2.block _ hys).trans HQR.out.y)
            have D3 : ∀ y : Calm.On wr.heap.size wr, y.1.cell? ⟨w.heap.size + 1, 3, none⟩ = some (.int .i64 hs) := fun y => cell_of_row y.1 _ 3 _ _ _ ((y.2.block _ hys).trans HQR.out.y)
            have HWD : Hid (Below wr.heap.size wr wr.drew) := hide (below_drewN (Below.refl wr.heap.size wr) 1)
            have HU := hide (fun (x : World) (h : Below wr.heap.size wr x) => HQR.out.h.trans (h.mono HQR.out.h.size))
            cases hq : Gm.right G <;> cases hs2 : Gm.same G H
            all_goals
              rw [hq] at TR TR2
              rw [hs2] at TS TS2
              clear hq hs2
              go_upto_region 10 with fail
              refine CalmN.region_tree (fun x => ∃ y : Calm.On wr.heap.size wr, x = y.1) (.one [0, 2] 1 (.one [] 3 (.one [4, 5, 6, 7, 9, 10] 8 (.one [] 11 (.one [12, 13, 14, 15, 16] 17 (.fin [18, 19])))))) (by kernel_rfl) (by kernel_rfl) (fun _ _ d _ _ h => by cases d <;> exact h) ⟨⟨wr.drew, HWD.out⟩, rfl⟩ ?_
              simp only [CalmN.wpT, CalmN.wpSt, CalmN.pickOps, List.getElem?_toArray, List.getElem?_cons_zero, List.getElem?_cons_succ]
              repeat (go_big_quiet_step (fail))
              refine wpQuiet_nil ?_
              intro KK hKK
              rw [if_pos (by rfl)]
              go_wp2_with fail
              refine (TR.out _ (HU.out _ HWD.out)).mono ?_; rintro _ w5 ⟨rfl, hb⟩
              have Hw5 := hide (HWD.out.trans (hb.mono HWD.out.size))
              clear hb
              go_wp2_with fail
              refine hKK _ _ ⟨⟨_, Hw5.out⟩, rfl⟩ (fun x => ∃ y : Calm.On wr.heap.size wr, x = y.1) (fun _ h => h) ⟨⟨_, Hw5.out⟩, rfl⟩ ?_
              refine wpQuiet_nil ?_
              intro KK hKK
              rw [if_pos (by rfl)]
              go_wp2_with fail
              refine (TR2.out _ (HU.out _ Hw5.out)).mono ?_; rintro _ w6 ⟨rfl, hb⟩
              have Hw6 := hide (Hw5.out.trans (hb.mono Hw5.out.size))
              clear hb
              go_wp2_with fail
              refine hKK _ _ ⟨⟨_, Hw6.out⟩, rfl⟩ (fun x => ∃ y : Calm.On wr.heap.size wr, x = y.1) (fun _ h => h) ⟨⟨_, Hw6.out⟩, rfl⟩ ?_
              repeat (go_big_quiet_step (fail))
              refine wpQuiet_nil ?_
              intro KK hKK
              rw [if_pos (by rfl)]
              go_wp2_with fail
              refine (TS.out _ (HU.out _ Hw6.out)).mono ?_; rintro _ w7 ⟨rfl, hb⟩
              have Hw7 := hide (Hw6.out.trans (hb.mono Hw6.out.size))
              clear hb
              go_wp2_with fail
              refine hKK _ _ ⟨⟨_, Hw7.out⟩, rfl⟩ (fun x => ∃ y : Calm.On wr.heap.size wr, x = y.1) (fun _ h => h) ⟨⟨_, Hw7.out⟩, rfl⟩ ?_
              refine wpQuiet_nil ?_
              intro KK hKK
              rw [if_pos (by rfl)]
              go_wp2_with fail
              refine (TS2.out _ (HU.out _ Hw7.out)).mono ?_; rintro _ w8 ⟨rfl, hb⟩
              have Hw8 := hide (Hw7.out.trans (hb.mono Hw7.out.size))
              clear hb
              go_wp2_with fail
              refine hKK _ _ ⟨⟨_, Hw8.out⟩, rfl⟩ (fun x => ∃ y : Calm.On wr.heap.size wr, x = y.1) (fun _ h => h) ⟨⟨_, Hw8.out⟩, rfl⟩ ?_
              repeat (go_big_quiet_step (fail))
              refine wpQuiet_nil ?_
              intro KK hKK
              rw [if_pos (by rfl)]
              go_wp2_with fail
              refine (TSS.out _ (HU.out _ Hw8.out)).mono ?_; rintro _ w9 ⟨rfl, hb⟩
              have Hw9 := hide (Hw8.out.trans (hb.mono Hw8.out.size))
              clear hb
              go_wp2_with fail
              refine hKK _ _ ⟨⟨_, Hw9.out⟩, rfl⟩ (fun x => ∃ y : Calm.On wr.heap.size wr, x = y.1) (fun _ h => h) ⟨⟨_, Hw9.out⟩, rfl⟩ ?_
              repeat (go_big_quiet_step (fail))
              refine wpQuiet_nil ?_
              clear C0 C1 C2 C3 D0 D1 D2 D3 hKK
              go_wp2
              go_ret
              exact ⟨rfl, HU.out _ Hw9.out⟩
end Go.Proofs.YtoehbkgdodogkaaGreat
