/- Part of the proofs over this program: WalkTrims13. -/
import Derived.Test.YtajcegofflmoeaaGreatDoorKL
import Derived.Test.YtajcegofflmoeaaGreatDoorKM
import Derived.Test.YtajcegofflmoeaaGreatDoorKU
namespace Go.Proofs.YtajcegofflmoeaaGreatDoor
set_option maxRecDepth 100000
open Go.RowKit

theorem Gm.rdE_parts {G : Gm.Gr} (h : Gm.rdE G = 0) : Gm.right G = true ∧ Gm.Gn true G.rs G.st := by
  unfold Gm.rdE at h
  split at h
  · rename_i hr
    split at h
    · rename_i ht
      exact ⟨hr, Gm.tr_iff.1 ht⟩
    · cases h
  · cases h
theorem Gm.enB_red {G : Gm.Gr} (h : Gm.rdE G = 0) : Gm.enB (Gm.rdG G) = Gm.enB G := by
  obtain ⟨hr, hp⟩ := Gm.rdE_parts h
  have hok := Gm.right_ok.1 hr
  have hrr : Gm.right (Gm.reduce G) = true := Gm.right_ok.2 (Gm.red_ok hok hp)
  unfold Gm.rdG
  rw [if_pos h, Bool.eq_iff_iff, Gm.enB_iff hrr, Gm.enB_iff hr, Gm.endl_red]
theorem Gm.enB_cyc {G : Gm.Gr} (h : Gm.rdE G = 0) : (((Gm.cyG (Gm.rdG G) : Nat) : Int) != 0) = Gm.enB G := by
  obtain ⟨hr, hp⟩ := Gm.rdE_parts h
  have hok := Gm.right_ok.1 hr
  have hrr : Gm.right (Gm.reduce G) = true := Gm.right_ok.2 (Gm.red_ok hok hp)
  rw [← Gm.enB_red h]
  unfold Gm.rdG
  rw [if_pos h, Bool.eq_iff_iff, Gm.enB_iff hrr, Gm.red_cyc, bne_iff_ne]
  unfold Gm.cyG
  rw [if_pos hrr]; omega
set_option maxHeartbeats 16000000 in
theorem cycleTrims_walk (v : Value) (G : Gm.Gr) (w : World) (hg : RdGr w w.heap.size v G) (hf : Gm.Fit G) (ht : Tab32 w) :
    Calls Tryz.prog 6 #[v] w fun e w' => e = .returned (.bool true) ∧ Below w.heap.size w w' := by
  have HGG := hide (fun (x : World) (h : Below w.heap.size w x) => hg.below h (Nat.le_refl _))
  have HAL := hide (fun (x : World) (h : Below w.heap.size w x) => alive13_any x (ht.below h))
  have TG := hide (fun (x : World) (h : Below w.heap.size w x) => great9_any v G w.heap.size x (HGG.out x h) h.size)
  have HRD := hide (fun (x : World) (h : Below w.heap.size w x) => rReduce_any v G w.heap.size x (HGG.out x h) hf h.size)
  have HE1 := hide (fun (x : World) (h : Below w.heap.size w x) => cEndless_any v G w.heap.size x (HGG.out x h) hf h.size)
  have HFT := hide (Gm.rdG_fit hf)
  unfold RedAns at HRD
  obtain ⟨A0, c0, A1, c1, A2, c2, rfl, _⟩ := hg
  have HQ0 := hide (One.start w #[.slice A0 G.ts.length c0, .slice A1 G.ns.length c1, .slice A2 G.rs.length c2, .int .i64 G.st])
  have HXC := hide (fun (x : World) (h : One w #[.slice A0 G.ts.length c0, .slice A1 G.ns.length c1, .slice A2 G.rs.length c2, .int .i64 G.st] x) => And.intro (h.c 0 _ rfl) (And.intro (h.c 1 _ rfl) (And.intro (h.c 2 _ rfl) (h.c 3 _ rfl))))
  clear hf ht
  go_enter Tryz.func6, Tryz.ntmps6
  go_wp2_with fail
  refine (HAL.out _ HQ0.out.below).mono ?_; rintro _ w1 ⟨rfl, hb1⟩
  have HQ1 := hide (HQ0.out.on hb1)
  obtain ⟨x0, x1, x2, x3⟩ := HXC.out w1 HQ1.out
  have lg : w.heap.size < w1.heap.size := HQ1.out.size
  clear hb1
  cases hgr : Gm.great G with
  | true =>
    rw [hgr] at TG
    go_wp2_with fail
    refine (TG.out _ HQ1.out.below).mono ?_; rintro _ w2 ⟨rfl, hb2⟩
    have HQ2 := hide (HQ1.out.on hb2)
    clear hb2
    go_wp2
    go_ret
    exact ⟨rfl, HQ2.out.below⟩
  | false =>
    rw [hgr] at TG
    go_wp2_with fail
    refine (TG.out _ HQ1.out.below).mono ?_; rintro _ wa ⟨rfl, hb2⟩
    have HQa := hide (HQ1.out.on hb2)
    clear x0 x1 x2 x3 lg hb2 hgr TG
    obtain ⟨x0, x1, x2, x3⟩ := HXC.out wa HQa.out
    have lg : w.heap.size < wa.heap.size := HQa.out.size
    by_cases he : Gm.rdE G = 0
    · have HEQ := hide (Gm.enB_red he)
      have HCQ := hide (Gm.enB_cyc he)
      rw [he] at HRD
      clear he
      go_upto_region 8 with fail
      refine (HRD.out _ HQa.out.below).mono ?_; rintro _ wb ⟨gh, AL, cL, rfl, hgh, _, hb⟩
      have HQb := hide (HQa.out.on hb)
      have HEH := hide (fun (x : World) (h : Below wb.heap.size wb x) => cEndless_any gh (Gm.rdG G) wb.heap.size x (hgh.below h (Nat.le_refl _)) HFT.out h.size)
      have HCH := hide (fun (x : World) (h : Below wb.heap.size wb x) => cCycles_any gh (Gm.rdG G) wb.heap.size x (hgh.below h (Nat.le_refl _)) HFT.out h.size)
      rw [HEQ.out] at HEH
      obtain ⟨B0, d0, B1, d1, B2, d2, rfl, _⟩ := hgh
      have hHs := One.start wb #[.slice B0 (Gm.rdG G).ts.length d0, .slice B1 (Gm.rdG G).ns.length d1, .slice B2 (Gm.rdG G).rs.length d2, .int .i64 (Gm.rdG G).st]
      have HQ2 := hide (HQb.out.alloc (.cells #[.slice B0 (Gm.rdG G).ts.length d0, .slice B1 (Gm.rdG G).ns.length d1, .slice B2 (Gm.rdG G).rs.length d2, .int .i64 (Gm.rdG G).st] 26))
      obtain ⟨w2, hw2⟩ : ∃ y, y = wb.alloc (.cells #[.slice B0 (Gm.rdG G).ts.length d0, .slice B1 (Gm.rdG G).ns.length d1, .slice B2 (Gm.rdG G).rs.length d2, .int .i64 (Gm.rdG G).st] 26) := ⟨_, rfl⟩
      rw [← hw2] at HQ2 hHs
      have HHS := hide hHs
      clear x0 x1 x2 x3 lg hb hHs HFT
      go_upto_region 8 with fail
      rw [← hw2]
      clear hw2
      have lg : w.heap.size < w2.heap.size := HQ2.out.size
      have lb : wb.heap.size < w2.heap.size := HHS.out.size
      have hq := HCQ.out
      generalize Gm.enB G = eb at *
      generalize Gm.cyG (Gm.rdG G) = cy at *
      have hbb : (eb == eb) = true := by simp
      have q0 := fun y : Calm.On w2.heap.size w2 => (HXC.out y.1 (HQ2.out.on y.2)).1
      have q1 := fun y : Calm.On w2.heap.size w2 => (HXC.out y.1 (HQ2.out.on y.2)).2.1
      have q2 := fun y : Calm.On w2.heap.size w2 => (HXC.out y.1 (HQ2.out.on y.2)).2.2.1
      have q3 := fun y : Calm.On w2.heap.size w2 => (HXC.out y.1 (HQ2.out.on y.2)).2.2.2
      have p0 := fun y : Calm.On w2.heap.size w2 => (HHS.out.on y.2).c 0 _ rfl
      have p1 := fun y : Calm.On w2.heap.size w2 => (HHS.out.on y.2).c 1 _ rfl
      have p2 := fun y : Calm.On w2.heap.size w2 => (HHS.out.on y.2).c 2 _ rfl
      have p3 := fun y : Calm.On w2.heap.size w2 => (HHS.out.on y.2).c 3 _ rfl
      have HSB : Hid (∀ z, Below w2.heap.size w2 z → ∃ q : Calm.On w2.heap.size w2, z = q.1) := hide (fun z hz => ⟨⟨z, hz⟩, rfl⟩)
      have HD : Hid (Below w2.heap.size w2 w2.drew) := hide (below_drewN (Below.refl _ _) 1)
      refine CalmN.region_tree (fun x => ∃ y : Calm.On w2.heap.size w2, x = y.1) (.one [0, 2] 1 (.one [] 3 (.one [4, 5, 6, 8] 7 (.one [] 9 (.fin [10, 11, 12, 13]))))) (by kernel_rfl) (by kernel_rfl) (fun _ _ d _ _ h => by cases d <;> exact h) ⟨⟨w2.drew, HD.out⟩, rfl⟩ ?_
      simp only [CalmN.wpT, CalmN.wpSt, CalmN.pickOps, List.getElem?_toArray, List.getElem?_cons_zero, List.getElem?_cons_succ]
      repeat (go_big_quiet_step (fail))
      refine wpQuiet_nil ?_
      generalize w2.drew = wd at *
      have HB0 := hide HD.out
      intro KK hKK
      rw [if_pos (by rfl)]
      go_wp2_with fail
      refine (HEH.out _ (HHS.out.on HB0.out).below).mono ?_; rintro _ v1 ⟨rfl, hb⟩
      have HB1 := hide (HB0.out.trans (hb.mono HB0.out.size))
      clear hb
      go_wp2_with fail
      refine hKK _ _ (HSB.out _ HB1.out) (fun x => ∃ y : Calm.On w2.heap.size w2, x = y.1) (fun _ h => h) (HSB.out _ HB1.out) ?_
      clear hKK
      refine wpQuiet_nil ?_
      intro KK hKK
      rw [if_pos (by rfl)]
      go_wp2_with fail
      refine (HE1.out _ (HQ2.out.on HB1.out).below).mono ?_; rintro _ v2 ⟨rfl, hb⟩
      have HB2 := hide (HB1.out.trans (hb.mono HB1.out.size))
      clear hb
      go_wp2_with fail
      refine hKK _ _ (HSB.out _ HB2.out) (fun x => ∃ y : Calm.On w2.heap.size w2, x = y.1) (fun _ h => h) (HSB.out _ HB2.out) ?_
      clear hKK
      repeat (go_big_quiet_step (fail))
      refine wpQuiet_nil ?_
      intro KK hKK
      rw [if_pos (by rfl)]
      go_wp2_with fail
      refine (HEH.out _ (HHS.out.on HB2.out).below).mono ?_; rintro _ v3 ⟨rfl, hb⟩
      have HB3 := hide (HB2.out.trans (hb.mono HB2.out.size))
      clear hb
      go_wp2_with fail
      refine hKK _ _ (HSB.out _ HB3.out) (fun x => ∃ y : Calm.On w2.heap.size w2, x = y.1) (fun _ h => h) (HSB.out _ HB3.out) ?_
      clear hKK
      refine wpQuiet_nil ?_
      intro KK hKK
      rw [if_pos (by rfl)]
      go_wp2_with fail
      refine (HCH.out _ (HHS.out.on HB3.out).below).mono ?_; rintro _ v4 ⟨rfl, hb⟩
      have HB4 := hide (HB3.out.trans (hb.mono HB3.out.size))
      clear hb
      go_wp2_with fail
      refine hKK _ _ (HSB.out _ HB4.out) (fun x => ∃ y : Calm.On w2.heap.size w2, x = y.1) (fun _ h => h) (HSB.out _ HB4.out) ?_
      clear hKK
      repeat (go_big_quiet_step (fail))
      refine wpQuiet_nil ?_
      clear q0 q1 q2 q3 p0 p1 p2 p3
      go_wp2
      go_ret
      exact ⟨rfl, (HQ2.out.on HB4.out).below⟩
    · have hne : (Gm.rdE G != 0) = true := by rw [bne_iff_ne]; exact he
      generalize Gm.rdE G = er at *
      go_wp2_with fail
      refine (HRD.out _ HQa.out.below).mono ?_; rintro _ wb ⟨gh, AL, cL, rfl, hgh, _, hb⟩
      have HQb := hide (HQa.out.on hb)
      obtain ⟨B0, d0, B1, d1, B2, d2, rfl, _⟩ := hgh
      have HBb := hide (fun o => (HQb.out.alloc o).below)
      clear x0 x1 x2 x3 lg hb
      go_wp2
      go_ret
      exact ⟨rfl, HBb.out _⟩
end Go.Proofs.YtajcegofflmoeaaGreatDoor
