/- Part of the proofs over this program: WalkOf12. -/
import Derived.Test.YthjohhcgegcmhaaGreatKL
namespace Go.Proofs.YthjohhcgegcmhaaGreat
set_option maxRecDepth 100000
open Go.RowKit

set_option maxHeartbeats 16000000 in
theorem firstOf_walk (v : Value) (G : Gm.Gr) (A : Option Addr) (c : Nat) (l : List Int) (rest : Nat) (w : World) (hg : RdGr w w.heap.size v G) (hf : Gm.Fit G) (hr : RdI w w.heap.size A l) (hin : ∀ z ∈ l, Gm.In z) (hlc : l.length ≤ c) (hcm : c ≤ 9223372036854775807) (hrest : rest < 4294967296) :
    Calls Tryz.prog 4 #[v, .slice A l.length c, .int .u32 rest] w fun e w' => e = .returned (.bool true) ∧ Below w.heap.size w w' := by
  have HGG := hide (fun (x : World) (h : Below w.heap.size w x) => hg.below h (Nat.le_refl _))
  have HAL := hide (fun (x : World) => alive12_any x)
  have TG := hide (fun (x : World) (h : Below w.heap.size w x) => great9_any v G w.heap.size x (HGG.out x h) h.size)
  have HO1 := hide (fun (x : World) (h : Below w.heap.size w x) => of_any v G l rest A c w.heap.size x (HGG.out x h) hf h.size (hr.below h (Nat.le_refl _)) hin (by omega) hrest)
  have HO2 := hide (fun (x : World) (h : Below w.heap.size w x) => rofG_any v G l rest A c w.heap.size x (HGG.out x h) hf h.size (hr.below h (Nat.le_refl _)) hin (by omega) hrest)
  have hlen : (l.length : Int) ≤ 9223372036854775807 := by omega
  generalize Gm.ofG G l rest = r at *
  obtain ⟨A0, c0, A1, c1, A2, c2, rfl, _⟩ := hg
  have HQ0 := hide (One.start w #[.slice A0 G.ts.length c0, .slice A1 G.ns.length c1, .slice A2 G.rs.length c2, .int .i64 G.st])
  have HXC := hide (fun (x : World) (h : One w #[.slice A0 G.ts.length c0, .slice A1 G.ns.length c1, .slice A2 G.rs.length c2, .int .i64 G.st] x) => And.intro (h.c 0 _ rfl) (And.intro (h.c 1 _ rfl) (And.intro (h.c 2 _ rfl) (h.c 3 _ rfl))))
  clear hf hr hin hlc hcm hrest
  go_enter Tryz.func4, Tryz.ntmps4
  go_wp2_with fail
  refine (HAL.out _).mono ?_; rintro _ w1 ⟨rfl, hb1⟩
  have HQ1 := hide (HQ0.out.on hb1)
  obtain ⟨x0, x1, x2, x3⟩ := HXC.out w1 HQ1.out
  clear hb1
  cases hgr : Gm.great G with
  | true =>
    rw [hgr] at TG
    go_wp2_with fail
    refine (TG.out _ HQ1.out.below).mono ?_; rintro _ w2 ⟨rfl, hb2⟩
    have HQ2 := hide (HQ1.out.on hb2)
    clear hb2
    go_wp2
    go_ret
    exact ⟨rfl, HQ2.out.below⟩
  | false =>
    rw [hgr] at TG
    by_cases h50 : (50 : Int) < (l.length : Int)
    · have d50 : decide ((50 : Int) < (l.length : Int)) = true := decide_eq_true h50
      go_wp2_with fail
      refine (TG.out _ HQ1.out.below).mono ?_; rintro _ w2 ⟨rfl, hb2⟩
      have HQ2 := hide (HQ1.out.on hb2)
      clear hb2
      go_wp2
      go_ret
      exact ⟨rfl, HQ2.out.below⟩
    · have d50 : decide ((50 : Int) < (l.length : Int)) = false := decide_eq_false h50
      go_upto_region 5 with fail
      refine (TG.out _ HQ1.out.below).mono ?_; rintro _ w2 ⟨rfl, hb2⟩
      have HQ2 := hide (HQ1.out.on hb2)
      clear x0 x1 x2 x3 hb2 hgr TG
      go_upto_region 5 with fail
      have q0 := fun y : Calm.On w2.heap.size w2 => (HXC.out y.1 (HQ2.out.on y.2)).1
      have q1 := fun y : Calm.On w2.heap.size w2 => (HXC.out y.1 (HQ2.out.on y.2)).2.1
      have q2 := fun y : Calm.On w2.heap.size w2 => (HXC.out y.1 (HQ2.out.on y.2)).2.2.1
      have q3 := fun y : Calm.On w2.heap.size w2 => (HXC.out y.1 (HQ2.out.on y.2)).2.2.2
      have HD2 : Hid (Below w2.heap.size w2 w2.drew) := hide (below_drewN (Below.refl _ _) 1)
      refine CalmN.region_tree (fun x => ∃ y : Calm.On w2.heap.size w2, x = y.1) (.one [0, 1, 2, 4, 5, 6] 3 (.one [] 7 (.fin [8, 9]))) (by kernel_rfl) (by kernel_rfl) (fun _ _ d _ _ h => by cases d <;> exact h) ⟨⟨w2.drew, HD2.out⟩, rfl⟩ ?_
      simp only [CalmN.wpT, CalmN.wpSt, CalmN.pickOps, List.getElem?_toArray, List.getElem?_cons_zero, List.getElem?_cons_succ]
      repeat (go_big_quiet_step (fail))
      refine wpQuiet_nil ?_
      generalize w2.drew = wd at *
      intro KK hKK
      rw [if_pos (by rfl)]
      go_wp2_with fail
      refine (HO1.out _ (HQ2.out.on HD2.out).below).mono ?_; rintro _ v1 ⟨rfl, hb⟩
      have HB1 := hide (HD2.out.trans (hb.mono HD2.out.size))
      clear hb
      go_wp2_with fail
      refine hKK _ _ ⟨⟨_, HB1.out⟩, rfl⟩ (fun x => ∃ y : Calm.On w2.heap.size w2, x = y.1) (fun _ h => h) ⟨⟨_, HB1.out⟩, rfl⟩ ?_
      refine wpQuiet_nil ?_
      intro KK hKK
      rw [if_pos (by rfl)]
      go_wp2_with fail
      refine (HO2.out _ (HQ2.out.on HB1.out).below).mono ?_; rintro _ v2 ⟨rfl, hb⟩
      have HB2 := hide (HB1.out.trans (hb.mono HB1.out.size))
      clear hb
      go_wp2_with fail
      refine hKK _ _ ⟨⟨_, HB2.out⟩, rfl⟩ (fun x => ∃ y : Calm.On w2.heap.size w2, x = y.1) (fun _ h => h) ⟨⟨_, HB2.out⟩, rfl⟩ ?_
      have hbe : ((r : Int) == (r : Int)) = true := by simp
      repeat (go_big_quiet_step (fail))
      refine wpQuiet_nil ?_
      clear q0 q1 q2 q3
      go_wp2
      go_ret
      exact ⟨rfl, (HQ2.out.on HB2.out).below⟩
end Go.Proofs.YthjohhcgegcmhaaGreat
