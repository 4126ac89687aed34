/- Part of the proofs over this program: WalkTells11. -/
import Derived.Test.YtfiijndmlmddbaaGreatKL
namespace Go.Proofs.YtfiijndmlmddbaaGreat
set_option maxRecDepth 100000
open Go.RowKit

/-- A row that is answered, by what it reads. -/
def RowR (s : List Bool) (w : World) (e : Ending) (w' : World) : Prop := ∃ A c, e = .returned (.slice A s.length c) ∧ RdO w' w'.heap.size A s ∧ Below w.heap.size w w'
set_option maxHeartbeats 16000000 in
theorem trimTells_walk (v : Value) (G : Gm.Gr) (w : World) (hg : RdGr w w.heap.size v G) (hf : Gm.Fit G) :
    Calls Tryz.prog 3 #[v] w fun e w' => e = .returned (.bool true) ∧ Below w.heap.size w w' := by
  have HGG := hide (fun (x : World) (h : Below w.heap.size w x) => hg.below h (Nat.le_refl _))
  have HAL := hide (fun (x : World) => alive11_any x)
  have TG := hide (fun (x : World) (h : Below w.heap.size w x) => great9_any v G w.heap.size x (HGG.out x h) h.size)
  obtain ⟨sN, hN⟩ : ∃ s, s = (if Gm.right G = true then Gm.gn false G.rs G.ns.length else []) := ⟨_, rfl⟩
  obtain ⟨sP, hP⟩ : ∃ s, s = (if Gm.right G = true then Gm.gn true G.rs G.ns.length else []) := ⟨_, rfl⟩
  obtain ⟨sR, hR⟩ : ∃ s, s = (if Gm.right G = true then Gm.rc G else []) := ⟨_, rfl⟩
  have HN1 := hide (fun (x : World) (h : Below w.heap.size w x) => (show Calls _ _ _ _ (RowR sN x) from (nullable_any v G w.heap.size x (HGG.out x h) hf h.size).mono fun e w' k => by rw [hN]; exact k.rd))
  have HN2 := hide (fun (x : World) (h : Below w.heap.size w x) => (show Calls _ _ _ _ (RowR sN x) from (rnullable_any v G w.heap.size x (HGG.out x h) hf h.size).mono fun e w' k => by rw [hN]; exact k.rd))
  have HP1 := hide (fun (x : World) (h : Below w.heap.size w x) => (show Calls _ _ _ _ (RowR sP x) from (productive_any v G w.heap.size x (HGG.out x h) hf h.size).mono fun e w' k => by rw [hP]; exact k.rd))
  have HP2 := hide (fun (x : World) (h : Below w.heap.size w x) => (show Calls _ _ _ _ (RowR sP x) from (rproductive_any v G w.heap.size x (HGG.out x h) hf h.size).mono fun e w' k => by rw [hP]; exact k.rd))
  have HR1 := hide (fun (x : World) (h : Below w.heap.size w x) => (show Calls _ _ _ _ (RowR sR x) from (reachable_any v G w.heap.size x (HGG.out x h) hf h.size).mono fun e w' k => by rw [hR]; exact k.rd))
  have HR2 := hide (fun (x : World) (h : Below w.heap.size w x) => (show Calls _ _ _ _ (RowR sR x) from (rreachable_any v G w.heap.size x (HGG.out x h) hf h.size).mono fun e w' k => by rw [hR]; exact k.rd))
  have HI1 := hide (fun (x : World) (h : Below w.heap.size w x) => tIs_any v G w.heap.size x (HGG.out x h) hf h.size)
  have HI2 := hide (fun (x : World) (h : Below w.heap.size w x) => rIs_any v G w.heap.size x (HGG.out x h) hf h.size)
  have hlens : Gm.great G = false → sN.length ≤ 9223372036854775807 ∧ sP.length ≤ 9223372036854775807 ∧ sR.length ≤ 9223372036854775807 := fun hh => by
    have h40 : G.ns.length ≤ 40 := by
      unfold Gm.great at hh
      simp only [Bool.or_eq_false_iff, decide_eq_false_iff_not] at hh
      omega
    rw [hN, hP, hR]
    refine ⟨?_, ?_, ?_⟩ <;> (split <;> simp [Gm.gn_len, Gm.rc_len] <;> omega)
  have HLS := hide hlens
  generalize Gm.isB G = bi at *
  obtain ⟨A0, c0, A1, c1, A2, c2, rfl, _⟩ := hg
  have HQ0 := hide (One.start w #[.slice A0 G.ts.length c0, .slice A1 G.ns.length c1, .slice A2 G.rs.length c2, .int .i64 G.st])
  have HXC := hide (fun (x : World) (h : One w #[.slice A0 G.ts.length c0, .slice A1 G.ns.length c1, .slice A2 G.rs.length c2, .int .i64 G.st] x) => And.intro (h.c 0 _ rfl) (And.intro (h.c 1 _ rfl) (And.intro (h.c 2 _ rfl) (h.c 3 _ rfl))))
  clear hN hP hR hlens hf
  go_enter Tryz.func3, Tryz.ntmps3
  go_wp2_with fail
  refine (HAL.out _).mono ?_; rintro _ w1 ⟨rfl, hb1⟩
  have HQ1 := hide (HQ0.out.on hb1)
  obtain ⟨x0, x1, x2, x3⟩ := HXC.out w1 HQ1.out
  clear hb1
  cases hgr : Gm.great G with
  | true =>
    rw [hgr] at TG
    go_wp2_with fail
    refine (TG.out _ HQ1.out.below).mono ?_; rintro _ w2 ⟨rfl, hb2⟩
    have HQ2 := hide (HQ1.out.on hb2)
    clear hb2
    go_wp2
    go_ret
    exact ⟨rfl, HQ2.out.below⟩
  | false =>
    obtain ⟨hln, hlp, hlr⟩ := HLS.out hgr
    have HLN := hide hln
    have HLP := hide hlp
    have HLR := hide hlr
    rw [hgr] at TG
    clear hln hlp hlr
    go_upto_region 5 with fail
    refine (TG.out _ HQ1.out.below).mono ?_; rintro _ w2 ⟨rfl, hb2⟩
    have HQ2 := hide (HQ1.out.on hb2)
    clear x0 x1 x2 x3 hb2 hgr TG
    go_upto_region 5 with fail
    have q0 := fun y : Calm.On w2.heap.size w2 => (HXC.out y.1 (HQ2.out.on y.2)).1
    have q1 := fun y : Calm.On w2.heap.size w2 => (HXC.out y.1 (HQ2.out.on y.2)).2.1
    have q2 := fun y : Calm.On w2.heap.size w2 => (HXC.out y.1 (HQ2.out.on y.2)).2.2.1
    have q3 := fun y : Calm.On w2.heap.size w2 => (HXC.out y.1 (HQ2.out.on y.2)).2.2.2
    have HD2 : Hid (Below w2.heap.size w2 w2.drew) := hide (below_drewN (Below.refl _ _) 1)
    refine CalmN.region_tree (fun x => ∃ y : Calm.On w2.heap.size w2, x = y.1) (.one [0, 2] 1 (.one [] 3 (.one [] 4 (.one [5, 6, 8] 7 (.one [] 9 (.one [] 10 (.one [11, 12, 13, 15] 14 (.one [] 16 (.one [] 17 (.one [18, 19, 20, 22] 21 (.one [] 23 (.fin [24, 25, 26])))))))))))) (by kernel_rfl) (by kernel_rfl) (fun _ _ d _ _ h => by cases d <;> exact h) ⟨⟨w2.drew, HD2.out⟩, rfl⟩ ?_
    simp only [CalmN.wpT, CalmN.wpSt, CalmN.pickOps, List.getElem?_toArray, List.getElem?_cons_zero, List.getElem?_cons_succ]
    repeat (go_big_quiet_step (fail))
    refine wpQuiet_nil ?_
    obtain ⟨wd, hwd⟩ : ∃ y, y = w2.drew := ⟨_, rfl⟩
    rw [← hwd] at HD2 ⊢
    clear hwd
    have HB0 := hide HD2.out
    intro KK hKK
    rw [if_pos (by rfl)]
    go_wp2_with fail
    refine (HN1.out _ (HQ2.out.on HB0.out).below).mono ?_; rintro _ v1 ⟨Aa1, ca1, rfl, hr1, hb⟩
    have HB1 := hide (HB0.out.trans (hb.mono HB0.out.size))
    have HR1 := hide hr1
    clear hb hr1
    go_wp2_with fail
    refine hKK _ _ ⟨⟨_, HB1.out⟩, rfl⟩ (fun x => ∃ y : Calm.On w2.heap.size w2, x = y.1) (fun _ h => h) ⟨⟨_, HB1.out⟩, rfl⟩ ?_
    refine wpQuiet_nil ?_
    intro KK hKK
    rw [if_pos (by rfl)]
    go_wp2_with fail
    refine (HN2.out _ (HQ2.out.on HB1.out).below).mono ?_; rintro _ v2 ⟨Aa2, ca2, rfl, hr2, hb⟩
    have HB2 := hide (HB1.out.trans (hb.mono HB1.out.size))
    have HBO2 := hide (bools_same Aa1 Aa2 ca1 ca2 sN v2 (HR1.out.up hb) hr2 HLN.out)
    clear hb hr2
    go_wp2_with fail
    refine hKK _ _ ⟨⟨_, HB2.out⟩, rfl⟩ (fun x => ∃ y : Calm.On w2.heap.size w2, x = y.1) (fun _ h => h) ⟨⟨_, HB2.out⟩, rfl⟩ ?_
    refine wpQuiet_nil ?_
    intro KK hKK
    rw [if_pos (by rfl)]
    go_wp2_with fail
    refine HBO2.out.mono ?_; rintro _ v3 ⟨rfl, n3, hv3⟩
    have HB3 : Hid (Below w2.heap.size w2 v3) := hide (by rw [hv3]; exact below_drewN HB2.out _)
    clear hv3 HBO2 HR1
    go_wp2_with fail
    refine hKK _ _ ⟨⟨_, HB3.out⟩, rfl⟩ (fun x => ∃ y : Calm.On w2.heap.size w2, x = y.1) (fun _ h => h) ⟨⟨_, HB3.out⟩, rfl⟩ ?_
    repeat (go_big_quiet_step (fail))
    refine wpQuiet_nil ?_
    intro KK hKK
    rw [if_pos (by rfl)]
    go_wp2_with fail
    refine (HP1.out _ (HQ2.out.on HB3.out).below).mono ?_; rintro _ v4 ⟨Aa4, ca4, rfl, hr4, hb⟩
    have HB4 := hide (HB3.out.trans (hb.mono HB3.out.size))
    have HR4 := hide hr4
    clear hb hr4
    go_wp2_with fail
    refine hKK _ _ ⟨⟨_, HB4.out⟩, rfl⟩ (fun x => ∃ y : Calm.On w2.heap.size w2, x = y.1) (fun _ h => h) ⟨⟨_, HB4.out⟩, rfl⟩ ?_
    refine wpQuiet_nil ?_
    intro KK hKK
    rw [if_pos (by rfl)]
    go_wp2_with fail
    refine (HP2.out _ (HQ2.out.on HB4.out).below).mono ?_; rintro _ v5 ⟨Aa5, ca5, rfl, hr5, hb⟩
    have HB5 := hide (HB4.out.trans (hb.mono HB4.out.size))
    have HBO5 := hide (bools_same Aa4 Aa5 ca4 ca5 sP v5 (HR4.out.up hb) hr5 HLP.out)
    clear hb hr5
    go_wp2_with fail
    refine hKK _ _ ⟨⟨_, HB5.out⟩, rfl⟩ (fun x => ∃ y : Calm.On w2.heap.size w2, x = y.1) (fun _ h => h) ⟨⟨_, HB5.out⟩, rfl⟩ ?_
    refine wpQuiet_nil ?_
    intro KK hKK
    rw [if_pos (by rfl)]
    go_wp2_with fail
    refine HBO5.out.mono ?_; rintro _ v6 ⟨rfl, n6, hv6⟩
    have HB6 : Hid (Below w2.heap.size w2 v6) := hide (by rw [hv6]; exact below_drewN HB5.out _)
    clear hv6 HBO5 HR4
    go_wp2_with fail
    refine hKK _ _ ⟨⟨_, HB6.out⟩, rfl⟩ (fun x => ∃ y : Calm.On w2.heap.size w2, x = y.1) (fun _ h => h) ⟨⟨_, HB6.out⟩, rfl⟩ ?_
    repeat (go_big_quiet_step (fail))
    refine wpQuiet_nil ?_
    intro KK hKK
    rw [if_pos (by rfl)]
    go_wp2_with fail
    refine (HR1.out _ (HQ2.out.on HB6.out).below).mono ?_; rintro _ v7 ⟨Aa7, ca7, rfl, hr7, hb⟩
    have HB7 := hide (HB6.out.trans (hb.mono HB6.out.size))
    have HR7 := hide hr7
    clear hb hr7
    go_wp2_with fail
    refine hKK _ _ ⟨⟨_, HB7.out⟩, rfl⟩ (fun x => ∃ y : Calm.On w2.heap.size w2, x = y.1) (fun _ h => h) ⟨⟨_, HB7.out⟩, rfl⟩ ?_
    refine wpQuiet_nil ?_
    intro KK hKK
    rw [if_pos (by rfl)]
    go_wp2_with fail
    refine (HR2.out _ (HQ2.out.on HB7.out).below).mono ?_; rintro _ v8 ⟨Aa8, ca8, rfl, hr8, hb⟩
    have HB8 := hide (HB7.out.trans (hb.mono HB7.out.size))
    have HBO8 := hide (bools_same Aa7 Aa8 ca7 ca8 sR v8 (HR7.out.up hb) hr8 HLR.out)
    clear hb hr8
    go_wp2_with fail
    refine hKK _ _ ⟨⟨_, HB8.out⟩, rfl⟩ (fun x => ∃ y : Calm.On w2.heap.size w2, x = y.1) (fun _ h => h) ⟨⟨_, HB8.out⟩, rfl⟩ ?_
    refine wpQuiet_nil ?_
    intro KK hKK
    rw [if_pos (by rfl)]
    go_wp2_with fail
    refine HBO8.out.mono ?_; rintro _ v9 ⟨rfl, n9, hv9⟩
    have HB9 : Hid (Below w2.heap.size w2 v9) := hide (by rw [hv9]; exact below_drewN HB8.out _)
    clear hv9 HBO8 HR7
    go_wp2_with fail
    refine hKK _ _ ⟨⟨_, HB9.out⟩, rfl⟩ (fun x => ∃ y : Calm.On w2.heap.size w2, x = y.1) (fun _ h => h) ⟨⟨_, HB9.out⟩, rfl⟩ ?_
    repeat (go_big_quiet_step (fail))
    refine wpQuiet_nil ?_
    intro KK hKK
    rw [if_pos (by rfl)]
    go_wp2_with fail
    refine (HI1.out _ (HQ2.out.on HB9.out).below).mono ?_; rintro _ v10 ⟨rfl, hb⟩
    have HB10 := hide (HB9.out.trans (hb.mono HB9.out.size))
    clear hb
    go_wp2_with fail
    refine hKK _ _ ⟨⟨_, HB10.out⟩, rfl⟩ (fun x => ∃ y : Calm.On w2.heap.size w2, x = y.1) (fun _ h => h) ⟨⟨_, HB10.out⟩, rfl⟩ ?_
    refine wpQuiet_nil ?_
    intro KK hKK
    rw [if_pos (by rfl)]
    go_wp2_with fail
    refine (HI2.out _ (HQ2.out.on HB10.out).below).mono ?_; rintro _ v11 ⟨rfl, hb⟩
    have HB11 := hide (HB10.out.trans (hb.mono HB10.out.size))
    clear hb
    go_wp2_with fail
    refine hKK _ _ ⟨⟨_, HB11.out⟩, rfl⟩ (fun x => ∃ y : Calm.On w2.heap.size w2, x = y.1) (fun _ h => h) ⟨⟨_, HB11.out⟩, rfl⟩ ?_
    have hbe : (bi == bi) = true := by simp
    repeat (go_big_quiet_step (fail))
    refine wpQuiet_nil ?_
    clear q0 q1 q2 q3
    go_wp2
    go_ret
    exact ⟨rfl, (HQ2.out.on HB11.out).below⟩
end Go.Proofs.YtfiijndmlmddbaaGreat
