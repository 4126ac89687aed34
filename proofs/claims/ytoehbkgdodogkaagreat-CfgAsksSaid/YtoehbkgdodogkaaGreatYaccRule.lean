/- The contract of the reader's rule, over this program. -/
import Derived.Test.YtoehbkgdodogkaaGreatYaccP
import Derived.Deep.DeepCutAuto
namespace Go.Proofs.YtoehbkgdodogkaaGreat
set_option maxRecDepth 100000
open Go.RowKit

set_option maxHeartbeats 4000000 in
theorem rule_any (L : List Int) (B R px py : Nat) (ts : List Tok) (left : Tok) (w : World) (hr : Rdr L B R px py w ts) :
    Calls Tryz.prog 103 #[.pointer (some ⟨R, 0, none⟩), refV L left] w (Does L B R px py w (VPrd L w.heap.size) (Y.rule left ts)) := by
  have HR := hide hr
  have hRlt := hr.lt
  have SC := fun a w m X Y => show (store a (.complex .f64 X Y) m).run Tryz.prog w = stored Tryz.prog w a (.complex .f64 X Y) m from run_store _ w a _ m rfl
  clear hr
  unfold refV
  go_enter Tryz.func103, Tryz.ntmps103
  go_upto_region 1 with fail
  obtain ⟨w1, hw1⟩ : ∃ x, x = (w.alloc (.cells #[.string (K.str left.t), .complex .f64 (Fl.fl (Pl.pos (L.take left.o)).1) (Fl.fl (Pl.pos (L.take left.o)).2)] 74)).alloc (.cells #[.string ⟨#[]⟩, .complex .f64 0 0, .slice none 0 0, .string ⟨#[]⟩, .complex .f64 0 0] 102) := ⟨_, rfl⟩
  rw [← hw1]
  have HG1 : Hid (w.grownBy w1 .none) := hide (by rw [hw1]; exact only_alloc (only_alloc (World.grownBy.refl _ _) _) _)
  have HB3 : Hid (w1.heap[w.heap.size]? = some (.cells #[.string (K.str left.t), .complex .f64 (Fl.fl (Pl.pos (L.take left.o)).1) (Fl.fl (Pl.pos (L.take left.o)).2)] 74 (0, 0))) := hide (by
    rw [hw1, Below.heap_alloc _ _ _ (by simp)]; exact heap_alloc_new w _)
  have HB4 : Hid (w1.heap[w.heap.size + 1]? = some (.cells #[.string ⟨#[]⟩, .complex .f64 0 0, .slice none 0 0, .string ⟨#[]⟩, .complex .f64 0 0] 102 (0, 0))) := hide (by
    rw [hw1]; have := heap_alloc_new (w.alloc (.cells #[.string (K.str left.t), .complex .f64 (Fl.fl (Pl.pos (L.take left.o)).1) (Fl.fl (Pl.pos (L.take left.o)).2)] 74)) (.cells #[.string ⟨#[]⟩, .complex .f64 0 0, .slice none 0 0, .string ⟨#[]⟩, .complex .f64 0 0] 102); rwa [show (w.alloc (.cells #[.string (K.str left.t), .complex .f64 (Fl.fl (Pl.pos (L.take left.o)).1) (Fl.fl (Pl.pos (L.take left.o)).2)] 74)).heap.size = w.heap.size + 1 by simp] at this)
  have HS1 : Hid (w1.heap.size = w.heap.size + 2) := hide (by rw [hw1]; simp)
  have HR1 : Hid (Rdr L B R px py w1 ts) := hide (HR.out.row HG1.out)
  clear hw1
  go_cut [5] (fun s5 wx => ∃ g A c, s5 = .pointer (some ⟨g, 0, none⟩) ∧ w.heap.size + 2 ≤ g ∧ wx.heap[g]? = some (.cells (pcells L ⟨left, ts.takeWhile Y.isRef, none⟩ A c).toArray 102 (0, 0)) ∧ RdR L wx w.heap.size A (ts.takeWhile Y.isRef) ∧ Rdr L B R px py wx (ts.dropWhile Y.isRef) ∧ w1.grownBy wx (some R))
  case first =>
    have CL0 := fun y : Calm.OnR R w1 => (show y.1.cell? ⟨w.heap.size, 0, none⟩ = some (.string (K.str left.t)) by rw [cell_of_row y.1 _ 0 _ _ _ (block_at y.2 HB3.out (by omega))]; rfl)
    have CL1 := fun y : Calm.OnR R w1 => (show y.1.cell? ⟨w.heap.size, 1, none⟩ = some (.complex .f64 (Fl.fl (Pl.pos (L.take left.o)).1) (Fl.fl (Pl.pos (L.take left.o)).2)) by rw [cell_of_row y.1 _ 1 _ _ _ (block_at y.2 HB3.out (by omega))]; rfl)
    have hd1 : w1.grownBy w1.drew (some R) := drew_grown w1 _
    refine Calm.region_tree (fun x => ∃ y : Calm.OnR R w1, x = y.1) (.two [0, 1] 2 (.one [3] 4 (.one [] 5 (.fin []))) 4 (.one [] 2 (.one [3] 5 (.fin [])))) (by kernel_rfl) (by kernel_rfl) (fun _ _ d _ _ h => by cases d <;> exact h) ⟨⟨w1.drew, hd1⟩, rfl⟩ ?_
    simp only [Calm.wpT, Calm.wpSt, Calm.pickOps, List.getElem?_toArray, List.getElem?_cons_zero, List.getElem?_cons_succ]
    repeat (go_big_quiet_step (fail))
    refine wpQuiet_nil ?_
    have HRF := hide (fun (x : World) (h : w1.grownBy x (some R)) (hx : Rdr L B R px py x ts) => refs_any L B R px py ts x hx)
    refine ⟨?_, ?_⟩
    · intro KK hKK
      rw [if_pos (by rfl)]
      go_wp2_with fail
      refine (HRF.out _ hd1 HR1.out.drew).mono ?_; rintro _ w2 ⟨hg2, v, rfl, ho, hrd⟩
      obtain ⟨A, c, rfl, hc1, hc2, hrr⟩ := ho.rd
      have hg : w1.grownBy w2 (some R) := hd1.trans hg2
      clear ho hg2 hc1 hc2
      go_wp2_with fail
      refine hKK _ _ ⟨⟨w2, hg⟩, rfl⟩ (fun x => ∃ y : Calm.OnR R w1, x = y.1) (fun _ h => h) ⟨⟨w2, hg⟩, rfl⟩ ?_
      repeat (go_big_quiet_step (fail))
      refine wpQuiet_nil ?_
      intro KK hKK
      rw [if_pos (by rfl)]
      go_wp2_with fail
      refine hKK _ _ ⟨⟨_, only_alloc hg _⟩, rfl⟩ (fun x => ∃ y : Calm.OnR R w1, x = y.1) (fun _ h => h) ⟨⟨_, only_alloc hg _⟩, rfl⟩ ?_
      repeat (go_big_quiet_step (fail))
      refine wpQuiet_nil ?_
      intro KK hKK
      try rw [if_pos (by rfl)]
      go_wp2_with fail
      refine hKK _ _ ⟨⟨_, only_alloc hg _⟩, rfl⟩ (fun x => ∃ y : Calm.OnR R w1, x = y.1) (fun _ h => h) ⟨⟨_, only_alloc hg _⟩, rfl⟩ ?_
      refine wpQuiet_nil ?_
      go_wp2_with fail
      go_meet
      case rel =>
        refine ⟨w2.heap.size, A, c, rfl, by have := hg.size; have := HS1.out; omega, heap_alloc_new _ _, (hrr.less (by have := HS1.out; simp; omega)).grown (only_alloc (World.grownBy.refl _ _) _) (Other.none _), hrd.alloc _, only_alloc hg _⟩
    · intro KK hKK
      rw [if_pos (by rfl)]
      go_wp2_with fail
      obtain ⟨w2, hw2⟩ : ∃ x, x = (w1.alloc (.cells #[.string ⟨#[]⟩, .complex .f64 0 0, .slice none 0 0, .string ⟨#[]⟩, .complex .f64 0 0] 102)).drew := ⟨_, rfl⟩
      rw [← hw2]
      have hg2 : w1.grownBy w2 .none := by rw [hw2]; exact (only_alloc (World.grownBy.refl _ _) _).trans (drew_grown _ _)
      have hb2 : w2.heap[w1.heap.size]? = some (.cells #[.string ⟨#[]⟩, .complex .f64 0 0, .slice none 0 0, .string ⟨#[]⟩, .complex .f64 0 0] 102 (0, 0)) := by rw [hw2]; exact heap_alloc_new w1 _
      have hr2 := HR1.out.row hg2
      clear hw2
      refine hKK _ _ ⟨⟨w2, hg2.row _⟩, rfl⟩ (fun x => ∃ y : Calm.OnR R w1, x = y.1) (fun _ h => h) ⟨⟨w2, hg2.row _⟩, rfl⟩ ?_
      refine wpQuiet_nil ?_
      intro KK hKK
      try rw [if_pos (by rfl)]
      go_wp2_with fail
      refine (HRF.out _ (hg2.row _) hr2).mono ?_; rintro _ w3 ⟨hg3, v, rfl, ho, hrd⟩
      obtain ⟨A, c, rfl, hc1, hc2, hrr⟩ := ho.rd
      have hg : w1.grownBy w3 (some R) := (hg2.row _).trans hg3
      have hb3 := block_at hg3 hb2 (by have := HS1.out; omega)
      clear ho hc1 hc2
      go_wp2_with fail
      refine hKK _ _ ⟨⟨w3, hg⟩, rfl⟩ (fun x => ∃ y : Calm.OnR R w1, x = y.1) (fun _ h => h) ⟨⟨w3, hg⟩, rfl⟩ ?_
      repeat (go_big_quiet_step (fail))
      refine wpQuiet_nil ?_
      intro KK hKK
      try rw [if_pos (by rfl)]
      have c0 := cell_of_row w3 _ 0 _ _ _ hb3
      have c1 := cell_of_row w3 _ 1 _ _ _ hb3
      have c2 := cell_of_row w3 _ 2 _ _ _ hb3
      have c3 := cell_of_row w3 _ 3 _ _ _ hb3
      have c4 := cell_of_row w3 _ 4 _ _ _ hb3
      have f0 := frozen_of_row w3 _ 0 _ _ hb3
      have f1 := frozen_of_row w3 _ 1 _ _ hb3
      have f2 := frozen_of_row w3 _ 2 _ _ hb3
      have f3 := frozen_of_row w3 _ 3 _ _ hb3
      have f4 := frozen_of_row w3 _ 4 _ _ hb3
      go_wp2_with fail
      have HGE := hide (fun u0 u1 u2 u3 u4 => only_far (only_far (only_far (only_far (only_far hg w1.heap.size 0 u0 (Nat.le_refl _)) w1.heap.size 1 u1 (Nat.le_refl _)) w1.heap.size 2 u2 (Nat.le_refl _)) w1.heap.size 3 u3 (Nat.le_refl _)) w1.heap.size 4 u4 (Nat.le_refl _))
      refine hKK _ _ ⟨⟨_, HGE.out _ _ _ _ _⟩, rfl⟩ (fun x => ∃ y : Calm.OnR R w1, x = y.1) (fun _ h => h) ⟨⟨_, HGE.out _ _ _ _ _⟩, rfl⟩ ?_
      refine wpQuiet_nil ?_
      go_wp2_with fail
      go_meet
      case rel =>
        have hRg : R < w1.heap.size := by have := HS1.out; omega
        refine ⟨w1.heap.size, A, c, rfl, by have := HS1.out; omega, store5 hb3 _ _ _ _ _, (hrr.less (by have := hg2.size; have := HS1.out; omega)).grown (only_set (only_set (only_set (only_set (only_set (World.grownBy.refl _ _) _ _) _ _) _ _) _ _) _ _) (other_of hb3 (by decide)), ((((hrd.far _ _ _ hRg).far _ _ _ hRg).far _ _ _ hRg).far _ _ _ hRg).far _ _ _ hRg, HGE.out _ _ _ _ _⟩
  case rest =>
    obtain ⟨g, A, c, rfl, hg2, hbk, hrr, hrd, hgr⟩ := hcut
    have HG := hide hg2
    have HBK := hide hbk
    have HRR := hide hrr
    have HRD := hide hrd
    have HGR := hide hgr
    clear hg2 hbk hrr hrd hgr
    have HY : Hid (Y.rule left ts = Y.rule2 left (ts.takeWhile Y.isRef) (ts.dropWhile Y.isRef)) := hide rfl
    have HI4 : Hid (g ≠ R ∧ w.heap.size + 1 ≠ R ∧ w.heap.size ≤ g ∧ w.heap.size + 1 ≠ g) := hide (by have := HG.out; omega)
    clear HB3 HR HR1
    generalize ts.takeWhile Y.isRef = rs at *
    generalize ts.dropWhile Y.isRef = rest at *
    have HIS := hide (is_lit L B R px py rest [8] wc HRD.out (by decide))
    rcases hb : Y.is [8] rest with _ | _
    · rw [hb] at HIS
      have HYY : Hid (Y.rule left ts = .ok ⟨left, rs, none⟩ rest) := hide (by rw [HY.out]; unfold Y.rule2; rw [hb]; rfl)
      clear hb HY
      go_wp2_with fail
      refine HIS.out.mono ?_; rintro _ w3 ⟨rfl, hg3⟩
      have hgr := HGR.out.trans (hg3.row (some R))
      have hbg := block_at (hg3.row (some R)) HBK.out HI4.out.1
      have hb4 := block_at hgr HB4.out HI4.out.2.1
      have HGR3 := hide ((HG1.out.row (some R)).trans hgr)
      have HRD3 := hide (HRD.out.row hg3)
      have HRR3 := hide (HRR.out.grown hg3 (Other.none _))
      have HO4 := hide (other_of hb4 (by decide))
      have c0 : w3.cell? ⟨g, 0, none⟩ = some (.string (K.str left.t)) := by rw [cell_of_row w3 g 0 _ _ _ hbg]; rfl
      have c1 : w3.cell? ⟨g, 1, none⟩ = some (.complex .f64 (Fl.fl (Pl.pos (L.take left.o)).1) (Fl.fl (Pl.pos (L.take left.o)).2)) := by rw [cell_of_row w3 g 1 _ _ _ hbg]; rfl
      have c2 : w3.cell? ⟨g, 2, none⟩ = some (.slice A rs.length c) := by rw [cell_of_row w3 g 2 _ _ _ hbg]; rfl
      have c3 : w3.cell? ⟨g, 3, none⟩ = some (.string ⟨#[]⟩) := by rw [cell_of_row w3 g 3 _ _ _ hbg]; rfl
      have c4 : w3.cell? ⟨g, 4, none⟩ = some (.complex .f64 0 0) := by rw [cell_of_row w3 g 4 _ _ _ hbg]; rfl
      have d0 := cell_of_row w3 _ 0 _ _ _ hb4
      have d1 := cell_of_row w3 _ 1 _ _ _ hb4
      have d2 := cell_of_row w3 _ 2 _ _ _ hb4
      have d3 := cell_of_row w3 _ 3 _ _ _ hb4
      have d4 := cell_of_row w3 _ 4 _ _ _ hb4
      have f0 := frozen_of_row w3 _ 0 _ _ hb4
      have f1 := frozen_of_row w3 _ 1 _ _ hb4
      have f2 := frozen_of_row w3 _ 2 _ _ hb4
      have f3 := frozen_of_row w3 _ 3 _ _ hb4
      have f4 := frozen_of_row w3 _ 4 _ _ hb4
      clear hbg hb4 hg3 hgr
      go_wp2
      rw [HYY.out]
      refine bodyPost_ret (v := .agg #[.string (K.str left.t), .complex .f64 (Fl.fl (Pl.pos (L.take left.o)).1) (Fl.fl (Pl.pos (L.take left.o)).2), .slice A rs.length c, .string ⟨#[]⟩, .complex .f64 0 0]) (by simp [results, Tryz.results103, go_sem, d0, d1, d2, d3, d4]) rfl ⟨only_far (only_far (only_far (only_far (only_far HGR3.out _ _ _ (by omega)) _ _ _ (by omega)) _ _ _ (by omega)) _ _ _ (by omega)) _ _ _ (by omega), _, rfl, ((((HRD3.out.far _ _ _ (by omega)).far _ _ _ (by omega)).far _ _ _ (by omega)).far _ _ _ (by omega)).far _ _ _ (by omega), A, c, rfl, HRR3.out.grown (only_set (only_set (only_set (only_set (only_set (World.grownBy.refl _ _) _ _) _ _) _ _) _ _) _ _) HO4.out⟩
    · rw [hb] at HIS
      obtain ⟨t8, r8, hrest, htk, _⟩ := Y.is_true hb
      have HTK := hide (fun (x : World) (h : wc.grownBy x .none) => (htk ▸ take_lit L B R px py rest [8] x (HRD.out.row h) (by decide) : Calls Tryz.prog 83 _ _ (Does L B R px py x (fun t v _ => v = tokV L t) (.ok t8 r8))))
      have HRF := hide (fun (x : World) (h : Rdr L B R px py x r8) => ref_lit L B R px py r8 [1, 2] x h (by decide))
      have HYY : Hid (Y.rule left ts = (Y.take [1, 2] r8).bind fun p r => .ok ⟨left, rs, some p⟩ r) := hide (by rw [HY.out]; unfold Y.rule2; rw [hb, htk]; rfl)
      clear hb HY hrest htk
      unfold tokV at HTK
      unfold refV at HRF
      rcases hres : Y.take [1, 2] r8 with ⟨p, r⟩ | p
      · rw [hres] at HRF HYY
        clear hres
        go_wp2_with fail
        refine HIS.out.mono ?_; rintro _ w3 ⟨rfl, hg3⟩
        have HG3 := hide hg3
        clear hg3
        go_wp2_with fail
        refine (HTK.out _ HG3.out).mono ?_; rintro _ w4 ⟨hg4, v, rfl, hrd4, rfl⟩
        have HG4 := hide hg4
        have HRD4 := hide hrd4
        clear hg4 hrd4
        go_wp2_with fail
        refine (HRF.out _ HRD4.out).mono ?_; rintro _ w5 ⟨hg5, v, rfl, hrd5, rfl⟩
        have hgr := ((HG3.out.row (some R)).trans HG4.out).trans hg5
        have hbg := block_at hgr HBK.out HI4.out.1
        have hb4 := block_at (HGR.out.trans hgr) HB4.out HI4.out.2.1
        have HGR5 := hide ((HG1.out.row (some R)).trans (HGR.out.trans hgr))
        have HRD5 := hide hrd5
        have HRR5 := hide (HRR.out.grown hgr HRD.out.other)
        have HO4 := hide (other_of hb4 (by decide))
        have HOg := hide (other_of hbg (by decide))
        have c0 : w5.cell? ⟨g, 0, none⟩ = some (.string (K.str left.t)) := by rw [cell_of_row w5 g 0 _ _ _ hbg]; rfl
        have c1 : w5.cell? ⟨g, 1, none⟩ = some (.complex .f64 (Fl.fl (Pl.pos (L.take left.o)).1) (Fl.fl (Pl.pos (L.take left.o)).2)) := by rw [cell_of_row w5 g 1 _ _ _ hbg]; rfl
        have c2 : w5.cell? ⟨g, 2, none⟩ = some (.slice A rs.length c) := by rw [cell_of_row w5 g 2 _ _ _ hbg]; rfl
        have c3 : w5.cell? ⟨g, 3, none⟩ = some (.string ⟨#[]⟩) := by rw [cell_of_row w5 g 3 _ _ _ hbg]; rfl
        have c4 : w5.cell? ⟨g, 4, none⟩ = some (.complex .f64 0 0) := by rw [cell_of_row w5 g 4 _ _ _ hbg]; rfl
        have e3 := frozen_of_row w5 g 3 _ _ hbg
        have e4 := frozen_of_row w5 g 4 _ _ hbg
        have d0 := cell_of_row w5 _ 0 _ _ _ hb4
        have d1 := cell_of_row w5 _ 1 _ _ _ hb4
        have d2 := cell_of_row w5 _ 2 _ _ _ hb4
        have d3 := cell_of_row w5 _ 3 _ _ _ hb4
        have d4 := cell_of_row w5 _ 4 _ _ _ hb4
        have f0 := frozen_of_row w5 _ 0 _ _ hb4
        have f1 := frozen_of_row w5 _ 1 _ _ hb4
        have f2 := frozen_of_row w5 _ 2 _ _ hb4
        have f3 := frozen_of_row w5 _ 3 _ _ hb4
        have f4 := frozen_of_row w5 _ 4 _ _ hb4
        obtain ⟨_, _, hgw, hne⟩ := HI4.out
        have HB45 := hide (fun u3 u4 => ((Below.heap_setCell (w5.setCell ⟨g, 3, none⟩ u3) ⟨g, 4, none⟩ u4 (w.heap.size + 1) hne).trans ((Below.heap_setCell w5 ⟨g, 3, none⟩ u3 (w.heap.size + 1) hne).trans hb4)))
        clear hbg hb4 hgr hg5 hrd5
        go_wp2
        rw [HYY.out]
        refine bodyPost_ret (v := .agg #[.string (K.str left.t), .complex .f64 (Fl.fl (Pl.pos (L.take left.o)).1) (Fl.fl (Pl.pos (L.take left.o)).2), .slice A rs.length c, .string (K.str p.t), .complex .f64 (Fl.fl (Pl.pos (L.take p.o)).1) (Fl.fl (Pl.pos (L.take p.o)).2)]) (by simp [results, Tryz.results103, go_sem, d0, d1, d2, d3, d4]) rfl ⟨only_far (only_far (only_far (only_far (only_far (only_far (only_far HGR5.out _ _ _ hgw) _ _ _ hgw) _ _ _ (by omega)) _ _ _ (by omega)) _ _ _ (by omega)) _ _ _ (by omega)) _ _ _ (by omega), _, rfl, ((((((HRD5.out.far _ _ _ (by omega)).far _ _ _ (by omega)).far _ _ _ (by omega)).far _ _ _ (by omega)).far _ _ _ (by omega)).far _ _ _ (by omega)).far _ _ _ (by omega), A, c, rfl, (HRR5.out.grown (only_set (only_set (World.grownBy.refl _ _) _ _) _ _) HOg.out).grown (only_set (only_set (only_set (only_set (only_set (World.grownBy.refl _ _) _ _) _ _) _ _) _ _) _ _) (other_of (HB45.out _ _) (by decide))⟩
      · rw [hres] at HRF HYY
        clear hres
        go_wp2_with fail
        refine HIS.out.mono ?_; rintro _ w3 ⟨rfl, hg3⟩
        have HG3 := hide hg3
        clear hg3
        go_wp2_with fail
        refine (HTK.out _ HG3.out).mono ?_; rintro _ w4 ⟨hg4, v, rfl, hrd4, rfl⟩
        have HG4 := hide hg4
        have HRD4 := hide hrd4
        clear hg4 hrd4
        go_wp2_with fail
        refine (HRF.out _ HRD4.out).mono ?_; rintro _ w5 ⟨hg5, rfl⟩
        rw [HYY.out]
        exact ⟨rfl, (HG1.out.row (some R)).trans (HGR.out.trans (((HG3.out.row (some R)).trans HG4.out).trans hg5)), rfl⟩
end Go.Proofs.YtoehbkgdodogkaaGreat
