/- The contracts of the reader's decl and tail, over this program. -/
import Derived.Test.YtoehbkgdodogkaaGreatYaccGroup
namespace Go.Proofs.YtoehbkgdodogkaaGreat
set_option maxRecDepth 100000
open Go.RowKit

theorem own_lit (L : List Int) (w : World) (base : Nat) (t : Tok) (hb : base ≤ w.heap.size) : OwnR L (w.alloc (.cells #[.string (K.str t.t), .complex .f64 (Fl.fl (Pl.pos (L.take t.o)).1) (Fl.fl (Pl.pos (L.take t.o)).2)] 74)) base (.slice (some ⟨w.heap.size, 0, none⟩) 1 1) [t] :=
  World.ownsRow_lit w #[.string (K.str t.t), .complex .f64 (Fl.fl (Pl.pos (L.take t.o)).1) (Fl.fl (Pl.pos (L.take t.o)).2)] 1 hb (by unfold maxLen; omega) rfl

/-- append of a list of references to a slice of the call's own, met as one operation. -/
theorem apnR_wp {w : World} {o : Oper} {a : Act} {K : Act → World → Prop} {Q : Exit → Act → World → Prop}
    (s x : Operand) (t : TypeId) (ho : o.op = .call { callee := .builtin .append, args := #[s, x], argTypes := #[t, t] }) (ht : Tryz.prog.underlying t = some (.slice 74))
    (L : List Int) (base B : Nat) (v : Value) (xs : List Tok) (hs : a.eval s = v) (hown : OwnR L w base v xs) (A : Option Addr) (m c : Nat) (ys : List Tok) (hx : a.eval x = .slice A m c) (hm : m = ys.length) (hr : RdR L w B A ys)
    (hlen : xs.length + ys.length ≤ 1000000) (hbase : base ≤ w.heap.size)
    (hK : ∀ v' w', OwnR L w' base v' (xs ++ ys) → w.grownBy w' v.ownBlock → K (a.put o.dst v') w') :
    o.wp Tryz.prog a w K Q := by
  obtain ⟨i, hi, hz0, hz1, hz2⟩ := info_parts infoR
  subst hm
  rcases A with _ | ad
  · have hz : ys = [] := by
      rcases Nat.eq_zero_or_pos ys.length with h0 | h0
      · exact List.eq_nil_of_length_eq_zero h0
      · obtain ⟨g, o', h, _⟩ := hr (by omega); cases h
    subst hz
    have hrun := run_append_nil (P := Tryz.prog) w base t o.type 74 i 2 ht hi v xs.length _ hown c
    unfold Oper.wp
    simp [execOp, ho, resolve, invoke, builtin, hs, hx, hrun, Result.andThen]
    exact hK v w (by simpa using hown) (World.grownBy.refl _ _)
  · refine wp_append_own w s x t ho base 74 i _ 2 32 ht hi hz0 hz1 hz2 rfl (by decide) v xs.length (xs.flatMap (rcells L)) hs hown ad ys.length c (ys.flatMap (rcells L)) hx (rcells_len L ys) ?_ ?_ (by unfold maxLen; omega) (by omega) hbase fun v' w' h1 h2 _ => hK v' w' ?_ h2
    · intro j u hj
      have hjl : j < (ys.flatMap (rcells L)).length := (List.getElem?_eq_some_iff.1 hj).1
      rw [rcells_len] at hjl
      obtain ⟨g, cur, h, _, hh, hc⟩ := hr (by omega)
      replace h := Option.some.inj h
      subst h
      rw [addZ, Nat.zero_add, cell_of_row w g _ _ _ _ hh]
      exact hc j u hj
    · intro u hu
      obtain ⟨z, _, hz⟩ := List.mem_flatMap.1 hu
      simp [rcells] at hz; rcases hz with rfl | rfl <;> rfl
    · unfold OwnR
      rw [List.length_append, List.flatMap_append]; exact h1
theorem rd_lit (L : List Int) (w : World) (B g : Nat) (t : Tok) (hg : g = w.heap.size) (hB : B ≤ g) : RdR L (w.alloc (.cells #[.string (K.str t.t), .complex .f64 (Fl.fl (Pl.pos (L.take t.o)).1) (Fl.fl (Pl.pos (L.take t.o)).2)] 74)) B (some ⟨g, 0, none⟩) [t] := by
  subst hg
  exact fun _ => ⟨_, _, rfl, hB, heap_alloc_new w _, fun j u hu => by simpa [rcells] using hu⟩

set_option maxHeartbeats 4000000 in
theorem decl_any (L : List Int) (B R px py : Nat) (ts : List Tok) (w : World) (hr : Rdr L B R px py w ts) :
    Calls Tryz.prog 82 #[.pointer (some ⟨R, 0, none⟩)] w (Does L B R px py w (VDcl L w.heap.size) (Y.decl ts)) := by
  have HR := hide hr
  have hRlt := hr.lt
  have hts : ts.length ≤ 4000 := by obtain ⟨_, _, _, _, h, _⟩ := hr; exact h
  have SF := field_tok
  have SC := fun a w m X Y => show (store a (.complex .f64 X Y) m).run Tryz.prog w = stored Tryz.prog w a (.complex .f64 X Y) m from run_store _ w a _ m rfl
  have HTK := hide (fun (x : World) => take_at L B R px py ts [3, 4, 5, 6, 7] (by decide) x)
  unfold tokV at HTK
  have HD : Hid (Y.decl ts = (Y.take [3, 4, 5, 6, 7] ts).bind fun t r => if t.k = 7 then (Y.take [1] r).bind fun n r => .ok ⟨7, [n]⟩ r else (Y.take [1, 2] r).bind fun n r => .ok ⟨t.k, n :: r.takeWhile Y.isRef⟩ (r.dropWhile Y.isRef)) := hide rfl
  have HG := hide (fun o => only_alloc (World.grownBy.refl w (some R)) o)
  clear hr
  rcases h1 : Y.take [3, 4, 5, 6, 7] ts with ⟨t, r⟩ | p
  · rw [h1] at HTK HD
    rw [Y.bind_ok] at HD
    have hrl : r.length ≤ 4000 := by have := congrArg List.length (Y.take_ok h1).1; simp at this; omega
    clear h1
    by_cases hk : t.k = 7
    · have hk' : (t.k == 7) = true := by simpa using hk
      rw [if_pos hk] at HD
      have HK := hide hk
      clear hk
      have HRF := hide (fun (x : World) => ref_at L B R px py r [1] (by decide) x)
      unfold refV at HRF
      rcases h2 : Y.take [1] r with ⟨n, r2⟩ | p
      · rw [h2] at HRF HD
        clear h2
        go_enter Tryz.func82, Tryz.ntmps82
        go_wp2_with fail
        refine (HTK.out _ _ _ rfl (by simp) (HR.out.alloc _)).mono ?_; rintro _ w2 ⟨hg2, v2, rfl, hrd2, rfl⟩
        have hb2 := block_at hg2 (heap_alloc_new w _) (by omega)
        have HRD2 := hide hrd2
        have HG2 := hide ((HG.out _).trans hg2)
        clear hg2 hrd2
        go_wp2_with fail
        refine (HRF.out _ _ _ rfl rfl HRD2.out).mono ?_; rintro _ w3 ⟨hg3, v3, rfl, hrd3, rfl⟩
        have hb3 := block_at hg3 hb2 (by omega)
        have HRD3 := hide hrd3
        have HG3 := hide (HG2.out.trans hg3)
        have c0 := cell_of_row w3 _ 0 _ _ _ hb3
        have c1 := cell_of_row w3 _ 1 _ _ _ hb3
        have f0 := frozen_of_row w3 _ 0 _ _ hb3
        have f1 := frozen_of_row w3 _ 1 _ _ hb3
        have HOT := hide (other_of hb3 (by decide))
        have hsz : w.heap.size < w3.heap.size := by have := (Array.getElem?_eq_some_iff.1 hb3).1; exact this
        clear hg3 hrd3 hb2 hb3
        go_wp2
        rw [HD.out]
        refine bodyPost_ret (v := .agg #[.int .i64 t.k, .slice (some ⟨w3.heap.size, 0, none⟩) 1 1]) (by simp [results, Tryz.results82, go_sem, c0, c1, hsz]) rfl ⟨only_alloc (only_far (only_far HG3.out _ _ _ (Nat.le_refl _)) _ _ _ (Nat.le_refl _)) _, _, rfl, ((HRD3.out.far _ _ _ hRlt).far _ _ _ hRlt).alloc _, some ⟨w3.heap.size, 0, none⟩, 1, by rw [HK.out]; rfl, rd_lit L _ _ _ n (by simp [World.setCell]) (by omega)⟩
      · rw [h2] at HRF HD
        clear h2
        rw [HD.out]
        go_enter Tryz.func82, Tryz.ntmps82
        go_wp2_with fail
        refine (HTK.out _ _ _ rfl (by simp) (HR.out.alloc _)).mono ?_; rintro _ w2 ⟨hg2, v2, rfl, hrd2, rfl⟩
        have HRD2 := hide hrd2
        have HG2 := hide ((HG.out _).trans hg2)
        clear hg2 hrd2
        go_wp2_with fail
        refine (HRF.out _ _ _ rfl rfl HRD2.out).mono ?_; rintro _ w3 ⟨hg3, rfl⟩
        exact ⟨rfl, HG2.out.trans hg3, rfl⟩
    · have hk' : (t.k == 7) = false := by simpa using hk
      rw [if_neg hk] at HD
      clear hk
      have HRF := hide (fun (x : World) => ref_at L B R px py r [1, 2] (by decide) x)
      unfold refV at HRF
      rcases h2 : Y.take [1, 2] r with ⟨n, r2⟩ | p
      · rw [h2] at HRF HD
        have HL2 : Hid ((r2.takeWhile Y.isRef).length ≤ 4000) := hide (by
          have := congrArg List.length (Y.take_ok h2).1
          have e2 := (List.takeWhile_sublist Y.isRef (l := r2)).length_le
          simp at this; omega)
        clear h2
        have HRS := hide (fun (x : World) => refs_any L B R px py r2 x)
        rw [HD.out]
        go_enter Tryz.func82, Tryz.ntmps82
        go_wp2_with fail
        refine (HTK.out _ _ _ rfl (by simp) (HR.out.alloc _)).mono ?_; rintro _ w2 ⟨hg2, v2, rfl, hrd2, rfl⟩
        have hb2 := block_at hg2 (heap_alloc_new w _) (by omega)
        have HRD2 := hide hrd2
        have HG2 := hide ((HG.out _).trans hg2)
        clear hg2 hrd2
        go_wp2_with fail
        refine (HRF.out _ _ _ rfl rfl HRD2.out).mono ?_; rintro _ w3 ⟨hg3, v3, rfl, hrd3, rfl⟩
        have hb3 := block_at hg3 hb2 (by omega)
        have HG3 := hide (HG2.out.trans hg3)
        have hsz3 : w.heap.size < w3.heap.size := (Array.getElem?_eq_some_iff.1 hb3).1
        go_upto_region 5 with fail
        obtain ⟨w4, hw4⟩ : ∃ x, x = w3.alloc (.cells #[.string (K.str n.t), .complex .f64 (Fl.fl (Pl.pos (L.take n.o)).1) (Fl.fl (Pl.pos (L.take n.o)).2)] 74) := ⟨_, rfl⟩
        rw [← hw4]
        have HG4 : Hid (w.grownBy w4 (some R)) := hide (by rw [hw4]; exact only_alloc HG3.out _)
        have HRD4 : Hid (Rdr L B R px py w4 r2) := hide (by rw [hw4]; exact hrd3.alloc _)
        have HB4 : Hid (w4.heap[w3.heap.size]? = some (.cells #[.string (K.str n.t), .complex .f64 (Fl.fl (Pl.pos (L.take n.o)).1) (Fl.fl (Pl.pos (L.take n.o)).2)] 74 (0, 0))) := hide (by rw [hw4]; exact heap_alloc_new w3 _)
        have HB2 := hide ((Below.heap_alloc w3 (.cells #[.string (K.str n.t), .complex .f64 (Fl.fl (Pl.pos (L.take n.o)).1) (Fl.fl (Pl.pos (L.take n.o)).2)] 74) w.heap.size hsz3).trans hb3)
        rw [← hw4] at HB2
        have hsz4 : w.heap.size < w4.heap.size := by rw [hw4]; simp; omega
        clear hw4 hg3 hrd3 hb2 hb3
        have CL0 := fun y : Calm.OnB w3.heap.size w4 => (show y.1.cell? ⟨w3.heap.size, 0, none⟩ = some (.string (K.str n.t)) by rw [cell_of_row y.1 _ 0 _ _ _ (y.2.trans HB4.out)]; rfl)
        have CL1 := fun y : Calm.OnB w3.heap.size w4 => (show y.1.cell? ⟨w3.heap.size, 1, none⟩ = some (.complex .f64 (Fl.fl (Pl.pos (L.take n.o)).1) (Fl.fl (Pl.pos (L.take n.o)).2)) by rw [cell_of_row y.1 _ 1 _ _ _ (y.2.trans HB4.out)]; rfl)
        have hd4 : w4.grownBy w4.drew (some R) := drew_grown w4 _
        have HM := hide (fun (x : World) (h : w4.grownBy x (some R)) => h.block w3.heap.size (Array.getElem?_eq_some_iff.1 HB4.out).1 (fun e => by injection e with e; omega))
        refine Calm.region_tree (fun x => ∃ y : Calm.OnB w3.heap.size w4, x = y.1) (.two [0, 1, 3] 2 (.one [] 4 (.one [] 5 (.one [6] 7 (.fin [])))) 4 (.one [] 2 (.one [] 5 (.one [6] 7 (.fin []))))) (by kernel_rfl) (by kernel_rfl) (fun _ _ d _ _ h => by cases d <;> exact h) ⟨⟨w4.drew, HM.out _ hd4⟩, rfl⟩ ?_
        simp only [Calm.wpT, Calm.wpSt, Calm.pickOps, List.getElem?_toArray, List.getElem?_cons_zero, List.getElem?_cons_succ]
        repeat (go_big_quiet_step (fail))
        refine wpQuiet_nil ?_
        clear CL0 CL1
        refine ⟨?_, ?_⟩
        · intro KK hKK
          rw [if_pos (by rfl)]
          go_wp2_with fail
          obtain ⟨w5, hw5⟩ : ∃ x, x = (w4.alloc (.cells #[.string (K.str n.t), .complex .f64 (Fl.fl (Pl.pos (L.take n.o)).1) (Fl.fl (Pl.pos (L.take n.o)).2)] 74)).drew := ⟨_, rfl⟩
          rw [← hw5]
          have hg5 : w4.grownBy w5 .none := by rw [hw5]; exact (only_alloc (World.grownBy.refl _ _) _).trans (drew_grown _ _)
          have ho5 : OwnR L w5 w4.heap.size (.slice (some ⟨w4.heap.size, 0, none⟩) 1 1) [n] := by rw [hw5]; exact own_lit L w4 _ n (Nat.le_refl _)
          have hrd5 := HRD4.out.row hg5
          clear hw5
          refine hKK _ _ ⟨⟨w5, HM.out _ (hg5.row _)⟩, rfl⟩ (fun x => ∃ y : Calm.OnB w3.heap.size w4, x = y.1) (fun _ h => h) ⟨⟨w5, HM.out _ (hg5.row _)⟩, rfl⟩ ?_
          refine wpQuiet_nil ?_
          intro KK hKK
          try rw [if_pos (by rfl)]
          go_wp2_with fail
          refine (HRS.out _ hrd5).mono ?_; rintro _ w6 ⟨hg6, v6, rfl, hof, hrd6⟩
          have HG6 : Hid (w4.grownBy w6 (some R)) := hide ((hg5.row _).trans hg6)
          have ho6 := ho5.grown hg6 hrd5.other
          have HRD6 := hide hrd6
          obtain ⟨A6, c6, rfl, _, _, hrr6⟩ := hof.rd
          have HRR6 := hide (hrr6.less hg5.size)
          clear hg5 ho5 hrd5 hg6 hof hrd6 hrr6
          go_wp2_with fail
          refine hKK _ _ ⟨⟨w6, HM.out _ HG6.out⟩, rfl⟩ (fun x => ∃ y : Calm.OnB w3.heap.size w4, x = y.1) (fun _ h => h) ⟨⟨w6, HM.out _ HG6.out⟩, rfl⟩ ?_
          refine wpQuiet_nil ?_
          intro KK hKK
          try rw [if_pos (by rfl)]
          have HO6 := hide ho6
          clear ho6
          refine apnR_wp (.tmp 22) (.tmp 24) _ rfl Tryz.underlying97 L w4.heap.size w4.heap.size _ [n] rfl HO6.out A6 _ c6 _ rfl rfl HRR6.out (by have := HL2.out; simp; omega) (by have := HG6.out.size; omega) ?_
          intro v7 w7 ho7 hg7
          have hg7' : w4.grownBy w7 (some R) := grown_own HG6.out HO6.out hg7
          have hrd7 := HRD6.out.own HO6.out hg7 (by omega)
          have hb27 := block_at hg7' HB2.out (by omega)
          obtain ⟨A7, c7, rfl, _, _, hrr7⟩ := ho7.rd
          have HRR7 := hide hrr7
          have HRD7 := hide hrd7
          have HG7 := hide hg7'
          have HOT := hide (other_of hb27 (by decide))
          have c0 := cell_of_row w7 _ 0 _ _ _ hb27
          have c1 := cell_of_row w7 _ 1 _ _ _ hb27
          have f0 := frozen_of_row w7 _ 0 _ _ hb27
          have f1 := frozen_of_row w7 _ 1 _ _ hb27
          clear ho7 hg7 hrr7 hrd7 hb27
          go_wp2_with fail
          refine hKK _ _ ⟨⟨w7, HM.out _ HG7.out⟩, rfl⟩ (fun x => ∃ y : Calm.OnB w3.heap.size w4, x = y.1) (fun _ h => h) ⟨⟨w7, HM.out _ HG7.out⟩, rfl⟩ ?_
          repeat (go_big_quiet_step (fail))
          refine wpQuiet_nil ?_
          intro KK hKK
          try rw [if_pos (by rfl)]
          go_wp2_with fail
          have HME := hide (fun u0 u1 => ((Below.heap_setCell (w7.setCell ⟨w.heap.size, 0, none⟩ u0) ⟨w.heap.size, 1, none⟩ u1 w3.heap.size (by simp only; omega)).trans ((Below.heap_setCell w7 ⟨w.heap.size, 0, none⟩ u0 w3.heap.size (by simp only; omega)).trans (HM.out _ HG7.out))))
          refine hKK _ _ ⟨⟨_, HME.out _ _⟩, rfl⟩ (fun x => ∃ y : Calm.OnB w3.heap.size w4, x = y.1) (fun _ h => h) ⟨⟨_, HME.out _ _⟩, rfl⟩ ?_
          refine wpQuiet_nil ?_
          go_wp2_with fail
          refine bodyPost_ret (v := .agg #[.int .i64 t.k, .slice A7 ((r2.takeWhile Y.isRef).length + 1) c7]) (by simp [results, Tryz.results82, go_sem, c0, c1]) rfl ⟨only_far (only_far (HG4.out.trans HG7.out) _ _ _ (Nat.le_refl _)) _ _ _ (Nat.le_refl _), _, rfl, (HRD7.out.far _ _ _ hRlt).far _ _ _ hRlt, A7, c7, rfl, (HRR7.out.grown (only_set (only_set (World.grownBy.refl _ _) _ _) _ _) HOT.out).less (by omega)⟩
        · intro KK hKK
          rw [if_pos (by rfl)]
          go_wp2_with fail
          refine (HRS.out _ HRD4.out.drew).mono ?_; rintro _ w5 ⟨hg5', v5, rfl, hof, hrd5⟩
          have hg5 : w4.grownBy w5 (some R) := hd4.trans hg5'
          obtain ⟨A6, c6, rfl, _, _, hrr5⟩ := hof.rd
          go_wp2_with fail
          refine hKK _ _ ⟨⟨w5, HM.out _ hg5⟩, rfl⟩ (fun x => ∃ y : Calm.OnB w3.heap.size w4, x = y.1) (fun _ h => h) ⟨⟨w5, HM.out _ hg5⟩, rfl⟩ ?_
          refine wpQuiet_nil ?_
          intro KK hKK
          try rw [if_pos (by rfl)]
          go_wp2_with fail
          obtain ⟨w6, hw6⟩ : ∃ x, x = w5.alloc (.cells #[.string (K.str n.t), .complex .f64 (Fl.fl (Pl.pos (L.take n.o)).1) (Fl.fl (Pl.pos (L.take n.o)).2)] 74) := ⟨_, rfl⟩
          rw [← hw6]
          have HG6 : Hid (w4.grownBy w6 (some R)) := hide (by rw [hw6]; exact only_alloc hg5 _)
          have ho6 : OwnR L w6 w4.heap.size (.slice (some ⟨w5.heap.size, 0, none⟩) 1 1) [n] := by rw [hw6]; exact own_lit L w5 _ n hg5.size
          have HRD6 := hide (show Rdr L B R px py w6 _ from by rw [hw6]; exact hrd5.alloc _)
          have HRR6 : Hid (RdR L w6 w4.heap.size A6 (r2.takeWhile Y.isRef)) := hide (by rw [hw6]; exact (hrr5.less (Nat.le_refl _)).grown (only_alloc (World.grownBy.refl _ _) _) (Other.none _))
          clear hw6 hg5 hg5' hof hrr5 hrd5
          refine hKK _ _ ⟨⟨w6, HM.out _ HG6.out⟩, rfl⟩ (fun x => ∃ y : Calm.OnB w3.heap.size w4, x = y.1) (fun _ h => h) ⟨⟨w6, HM.out _ HG6.out⟩, rfl⟩ ?_
          refine wpQuiet_nil ?_
          intro KK hKK
          try rw [if_pos (by rfl)]
          have HO6 := hide ho6
          clear ho6
          refine apnR_wp (.tmp 22) (.tmp 24) _ rfl Tryz.underlying97 L w4.heap.size w4.heap.size _ [n] rfl HO6.out A6 _ c6 _ rfl rfl HRR6.out (by have := HL2.out; simp; omega) (by have := HG6.out.size; omega) ?_
          intro v7 w7 ho7 hg7
          have hg7' : w4.grownBy w7 (some R) := grown_own HG6.out HO6.out hg7
          have hrd7 := HRD6.out.own HO6.out hg7 (by omega)
          have hb27 := block_at hg7' HB2.out (by omega)
          obtain ⟨A7, c7, rfl, _, _, hrr7⟩ := ho7.rd
          have HRR7 := hide hrr7
          have HRD7 := hide hrd7
          have HG7 := hide hg7'
          have HOT := hide (other_of hb27 (by decide))
          have c0 := cell_of_row w7 _ 0 _ _ _ hb27
          have c1 := cell_of_row w7 _ 1 _ _ _ hb27
          have f0 := frozen_of_row w7 _ 0 _ _ hb27
          have f1 := frozen_of_row w7 _ 1 _ _ hb27
          clear ho7 hg7 hrr7 hrd7 hb27
          go_wp2_with fail
          refine hKK _ _ ⟨⟨w7, HM.out _ HG7.out⟩, rfl⟩ (fun x => ∃ y : Calm.OnB w3.heap.size w4, x = y.1) (fun _ h => h) ⟨⟨w7, HM.out _ HG7.out⟩, rfl⟩ ?_
          repeat (go_big_quiet_step (fail))
          refine wpQuiet_nil ?_
          intro KK hKK
          try rw [if_pos (by rfl)]
          go_wp2_with fail
          have HME := hide (fun u0 u1 => ((Below.heap_setCell (w7.setCell ⟨w.heap.size, 0, none⟩ u0) ⟨w.heap.size, 1, none⟩ u1 w3.heap.size (by simp only; omega)).trans ((Below.heap_setCell w7 ⟨w.heap.size, 0, none⟩ u0 w3.heap.size (by simp only; omega)).trans (HM.out _ HG7.out))))
          refine hKK _ _ ⟨⟨_, HME.out _ _⟩, rfl⟩ (fun x => ∃ y : Calm.OnB w3.heap.size w4, x = y.1) (fun _ h => h) ⟨⟨_, HME.out _ _⟩, rfl⟩ ?_
          refine wpQuiet_nil ?_
          go_wp2_with fail
          refine bodyPost_ret (v := .agg #[.int .i64 t.k, .slice A7 ((r2.takeWhile Y.isRef).length + 1) c7]) (by simp [results, Tryz.results82, go_sem, c0, c1]) rfl ⟨only_far (only_far (HG4.out.trans HG7.out) _ _ _ (Nat.le_refl _)) _ _ _ (Nat.le_refl _), _, rfl, (HRD7.out.far _ _ _ hRlt).far _ _ _ hRlt, A7, c7, rfl, (HRR7.out.grown (only_set (only_set (World.grownBy.refl _ _) _ _) _ _) HOT.out).less (by omega)⟩
      · rw [h2] at HRF HD
        clear h2
        rw [HD.out]
        go_enter Tryz.func82, Tryz.ntmps82
        go_wp2_with fail
        refine (HTK.out _ _ _ rfl (by simp) (HR.out.alloc _)).mono ?_; rintro _ w2 ⟨hg2, v2, rfl, hrd2, rfl⟩
        have HRD2 := hide hrd2
        have HG2 := hide ((HG.out _).trans hg2)
        clear hg2 hrd2
        go_wp2_with fail
        refine (HRF.out _ _ _ rfl rfl HRD2.out).mono ?_; rintro _ w3 ⟨hg3, rfl⟩
        exact ⟨rfl, HG2.out.trans hg3, rfl⟩
  · rw [h1] at HTK HD
    clear h1
    rw [HD.out]
    go_enter Tryz.func82, Tryz.ntmps82
    go_wp2_with fail
    refine (HTK.out _ _ _ rfl (by simp) (HR.out.alloc _)).mono ?_; rintro _ w2 ⟨hg2, rfl⟩
    exact ⟨rfl, (HG.out _).trans hg2, rfl⟩

set_option maxHeartbeats 1000000 in
theorem ytail_any (L : List Int) (B R px py : Nat) (ts : List Tok) (w : World) (hr : Rdr L B R px py w ts) :
    Calls Tryz.prog 85 #[.pointer (some ⟨R, 0, none⟩)] w (Does L B R px py w (fun _ _ _ => True) (Y.tail ts)) := by
  have HR := hide hr
  have HIS := hide (is_at L B R px py ts [9] (by decide) w)
  have HT2 := hide (fun (x : World) (r : List Tok) (h : Rdr L B R px py x r) => take_any L B R px py r [] none 0 0 x h (RdI.nil _ _ _) (Nat.zero_le _) (by decide))
  have HGW := hide (World.grownBy.refl w (some R))
  clear hr
  rcases hb : Y.is [9] ts with _ | _
  · rw [hb] at HIS
    have HD : Hid (Y.tail ts = Y.tail2 ts) := hide (by unfold Y.tail; rw [hb]; rfl)
    clear hb
    rcases ts with _ | ⟨t, r⟩
    · rw [HD.out]
      go_enter Tryz.func85, Tryz.ntmps85
      go_wp2_with fail
      refine (HIS.out _ _ rfl rfl HR.out).mono ?_; rintro _ w2 ⟨rfl, hg2⟩
      have HRD := hide (HR.out.row hg2)
      obtain ⟨A, c, h0, _, _, _, _, _⟩ := HRD.out.cell0
      go_wp2
      exact ⟨rfl, .tuple #[], by simp [results, Tryz.results85], hg2.row _, _, rfl, HRD.out, trivial⟩
    · rw [HD.out]
      have HT2b := hide (fun (x : World) (h : Rdr L B R px py x (t :: r)) => HT2.out x (t :: r) h)
      rw [show Y.take [] (t :: r) = .bad (some t) from rfl] at HT2b
      have hl : 0 < ((t :: r).length : Int) := by simp
      rw [show Y.tail2 (t :: r) = .bad (some t) from rfl]
      go_enter Tryz.func85, Tryz.ntmps85
      go_wp2_with fail
      refine (HIS.out _ _ rfl rfl HR.out).mono ?_; rintro _ w2 ⟨rfl, hg2⟩
      have HRD := hide (HR.out.row hg2)
      have HG2 := hide hg2
      obtain ⟨A, c, h0, _, _, _, _, _⟩ := HRD.out.cell0
      clear hg2
      generalize (t :: r).length = n at *
      go_wp2_with fail
      refine (HT2b.out _ HRD.out).mono ?_; rintro _ w3 ⟨hg3, rfl⟩
      exact ⟨rfl, (HG2.out.row _).trans hg3, rfl⟩
  · rw [hb] at HIS
    obtain ⟨t9, r9, rfl, htk, _⟩ := Y.is_true hb
    have HD : Hid (Y.tail (t9 :: r9) = Y.tail2 r9) := hide (by unfold Y.tail; rw [hb, htk]; rfl)
    have HTK := hide (fun (x : World) => take_at L B R px py (t9 :: r9) [9] (by decide) x)
    rw [htk] at HTK
    unfold tokV at HTK
    rw [HD.out]
    clear hb htk
    rcases r9 with _ | ⟨t, r⟩
    · rw [show Y.tail2 [] = .ok () [] from rfl]
      go_enter Tryz.func85, Tryz.ntmps85
      go_wp2_with fail
      refine (HIS.out _ _ rfl rfl HR.out).mono ?_; rintro _ w2 ⟨rfl, hg2⟩
      have HRD := hide (HR.out.row hg2)
      go_wp2_with fail
      refine (HTK.out _ _ _ rfl rfl HRD.out).mono ?_; rintro _ w3 ⟨hg3, v3, rfl, hrd3, rfl⟩
      have HG3 := hide ((hg2.row _).trans hg3)
      have HRD3 := hide hrd3
      obtain ⟨A, c, h0, _, _, _, _, _⟩ := hrd3.cell0
      clear hg2 hg3 hrd3
      go_wp2
      exact ⟨rfl, .tuple #[], by simp [results, Tryz.results85], HG3.out, _, rfl, HRD3.out, trivial⟩
    · rw [show Y.tail2 (t :: r) = .bad (some t) from rfl]
      have HT2b := hide (fun (x : World) (h : Rdr L B R px py x (t :: r)) => HT2.out x (t :: r) h)
      rw [show Y.take [] (t :: r) = .bad (some t) from rfl] at HT2b
      have hl : 0 < ((t :: r).length : Int) := by simp
      go_enter Tryz.func85, Tryz.ntmps85
      go_wp2_with fail
      refine (HIS.out _ _ rfl rfl HR.out).mono ?_; rintro _ w2 ⟨rfl, hg2⟩
      have HRD := hide (HR.out.row hg2)
      go_wp2_with fail
      refine (HTK.out _ _ _ rfl rfl HRD.out).mono ?_; rintro _ w3 ⟨hg3, v3, rfl, hrd3, rfl⟩
      have HG3 := hide ((hg2.row _).trans hg3)
      have HRD3 := hide hrd3
      obtain ⟨A, c, h0, _, _, _, _, _⟩ := hrd3.cell0
      clear hg2 hg3 hrd3
      generalize (t :: r).length = n at *
      go_wp2_with fail
      refine (HT2b.out _ HRD3.out).mono ?_; rintro _ w4 ⟨hg4, rfl⟩
      exact ⟨rfl, HG3.out.trans hg4, rfl⟩
end Go.Proofs.YtoehbkgdodogkaaGreat
