/- Part of the proofs over this program: Ref8M, Read9, Src9, Alive12T, WordsU, SetW, SetR, WordsO, FstFn, TrimFn, TrimPass, TrimGrow, TrimTells. -/
import Derived.Laws.BitsAllLaws
import Derived.Laws.Shifts
import Derived.Deep.Cut
import Derived.Test.YthjohhcgegcmhaaKH
namespace Go.Proofs.Ythjohhcgegcmhaa
set_option maxRecDepth 100000
open Go.RowKit

def Y.more : Nat → List Prd → List Tok → Res (List Prd)
  | 0, acc, ts => .ok acc ts
  | _ + 1, acc, [] => .ok acc []
  | f + 1, acc, t :: ts => (group [] (t :: ts)).bind fun ps r => Y.more f (acc ++ ps) r
theorem Y.group_kind {t : Tok} {ts r : List Tok} {ps : List Y.Prd} (h : Y.group [] (t :: ts) = .ok ps r) : t.k = 1 := by
  unfold Y.group at h
  obtain ⟨left, m, h1, h⟩ := Y.bind_eq_ok h
  obtain ⟨e, hk⟩ := Y.take_ok h1
  injection e with e _
  subst e
  simpa using hk
theorem apP_wp {w : World} {o : Oper} {a : Act} {K : Act → World → Prop} {Q : Exit → Act → World → Prop}
    (s x : Operand) (t : TypeId) (ho : o.op = .call { callee := .builtin .append, args := #[s, x], argTypes := #[t, t] }) (ht : Try.prog.underlying t = some (.slice 86))
    (L : List Int) (base bu : Nat) (v u : Value) (xs ys : List Y.Prd) (hs : a.eval s = v) (hown : OwnP L w base v xs) (hx : a.eval x = u) (hsrc : OwnP L w bu u ys) (hbu : base ≤ bu)
    (hlen : xs.length + ys.length ≤ 1000000) (hbase : base ≤ w.heap.size)
    (hK : ∀ v' w', OwnP L w' base v' (xs ++ ys) → w.grownBy w' v.ownBlock → K (a.put o.dst v') w') :
    o.wp Try.prog a w K Q := by
  obtain ⟨i, hi, hz0, hz1, hz2⟩ := info_parts infoP
  have hown0 := hown
  obtain ⟨qs, hq1, hq2, hq3⟩ := hown
  obtain ⟨qy, hy1, hy2, hy3⟩ := hsrc
  have hlq : qs.length = xs.length := by rw [← hq1, List.length_map]
  have hly : qy.length = ys.length := by rw [← hy1, List.length_map]
  have hpl : (pall L qy).length = ys.length * 5 := hy2.1
  rcases hy2.2 with ⟨rfl, h0⟩ | ⟨g, cap, cur, rfl, hb, hg, hn, hm, hc, htk⟩
  · have hz : ys = [] := List.eq_nil_of_length_eq_zero h0
    subst hz
    have hrun := run_append_nil (P := Try.prog) w base t o.type 86 i 5 ht hi v xs.length _ hq2 0
    unfold Oper.wp
    simp [execOp, ho, resolve, invoke, builtin, hs, hx, hrun, Result.andThen]
    exact hK v w (by simpa using hown0) (World.grownBy.refl _ _)
  · refine wp_append_own w s x t ho base 86 i _ 5 88 ht hi hz0 hz1 hz2 rfl (by decide) v xs.length (pall L qs) hs hq2 ⟨g, 0, none⟩ ys.length cap (pall L qy) hx hpl ?_ ?_ (by unfold maxLen; omega) (by omega) hbase fun v' w' h1 h2 _ => hK v' w' ?_ h2
    · intro j z hj
      have hjl : j < ys.length * 5 := by have := (List.getElem?_eq_some_iff.1 hj).1; omega
      rw [addZ, Nat.zero_add, cell_of_row w g _ _ _ _ hg]
      rw [← htk, List.getElem?_take_of_lt hjl] at hj
      simpa using hj
    · intro z hz
      obtain ⟨q, _, hz⟩ := List.mem_flatMap.1 hz
      exact pcells_one L q.1 q.2.1 q.2.2 z hz
    · have hoo := own_other hq2 (by decide)
      refine ⟨qs ++ qy, by rw [List.map_append, hq1, hy1], ?_, fun q hq => ?_⟩
      · rw [List.length_append]
        unfold pall at h1 ⊢
        rw [List.flatMap_append]
        exact h1
      · rcases List.mem_append.1 hq with h | h
        · exact (hq3 q h).grown h2 hoo
        · exact ((hy3 q h).less hbu).grown h2 hoo
theorem Rd8.dlen {L : List Int} {B R px py : Nat} {w : World} {ts : List Tok} (h : Rd8 L B R px py w ts) : declLen R w = ts.length := by
  obtain ⟨A, c, h0, _⟩ := h.cell0
  unfold declLen
  rw [h0]
theorem own_apart {w : World} {base base' : Nat} {v v' : Value} {n n' size size' : Nat} {e e' : TypeId} {xs xs' : List Value} (h : w.ownsRow base e size v n xs) (h' : w.ownsRow base' e' size' v' n' xs') (he : e ≠ e') : v.ownBlock = none ∨ v.ownBlock ≠ v'.ownBlock := by
  rcases h'.2 with ⟨rfl, _⟩ | ⟨g, cap, cur, rfl, _, hg, _⟩
  · rcases hv : v.ownBlock with _ | k
    · exact .inl rfl
    · exact .inr (by simp [Value.ownBlock])
  · exact .inr (own_ne h hg he)
set_option maxHeartbeats 8000000 in
theorem of8m (L : List Int) (A : Option Addr) (c px py : Nat) (ts : List Tok) (ds : List Y.Dcl) (p1 ps : List Y.Prd) (f1 : Nat) (m m2 r1 : List Tok) (t9 : Tok) (w : World) (hr : RdT L w w.heap.size A ts) (hc : ts.length ≤ c) (h4 : ts.length ≤ 4000)
    (hd : Y.decls (ts.length + 1) [] ts = .ok ds m) (hk : ∀ d ∈ ds, d.k = 4 ∨ d.k = 5) (h9 : Y.take [9] m = .ok t9 m2) (hg : Y.group [] m2 = .ok p1 r1) (hmo : Y.more f1 p1 r1 = .ok ps []) :
    Calls Try.prog 47 #[.slice A ts.length c, .complex .f64 px py] w fun e w' => ∃ dv pv, e = .returned (.tuple #[.agg #[dv, pv], .complex .f64 0 0, .int .i64 0]) ∧ OwnD L w' w.heap.size dv ds ∧ OwnP L w' w.heap.size pv ps ∧ Below w.heap.size w w' := by
  have SC := fun a w m X Y => show (store a (.complex .f64 X Y) m).run Try.prog w = stored Try.prog w a (.complex .f64 X Y) m from run_store _ w a _ m rfl
  have BR := fun A (n c : Nat) X Y w => (run_build w 103 _ _ (by kernel_rfl) : (Instr.build 103 #[(0, .slice A n c), (1, .complex .f64 X Y)]).run Try.prog w = .ok (.agg #[.slice A n c, .complex .f64 X Y, .complex .f64 0 0, .int .i64 0]) w)
  have BS := fun A (n c : Nat) w => (run_build w 60 _ _ (by kernel_rfl) : (Instr.build 60 #[(0, .slice A n c)]).run Try.prog w = .ok (.agg #[.slice A n c, .slice none 0 0]) w)
  have HB0 := hide (((Below.refl w.heap.size w).alloc (Nat.le_refl _) (.cells #[.slice none 0 0, .slice none 0 0] 60)).alloc (by simp) (.cells #[.slice A ts.length c, .complex .f64 px py, .complex .f64 0 0, .int .i64 0] 103))
  have HR1 : Hid (Rd8 L w.heap.size (w.heap.size + 1) px py ((w.alloc (.cells #[.slice none 0 0, .slice none 0 0] 60)).alloc (.cells #[.slice A ts.length c, .complex .f64 px py, .complex .f64 0 0, .int .i64 0] 103)) ts) := hide ⟨A, c, by have := heap_alloc_new (w.alloc (.cells #[.slice none 0 0, .slice none 0 0] 60)) (.cells #[.slice A ts.length c, .complex .f64 px py, .complex .f64 0 0, .int .i64 0] 103); rwa [show (w.alloc (.cells #[.slice none 0 0, .slice none 0 0] 60)).heap.size = w.heap.size + 1 by simp] at this, hc, h4, hr.below HB0.out (Nat.le_refl _), by omega⟩
  have HD := hide (fun (x : World) (B R : Nat) (h : Rd8 L B R px py x ts) => decls8 L B R px py (ts.length + 1) ts ds m x h hd (by omega) hk)
  have H9 := hide (fun (x : World) (B R : Nat) (h : Rd8 L B R px py x m) => take8' L B R px py m 9 9 x h t9 m2 ((take_two 9 m).trans h9))
  have HG := hide (fun (x : World) (B R : Nat) (h : Rd8 L B R px py x m2) => group8 L B R px py m2 p1 r1 x h hg)
  have HMO := hide hmo
  have HGL := hide (Y.group_len hg)
  unfold refV at H9
  clear hr hc h4 hd hk h9 hg hmo
  go_enter Try.func47, Try.ntmps47
  go_wp2_with fail
  refine (HD.out _ _ _ HR1.out).mono ?_; rintro _ w2 ⟨hg2, v2, rfl, ho2, hr2⟩
  have hz0 := block_at hg2 ((Below.block (B := w.heap.size + 1) ((Below.refl _ (w.alloc (.cells #[.slice none 0 0, .slice none 0 0] 60))).alloc (by simp) (.cells #[.slice A ts.length c, .complex .f64 px py, .complex .f64 0 0, .int .i64 0] 103)) w.heap.size (by omega)).trans (heap_alloc_new w _)) (by omega)
  obtain ⟨A2, c2, rfl, _, _⟩ := ho2.form
  have HG2 := hide hg2
  have hs2 : w.heap.size + 2 ≤ w2.heap.size := by have := hg2.size; simpa using this
  have HO2 := hide ho2
  have HRO := hide hr2.other
  have HR2 := hide (hr2.alloc (.cells #[.slice A2 ds.length c2, .slice none 0 0] 60))
  have HZ2 := hide ((Below.heap_alloc w2 (.cells #[.slice A2 ds.length c2, .slice none 0 0] 60) w.heap.size (by omega)).trans hz0)
  clear hg2 ho2 hr2 hz0
  go_wp2_with fail
  refine (H9.out _ _ _ HR2.out).mono ?_; rintro _ w3 ⟨rfl, hg3, hr3⟩
  have HG3 := hide hg3
  have HR3 := hide hr3
  have HZ3 := hide (block_at hg3 HZ2.out (by omega))
  have HB3 := hide (block_kept hg3 (by omega : w.heap.size + 1 < w2.heap.size))
  clear hg3 hr3
  go_wp2_with fail
  have HL1 : Hid (p1.length + r1.length ≤ 4000) := hide (by have h1 := HGL.out; have h2 := HR3.out.len; simp at h1; omega)
  refine (HG.out _ _ _ HR3.out).mono ?_; rintro _ w4 ⟨hg4, v4, rfl, ho4, hr4⟩
  obtain ⟨A4, c4, rfl, _, _⟩ := ho4.form
  have hs3 : w2.heap.size + 1 ≤ w3.heap.size := by have := HG3.out.size; simpa using this
  have hs4 : w3.heap.size ≤ w4.heap.size := hg4.size
  have hb4 := block_at hg4 HB3.out (by omega)
  have hz4 := block_at hg4 HZ3.out (by omega)
  have HGA := hide ((only_alloc HG2.out (.cells #[.slice A2 ds.length c2, .slice none 0 0] 60)).trans (HG3.out.trans hg4))
  have b0 := cell_of_row w4 _ 0 _ _ _ hb4
  have b1 := cell_of_row w4 _ 1 _ _ _ hb4
  have fb1 := frozen_of_row w4 _ 1 _ _ hb4
  have z0 := cell_of_row w4 _ 0 _ _ _ hz4
  have z1 := cell_of_row w4 _ 1 _ _ _ hz4
  have fz0 := frozen_of_row w4 _ 0 _ _ hz4
  have fz1 := frozen_of_row w4 _ 1 _ _ hz4
  have hRl := hr4.lt
  have HO4 := hide ho4
  have HOD4 := hide (HO2.out.grown ((only_alloc (World.grownBy.refl w2 (some (w.heap.size + 1))) (.cells #[.slice A2 ds.length c2, .slice none 0 0] 60)).trans (HG3.out.trans hg4)) ⟨HRO.out, by obtain ⟨z, hz⟩ := HO2.out.own; simp at hz; exact own_off hz (by omega)⟩)
  have HW5 : ∃ w5 : World, w5 = w4.setCell ⟨w2.heap.size, 1, none⟩ (.slice A4 p1.length c4) := ⟨_, rfl⟩
  obtain ⟨w5, hw5⟩ := HW5
  have hb5 : w5.heap[w2.heap.size]? = some (.cells #[.slice A2 ds.length c2, .slice A4 p1.length c4] 60 (0, 0)) := by rw [hw5, heap_setCell_same w4 _ 1 _ _ _ hb4]; rfl
  have hz5 : w5.heap[w.heap.size]? = some (.cells #[.slice none 0 0, .slice none 0 0] 60 (0, 0)) := by rw [hw5, Below.heap_setCell _ _ _ _ (by simp only; omega)]; exact hz4
  have HR5 : Hid (Rd8 L w.heap.size (w.heap.size + 1) px py w5 r1) := hide (by rw [hw5]; exact hr4.far _ _ _ (by omega))
  have HOD5 : Hid (OwnD L w5 (w.heap.size + 2) (.slice A2 ds.length c2) ds) := hide (by rw [hw5]; have h := HOD4.out.grown (only_set (World.grownBy.refl w4 (some w2.heap.size)) 1 (.slice A4 p1.length c4)) ⟨src_other hb4, by obtain ⟨z, hz⟩ := HOD4.out.own; exact own_away hz hb4 (fun cur e => by injection e with _ e; exact absurd e (by decide))⟩; simpa using h)
  have HOP5 : Hid (OwnP L w5 w3.heap.size (.slice A4 p1.length c4) p1) := hide (by rw [hw5]; exact ho4.grown (only_set (World.grownBy.refl w4 (some w2.heap.size)) 1 (.slice A4 p1.length c4)) ⟨src_other hb4, by obtain ⟨z, hz⟩ := ho4.own; exact own_away hz hb4 (fun cur e => by injection e with _ e; exact absurd e (by decide))⟩)
  have HBW : Hid (Below w.heap.size w w5) := hide (by
    rw [hw5]
    refine Below.setCell ?_ (p := ⟨w2.heap.size, 1, none⟩) (by simp only; omega) _
    exact HB0.out.grown HGA.out (by simp; omega) (fun k e => by injection e with e; omega))
  clear hg4 ho4 hr4
  go_wp2_with fail
  rw [← hw5]
  have HB5 := hide hb5
  have HZ5 := hide hz5
  have hpb5 : w3.heap.size ≤ w5.heap.size := by rw [hw5]; simp; omega
  clear hw5 hb5 hz5 b0 b1 fb1 z0 z1 fz0 fz1 hb4 hz4 HO4 HOD4
  go_loopw [] (fun wt => ∃ (f : Nat) (acc : List Y.Prd) (rest : List Tok) (A : Option Addr) (c : Nat), Hid (Y.more f acc rest = .ok ps []) ∧ acc.length + rest.length ≤ 4000 ∧ wt.heap[w2.heap.size]? = some (.cells #[.slice A2 ds.length c2, .slice A acc.length c] 60 (0, 0)) ∧ wt.heap[w.heap.size]? = some (.cells #[.slice none 0 0, .slice none 0 0] 60 (0, 0)) ∧ Rd8 L w.heap.size (w.heap.size + 1) px py wt rest ∧ OwnD L wt (w.heap.size + 2) (.slice A2 ds.length c2) ds ∧ OwnP L wt w3.heap.size (.slice A acc.length c) acc ∧ Below w.heap.size w wt ∧ w3.heap.size ≤ wt.heap.size) (fun wt => declLen (w.heap.size + 1) wt)
  case atStart => exact ⟨f1, p1, r1, A4, c4, HMO, HL1.out, HB5.out, HZ5.out, HR5.out, HOD5.out, HOP5.out, HBW.out, hpb5⟩
  case round =>
    clear HMO HL1 HB5 HZ5 HR5 HOD5 HOP5 HBW hpb5
    obtain ⟨f, acc, rest, A, c, HM, hle, hsb, hzz, hrd, hod, hop, hbw, hpb⟩ := hrel
    obtain ⟨Ax, cx, r0, r3, _⟩ := hrd.cell0
    have HSB := hide hsb
    have HZZ := hide hzz
    have HRD := hide hrd
    have HOD := hide hod
    have HOP := hide hop
    have HBW := hide hbw
    have HPB := hide hpb
    have HLE := hide hle
    have hsz : w.heap.size < wr.heap.size := (Array.getElem?_eq_some_iff.1 hzz).1
    have hsbl : w2.heap.size < wr.heap.size := (Array.getElem?_eq_some_iff.1 hsb).1
    rcases rest with _ | ⟨t, m1⟩
    · have HFIN : Hid (acc = ps) := hide (by
        have h := HM.out
        cases f with
        | zero => injection h
        | succ f => injection h)
      have p0 := cell_of_row wr _ 0 _ _ _ hsb
      have p1' := cell_of_row wr _ 1 _ _ _ hsb
      have y0 := cell_of_row wr _ 0 _ _ _ hzz
      have y1 := cell_of_row wr _ 1 _ _ _ hzz
      have gz0 := frozen_of_row wr _ 0 _ _ hzz
      have gz1 := frozen_of_row wr _ 1 _ _ hzz
      clear hsb hzz hrd hod hop hbw hpb hle HM
      go_wp2
      have hgf := only_set (only_set (World.grownBy.refl wr (some w.heap.size)) 0 (.slice A2 ds.length c2)) 1 (.slice A acc.length c)
      refine bodyPost_ret (v := .tuple #[.agg #[.slice A2 ds.length c2, .slice A acc.length c], .complex .f64 0 0, .int .i64 0]) (by simp [results, Try.results47, go_sem, y0, y1]) rfl ⟨_, _, rfl, ?_, ?_, ?_⟩
      · exact (HOD.out.grown hgf ⟨src_other HZZ.out, by obtain ⟨z, hz⟩ := HOD.out.own; exact own_off hz (by omega)⟩).less5 (by omega)
      · rw [← HFIN.out]
        exact (HOP.out.grown hgf ⟨src_other HZZ.out, by obtain ⟨z, hz⟩ := HOP.out.own; exact own_off hz (by omega)⟩).less5 (by omega)
      · exact HBW.out.grown hgf HBW.out.size (fun k e => by injection e with e; omega)
    · obtain ⟨f, rfl⟩ : ∃ f', f = f' + 1 := by
        cases f with
        | zero => have h := HM.out; injection h with _ h; cases h
        | succ f => exact ⟨f, rfl⟩
      have hY := HM.out
      rw [Y.more] at hY
      obtain ⟨p2, r2, hgp, hmo2⟩ := Y.bind_eq_ok hY
      have HMO2 := hide hmo2
      have HGL2 := hide (Y.group_len hgp)
      have HKD := hide (fun (x : World) (h : Rd8 L w.heap.size (w.heap.size + 1) px py x (t :: m1)) => kind8 L w.heap.size (w.heap.size + 1) px py (t :: m1) x h)
      have HGR := hide (fun (x : World) (h : Rd8 L w.heap.size (w.heap.size + 1) px py x (t :: m1)) => group8 L w.heap.size (w.heap.size + 1) px py (t :: m1) p2 r2 x h hgp)
      rw [show kd (t :: m1) = 1 from Y.group_kind hgp] at HKD
      have hlen : 0 < ((t :: m1).length : Int) := by simp
      have HLN : Hid ((t :: m1).length = m1.length + 1) := hide rfl
      clear hY hgp hmo2 HM hsb hzz hrd hod hop hbw hpb hle
      have HRL : Hid ((t :: m1).length = declLen (w.heap.size + 1) wr) := hide HRD.out.dlen.symm
      generalize hrr : t :: m1 = rst at *
      clear hrr
      go_wp2_with fail
      refine (HKD.out _ HRD.out).mono ?_; rintro _ _ ⟨rfl, rfl⟩
      go_upto_region 6 with fail
      refine Calm.region_tree (fun _ => True) (.two [0, 2] 1 (.one [] 3 (.one [] 4 (.one [5] 6 (.fin [])))) 3 (.one [] 1 (.one [] 4 (.one [5] 6 (.fin []))))) (by kernel_rfl) (by kernel_rfl) (fun _ _ d _ _ h => by cases d <;> exact h) trivial ?_
      obtain ⟨x2, hx2⟩ : ∃ x, x = wr.drew := ⟨_, rfl⟩
      rw [← hx2]
      have hgd : wr.grownBy x2 .none := by rw [hx2]; exact drew_grown _ _
      have hbx : Below w.heap.size w x2 := by rw [hx2]; exact below_drewN HBW.out 1
      have HSB2 := hide ((hgd.block w2.heap.size hsbl (by simp)).trans HSB.out)
      have HZZ2 := hide ((hgd.block w.heap.size hsz (by simp)).trans HZZ.out)
      have HRD2 := hide (HRD.out.row hgd)
      have HOD2 := hide (HOD.out.grown hgd (Away.none _ _))
      have HOP2 := hide (HOP.out.grown hgd (Away.none _ _))
      have HBW2 := hide hbx
      have HPB2 : Hid (w3.heap.size ≤ x2.heap.size) := hide (Nat.le_trans HPB.out hgd.size)
      clear hx2 hgd hbx HSB HZZ HRD HOD HOP HBW HPB
      simp only [Calm.wpT, Calm.wpSt, Calm.pickOps, List.getElem?_toArray, List.getElem?_cons_zero, List.getElem?_cons_succ]
      repeat (go_big_quiet_step (fail))
      refine wpQuiet_nil ?_
      refine ⟨?_, ?_⟩
      · intro KK hKK
        try rw [if_pos (by rfl)]
        have c1 := cell_of_row x2 _ 1 _ _ _ HSB2.out
        go_wp2_with fail
        clear c1
        refine hKK _ _ trivial (fun _ => True) (fun _ _ => trivial) trivial ?_
        repeat (go_big_quiet_step (fail))
        refine wpQuiet_nil ?_
        intro KK hKK
        try rw [if_pos (by rfl)]
        go_wp2_with fail
        refine (HGR.out _ HRD2.out).mono ?_; rintro _ x3 ⟨hg3, v3, rfl, ho3, hr3⟩
        have HSB3 := hide (block_at hg3 HSB2.out (by omega))
        have HZZ3 := hide (block_at hg3 HZZ2.out (by omega))
        have HRD3 := hide hr3
        have HOD3 := hide (HOD2.out.grown hg3 ⟨HRD2.out.other, by obtain ⟨z, hz⟩ := HOD2.out.own; exact own_off hz (by omega)⟩)
        have HOP3 := hide (HOP2.out.grown hg3 ⟨HRD2.out.other, by obtain ⟨z, hz⟩ := HOP2.out.own; exact own_off hz (by omega)⟩)
        have HBW3 := hide (HBW2.out.grown hg3 HBW2.out.size (fun k e => by injection e with e; omega))
        have HPB3 := hide (Nat.le_trans HPB2.out hg3.size)
        have HO3 := hide (ho3.less5 HPB2.out)
        have hs23 : x2.heap.size ≤ x3.heap.size := hg3.size
        clear hg3 ho3 hr3
        go_wp2_with fail
        refine hKK _ _ trivial (fun _ => True) (fun _ _ => trivial) trivial ?_
        repeat (go_big_quiet_step (fail))
        refine wpQuiet_nil ?_
        intro KK hKK
        try rw [if_pos (by rfl)]
        refine apP_wp (.tmp 40) (.tmp 42) _ rfl Try.underlying58 L w3.heap.size w3.heap.size _ v3 acc p2 rfl HOP3.out rfl HO3.out (Nat.le_refl _) (by have h1 := HLE.out; have h2 := HGL2.out; simp at h2; omega) HPB3.out ?_
        intro v4 x4 ho4 hg4
        obtain ⟨zo, hown⟩ := HOP3.out.own
        have HSB4 := hide (own_keep hown HSB3.out (by decide) hg4)
        have HZZ4 := hide (own_keep hown HZZ3.out (by decide) hg4)
        have HRD4 := hide (HRD3.out.own hown hg4 (by omega))
        have HOD4 := hide (HOD3.out.grown hg4 ⟨own_other hown (by decide), by obtain ⟨z, hz⟩ := HOD3.out.own; exact own_apart hz hown (by decide)⟩)
        have HBW4 := hide (HBW3.out.grown hg4 HBW3.out.size (fun k e => by have := (World.ownsRow.lt hown k e).1; omega))
        have HPB4 := hide (Nat.le_trans HPB3.out hg4.size)
        have hs34 : x3.heap.size ≤ x4.heap.size := hg4.size
        have HO4 := hide ho4
        clear ho4 hg4 hown
        obtain ⟨A4', c4', hv4, _, _⟩ := HO4.out.form
        rw [List.length_append] at hv4
        subst hv4
        go_wp2_with fail
        refine hKK _ _ trivial (fun _ => True) (fun _ _ => trivial) trivial ?_
        repeat (go_big_quiet_step (fail))
        refine wpQuiet_nil ?_
        intro KK hKK
        try rw [if_pos (by rfl)]
        have c1 := cell_of_row x4 _ 1 _ _ _ HSB4.out
        have f1' := frozen_of_row x4 _ 1 _ _ HSB4.out
        go_wp2_with fail
        refine hKK _ _ trivial (fun _ => True) (fun _ _ => trivial) trivial ?_
        refine wpQuiet_nil ?_
        go_wp2_with fail
        have hst := only_set (World.grownBy.refl x4 (some w2.heap.size)) 1 (.slice A4' (acc.length + p2.length) c4')
        have HRD5 := hide (HRD4.out.far w2.heap.size 1 (.slice A4' (acc.length + p2.length) c4') (by omega))
        go_roundw
        case rel =>
          refine ⟨f, acc ++ p2, r2, A4', c4', HMO2, by have h1 := HLE.out; have h2 := HGL2.out; simp at h2 ⊢; omega, ?_, ?_, HRD5.out, ?_, ?_, ?_, ?_⟩
          · rw [List.length_append, heap_setCell_same x4 _ 1 _ _ _ HSB4.out]; rfl
          · rw [Below.heap_setCell _ _ _ _ (by simp only; omega)]; exact HZZ4.out
          · exact HOD4.out.grown hst ⟨src_other HSB4.out, by obtain ⟨z, hz⟩ := HOD4.out.own; exact own_away hz HSB4.out (fun cur e => by injection e with _ e; exact absurd e (by decide))⟩
          · rw [List.length_append]; exact HO4.out.grown hst ⟨src_other HSB4.out, by obtain ⟨z, hz⟩ := HO4.out.own; exact own_away hz HSB4.out (fun cur e => by injection e with _ e; exact absurd e (by decide))⟩
          · exact Below.setCell HBW4.out (p := ⟨w2.heap.size, 1, none⟩) (by simp only; omega) _
          · simpa using HPB4.out
        case measure =>
          rw [HRD5.out.dlen, ← HRL.out]
          have h2 := HGL2.out
          have h3 := HLN.out
          simp at h2
          omega
      · intro KK hKK
        try rw [if_pos (by rfl)]
        go_wp2_with fail
        refine (HGR.out _ HRD2.out).mono ?_; rintro _ x3 ⟨hg3, v3, rfl, ho3, hr3⟩
        have HSB3 := hide (block_at hg3 HSB2.out (by omega))
        have HZZ3 := hide (block_at hg3 HZZ2.out (by omega))
        have HRD3 := hide hr3
        have HOD3 := hide (HOD2.out.grown hg3 ⟨HRD2.out.other, by obtain ⟨z, hz⟩ := HOD2.out.own; exact own_off hz (by omega)⟩)
        have HOP3 := hide (HOP2.out.grown hg3 ⟨HRD2.out.other, by obtain ⟨z, hz⟩ := HOP2.out.own; exact own_off hz (by omega)⟩)
        have HBW3 := hide (HBW2.out.grown hg3 HBW2.out.size (fun k e => by injection e with e; omega))
        have HPB3 := hide (Nat.le_trans HPB2.out hg3.size)
        have HO3 := hide (ho3.less5 HPB2.out)
        have hs23 : x2.heap.size ≤ x3.heap.size := hg3.size
        clear hg3 ho3 hr3
        go_wp2_with fail
        refine hKK _ _ trivial (fun _ => True) (fun _ _ => trivial) trivial ?_
        repeat (go_big_quiet_step (fail))
        refine wpQuiet_nil ?_
        intro KK hKK
        try rw [if_pos (by rfl)]
        have c1 := cell_of_row x3 _ 1 _ _ _ HSB3.out
        go_wp2_with fail
        clear c1
        refine hKK _ _ trivial (fun _ => True) (fun _ _ => trivial) trivial ?_
        repeat (go_big_quiet_step (fail))
        refine wpQuiet_nil ?_
        intro KK hKK
        try rw [if_pos (by rfl)]
        refine apP_wp (.tmp 40) (.tmp 42) _ rfl Try.underlying58 L w3.heap.size w3.heap.size _ v3 acc p2 rfl HOP3.out rfl HO3.out (Nat.le_refl _) (by have h1 := HLE.out; have h2 := HGL2.out; simp at h2; omega) HPB3.out ?_
        intro v4 x4 ho4 hg4
        obtain ⟨zo, hown⟩ := HOP3.out.own
        have HSB4 := hide (own_keep hown HSB3.out (by decide) hg4)
        have HZZ4 := hide (own_keep hown HZZ3.out (by decide) hg4)
        have HRD4 := hide (HRD3.out.own hown hg4 (by omega))
        have HOD4 := hide (HOD3.out.grown hg4 ⟨own_other hown (by decide), by obtain ⟨z, hz⟩ := HOD3.out.own; exact own_apart hz hown (by decide)⟩)
        have HBW4 := hide (HBW3.out.grown hg4 HBW3.out.size (fun k e => by have := (World.ownsRow.lt hown k e).1; omega))
        have HPB4 := hide (Nat.le_trans HPB3.out hg4.size)
        have hs34 : x3.heap.size ≤ x4.heap.size := hg4.size
        have HO4 := hide ho4
        clear ho4 hg4 hown
        obtain ⟨A4', c4', hv4, _, _⟩ := HO4.out.form
        rw [List.length_append] at hv4
        subst hv4
        go_wp2_with fail
        refine hKK _ _ trivial (fun _ => True) (fun _ _ => trivial) trivial ?_
        repeat (go_big_quiet_step (fail))
        refine wpQuiet_nil ?_
        intro KK hKK
        try rw [if_pos (by rfl)]
        have c1 := cell_of_row x4 _ 1 _ _ _ HSB4.out
        have f1' := frozen_of_row x4 _ 1 _ _ HSB4.out
        go_wp2_with fail
        refine hKK _ _ trivial (fun _ => True) (fun _ _ => trivial) trivial ?_
        refine wpQuiet_nil ?_
        go_wp2_with fail
        have hst := only_set (World.grownBy.refl x4 (some w2.heap.size)) 1 (.slice A4' (acc.length + p2.length) c4')
        have HRD5 := hide (HRD4.out.far w2.heap.size 1 (.slice A4' (acc.length + p2.length) c4') (by omega))
        go_roundw
        case rel =>
          refine ⟨f, acc ++ p2, r2, A4', c4', HMO2, by have h1 := HLE.out; have h2 := HGL2.out; simp at h2 ⊢; omega, ?_, ?_, HRD5.out, ?_, ?_, ?_, ?_⟩
          · rw [List.length_append, heap_setCell_same x4 _ 1 _ _ _ HSB4.out]; rfl
          · rw [Below.heap_setCell _ _ _ _ (by simp only; omega)]; exact HZZ4.out
          · exact HOD4.out.grown hst ⟨src_other HSB4.out, by obtain ⟨z, hz⟩ := HOD4.out.own; exact own_away hz HSB4.out (fun cur e => by injection e with _ e; exact absurd e (by decide))⟩
          · rw [List.length_append]; exact HO4.out.grown hst ⟨src_other HSB4.out, by obtain ⟨z, hz⟩ := HO4.out.own; exact own_away hz HSB4.out (fun cur e => by injection e with _ e; exact absurd e (by decide))⟩
          · exact Below.setCell HBW4.out (p := ⟨w2.heap.size, 1, none⟩) (by simp only; omega) _
          · simpa using HPB4.out
        case measure =>
          rw [HRD5.out.dlen, ← HRL.out]
          have h2 := HGL2.out
          have h3 := HLN.out
          simp at h2
          omega
end Go.Proofs.Ythjohhcgegcmhaa

namespace Go.Proofs.Ythjohhcgegcmhaa
set_option maxRecDepth 100000
open Go.RowKit

structure Sr9 (L : List Int) (xs : List Tok) (ds : List Y.Dcl) (ps : List Y.Prd) (G : Gm.Gr) : Prop where
  b : K.Bytes L
  n : L.length ≤ 2000
  t : toks L = .ok xs
  s : ∃ m t9 m2 p1 r1 f1, Y.decls (xs.length + 1) [] xs = .ok ds m ∧ Y.take [9] m = .ok t9 m2 ∧ Y.group [] m2 = .ok p1 r1 ∧ Y.more f1 p1 r1 = .ok ps []
  z : Ez ds ps
  g : Gm.build ds ps = .ok G
set_option maxHeartbeats 8000000 in
theorem parse8 (A : Option Addr) (c : Nat) (L : List Int) (xs : List Tok) (ds : List Y.Dcl) (ps : List Y.Prd) (G : Gm.Gr) (w : World) (hr : RdB w w.heap.size A L) (hc : L.length ≤ c) (hs : Sr9 L xs ds ps G) :
    Calls Try.prog 27 #[.slice A L.length c] w fun e w' => ∃ dv pv, e = .returned (.tuple #[.agg #[dv, pv], .complex .f64 0 0, .int .i64 0]) ∧ OwnD L w' w.heap.size dv ds ∧ OwnP L w' w.heap.size pv ps ∧ Below w.heap.size w w' := by
  have SC := fun a w m X Y => show (store a (.complex .f64 X Y) m).run Try.prog w = stored Try.prog w a (.complex .f64 X Y) m from run_store _ w a _ m rfl
  have HT := hide (fun (w1 : World) (h1 : Below w.heap.size w w1) => rtoks_any A c L xs w1 (hr.up h1) hs.b hc hs.n hs.t)
  have HB0 := hide (fun o => ((Below.refl w.heap.size w).alloc (Nat.le_refl _) o))
  obtain ⟨m, t9, m2, p1, r1, f1, s1, s2, s3, s4⟩ := hs.s
  have hxs : xs.length ≤ 4000 := by have := (toks_rise L hs.b xs hs.t).count; have := hs.n; omega
  have HOF := hide (fun (w1 : World) (A' : Option Addr) (c' : Nat) (h1 : RdT L w1 w1.heap.size A' xs) (h2 : xs.length ≤ c') => of8m L A' c' (Fl.fl (Pl.pos L).1) (Fl.fl (Pl.pos L).2) xs ds p1 ps f1 m m2 r1 t9 w1 h1 h2 hxs s1 hs.z.k s2 s3 s4)
  clear hr hc hs s1 s2 s3 s4
  go_enter Try.func27, Try.ntmps27
  go_wp2_with fail
  refine (HT.out _ (HB0.out _)).mono ?_; rintro _ w2 ⟨v, rfl, ho, hb⟩
  obtain ⟨A', c', rfl, hxc, _, hrd⟩ := ho.rd
  have h2 : w2.heap[w.heap.size]? = some (.cells #[.slice none 0 0, .slice none 0 0] 60 (0, 0)) := (hb.block w.heap.size (by simp)).trans (heap_alloc_new w _)
  have HB2 := hide ((HB0.out (.cells #[.slice none 0 0, .slice none 0 0] 60)).trans (hb.mono (HB0.out _).size))
  have HO2 := hide (HOF.out w2 A' c' hrd hxc)
  clear ho hb HT HB0 HOF hrd hxc
  go_wp2_with fail
  refine HO2.out.mono ?_; rintro _ w3 ⟨dv, pv, rfl, hod, hop, hb3⟩
  have h3 := (hb3.block w.heap.size (Array.getElem?_eq_some_iff.1 h2).1).trans h2
  have c0 := cell_of_row w3 _ 0 _ _ _ h3
  have c1 := cell_of_row w3 _ 1 _ _ _ h3
  have f0 := frozen_of_row w3 _ 0 _ _ h3
  have f1 := frozen_of_row w3 _ 1 _ _ h3
  have HB3 := hide (HB2.out.trans (hb3.mono HB2.out.size))
  have HX := hide (other_of h3 (by decide))
  obtain ⟨DA, DC, rfl, _, _⟩ := hod.form
  obtain ⟨PA', PC, rfl, _, _⟩ := hop.form
  have HWD : Hid (OwnD L ((w3.setCell ⟨w.heap.size, 0, none⟩ (.slice DA ds.length DC)).setCell ⟨w.heap.size, 1, none⟩ (.slice PA' ps.length PC)) w.heap.size (.slice DA ds.length DC) ds) := hide (by
    obtain ⟨zs, hz⟩ := hod.own
    exact (hod.less HB2.out.size).grown (only_set (only_set (World.grownBy.refl _ _) _ _) _ _) ⟨HX.out, .inr (own_ne hz h3 (by decide))⟩)
  have HWP : Hid (OwnP L ((w3.setCell ⟨w.heap.size, 0, none⟩ (.slice DA ds.length DC)).setCell ⟨w.heap.size, 1, none⟩ (.slice PA' ps.length PC)) w.heap.size (.slice PA' ps.length PC) ps) := hide (by
    obtain ⟨zs, hz⟩ := hop.own
    exact (hop.less HB2.out.size).grown (only_set (only_set (World.grownBy.refl _ _) _ _) _ _) ⟨HX.out, .inr (own_ne hz h3 (by decide))⟩)
  clear hod hop hb3 HO2 h2 h3
  go_wp2
  refine bodyPost_ret (v := .tuple #[.agg #[.slice DA ds.length DC, .slice PA' ps.length PC], .complex .f64 0 0, .int .i64 0]) (by simp [results, Try.results27, go_sem, c0, c1]) rfl ?_
  exact ⟨_, _, rfl, HWD.out, HWP.out, below_far (below_far HB3.out _ (Nat.le_refl _)) _ (Nat.le_refl _)⟩
set_option maxHeartbeats 8000000 in
theorem gread9 (A : Option Addr) (c : Nat) (L : List Int) (xs : List Tok) (ds : List Y.Dcl) (ps : List Y.Prd) (G : Gm.Gr) (w : World) (hr : RdB w w.heap.size A L) (hc : L.length ≤ c) (hs : Sr9 L xs ds ps G) :
    Calls Try.prog 11 #[.slice A L.length c] w fun e w' => (∃ g, e = .returned (.tuple #[g, .complex .f64 0 0, .int .i64 0]) ∧ RdGr w' w'.heap.size g G ∧ Gm.Fit G) ∧ Below w.heap.size w w' := by
  have SC := fun a w m X Y => show (store a (.complex .f64 X Y) m).run Try.prog w = stored Try.prog w a (.complex .f64 X Y) m from run_store _ w a _ m rfl
  have hb1 : Below w.heap.size w (w.alloc (.cells grC 26)) := (Below.refl w.heap.size w).alloc (Nat.le_refl _) _
  have HP := hide (parse8 A c L xs ds ps G _ (hr.up hb1) hc hs)
  have HB1 := hide hb1
  have HG1 := hide (heap_alloc_new w (.cells grC 26))
  have HBA := hide (fun (x : World) (A1 A2 : Option Addr) (c1 c2 : Nat) (h1 : RdDl L x x.heap.size A1 ds) (h2 : RdPd L x x.heap.size A2 ps) => build9 L ds ps A1 A2 c1 c2 G x h1 h2 hs.z hs.g)
  unfold grC at HP HB1
  clear hr hc hs hb1
  go_enter Try.func11, Try.ntmps11
  go_wp2_with fail
  refine HP.out.mono ?_; rintro _ w2 ⟨dv, pv, rfl, hod, hop, hb2⟩
  obtain ⟨A1, c1, rfl, hrd⟩ := dl_of_own hod
  obtain ⟨A2, c2, rfl, hrp⟩ := pd_of_own hop
  have hgb := (hb2.block w.heap.size (by simp)).trans HG1.out
  have HGB := hide hgb
  have HB2 := hide (HB1.out.trans (hb2.mono HB1.out.size))
  have hgz := (Array.getElem?_eq_some_iff.1 hgb).1
  obtain ⟨w3, hw3⟩ : ∃ x, x = w2.alloc (.cells #[.slice A1 ds.length c1, .slice A2 ps.length c2] 60) := ⟨_, rfl⟩
  have HB3 : Hid (Below w.heap.size w w3) := hide (by rw [hw3]; exact HB2.out.alloc HB2.out.size _)
  have hb23 : Below w2.heap.size w2 w3 := by rw [hw3]; exact (Below.refl _ _).alloc (Nat.le_refl _) _
  have HG3 : Hid (w3.heap[w.heap.size]? = some (.cells grC 26 (0, 0))) := hide ((hb23.block _ hgz).trans hgb)
  have hs3 : w2.heap.size ≤ w3.heap.size := hb23.size
  have HC := hide (HBA.out w3 A1 A2 c1 c2 (fun hn => by
      obtain ⟨g, o, e, h1, h2⟩ := (hrd.keep hb23) hn
      refine ⟨g, o, e, by omega, fun i hi => ?_⟩
      obtain ⟨k1, A', c', k2, k3⟩ := h2 i hi
      exact ⟨k1, A', c', k2, fun hn => by obtain ⟨g, o, e, q1, q2⟩ := k3 hn; exact ⟨g, o, e, by omega, q2⟩⟩) (fun hn => by
      obtain ⟨g, o, e, h1, h2⟩ := (hrp.keep hb23) hn
      refine ⟨g, o, e, by omega, fun i hi => ?_⟩
      obtain ⟨k1, k2, ⟨A', c', k3, k4⟩, k5⟩ := h2 i hi
      exact ⟨k1, k2, ⟨A', c', k3, fun hn => by obtain ⟨g, o, e, q1, q2⟩ := k4 hn; exact ⟨g, o, e, by omega, q2⟩⟩, k5⟩))
  rw [hw3] at HC HB3 HG3
  clear hb2 hgb hod hop hrd hrp hw3 hb23 hs3 HBA
  go_wp2_with fail
  refine HC.out.mono ?_; rintro _ w4 ⟨⟨g, rfl, hgw, hfit⟩, hb4⟩
  have hgb := (hb4.block w.heap.size (by simp; omega)).trans HG3.out
  have g0 : w4.cell? ⟨w.heap.size, 0, none⟩ = some (.slice none 0 0) := cell_of_row w4 _ 0 _ _ _ hgb
  have g1 : w4.cell? ⟨w.heap.size, 1, none⟩ = some (.slice none 0 0) := cell_of_row w4 _ 1 _ _ _ hgb
  have g2 : w4.cell? ⟨w.heap.size, 2, none⟩ = some (.slice none 0 0) := cell_of_row w4 _ 2 _ _ _ hgb
  have g3 : w4.cell? ⟨w.heap.size, 3, none⟩ = some (.int .i64 0) := cell_of_row w4 _ 3 _ _ _ hgb
  have f0 := frozen_of_row w4 _ 0 _ _ hgb
  have f1 := frozen_of_row w4 _ 1 _ _ hgb
  have f2 := frozen_of_row w4 _ 2 _ _ hgb
  have f3 := frozen_of_row w4 _ 3 _ _ hgb
  have hgz4 := (Array.getElem?_eq_some_iff.1 hgb).1
  have HB4 := hide (HB3.out.trans (hb4.mono HB3.out.size))
  obtain ⟨B, N, R, cs, vT, vN, vR, rfl, h, hN⟩ := hgw
  obtain ⟨⟨AT, cT, rfl⟩, ⟨AN, cN, rfl⟩, ⟨AR, cR, rfl⟩⟩ := wraw_form h
  have HGR := hide (fun u0 u1 u2 u3 => (h.more hN).grown (only_set (only_set (only_set (only_set (World.grownBy.refl w4 (some w.heap.size)) 0 u0) 1 u1) 2 u2) 3 u3) (⟨fun g e => by injection e with e; subst e; exact ⟨_, _, hgb, by decide, by decide, by decide, .inl ⟨by decide, by decide⟩⟩⟩))
  have HFI := hide hfit
  clear hb4 hgb h hN hfit
  go_wp2
  refine bodyPost_ret (v := .tuple #[.agg #[.slice AT G.ts.length cT, .slice AN G.ns.length cN, .slice AR G.rs.length cR, .int .i64 G.st], .complex .f64 0 0, .int .i64 0]) (by simp [results, Try.results11, go_sem, g0, g1, g2, g3]) rfl ?_
  exact ⟨⟨_, rfl, (HGR.out _ _ _ _).rd (by simp) G.st, HFI.out⟩, below_far (below_far (below_far (below_far HB4.out _ (Nat.le_refl _)) _ (Nat.le_refl _)) _ (Nat.le_refl _)) _ (Nat.le_refl _)⟩
end Go.Proofs.Ythjohhcgegcmhaa

namespace Go.Proofs.Ythjohhcgegcmhaa
set_option maxRecDepth 100000
open Go.RowKit

def txB (s : List Int) : Bool := (s.all fun z => decide (0 ≤ z) && decide (z < 256)) && decide (s.length ≤ 100)
def refB (x : Tok) : Bool := txB x.t && Gm.named x.t && !(x.t == [101, 114, 114, 111, 114])
def dcB (d : Y.Dcl) : Bool := (d.k == 4 || d.k == 5) && (d.ns.all fun x => txB x.t && Gm.named x.t) && decide (d.ns.length ≤ 1000)
def pdB (p : Y.Prd) : Bool := txB p.l.t && T.isName p.l.t && (p.r.all refB) && (match p.p with | none => true | some x => refB x) && decide (p.r.length ≤ 1000)
def ezB (ds : List Y.Dcl) (ps : List Y.Prd) : Bool := ds.all dcB && ps.all pdB && decide (ds.length ≤ 1000) && decide (ps.length ≤ 1000) && decide (0 < ps.length)
theorem txB_ok {s : List Int} (h : txB s = true) : K.Tx s := by
  unfold txB at h
  rw [Bool.and_eq_true, decide_eq_true_eq] at h
  exact ⟨bytes_lit _ h.1, by omega⟩
theorem refB_ok {x : Tok} (h : refB x = true) : Ref9 x := by
  unfold refB at h
  simp only [Bool.and_eq_true] at h
  exact ⟨txB_ok h.1.1, h.1.2, by simpa using h.2⟩
theorem ezB_ok {ds : List Y.Dcl} {ps : List Y.Prd} (h : ezB ds ps = true) : Ez ds ps := by
  unfold ezB at h
  simp only [Bool.and_eq_true, decide_eq_true_eq, List.all_eq_true] at h
  obtain ⟨⟨⟨⟨h1, h2⟩, h3⟩, h4⟩, h5⟩ := h
  refine ⟨fun d hd => ?_, fun d hd => ?_, fun p hp => ?_, fun p hp => ?_, h3, h4, h5⟩
  · have := h1 d hd
    unfold dcB at this
    simp only [Bool.and_eq_true, Bool.or_eq_true, beq_iff_eq] at this
    exact this.1.1
  · have := h1 d hd
    unfold dcB at this
    simp only [Bool.and_eq_true, List.all_eq_true, decide_eq_true_eq] at this
    exact ⟨fun x hx => ⟨txB_ok (this.1.2 x hx).1, (this.1.2 x hx).2⟩, by omega⟩
  · have := h2 p hp
    unfold pdB at this
    simp only [Bool.and_eq_true] at this
    exact ⟨txB_ok this.1.1.1.1, this.1.1.1.2⟩
  · have := h2 p hp
    unfold pdB at this
    simp only [Bool.and_eq_true, List.all_eq_true, decide_eq_true_eq] at this
    refine ⟨fun x hx => refB_ok (this.1.1.2 x hx), fun x hx => ?_, this.2⟩
    have h6 := this.1.2
    rw [hx] at h6
    exact refB_ok h6
def gr9 (L : List Int) : Option Gm.Gr :=
  match toks L with
  | .ok xs => match Y.decls (xs.length + 1) [] xs with
    | .ok ds m => match Y.take [9] m with
      | .ok _ m2 => match Y.group [] m2 with
        | .ok p1 r1 => match Y.more (r1.length + 1) p1 r1 with
          | .ok ps [] => match ezB ds ps, Gm.build ds ps with
            | true, .ok G => some G
            | _, _ => none
          | _ => none
        | _ => none
      | _ => none
    | _ => none
  | _ => none
theorem gr9_ok {L : List Int} {G : Gm.Gr} (hb : (L.all fun z => decide (0 ≤ z) && decide (z < 256)) = true) (hn : L.length ≤ 2000) (h : gr9 L = some G) : ∃ xs ds ps, Sr9 L xs ds ps G := by
  unfold gr9 at h
  split at h
  · rename_i xs h1
    split at h
    · rename_i ds m h2
      split at h
      · rename_i t9 m2 h3
        split at h
        · rename_i p1 r1 h4
          split at h
          · rename_i ps h7
            split at h
            · rename_i h5 h6
              injection h with h
              subst h
              exact ⟨xs, ds, ps, bytes_lit _ hb, hn, h1, ⟨m, t9, m2, p1, r1, _, h2, h3, h4, h7⟩, ezB_ok h5, h6⟩
            · cases h
          · cases h
        · cases h
      · cases h
    · cases h
  · cases h
theorem gread_const (L : List Int) (G : Gm.Gr) (hb : (L.all fun z => decide (0 ≤ z) && decide (z < 256)) = true) (hl : L.length ≤ 2000) (hg : gr9 L = some G) (w : World) (n : Nat) (hw : n = w.heap.size) :
    Calls Try.prog 11 #[.slice (some ⟨n, 0, none⟩) L.length L.length] (w.alloc (cellsM L)) fun e w' => (∃ g, e = .returned (.tuple #[g, .complex .f64 0 0, .int .i64 0]) ∧ RdGr w' w'.heap.size g G ∧ Gm.Fit G) ∧ Below w.heap.size w w' := by
  subst hw
  obtain ⟨xs, ds, ps, hs⟩ := gr9_ok hb hl hg
  obtain ⟨r1, r2⟩ := litM w L
  exact (gread9 _ L.length L xs ds ps G _ r1 (Nat.le_refl _) hs).mono fun e w' h => ⟨h.1, r2.trans (h.2.mono r2.size)⟩
end Go.Proofs.Ythjohhcgegcmhaa

namespace Go.Proofs.Ythjohhcgegcmhaa
set_option maxRecDepth 100000
open Go.RowKit

def et12 : List Int := [37, 37, 32, 115, 32, 58, 32, 110, 32, 39, 97, 39, 32, 59, 32, 110, 32, 58, 32, 39, 98, 39, 32, 124, 32, 59]
def gt12 : Gm.Gr := ⟨[⟨[39, 97, 39], 0, 0⟩, ⟨[39, 98, 39], 0, 0⟩], [[115], [110]], [⟨0, [-2, 0], 0⟩, ⟨1, [1], 1⟩, ⟨1, [], -1⟩], 0⟩
theorem gre12 : gr9 et12 = some gt12 := by kernel_rfl
theorem right12 : Gm.right gt12 = true := by decide +kernel
theorem nul12 : Gm.gn false gt12.rs gt12.ns.length = [false, true] := by
  rw [← Gm.grow_gn (Gm.right_ok.1 right12).lin]; decide +kernel
theorem fst12 : Gm.fst gt12 = [3, 2] := by
  unfold Gm.fst
  rw [nul12]; decide +kernel
theorem flw12 : Gm.flw gt12 = [4, 1] := by
  unfold Gm.flw
  rw [nul12, fst12]; decide +kernel
theorem of12a : Gm.ofN (Gm.gn false gt12.rs gt12.ns.length) (Gm.fst gt12) 8 [-2] = 10 := by rw [nul12, fst12]; decide +kernel
theorem of12b : Gm.ofN (Gm.gn false gt12.rs gt12.ns.length) (Gm.fst gt12) 8 [-2, 0] = 3 := by rw [nul12, fst12]; decide +kernel
end Go.Proofs.Ythjohhcgegcmhaa

namespace Go.Proofs.Ythjohhcgegcmhaa
open Go.RowKit Go.ChangeShapes Go.WideShapes Go.ChangeAt

def RdU (w : World) (B : Nat) (A : Option Addr) (zs : List Int) : Prop :=
  zs.length ≠ 0 → ∃ g o, A = some ⟨g, o, none⟩ ∧ g < B ∧ ∀ j, j < zs.length → w.cell? ⟨g, o + j, none⟩ = some (.int .u32 (zs.getD j 0))

theorem RdU.nil (w : World) (B : Nat) (A : Option Addr) : RdU w B A [] := fun h => absurd rfl h
theorem RdU.keep {w w' : World} {B : Nat} {A : Option Addr} {zs : List Int} (h : RdU w B A zs) (hk : ∀ g o, g < B → w'.cell? ⟨g, o, none⟩ = w.cell? ⟨g, o, none⟩) : RdU w' B A zs := fun hn => by
  obtain ⟨g, o, e, hg, hc⟩ := h hn
  exact ⟨g, o, e, hg, fun j hj => (hk _ _ hg).trans (hc j hj)⟩
theorem RdU.more {w : World} {B B' : Nat} {A : Option Addr} {zs : List Int} (h : RdU w B A zs) (hB : B ≤ B') : RdU w B' A zs := fun hn => by
  obtain ⟨g, o, e, hg, hc⟩ := h hn
  exact ⟨g, o, e, by omega, hc⟩
theorem RdU.below {w w' : World} {B B' : Nat} {A : Option Addr} {zs : List Int} (h : RdU w B A zs) (hb : Below B' w w') (hB : B ≤ B') : RdU w' B A zs :=
  h.keep fun g o hg => hb.cell (p := ⟨g, o, none⟩) (Nat.lt_of_lt_of_le hg hB)
theorem RdU.drewN {w : World} {B : Nat} {A : Option Addr} {zs : List Int} (h : RdU w B A zs) (n : Nat) : RdU (w.drewN n) B A zs := h
theorem RdU.drew {w : World} {B : Nat} {A : Option Addr} {zs : List Int} (h : RdU w B A zs) : RdU w.drew B A zs := h
theorem RdU.alloc {w : World} {B : Nat} {A : Option Addr} {zs : List Int} (h : RdU w B A zs) (hB : B ≤ w.heap.size) (o : Obj) : RdU (w.alloc o) B A zs :=
  h.keep fun g i hg => World.cell?_alloc_lt w o ⟨g, i, none⟩ (Nat.lt_of_lt_of_le hg hB)
theorem RdU.take {w : World} {B : Nat} {A : Option Addr} {zs : List Int} (h : RdU w B A zs) (k : Nat) : RdU w B A (zs.take k) := fun hn => by
  have hl : (zs.take k).length ≤ zs.length := by rw [List.length_take]; omega
  obtain ⟨g, o, e, hg, hc⟩ := h (by omega)
  refine ⟨g, o, e, hg, fun j hj => ?_⟩
  rw [hc j (by omega), L.gd_lt hj, L.gd_lt (by omega : j < zs.length), List.getElem_take]
theorem RdU.cell {w : World} {B : Nat} {zs : List Int} {g o : Nat} (h : RdU w B (some ⟨g, o, none⟩) zs) (j : Nat) (hj : j < zs.length) : w.cell? ⟨g, o + j, none⟩ = some (.int .u32 (zs.getD j 0)) := by
  obtain ⟨g', o', e, _, hc⟩ := h (by omega)
  injection e with e; injection e with e1 e2
  subst e1 e2
  exact hc j hj

def UBU (w : World) (g : Nat) (ls : List Int) : Prop := w.heap[g]? = some (.cells (ls.map (Value.int .u32)).toArray 31 (0, 0))

theorem UBU.lt {w : World} {g : Nat} {ls : List Int} (h : UBU w g ls) : g < w.heap.size := by
  rcases Nat.lt_or_ge g w.heap.size with hlt | hge
  · exact hlt
  · unfold UBU at h; rw [Array.getElem?_eq_none hge] at h; cases h
theorem UBU.cell {w : World} {g : Nat} {ls : List Int} (h : UBU w g ls) (i : Nat) (hi : i < ls.length) : w.cell? ⟨g, i, none⟩ = some (.int .u32 (ls.getD i 0)) := by
  rw [cell_of_row w g i _ _ _ h]; simp [hi, List.getD]
theorem UBU.frozen {w : World} {g : Nat} {ls : List Int} (h : UBU w g ls) (i : Nat) : w.frozen? ⟨g, i, none⟩ = false := frozen_of_row w g i _ _ h
theorem UBU.new (w : World) (ls : List Int) : UBU (w.alloc (.cells (ls.map (Value.int .u32)).toArray 31)) w.heap.size ls := heap_alloc_new w _
theorem UBU.drewN {w : World} {g : Nat} {ls : List Int} (h : UBU w g ls) (n : Nat) : UBU (w.drewN n) g ls := h
theorem UBU.drew {w : World} {g : Nat} {ls : List Int} (h : UBU w g ls) : UBU w.drew g ls := h
theorem UBU.alloc {w : World} {g : Nat} {ls : List Int} (h : UBU w g ls) (o : Obj) : UBU (w.alloc o) g ls := (Below.heap_alloc w o g h.lt).trans h
theorem UBU.set_ {w : World} {g : Nat} {ls : List Int} (h : UBU w g ls) (i : Nat) (z : Int) : UBU (w.setCell ⟨g, i, none⟩ (.int .u32 z)) g (ls.set i z) := by
  unfold UBU at h ⊢
  rw [heap_setCell_same w g i _ _ _ h]
  congr 2
  apply Array.ext'
  simp [List.map_set]
theorem UBU.far {w : World} {g : Nat} {ls : List Int} (h : UBU w g ls) {p : Addr} (hp : g ≠ p.block) (u : Value) : UBU (w.setCell p u) g ls := (Below.heap_setCell w p u g hp).trans h
theorem UBU.below {w w' : World} {g B : Nat} {ls : List Int} (h : UBU w g ls) (hb : Below B w w') (hg : g < B) : UBU w' g ls := (hb.block g hg).trans h
theorem UBU.rd {w : World} {g : Nat} {ls : List Int} (h : UBU w g ls) (o n : Nat) (hn : o + n ≤ ls.length) {B : Nat} (hB : g < B) : RdU w B (some ⟨g, o, none⟩) ((ls.drop o).take n) := fun _ => by
  refine ⟨g, o, rfl, hB, fun j hj => ?_⟩
  have hj' : j < n := by rw [List.length_take] at hj; omega
  rw [h.cell (o + j) (by omega), L.gd_lt hj, L.gd_lt (by omega : o + j < ls.length), List.getElem_take, List.getElem_drop]
theorem UBU.rd0 {w : World} {g : Nat} {ls : List Int} (h : UBU w g ls) {B : Nat} (hB : g < B) : RdU w B (some ⟨g, 0, none⟩) ls := by
  have := h.rd 0 ls.length (by omega) hB; simpa using this

theorem infoU : (Try.prog.info? 31).map (fun i => (i.zero, i.size, i.bytes)) = some (some (.int .u32 0), 1, 4) := by kernel_rfl
theorem map_replicateU (n : Nat) : (List.replicate n (0 : Int)).map (Value.int .u32) = List.replicate n (.int .u32 0) := by simp

def cellsU (ls : List Int) : Obj := .cells (ls.map (Value.int .u32)).toArray 31
theorem litU1 (w : World) (b : List Int) : RdU (w.alloc (cellsU b)) (w.alloc (cellsU b)).heap.size (some ⟨w.heap.size, 0, none⟩) b ∧ Below w.heap.size w (w.alloc (cellsU b)) :=
  ⟨(UBU.new w b).rd0 (by simp), (Below.refl _ _).alloc (Nat.le_refl _) _⟩

theorem ubU_of_full {w : World} {base g n : Nat} {ls : List Int} (h : w.ownsRow base 31 1 (.slice (some ⟨g, 0, none⟩) n n) n (ls.map (Value.int .u32))) : UBU w g ls := by
  rcases h.2 with ⟨he, _⟩ | ⟨g', cap, cur, he, hb, hg, hn, hm, hs, ht⟩
  · cases he
  · injection he with e1 e2 e3
    injection e1 with e1
    injection e1 with e1
    subst e1 e3
    unfold UBU
    rw [hg, ← ht, List.take_of_length_le (by simp [hs])]

theorem mkU_arm {w : World} {ops : Array Oper} {rest : List Oper} {o : Oper} {a : Act} {Q : Exit → Act → World → Prop}
    (hg : o.guard = none) (l c : Operand) (t : TypeId) (hop : o.op = Op.makeSlice t l c) (ht : Try.prog.underlying t = some (.slice 31)) (n : Nat) (L C : Int) (hl : a.eval l = .int .i64 L) (hc : a.eval c = .int .i64 C) (hL : L = (n : Int)) (hC : C = (n : Int)) (hn : n ≤ 35184372088832)
    (hK : ∀ w', UBU w' w.heap.size (List.replicate n 0) → Below w.heap.size w w' → w.heap.size < w'.heap.size → wpList Try.prog ops Q rest (a.put o.dst (.slice (some ⟨w.heap.size, 0, none⟩) n n)) w') :
    wpList Try.prog ops Q (o :: rest) a w := by
  obtain ⟨i, hi, hz0, hz1, hz2⟩ := info_parts infoU
  refine wpList_make_full w hg l c t hop w.heap.size 31 i (.int .u32 0) 1 ht hi hz0 hz1 .i64 .i64 L C n hl hc hL hC (by rw [hz2]; omega) (by unfold maxLen; omega) (Nat.le_refl _) fun w' hown hgr => ?_
  have hub : UBU w' w.heap.size (List.replicate n 0) := by
    refine ubU_of_full (base := w.heap.size) (n := n) ?_
    rw [map_replicateU]
    have e : (madeCells (Value.int IntKind.u32 0).cells (n * 1)).toList = List.replicate n (Value.int .u32 0) := by
      rw [Nat.mul_one]; exact toList_madeCells_one _ _
    rw [e] at hown; exact hown
  exact hK w' hub ⟨hgr.os, hgr.tape, hgr.output, hgr.size, fun k hk => hgr.block k hk (by simp)⟩ hub.lt

end Go.Proofs.Ythjohhcgegcmhaa

namespace Go.Proofs.Ythjohhcgegcmhaa
set_option maxRecDepth 100000
open Go.RowKit

namespace S
def bit (n : Int) : Nat := if 0 ≤ n ∧ n ≤ 31 then 2 ^ n.toNat else 0
def of (l : List Int) : Nat := l.foldl (fun s n => s ||| bit n) 0
theorem bit_lt (n : Int) : bit n < 4294967296 := by
  unfold bit; split
  · have : 2 ^ n.toNat ≤ 2 ^ 31 := Nat.pow_le_pow_right (by decide) (by omega)
    omega
  · omega
theorem bit_nat {k : Nat} (h : k ≤ 31) : bit k = 2 ^ k := by unfold bit; rw [if_pos (by omega)]; simp
theorem bit_neg {n : Int} (h : n < 0) : bit n = 0 := by unfold bit; rw [if_neg (by omega)]
theorem bit_big {n : Int} (h : 31 < n) : bit n = 0 := by unfold bit; rw [if_neg (by omega)]
theorem or_lt {a b : Nat} (ha : a < 4294967296) (hb : b < 4294967296) : a ||| b < 4294967296 := by
  have := Nat.or_lt_two_pow (n := 32) (x := a) (y := b) (by omega) (by omega); omega
theorem of_snoc (l : List Int) (n : Int) : of (l ++ [n]) = of l ||| bit n := by unfold of; rw [List.foldl_append]; rfl
theorem of_lt (l : List Int) : of l < 4294967296 := by
  unfold of
  suffices ∀ (l : List Int) (a : Nat), a < 4294967296 → l.foldl (fun s n => s ||| bit n) a < 4294967296 from this l 0 (by omega)
  intro l
  induction l with
  | nil => intro a h; exact h
  | cons n r ih => intro a h; exact ih _ (or_lt h (bit_lt n))
theorem of_one (n : Int) : of [n] = bit n := by unfold of; simp
end S
theorem pow_bit (n : Int) (h : 0 ≤ n) : (2 : Int) ^ (min n.toNat 32) % 4294967296 = (S.bit n : Int) := by
  by_cases hb : n ≤ 31
  · obtain ⟨k, rfl⟩ := Int.eq_ofNat_of_zero_le h
    rw [S.bit_nat (by omega), show min (k : Int).toNat 32 = k by omega]
    have hp : 2 ^ k ≤ 2 ^ 31 := Nat.pow_le_pow_right (by decide) (by omega)
    have e : (2 : Int) ^ k = ((2 ^ k : Nat) : Int) := by simp
    rw [e]
    generalize 2 ^ k = a at *
    omega
  · rw [S.bit_big (by omega), show min n.toNat 32 = 32 by omega]; decide
theorem sonly_any (n : Int) (w : World) :
    Calls Try.prog 63 #[.int .i64 n] w fun e w' => e = .returned (.int .u32 (S.bit n)) ∧ w' = w := by
  go_enter Try.func63, Try.ntmps63
  by_cases h : n < 0
  · have e := hide (S.bit_neg h)
    go_wp2
    go_ret
    rw [e.out]; exact ⟨rfl, rfl⟩
  · have h' : 0 ≤ n := by omega
    have e := hide (pow_bit n h')
    go_wp2
    go_ret
    exact ⟨ret_int e.out, rfl⟩

theorem sof_any (A : Option Addr) (c B : Nat) (l : List Int) (w : World) (hr : RdI w B A l) (hn : l.length ≤ 9223372036854775807) :
    Calls Try.prog 40 #[.slice A l.length c] w fun e w' => e = .returned (.int .u32 (S.of l)) ∧ ∃ n, w' = w.drewN n := by
  go_enter Try.func40, Try.ntmps40
  go_wp2
  go_loopw [8, 3] (fun vi vs wr => ∃ (k : Nat) (n : Nat), k ≤ l.length ∧ vi = .int .i64 k ∧ vs = .int .u32 (S.of (l.take k)) ∧ wr = w.drewN n) (fun vi _ _ => l.length - (intOf vi).toNat)
  case atStart => exact ⟨0, 0, by omega, rfl, rfl, rfl⟩
  case round =>
    obtain ⟨k, n, hk, rfl, rfl, rfl⟩ := hrel
    by_cases hlt : k < l.length
    · obtain ⟨g, o, rfl, _, hc⟩ := hr (by omega)
      have hcell := hc k hlt
      have hst := hide (show S.of (l.take k) ||| S.bit (l.getD k 0) = S.of (l.take (k + 1)) by rw [L.take_snoc l k hlt, S.of_snoc])
      have e := hide (u32_or_nat (S.of (l.take k)) (S.bit (l.getD k 0)) (S.of_lt _) (S.bit_lt _))
      generalize l.getD k 0 = z at *
      clear hc
      go_wp2_with fail
      refine (sonly_any _ _).mono ?_; rintro _ _ ⟨rfl, rfl⟩
      go_wp2_with (rw [e.out, hst.out])
      go_roundw
      case rel => exact ⟨k + 1, _, by omega, by go_num, rfl, rfl⟩
      case measure => simp [intOf]; omega
    · obtain rfl : k = l.length := by omega
      rw [List.take_length]
      go_wp2
      go_ret
      exact ⟨rfl, _, rfl⟩
theorem sets_any (A A' : Option Addr) (ca cb : Nat) (xs ys : List Int) (w : World) (hra : RdU w w.heap.size A xs) (hrb : RdU w w.heap.size A' ys) (hxl : xs.length ≤ 9223372036854775807) (hyl : ys.length ≤ 9223372036854775807) :
    Calls Try.prog 10 #[.slice A xs.length ca, .slice A' ys.length cb] w fun e w' => e = .returned (.bool (decide (xs = ys))) ∧ ∃ n, w' = w.drewN n := by
  by_cases hl : xs.length = ys.length
  · have HL := hide hl
    rw [← hl]
    have hne : ((xs.length : Int) != (xs.length : Int)) = false := by simp
    clear hl hyl
    go_enter Try.func10, Try.ntmps10
    go_wp2
    go_loopw [5] (fun vi wr => ∃ (k q : Nat), k ≤ xs.length ∧ vi = .int .i64 k ∧ xs.take k = ys.take k ∧ wr = w.drewN q) (fun vi _ => xs.length - (intOf vi).toNat)
    case atStart => exact ⟨0, 0, Nat.zero_le _, rfl, rfl, rfl⟩
    case round =>
      obtain ⟨k, q, hk, rfl, ht, hwr⟩ := hrel
      have HT := hide ht
      have HW := hide hwr
      by_cases hlt : k < xs.length
      · obtain ⟨ga, oa, rfl, _, ha⟩ := hra (by omega)
        obtain ⟨gb, ob, rfl, _, hb⟩ := hrb (by have := HL.out; omega)
        have ca' : wr.cell? ⟨ga, oa + k, none⟩ = some (.int .u32 (xs.getD k 0)) := by rw [hwr]; exact ha k hlt
        have cb' : wr.cell? ⟨gb, ob + k, none⟩ = some (.int .u32 (ys.getD k 0)) := by rw [hwr]; exact hb k (by have := HL.out; omega)
        have k0 : (0 : Int) ≤ (k : Int) := by omega
        have k1 : (k : Int) < (xs.length : Int) := by omega
        clear ha hb ht hwr hra hrb
        by_cases hxy : xs.getD k 0 = ys.getD k 0
        · have HN : Hid (xs.take (k + 1) = ys.take (k + 1)) := by
            show xs.take (k + 1) = ys.take (k + 1)
            rw [L.take_snoc xs k hlt, L.take_snoc ys k (by have := HL.out; omega), HT.out, hxy]
          rw [← hxy] at cb'
          generalize xs.getD k 0 = x at *
          have hx' : (x != x) = false := by simp
          clear hxy
          go_wp2_with fail
          go_quiet (fail)
          go_wp2
          go_roundw
          case rel => exact ⟨k + 1, _, hlt, by go_num, HN.out, by rw [HW.out]; exact World.drewN_drewN _ _ _⟩
          case measure => simp [intOf]; omega
        · have HN : Hid (decide (xs = ys) = false) := by
            show decide (xs = ys) = false
            rw [decide_eq_false_iff_not]; rintro rfl; exact hxy rfl
          generalize xs.getD k 0 = x at *
          generalize ys.getD k 0 = y at *
          have hx' : (x != y) = true := by simpa using hxy
          clear hxy
          go_wp2_with fail
          go_quiet (fail)
          go_wp2
          go_ret
          exact ⟨ret_bool HN.out.symm, _, by rw [HW.out, World.drewN_drewN]⟩
      · obtain rfl : k = xs.length := by omega
        have HE : Hid (decide (xs = ys) = true) := by
          show decide (xs = ys) = true
          rw [decide_eq_true_iff]
          have h := HT.out
          rwa [List.take_length, HL.out, List.take_length] at h
        clear ht
        subst hwr
        go_wp2
        go_ret
        exact ⟨ret_bool HE.out.symm, _, rfl⟩
  · have HE : Hid (decide (xs = ys) = false) := by
      show decide (xs = ys) = false
      rw [decide_eq_false_iff_not]; rintro rfl; exact hl rfl
    have hne : ((xs.length : Int) != (ys.length : Int)) = true := by simp; omega
    go_enter Try.func10, Try.ntmps10
    go_wp2
    go_ret
    exact ⟨ret_bool HE.out.symm, 0, rfl⟩

end Go.Proofs.Ythjohhcgegcmhaa

namespace Go.Proofs.Ythjohhcgegcmhaa
set_option maxRecDepth 100000
open Go.RowKit

def zi (s : List Nat) : List Int := s.map Int.ofNat
theorem zi_len (s : List Nat) : (zi s).length = s.length := by simp [zi]
theorem zi_get (s : List Nat) (i : Nat) : (zi s).getD i 0 = ((s.getD i 0 : Nat) : Int) := by
  unfold zi
  rw [List.getD_eq_getElem?_getD, List.getD_eq_getElem?_getD, List.getElem?_map]
  cases s[i]? <;> rfl
theorem zi_set (s : List Nat) (i v : Nat) : (zi s).set i (v : Int) = zi (s.set i v) := by unfold zi; rw [List.map_set]; rfl
theorem zi_rep (n : Nat) : zi (List.replicate n 0) = List.replicate n 0 := by simp [zi]
def RdZ (w : World) (B : Nat) (A : Option Addr) (s : List Nat) : Prop := RdU w B A (zi s)
def UBZ (w : World) (g : Nat) (s : List Nat) : Prop := UBU w g (zi s)
theorem UBZ.lt {w : World} {g : Nat} {s : List Nat} (h : UBZ w g s) : g < w.heap.size := UBU.lt h
theorem UBZ.cell {w : World} {g : Nat} {s : List Nat} (h : UBZ w g s) (i : Nat) (hi : i < s.length) : w.cell? ⟨g, i, none⟩ = some (.int .u32 ((s.getD i 0 : Nat) : Int)) := by
  have := UBU.cell h i (by rw [zi_len]; exact hi)
  rwa [zi_get] at this
theorem UBZ.frozen {w : World} {g : Nat} {s : List Nat} (h : UBZ w g s) (i : Nat) : w.frozen? ⟨g, i, none⟩ = false := UBU.frozen h i
theorem UBZ.set_ {w : World} {g : Nat} {s : List Nat} (h : UBZ w g s) (i v : Nat) : UBZ (w.setCell ⟨g, i, none⟩ (.int .u32 (v : Int))) g (s.set i v) := by
  have := UBU.set_ h i (v : Int)
  rwa [zi_set] at this
theorem UBZ.alloc {w : World} {g : Nat} {s : List Nat} (h : UBZ w g s) (o : Obj) : UBZ (w.alloc o) g s := UBU.alloc h o
theorem UBZ.below {w w' : World} {g B : Nat} {s : List Nat} (h : UBZ w g s) (hb : Below B w w') (hg : g < B) : UBZ w' g s := UBU.below h hb hg
theorem UBZ.far {w : World} {g : Nat} {s : List Nat} (h : UBZ w g s) {p : Addr} (hp : g ≠ p.block) (u : Value) : UBZ (w.setCell p u) g s := UBU.far h hp u
theorem UBZ.drewN {w : World} {g : Nat} {s : List Nat} (h : UBZ w g s) (n : Nat) : UBZ (w.drewN n) g s := h
theorem UBZ.rd {w : World} {g : Nat} {s : List Nat} (h : UBZ w g s) {B : Nat} (hB : g < B) : RdZ w B (some ⟨g, 0, none⟩) s := UBU.rd0 h hB
theorem RdZ.cell {w : World} {B g o : Nat} {s : List Nat} (h : RdZ w B (some ⟨g, o, none⟩) s) (i : Nat) (hi : i < s.length) : w.cell? ⟨g, o + i, none⟩ = some (.int .u32 ((s.getD i 0 : Nat) : Int)) := by
  have := RdU.cell h i (by rw [zi_len]; exact hi)
  rwa [zi_get] at this
theorem RdZ.addr {w : World} {B : Nat} {A : Option Addr} {s : List Nat} (h : RdZ w B A s) (h0 : s.length ≠ 0) : ∃ g o, A = some ⟨g, o, none⟩ ∧ g < B ∧ ∀ i, i < s.length → w.cell? ⟨g, o + i, none⟩ = some (.int .u32 ((s.getD i 0 : Nat) : Int)) := by
  obtain ⟨g, o, e, hg, hc⟩ := h (by rw [zi_len]; exact h0)
  refine ⟨g, o, e, hg, fun i hi => ?_⟩
  have := hc i (by rw [zi_len]; exact hi)
  rwa [zi_get] at this
theorem RdZ.keep {w w' : World} {B : Nat} {A : Option Addr} {s : List Nat} (h : RdZ w B A s) (hk : ∀ g o, g < B → w'.cell? ⟨g, o, none⟩ = w.cell? ⟨g, o, none⟩) : RdZ w' B A s := RdU.keep h hk
theorem RdZ.below {w w' : World} {B B' : Nat} {A : Option Addr} {s : List Nat} (h : RdZ w B A s) (hb : Below B' w w') (hB : B ≤ B') : RdZ w' B A s := RdU.below h hb hB
theorem RdZ.more {w : World} {B B' : Nat} {A : Option Addr} {s : List Nat} (h : RdZ w B A s) (hB : B ≤ B') : RdZ w B' A s := RdU.more h hB
def cntN (w : World) (g : Nat) : Nat := match w.heap[g]? with
  | some (.cells cs _ _) => (cs.toList.map fun v => match v with | .int _ z => 4294967296 - z.toNat | _ => 0).sum
  | _ => 0
theorem UBZ.cnt {w : World} {g : Nat} {s : List Nat} (h : UBZ w g s) : cntN w g = Gm.gap s := by
  unfold cntN Gm.gap
  rw [show w.heap[g]? = _ from h]
  clear h
  simp only [zi, List.map_map]
  congr 1
def RowZn (s : List Nat) (w : World) (e : Ending) (w' : World) : Prop := ∃ g, e = .returned (.slice (some ⟨g, 0, none⟩) s.length s.length) ∧ w.heap.size ≤ g ∧ UBZ w' g s ∧ Below w.heap.size w w'
def RowZm (b : Bool) (s : List Nat) (w : World) (e : Ending) (w' : World) : Prop := (b = true → RowZn s w e w') ∧ (b = false → e = .returned (.slice none 0 0) ∧ Below w.heap.size w w')
def RowZs (s : List Nat) (w : World) (e : Ending) (w' : World) : Prop := ∃ A c, e = .returned (.slice A s.length c) ∧ RdZ w' w'.heap.size A s ∧ Below w.heap.size w w'
theorem RowZm.rd {b : Bool} {s : List Nat} {w w' : World} {e : Ending} (h : RowZm b s w e w') : RowZs (if b = true then s else []) w e w' := by
  cases b
  · obtain ⟨h1, h2⟩ := h.2 rfl
    exact ⟨none, 0, h1, RdU.nil _ _ _, h2⟩
  · obtain ⟨g, h1, h2, h3, h4⟩ := h.1 rfl
    exact ⟨some ⟨g, 0, none⟩, s.length, h1, h3.rd h3.lt, h4⟩
theorem RowZn.rd {s : List Nat} {w w' : World} {e : Ending} (h : RowZn s w e w') : RowZs s w e w' := by
  obtain ⟨g, h1, h2, h3, h4⟩ := h
  exact ⟨some ⟨g, 0, none⟩, s.length, h1, h3.rd h3.lt, h4⟩
end Go.Proofs.Ythjohhcgegcmhaa

namespace Go.Proofs.Ythjohhcgegcmhaa
open Go.RowKit Go.ChangeShapes Go.WideShapes Go.ChangeAt

theorem LB.gd_lt {l : List Bool} {k : Nat} (h : k < l.length) : l.getD k false = l[k] := by simp [List.getD, h]
def RdO (w : World) (B : Nat) (A : Option Addr) (zs : List Bool) : Prop :=
  zs.length ≠ 0 → ∃ g o, A = some ⟨g, o, none⟩ ∧ g < B ∧ ∀ j, j < zs.length → w.cell? ⟨g, o + j, none⟩ = some (.bool (zs.getD j false))

theorem RdO.nil (w : World) (B : Nat) (A : Option Addr) : RdO w B A [] := fun h => absurd rfl h
theorem RdO.keep {w w' : World} {B : Nat} {A : Option Addr} {zs : List Bool} (h : RdO w B A zs) (hk : ∀ g o, g < B → w'.cell? ⟨g, o, none⟩ = w.cell? ⟨g, o, none⟩) : RdO w' B A zs := fun hn => by
  obtain ⟨g, o, e, hg, hc⟩ := h hn
  exact ⟨g, o, e, hg, fun j hj => (hk _ _ hg).trans (hc j hj)⟩
theorem RdO.more {w : World} {B B' : Nat} {A : Option Addr} {zs : List Bool} (h : RdO w B A zs) (hB : B ≤ B') : RdO w B' A zs := fun hn => by
  obtain ⟨g, o, e, hg, hc⟩ := h hn
  exact ⟨g, o, e, by omega, hc⟩
theorem RdO.below {w w' : World} {B B' : Nat} {A : Option Addr} {zs : List Bool} (h : RdO w B A zs) (hb : Below B' w w') (hB : B ≤ B') : RdO w' B A zs :=
  h.keep fun g o hg => hb.cell (p := ⟨g, o, none⟩) (Nat.lt_of_lt_of_le hg hB)
theorem RdO.drewN {w : World} {B : Nat} {A : Option Addr} {zs : List Bool} (h : RdO w B A zs) (n : Nat) : RdO (w.drewN n) B A zs := h
theorem RdO.drew {w : World} {B : Nat} {A : Option Addr} {zs : List Bool} (h : RdO w B A zs) : RdO w.drew B A zs := h
theorem RdO.alloc {w : World} {B : Nat} {A : Option Addr} {zs : List Bool} (h : RdO w B A zs) (hB : B ≤ w.heap.size) (o : Obj) : RdO (w.alloc o) B A zs :=
  h.keep fun g i hg => World.cell?_alloc_lt w o ⟨g, i, none⟩ (Nat.lt_of_lt_of_le hg hB)
theorem RdO.take {w : World} {B : Nat} {A : Option Addr} {zs : List Bool} (h : RdO w B A zs) (k : Nat) : RdO w B A (zs.take k) := fun hn => by
  have hl : (zs.take k).length ≤ zs.length := by rw [List.length_take]; omega
  obtain ⟨g, o, e, hg, hc⟩ := h (by omega)
  refine ⟨g, o, e, hg, fun j hj => ?_⟩
  rw [hc j (by omega), LB.gd_lt hj, LB.gd_lt (by omega : j < zs.length), List.getElem_take]
theorem RdO.cell {w : World} {B : Nat} {zs : List Bool} {g o : Nat} (h : RdO w B (some ⟨g, o, none⟩) zs) (j : Nat) (hj : j < zs.length) : w.cell? ⟨g, o + j, none⟩ = some (.bool (zs.getD j false)) := by
  obtain ⟨g', o', e, _, hc⟩ := h (by omega)
  injection e with e; injection e with e1 e2
  subst e1 e2
  exact hc j hj

def UBO (w : World) (g : Nat) (ls : List Bool) : Prop := w.heap[g]? = some (.cells (ls.map Value.bool).toArray 4 (0, 0))

theorem UBO.lt {w : World} {g : Nat} {ls : List Bool} (h : UBO w g ls) : g < w.heap.size := by
  rcases Nat.lt_or_ge g w.heap.size with hlt | hge
  · exact hlt
  · unfold UBO at h; rw [Array.getElem?_eq_none hge] at h; cases h
theorem UBO.cell {w : World} {g : Nat} {ls : List Bool} (h : UBO w g ls) (i : Nat) (hi : i < ls.length) : w.cell? ⟨g, i, none⟩ = some (.bool (ls.getD i false)) := by
  rw [cell_of_row w g i _ _ _ h]; simp [hi, List.getD]
theorem UBO.frozen {w : World} {g : Nat} {ls : List Bool} (h : UBO w g ls) (i : Nat) : w.frozen? ⟨g, i, none⟩ = false := frozen_of_row w g i _ _ h
theorem UBO.drewN {w : World} {g : Nat} {ls : List Bool} (h : UBO w g ls) (n : Nat) : UBO (w.drewN n) g ls := h
theorem UBO.drew {w : World} {g : Nat} {ls : List Bool} (h : UBO w g ls) : UBO w.drew g ls := h
theorem UBO.alloc {w : World} {g : Nat} {ls : List Bool} (h : UBO w g ls) (o : Obj) : UBO (w.alloc o) g ls := (Below.heap_alloc w o g h.lt).trans h
theorem UBO.set_ {w : World} {g : Nat} {ls : List Bool} (h : UBO w g ls) (i : Nat) (z : Bool) : UBO (w.setCell ⟨g, i, none⟩ (.bool z)) g (ls.set i z) := by
  unfold UBO at h ⊢
  rw [heap_setCell_same w g i _ _ _ h]
  congr 2
  apply Array.ext'
  simp [List.map_set]
theorem UBO.far {w : World} {g : Nat} {ls : List Bool} (h : UBO w g ls) {p : Addr} (hp : g ≠ p.block) (u : Value) : UBO (w.setCell p u) g ls := (Below.heap_setCell w p u g hp).trans h
theorem UBO.below {w w' : World} {g B : Nat} {ls : List Bool} (h : UBO w g ls) (hb : Below B w w') (hg : g < B) : UBO w' g ls := (hb.block g hg).trans h
theorem UBO.rd {w : World} {g : Nat} {ls : List Bool} (h : UBO w g ls) (o n : Nat) (hn : o + n ≤ ls.length) {B : Nat} (hB : g < B) : RdO w B (some ⟨g, o, none⟩) ((ls.drop o).take n) := fun _ => by
  refine ⟨g, o, rfl, hB, fun j hj => ?_⟩
  have hj' : j < n := by rw [List.length_take] at hj; omega
  rw [h.cell (o + j) (by omega), LB.gd_lt hj, LB.gd_lt (by omega : o + j < ls.length), List.getElem_take, List.getElem_drop]
theorem UBO.rd0 {w : World} {g : Nat} {ls : List Bool} (h : UBO w g ls) {B : Nat} (hB : g < B) : RdO w B (some ⟨g, 0, none⟩) ls := by
  have := h.rd 0 ls.length (by omega) hB; simpa using this

theorem infoO : (Try.prog.info? 4).map (fun i => (i.zero, i.size, i.bytes)) = some (some (.bool false), 1, 1) := by kernel_rfl
theorem map_replicateO (n : Nat) : (List.replicate n false).map Value.bool = List.replicate n (.bool false) := by simp

theorem ubO_of_full {w : World} {base g n : Nat} {ls : List Bool} (h : w.ownsRow base 4 1 (.slice (some ⟨g, 0, none⟩) n n) n (ls.map Value.bool)) : UBO w g ls := by
  rcases h.2 with ⟨he, _⟩ | ⟨g', cap, cur, he, hb, hg, hn, hm, hs, ht⟩
  · cases he
  · injection he with e1 e2 e3
    injection e1 with e1
    injection e1 with e1
    subst e1 e3
    unfold UBO
    rw [hg, ← ht, List.take_of_length_le (by simp [hs])]

theorem mkO_arm {w : World} {ops : Array Oper} {rest : List Oper} {o : Oper} {a : Act} {Q : Exit → Act → World → Prop}
    (hg : o.guard = none) (l c : Operand) (t : TypeId) (hop : o.op = Op.makeSlice t l c) (ht : Try.prog.underlying t = some (.slice 4)) (n : Nat) (L C : Int) (hl : a.eval l = .int .i64 L) (hc : a.eval c = .int .i64 C) (hL : L = (n : Int)) (hC : C = (n : Int)) (hn : n ≤ 35184372088832)
    (hK : ∀ w', UBO w' w.heap.size (List.replicate n false) → Below w.heap.size w w' → w.heap.size < w'.heap.size → wpList Try.prog ops Q rest (a.put o.dst (.slice (some ⟨w.heap.size, 0, none⟩) n n)) w') :
    wpList Try.prog ops Q (o :: rest) a w := by
  obtain ⟨i, hi, hz0, hz1, hz2⟩ := info_parts infoO
  refine wpList_make_full w hg l c t hop w.heap.size 4 i (.bool false) 1 ht hi hz0 hz1 .i64 .i64 L C n hl hc hL hC (by rw [hz2]; omega) (by unfold maxLen; omega) (Nat.le_refl _) fun w' hown hgr => ?_
  have hub : UBO w' w.heap.size (List.replicate n false) := by
    refine ubO_of_full (base := w.heap.size) (n := n) ?_
    rw [map_replicateO]
    have e : (madeCells (Value.bool false).cells (n * 1)).toList = List.replicate n (Value.bool false) := by
      rw [Nat.mul_one]; exact toList_madeCells_one _ _
    rw [e] at hown; exact hown
  exact hK w' hub ⟨hgr.os, hgr.tape, hgr.output, hgr.size, fun k hk => hgr.block k hk (by simp)⟩ hub.lt

end Go.Proofs.Ythjohhcgegcmhaa

namespace Go.Proofs.Ythjohhcgegcmhaa
set_option maxRecDepth 100000
open Go.RowKit

theorem fIsNon_any (z : Int) (w : World) :
    Calls Try.prog 21 #[.int .i64 z] w fun e w' => e = .returned (.bool (decide (z < 0))) ∧ w' = w := by
  go_enter Try.func21, Try.ntmps21
  go_wp2
  go_ret
  exact ⟨rfl, rfl⟩
theorem fNon_any (z : Int) (hz : -9223372036854775808 ≤ z) (hz' : z ≤ 9223372036854775807) (w : World) :
    Calls Try.prog 22 #[.int .i64 z] w fun e w' => e = .returned (.int .i64 (-1 - z)) ∧ w' = w := by
  have hs : IntKind.i64.wrap (-1 - z) = -1 - z := IntWalk.i64_in _ (by omega)
  clear hz hz'
  go_enter Try.func22, Try.ntmps22
  go_wp2
  go_ret
  exact ⟨rfl, rfl⟩
theorem fOnly_any (n : Int) (w : World) :
    Calls Try.prog 17 #[.int .i64 n] w fun e w' => e = .returned (.int .u32 (S.bit n)) ∧ Below w.heap.size w w' := by
  have H := hide (show Calls Try.prog 40 #[.slice (some ⟨w.heap.size, 0, none⟩) 1 1] (w.alloc (.cells #[.int .i64 n] 3)) _ from sof_any (some ⟨w.heap.size, 0, none⟩) 1 (w.alloc (cellsI [n])).heap.size [n] (w.alloc (cellsI [n])) (litI1 w [n]).1 (by simp))
  have HB := hide (litI1 w [n]).2
  rw [S.of_one] at H
  go_enter Try.func17, Try.ntmps17
  go_wp2_with fail
  refine H.out.mono ?_; rintro _ w2 ⟨rfl, q, rfl⟩
  go_wp2
  go_ret
  exact ⟨rfl, below_drewN HB.out q⟩
theorem fEnd_any (v : Value) (G : Gm.Gr) (B : Nat) (w : World) (hg : RdGr w B v G) :
    Calls Try.prog 18 #[v] w fun e w' => e = .returned (.int .i64 G.ts.length) ∧ Below w.heap.size w w' := by
  have HB := hide (fun o => (Below.refl w.heap.size w).alloc (Nat.le_refl _) o)
  obtain ⟨AT, cT, AN, cN, AR, cR, rfl, _⟩ := hg
  go_enter Try.func18, Try.ntmps18
  go_wp2
  go_ret
  exact ⟨rfl, HB.out _⟩

def Gm.bgN (fs : List Nat) (z : Int) : Nat := if 0 ≤ z then 2 ^ z.toNat else fs.getD (-1 - z).toNat 0
def Gm.mbN (nu : List Bool) (z : Int) : Bool := decide (z < 0) && nu.getD (-1 - z).toNat false
theorem Gm.ofN_cons (nu : List Bool) (fs : List Nat) (rest : Nat) (z : Int) (r : List Int) : Gm.ofN nu fs rest (z :: r) = Gm.bgN fs z ||| (if Gm.mbN nu z = true then Gm.ofN nu fs rest r else 0) := by
  rw [Gm.ofN]
  unfold Gm.bgN Gm.mbN
  by_cases h : 0 ≤ z
  · rw [if_pos h, if_pos h, decide_eq_false (by omega)]; simp
  · rw [if_neg h, if_neg h, decide_eq_true (by omega)]; simp
theorem Gm.bgN_lt {fs : List Nat} (h : Gm.U32 fs) {z : Int} (hz : z ≤ 31) : Gm.bgN fs z < 4294967296 := by
  unfold Gm.bgN
  split
  · have := Nat.pow_le_pow_right (n := 2) (by decide) (show z.toNat ≤ 31 by omega)
    omega
  · exact h _

set_option maxHeartbeats 1000000 in
theorem begins_any (z : Int) (fs : List Nat) (A A2 : Option Addr) (n c c2 B : Nat) (w : World) (hz : Gm.In z) (h31 : z ≤ 31) (hs : z < 0 → -1 - z < (fs.length : Int)) (hr : RdZ w B A2 fs) (hB : B ≤ w.heap.size) :
    Calls Try.prog 42 #[.agg #[.slice A n c, .slice A2 fs.length c2], .int .i64 z] w fun e w' => e = .returned (.int .u32 (Gm.bgN fs z)) ∧ Below w.heap.size w w' := by
  unfold Gm.In at hz
  have HI := hide (fun w => fIsNon_any z w)
  have HX := hide (fun w => fNon_any z hz.1 hz.2 w)
  have HO := hide (fun w => fOnly_any z w)
  have HB := hide (fun o => (Below.refl w.heap.size w).alloc (Nat.le_refl _) o)
  by_cases h0 : z < 0
  · have hm := hs h0
    have hbg : Gm.bgN fs z = fs.getD (-1 - z).toNat 0 := by unfold Gm.bgN; rw [if_neg (by omega)]
    obtain ⟨m, he⟩ : ∃ m : Nat, -1 - z = (m : Int) := ⟨(-1 - z).toNat, by omega⟩
    rw [hbg]
    rw [he] at HX hm ⊢
    have hm2 : m < fs.length := by omega
    obtain ⟨g, o, rfl, hgb, hc⟩ := hr.addr (by omega)
    have k0 := hc m hm2
    have hgs : g < w.heap.size := by omega
    simp only [Int.toNat_natCast]
    rw [decide_eq_true h0] at HI
    generalize fs.getD m 0 = b at *
    clear hz hs hr hc h0 he h31 hbg HO
    go_enter Try.func42, Try.ntmps42
    go_wp2_with fail
    refine (HI.out _).mono ?_; rintro _ w2 ⟨rfl, hw2⟩
    subst hw2
    go_wp2_with fail
    go_quiet ((go_at_call 22; exact Calls.quiet_of_same (HX.out _)))
    go_wp2
    go_ret
    exact ⟨rfl, below_drewN (HB.out _) _⟩
  · have hbg : Gm.bgN fs z = S.bit z := by unfold Gm.bgN S.bit; rw [if_pos (by omega), if_pos (by omega)]
    rw [hbg]
    rw [decide_eq_false h0] at HI
    clear hz hs hr h0 HX h31 hbg
    go_enter Try.func42, Try.ntmps42
    go_wp2_with fail
    refine (HI.out _).mono ?_; rintro _ w2 ⟨rfl, hw2⟩
    subst hw2
    go_wp2_with fail
    refine (HO.out _).mono ?_; rintro _ w2 ⟨rfl, hb2⟩
    have HB2 := hide ((HB.out _).trans (hb2.mono (by simp)))
    clear hb2
    go_wp2
    go_ret
    exact ⟨rfl, HB2.out⟩

set_option maxHeartbeats 1000000 in
theorem mayBe_any (z : Int) (nu : List Bool) (A A2 : Option Addr) (n c c2 B : Nat) (w : World) (hz : Gm.In z) (hs : z < 0 → -1 - z < (nu.length : Int)) (hr : RdO w B A nu) (hB : B ≤ w.heap.size) :
    Calls Try.prog 43 #[.agg #[.slice A nu.length c, .slice A2 n c2], .int .i64 z] w fun e w' => e = .returned (.bool (Gm.mbN nu z)) ∧ Below w.heap.size w w' := by
  unfold Gm.In at hz
  have HI := hide (fun w => fIsNon_any z w)
  have HX := hide (fun w => fNon_any z hz.1 hz.2 w)
  have HB := hide (fun o => (Below.refl w.heap.size w).alloc (Nat.le_refl _) o)
  by_cases h0 : z < 0
  · have hm := hs h0
    have hbg : Gm.mbN nu z = nu.getD (-1 - z).toNat false := by unfold Gm.mbN; rw [decide_eq_true h0, Bool.true_and]
    obtain ⟨m, he⟩ : ∃ m : Nat, -1 - z = (m : Int) := ⟨(-1 - z).toNat, by omega⟩
    rw [hbg]
    rw [he] at HX hm ⊢
    have hm2 : m < nu.length := by omega
    obtain ⟨g, o, rfl, hgb, hc⟩ := hr (by omega)
    have k0 := hc m hm2
    have hgs : g < w.heap.size := by omega
    simp only [Int.toNat_natCast]
    rw [decide_eq_true h0] at HI
    generalize nu.getD m false = b at *
    clear hz hs hr hc h0 he hbg
    go_enter Try.func43, Try.ntmps43
    go_wp2_with fail
    go_quiet (first | (go_at_call 22; exact Calls.quiet_of_same (HX.out _)) | (go_at_call 21; exact Calls.quiet_of_same (HI.out _)))
    go_wp2
    go_ret
    exact ⟨rfl, below_drewN (HB.out _) _⟩
  · have hbg : Gm.mbN nu z = false := by unfold Gm.mbN; rw [decide_eq_false h0, Bool.false_and]
    rw [hbg]
    rw [decide_eq_false h0] at HI
    clear hz hs hr h0 HX hbg
    go_enter Try.func43, Try.ntmps43
    go_wp2_with fail
    go_quiet ((go_at_call 21; exact Calls.quiet_of_same (HI.out _)))
    go_wp2
    go_ret
    exact ⟨rfl, below_drewN (HB.out _) _⟩

theorem Gm.ofN_step (nu : List Bool) (fs : List Nat) (rest : Nat) (l : List Int) (k : Nat) (hk : k < l.length) (s : Nat) : s ||| Gm.ofN nu fs rest (l.drop k) = (s ||| Gm.bgN fs l[k]) ||| (if Gm.mbN nu l[k] = true then Gm.ofN nu fs rest (l.drop (k + 1)) else 0) := by
  rw [List.drop_eq_getElem_cons hk, Gm.ofN_cons, Nat.or_assoc]

set_option maxHeartbeats 2000000 in
theorem kof_any (l : List Int) (rest : Nat) (nu : List Bool) (fs : List Nat) (A A1 A2 : Option Addr) (c c1 c2 B B1 B2 : Nat) (w : World) (hr : RdI w B A l) (h1 : RdO w B1 A1 nu) (h2 : RdZ w B2 A2 fs) (hB : B ≤ w.heap.size) (hB1 : B1 ≤ w.heap.size) (hB2 : B2 ≤ w.heap.size)
    (hin : ∀ z ∈ l, Gm.In z) (h31 : ∀ z ∈ l, z ≤ 31) (hs : ∀ z ∈ l, z < 0 → -1 - z < (fs.length : Int)) (hn : nu.length = fs.length) (hf : Gm.U32 fs) (hrest : rest < 4294967296) (hl : l.length ≤ 9223372036854775807) :
    Calls Try.prog 23 #[.agg #[.slice A1 nu.length c1, .slice A2 fs.length c2], .slice A l.length c, .int .u32 rest] w fun e w' => e = .returned (.int .u32 (Gm.ofN nu fs rest l)) ∧ Below w.heap.size w w' := by
  have HB0 := hide ((Below.refl w.heap.size w).alloc (Nat.le_refl _) (.cells #[.slice A1 nu.length c1, .slice A2 fs.length c2] 45))
  obtain ⟨wk, hwk⟩ : ∃ y, y = w.alloc (.cells #[.slice A1 nu.length c1, .slice A2 fs.length c2] 45) := ⟨_, rfl⟩
  have HS : Hid (wk.heap.size = w.heap.size + 1) := hide (by rw [hwk]; simp)
  have hd : w.heap.size < wk.heap.size := by rw [HS.out]; omega
  have HK := hide (show wk.heap[w.heap.size]? = some (.cells #[.slice A1 nu.length c1, .slice A2 fs.length c2] 45 (0, 0)) by rw [hwk]; exact heap_alloc_new w _)
  rw [← hwk] at HB0
  have HRI := hide (hr.below HB0.out hB)
  have HBB := hide hB
  have HBG := hide (fun (y : World) (hy : Below wk.heap.size wk y) z (hz : z ∈ l) => begins_any z fs A1 A2 nu.length c1 c2 B2 y (hin z hz) (h31 z hz) (hs z hz) (h2.keep fun g o hg => ((HB0.out.trans (hy.mono (Nat.le_of_lt hd))).cell (p := ⟨g, o, none⟩) (by simp only; omega))) (by have := hy.size; omega))
  have HMB := hide (fun (y : World) (hy : Below wk.heap.size wk y) z (hz : z ∈ l) => mayBe_any z nu A1 A2 fs.length c1 c2 B1 y (hin z hz) (fun h => by rw [hn]; exact hs z hz h) (h1.keep fun g o hg => ((HB0.out.trans (hy.mono (Nat.le_of_lt hd))).cell (p := ⟨g, o, none⟩) (by simp only; omega))) (by have := hy.size; omega))
  have H31 := hide (fun z hz => Gm.bgN_lt hf (h31 z hz))
  have HRE := hide hrest
  have HST := hide (Gm.ofN_step nu fs rest l)
  have HGB := hide (fun (k : Nat) (hk : k < l.length) => List.getElem_mem hk)
  have h0 : (l.length : Int) ≤ 9223372036854775807 := by omega
  obtain ⟨r, hr0⟩ : ∃ r, r = Gm.ofN nu fs rest l := ⟨_, rfl⟩
  have HR0 := hide hr0
  rw [← hr0]
  clear hr h1 h2 hin h31 hs hn hf hB hB1 hB2 hl hr0 hrest
  go_enter Try.func23, Try.ntmps23
  go_upto_region 1 with fail
  rw [← hwk]
  clear hwk
  go_wp2
  go_loopw [12, 7] (fun vi vs wr => ∃ (k s : Nat), k ≤ l.length ∧ vi = .int .i64 k ∧ vs = .int .u32 s ∧ Hid (s < 4294967296) ∧ Hid (r = s ||| Gm.ofN nu fs rest (l.drop k)) ∧ Hid (Below wk.heap.size wk wr)) (fun vi _ _ => l.length - (intOf vi).toNat)
  case atStart => exact ⟨0, 0, Nat.zero_le _, rfl, rfl, hide (by decide), hide (by rw [HR0.out]; simp), hide (Below.refl _ _)⟩
  case round =>
    obtain ⟨k, s, hk, rfl, rfl, HL, HE, HBw⟩ := hrel
    have kc : wr.heap[w.heap.size]? = some (.cells #[.slice A1 nu.length c1, .slice A2 fs.length c2] 45 (0, 0)) := (HBw.out.block w.heap.size hd).trans HK.out
    have q0 := cell_of_row wr _ 0 _ _ _ kc
    have q1 := cell_of_row wr _ 1 _ _ _ kc
    have hdr : w.heap.size < wr.heap.size := Nat.lt_of_lt_of_le hd HBw.out.size
    by_cases hlt : k < l.length
    · obtain ⟨g, o, rfl, hgb, hc⟩ := (HRI.out.keep fun g o hg => (HBw.out.cell (p := ⟨g, o, none⟩) (by have := HBB.out; simp only; omega))) (by omega)
      have k0 := hc k hlt
      rw [L.gd_lt hlt] at k0
      have HBz := hide (fun y hy => HBG.out y hy _ (HGB.out k hlt))
      have HMz := hide (fun y hy => HMB.out y hy _ (HGB.out k hlt))
      have HSz := hide (HE.out.trans (HST.out k hlt s))
      have HUz := hide (H31.out _ (HGB.out k hlt))
      clear hc
      generalize l[k] = z at *
      have ho := hide (u32_or_nat s (Gm.bgN fs z) HL.out HUz.out)
      have HL2 := hide (Gm.or32 HL.out HUz.out)
      generalize Gm.bgN fs z = b at *
      obtain ⟨s2, hs2⟩ : ∃ s2, s2 = s ||| b := ⟨_, rfl⟩
      rw [← hs2] at ho HL2 HSz
      clear hs2
      cases hmb : Gm.mbN nu z
      · rw [hmb] at HMz HSz
        clear hmb
        go_wp2_with fail
        refine (HBz.out _ HBw.out).mono ?_; rintro _ w2 ⟨rfl, hb2⟩
        have HB2 := hide (HBw.out.trans (hb2.mono HBw.out.size))
        have kc2 := (HB2.out.block w.heap.size hd).trans HK.out
        have p0 := cell_of_row w2 _ 0 _ _ _ kc2
        have p1 := cell_of_row w2 _ 1 _ _ _ kc2
        have hd2 : w.heap.size < w2.heap.size := Nat.lt_of_lt_of_le hd HB2.out.size
        clear q0 q1 kc k0 hb2 kc2
        go_wp2_with fail
        refine (HMz.out _ HB2.out).mono ?_; rintro _ w3 ⟨rfl, hb3⟩
        have HB3 := hide (HB2.out.trans (hb3.mono HB2.out.size))
        clear hb3
        go_wp2_with fail
        go_ret
        refine ⟨ret_int ?_, HB0.out.trans (HB3.out.mono (Nat.le_of_lt hd))⟩
        rw [ho.out, HSz.out]; simp
      · rw [hmb] at HMz HSz
        clear hmb
        go_wp2_with fail
        refine (HBz.out _ HBw.out).mono ?_; rintro _ w2 ⟨rfl, hb2⟩
        have HB2 := hide (HBw.out.trans (hb2.mono HBw.out.size))
        have kc2 := (HB2.out.block w.heap.size hd).trans HK.out
        have p0 := cell_of_row w2 _ 0 _ _ _ kc2
        have p1 := cell_of_row w2 _ 1 _ _ _ kc2
        have hd2 : w.heap.size < w2.heap.size := Nat.lt_of_lt_of_le hd HB2.out.size
        clear q0 q1 kc k0 hb2 kc2
        go_wp2_with fail
        refine (HMz.out _ HB2.out).mono ?_; rintro _ w3 ⟨rfl, hb3⟩
        have HB3 := hide (HB2.out.trans (hb3.mono HB2.out.size))
        clear hb3
        go_wp2_with fail
        go_roundw
        case rel => exact ⟨k + 1, s2, hlt, by go_num, by rw [ho.out], HL2, hide (by rw [HSz.out]; simp), HB3⟩
        case measure => simp [intOf]; omega
    · obtain rfl : k = l.length := by omega
      have ho := hide (u32_or_nat s rest HL.out HRE.out)
      have HX : Hid (r = s ||| rest) := hide (by rw [HE.out, List.drop_length]; rfl)
      go_wp2_with fail
      go_ret
      exact ⟨ret_int (by rw [ho.out, HX.out]), HB0.out.trans (HBw.out.mono (Nat.le_of_lt hd))⟩
end Go.Proofs.Ythjohhcgegcmhaa

namespace Go.Proofs.Ythjohhcgegcmhaa
set_option maxRecDepth 100000
open Go.RowKit

theorem isNon_any (z : Int) (w : World) :
    Calls Try.prog 61 #[.int .i64 z] w fun e w' => e = .returned (.bool (decide (z < 0))) ∧ w' = w := by
  go_enter Try.func61, Try.ntmps61
  go_wp2
  go_ret
  exact ⟨rfl, rfl⟩
theorem tnon_any (z : Int) (hz : -9223372036854775808 ≤ z) (hz' : z ≤ 9223372036854775807) (w : World) :
    Calls Try.prog 62 #[.int .i64 z] w fun e w' => e = .returned (.int .i64 (-1 - z)) ∧ w' = w := by
  have hs : IntKind.i64.wrap (-1 - z) = -1 - z := IntWalk.i64_in _ (by omega)
  clear hz hz'
  go_enter Try.func62, Try.ntmps62
  go_wp2
  go_ret
  exact ⟨rfl, rfl⟩

def AllO (l : List Int) (p : Int → Bool) (k : Nat) : Prop := ∀ i (h : i < l.length), i < k → p l[i] = true
theorem AllO.next {l : List Int} {p : Int → Bool} {k : Nat} (h : AllO l p k) (hk : k < l.length) (hn : p l[k] = true) : AllO l p (k + 1) := fun i hi hik => by
  rcases Nat.lt_or_ge i k with q | q
  · exact h i hi q
  · obtain rfl : i = k := by omega
    exact hn
theorem AllO.all {l : List Int} {p : Int → Bool} (h : AllO l p l.length) : l.all p = true := by
  rw [List.all_eq_true]
  intro z hz
  obtain ⟨i, hi, rfl⟩ := List.getElem_of_mem hz
  exact h i hi hi
theorem AllO.not {l : List Int} {p : Int → Bool} {k : Nat} (hk : k < l.length) (h : p l[k] = false) : l.all p = false := by
  rw [List.all_eq_false]
  exact ⟨_, List.getElem_mem hk, by rw [h]; simp⟩

end Go.Proofs.Ythjohhcgegcmhaa

namespace Go.Proofs.Ythjohhcgegcmhaa
set_option maxRecDepth 100000
open Go.RowKit

def Gm.ps (tm : Bool) (is : List Bool) (z : Int) : Bool := if 0 ≤ z then tm else is.getD (-1 - z).toNat false
theorem Gm.ps_non {tm : Bool} {is : List Bool} {z : Int} (h : z < 0) : ∃ m : Nat, -1 - z = (m : Int) ∧ Gm.ps tm is z = is.getD m false := by
  refine ⟨(-1 - z).toNat, by omega, ?_⟩
  unfold Gm.ps
  rw [if_neg (by omega)]
theorem Gm.ps_term {tm : Bool} {is : List Bool} {z : Int} (h : ¬ z < 0) : Gm.ps tm is z = tm := by unfold Gm.ps; rw [if_pos (by omega)]

set_option maxHeartbeats 1000000 in
theorem passN_any (z : Int) (is : List Bool) (A : Option Addr) (c B : Nat) (w : World) (hz : Gm.In z) (hs : z < 0 → -1 - z < (is.length : Int)) (hr : RdO w B A is) :
    Calls Try.prog 60 #[.int .i64 z, .slice A is.length c] w fun e w' => e = .returned (.bool (Gm.ps false is z)) ∧ w' = w := by
  unfold Gm.In at hz
  have HI := hide (fun w => isNon_any z w)
  have HX := hide (fun w => tnon_any z hz.1 hz.2 w)
  by_cases h0 : z < 0
  · obtain ⟨m, he, hp⟩ := Gm.ps_non (tm := false) (is := is) h0
    have hm := hs h0
    rw [he] at HX hm
    have hm2 : m < is.length := by omega
    obtain ⟨g, o, rfl, hgb, hc⟩ := hr (by omega)
    have k0 := hc m hm2
    rw [hp]
    rw [decide_eq_true h0] at HI
    generalize is.getD m false = b at *
    clear hz hs hr hc h0 he hp
    go_enter Try.func60, Try.ntmps60
    go_wp2_with fail
    refine (HI.out _).mono ?_; rintro _ w2 ⟨rfl, hw2⟩
    subst hw2
    go_wp2_with fail
    refine (HX.out _).mono ?_; rintro _ w2 ⟨rfl, hw2⟩
    subst hw2
    go_wp2
    go_ret
    exact ⟨rfl, rfl⟩
  · rw [Gm.ps_term h0]
    rw [decide_eq_false h0] at HI
    clear hz hs hr h0 HX
    go_enter Try.func60, Try.ntmps60
    go_wp2_with fail
    refine (HI.out _).mono ?_; rintro _ w2 ⟨rfl, hw2⟩
    subst hw2
    go_wp2
    go_ret
    exact ⟨rfl, rfl⟩

theorem enter_of {f : Nat} {fn : Func} (hf : Try.prog.funcs[f]? = some fn) (hb : fn.body.isNone = false) (hn : (fn.name == "runtime.NumGoroutine") = false) (args : Array Value) (w : World) : Sem.run Try.prog (callFunc f args) w = .ok (.enter f args) w := by
  have hn2 : ¬ fn.name = "runtime.NumGoroutine" := by simpa using hn
  have hb2 : fn.body ≠ none := by intro h; rw [h] at hb; cases hb
  simp [callFunc, go_sem, hf, hb2, hn2]
theorem ownI_lit (w : World) (b : List Int) (base : Nat) (hb : base ≤ w.heap.size) (hm : b.length ≤ maxLen) : OwnI (w.alloc (.cells (b.map (Value.int .i64)).toArray 3)) base (.slice (some ⟨w.heap.size, 0, none⟩) b.length b.length) b :=
  ⟨by simp, .inr ⟨w.heap.size, b.length, _, rfl, hb, heap_alloc_new w _, Nat.le_refl _, hm, by simp, by simp [List.take_of_length_le]⟩⟩

def Gm.brL (tm : Bool) (is : List Bool) (x : Gm.Rl) : List Int := if Gm.allB tm is x.r = true then [x.l] else []
set_option maxHeartbeats 2000000 in
theorem lefts1_any (f : Nat) (hE : ∀ args w, Sem.run Try.prog (callFunc f args) w = .ok (.enter f args) w) (tm : Bool) (x : Gm.Rl) (is : List Bool) (A A2 : Option Addr) (c c2 B gp gk : Nat) (w : World)
    (hf : ∀ z y, Below w.heap.size w y → z ∈ x.r → Calls Try.prog f #[.int .i64 z, .slice A2 is.length c2] y fun e w' => e = .returned (.bool (Gm.ps tm is z)) ∧ w' = y)
    (hgp : w.cell? ⟨gp, 0, none⟩ = some (.func (Fn.func f) #[] #[])) (hgk : w.cell? ⟨gk, 0, none⟩ = some (.slice A2 is.length c2)) (hr : RdI w B A x.r) (hB : B ≤ w.heap.size) (hl : x.r.length ≤ 1000000) :
    Calls Try.prog 79 #[.agg #[.int .i64 x.l, .slice A x.r.length c, .int .i64 x.p], .pointer (some ⟨gp, 0, none⟩), .pointer (some ⟨gk, 0, none⟩)] w fun e w' => ∃ v, e = .returned v ∧ OwnI w' w.heap.size v (Gm.brL tm is x) ∧ Below w.heap.size w w' := by
  have HF := hide hf
  have HR := hide hr
  have HB0 := hide hB
  have HA := hide (fun o => (Below.refl w.heap.size w).alloc (Nat.le_refl _) o)
  have lp := block_lt_of_cell hgp
  have lk := block_lt_of_cell hgk
  have hlen : (x.r.length : Int) ≤ 9223372036854775807 := by omega
  have HE : Hid (Gm.brL tm is x = if x.r.all (Gm.ps tm is) = true then [x.l] else []) := hide rfl
  clear hf hr hB hl
  go_enter Try.func79, Try.ntmps79
  go_wp2
  go_loop [10] (fun vi => ∃ k : Nat, k ≤ x.r.length ∧ vi = .int .i64 k ∧ Hid (AllO x.r (Gm.ps tm is) k)) (fun vi => x.r.length - (intOf vi).toNat)
  case atStart => exact ⟨0, Nat.zero_le _, rfl, hide (fun _ _ h => absurd h (by omega))⟩
  case round =>
    obtain ⟨k, hk, rfl, HK⟩ := hrel
    by_cases hlt : k < x.r.length
    · obtain ⟨g, o, rfl, hgb, hc⟩ := HR.out (by omega)
      have k0 := hc k hlt
      rw [L.gd_lt hlt] at k0
      have hgs : g < w.heap.size := Nat.lt_of_lt_of_le hgb HB0.out
      have HFz := hide (fun y h => HF.out _ y h (List.getElem_mem hlt))
      have HY := hide (fun h => HK.out.next hlt h)
      have HN := hide (fun h => AllO.not (p := Gm.ps tm is) hlt h)
      clear hc
      generalize x.r[k] = z at *
      cases hb : Gm.ps tm is z
      · rw [hb] at HFz
        have HX := hide (HE.out.trans (if_neg (by rw [HN.out hb]; decide)))
        clear hb
        go_wp2_with fail
        refine (HFz.out _ (HA.out _)).mono ?_; rintro _ w2 ⟨rfl, hw2⟩
        subst hw2
        go_wp2
        go_ret
        exact ⟨_, rfl, by rw [HX.out]; exact OwnI.nil _ _, HA.out _⟩
      · rw [hb] at HFz
        have HX := hide (HY.out hb)
        clear hb
        go_wp2_with fail
        refine (HFz.out _ (HA.out _)).mono ?_; rintro _ w2 ⟨rfl, hw2⟩
        subst hw2
        go_wp2
        go_round
        case rel => exact ⟨k + 1, hlt, by go_num, HX⟩
        case measure => simp [intOf]; omega
    · obtain rfl : k = x.r.length := by omega
      have HX := hide (HE.out.trans (if_pos HK.out.all))
      go_wp2
      go_ret
      have q := ownI_lit (w.alloc (.cells #[.int .i64 x.l, .slice A x.r.length c, .int .i64 x.p] 34)) [x.l] w.heap.size (by simp) (by unfold maxLen; simp)
      rw [show (w.alloc (.cells #[.int .i64 x.l, .slice A x.r.length c, .int .i64 x.p] 34)).heap.size = w.heap.size + 1 by simp] at q
      exact ⟨_, rfl, by rw [HX.out]; exact q, (HA.out _).alloc (HA.out _).size _⟩
end Go.Proofs.Ythjohhcgegcmhaa

namespace Go.Proofs.Ythjohhcgegcmhaa
set_option maxRecDepth 100000
open Go.RowKit

def cntO (w : World) (g : Nat) : Nat := match w.heap[g]? with
  | some (.cells cs _ _) => cs.toList.countP fun v => match v with | .bool false => true | _ => false
  | _ => 0
theorem UBO.cnt {w : World} {g : Nat} {s : List Bool} (h : UBO w g s) : cntO w g = s.count false := by
  unfold cntO
  rw [h]
  clear h
  simp only
  induction s with
  | nil => rfl
  | cons b s ih =>
    simp only [List.map_cons, List.countP_cons, List.count_cons] at ih ⊢
    rw [ih]
    cases b <;> rfl
theorem Gm.ct_false (s : List Bool) : s.count false + Gm.ct s = s.length := by
  unfold Gm.ct
  induction s with
  | nil => rfl
  | cons b s ih => cases b <;> simp <;> omega
theorem Gm.ct_set {s : List Bool} {i : Nat} (h : i < s.length) : (s.getD i false = true → s.set i true = s) ∧ (s.getD i false = false → Gm.ct (s.set i true) = Gm.ct s + 1) := by
  induction s generalizing i with
  | nil => simp at h
  | cons b s ih =>
    cases i with
    | zero => cases b <;> simp [Gm.ct]
    | succ i =>
      have := ih (i := i) (by simpa using h)
      simp only [List.getD_cons_succ, List.set_cons_succ]
      refine ⟨fun e => by rw [this.1 e], fun e => ?_⟩
      have h2 := this.2 e
      unfold Gm.ct at h2 ⊢
      cases b <;> simp_all
structure Grw (w wr : World) (gk n : Nat) (D : Int → Prop) (s0 s : List Bool) : Prop where
  u : UBO wr gk s
  l : s.length = n
  d : ∀ i : Nat, s.getD i false = true → D (i : Int)
  le : Gm.Le s0 s
  g : w.grownBy wr (some gk)
theorem Grw.alloc {w wr : World} {gk n : Nat} {D : Int → Prop} {s0 s : List Bool} (h : Grw w wr gk n D s0 s) (o : Obj) : Grw w (wr.alloc o) gk n D s0 s := ⟨h.u.alloc o, h.l, h.d, h.le, only_alloc h.g o⟩
theorem Grw.below {w wr w' : World} {gk n : Nat} {D : Int → Prop} {s0 s : List Bool} (h : Grw w wr gk n D s0 s) (hb : Below wr.heap.size wr w') : Grw w w' gk n D s0 s := ⟨h.u.below hb h.u.lt, h.l, h.d, h.le, only_trans h.g (only_below hb _)⟩
theorem Grw.set {w wr : World} {gk n : Nat} {D : Int → Prop} {s0 s : List Bool} (h : Grw w wr gk n D s0 s) {m : Nat} (hd : D (m : Int)) : Grw w (wr.setCell ⟨gk, m, none⟩ (.bool true)) gk n D s0 (s.set m true) :=
  ⟨h.u.set_ m true, by rw [List.length_set]; exact h.l, fun i hi => by
    rcases Gm.getD_set _ _ _ hi with h1 | h1
    · exact h.d i h1
    · rw [h1]; exact hd, h.le.trans (Gm.Le.set _ _), only_set h.g m _⟩
def Nw (s0 s : List Bool) (b : Bool) (C : Prop) : Prop := (b = false → s = s0 ∧ C) ∧ (b = true → Gm.ct s0 < Gm.ct s)

theorem Nw.start (s : List Bool) (C : Prop) (hC : C) : Nw s s false C := ⟨fun _ => ⟨rfl, hC⟩, fun h => by cases h⟩
theorem Nw.mono {s0 s : List Bool} {b : Bool} {C C' : Prop} (h : Nw s0 s b C) (k : C → C') : Nw s0 s b C' := ⟨fun e => ⟨(h.1 e).1, k (h.1 e).2⟩, h.2⟩
theorem Nw.next {s0 s : List Bool} {b : Bool} {C C' : Prop} {m : Nat} (h : Nw s0 s b C) (hm : m < s.length) (hC : C → s0.getD m false = true → C') : Nw s0 (s.set m true) (b || !s.getD m false) C' := by
  obtain ⟨h1, h2⟩ := Gm.ct_set hm
  cases hv : s.getD m false
  · refine ⟨fun e => by simp at e, fun _ => ?_⟩
    rw [h2 hv]
    cases b
    · rw [(h.1 rfl).1]; omega
    · have := h.2 rfl; omega
  · rw [h1 hv]
    refine ⟨fun e => ?_, fun e => h.2 (by simpa using e)⟩
    have hb : b = false := by simpa using e
    obtain ⟨e1, c⟩ := h.1 hb
    refine ⟨e1, hC c ?_⟩
    rw [← e1]; exact hv

theorem OwnI.rdOf {w : World} {base n c : Nat} {A : Option Addr} {xs : List Int} (h : OwnI w base (.slice A n c) xs) : RdI w w.heap.size A xs := by
  obtain ⟨A', c', e, _, _, hr⟩ := h.form
  injection e with e1 _ _
  rw [e1]; exact hr
theorem OwnI.far {w w' : World} {base gk : Nat} {v : Value} {xs : List Int} (h : OwnI w base v xs) (hg : w.grownBy w' (some gk)) (hlt : gk < base) : OwnI w' base v xs :=
  World.ownsRow.kept h hg (by
    cases hv : v.ownBlock with
    | none => exact .inl rfl
    | some k => exact .inr (fun e => by injection e with e; have := (World.ownsRow.lt h k hv).1; omega))
def bN : Value → Nat
  | .bool true => 1
  | _ => 0
theorem grown_cell {w wr : World} {gk B g o : Nat} (h : w.grownBy wr (some gk)) (hB : B ≤ w.heap.size) (hk : B ≤ gk) (hg : g < B) : wr.cell? ⟨g, o, none⟩ = w.cell? ⟨g, o, none⟩ :=
  World.cell?_of_block (h.block g (by omega) (fun e => by injection e with e; omega))
set_option maxHeartbeats 8000000 in
theorem grow_any (fb p1 p2 : Nat) (hE : ∀ args w, Sem.run Try.prog (callFunc fb args) w = .ok (.enter fb args) w) (rs : List Gm.Rl) (AR : Option Addr) (cR ck B gk n : Nat) (w : World) (s0 : List Bool) (D : Int → Prop) (br : List Bool → Gm.Rl → List Int)
    (hR : RdRl w B AR rs) (hB : B ≤ w.heap.size) (hk : B ≤ gk) (hu : UBO w gk s0) (hn : s0.length = n) (hd : ∀ i : Nat, s0.getD i false = true → D (i : Int)) (hl : rs.length ≤ 1000000)
    (hbr : ∀ (y : World) (s : List Bool) (x : Gm.Rl) (A' : Option Addr) (c' : Nat), w.grownBy y (some gk) → UBO y gk s → s.length = n → x ∈ rs → RdI y B A' x.r → Calls Try.prog fb #[.agg #[.int .i64 x.l, .slice A' x.r.length c', .int .i64 x.p], .pointer (some ⟨p1, 0, none⟩), .pointer (some ⟨p2, 0, none⟩)] y fun e w' => ∃ v, e = .returned v ∧ OwnI w' y.heap.size v (br s x) ∧ Below y.heap.size y w')
    (hsn : ∀ s x, x ∈ rs → s.length = n → (∀ i : Nat, s.getD i false = true → D (i : Int)) → ∀ m ∈ br s x, 0 ≤ m ∧ m < n ∧ D m) (hbl : ∀ s x, x ∈ rs → (br s x).length ≤ 1000000) :
    Calls Try.prog 78 #[.slice (some ⟨gk, 0, none⟩) n ck, .slice AR rs.length cR, .func (Fn.func fb) #[] #[.pointer (some ⟨p1, 0, none⟩), .pointer (some ⟨p2, 0, none⟩)]] w fun e w' => e = .returned (.tuple #[]) ∧ ∃ s, Grw w w' gk n D s0 s ∧ ∀ x ∈ rs, ∀ m ∈ br s x, s.getD m.toNat false = true := by
  have HR := hide hR
  have HB := hide hB
  have HK := hide hk
  have HBR := hide hbr
  have HSN := hide hsn
  have HBL := hide hbl
  have HG0 : Hid (Grw w w gk n D s0 s0) := hide ⟨hu, hn, hd, Gm.Le.refl _, World.grownBy.refl _ _⟩
  have hlen : (rs.length : Int) ≤ 9223372036854775807 := by omega
  clear hR hB hk hu hn hd hl hbr hsn hbl
  go_enter Try.func78, Try.ntmps78
  go_wp2
  go_loopw [6] (fun vg wr => ∃ (s : List Bool) (b : Bool), vg = .bool b ∧ Hid (Grw w wr gk n D s0 s) ∧ Hid (b = false → ∀ x ∈ rs, ∀ m ∈ br s x, s.getD m.toNat false = true)) (fun vg wr => 2 * cntO wr gk + bN vg)
  case atStart => exact ⟨s0, true, rfl, HG0, hide (fun h => by cases h)⟩
  case round =>
    obtain ⟨s, b, rfl, HG, HC⟩ := hrel
    obtain ⟨wo, hwo⟩ : ∃ wo : World, wo = wr := ⟨_, rfl⟩
    subst hwo
    cases b
    · go_wp2
      go_end0
      exact ⟨rfl, s, HG.out, HC.out (by trivial)⟩
    · clear HC
      go_wp2
      go_loopw [6, 14] (fun vg vi wr => ∃ (s1 : List Bool) (b1 : Bool) (i : Nat), i ≤ rs.length ∧ vg = .bool b1 ∧ vi = .int .i64 i ∧ Hid (Grw w wr gk n D s0 s1) ∧ Hid (Gm.Le s s1) ∧ Hid (Nw s s1 b1 (∀ x ∈ rs.take i, ∀ m ∈ br s x, s.getD m.toNat false = true))) (fun _ vi _ => rs.length - (intOf vi).toNat)
      case atStart => exact ⟨s, false, 0, Nat.zero_le _, rfl, rfl, HG, hide (Gm.Le.refl _), hide (Nw.start _ _ (by simp))⟩
      case round =>
        obtain ⟨s1, b1, i, hi, rfl, rfl, HG1, HLe, HN1⟩ := hrel
        obtain ⟨wi, hwi⟩ : ∃ wi : World, wi = wr := ⟨_, rfl⟩
        subst hwi
        by_cases hlt : i < rs.length
        · obtain ⟨g, o, rfl, hgB, hc⟩ := HR.out (by omega)
          obtain ⟨k0, ⟨A', c', k1, _, _, hri⟩, k2⟩ := hc i hlt
          have k0 := (grown_cell HG1.out.g HB.out HK.out hgB).trans k0
          have k1 := (grown_cell HG1.out.g HB.out HK.out hgB).trans k1
          have k2 := (grown_cell HG1.out.g HB.out HK.out hgB).trans k2
          have hgs : g < wi.heap.size := by have := HG1.out.g.size; have := HB.out; omega
          have HBi := hide (fun (o : Obj) => HBR.out (wi.alloc o) s1 rs[i] A' c' (HG1.out.alloc o).g (HG1.out.alloc o).u HG1.out.l (List.getElem_mem hlt) (hri.keep fun g o hg => grown_cell (HG1.out.alloc _).g HB.out HK.out hg))
          have HSi := hide (HSN.out s1 rs[i] (List.getElem_mem hlt) HG1.out.l HG1.out.d)
          have HLi := hide (HBL.out s1 rs[i] (List.getElem_mem hlt))
          have HTi : Hid (rs.take (i + 1) = rs.take i ++ [rs[i]]) := hide (List.take_succ_eq_append_getElem hlt)
          clear hc hri
          generalize rs[i] = x at *
          have HLe2 := HLe
          go_wp2_with fail
          refine (HBi.out _).mono ?_; rintro _ w2 ⟨v, rfl, ho2, hb2⟩
          have HG2 := hide ((HG1.out.alloc _).below hb2)
          have hkl := HG1.out.u.lt
          obtain ⟨A3, c3, rfl, h31, h32, _⟩ := ho2.form
          have HO2 := hide ho2
          have hll : ((br s1 x).length : Int) ≤ 9223372036854775807 := by have := HLi.out; omega
          obtain ⟨ls, hls⟩ : ∃ ls, ls = br s1 x := ⟨_, rfl⟩
          rw [← hls] at HO2 HSi hll ⊢
          have HLS := hide hls
          clear ho2 hb2 hls k0 k1 k2 hgs
          go_wp2
          go_loopw [6, 22] (fun vg vk wr => ∃ (s2 : List Bool) (b2 : Bool) (k : Nat), k ≤ ls.length ∧ vg = .bool b2 ∧ vk = .int .i64 k ∧ Hid (Grw w wr gk n D s0 s2) ∧ Hid (Gm.Le s1 s2) ∧ Hid (OwnI wr (wi.heap.size + 1) (.slice A3 ls.length c3) ls) ∧ Hid (Nw s s2 b2 ((∀ x ∈ rs.take i, ∀ m ∈ br s x, s.getD m.toNat false = true) ∧ ∀ m ∈ ls.take k, s.getD m.toNat false = true))) (fun _ vk _ => ls.length - (intOf vk).toNat)
          case atStart => exact ⟨s1, b1, 0, Nat.zero_le _, rfl, rfl, HG2, hide (Gm.Le.refl _), hide (by have := HO2.out; simpa using this), hide (HN1.out.mono fun h => ⟨h, by simp⟩)⟩
          case round =>
            clear HG2 HO2
            obtain ⟨s2, b2, k, hk2, rfl, rfl, HG3, HL3, HO3, HN3⟩ := hrel
            by_cases hlt2 : k < ls.length
            · obtain ⟨g3, o3, rfl, hg3, hc3⟩ := HO3.out.rdOf (by omega)
              have k3 := hc3 k hlt2
              rw [L.gd_lt hlt2] at k3
              obtain ⟨hm0, hm1, hmD⟩ := HSi.out _ (List.getElem_mem hlt2)
              have HT3 : Hid (ls.take (k + 1) = ls.take k ++ [ls[k]]) := hide (List.take_succ_eq_append_getElem hlt2)
              clear hc3
              generalize ls[k] = mz at *
              obtain ⟨m, rfl⟩ : ∃ m : Nat, mz = (m : Int) := ⟨mz.toNat, by omega⟩
              have hmn : m < s2.length := by rw [HG3.out.l]; omega
              have HS4 := hide (HG3.out.set hmD)
              have HL4 := hide (HL3.out.trans (Gm.Le.set s2 m))
              have HO4 := hide (HO3.out.far (only_set (World.grownBy.refl wr (some gk)) m (.bool true)) (by omega))
              have HN4 := hide (HN3.out.next hmn (C' := (∀ x ∈ rs.take i, ∀ m ∈ br s x, s.getD m.toNat false = true) ∧ ∀ m ∈ ls.take (k + 1), s.getD m.toNat false = true) (fun hC hv => ⟨hC.1, fun q hq => by
                rw [HT3.out] at hq
                rcases List.mem_append.1 hq with h | h
                · exact hC.2 q h
                · obtain rfl := List.mem_singleton.1 h
                  simpa using hv⟩))
              have k4 := HG3.out.u.cell m hmn
              have f4 := HG3.out.u.frozen m
              have hgk := HG3.out.u.lt
              have hm2 : (m : Int) < (n : Int) := hm1
              clear hmD hm0 hm1
              generalize s2.getD m false = bv at *
              cases b2
              · rw [Bool.false_or] at HN4
                go_wp2
                go_roundw
                case rel => exact ⟨s2.set m true, !bv, k + 1, hlt2, rfl, by go_num, HS4, HL4, HO4, HN4⟩
                case measure => simp [intOf]; omega
              · rw [Bool.true_or] at HN4
                go_wp2
                go_roundw
                case rel => exact ⟨s2.set m true, true, k + 1, hlt2, rfl, by go_num, HS4, HL4, HO4, HN4⟩
                case measure => simp [intOf]; omega
            · obtain rfl : k = ls.length := by omega
              rw [List.take_length] at HN3
              go_wp2
              go_roundw
              case rel =>
                refine ⟨s2, b2, i + 1, hlt, rfl, by go_num, HG3, hide (HLe2.out.trans HL3.out), hide ⟨fun e => ⟨(HN3.out.1 e).1, ?_⟩, HN3.out.2⟩⟩
                obtain ⟨e1, h1, h2⟩ := HN3.out.1 e
                have e2 : s1 = s := (by rw [← e1]; exact HL3.out : Gm.Le s1 s).anti HLe2.out
                intro y hy
                rw [HTi.out] at hy
                rcases List.mem_append.1 hy with h | h
                · exact h1 y h
                · obtain rfl := List.mem_singleton.1 h
                  intro q hq
                  exact h2 q (by rw [HLS.out, e2]; exact hq)
              case measure => simp [intOf]; omega
        · obtain rfl : i = rs.length := by omega
          rw [List.take_length] at HN1
          go_wp2
          go_roundw
          case rel => exact ⟨s1, b1, rfl, HG1, hide fun e => by
            obtain ⟨e1, h1⟩ := HN1.out.1 e
            rw [e1]; exact h1⟩
          case measure =>
            have q1 := HG.out.u.cnt
            have q2 := HG1.out.u.cnt
            have q3 := Gm.ct_false s
            have q4 := Gm.ct_false s1
            have q5 := HG.out.l
            have q6 := HG1.out.l
            rw [q1, q2]
            cases b1
            · obtain ⟨e1, _⟩ := HN1.out.1 rfl
              rw [e1]; simp [bN]
            · have := HN1.out.2 rfl
              simp [bN]; omega
end Go.Proofs.Ythjohhcgegcmhaa

namespace Go.Proofs.Ythjohhcgegcmhaa
set_option maxRecDepth 100000
open Go.RowKit

def RowT (s : List Bool) (w : World) (e : Ending) (w' : World) : Prop := ∃ g, e = .returned (.slice (some ⟨g, 0, none⟩) s.length s.length) ∧ w.heap.size ≤ g ∧ UBO w' g s ∧ Below w.heap.size w w'
theorem kept_cell {w wr : World} {gk g o : Nat} {u : Value} (h : w.grownBy wr (some gk)) (hg : w.cell? ⟨g, o, none⟩ = some u) (hne : g ≠ gk) : wr.cell? ⟨g, o, none⟩ = some u :=
  (World.cell?_of_block (h.block g (block_lt_of_cell hg) (fun e => by injection e with e; exact hne e))).trans hg
theorem Gm.brL_mem {tm : Bool} {is : List Bool} {x : Gm.Rl} {m : Int} (h : m ∈ Gm.brL tm is x) : m = x.l ∧ Gm.allB tm is x.r = true := by
  unfold Gm.brL at h
  split at h
  · exact ⟨List.mem_singleton.1 h, by assumption⟩
  · simp at h
theorem Gm.brL_of {tm : Bool} {is : List Bool} {x : Gm.Rl} (h : Gm.allB tm is x.r = true) : x.l ∈ Gm.brL tm is x := by
  unfold Gm.brL; rw [if_pos h]; exact List.mem_singleton.2 rfl
theorem Gm.brL_len (tm : Bool) (is : List Bool) (x : Gm.Rl) : (Gm.brL tm is x).length ≤ 1000000 := by
  unfold Gm.brL; split <;> simp

set_option maxHeartbeats 4000000 in
theorem lefts_any (f : Nat) (hE : ∀ args w, Sem.run Try.prog (callFunc f args) w = .ok (.enter f args) w) (tm : Bool)
    (hf : ∀ (z : Int) (is : List Bool) (A : Option Addr) (c B : Nat) (y : World), Gm.In z → (z < 0 → -1 - z < (is.length : Int)) → RdO y B A is → Calls Try.prog f #[.int .i64 z, .slice A is.length c] y fun e w' => e = .returned (.bool (Gm.ps tm is z)) ∧ w' = y)
    (v : Value) (G : Gm.Gr) (B : Nat) (w : World) (hg : RdGr w B v G) (hfit : Gm.Fit G) (hok : Gm.Ok G) (hB : B ≤ w.heap.size) :
    Calls Try.prog 59 #[v, .func (Fn.func f) #[] #[]] w (RowT (Gm.gn tm G.rs G.ns.length) w) := by
  obtain ⟨AT, cT, AN, cN, AR, cR, rfl, _, ⟨hlN, hmN⟩, _, _, _, hR⟩ := hg
  have HRl := hide hR
  have HB := hide hB
  have HOK := hide hok
  have HFT := hide hfit
  have HFF := hide hf
  have HN : Hid (G.ns.length ≤ 40) := hide (by have := (Gm.nons_iff G).1 hok.n; omega)
  have HR40 : Hid (G.rs.length ≤ 40) := hide hok.r40
  have hnn := HN.out
  obtain ⟨w1, hw1⟩ : ∃ y, y = (w.alloc (.cells #[.slice AT G.ts.length cT, .slice AN G.ns.length cN, .slice AR G.rs.length cR, .int .i64 G.st] 26)).alloc (.cells #[.func (Fn.func f) #[] #[]] 94) := ⟨_, rfl⟩
  have hs1 : w1.heap.size = w.heap.size + 2 := by rw [hw1]; simp
  have HB1 : Hid (Below w.heap.size w w1) := hide (by rw [hw1]; exact ((Below.refl _ w).alloc (Nat.le_refl _) _).alloc (by simp) _)
  have x0 : w1.heap[w.heap.size]? = some (.cells #[.slice AT G.ts.length cT, .slice AN G.ns.length cN, .slice AR G.rs.length cR, .int .i64 G.st] 26 (0, 0)) := by rw [hw1, Below.heap_alloc _ _ _ (by simp)]; exact heap_alloc_new w _
  have x1 : w1.heap[w.heap.size + 1]? = some (.cells #[.func (Fn.func f) #[] #[]] 94 (0, 0)) := by rw [hw1]; have := heap_alloc_new (w.alloc (.cells #[.slice AT G.ts.length cT, .slice AN G.ns.length cN, .slice AR G.rs.length cR, .int .i64 G.st] 26)) (.cells #[.func (Fn.func f) #[] #[]] 94); simpa using this
  have c1 : w1.cell? ⟨w.heap.size, 1, none⟩ = some (.slice AN G.ns.length cN) := by rw [cell_of_row w1 _ 1 _ _ _ x0]; rfl
  have c2 : w1.cell? ⟨w.heap.size, 2, none⟩ = some (.slice AR G.rs.length cR) := by rw [cell_of_row w1 _ 2 _ _ _ x0]; rfl
  have cf : w1.cell? ⟨w.heap.size + 1, 0, none⟩ = some (.func (Fn.func f) #[] #[]) := by rw [cell_of_row w1 _ 0 _ _ _ x1]; rfl
  have HC2 := hide c2
  have HCF := hide cf
  have HS1 := hide hs1
  have hd0 : w.heap.size < w1.heap.size := by omega
  have hlen : (G.ns.length : Int) ≤ 9223372036854775807 := by omega
  clear hR hB hok hfit hf x0 x1 c2 cf hs1
  go_enter Try.func59, Try.ntmps59
  go_upto_region 1 with fail
  rw [← hw1]
  clear hw1
  go_upto_region 2 with (at_make; refine mkO_arm rfl (.tmp 8) (.tmp 8) _ rfl Try.underlying43 G.ns.length _ _ rfl rfl rfl rfl (by omega) ?_; intro w2 hu2 hb2 hlt2)
  have x3 := heap_alloc_new w2 (.cells #[.slice (some ⟨w1.heap.size, 0, none⟩) G.ns.length G.ns.length] 43)
  have hu3 := hu2.alloc (.cells #[.slice (some ⟨w1.heap.size, 0, none⟩) G.ns.length G.ns.length] 43)
  have hb3 : Below w1.heap.size w1 (w2.alloc (.cells #[.slice (some ⟨w1.heap.size, 0, none⟩) G.ns.length G.ns.length] 43)) := hb2.alloc hb2.size _
  obtain ⟨w3, hw3⟩ : ∃ y, y = w2.alloc (.cells #[.slice (some ⟨w1.heap.size, 0, none⟩) G.ns.length G.ns.length] 43) := ⟨_, rfl⟩
  rw [← hw3] at x3 hu3 hb3 ⊢
  have hs3 : w2.heap.size < w3.heap.size := by rw [hw3]; simp
  have c2 := (hb3.cell (p := ⟨w.heap.size, 2, none⟩) (by simp only; omega)).trans HC2.out
  have cf := (hb3.cell (p := ⟨w.heap.size + 1, 0, none⟩) (by have := HS1.out; simp only; omega)).trans HCF.out
  have ck : w3.cell? ⟨w2.heap.size, 0, none⟩ = some (.slice (some ⟨w1.heap.size, 0, none⟩) G.ns.length G.ns.length) := by rw [cell_of_row w3 _ 0 _ _ _ x3]; rfl
  have hd3 : w.heap.size < w3.heap.size := by omega
  have hW3 : Below w.heap.size w w3 := HB1.out.trans (hb3.mono (by have := HS1.out; omega))
  have hR3 : RdRl w3 B AR G.rs := HRl.out.keep fun g o hg => hW3.cell (p := ⟨g, o, none⟩) (Nat.lt_of_lt_of_le hg HB.out)
  have HGR := hide (grow_any 79 (w.heap.size + 1) w2.heap.size (enter_of Try.func79 (by kernel_rfl) (by kernel_rfl)) G.rs AR cR G.ns.length B w1.heap.size G.ns.length w3 (List.replicate G.ns.length false) (Gm.Gn tm G.rs) (Gm.brL tm)
    hR3 (Nat.le_trans HB.out hW3.size) (by have := HB.out; omega) hu3 (by simp) (Gm.Snd.none tm G.rs _) (by have := HR40.out; omega)
    (fun y s x A' c' hgr hu hl hx hr => by
      have e := HFT.out.r x hx
      have q2 := kept_cell hgr ck (by omega)
      rw [← hl] at q2
      exact lefts1_any f hE tm x s A' (some ⟨w1.heap.size, 0, none⟩) c' s.length B (w.heap.size + 1) w2.heap.size y
        (fun z y' hy hz => HFF.out z s _ _ y'.heap.size y' (e.2.2 z hz) (fun h => by rw [hl]; exact HOK.out.sin x hx z hz h) ((hu.below hy hu.lt).rd0 (by have := hy.size; have := hu.lt; omega)))
        (kept_cell hgr cf (by have := HS1.out; omega)) q2 hr (Nat.le_trans HB.out (Nat.le_trans hW3.size hgr.size)) (by have := (Gm.rule_in (HOK.out.rr x hx)).1; omega))
    (fun s x hx hl hd m hm => by
      obtain ⟨rfl, ha⟩ := Gm.brL_mem hm
      have h1 := HOK.out.lin x hx
      exact ⟨h1.1, h1.2, Gm.Gn.of hx (Gm.Snd.all hd ha)⟩)
    (fun s x _ => Gm.brL_len tm s x))
  have HCK := hide ck
  have HX3 := hide (fun (y : World) (h : w3.grownBy y (some w1.heap.size)) => kept_cell h ck (by omega))
  have HW3 := hide hW3
  have HFIN : Hid (∀ (y : World) (s : List Bool), Grw w3 y w1.heap.size G.ns.length (Gm.Gn tm G.rs) (List.replicate G.ns.length false) s → (∀ x ∈ G.rs, ∀ m ∈ Gm.brL tm s x, s.getD m.toNat false = true) → s = Gm.gn tm G.rs G.ns.length ∧ Below w.heap.size w y) := hide (fun y s hg hc => ⟨Gm.gn_row hg.l hg.d (fun x hx ha => hc x hx _ (Gm.brL_of ha)), below_only HW3.out hg.g (by have := HS1.out; omega) HW3.out.size⟩)
  have hl2 : w2.heap.size < w3.heap.size := hs3
  clear hu3 hb3 x3 hR3 hW3 cf c1 hu2 hb2 hs3 hw3
  go_wp2_with fail
  refine HGR.out.mono ?_; rintro _ w4 ⟨rfl, s, hg4, hc4⟩
  obtain ⟨e4, hb4⟩ := HFIN.out w4 s hg4 hc4
  have ck4 := HX3.out w4 hg4.g
  have hu4 := hide hg4.u
  have HB4 := hide hb4
  have hl4 : w2.heap.size < w4.heap.size := block_lt_of_cell ck4
  clear hg4 hc4 hb4 HGR HFIN HX3
  go_wp2
  go_ret
  subst e4
  exact ⟨w1.heap.size, by rw [Gm.gn_len]; rfl, by omega, hu4.out, HB4.out⟩

def RowB (b : Bool) (s : List Bool) (w : World) (e : Ending) (w' : World) : Prop := (b = true → RowT s w e w') ∧ (b = false → e = .returned (.slice none 0 0) ∧ Below w.heap.size w w')
theorem RowB.rd {b : Bool} {s : List Bool} {w w' : World} {e : Ending} (h : RowB b s w e w') : ∃ A c, e = .returned (.slice A (if b = true then s else []).length c) ∧ RdO w' w'.heap.size A (if b = true then s else []) ∧ Below w.heap.size w w' := by
  cases b
  · obtain ⟨h1, h2⟩ := h.2 rfl
    exact ⟨none, 0, h1, RdO.nil _ _ _, h2⟩
  · obtain ⟨g, h1, h2, h3, h4⟩ := h.1 rfl
    exact ⟨some ⟨g, 0, none⟩, s.length, h1, h3.rd0 h3.lt, h4⟩
set_option maxHeartbeats 2000000 in
theorem nullable_any (v : Value) (G : Gm.Gr) (B : Nat) (w : World) (hg : RdGr w B v G) (hf : Gm.Fit G) (hB : B ≤ w.heap.size) :
    Calls Try.prog 38 #[v] w (RowB (Gm.right G) (Gm.gn false G.rs G.ns.length) w) := by
  have H1 := hide (fun (x : World) (h : Below w.heap.size w x) => gright_any v G B x (hg.below h hB) hf (Nat.le_trans hB h.size))
  have H2 := hide (fun (q : Gm.right G = true) (x : World) (h : Below w.heap.size w x) => lefts_any 60 (enter_of Try.func60 (by kernel_rfl) (by kernel_rfl)) false (fun z is A c B y h1 h2 h3 => passN_any z is A c B y h1 h2 h3) v G B x (hg.below h hB) hf (Gm.right_ok.1 q) (Nat.le_trans hB h.size))
  obtain ⟨AT, cT, AN, cN, AR, cR, rfl, _⟩ := hg
  have HS0 := hide (One.start w #[.slice AT G.ts.length cT, .slice AN G.ns.length cN, .slice AR G.rs.length cR, .int .i64 G.st])
  clear hf
  cases q : Gm.right G
  · rw [q] at H1
    clear q H2
    go_enter Try.func38, Try.ntmps38
    go_wp2_with fail
    refine (H1.out _ HS0.out.below).mono ?_; rintro _ w2 ⟨rfl, hb⟩
    have HB2 := hide (HS0.out.on hb)
    clear hb
    go_wp2
    go_ret
    exact ⟨fun h => by simp at h, fun _ => ⟨rfl, HB2.out.below⟩⟩
  · have H2 := hide (H2.out q)
    rw [q] at H1
    clear q
    go_enter Try.func38, Try.ntmps38
    go_wp2_with fail
    refine (H1.out _ HS0.out.below).mono ?_; rintro _ w2 ⟨rfl, hb⟩
    have HB2 := hide (HS0.out.on hb)
    have q0 := HB2.out.c 0 _ rfl
    have q1 := HB2.out.c 1 _ rfl
    have q2 := HB2.out.c 2 _ rfl
    have q3 := HB2.out.c 3 _ rfl
    have hz2 : w.heap.size < w2.heap.size := HB2.out.size
    clear hb
    go_wp2_with fail
    refine (H2.out _ HB2.out.below).mono ?_; rintro _ w3 ⟨g, rfl, hg1, hu, hb3⟩
    have HU := hide hu
    have HG1 := hide hg1
    have HB3 := hide (HB2.out.on hb3)
    clear hu hb3 hg1
    go_wp2
    go_ret
    exact ⟨fun _ => ⟨g, rfl, by have := HG1.out; omega, HU.out, HB3.out.below⟩, fun h => by simp at h⟩
end Go.Proofs.Ythjohhcgegcmhaa
