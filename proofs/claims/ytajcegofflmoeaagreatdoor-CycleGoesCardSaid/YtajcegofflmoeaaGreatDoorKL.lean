/- Part of the proofs over this program: Ref8M, Read9, Src9, Alive13T, Ints, Alive13, GramOpen, RowKit. -/
import Derived.Deep.Slices
import Derived.Deep.Fields
import Derived.ChangeSame
import Derived.Lib.SmallJoins
import Derived.SliceStrings
import Derived.Test.YtajcegofflmoeaaGreatDoorRows
import Derived.SizedLaws
import Derived.LaidMore
import Derived.Stop.Joined
import Derived.ShutString
import Derived.ChangeOld
import Derived.Test.YtajcegofflmoeaaGreatDoorKF
import Derived.Test.YtajcegofflmoeaaGreatDoorKK
namespace Go.Proofs.YtajcegofflmoeaaGreatDoor
set_option maxRecDepth 100000
open Go.RowKit

def Y.more : Nat → List Prd → List Tok → Res (List Prd)
  | 0, acc, ts => .ok acc ts
  | _ + 1, acc, [] => .ok acc []
  | f + 1, acc, t :: ts => (group [] (t :: ts)).bind fun ps r => Y.more f (acc ++ ps) r
theorem Y.group_kind {t : Tok} {ts r : List Tok} {ps : List Y.Prd} (h : Y.group [] (t :: ts) = .ok ps r) : t.k = 1 := by
  unfold Y.group at h
  obtain ⟨left, m, h1, h⟩ := Y.bind_eq_ok h
  obtain ⟨e, hk⟩ := Y.take_ok h1
  injection e with e _
  subst e
  simpa using hk
theorem apP_wp {w : World} {o : Oper} {a : Act} {K : Act → World → Prop} {Q : Exit → Act → World → Prop}
    (s x : Operand) (t : TypeId) (ho : o.op = .call { callee := .builtin .append, args := #[s, x], argTypes := #[t, t] }) (ht : Tryz.prog.underlying t = some (.slice 97))
    (L : List Int) (base bu : Nat) (v u : Value) (xs ys : List Y.Prd) (hs : a.eval s = v) (hown : OwnP L w base v xs) (hx : a.eval x = u) (hsrc : OwnP L w bu u ys) (hbu : base ≤ bu)
    (hlen : xs.length + ys.length ≤ 1000000) (hbase : base ≤ w.heap.size)
    (hK : ∀ v' w', OwnP L w' base v' (xs ++ ys) → w.grownBy w' v.ownBlock → K (a.put o.dst v') w') :
    o.wp Tryz.prog a w K Q := by
  obtain ⟨i, hi, hz0, hz1, hz2⟩ := info_parts infoP
  have hown0 := hown
  obtain ⟨qs, hq1, hq2, hq3⟩ := hown
  obtain ⟨qy, hy1, hy2, hy3⟩ := hsrc
  have hlq : qs.length = xs.length := by rw [← hq1, List.length_map]
  have hly : qy.length = ys.length := by rw [← hy1, List.length_map]
  have hpl : (pall L qy).length = ys.length * 5 := hy2.1
  rcases hy2.2 with ⟨rfl, h0⟩ | ⟨g, cap, cur, rfl, hb, hg, hn, hm, hc, htk⟩
  · have hz : ys = [] := List.eq_nil_of_length_eq_zero h0
    subst hz
    have hrun := run_append_nil (P := Tryz.prog) w base t o.type 97 i 5 ht hi v xs.length _ hq2 0
    unfold Oper.wp
    simp [execOp, ho, resolve, invoke, builtin, hs, hx, hrun, Result.andThen]
    exact hK v w (by simpa using hown0) (World.grownBy.refl _ _)
  · refine wp_append_own w s x t ho base 97 i _ 5 88 ht hi hz0 hz1 hz2 rfl (by decide) v xs.length (pall L qs) hs hq2 ⟨g, 0, none⟩ ys.length cap (pall L qy) hx hpl ?_ ?_ (by unfold maxLen; omega) (by omega) hbase fun v' w' h1 h2 _ => hK v' w' ?_ h2
    · intro j z hj
      have hjl : j < ys.length * 5 := by have := (List.getElem?_eq_some_iff.1 hj).1; omega
      rw [addZ, Nat.zero_add, cell_of_row w g _ _ _ _ hg]
      rw [← htk, List.getElem?_take_of_lt hjl] at hj
      simpa using hj
    · intro z hz
      obtain ⟨q, _, hz⟩ := List.mem_flatMap.1 hz
      exact pcells_one L q.1 q.2.1 q.2.2 z hz
    · have hoo := own_other hq2 (by decide)
      refine ⟨qs ++ qy, by rw [List.map_append, hq1, hy1], ?_, fun q hq => ?_⟩
      · rw [List.length_append]
        unfold pall at h1 ⊢
        rw [List.flatMap_append]
        exact h1
      · rcases List.mem_append.1 hq with h | h
        · exact (hq3 q h).grown h2 hoo
        · exact ((hy3 q h).less hbu).grown h2 hoo
theorem Rd8.dlen {L : List Int} {B R px py : Nat} {w : World} {ts : List Tok} (h : Rd8 L B R px py w ts) : declLen R w = ts.length := by
  obtain ⟨A, c, h0, _⟩ := h.cell0
  unfold declLen
  rw [h0]
theorem own_apart {w : World} {base base' : Nat} {v v' : Value} {n n' size size' : Nat} {e e' : TypeId} {xs xs' : List Value} (h : w.ownsRow base e size v n xs) (h' : w.ownsRow base' e' size' v' n' xs') (he : e ≠ e') : v.ownBlock = none ∨ v.ownBlock ≠ v'.ownBlock := by
  rcases h'.2 with ⟨rfl, _⟩ | ⟨g, cap, cur, rfl, _, hg, _⟩
  · rcases hv : v.ownBlock with _ | k
    · exact .inl rfl
    · exact .inr (by simp [Value.ownBlock])
  · exact .inr (own_ne h hg he)
set_option maxHeartbeats 8000000 in
theorem of8m (L : List Int) (A : Option Addr) (c px py : Nat) (ts : List Tok) (ds : List Y.Dcl) (p1 ps : List Y.Prd) (f1 : Nat) (m m2 r1 : List Tok) (t9 : Tok) (w : World) (hr : RdT L w w.heap.size A ts) (hc : ts.length ≤ c) (h4 : ts.length ≤ 4000)
    (hd : Y.decls (ts.length + 1) [] ts = .ok ds m) (hk : ∀ d ∈ ds, d.k = 4 ∨ d.k = 5) (h9 : Y.take [9] m = .ok t9 m2) (hg : Y.group [] m2 = .ok p1 r1) (hmo : Y.more f1 p1 r1 = .ok ps []) :
    Calls Tryz.prog 69 #[.slice A ts.length c, .complex .f64 px py] w fun e w' => ∃ dv pv, e = .returned (.tuple #[.agg #[dv, pv], .complex .f64 0 0, .int .i64 0]) ∧ OwnD L w' w.heap.size dv ds ∧ OwnP L w' w.heap.size pv ps ∧ Below w.heap.size w w' := by
  have SC := fun a w m X Y => show (store a (.complex .f64 X Y) m).run Tryz.prog w = stored Tryz.prog w a (.complex .f64 X Y) m from run_store _ w a _ m rfl
  have BR := fun A (n c : Nat) X Y w => (run_build w 119 _ _ (by kernel_rfl) : (Instr.build 119 #[(0, .slice A n c), (1, .complex .f64 X Y)]).run Tryz.prog w = .ok (.agg #[.slice A n c, .complex .f64 X Y, .complex .f64 0 0, .int .i64 0]) w)
  have BS := fun A (n c : Nat) w => (run_build w 66 _ _ (by kernel_rfl) : (Instr.build 66 #[(0, .slice A n c)]).run Tryz.prog w = .ok (.agg #[.slice A n c, .slice none 0 0]) w)
  have HB0 := hide (((Below.refl w.heap.size w).alloc (Nat.le_refl _) (.cells #[.slice none 0 0, .slice none 0 0] 66)).alloc (by simp) (.cells #[.slice A ts.length c, .complex .f64 px py, .complex .f64 0 0, .int .i64 0] 119))
  have HR1 : Hid (Rd8 L w.heap.size (w.heap.size + 1) px py ((w.alloc (.cells #[.slice none 0 0, .slice none 0 0] 66)).alloc (.cells #[.slice A ts.length c, .complex .f64 px py, .complex .f64 0 0, .int .i64 0] 119)) ts) := hide ⟨A, c, by have := heap_alloc_new (w.alloc (.cells #[.slice none 0 0, .slice none 0 0] 66)) (.cells #[.slice A ts.length c, .complex .f64 px py, .complex .f64 0 0, .int .i64 0] 119); rwa [show (w.alloc (.cells #[.slice none 0 0, .slice none 0 0] 66)).heap.size = w.heap.size + 1 by simp] at this, hc, h4, hr.below HB0.out (Nat.le_refl _), by omega⟩
  have HD := hide (fun (x : World) (B R : Nat) (h : Rd8 L B R px py x ts) => decls8 L B R px py (ts.length + 1) ts ds m x h hd (by omega) hk)
  have H9 := hide (fun (x : World) (B R : Nat) (h : Rd8 L B R px py x m) => take8' L B R px py m 9 9 x h t9 m2 ((take_two 9 m).trans h9))
  have HG := hide (fun (x : World) (B R : Nat) (h : Rd8 L B R px py x m2) => group8 L B R px py m2 p1 r1 x h hg)
  have HMO := hide hmo
  have HGL := hide (Y.group_len hg)
  unfold refV at H9
  clear hr hc h4 hd hk h9 hg hmo
  go_enter Tryz.func69, Tryz.ntmps69
  go_wp2_with fail
  refine (HD.out _ _ _ HR1.out).mono ?_; rintro _ w2 ⟨hg2, v2, rfl, ho2, hr2⟩
  have hz0 := block_at hg2 ((Below.block (B := w.heap.size + 1) ((Below.refl _ (w.alloc (.cells #[.slice none 0 0, .slice none 0 0] 66))).alloc (by simp) (.cells #[.slice A ts.length c, .complex .f64 px py, .complex .f64 0 0, .int .i64 0] 119)) w.heap.size (by omega)).trans (heap_alloc_new w _)) (by omega)
  obtain ⟨A2, c2, rfl, _, _⟩ := ho2.form
  have HG2 := hide hg2
  have hs2 : w.heap.size + 2 ≤ w2.heap.size := by have := hg2.size; simpa using this
  have HO2 := hide ho2
  have HRO := hide hr2.other
  have HR2 := hide (hr2.alloc (.cells #[.slice A2 ds.length c2, .slice none 0 0] 66))
  have HZ2 := hide ((Below.heap_alloc w2 (.cells #[.slice A2 ds.length c2, .slice none 0 0] 66) w.heap.size (by omega)).trans hz0)
  clear hg2 ho2 hr2 hz0
  go_wp2_with fail
  refine (H9.out _ _ _ HR2.out).mono ?_; rintro _ w3 ⟨rfl, hg3, hr3⟩
  have HG3 := hide hg3
  have HR3 := hide hr3
  have HZ3 := hide (block_at hg3 HZ2.out (by omega))
  have HB3 := hide (block_kept hg3 (by omega : w.heap.size + 1 < w2.heap.size))
  clear hg3 hr3
  go_wp2_with fail
  have HL1 : Hid (p1.length + r1.length ≤ 4000) := hide (by have h1 := HGL.out; have h2 := HR3.out.len; simp at h1; omega)
  refine (HG.out _ _ _ HR3.out).mono ?_; rintro _ w4 ⟨hg4, v4, rfl, ho4, hr4⟩
  obtain ⟨A4, c4, rfl, _, _⟩ := ho4.form
  have hs3 : w2.heap.size + 1 ≤ w3.heap.size := by have := HG3.out.size; simpa using this
  have hs4 : w3.heap.size ≤ w4.heap.size := hg4.size
  have hb4 := block_at hg4 HB3.out (by omega)
  have hz4 := block_at hg4 HZ3.out (by omega)
  have HGA := hide ((only_alloc HG2.out (.cells #[.slice A2 ds.length c2, .slice none 0 0] 66)).trans (HG3.out.trans hg4))
  have b0 := cell_of_row w4 _ 0 _ _ _ hb4
  have b1 := cell_of_row w4 _ 1 _ _ _ hb4
  have fb1 := frozen_of_row w4 _ 1 _ _ hb4
  have z0 := cell_of_row w4 _ 0 _ _ _ hz4
  have z1 := cell_of_row w4 _ 1 _ _ _ hz4
  have fz0 := frozen_of_row w4 _ 0 _ _ hz4
  have fz1 := frozen_of_row w4 _ 1 _ _ hz4
  have hRl := hr4.lt
  have HO4 := hide ho4
  have HOD4 := hide (HO2.out.grown ((only_alloc (World.grownBy.refl w2 (some (w.heap.size + 1))) (.cells #[.slice A2 ds.length c2, .slice none 0 0] 66)).trans (HG3.out.trans hg4)) ⟨HRO.out, by obtain ⟨z, hz⟩ := HO2.out.own; simp at hz; exact own_off hz (by omega)⟩)
  have HW5 : ∃ w5 : World, w5 = w4.setCell ⟨w2.heap.size, 1, none⟩ (.slice A4 p1.length c4) := ⟨_, rfl⟩
  obtain ⟨w5, hw5⟩ := HW5
  have hb5 : w5.heap[w2.heap.size]? = some (.cells #[.slice A2 ds.length c2, .slice A4 p1.length c4] 66 (0, 0)) := by rw [hw5, heap_setCell_same w4 _ 1 _ _ _ hb4]; rfl
  have hz5 : w5.heap[w.heap.size]? = some (.cells #[.slice none 0 0, .slice none 0 0] 66 (0, 0)) := by rw [hw5, Below.heap_setCell _ _ _ _ (by simp only; omega)]; exact hz4
  have HR5 : Hid (Rd8 L w.heap.size (w.heap.size + 1) px py w5 r1) := hide (by rw [hw5]; exact hr4.far _ _ _ (by omega))
  have HOD5 : Hid (OwnD L w5 (w.heap.size + 2) (.slice A2 ds.length c2) ds) := hide (by rw [hw5]; have h := HOD4.out.grown (only_set (World.grownBy.refl w4 (some w2.heap.size)) 1 (.slice A4 p1.length c4)) ⟨src_other hb4, by obtain ⟨z, hz⟩ := HOD4.out.own; exact own_away hz hb4 (fun cur e => by injection e with _ e; exact absurd e (by decide))⟩; simpa using h)
  have HOP5 : Hid (OwnP L w5 w3.heap.size (.slice A4 p1.length c4) p1) := hide (by rw [hw5]; exact ho4.grown (only_set (World.grownBy.refl w4 (some w2.heap.size)) 1 (.slice A4 p1.length c4)) ⟨src_other hb4, by obtain ⟨z, hz⟩ := ho4.own; exact own_away hz hb4 (fun cur e => by injection e with _ e; exact absurd e (by decide))⟩)
  have HBW : Hid (Below w.heap.size w w5) := hide (by
    rw [hw5]
    refine Below.setCell ?_ (p := ⟨w2.heap.size, 1, none⟩) (by simp only; omega) _
    exact HB0.out.grown HGA.out (by simp; omega) (fun k e => by injection e with e; omega))
  clear hg4 ho4 hr4
  go_wp2_with fail
  rw [← hw5]
  have HB5 := hide hb5
  have HZ5 := hide hz5
  have hpb5 : w3.heap.size ≤ w5.heap.size := by rw [hw5]; simp; omega
  clear hw5 hb5 hz5 b0 b1 fb1 z0 z1 fz0 fz1 hb4 hz4 HO4 HOD4
  go_loopw [] (fun wt => ∃ (f : Nat) (acc : List Y.Prd) (rest : List Tok) (A : Option Addr) (c : Nat), Hid (Y.more f acc rest = .ok ps []) ∧ acc.length + rest.length ≤ 4000 ∧ wt.heap[w2.heap.size]? = some (.cells #[.slice A2 ds.length c2, .slice A acc.length c] 66 (0, 0)) ∧ wt.heap[w.heap.size]? = some (.cells #[.slice none 0 0, .slice none 0 0] 66 (0, 0)) ∧ Rd8 L w.heap.size (w.heap.size + 1) px py wt rest ∧ OwnD L wt (w.heap.size + 2) (.slice A2 ds.length c2) ds ∧ OwnP L wt w3.heap.size (.slice A acc.length c) acc ∧ Below w.heap.size w wt ∧ w3.heap.size ≤ wt.heap.size) (fun wt => declLen (w.heap.size + 1) wt)
  case atStart => exact ⟨f1, p1, r1, A4, c4, HMO, HL1.out, HB5.out, HZ5.out, HR5.out, HOD5.out, HOP5.out, HBW.out, hpb5⟩
  case round =>
    clear HMO HL1 HB5 HZ5 HR5 HOD5 HOP5 HBW hpb5
    obtain ⟨f, acc, rest, A, c, HM, hle, hsb, hzz, hrd, hod, hop, hbw, hpb⟩ := hrel
    obtain ⟨Ax, cx, r0, r3, _⟩ := hrd.cell0
    have HSB := hide hsb
    have HZZ := hide hzz
    have HRD := hide hrd
    have HOD := hide hod
    have HOP := hide hop
    have HBW := hide hbw
    have HPB := hide hpb
    have HLE := hide hle
    have hsz : w.heap.size < wr.heap.size := (Array.getElem?_eq_some_iff.1 hzz).1
    have hsbl : w2.heap.size < wr.heap.size := (Array.getElem?_eq_some_iff.1 hsb).1
    rcases rest with _ | ⟨t, m1⟩
    · have HFIN : Hid (acc = ps) := hide (by
        have h := HM.out
        cases f with
        | zero => injection h
        | succ f => injection h)
      have p0 := cell_of_row wr _ 0 _ _ _ hsb
      have p1' := cell_of_row wr _ 1 _ _ _ hsb
      have y0 := cell_of_row wr _ 0 _ _ _ hzz
      have y1 := cell_of_row wr _ 1 _ _ _ hzz
      have gz0 := frozen_of_row wr _ 0 _ _ hzz
      have gz1 := frozen_of_row wr _ 1 _ _ hzz
      clear hsb hzz hrd hod hop hbw hpb hle HM
      go_wp2
      have hgf := only_set (only_set (World.grownBy.refl wr (some w.heap.size)) 0 (.slice A2 ds.length c2)) 1 (.slice A acc.length c)
      refine bodyPost_ret (v := .tuple #[.agg #[.slice A2 ds.length c2, .slice A acc.length c], .complex .f64 0 0, .int .i64 0]) (by simp [results, Tryz.results69, go_sem, y0, y1]) rfl ⟨_, _, rfl, ?_, ?_, ?_⟩
      · exact (HOD.out.grown hgf ⟨src_other HZZ.out, by obtain ⟨z, hz⟩ := HOD.out.own; exact own_off hz (by omega)⟩).less5 (by omega)
      · rw [← HFIN.out]
        exact (HOP.out.grown hgf ⟨src_other HZZ.out, by obtain ⟨z, hz⟩ := HOP.out.own; exact own_off hz (by omega)⟩).less5 (by omega)
      · exact HBW.out.grown hgf HBW.out.size (fun k e => by injection e with e; omega)
    · obtain ⟨f, rfl⟩ : ∃ f', f = f' + 1 := by
        cases f with
        | zero => have h := HM.out; injection h with _ h; cases h
        | succ f => exact ⟨f, rfl⟩
      have hY := HM.out
      rw [Y.more] at hY
      obtain ⟨p2, r2, hgp, hmo2⟩ := Y.bind_eq_ok hY
      have HMO2 := hide hmo2
      have HGL2 := hide (Y.group_len hgp)
      have HKD := hide (fun (x : World) (h : Rd8 L w.heap.size (w.heap.size + 1) px py x (t :: m1)) => kind8 L w.heap.size (w.heap.size + 1) px py (t :: m1) x h)
      have HGR := hide (fun (x : World) (h : Rd8 L w.heap.size (w.heap.size + 1) px py x (t :: m1)) => group8 L w.heap.size (w.heap.size + 1) px py (t :: m1) p2 r2 x h hgp)
      rw [show kd (t :: m1) = 1 from Y.group_kind hgp] at HKD
      have hlen : 0 < ((t :: m1).length : Int) := by simp
      have HLN : Hid ((t :: m1).length = m1.length + 1) := hide rfl
      clear hY hgp hmo2 HM hsb hzz hrd hod hop hbw hpb hle
      have HRL : Hid ((t :: m1).length = declLen (w.heap.size + 1) wr) := hide HRD.out.dlen.symm
      generalize hrr : t :: m1 = rst at *
      clear hrr
      go_wp2_with fail
      refine (HKD.out _ HRD.out).mono ?_; rintro _ _ ⟨rfl, rfl⟩
      go_upto_region 6 with fail
      refine Calm.region_tree (fun _ => True) (.two [0, 2] 1 (.one [] 3 (.one [] 4 (.one [5] 6 (.fin [])))) 3 (.one [] 1 (.one [] 4 (.one [5] 6 (.fin []))))) (by kernel_rfl) (by kernel_rfl) (fun _ _ d _ _ h => by cases d <;> exact h) trivial ?_
      obtain ⟨x2, hx2⟩ : ∃ x, x = wr.drew := ⟨_, rfl⟩
      rw [← hx2]
      have hgd : wr.grownBy x2 .none := by rw [hx2]; exact drew_grown _ _
      have hbx : Below w.heap.size w x2 := by rw [hx2]; exact below_drewN HBW.out 1
      have HSB2 := hide ((hgd.block w2.heap.size hsbl (by simp)).trans HSB.out)
      have HZZ2 := hide ((hgd.block w.heap.size hsz (by simp)).trans HZZ.out)
      have HRD2 := hide (HRD.out.row hgd)
      have HOD2 := hide (HOD.out.grown hgd (Away.none _ _))
      have HOP2 := hide (HOP.out.grown hgd (Away.none _ _))
      have HBW2 := hide hbx
      have HPB2 : Hid (w3.heap.size ≤ x2.heap.size) := hide (Nat.le_trans HPB.out hgd.size)
      clear hx2 hgd hbx HSB HZZ HRD HOD HOP HBW HPB
      simp only [Calm.wpT, Calm.wpSt, Calm.pickOps, List.getElem?_toArray, List.getElem?_cons_zero, List.getElem?_cons_succ]
      repeat (go_big_quiet_step (fail))
      refine wpQuiet_nil ?_
      refine ⟨?_, ?_⟩
      · intro KK hKK
        try rw [if_pos (by rfl)]
        have c1 := cell_of_row x2 _ 1 _ _ _ HSB2.out
        go_wp2_with fail
        clear c1
        refine hKK _ _ trivial (fun _ => True) (fun _ _ => trivial) trivial ?_
        repeat (go_big_quiet_step (fail))
        refine wpQuiet_nil ?_
        intro KK hKK
        try rw [if_pos (by rfl)]
        go_wp2_with fail
        refine (HGR.out _ HRD2.out).mono ?_; rintro _ x3 ⟨hg3, v3, rfl, ho3, hr3⟩
        have HSB3 := hide (block_at hg3 HSB2.out (by omega))
        have HZZ3 := hide (block_at hg3 HZZ2.out (by omega))
        have HRD3 := hide hr3
        have HOD3 := hide (HOD2.out.grown hg3 ⟨HRD2.out.other, by obtain ⟨z, hz⟩ := HOD2.out.own; exact own_off hz (by omega)⟩)
        have HOP3 := hide (HOP2.out.grown hg3 ⟨HRD2.out.other, by obtain ⟨z, hz⟩ := HOP2.out.own; exact own_off hz (by omega)⟩)
        have HBW3 := hide (HBW2.out.grown hg3 HBW2.out.size (fun k e => by injection e with e; omega))
        have HPB3 := hide (Nat.le_trans HPB2.out hg3.size)
        have HO3 := hide (ho3.less5 HPB2.out)
        have hs23 : x2.heap.size ≤ x3.heap.size := hg3.size
        clear hg3 ho3 hr3
        go_wp2_with fail
        refine hKK _ _ trivial (fun _ => True) (fun _ _ => trivial) trivial ?_
        repeat (go_big_quiet_step (fail))
        refine wpQuiet_nil ?_
        intro KK hKK
        try rw [if_pos (by rfl)]
        refine apP_wp (.tmp 40) (.tmp 42) _ rfl Tryz.underlying64 L w3.heap.size w3.heap.size _ v3 acc p2 rfl HOP3.out rfl HO3.out (Nat.le_refl _) (by have h1 := HLE.out; have h2 := HGL2.out; simp at h2; omega) HPB3.out ?_
        intro v4 x4 ho4 hg4
        obtain ⟨zo, hown⟩ := HOP3.out.own
        have HSB4 := hide (own_keep hown HSB3.out (by decide) hg4)
        have HZZ4 := hide (own_keep hown HZZ3.out (by decide) hg4)
        have HRD4 := hide (HRD3.out.own hown hg4 (by omega))
        have HOD4 := hide (HOD3.out.grown hg4 ⟨own_other hown (by decide), by obtain ⟨z, hz⟩ := HOD3.out.own; exact own_apart hz hown (by decide)⟩)
        have HBW4 := hide (HBW3.out.grown hg4 HBW3.out.size (fun k e => by have := (World.ownsRow.lt hown k e).1; omega))
        have HPB4 := hide (Nat.le_trans HPB3.out hg4.size)
        have hs34 : x3.heap.size ≤ x4.heap.size := hg4.size
        have HO4 := hide ho4
        clear ho4 hg4 hown
        obtain ⟨A4', c4', hv4, _, _⟩ := HO4.out.form
        rw [List.length_append] at hv4
        subst hv4
        go_wp2_with fail
        refine hKK _ _ trivial (fun _ => True) (fun _ _ => trivial) trivial ?_
        repeat (go_big_quiet_step (fail))
        refine wpQuiet_nil ?_
        intro KK hKK
        try rw [if_pos (by rfl)]
        have c1 := cell_of_row x4 _ 1 _ _ _ HSB4.out
        have f1' := frozen_of_row x4 _ 1 _ _ HSB4.out
        go_wp2_with fail
        refine hKK _ _ trivial (fun _ => True) (fun _ _ => trivial) trivial ?_
        refine wpQuiet_nil ?_
        go_wp2_with fail
        have hst := only_set (World.grownBy.refl x4 (some w2.heap.size)) 1 (.slice A4' (acc.length + p2.length) c4')
        have HRD5 := hide (HRD4.out.far w2.heap.size 1 (.slice A4' (acc.length + p2.length) c4') (by omega))
        go_roundw
        case rel =>
          refine ⟨f, acc ++ p2, r2, A4', c4', HMO2, by have h1 := HLE.out; have h2 := HGL2.out; simp at h2 ⊢; omega, ?_, ?_, HRD5.out, ?_, ?_, ?_, ?_⟩
          · rw [List.length_append, heap_setCell_same x4 _ 1 _ _ _ HSB4.out]; rfl
          · rw [Below.heap_setCell _ _ _ _ (by simp only; omega)]; exact HZZ4.out
          · exact HOD4.out.grown hst ⟨src_other HSB4.out, by obtain ⟨z, hz⟩ := HOD4.out.own; exact own_away hz HSB4.out (fun cur e => by injection e with _ e; exact absurd e (by decide))⟩
          · rw [List.length_append]; exact HO4.out.grown hst ⟨src_other HSB4.out, by obtain ⟨z, hz⟩ := HO4.out.own; exact own_away hz HSB4.out (fun cur e => by injection e with _ e; exact absurd e (by decide))⟩
          · exact Below.setCell HBW4.out (p := ⟨w2.heap.size, 1, none⟩) (by simp only; omega) _
          · simpa using HPB4.out
        case measure =>
          rw [HRD5.out.dlen, ← HRL.out]
          have h2 := HGL2.out
          have h3 := HLN.out
          simp at h2
          omega
      · intro KK hKK
        try rw [if_pos (by rfl)]
        go_wp2_with fail
        refine (HGR.out _ HRD2.out).mono ?_; rintro _ x3 ⟨hg3, v3, rfl, ho3, hr3⟩
        have HSB3 := hide (block_at hg3 HSB2.out (by omega))
        have HZZ3 := hide (block_at hg3 HZZ2.out (by omega))
        have HRD3 := hide hr3
        have HOD3 := hide (HOD2.out.grown hg3 ⟨HRD2.out.other, by obtain ⟨z, hz⟩ := HOD2.out.own; exact own_off hz (by omega)⟩)
        have HOP3 := hide (HOP2.out.grown hg3 ⟨HRD2.out.other, by obtain ⟨z, hz⟩ := HOP2.out.own; exact own_off hz (by omega)⟩)
        have HBW3 := hide (HBW2.out.grown hg3 HBW2.out.size (fun k e => by injection e with e; omega))
        have HPB3 := hide (Nat.le_trans HPB2.out hg3.size)
        have HO3 := hide (ho3.less5 HPB2.out)
        have hs23 : x2.heap.size ≤ x3.heap.size := hg3.size
        clear hg3 ho3 hr3
        go_wp2_with fail
        refine hKK _ _ trivial (fun _ => True) (fun _ _ => trivial) trivial ?_
        repeat (go_big_quiet_step (fail))
        refine wpQuiet_nil ?_
        intro KK hKK
        try rw [if_pos (by rfl)]
        have c1 := cell_of_row x3 _ 1 _ _ _ HSB3.out
        go_wp2_with fail
        clear c1
        refine hKK _ _ trivial (fun _ => True) (fun _ _ => trivial) trivial ?_
        repeat (go_big_quiet_step (fail))
        refine wpQuiet_nil ?_
        intro KK hKK
        try rw [if_pos (by rfl)]
        refine apP_wp (.tmp 40) (.tmp 42) _ rfl Tryz.underlying64 L w3.heap.size w3.heap.size _ v3 acc p2 rfl HOP3.out rfl HO3.out (Nat.le_refl _) (by have h1 := HLE.out; have h2 := HGL2.out; simp at h2; omega) HPB3.out ?_
        intro v4 x4 ho4 hg4
        obtain ⟨zo, hown⟩ := HOP3.out.own
        have HSB4 := hide (own_keep hown HSB3.out (by decide) hg4)
        have HZZ4 := hide (own_keep hown HZZ3.out (by decide) hg4)
        have HRD4 := hide (HRD3.out.own hown hg4 (by omega))
        have HOD4 := hide (HOD3.out.grown hg4 ⟨own_other hown (by decide), by obtain ⟨z, hz⟩ := HOD3.out.own; exact own_apart hz hown (by decide)⟩)
        have HBW4 := hide (HBW3.out.grown hg4 HBW3.out.size (fun k e => by have := (World.ownsRow.lt hown k e).1; omega))
        have HPB4 := hide (Nat.le_trans HPB3.out hg4.size)
        have hs34 : x3.heap.size ≤ x4.heap.size := hg4.size
        have HO4 := hide ho4
        clear ho4 hg4 hown
        obtain ⟨A4', c4', hv4, _, _⟩ := HO4.out.form
        rw [List.length_append] at hv4
        subst hv4
        go_wp2_with fail
        refine hKK _ _ trivial (fun _ => True) (fun _ _ => trivial) trivial ?_
        repeat (go_big_quiet_step (fail))
        refine wpQuiet_nil ?_
        intro KK hKK
        try rw [if_pos (by rfl)]
        have c1 := cell_of_row x4 _ 1 _ _ _ HSB4.out
        have f1' := frozen_of_row x4 _ 1 _ _ HSB4.out
        go_wp2_with fail
        refine hKK _ _ trivial (fun _ => True) (fun _ _ => trivial) trivial ?_
        refine wpQuiet_nil ?_
        go_wp2_with fail
        have hst := only_set (World.grownBy.refl x4 (some w2.heap.size)) 1 (.slice A4' (acc.length + p2.length) c4')
        have HRD5 := hide (HRD4.out.far w2.heap.size 1 (.slice A4' (acc.length + p2.length) c4') (by omega))
        go_roundw
        case rel =>
          refine ⟨f, acc ++ p2, r2, A4', c4', HMO2, by have h1 := HLE.out; have h2 := HGL2.out; simp at h2 ⊢; omega, ?_, ?_, HRD5.out, ?_, ?_, ?_, ?_⟩
          · rw [List.length_append, heap_setCell_same x4 _ 1 _ _ _ HSB4.out]; rfl
          · rw [Below.heap_setCell _ _ _ _ (by simp only; omega)]; exact HZZ4.out
          · exact HOD4.out.grown hst ⟨src_other HSB4.out, by obtain ⟨z, hz⟩ := HOD4.out.own; exact own_away hz HSB4.out (fun cur e => by injection e with _ e; exact absurd e (by decide))⟩
          · rw [List.length_append]; exact HO4.out.grown hst ⟨src_other HSB4.out, by obtain ⟨z, hz⟩ := HO4.out.own; exact own_away hz HSB4.out (fun cur e => by injection e with _ e; exact absurd e (by decide))⟩
          · exact Below.setCell HBW4.out (p := ⟨w2.heap.size, 1, none⟩) (by simp only; omega) _
          · simpa using HPB4.out
        case measure =>
          rw [HRD5.out.dlen, ← HRL.out]
          have h2 := HGL2.out
          have h3 := HLN.out
          simp at h2
          omega
end Go.Proofs.YtajcegofflmoeaaGreatDoor

namespace Go.Proofs.YtajcegofflmoeaaGreatDoor
set_option maxRecDepth 100000
open Go.RowKit

structure Sr9 (L : List Int) (xs : List Tok) (ds : List Y.Dcl) (ps : List Y.Prd) (G : Gm.Gr) : Prop where
  b : K.Bytes L
  n : L.length ≤ 2000
  t : toks L = .ok xs
  s : ∃ m t9 m2 p1 r1 f1, Y.decls (xs.length + 1) [] xs = .ok ds m ∧ Y.take [9] m = .ok t9 m2 ∧ Y.group [] m2 = .ok p1 r1 ∧ Y.more f1 p1 r1 = .ok ps []
  z : Ez ds ps
  g : Gm.build ds ps = .ok G
set_option maxHeartbeats 8000000 in
theorem parse8 (A : Option Addr) (c : Nat) (L : List Int) (xs : List Tok) (ds : List Y.Dcl) (ps : List Y.Prd) (G : Gm.Gr) (w : World) (hr : RdB w w.heap.size A L) (hc : L.length ≤ c) (hs : Sr9 L xs ds ps G) :
    Calls Tryz.prog 42 #[.slice A L.length c] w fun e w' => ∃ dv pv, e = .returned (.tuple #[.agg #[dv, pv], .complex .f64 0 0, .int .i64 0]) ∧ OwnD L w' w.heap.size dv ds ∧ OwnP L w' w.heap.size pv ps ∧ Below w.heap.size w w' := by
  have SC := fun a w m X Y => show (store a (.complex .f64 X Y) m).run Tryz.prog w = stored Tryz.prog w a (.complex .f64 X Y) m from run_store _ w a _ m rfl
  have HT := hide (fun (w1 : World) (h1 : Below w.heap.size w w1) => rtoks_any A c L xs w1 (hr.up h1) hs.b hc hs.n hs.t)
  have HB0 := hide (fun o => ((Below.refl w.heap.size w).alloc (Nat.le_refl _) o))
  obtain ⟨m, t9, m2, p1, r1, f1, s1, s2, s3, s4⟩ := hs.s
  have hxs : xs.length ≤ 4000 := by have := (toks_rise L hs.b xs hs.t).count; have := hs.n; omega
  have HOF := hide (fun (w1 : World) (A' : Option Addr) (c' : Nat) (h1 : RdT L w1 w1.heap.size A' xs) (h2 : xs.length ≤ c') => of8m L A' c' (Fl.fl (Pl.pos L).1) (Fl.fl (Pl.pos L).2) xs ds p1 ps f1 m m2 r1 t9 w1 h1 h2 hxs s1 hs.z.k s2 s3 s4)
  clear hr hc hs s1 s2 s3 s4
  go_enter Tryz.func42, Tryz.ntmps42
  go_wp2_with fail
  refine (HT.out _ (HB0.out _)).mono ?_; rintro _ w2 ⟨v, rfl, ho, hb⟩
  obtain ⟨A', c', rfl, hxc, _, hrd⟩ := ho.rd
  have h2 : w2.heap[w.heap.size]? = some (.cells #[.slice none 0 0, .slice none 0 0] 66 (0, 0)) := (hb.block w.heap.size (by simp)).trans (heap_alloc_new w _)
  have HB2 := hide ((HB0.out (.cells #[.slice none 0 0, .slice none 0 0] 66)).trans (hb.mono (HB0.out _).size))
  have HO2 := hide (HOF.out w2 A' c' hrd hxc)
  clear ho hb HT HB0 HOF hrd hxc
  go_wp2_with fail
  refine HO2.out.mono ?_; rintro _ w3 ⟨dv, pv, rfl, hod, hop, hb3⟩
  have h3 := (hb3.block w.heap.size (Array.getElem?_eq_some_iff.1 h2).1).trans h2
  have c0 := cell_of_row w3 _ 0 _ _ _ h3
  have c1 := cell_of_row w3 _ 1 _ _ _ h3
  have f0 := frozen_of_row w3 _ 0 _ _ h3
  have f1 := frozen_of_row w3 _ 1 _ _ h3
  have HB3 := hide (HB2.out.trans (hb3.mono HB2.out.size))
  have HX := hide (other_of h3 (by decide))
  obtain ⟨DA, DC, rfl, _, _⟩ := hod.form
  obtain ⟨PA', PC, rfl, _, _⟩ := hop.form
  have HWD : Hid (OwnD L ((w3.setCell ⟨w.heap.size, 0, none⟩ (.slice DA ds.length DC)).setCell ⟨w.heap.size, 1, none⟩ (.slice PA' ps.length PC)) w.heap.size (.slice DA ds.length DC) ds) := hide (by
    obtain ⟨zs, hz⟩ := hod.own
    exact (hod.less HB2.out.size).grown (only_set (only_set (World.grownBy.refl _ _) _ _) _ _) ⟨HX.out, .inr (own_ne hz h3 (by decide))⟩)
  have HWP : Hid (OwnP L ((w3.setCell ⟨w.heap.size, 0, none⟩ (.slice DA ds.length DC)).setCell ⟨w.heap.size, 1, none⟩ (.slice PA' ps.length PC)) w.heap.size (.slice PA' ps.length PC) ps) := hide (by
    obtain ⟨zs, hz⟩ := hop.own
    exact (hop.less HB2.out.size).grown (only_set (only_set (World.grownBy.refl _ _) _ _) _ _) ⟨HX.out, .inr (own_ne hz h3 (by decide))⟩)
  clear hod hop hb3 HO2 h2 h3
  go_wp2
  refine bodyPost_ret (v := .tuple #[.agg #[.slice DA ds.length DC, .slice PA' ps.length PC], .complex .f64 0 0, .int .i64 0]) (by simp [results, Tryz.results42, go_sem, c0, c1]) rfl ?_
  exact ⟨_, _, rfl, HWD.out, HWP.out, below_far (below_far HB3.out _ (Nat.le_refl _)) _ (Nat.le_refl _)⟩
set_option maxHeartbeats 8000000 in
theorem gread9 (A : Option Addr) (c : Nat) (L : List Int) (xs : List Tok) (ds : List Y.Dcl) (ps : List Y.Prd) (G : Gm.Gr) (w : World) (hr : RdB w w.heap.size A L) (hc : L.length ≤ c) (hs : Sr9 L xs ds ps G) :
    Calls Tryz.prog 25 #[.slice A L.length c] w fun e w' => (∃ g, e = .returned (.tuple #[g, .complex .f64 0 0, .int .i64 0]) ∧ RdGr w' w'.heap.size g G ∧ Gm.Fit G) ∧ Below w.heap.size w w' := by
  have SC := fun a w m X Y => show (store a (.complex .f64 X Y) m).run Tryz.prog w = stored Tryz.prog w a (.complex .f64 X Y) m from run_store _ w a _ m rfl
  have hb1 : Below w.heap.size w (w.alloc (.cells grC 26)) := (Below.refl w.heap.size w).alloc (Nat.le_refl _) _
  have HP := hide (parse8 A c L xs ds ps G _ (hr.up hb1) hc hs)
  have HB1 := hide hb1
  have HG1 := hide (heap_alloc_new w (.cells grC 26))
  have HBA := hide (fun (x : World) (A1 A2 : Option Addr) (c1 c2 : Nat) (h1 : RdDl L x x.heap.size A1 ds) (h2 : RdPd L x x.heap.size A2 ps) => build9 L ds ps A1 A2 c1 c2 G x h1 h2 hs.z hs.g)
  unfold grC at HP HB1
  clear hr hc hs hb1
  go_enter Tryz.func25, Tryz.ntmps25
  go_wp2_with fail
  refine HP.out.mono ?_; rintro _ w2 ⟨dv, pv, rfl, hod, hop, hb2⟩
  obtain ⟨A1, c1, rfl, hrd⟩ := dl_of_own hod
  obtain ⟨A2, c2, rfl, hrp⟩ := pd_of_own hop
  have hgb := (hb2.block w.heap.size (by simp)).trans HG1.out
  have HGB := hide hgb
  have HB2 := hide (HB1.out.trans (hb2.mono HB1.out.size))
  have hgz := (Array.getElem?_eq_some_iff.1 hgb).1
  obtain ⟨w3, hw3⟩ : ∃ x, x = w2.alloc (.cells #[.slice A1 ds.length c1, .slice A2 ps.length c2] 66) := ⟨_, rfl⟩
  have HB3 : Hid (Below w.heap.size w w3) := hide (by rw [hw3]; exact HB2.out.alloc HB2.out.size _)
  have hb23 : Below w2.heap.size w2 w3 := by rw [hw3]; exact (Below.refl _ _).alloc (Nat.le_refl _) _
  have HG3 : Hid (w3.heap[w.heap.size]? = some (.cells grC 26 (0, 0))) := hide ((hb23.block _ hgz).trans hgb)
  have hs3 : w2.heap.size ≤ w3.heap.size := hb23.size
  have HC := hide (HBA.out w3 A1 A2 c1 c2 (fun hn => by
      obtain ⟨g, o, e, h1, h2⟩ := (hrd.keep hb23) hn
      refine ⟨g, o, e, by omega, fun i hi => ?_⟩
      obtain ⟨k1, A', c', k2, k3⟩ := h2 i hi
      exact ⟨k1, A', c', k2, fun hn => by obtain ⟨g, o, e, q1, q2⟩ := k3 hn; exact ⟨g, o, e, by omega, q2⟩⟩) (fun hn => by
      obtain ⟨g, o, e, h1, h2⟩ := (hrp.keep hb23) hn
      refine ⟨g, o, e, by omega, fun i hi => ?_⟩
      obtain ⟨k1, k2, ⟨A', c', k3, k4⟩, k5⟩ := h2 i hi
      exact ⟨k1, k2, ⟨A', c', k3, fun hn => by obtain ⟨g, o, e, q1, q2⟩ := k4 hn; exact ⟨g, o, e, by omega, q2⟩⟩, k5⟩))
  rw [hw3] at HC HB3 HG3
  clear hb2 hgb hod hop hrd hrp hw3 hb23 hs3 HBA
  go_wp2_with fail
  refine HC.out.mono ?_; rintro _ w4 ⟨⟨g, rfl, hgw, hfit⟩, hb4⟩
  have hgb := (hb4.block w.heap.size (by simp; omega)).trans HG3.out
  have g0 : w4.cell? ⟨w.heap.size, 0, none⟩ = some (.slice none 0 0) := cell_of_row w4 _ 0 _ _ _ hgb
  have g1 : w4.cell? ⟨w.heap.size, 1, none⟩ = some (.slice none 0 0) := cell_of_row w4 _ 1 _ _ _ hgb
  have g2 : w4.cell? ⟨w.heap.size, 2, none⟩ = some (.slice none 0 0) := cell_of_row w4 _ 2 _ _ _ hgb
  have g3 : w4.cell? ⟨w.heap.size, 3, none⟩ = some (.int .i64 0) := cell_of_row w4 _ 3 _ _ _ hgb
  have f0 := frozen_of_row w4 _ 0 _ _ hgb
  have f1 := frozen_of_row w4 _ 1 _ _ hgb
  have f2 := frozen_of_row w4 _ 2 _ _ hgb
  have f3 := frozen_of_row w4 _ 3 _ _ hgb
  have hgz4 := (Array.getElem?_eq_some_iff.1 hgb).1
  have HB4 := hide (HB3.out.trans (hb4.mono HB3.out.size))
  obtain ⟨B, N, R, cs, vT, vN, vR, rfl, h, hN⟩ := hgw
  obtain ⟨⟨AT, cT, rfl⟩, ⟨AN, cN, rfl⟩, ⟨AR, cR, rfl⟩⟩ := wraw_form h
  have HGR := hide (fun u0 u1 u2 u3 => (h.more hN).grown (only_set (only_set (only_set (only_set (World.grownBy.refl w4 (some w.heap.size)) 0 u0) 1 u1) 2 u2) 3 u3) (⟨fun g e => by injection e with e; subst e; exact ⟨_, _, hgb, by decide, by decide, by decide, .inl ⟨by decide, by decide⟩⟩⟩))
  have HFI := hide hfit
  clear hb4 hgb h hN hfit
  go_wp2
  refine bodyPost_ret (v := .tuple #[.agg #[.slice AT G.ts.length cT, .slice AN G.ns.length cN, .slice AR G.rs.length cR, .int .i64 G.st], .complex .f64 0 0, .int .i64 0]) (by simp [results, Tryz.results25, go_sem, g0, g1, g2, g3]) rfl ?_
  exact ⟨⟨_, rfl, (HGR.out _ _ _ _).rd (by simp) G.st, HFI.out⟩, below_far (below_far (below_far (below_far HB4.out _ (Nat.le_refl _)) _ (Nat.le_refl _)) _ (Nat.le_refl _)) _ (Nat.le_refl _)⟩
end Go.Proofs.YtajcegofflmoeaaGreatDoor

namespace Go.Proofs.YtajcegofflmoeaaGreatDoor
set_option maxRecDepth 100000
open Go.RowKit

def txB (s : List Int) : Bool := (s.all fun z => decide (0 ≤ z) && decide (z < 256)) && decide (s.length ≤ 100)
def refB (x : Tok) : Bool := txB x.t && Gm.named x.t && !(x.t == [101, 114, 114, 111, 114])
def dcB (d : Y.Dcl) : Bool := (d.k == 4 || d.k == 5) && (d.ns.all fun x => txB x.t && Gm.named x.t) && decide (d.ns.length ≤ 1000)
def pdB (p : Y.Prd) : Bool := txB p.l.t && T.isName p.l.t && (p.r.all refB) && (match p.p with | none => true | some x => refB x) && decide (p.r.length ≤ 1000)
def ezB (ds : List Y.Dcl) (ps : List Y.Prd) : Bool := ds.all dcB && ps.all pdB && decide (ds.length ≤ 1000) && decide (ps.length ≤ 1000) && decide (0 < ps.length)
theorem txB_ok {s : List Int} (h : txB s = true) : K.Tx s := by
  unfold txB at h
  rw [Bool.and_eq_true, decide_eq_true_eq] at h
  exact ⟨bytes_lit _ h.1, by omega⟩
theorem refB_ok {x : Tok} (h : refB x = true) : Ref9 x := by
  unfold refB at h
  simp only [Bool.and_eq_true] at h
  exact ⟨txB_ok h.1.1, h.1.2, by simpa using h.2⟩
theorem ezB_ok {ds : List Y.Dcl} {ps : List Y.Prd} (h : ezB ds ps = true) : Ez ds ps := by
  unfold ezB at h
  simp only [Bool.and_eq_true, decide_eq_true_eq, List.all_eq_true] at h
  obtain ⟨⟨⟨⟨h1, h2⟩, h3⟩, h4⟩, h5⟩ := h
  refine ⟨fun d hd => ?_, fun d hd => ?_, fun p hp => ?_, fun p hp => ?_, h3, h4, h5⟩
  · have := h1 d hd
    unfold dcB at this
    simp only [Bool.and_eq_true, Bool.or_eq_true, beq_iff_eq] at this
    exact this.1.1
  · have := h1 d hd
    unfold dcB at this
    simp only [Bool.and_eq_true, List.all_eq_true, decide_eq_true_eq] at this
    exact ⟨fun x hx => ⟨txB_ok (this.1.2 x hx).1, (this.1.2 x hx).2⟩, by omega⟩
  · have := h2 p hp
    unfold pdB at this
    simp only [Bool.and_eq_true] at this
    exact ⟨txB_ok this.1.1.1.1, this.1.1.1.2⟩
  · have := h2 p hp
    unfold pdB at this
    simp only [Bool.and_eq_true, List.all_eq_true, decide_eq_true_eq] at this
    refine ⟨fun x hx => refB_ok (this.1.1.2 x hx), fun x hx => ?_, this.2⟩
    have h6 := this.1.2
    rw [hx] at h6
    exact refB_ok h6
def gr9 (L : List Int) : Option Gm.Gr :=
  match toks L with
  | .ok xs => match Y.decls (xs.length + 1) [] xs with
    | .ok ds m => match Y.take [9] m with
      | .ok _ m2 => match Y.group [] m2 with
        | .ok p1 r1 => match Y.more (r1.length + 1) p1 r1 with
          | .ok ps [] => match ezB ds ps, Gm.build ds ps with
            | true, .ok G => some G
            | _, _ => none
          | _ => none
        | _ => none
      | _ => none
    | _ => none
  | _ => none
theorem gr9_ok {L : List Int} {G : Gm.Gr} (hb : (L.all fun z => decide (0 ≤ z) && decide (z < 256)) = true) (hn : L.length ≤ 2000) (h : gr9 L = some G) : ∃ xs ds ps, Sr9 L xs ds ps G := by
  unfold gr9 at h
  split at h
  · rename_i xs h1
    split at h
    · rename_i ds m h2
      split at h
      · rename_i t9 m2 h3
        split at h
        · rename_i p1 r1 h4
          split at h
          · rename_i ps h7
            split at h
            · rename_i h5 h6
              injection h with h
              subst h
              exact ⟨xs, ds, ps, bytes_lit _ hb, hn, h1, ⟨m, t9, m2, p1, r1, _, h2, h3, h4, h7⟩, ezB_ok h5, h6⟩
            · cases h
          · cases h
        · cases h
      · cases h
    · cases h
  · cases h
theorem gread_const (L : List Int) (G : Gm.Gr) (hb : (L.all fun z => decide (0 ≤ z) && decide (z < 256)) = true) (hl : L.length ≤ 2000) (hg : gr9 L = some G) (w : World) (n : Nat) (hw : n = w.heap.size) :
    Calls Tryz.prog 25 #[.slice (some ⟨n, 0, none⟩) L.length L.length] (w.alloc (cellsM L)) fun e w' => (∃ g, e = .returned (.tuple #[g, .complex .f64 0 0, .int .i64 0]) ∧ RdGr w' w'.heap.size g G ∧ Gm.Fit G) ∧ Below w.heap.size w w' := by
  subst hw
  obtain ⟨xs, ds, ps, hs⟩ := gr9_ok hb hl hg
  obtain ⟨r1, r2⟩ := litM w L
  exact (gread9 _ L.length L xs ds ps G _ r1 (Nat.le_refl _) hs).mono fun e w' h => ⟨h.1, r2.trans (h.2.mono r2.size)⟩
end Go.Proofs.YtajcegofflmoeaaGreatDoor

namespace Go.Proofs.YtajcegofflmoeaaGreatDoor
set_option maxRecDepth 100000
open Go.RowKit

theorem Gm.stp_c {G : Gm.Gr} (h : Gm.Ok G) {nu pr : List Bool} (h1 : Gm.gn false G.rs G.ns.length = nu) (h2 : Gm.gn true G.rs G.ns.length = pr) : Gm.stp G = G.rs.foldl (fun s x => Gm.addN s x.l.toNat (Gm.toN nu pr x.r)) (List.replicate G.ns.length 0) := by
  rw [← Gm.st_all h, ← h1, ← h2]; rfl
theorem Gm.usf_c {G : Gm.Gr} {pr re : List Bool} (h2 : Gm.gn true G.rs G.ns.length = pr) (h3 : Gm.rc G = re) : Gm.usf G = Gm.ths pr &&& Gm.ths re := by rw [← Gm.ths_usf, h2, h3]
theorem Gm.cyc_c {G : Gm.Gr} (h : Gm.Ok G) {s : List Nat} (hs : Gm.stp G = s) : Gm.cyc G = Gm.thB (fun i => ((Gm.wa G.ns.length s G.ns.length).getD i 0).testBit i) G.ns.length := by
  rw [← Gm.thB_cyc (Gm.wa_bit h), hs]
theorem Gm.rc_c {G : Gm.Gr} (h : Gm.Ok G) {pr : List Bool} (h2 : Gm.gn true G.rs G.ns.length = pr) (h0 : 0 ≤ G.st) (h1 : G.st < G.ns.length) : Gm.rc G = Gm.times (Gm.reachP pr G.rs) G.ns.length ((List.replicate G.ns.length false).set G.st.toNat true) := by
  rw [← Gm.reach_rc h.lin h.sin h0 h1, h2]

def et13a : List Int := [37, 37, 32, 115, 32, 58, 32, 97, 32, 124, 32, 39, 98, 39, 32, 59, 32, 97, 32, 58, 32, 115, 32, 59]
def gt13a : Gm.Gr := ⟨[⟨[39, 98, 39], 0, 0⟩], [[115], [97]], [⟨0, [-2], -1⟩, ⟨0, [0], 0⟩, ⟨1, [-1], -1⟩], 0⟩
theorem gre13a : gr9 et13a = some gt13a := by kernel_rfl
def et13b : List Int := [37, 37, 32, 115, 32, 58, 32, 110, 32, 115, 32, 110, 32, 124, 32, 39, 97, 39, 32, 59, 32, 110, 32, 58, 32, 59]
def gt13b : Gm.Gr := ⟨[⟨[39, 97, 39], 0, 0⟩], [[115], [110]], [⟨0, [-2, -1, -2], -1⟩, ⟨0, [0], 0⟩, ⟨1, [], -1⟩], 0⟩
theorem gre13b : gr9 et13b = some gt13b := by kernel_rfl
def et13c : List Int := [37, 37, 32, 115, 32, 58, 32, 116, 32, 39, 97, 39, 32, 124, 32, 116, 32, 59, 32, 116, 32, 58, 32, 117, 32, 59, 32, 117, 32, 58, 32, 39, 117, 39, 32, 124, 32, 59]
def gt13c : Gm.Gr := ⟨[⟨[39, 97, 39], 0, 0⟩, ⟨[39, 117, 39], 0, 0⟩], [[115], [116], [117]], [⟨0, [-2, 0], 0⟩, ⟨0, [-2], -1⟩, ⟨1, [-3], -1⟩, ⟨2, [1], 1⟩, ⟨2, [], -1⟩], 0⟩
theorem gre13c : gr9 et13c = some gt13c := by kernel_rfl
theorem right13a : Gm.right gt13a = true := by decide +kernel
theorem right13b : Gm.right gt13b = true := by decide +kernel
theorem right13c : Gm.right gt13c = true := by decide +kernel
theorem ok13a : Gm.Ok gt13a := Gm.right_ok.1 right13a
theorem ok13b : Gm.Ok gt13b := Gm.right_ok.1 right13b
theorem ok13c : Gm.Ok gt13c := Gm.right_ok.1 right13c
theorem nul13a : Gm.gn false gt13a.rs gt13a.ns.length = [false, false] := by rw [← Gm.grow_gn ok13a.lin]; decide +kernel
theorem pro13a : Gm.gn true gt13a.rs gt13a.ns.length = [true, true] := by rw [← Gm.grow_gn ok13a.lin]; decide +kernel
theorem nul13b : Gm.gn false gt13b.rs gt13b.ns.length = [false, true] := by rw [← Gm.grow_gn ok13b.lin]; decide +kernel
theorem pro13b : Gm.gn true gt13b.rs gt13b.ns.length = [true, true] := by rw [← Gm.grow_gn ok13b.lin]; decide +kernel
theorem nul13c : Gm.gn false gt13c.rs gt13c.ns.length = [true, true, true] := by rw [← Gm.grow_gn ok13c.lin]; decide +kernel
theorem pro13c : Gm.gn true gt13c.rs gt13c.ns.length = [true, true, true] := by rw [← Gm.grow_gn ok13c.lin]; decide +kernel
theorem rea13a : Gm.rc gt13a = [true, true] := by rw [Gm.rc_c ok13a pro13a (by decide) (by decide)]; decide +kernel
theorem rea13b : Gm.rc gt13b = [true, true] := by rw [Gm.rc_c ok13b pro13b (by decide) (by decide)]; decide +kernel
theorem rea13c : Gm.rc gt13c = [true, true, true] := by rw [Gm.rc_c ok13c pro13c (by decide) (by decide)]; decide +kernel
theorem stp13a : Gm.stp gt13a = [2, 1] := by rw [Gm.stp_c ok13a nul13a pro13a]; decide +kernel
theorem stp13b : Gm.stp gt13b = [1, 0] := by rw [Gm.stp_c ok13b nul13b pro13b]; decide +kernel
theorem stp13c : Gm.stp gt13c = [2, 4, 0] := by rw [Gm.stp_c ok13c nul13c pro13c]; decide +kernel
theorem usf13a : Gm.usf gt13a = 3 := by rw [Gm.usf_c pro13a rea13a]; decide +kernel
theorem usf13b : Gm.usf gt13b = 3 := by rw [Gm.usf_c pro13b rea13b]; decide +kernel
theorem usf13c : Gm.usf gt13c = 7 := by rw [Gm.usf_c pro13c rea13c]; decide +kernel
theorem cyc13a : Gm.cyc gt13a = 3 := by rw [Gm.cyc_c ok13a stp13a]; decide +kernel
theorem cyc13b : Gm.cyc gt13b = 1 := by rw [Gm.cyc_c ok13b stp13b]; decide +kernel
theorem cyc13c : Gm.cyc gt13c = 0 := by rw [Gm.cyc_c ok13c stp13c]; decide +kernel
theorem cyG13a : Gm.cyG gt13a = 3 := by unfold Gm.cyG; rw [if_pos right13a, cyc13a]
theorem en13a : Gm.enB gt13a = true := by unfold Gm.enB Gm.cyG Gm.usG; rw [if_pos right13a, if_pos right13a, cyc13a, usf13a]; rfl
theorem en13b : Gm.enB gt13b = true := by unfold Gm.enB Gm.cyG Gm.usG; rw [if_pos right13b, if_pos right13b, cyc13b, usf13b]; rfl
theorem en13c : Gm.enB gt13c = false := by unfold Gm.enB Gm.cyG Gm.usG; rw [if_pos right13c, if_pos right13c, cyc13c, usf13c]; rfl
theorem orE13a : Gm.orE gt13a = 10 := by unfold Gm.orE; rw [if_pos right13a, if_pos en13a]
theorem orE13c : Gm.orE gt13c = 0 := by unfold Gm.orE; rw [if_pos right13c, if_neg (by rw [en13c]; decide)]
theorem or13c : Gm.orG gt13c = [2, 1, 0] := by
  unfold Gm.orG
  rw [if_pos ⟨right13c, en13c⟩]
  unfold Gm.order
  rw [usf13c, stp13c]; decide +kernel
def gr013 : Gm.Gr := ⟨[], [], [], 0⟩
theorem orE130 : Gm.orE gr013 = 1 := by unfold Gm.orE; rw [if_neg (by decide +kernel)]
theorem gr013_rd (w : World) (B : Nat) : RdGr w B (.agg #[.slice none 0 0, .slice none 0 0, .slice none 0 0, .int .i64 0]) gr013 := ⟨none, 0, none, 0, none, 0, rfl, by simp [gr013], by simp [gr013], by simp [gr013], fun h => absurd rfl h, fun h => absurd rfl h, fun h => absurd rfl h⟩
theorem gr013_fit : Gm.Fit gr013 := ⟨by simp [gr013], by simp [gr013], by simp [gr013], by unfold Gm.In; simp [gr013]⟩
theorem build_gr13 (w : World) : (Instr.build 26 #[]).run Tryz.prog w = .ok (.agg #[.slice none 0 0, .slice none 0 0, .slice none 0 0, .int .i64 0]) w := run_build w 26 _ _ (by kernel_rfl)
end Go.Proofs.YtajcegofflmoeaaGreatDoor

namespace Go.Proofs.YtajcegofflmoeaaGreatDoor
open Go.RowKit

theorem ints_any (A A' : Option Addr) (ca cb : Nat) (xs ys : List Int) (w : World) (hra : RdI w w.heap.size A xs) (hrb : RdI w w.heap.size A' ys) (hxl : xs.length ≤ 9223372036854775807) (hyl : ys.length ≤ 9223372036854775807) :
    Calls Tryz.prog 18 #[.slice A xs.length ca, .slice A' ys.length cb] w fun e w' => e = .returned (.bool (decide (xs = ys))) ∧ ∃ n, w' = w.drewN n := by
  by_cases hl : xs.length = ys.length
  · have HL := hide hl
    rw [← hl]
    have hne : ((xs.length : Int) != (xs.length : Int)) = false := by simp
    clear hl hyl
    go_enter Tryz.func18, Tryz.ntmps18
    go_wp2
    go_loopw [5] (fun vi wr => ∃ (k q : Nat), k ≤ xs.length ∧ vi = .int .i64 k ∧ xs.take k = ys.take k ∧ wr = w.drewN q) (fun vi _ => xs.length - (intOf vi).toNat)
    case atStart => exact ⟨0, 0, Nat.zero_le _, rfl, rfl, rfl⟩
    case round =>
      obtain ⟨k, q, hk, rfl, ht, hwr⟩ := hrel
      have HT := hide ht
      have HW := hide hwr
      by_cases hlt : k < xs.length
      · obtain ⟨ga, oa, rfl, _, ha⟩ := hra (by omega)
        obtain ⟨gb, ob, rfl, _, hb⟩ := hrb (by have := HL.out; omega)
        have ca' : wr.cell? ⟨ga, oa + k, none⟩ = some (.int .i64 (xs.getD k 0)) := by rw [hwr]; exact ha k hlt
        have cb' : wr.cell? ⟨gb, ob + k, none⟩ = some (.int .i64 (ys.getD k 0)) := by rw [hwr]; exact hb k (by have := HL.out; omega)
        have k0 : (0 : Int) ≤ (k : Int) := by omega
        have k1 : (k : Int) < (xs.length : Int) := by omega
        clear ha hb ht hwr hra hrb
        by_cases hxy : xs.getD k 0 = ys.getD k 0
        · have HN : Hid (xs.take (k + 1) = ys.take (k + 1)) := by
            show xs.take (k + 1) = ys.take (k + 1)
            rw [L.take_snoc xs k hlt, L.take_snoc ys k (by have := HL.out; omega), HT.out, hxy]
          rw [← hxy] at cb'
          generalize xs.getD k 0 = x at *
          have hx' : (x != x) = false := by simp
          clear hxy
          go_wp2_with fail
          go_quiet (fail)
          go_wp2
          go_roundw
          case rel => exact ⟨k + 1, _, hlt, by go_num, HN.out, by rw [HW.out]; exact World.drewN_drewN _ _ _⟩
          case measure => simp [intOf]; omega
        · have HN : Hid (decide (xs = ys) = false) := by
            show decide (xs = ys) = false
            rw [decide_eq_false_iff_not]; rintro rfl; exact hxy rfl
          generalize xs.getD k 0 = x at *
          generalize ys.getD k 0 = y at *
          have hx' : (x != y) = true := by simpa using hxy
          clear hxy
          go_wp2_with fail
          go_quiet (fail)
          go_wp2
          go_ret
          exact ⟨ret_bool HN.out.symm, _, by rw [HW.out, World.drewN_drewN]⟩
      · obtain rfl : k = xs.length := by omega
        have HE : Hid (decide (xs = ys) = true) := by
          show decide (xs = ys) = true
          rw [decide_eq_true_iff]
          have h := HT.out
          rwa [List.take_length, HL.out, List.take_length] at h
        clear ht
        subst hwr
        go_wp2
        go_ret
        exact ⟨ret_bool HE.out.symm, _, rfl⟩
  · have HE : Hid (decide (xs = ys) = false) := by
      show decide (xs = ys) = false
      rw [decide_eq_false_iff_not]; rintro rfl; exact hl rfl
    have hne : ((xs.length : Int) != (ys.length : Int)) = true := by simp; omega
    go_enter Tryz.func18, Tryz.ntmps18
    go_wp2
    go_ret
    exact ⟨ret_bool HE.out.symm, 0, rfl⟩

end Go.Proofs.YtajcegofflmoeaaGreatDoor

namespace Go.Proofs.YtajcegofflmoeaaGreatDoor
set_option maxRecDepth 100000
open Go.RowKit

theorem ints_same13 (A A' : Option Addr) (ca cb n : Nat) (xs : List Int) (w : World) (hra : RdI w w.heap.size A xs) (hrb : RdI w w.heap.size A' xs) (hxl : xs.length ≤ 9223372036854775807) (hn : n = xs.length) :
    Calls Tryz.prog 18 #[.slice A n ca, .slice A' n cb] w fun e w' => e = .returned (.bool true) ∧ ∃ n, w' = w.drewN n := by
  subst hn
  exact (ints_any A A' ca cb xs xs w hra hrb hxl hxl).mono fun e w' h => ⟨by rw [h.1, decide_eq_true rfl], h.2⟩
theorem sets_same13 (A A' : Option Addr) (ca cb n : Nat) (s : List Nat) (w : World) (hra : RdZ w w.heap.size A s) (hrb : RdZ w w.heap.size A' s) (hxl : s.length ≤ 9223372036854775807) (hn : n = s.length) :
    Calls Tryz.prog 11 #[.slice A n ca, .slice A' n cb] w fun e w' => e = .returned (.bool true) ∧ ∃ n, w' = w.drewN n := by
  have h := sets_any A A' ca cb (zi s) (zi s) w hra hrb (by rw [zi_len]; exact hxl) (by rw [zi_len]; exact hxl)
  rw [zi_len] at h
  subst hn
  exact h.mono fun e w' h => ⟨by rw [h.1, decide_eq_true rfl], h.2⟩
theorem litZ13 (w : World) (s : List Nat) : RdZ (w.alloc (cellsU (zi s))) (w.alloc (cellsU (zi s))).heap.size (some ⟨w.heap.size, 0, none⟩) s := (litU1 w (zi s)).1
set_option maxHeartbeats 8000000 in
theorem alive13_any (w : World) (ht : Tab32 w) : Calls Tryz.prog 7 #[] w fun e w' => e = .returned (.bool true) ∧ Below w.heap.size w w' := by
  have HT := hide ht
  have T1 := hide (gread_const et13a gt13a (by decide) (by decide) gre13a w w.heap.size rfl)
  have T2 := hide (fun (w1 : World) (n : Nat) (hw : n = w1.heap.size) => gread_const et13b gt13b (by decide) (by decide) gre13b w1 n hw)
  have T3 := hide (fun (w1 : World) (n : Nat) (hw : n = w1.heap.size) => gread_const et13c gt13c (by decide) (by decide) gre13c w1 n hw)
  have V1 := hide (fun w : World => show (convert 49 49 (.slice (some ⟨w.heap.size, 0, none⟩) 24 24)).run Tryz.prog (w.alloc (.cells #[.int .u8 37, .int .u8 37, .int .u8 32, .int .u8 115, .int .u8 32, .int .u8 58, .int .u8 32, .int .u8 97, .int .u8 32, .int .u8 124, .int .u8 32, .int .u8 39, .int .u8 98, .int .u8 39, .int .u8 32, .int .u8 59, .int .u8 32, .int .u8 97, .int .u8 32, .int .u8 58, .int .u8 32, .int .u8 115, .int .u8 32, .int .u8 59] 5)) = .ok (.slice (some ⟨w.heap.size, 0, none⟩) 24 24) (w.alloc (cellsM et13a)) from lit_conv w et13a 24 24)
  have V2 := hide (fun w : World => show (convert 49 49 (.slice (some ⟨w.heap.size, 0, none⟩) 26 26)).run Tryz.prog (w.alloc (.cells #[.int .u8 37, .int .u8 37, .int .u8 32, .int .u8 115, .int .u8 32, .int .u8 58, .int .u8 32, .int .u8 110, .int .u8 32, .int .u8 115, .int .u8 32, .int .u8 110, .int .u8 32, .int .u8 124, .int .u8 32, .int .u8 39, .int .u8 97, .int .u8 39, .int .u8 32, .int .u8 59, .int .u8 32, .int .u8 110, .int .u8 32, .int .u8 58, .int .u8 32, .int .u8 59] 5)) = .ok (.slice (some ⟨w.heap.size, 0, none⟩) 26 26) (w.alloc (cellsM et13b)) from lit_conv w et13b 26 26)
  have V3 := hide (fun w : World => show (convert 49 49 (.slice (some ⟨w.heap.size, 0, none⟩) 38 38)).run Tryz.prog (w.alloc (.cells #[.int .u8 37, .int .u8 37, .int .u8 32, .int .u8 115, .int .u8 32, .int .u8 58, .int .u8 32, .int .u8 116, .int .u8 32, .int .u8 39, .int .u8 97, .int .u8 39, .int .u8 32, .int .u8 124, .int .u8 32, .int .u8 116, .int .u8 32, .int .u8 59, .int .u8 32, .int .u8 116, .int .u8 32, .int .u8 58, .int .u8 32, .int .u8 117, .int .u8 32, .int .u8 59, .int .u8 32, .int .u8 117, .int .u8 32, .int .u8 58, .int .u8 32, .int .u8 39, .int .u8 117, .int .u8 39, .int .u8 32, .int .u8 124, .int .u8 32, .int .u8 59] 5)) = .ok (.slice (some ⟨w.heap.size, 0, none⟩) 38 38) (w.alloc (cellsM et13c)) from lit_conv w et13c 38 38)
  have U1 := V1.out w
  have hbg := fun w => build_gr13 w
  have hs1 : ∀ (x : World) (o : Obj), (x.alloc o).heap.size = x.heap.size + 1 := fun x o => by simp
  have hl1 : et13a.length = 24 := rfl
  have hl2 : et13b.length = 26 := rfl
  have hl3 : et13c.length = 38 := rfl
  rw [hl1] at T1
  rw [hl2] at T2
  rw [hl3] at T3
  clear V1 hl1 hl2 hl3 ht
  go_enter Tryz.func7, Tryz.ntmps7
  go_wp2_with fail
  refine T1.out.mono ?_; rintro _ w1 ⟨⟨g, rfl, hg1, hft1⟩, hb1⟩
  have HB1 := hide hb1
  have HCY := hide (fun (x : World) (h : Below w1.heap.size w1 x) => cCycles_any g gt13a w1.heap.size x (hg1.below h (Nat.le_refl _)) hft1 h.size)
  have HOA := hide (fun (x : World) (h : Below w1.heap.size w1 x) => cOrder_any g gt13a w1.heap.size x (hg1.below h (Nat.le_refl _)) hft1 h.size (HT.out.below (HB1.out.trans (h.mono HB1.out.size))))
  rw [cyG13a] at HCY
  unfold OrAns at HOA
  rw [orE13a] at HOA
  obtain ⟨AT1, cT1, AN1, cN1, AR1, cR1, rfl, _, _, _, _, _, _⟩ := hg1
  have HK1 := hide (One.start w1 #[.slice AT1 gt13a.ts.length cT1, .slice AN1 gt13a.ns.length cN1, .slice AR1 gt13a.rs.length cR1, .int .i64 gt13a.st])
  have HY1 := hide (fun (x : World) (h : One w1 #[.slice AT1 gt13a.ts.length cT1, .slice AN1 gt13a.ns.length cN1, .slice AR1 gt13a.rs.length cR1, .int .i64 gt13a.st] x) => And.intro (h.c 0 _ rfl) (And.intro (h.c 1 _ rfl) (And.intro (h.c 2 _ rfl) (h.c 3 _ rfl))))
  clear hb1 U1 T1 hft1
  have U2 := fun (o : Obj) => V2.out (w1.alloc o)
  simp only [hs1] at U2
  clear V2
  go_wp2_with fail
  refine (T2.out _ _ (hs1 _ _).symm).mono ?_; rintro _ w2 ⟨⟨g2, rfl, hg2, hft2⟩, hb2⟩
  have HB2 := hide (HK1.out.on hb2)
  have HST := hide (fun (x : World) (h : Below w2.heap.size w2 x) => (show Calls _ _ _ _ (RowZn _ _) from (cSteps_any g2 gt13b w2.heap.size x (hg2.below h (Nat.le_refl _)) hft2 h.size).mono fun e w' k => k.1 right13b))
  have HEB := hide (fun (x : World) (h : Below w2.heap.size w2 x) => cEndless_any g2 gt13b w2.heap.size x (hg2.below h (Nat.le_refl _)) hft2 h.size)
  unfold RowZn at HST
  rw [stp13b] at HST
  rw [en13b] at HEB
  obtain ⟨AT2, cT2, AN2, cN2, AR2, cR2, rfl, _, _, _, _, _, _⟩ := hg2
  have HK2 := hide (One.start w2 #[.slice AT2 gt13b.ts.length cT2, .slice AN2 gt13b.ns.length cN2, .slice AR2 gt13b.rs.length cR2, .int .i64 gt13b.st])
  have HY2 := hide (fun (x : World) (h : One w2 #[.slice AT2 gt13b.ts.length cT2, .slice AN2 gt13b.ns.length cN2, .slice AR2 gt13b.rs.length cR2, .int .i64 gt13b.st] x) => And.intro (h.c 0 _ rfl) (And.intro (h.c 1 _ rfl) (And.intro (h.c 2 _ rfl) (h.c 3 _ rfl))))
  clear hb2 U2 T2 hft2
  have U3 := fun (o : Obj) => V3.out (w2.alloc o)
  simp only [hs1] at U3
  clear V3
  go_wp2_with fail
  refine (T3.out _ _ (hs1 _ _).symm).mono ?_; rintro _ w3 ⟨⟨g3, rfl, hg3, hft3⟩, hb3⟩
  have HB3 := hide (HK2.out.on hb3)
  have HOC := hide (fun (x : World) (h : Below w3.heap.size w3 x) => cOrder_any g3 gt13c w3.heap.size x (hg3.below h (Nat.le_refl _)) hft3 h.size (HT.out.below (HB1.out.trans ((HB2.out.on (HB3.out.on h).below).below.mono HB1.out.size))))
  have HEC := hide (fun (x : World) (h : Below w3.heap.size w3 x) => cEndless_any g3 gt13c w3.heap.size x (hg3.below h (Nat.le_refl _)) hft3 h.size)
  unfold OrAns at HOC
  rw [orE13c, or13c] at HOC
  rw [en13c] at HEC
  obtain ⟨AT3, cT3, AN3, cN3, AR3, cR3, rfl, _, _, _, _, _, _⟩ := hg3
  have HK3 := hide (One.start w3 #[.slice AT3 gt13c.ts.length cT3, .slice AN3 gt13c.ns.length cN3, .slice AR3 gt13c.rs.length cR3, .int .i64 gt13c.st])
  have HY3 := hide (fun (x : World) (h : One w3 #[.slice AT3 gt13c.ts.length cT3, .slice AN3 gt13c.ns.length cN3, .slice AR3 gt13c.rs.length cR3, .int .i64 gt13c.st] x) => And.intro (h.c 0 _ rfl) (And.intro (h.c 1 _ rfl) (And.intro (h.c 2 _ rfl) (h.c 3 _ rfl))))
  clear hb3 U3 T3 hft3
  have HALL := hide (fun (x : World) (h : One w3 #[.slice AT3 gt13c.ts.length cT3, .slice AN3 gt13c.ns.length cN3, .slice AR3 gt13c.rs.length cR3, .int .i64 gt13c.st] x) => And.intro (HB2.out.on (HB3.out.on h.below).below) (And.intro (HB3.out.on h.below) h))
  have HBF := hide (fun (x : World) (h : One w3 #[.slice AT3 gt13c.ts.length cT3, .slice AN3 gt13c.ns.length cN3, .slice AR3 gt13c.rs.length cR3, .int .i64 gt13c.st] x) => HB1.out.trans ((HALL.out x h).1.below.mono HB1.out.size))
  clear HK1 HK2
  go_wp2_with fail
  refine (HOC.out _ HK3.out.below).mono ?_; rintro _ w4 ⟨A4, c4, rfl, hr4, hb4⟩
  have HK4 := hide (HK3.out.on hb4)
  have HR4 := hide hr4
  clear hb4 hr4 HK3 HOC
  obtain ⟨x0, x1, x2, x3⟩ := HY1.out w4 (HALL.out _ HK4.out).1
  have l1 : w1.heap.size < w4.heap.size := (HALL.out _ HK4.out).1.size
  go_wp2_with fail
  refine (HOA.out _ (HALL.out _ HK4.out).1.below).mono ?_; rintro _ w5 ⟨A5, c5, rfl, hr5, hb5⟩
  have HK5 := hide (HK4.out.on hb5)
  have HR5 := hide (HR4.out.up hb5)
  clear hb5 hr5 HOA x0 x1 x2 x3 l1 HK4 HR4
  have HO6 := hide (cOrder_any _ gr013 w5.heap.size w5 (gr013_rd w5 _) gr013_fit (Nat.le_refl _) (HT.out.below (HBF.out _ HK5.out)))
  unfold OrAns at HO6
  rw [orE130] at HO6
  go_wp2_with fail
  refine HO6.out.mono ?_; rintro _ w6 ⟨A6, c6, rfl, hr6, hb6⟩
  have HK6 := hide (HK5.out.on hb6)
  have HR6 := hide (HR5.out.up hb6)
  clear hb6 hr6 HO6 HK5 HR5
  obtain ⟨x0, x1, x2, x3⟩ := HY1.out w6 (HALL.out _ HK6.out).1
  have l1 : w1.heap.size < w6.heap.size := (HALL.out _ HK6.out).1.size
  go_wp2_with fail
  refine (HCY.out _ (HALL.out _ HK6.out).1.below).mono ?_; rintro _ w7 ⟨rfl, hb7⟩
  have HK7 := hide (HK6.out.on hb7)
  have HR7 := hide (HR6.out.up hb7)
  clear hb7 HCY HK6 HR6 x0 x1 x2 x3 l1
  obtain ⟨x0, x1, x2, x3⟩ := HY2.out w7 (HALL.out _ HK7.out).2.1
  have l2 : w2.heap.size < w7.heap.size := (HALL.out _ HK7.out).2.1.size
  go_wp2_with fail
  refine (HST.out _ (HALL.out _ HK7.out).2.1.below).mono ?_; rintro _ w8 ⟨q8, rfl, hq8, hu8, hb8⟩
  have HK8 := hide (HK7.out.on hb8)
  have HR8 := hide (HR7.out.up hb8)
  have HS8 := hide (show Calls Tryz.prog 11 #[.slice (some ⟨q8, 0, none⟩) 2 2, .slice (some ⟨w8.heap.size, 0, none⟩) 2 2] (w8.alloc (.cells #[.int .u32 1, .int .u32 0] 36)) _ from sets_same13 (some ⟨q8, 0, none⟩) (some ⟨w8.heap.size, 0, none⟩) 2 2 2 [1, 0] (w8.alloc (cellsU (zi [1, 0]))) ((RdU.alloc (hu8.rd hu8.lt) (Nat.le_refl _) _).more (by simp)) (litZ13 w8 [1, 0]) (by decide) rfl)
  clear hq8 hu8 hb8 HST HK7 HR7 x0 x1 x2 x3 l2
  go_wp2_with fail
  refine HS8.out.mono ?_; rintro _ w9 ⟨rfl, n9, hw9⟩
  have HK9 : Hid (One w3 #[.slice AT3 gt13c.ts.length cT3, .slice AN3 gt13c.ns.length cN3, .slice AR3 gt13c.rs.length cR3, .int .i64 gt13c.st] w9) := hide (by rw [hw9]; exact (HK8.out.alloc _).drewN _)
  have HR9 : Hid (RdI w9 w9.heap.size A4 [2, 1, 0]) := hide (by rw [hw9]; exact (HR8.out.alloc (Nat.le_refl _) _).more (by simp))
  clear hw9 HS8 HK8 HR8
  obtain ⟨x0, x1, x2, x3⟩ := HY2.out w9 (HALL.out _ HK9.out).2.1
  have l2 : w2.heap.size < w9.heap.size := (HALL.out _ HK9.out).2.1.size
  go_wp2_with fail
  refine (HEB.out _ (HALL.out _ HK9.out).2.1.below).mono ?_; rintro _ w10 ⟨rfl, hb10⟩
  have HK10 := hide (HK9.out.on hb10)
  have HR10 := hide (HR9.out.up hb10)
  clear hb10 HEB HK9 HR9 x0 x1 x2 x3 l2
  obtain ⟨x0, x1, x2, x3⟩ := HY3.out w10 HK10.out
  have l3 : w3.heap.size < w10.heap.size := HK10.out.size
  go_wp2_with fail
  refine (HEC.out _ HK10.out.below).mono ?_; rintro _ w11 ⟨rfl, hb11⟩
  have HK11 := hide (HK10.out.on hb11)
  have HR11 := hide (HR10.out.up hb11)
  have HS11 := hide (show Calls Tryz.prog 18 #[.slice A4 3 c4, .slice (some ⟨w11.heap.size, 0, none⟩) 3 3] (w11.alloc (.cells #[.int .i64 2, .int .i64 1, .int .i64 0] 3)) _ from ints_same13 A4 (some ⟨w11.heap.size, 0, none⟩) c4 3 3 [2, 1, 0] (w11.alloc (cellsI [2, 1, 0])) ((HR11.out.alloc (Nat.le_refl _) _).more (by simp)) (litI1 w11 [2, 1, 0]).1 (by decide) rfl)
  clear hb11 HEC HK10 HR10 x0 x1 x2 x3 l3
  go_wp2_with fail
  refine HS11.out.mono ?_; rintro _ w12 ⟨rfl, n12, hw12⟩
  have HK12 : Hid (One w3 #[.slice AT3 gt13c.ts.length cT3, .slice AN3 gt13c.ns.length cN3, .slice AR3 gt13c.rs.length cR3, .int .i64 gt13c.st] w12) := hide (by rw [hw12]; exact (HK11.out.alloc _).drewN _)
  clear hw12 HS11
  go_wp2
  go_ret
  exact ⟨rfl, HBF.out _ HK12.out⟩
end Go.Proofs.YtajcegofflmoeaaGreatDoor

namespace Go.Proofs.YtajcegofflmoeaaGreatDoor
open Go.ChangeShapes Go.WideShapes Go.Deep Go.RowKit Go.Joins

section
variable {H : Type} {enc : TypeId × Value → H} {P : Program} {w : World} {base : Nat} {spare : Nat → Bool} {held : Bool}

theorem open_rows {t e : TypeId} {fs : Array Field} {fuel : Nat} {cs : List Value} {x : DataW H × List MemPlace} (ht : P.underlying t = some (.slice e)) (he : P.underlying e = some (.struct fs))
    (hone : oneCellFields P fs = true) (hC : P.cellsOf e = fs.size) (h : DataW.trod enc P w base spare held fuel t cs = some x) :
    cs = [.slice none 0 0] ∨
    ∃ (a : Addr) (len cap : Nat), cs = [.slice (some a) len cap] ∧ len ≤ cap ∧ cap ≤ maxLen ∧
      ∀ i, i < len → ∀ (j : Nat) (f : Field), fs[j]? = some f → ∃ (v : Value) (y : DataW H × List MemPlace) (n : Nat), w.cell? (a.add (i * fs.size + j)) = some v ∧ DataW.trod enc P w base spare held n f.type [v] = some y := by
  rcases open_slice ht h with h0 | ⟨a, len, cap, m, n, D, Pl, hcs, hb, hl, hm, hmm, hx, hi⟩
  · exact .inl h0.1
  · refine .inr ⟨a, len, cap, hcs, hl, hm, fun i him j f hj => ?_⟩
    obtain ⟨cs', hc, ht'⟩ := hi i (by rw [hmm]; split <;> omega)
    rw [hC] at hc
    obtain ⟨ys, n', hn', hy, hlen, hyl, hf⟩ := DataW.trod_struct he ht'
    obtain ⟨_, hcl, hat⟩ := World.cells?_some hc
    obtain ⟨ho, hk⟩ := hone_of hone j f hj
    have hjl : j < fs.size := (Array.getElem?_eq_some_iff.1 hj).1
    have hcell := hat j hjl
    have hv : cs'[j]? = some (cs'[j]'(by omega)) := List.getElem?_eq_getElem (by omega)
    have h1 := hf j f hj
    rw [ho, hk] at h1
    have hone' : (cs'.drop j).take 1 = [cs'[j]'(by omega)] := by
      rw [List.drop_eq_getElem_cons (by omega)]
      rfl
    rw [hone'] at h1
    have hys : ys[j]? = some (ys[j]'(by omega)) := List.getElem?_eq_getElem (by omega)
    refine ⟨_, _, n', ?_, h1.trans hys⟩
    rw [← Go.Deep.add_add, hcell, hv]

theorem plain_addr {a : Addr} {k : Nat} {v : Value} (h : w.cell? (a.add k) = some v) (hk : k = 0) : a = ⟨a.block, a.off, none⟩ := by
  subst hk
  obtain ⟨b, o, s⟩ := a
  obtain rfl : s = none := by simpa [Addr.add] using World.cell?_spot h
  rfl

theorem open_tms {t e : TypeId} {f0 f1 f2 : Field} {fuel : Nat} {cs : List Value} {x : DataW H × List MemPlace} (ht : P.underlying t = some (.slice e)) (he : P.underlying e = some (.struct #[f0, f1, f2]))
    (hone : oneCellFields P #[f0, f1, f2] = true) (hC : P.cellsOf e = 3) (h0 : P.underlying f0.type = some .string) (h1 : P.underlying f1.type = some (.int .i64)) (h2 : P.underlying f2.type = some (.int .i64)) (h : DataW.trod enc P w base spare held fuel t cs = some x) :
    ∃ A n c ts, cs = [.slice A n c] ∧ n = ts.length ∧ n ≤ c ∧ c ≤ 9223372036854775807 ∧ RdTm w w.heap.size A ts ∧ ∀ x ∈ ts, K.Tx x.nm ∧ Gm.In x.lv ∧ Gm.In x.wy := by
  rcases open_rows ht he hone hC h with rfl | ⟨a, len, cap, rfl, hl, hm, hi⟩
  · exact ⟨none, 0, 0, [], rfl, rfl, Nat.le_refl _, by omega, fun h => absurd rfl h, fun x hx => by simp at hx⟩
  · have hp : ∀ i, i < len → ∃ t : Gm.Tm, (w.cell? (a.add (i * 3)) = some (.string (K.str t.nm)) ∧ w.cell? (a.add (i * 3 + 1)) = some (.int .i64 t.lv) ∧ w.cell? (a.add (i * 3 + 2)) = some (.int .i64 t.wy)) ∧ K.Tx t.nm ∧ Gm.In t.lv ∧ Gm.In t.wy := fun i hil => by
      obtain ⟨v0, y0, n0, c0, t0⟩ := hi i hil 0 f0 rfl
      obtain ⟨v1, y1, n1, c1, t1⟩ := hi i hil 1 f1 rfl
      obtain ⟨v2, y2, n2, c2, t2⟩ := hi i hil 2 f2 rfl
      obtain ⟨s, e0, _, hs0⟩ := DataW.trod_string h0 t0
      obtain ⟨z1, e1, _, w1⟩ := DataW.trod_int h1 t1
      obtain ⟨z2, e2, _, w2⟩ := DataW.trod_int h2 t2
      injection e0 with e0; injection e1 with e1; injection e2 with e2
      subst e0 e1 e2
      obtain ⟨l, hl, rfl⟩ := K.txt s hs0
      exact ⟨⟨l, z1, z2⟩, ⟨c0, c1, c2⟩, hl, bounds_i64 w1, bounds_i64 w2⟩
    obtain ⟨ts, htl, hts⟩ := list_of len _ hp
    refine ⟨some a, len, cap, ts, rfl, htl.symm, hl, by unfold maxLen at hm; omega, fun hn => ?_, fun x hx => ?_⟩
    · have ha := plain_addr (hts 0 (by omega)).1.1 (Nat.zero_mul 3)
      refine ⟨a.block, a.off, congrArg some ha, ?_, fun i hi => ?_⟩
      · have := block_lt_of_cell (hts 0 (by omega)).1.1
        simpa [Addr.add] using this
      · have := (hts i hi).1
        rw [ha, add_plain, add_plain, add_plain] at this
        exact this
    · obtain ⟨i, hi, rfl⟩ := List.getElem_of_mem hx
      exact (hts i hi).2

theorem open_rls {t e u : TypeId} {f0 f1 f2 : Field} {fuel : Nat} {cs : List Value} {x : DataW H × List MemPlace} (ht : P.underlying t = some (.slice e)) (he : P.underlying e = some (.struct #[f0, f1, f2]))
    (hone : oneCellFields P #[f0, f1, f2] = true) (hC : P.cellsOf e = 3) (h0 : P.underlying f0.type = some (.int .i64)) (h1 : P.underlying f1.type = some (.slice u)) (hu : P.underlying u = some (.int .i64)) (hcu : P.cellsOf u = 1) (h2 : P.underlying f2.type = some (.int .i64)) (h : DataW.trod enc P w base spare held fuel t cs = some x) :
    ∃ A n c rs, cs = [.slice A n c] ∧ n = rs.length ∧ n ≤ c ∧ c ≤ 9223372036854775807 ∧ RdRl w w.heap.size A rs ∧ ∀ x ∈ rs, Gm.In x.l ∧ Gm.In x.p ∧ ∀ z ∈ x.r, Gm.In z := by
  rcases open_rows ht he hone hC h with rfl | ⟨a, len, cap, rfl, hl, hm, hi⟩
  · exact ⟨none, 0, 0, [], rfl, rfl, Nat.le_refl _, by omega, fun h => absurd rfl h, fun x hx => by simp at hx⟩
  · have hp : ∀ i, i < len → ∃ t : Gm.Rl, (w.cell? (a.add (i * 3)) = some (.int .i64 t.l) ∧ (∃ A' c', w.cell? (a.add (i * 3 + 1)) = some (.slice A' t.r.length c') ∧ t.r.length ≤ c' ∧ c' ≤ 9223372036854775807 ∧ RdI w w.heap.size A' t.r) ∧ w.cell? (a.add (i * 3 + 2)) = some (.int .i64 t.p)) ∧ Gm.In t.l ∧ Gm.In t.p ∧ ∀ z ∈ t.r, Gm.In z := fun i hil => by
      obtain ⟨v0, y0, n0, c0, t0⟩ := hi i hil 0 f0 rfl
      obtain ⟨v1, y1, n1, c1, t1⟩ := hi i hil 1 f1 rfl
      obtain ⟨v2, y2, n2, c2, t2⟩ := hi i hil 2 f2 rfl
      obtain ⟨z0, e0, _, w0⟩ := DataW.trod_int h0 t0
      obtain ⟨z2, e2, _, w2⟩ := DataW.trod_int h2 t2
      injection e0 with e0; injection e2 with e2
      subst e0 e2
      rcases open_ints h1 hu hcu t1 with ⟨hcs, _⟩ | ⟨x, l, c, zs, hcs, _, hl, hm, hz, hx, hcell, hwz⟩
      · injection hcs with hcs
        subst hcs
        exact ⟨⟨z0, [], z2⟩, ⟨c0, ⟨none, 0, c1, Nat.le_refl _, by omega, RdI.nil _ _ _⟩, c2⟩, bounds_i64 w0, bounds_i64 w2, fun z hz => by simp at hz⟩
      · injection hcs with hcs
        subst hcs
        have hzl : l ≤ zs.length := by rw [hz]; split <;> omega
        refine ⟨⟨z0, zs.take l, z2⟩, ⟨c0, ⟨some x, c, ?_, ?_, by unfold maxLen at hm; omega, fun hn => ?_⟩, c2⟩, bounds_i64 w0, bounds_i64 w2, fun z hz => bounds_i64 (hwz z (List.mem_of_mem_take hz))⟩
        · have hln : (zs.take l).length = l := by rw [List.length_take]; omega
          show w.cell? (a.add (i * 3 + 1)) = some (.slice (some x) (zs.take l).length c)
          rw [hln]; exact c1
        · show (zs.take l).length ≤ c
          rw [List.length_take]; omega
        · have hl0 : 0 < zs.length := by simp at hn; omega
          have ha := plain_addr (hcell 0 hl0) rfl
          refine ⟨x.block, x.off, congrArg some ha, ?_, fun j hj => ?_⟩
          · have := block_lt_of_cell (hcell 0 hl0)
            simpa [Addr.add] using this
          · have hj' : j < l := by simp at hj; omega
            have h1 := hcell j (by omega)
            rw [ha, add_plain] at h1
            rw [h1]
            simp only [List.getD, List.getElem?_take]
            rw [if_pos hj']
    obtain ⟨ts, htl, hts⟩ := list_of len _ hp
    refine ⟨some a, len, cap, ts, rfl, htl.symm, hl, by unfold maxLen at hm; omega, fun hn => ?_, fun x hx => ?_⟩
    · have ha := plain_addr (hts 0 (by omega)).1.1 (Nat.zero_mul 3)
      refine ⟨a.block, a.off, congrArg some ha, ?_, fun i hi => ?_⟩
      · have := block_lt_of_cell (hts 0 (by omega)).1.1
        simpa [Addr.add] using this
      · have := (hts i hi).1
        rw [ha, add_plain, add_plain, add_plain] at this
        exact this
    · obtain ⟨i, hi, rfl⟩ := List.getElem_of_mem hx
      exact (hts i hi).2

theorem open_txs {t e : TypeId} {fuel : Nat} {cs : List Value} {x : DataW H × List MemPlace} (ht : P.underlying t = some (.slice e)) (he : P.underlying e = some .string) (hC : P.cellsOf e = 1) (h : DataW.trod enc P w base spare held fuel t cs = some x) :
    ∃ A n c ns, cs = [.slice A n c] ∧ n = ns.length ∧ n ≤ c ∧ c ≤ 9223372036854775807 ∧ RdN w w.heap.size A ns ∧ ∀ x ∈ ns, K.Tx x := by
  rcases open_strings ht he hC h with ⟨hcs, _⟩ | ⟨x, l, c, ss, hcs, _, hl, hm, hz, _, hcell, hsz⟩
  · exact ⟨none, 0, 0, [], hcs, rfl, Nat.le_refl _, by omega, fun h => absurd rfl h, fun x hx => by simp at hx⟩
  · have hzl : l ≤ ss.length := by rw [hz]; split <;> omega
    have hp : ∀ i, i < l → ∃ t : List Int, w.cell? (x.add i) = some (.string (K.str t)) ∧ K.Tx t := fun i hi => by
      obtain ⟨t, ht, he⟩ := K.txt (ss.getD i ByteArray.empty) (hsz _ (by rw [List.getD_eq_getElem?_getD, List.getElem?_eq_getElem (by omega)]; exact List.getElem_mem _))
      exact ⟨t, by rw [hcell i (by omega), he], ht⟩
    obtain ⟨ns, hnl, hns⟩ := list_of l _ hp
    refine ⟨some x, l, c, ns, hcs, hnl.symm, hl, by unfold maxLen at hm; omega, fun hn => ?_, fun y hy => ?_⟩
    · have ha := plain_addr (hns 0 (by omega)).1 rfl
      refine ⟨x.block, x.off, congrArg some ha, ?_, fun j hj => ?_⟩
      · have := block_lt_of_cell (hns 0 (by omega)).1
        simpa [Addr.add] using this
      · have h1 := (hns j hj).1
        rw [ha, add_plain] at h1
        exact h1
    · obtain ⟨i, hi, rfl⟩ := List.getElem_of_mem hy
      exact (hns i hi).2

theorem open_gram {r : Reach} {b0 : Nat} {t e1 e2 e3 u : TypeId} {f0 f1 f2 f3 x0 x1 x2 y0 y1 y2 : Field} {v : Value} {d : DataW H} {p : List MemPlace} (hs : P.underlying t = some (.struct #[f0, f1, f2, f3])) (hone : oneCellFields P #[f0, f1, f2, f3] = true) (hC : P.cellsOf t = 4)
    (hf0 : P.underlying f0.type = some (.slice e1)) (he1 : P.underlying e1 = some (.struct #[x0, x1, x2])) (ho1 : oneCellFields P #[x0, x1, x2] = true) (hc1 : P.cellsOf e1 = 3) (hx0 : P.underlying x0.type = some .string) (hx1 : P.underlying x1.type = some (.int .i64)) (hx2 : P.underlying x2.type = some (.int .i64))
    (hf1 : P.underlying f1.type = some (.slice e2)) (he2 : P.underlying e2 = some .string) (hc2 : P.cellsOf e2 = 1)
    (hf2 : P.underlying f2.type = some (.slice e3)) (he3 : P.underlying e3 = some (.struct #[y0, y1, y2])) (ho3 : oneCellFields P #[y0, y1, y2] = true) (hc3 : P.cellsOf e3 = 3) (hy0 : P.underlying y0.type = some (.int .i64)) (hy1 : P.underlying y1.type = some (.slice u)) (hu : P.underlying u = some (.int .i64)) (hcu : P.cellsOf u = 1) (hy2 : P.underlying y2.type = some (.int .i64))
    (hf3 : P.underlying f3.type = some (.int .i64))
    (hv : Value.okWide P w r b0 t v) (h : DataW.Trod enc P w base spare held t v d p) :
    ∃ G, RdGr w w.heap.size v G ∧ Gm.Fit G := by
  obtain ⟨v0, v1, v2, v3, y0', y1', y2', y3', n, rfl, _, _, k0, k1, k2, k3⟩ := open_agg4 hs hone hC hv h
  obtain ⟨AT, nT, cT, ts, e0, hn0, l0, m0, r0, w0⟩ := open_tms hf0 he1 ho1 hc1 hx0 hx1 hx2 k0
  obtain ⟨AR, nR, cR, rs, e2', hn2, l2, m2, r2, w2⟩ := open_rls hf2 he3 ho3 hc3 hy0 hy1 hu hcu hy2 k2
  obtain ⟨z, e3', _, w3⟩ := DataW.trod_int hf3 k3
  obtain ⟨AN, nN, cN, ns, e1', hn1, l1, m1, r1, w1⟩ := open_txs hf1 he2 hc2 k1
  injection e0 with e0; injection e1' with e1'; injection e2' with e2'; injection e3' with e3'
  subst e0 e1' e2' e3' hn0 hn1 hn2
  exact ⟨⟨ts, ns, rs, z⟩, ⟨AT, cT, AN, cN, AR, cR, rfl, ⟨l0, m0⟩, ⟨l1, m1⟩, ⟨l2, m2⟩, r0, r1, r2⟩, ⟨w0, w1, w2, bounds_i64 w3⟩⟩
end
end Go.Proofs.YtajcegofflmoeaaGreatDoor

namespace Go.Proofs.YtajcegofflmoeaaGreatDoor.RowKit
open Go.ChangeShapes Go.WideShapes Go.ChangeAt Go.RowKit

theorem own : ownKnob Tryz.prog.godebug = none := by kernel_rfl
theorem laidOut : laidOutB Tryz.prog = true := by kernel_rfl
def LT : List (String × DataW Unit) := [("math/bits.deBruijn32tab", Rows.laid_math_bits_deBruijn32tab)]
theorem door_met (os : Os) (args : Array Value) : laidMetH Tryz.prog LT ((World.doorLaid Tryz.prog 400 os).forCall (fun _ _ => 0) ⟨#[], args, []⟩).memory :=
  laidMetH_of_parts3 (fuel := 8) (laidMet_of_run' 8 (by kernel_rfl) (by kernel_rfl)) (by kernel_rfl) (by kernel_rfl)
theorem datum0 {H : Type} : (Rows.laid_math_bits_deBruijn32tab : DataW H) = Lib.tabData .u8 (Lib.deBruijn32tab.map Int.ofNat) := rfl
theorem tab0 {W : World} (h : laidMetH Tryz.prog LT W) : Tab32 W := by
  rw [MakeChecks.laidMetH_plain _ _ _ (by kernel_rfl)] at h
  obtain ⟨ps, ⟨g0, t0, cs0, f0, p0, q0, hg0, ht0, hv0, hd0, _, _⟩, _, _⟩ := h
  have hgn : Tryz.prog.globalNamed "math/bits.deBruijn32tab" = some 0 := by kernel_rfl
  have hgt : (Tryz.prog.globals[0]?).map (·.type) = some 130 := by kernel_rfl
  obtain rfl := Option.some.inj (hgn.symm.trans hg0)
  obtain rfl := Option.some.inj (hgt.symm.trans ht0)
  unfold Tab32 Lib.TabIs
  rw [datum0] at hd0
  rw [hv0, ← Lib.cells_of_tab Tryz.underlying130 Tryz.underlying5 (by kernel_rfl) (by kernel_rfl) hd0]
end Go.Proofs.YtajcegofflmoeaaGreatDoor.RowKit
