/- Contracts over this program: a builder's third step. -/
import Derived.Test.YtoehbkgdodogkaaGreatKI
import Derived.Test.YtoehbkgdodogkaaGreatKA
import Derived.Test.YtoehbkgdodogkaaGreatYaccParse
namespace Go.Proofs.YtoehbkgdodogkaaGreat
set_option maxRecDepth 100000
open Go.RowKit

theorem prods_drop {ns : List (List Int)} {ts : List Gm.Tm} {rs : List Gm.Rl} {ps : List Y.Prd} {i : Nat} (h : i < ps.length) : Gm.prods ns ts rs (ps.drop i) = if rs.length = 40 then .bad ps[i].l 5 else (prR ns ts rs ps[i]).bind fun q => Gm.prods ns q.1 q.2 (ps.drop (i + 1)) := by
  rw [List.drop_eq_getElem_cons h, Gm.prods, Gm.prod1]
  split
  · rfl
  · rfl
theorem prods_end {ns : List (List Int)} {ts : List Gm.Tm} {rs : List Gm.Rl} {ps : List Y.Prd} {i : Nat} (h : ps.length ≤ i) : Gm.prods ns ts rs (ps.drop i) = .ok (ts, rs) := by
  rw [List.drop_eq_nil_of_le h, Gm.prods]
theorem prR_len {ns : List (List Int)} {ts : List Gm.Tm} {rs : List Gm.Rl} {pr : Y.Prd} {q : List Gm.Tm × List Gm.Rl} (h : prR ns ts rs pr = .ok q) : q.2.length = rs.length + 1 := by
  unfold prR at h
  obtain ⟨a, _, h2⟩ := Gm.R.bind_eq h
  split at h2
  · injection h2 with h2; subst h2; simp
  · obtain ⟨b, _, h3⟩ := Gm.R.bind_eq h2
    injection h3 with h3; subst h3; simp

set_option maxHeartbeats 4000000 in
theorem brule_any (L : List Int) (B R : Nat) (S : St) (ps : List Y.Prd) (A A2 : Option Addr) (c n2 c2 : Nat) (w : World) (hb : Bld L w B w.heap.size R S) (hd : ∀ d ∈ ps, PdOk d) (hr : RdPd L w B A ps) (hN : Gm.Nin S.s.ts S.ns) (ht : S.s.ts.length ≤ 24) (hln : ∀ p ∈ ps, 0 ≤ Gm.find S.ns p.l.t) (hrs : S.rs = []) (hB : B ≤ w.heap.size) (_hlen : ps.length ≤ 1000000) :
    Calls Tryz.prog 46 #[.pointer (some ⟨R, 0, none⟩), .agg #[.slice A2 n2 c2, .slice A ps.length c]] w fun e w' => AnsR L w' B R S (Gm.prods S.ns S.s.ts S.rs ps) e ∧ Below B w w' ∧ KeepA w w' := by
  have SC := fun a w m X Y => show (store a (.complex .f64 X Y) m).run Tryz.prog w = stored Tryz.prog w a (.complex .f64 X Y) m from run_store _ w a _ m rfl
  have HR := hide hr
  have HDC := hide (fun (i : Nat) (hi : i < ps.length) => And.intro (hd _ (List.getElem_mem hi)) (hln _ (List.getElem_mem hi)))
  have HB0 := hide ((hb.alloc (.cells #[.slice A2 n2 c2, .slice A ps.length c] 57)).more (N' := (w.alloc (.cells #[.slice A2 n2 c2, .slice A ps.length c] 57)).heap.size) (by simp))
  have HW0 := hide (((Below.refl B w).alloc hB (.cells #[.slice A2 n2 c2, .slice A ps.length c] 57)))
  have HK0 := hide (KeepA.below ((Below.refl w.heap.size w).alloc (Nat.le_refl _) (.cells #[.slice A2 n2 c2, .slice A ps.length c] 57)))
  have HN0 := hide hN
  have HT0 := hide ht
  have HRS := hide hrs
  clear hr hb hd hN ht hln hrs
  go_enter Tryz.func46, Tryz.ntmps46
  go_wp2
  go_loopw [13] (fun vi wr => ∃ (i : Nat) (S' : St), i ≤ ps.length ∧ i ≤ 40 ∧ vi = .int .i64 i ∧ Hid (Gm.prods S.ns S.s.ts S.rs ps = Gm.prods S.ns S'.s.ts S'.rs (ps.drop i)) ∧ Hid (∀ ts rs, ({ S with s := { S.s with ts := ts }, rs := rs } : St) = { S' with s := { S'.s with ts := ts }, rs := rs }) ∧ Hid (Gm.Nin S'.s.ts S'.ns) ∧ Hid (S'.s.ts.length ≤ 24) ∧ Hid (S'.rs.length = i) ∧ Hid (Bld L wr B wr.heap.size R S') ∧ Below B w wr ∧ Hid (KeepA w wr)) (fun vi _ => ps.length - (intOf vi).toNat)
  case atStart => exact ⟨0, S, Nat.zero_le _, Nat.zero_le _, rfl, hide rfl, hide (fun _ _ => rfl), HN0, HT0, hide (by rw [HRS.out]; rfl), HB0, HW0.out, HK0⟩
  case round =>
    obtain ⟨i, S', hi, hi40, rfl, HE, HS, HN, HT, HRL, HBL, hbw, HKT⟩ := hrel
    have HBW := hide hbw
    clear hbw
    by_cases hlt : i < ps.length
    · obtain ⟨g, o, rfl, hgB, hc⟩ := HR.out (by omega)
      obtain ⟨k0, k1, ⟨A', c', k2, hrf⟩, k3, k4⟩ := hc i hlt
      have k0 := (HBW.out.cell (p := ⟨g, o + i * 5, none⟩) hgB).trans k0
      have k1 := (HBW.out.cell (p := ⟨g, o + i * 5 + 1, none⟩) hgB).trans k1
      have k2 := (HBW.out.cell (p := ⟨g, o + i * 5 + 2, none⟩) hgB).trans k2
      have k3 := (HBW.out.cell (p := ⟨g, o + i * 5 + 3, none⟩) hgB).trans k3
      have k4 := (HBW.out.cell (p := ⟨g, o + i * 5 + 4, none⟩) hgB).trans k4
      have hBs := HBW.out.size
      have hgs : g < wr.heap.size := by omega
      obtain ⟨d1, d2⟩ := HDC.out i hlt
      have HSN : Hid (S.ns = S'.ns) := hide (by have := congrArg St.ns (HS.out [] []); exact this)
      have HCB := hide ((HBL.out.alloc (.cells (pdCells L ps[i] A' c') 102)).more (N' := (wr.alloc (.cells (pdCells L ps[i] A' c') 102)).heap.size) (by simp))
      have HCW := hide (HBW.out.alloc (Nat.le_trans hB HBW.out.size) (.cells (pdCells L ps[i] A' c') 102))
      have HCK := hide (HKT.out.trans (KeepA.below ((Below.refl wr.heap.size wr).alloc (Nat.le_refl _) (.cells (pdCells L ps[i] A' c') 102))))
      have HD := hide (prods_drop (ns := S.ns) (ts := S'.s.ts) (rs := S'.rs) hlt)
      by_cases h40 : i = 40
      · have HX := hide (HE.out.trans (HD.out.trans (if_pos (by rw [HRL.out]; exact h40))))
        unfold pdCells at HCW HCK
        have e40 : ((i : Int) == 40) = true := by simp [h40]
        have e41 : decide ((i : Int) = 40) = true := by simp [h40]
        clear hc hrf d1 d2 HCB HD h40
        generalize ps[i] = p at *
        have HXY : Hid (∀ X Y, X = rfX L p.l → Y = rfY L p.l → AnsR L w B R S (.bad p.l 5) (.returned (.tuple #[.complex .f64 X Y, .int .i64 5]))) := hide (fun X Y h1 h2 => by subst h1 h2; exact ⟨by decide, rfl⟩)
        obtain ⟨X, hX⟩ : ∃ X, X = rfX L p.l := ⟨_, rfl⟩
        obtain ⟨Y, hY⟩ : ∃ Y, Y = rfY L p.l := ⟨_, rfl⟩
        rw [← hX, ← hY] at k1 HCW HCK
        have HXX := hide hX
        have HYY := hide hY
        clear hX hY
        generalize soS p.p = s3 at *
        generalize soX L p.p = x4 at *
        generalize soY L p.p = y4 at *
        generalize K.str p.l.t = sx at *
        generalize p.r.length = rl at *
        go_wp2
        go_ret2
        refine ⟨?_, HCW.out, HCK.out⟩
        rw [HX.out]
        exact HXY.out _ _ HXX.out HYY.out
      have HD1 := hide (HE.out.trans (HD.out.trans (if_neg (by rw [HRL.out]; exact h40))))
      have HC := hide (prod_any L B R S' ps[i] A' c' _ HCB.out d1 (hrf.keep HCW.out) HN.out HT.out (by rw [← HSN.out]; exact d2) (Nat.le_trans hB HCW.out.size) (by rw [HRL.out]; omega))
      rw [← HSN.out] at HC
      have HLQ := hide (fun q (h : prR S.ns S'.s.ts S'.rs ps[i] = .ok q) => prR_len h)
      unfold pdCells at HCB HCW HCK HC
      clear hc hrf d1 d2 HD
      generalize ps[i] = p at *
      cases q : prR S.ns S'.s.ts S'.rs p with
      | ok qq =>
        have HX := hide (HD1.out.trans (by rw [q, Gm.R.bind_ok]))
        have HLZ := hide (HLQ.out qq q)
        rw [q] at HC
        clear HLQ q HD1
        generalize soS p.p = s3 at *
        generalize soX L p.p = x4 at *
        generalize soY L p.p = y4 at *
        generalize rfX L p.l = X at *
        generalize rfY L p.l = Y at *
        generalize K.str p.l.t = sx at *
        generalize p.r.length = rl at *
        go_wp2_with fail
        refine HC.out.mono ?_; rintro _ w2 ⟨⟨rfl, hb2, hn2, ht2⟩, hw2, hk2⟩
        have H2 := hide (And.intro hb2 (And.intro (HCW.out.trans hw2) (HCK.out.trans hk2)))
        have HNN := hide hn2
        have HTT := hide ht2
        clear hb2 hw2 hk2 hn2 ht2
        go_wp2
        go_roundw
        case rel => exact ⟨i + 1, { S' with s := { S'.s with ts := qq.1 }, rs := qq.2 }, hlt, by omega, by go_num, HX, hide (fun ts rs => HS.out ts rs), HNN, HTT, hide (by show qq.2.length = i + 1; rw [HLZ.out, HRL.out]), hide H2.out.1, H2.out.2.1, hide H2.out.2.2⟩
        case measure => simp [intOf]; omega
      | bad y er =>
        have HX := hide (HD1.out.trans (by rw [q, Gm.R.bind_bad]))
        rw [q] at HC
        clear HLQ q HD1
        have HXY : Hid (∀ X Y, er ≠ 0 → X = rfX L y → Y = rfY L y → AnsR L w B R S (.bad y er) (.returned (.tuple #[.complex .f64 X Y, .int .i64 er]))) := hide (fun X Y h0 h1 h2 => by subst h1 h2; exact ⟨h0, rfl⟩)
        generalize soS p.p = s3 at *
        generalize soX L p.p = x4 at *
        generalize soY L p.p = y4 at *
        generalize rfX L p.l = X at *
        generalize rfY L p.l = Y at *
        generalize K.str p.l.t = sx at *
        generalize p.r.length = rl at *
        go_wp2_with fail
        refine HC.out.mono ?_; rintro _ w2 ⟨⟨her0, rfl⟩, hw2, hk2⟩
        have her : (er != 0) = true := by simpa using her0
        have HER := hide her0
        have H2 := hide (And.intro (HCW.out.trans hw2) (HCK.out.trans hk2))
        obtain ⟨X2, hX⟩ : ∃ X, X = rfX L y := ⟨_, rfl⟩
        obtain ⟨Y2, hY⟩ : ∃ Y, Y = rfY L y := ⟨_, rfl⟩
        rw [← hX, ← hY]
        have HXX := hide hX
        have HYY := hide hY
        clear hX hY hw2 hk2 her0
        go_wp2
        go_ret2
        refine ⟨?_, H2.out⟩
        rw [HX.out]
        exact HXY.out _ _ HER.out HXX.out HYY.out
    · obtain rfl : i = ps.length := by omega
      have HX := hide (HE.out.trans (prods_end (Nat.le_refl _)))
      go_wp2
      go_ret2
      refine ⟨?_, HBW.out, HKT.out⟩
      rw [HX.out]
      refine ⟨rfl, ?_, ?_, HT.out⟩
      · rw [HS.out]; exact HBL.out
      · have e := congrArg St.ns (HS.out [] []); simp only at e; rw [e]; exact HN.out
end Go.Proofs.YtoehbkgdodogkaaGreat

/- Contracts over this program: a builder's last step. -/
namespace Go.Proofs.YtoehbkgdodogkaaGreat
set_option maxRecDepth 100000
open Go.RowKit

/-- What the last step answers. -/
def AnsZ (L : List Int) (w' : World) (B R : Nat) (S : St) (r : Gm.R Int) (e : Ending) : Prop := match r with
  | .ok z => e = .returned (.tuple #[.complex .f64 0 0, .int .i64 0]) ∧ Bld L w' B w'.heap.size R { S with z := z }
  | .bad y er => er ≠ 0 ∧ e = .returned (.tuple #[.complex .f64 (rfX L y) (rfY L y), .int .i64 er])

set_option maxHeartbeats 4000000 in
theorem begin_none (L : List Int) (B R : Nat) (S : St) (p : Tok) (pn g o : Nat) (A2 : Option Addr) (c n2 c2 : Nat) (w : World) (hb : Bld L w B w.heap.size R S) (hd : Gm.named p.t = true ∧ K.Bytes p.t) (k0 : w.cell? ⟨g, o, none⟩ = some (.string (K.str p.t))) (k1 : w.cell? ⟨g, o + 1, none⟩ = some (.complex .f64 (rfX L p) (rfY L p))) (hgB : g < B) (hN : Gm.Nin S.s.ts S.ns) (hn : 0 < pn) (hf : Gm.find S.ns p.t = 0) (hst : S.s.st = none) (hB : B ≤ w.heap.size) :
    Calls Tryz.prog 47 #[.pointer (some ⟨R, 0, none⟩), .agg #[.slice A2 n2 c2, .slice (some ⟨g, o, none⟩) pn c]] w fun e w' => AnsZ L w' B R S (.ok 0) e ∧ Below B w w' ∧ KeepA w w' := by
  have SC := fun a w m X Y => show (store a (.complex .f64 X Y) m).run Tryz.prog w = stored Tryz.prog w a (.complex .f64 X Y) m from run_store _ w a _ m rfl
  have hgs : g < w.heap.size := by omega
  have HTX := hide (Gm.tx_named hd)
  have hnt : ¬ (0 : Int) ≤ Gm.find (Gm.names S.s.ts) p.t := fun q => by
    obtain ⟨i, _, hi, e⟩ := Gm.find_some (show 0 ≤ Gm.find S.ns p.t by omega)
    have := hN.no _ (List.getElem_mem hi)
    rw [e] at this
    have := Gm.find_none.2 this
    omega
  have he : symV S.s.ts S.ns p.t = some (.int .i64 (-1)) := by unfold symV; rw [if_neg hnt, if_pos (by omega), hf]; rfl
  have HNN := hide (fun y => non_any (-1) (by omega) (by omega) y)
  have HIT := hide (fun y => isTerm_any (-1) y)
  obtain ⟨vT, vN, vR, Ms, Mt, ml, tl, h⟩ := id hb
  have HH := hide h
  have e0 : decide (0 < (pn : Int)) = true := decide_eq_true (by omega)
  have c7 : w.cell? ⟨R, 7, none⟩ = some (.string ⟨#[]⟩) := (cell_of_row w R 7 _ _ _ h.w.b).trans (by show some (Value.string (soS S.s.st)) = _; rw [hst]; rfl)
  have c8 : w.cell? ⟨R, 8, none⟩ = some (.complex .f64 0 0) := (cell_of_row w R 8 _ _ _ h.w.b).trans (by show some (Value.complex .f64 (soX L S.s.st) (soY L S.s.st)) = _; rw [hst]; rfl)
  have hRs := (Array.getElem?_eq_some_iff.1 h.w.b).1
  have HLK := hide (fun (y : World) (hy : Below w.heap.size w y) => (by
    have h := HH.out.below hy
    have := Mw.run_look (x := p.t) h.w.ms strK Tryz.underlying72 (zero_int y) HTX.out true
    rw [if_pos rfl, h.so p.t, he] at this
    exact this : (Instr.lookup 72 (.map (some Ms)) (.string (K.str p.t)) true).run Tryz.prog y = .ok (.tuple #[.int .i64 (-1), .bool true]) y))
  have HC4 := hide (fun (y : World) (hy : Below w.heap.size w y) => ((HH.out.below hy).w.at 4).1)
  have HGS := hide hgs
  clear hb hd hN hf hnt he h hst HTX
  generalize rfX L p = X at *
  generalize rfY L p = Y at *
  generalize K.str p.t = sx at *
  go_enter Tryz.func47, Tryz.ntmps47
  go_upto_region 4 with fail
  obtain ⟨wz, hwz⟩ : ∃ x, x = (w.alloc (.cells #[.slice A2 n2 c2, .slice (some ⟨g, o, none⟩) pn c] 57)).alloc (.cells #[.string sx, .complex .f64 X Y] 74) := ⟨_, rfl⟩
  rw [← hwz]
  have HWZ : Hid (Below w.heap.size w wz) := hide (by rw [hwz]; exact ((Below.refl _ w).alloc (Nat.le_refl _) _).alloc (by simp) _)
  have HQ : Hid (wz.heap[w.heap.size + 1]? = some (.cells #[.string sx, .complex .f64 X Y] 74 (0, 0))) := hide (by rw [hwz]; have := heap_alloc_new (w.alloc (.cells #[.slice A2 n2 c2, .slice (some ⟨g, o, none⟩) pn c] 57)) (.cells #[.string sx, .complex .f64 X Y] 74); simpa using this)
  have hzs : wz.heap.size = w.heap.size + 2 := by rw [hwz]; simp
  clear hwz
  have L0 : ∀ y : Calm.On wz.heap.size wz, (Instr.lookup 72 (.map (some Ms)) (.string sx) true).run Tryz.prog y.1 = .ok (.tuple #[.int .i64 (-1), .bool true]) y.1 := fun y => HLK.out y.1 (HWZ.out.trans (y.2.mono (by omega)))
  have C4 : ∀ y : Calm.On wz.heap.size wz, y.1.cell? ⟨R, 4, none⟩ = some (.map (some Ms)) := fun y => HC4.out y.1 (HWZ.out.trans (y.2.mono (by omega)))
  have D0 : ∀ y : Calm.On wz.heap.size wz, y.1.cell? ⟨w.heap.size + 1, 0, none⟩ = some (.string sx) := fun y => cell_of_row y.1 _ 0 _ _ _ ((y.2.block _ (by omega)).trans HQ.out)
  have HWD : Hid (Below w.heap.size w wz.drew) := hide (below_drewN HWZ.out 1)
  refine CalmN.region_tree (fun x => ∃ y : Calm.On wz.heap.size wz, x = y.1) (.fin [0, 1, 2, 3, 4, 5, 6, 7, 8, 9, 10, 11]) (by kernel_rfl) (by kernel_rfl) (fun _ _ d _ _ h => by cases d <;> exact h) ⟨⟨wz.drew, below_drewN (Below.refl wz.heap.size wz) 1⟩, rfl⟩ ?_
  simp only [CalmN.wpT, CalmN.pickOps, List.getElem?_toArray, List.getElem?_cons_zero, List.getElem?_cons_succ]
  repeat (go_big_quiet_step (fail))
  refine wpQuiet_nil ?_
  clear L0 C4 D0 c7 c8
  have HB3 := hide (HH.out.below HWD.out)
  have c3 : wz.drew.cell? ⟨R, 3, none⟩ = some (.int .i64 S.z) := (HB3.out.w.at 3).1
  have f3 := (HB3.out.w.at 3).2.1
  have hR3 := (HB3.out.w.at 3).2.2
  obtain ⟨wd, hwd⟩ : ∃ x, x = wz.drew := ⟨_, rfl⟩
  rw [← hwd] at c3 f3 hR3 HB3 HWD ⊢
  clear hwd hzs hRs
  go_wp2_with fail
  refine (HIT.out _).mono ?_; rintro _ w5 ⟨rfl, hw5⟩
  subst hw5
  go_wp2_with fail
  refine (HNN.out _).mono ?_; rintro _ w5 ⟨rfl, hw5⟩
  subst hw5
  go_wp2
  go_ret2
  refine ⟨⟨rfl, ?_⟩, (HWD.out.mono hB).setCell HB3.out.w.hR _, (KeepA.below HWD.out).trans (KeepA.cells (only_set (World.grownBy.refl _ _) 3 _) HB3.out.w.b (.inl rfl))⟩
  rw [size_set]
  refine Bld.more (N := w.heap.size) (S := { S with z := 0 }) ?_ HWD.out.size
  exact ⟨vT, vN, vR, Ms, Mt, ml, tl, ⟨HB3.out.w.set 3 (.int .i64 0), HB3.out.so, HB3.out.ko⟩⟩
set_option maxHeartbeats 4000000 in
theorem begin_ok (L : List Int) (B R : Nat) (S : St) (x : Tok) (pn : Nat) (A A2 : Option Addr) (c n2 c2 : Nat) (w : World) (hb : Bld L w B w.heap.size R S) (hd : Gm.named x.t = true ∧ K.Bytes x.t) (hN : Gm.Nin S.s.ts S.ns) (hst : S.s.st = some x) (hf : 0 ≤ Gm.find S.ns x.t) (hB : B ≤ w.heap.size) :
    Calls Tryz.prog 47 #[.pointer (some ⟨R, 0, none⟩), .agg #[.slice A2 n2 c2, .slice A pn c]] w fun e w' => AnsZ L w' B R S (.ok (Gm.find S.ns x.t)) e ∧ Below B w w' ∧ KeepA w w' := by
  have SC := fun a w m X Y => show (store a (.complex .f64 X Y) m).run Tryz.prog w = stored Tryz.prog w a (.complex .f64 X Y) m from run_store _ w a _ m rfl
  have HTX := hide (Gm.tx_named hd)
  have hnt : ¬ (0 : Int) ≤ Gm.find (Gm.names S.s.ts) x.t := fun q => by
    obtain ⟨i, _, hi, e⟩ := Gm.find_some (show 0 ≤ Gm.find S.ns x.t by omega)
    have := hN.no _ (List.getElem_mem hi)
    rw [e] at this
    have := Gm.find_none.2 this
    omega
  have hfl := Gm.find_lt S.ns x.t
  have hNl := hN.c
  obtain ⟨z, hz⟩ : ∃ z, z = -1 - Gm.find S.ns x.t := ⟨_, rfl⟩
  have he : symV S.s.ts S.ns x.t = some (.int .i64 z) := by unfold symV; rw [if_neg hnt, if_pos hf, hz]
  have HNN := hide (fun y => non_any z (by omega) (by omega) y)
  have HIT := hide (fun y => isTerm_any z y)
  rw [decide_eq_false (by omega)] at HIT
  have HZZ : Hid (-1 - z = Gm.find S.ns x.t) := hide (by omega)
  obtain ⟨zz, hzz⟩ : ∃ q, q = -1 - z := ⟨_, rfl⟩
  rw [← hzz] at HNN HZZ
  clear hz hzz hfl hNl
  obtain ⟨vT, vN, vR, Ms, Mt, ml, tl, h⟩ := id hb
  have HH := hide h
  have c7 : w.cell? ⟨R, 7, none⟩ = some (.string (K.str x.t)) := (cell_of_row w R 7 _ _ _ h.w.b).trans (by show some (Value.string (soS S.s.st)) = _; rw [hst]; rfl)
  have c8 : w.cell? ⟨R, 8, none⟩ = some (.complex .f64 (rfX L x) (rfY L x)) := (cell_of_row w R 8 _ _ _ h.w.b).trans (by show some (Value.complex .f64 (soX L S.s.st) (soY L S.s.st)) = _; rw [hst]; rfl)
  have hRs := (Array.getElem?_eq_some_iff.1 h.w.b).1
  have HLK := hide (fun (y : World) (hy : Below w.heap.size w y) => (by
    have h := HH.out.below hy
    have := Mw.run_look (x := x.t) h.w.ms strK Tryz.underlying72 (zero_int y) HTX.out true
    rw [if_pos rfl, h.so x.t, he] at this
    exact this : (Instr.lookup 72 (.map (some Ms)) (.string (K.str x.t)) true).run Tryz.prog y = .ok (.tuple #[.int .i64 z, .bool true]) y))
  have HC4 := hide (fun (y : World) (hy : Below w.heap.size w y) => ((HH.out.below hy).w.at 4).1)
  have hxe : x.t ≠ [] := fun e => by have := hd.1; rw [e] at this; simp [Gm.named, T.isName, T.isLit] at this
  have hsn : ¬ (K.str x.t).toList = [] := by rw [K.str_list]; intro e; exact hxe (by simpa [K.bytes] using e)
  have HXX : Hid (∀ X Y, X = rfX L x → Y = rfY L x → AnsZ L w B R S (.bad x 8) (.returned (.tuple #[.complex .f64 X Y, .int .i64 8]))) := hide (fun X Y h1 h2 => by subst h1 h2; exact ⟨by decide, rfl⟩)
  clear hb hd hN hf hnt he h hst HTX hxe
  obtain ⟨X, hX⟩ : ∃ X, X = rfX L x := ⟨_, rfl⟩
  obtain ⟨Y, hY⟩ : ∃ Y, Y = rfY L x := ⟨_, rfl⟩
  rw [← hX, ← hY] at c8
  have HXY := hide (And.intro hX hY)
  clear hX hY
  generalize K.str x.t = sx at *
  have hsn' : sx.toList.isEmpty = false := by simpa using hsn
  go_enter Tryz.func47, Tryz.ntmps47
  go_upto_region 4 with fail
  obtain ⟨wz, hwz⟩ : ∃ x, x = (w.alloc (.cells #[.slice A2 n2 c2, .slice A pn c] 57)).alloc (.cells #[.string sx, .complex .f64 X Y] 74) := ⟨_, rfl⟩
  rw [← hwz]
  have HWZ : Hid (Below w.heap.size w wz) := hide (by rw [hwz]; exact ((Below.refl _ w).alloc (Nat.le_refl _) _).alloc (by simp) _)
  have HQ : Hid (wz.heap[w.heap.size + 1]? = some (.cells #[.string sx, .complex .f64 X Y] 74 (0, 0))) := hide (by rw [hwz]; have := heap_alloc_new (w.alloc (.cells #[.slice A2 n2 c2, .slice A pn c] 57)) (.cells #[.string sx, .complex .f64 X Y] 74); simpa using this)
  have hzs : wz.heap.size = w.heap.size + 2 := by rw [hwz]; simp
  clear hwz
  have L0 : ∀ y : Calm.On wz.heap.size wz, (Instr.lookup 72 (.map (some Ms)) (.string sx) true).run Tryz.prog y.1 = .ok (.tuple #[.int .i64 z, .bool true]) y.1 := fun y => HLK.out y.1 (HWZ.out.trans (y.2.mono (by omega)))
  have C4 : ∀ y : Calm.On wz.heap.size wz, y.1.cell? ⟨R, 4, none⟩ = some (.map (some Ms)) := fun y => HC4.out y.1 (HWZ.out.trans (y.2.mono (by omega)))
  have D0 : ∀ y : Calm.On wz.heap.size wz, y.1.cell? ⟨w.heap.size + 1, 0, none⟩ = some (.string sx) := fun y => cell_of_row y.1 _ 0 _ _ _ ((y.2.block _ (by omega)).trans HQ.out)
  have HWD : Hid (Below w.heap.size w wz.drew) := hide (below_drewN HWZ.out 1)
  refine CalmN.region_tree (fun x => ∃ y : Calm.On wz.heap.size wz, x = y.1) (.fin [0, 1, 2, 3, 4, 5, 6, 7, 8, 9, 10, 11]) (by kernel_rfl) (by kernel_rfl) (fun _ _ d _ _ h => by cases d <;> exact h) ⟨⟨wz.drew, below_drewN (Below.refl wz.heap.size wz) 1⟩, rfl⟩ ?_
  simp only [CalmN.wpT, CalmN.pickOps, List.getElem?_toArray, List.getElem?_cons_zero, List.getElem?_cons_succ]
  repeat (go_big_quiet_step (fail))
  refine wpQuiet_nil ?_
  clear L0 C4 D0 c7 c8
  have HB3 := hide (HH.out.below HWD.out)
  have c3 : wz.drew.cell? ⟨R, 3, none⟩ = some (.int .i64 S.z) := (HB3.out.w.at 3).1
  have f3 := (HB3.out.w.at 3).2.1
  have hR3 := (HB3.out.w.at 3).2.2
  obtain ⟨wd, hwd⟩ : ∃ x, x = wz.drew := ⟨_, rfl⟩
  rw [← hwd] at c3 f3 hR3 HB3 HWD ⊢
  clear hwd hzs hRs
  go_wp2_with fail
  refine (HIT.out _).mono ?_; rintro _ w5 ⟨rfl, hw5⟩
  subst hw5
  go_wp2_with fail
  refine (HNN.out _).mono ?_; rintro _ w5 ⟨rfl, hw5⟩
  subst hw5
  go_wp2
  go_ret2
  rw [← HZZ.out]
  refine ⟨⟨rfl, ?_⟩, (HWD.out.mono hB).setCell HB3.out.w.hR _, (KeepA.below HWD.out).trans (KeepA.cells (only_set (World.grownBy.refl _ _) 3 _) HB3.out.w.b (.inl rfl))⟩
  rw [size_set]
  refine Bld.more (N := w.heap.size) (S := { S with z := zz }) ?_ HWD.out.size
  exact ⟨vT, vN, vR, Ms, Mt, ml, tl, ⟨HB3.out.w.set 3 (.int .i64 zz), HB3.out.so, HB3.out.ko⟩⟩
set_option maxHeartbeats 4000000 in
theorem begin_term (L : List Int) (B R : Nat) (S : St) (x : Tok) (pn : Nat) (A A2 : Option Addr) (c n2 c2 : Nat) (w : World) (hb : Bld L w B w.heap.size R S) (hd : Gm.named x.t = true ∧ K.Bytes x.t) (_hN : Gm.Nin S.s.ts S.ns) (hst : S.s.st = some x) (hf : 0 ≤ Gm.find (Gm.names S.s.ts) x.t) (hB : B ≤ w.heap.size) :
    Calls Tryz.prog 47 #[.pointer (some ⟨R, 0, none⟩), .agg #[.slice A2 n2 c2, .slice A pn c]] w fun e w' => AnsZ L w' B R S (.bad x 8) e ∧ Below B w w' ∧ KeepA w w' := by
  have SC := fun a w m X Y => show (store a (.complex .f64 X Y) m).run Tryz.prog w = stored Tryz.prog w a (.complex .f64 X Y) m from run_store _ w a _ m rfl
  have HTX := hide (Gm.tx_named hd)
  obtain ⟨z, hz⟩ : ∃ z, z = Gm.find (Gm.names S.s.ts) x.t := ⟨_, rfl⟩
  have he : symV S.s.ts S.ns x.t = some (.int .i64 z) := by unfold symV; rw [if_pos hf, hz]
  have HIT := hide (fun y => isTerm_any z y)
  rw [decide_eq_true (by omega)] at HIT
  clear hz
  obtain ⟨vT, vN, vR, Ms, Mt, ml, tl, h⟩ := id hb
  have HH := hide h
  have c7 : w.cell? ⟨R, 7, none⟩ = some (.string (K.str x.t)) := (cell_of_row w R 7 _ _ _ h.w.b).trans (by show some (Value.string (soS S.s.st)) = _; rw [hst]; rfl)
  have c8 : w.cell? ⟨R, 8, none⟩ = some (.complex .f64 (rfX L x) (rfY L x)) := (cell_of_row w R 8 _ _ _ h.w.b).trans (by show some (Value.complex .f64 (soX L S.s.st) (soY L S.s.st)) = _; rw [hst]; rfl)
  have hRs := (Array.getElem?_eq_some_iff.1 h.w.b).1
  have HLK := hide (fun (y : World) (hy : Below w.heap.size w y) => (by
    have h := HH.out.below hy
    have := Mw.run_look (x := x.t) h.w.ms strK Tryz.underlying72 (zero_int y) HTX.out true
    rw [if_pos rfl, h.so x.t, he] at this
    exact this : (Instr.lookup 72 (.map (some Ms)) (.string (K.str x.t)) true).run Tryz.prog y = .ok (.tuple #[.int .i64 z, .bool true]) y))
  have HC4 := hide (fun (y : World) (hy : Below w.heap.size w y) => ((HH.out.below hy).w.at 4).1)
  have hxe : x.t ≠ [] := fun e => by have := hd.1; rw [e] at this; simp [Gm.named, T.isName, T.isLit] at this
  have hsn : ¬ (K.str x.t).toList = [] := by rw [K.str_list]; intro e; exact hxe (by simpa [K.bytes] using e)
  have HXX : Hid (∀ X Y, X = rfX L x → Y = rfY L x → AnsZ L w B R S (.bad x 8) (.returned (.tuple #[.complex .f64 X Y, .int .i64 8]))) := hide (fun X Y h1 h2 => by subst h1 h2; exact ⟨by decide, rfl⟩)
  clear hb hd _hN hf he h hst HTX hxe
  obtain ⟨X, hX⟩ : ∃ X, X = rfX L x := ⟨_, rfl⟩
  obtain ⟨Y, hY⟩ : ∃ Y, Y = rfY L x := ⟨_, rfl⟩
  rw [← hX, ← hY] at c8
  have HXY := hide (And.intro hX hY)
  clear hX hY
  generalize K.str x.t = sx at *
  have hsn' : sx.toList.isEmpty = false := by simpa using hsn
  go_enter Tryz.func47, Tryz.ntmps47
  go_upto_region 4 with fail
  obtain ⟨wz, hwz⟩ : ∃ x, x = (w.alloc (.cells #[.slice A2 n2 c2, .slice A pn c] 57)).alloc (.cells #[.string sx, .complex .f64 X Y] 74) := ⟨_, rfl⟩
  rw [← hwz]
  have HWZ : Hid (Below w.heap.size w wz) := hide (by rw [hwz]; exact ((Below.refl _ w).alloc (Nat.le_refl _) _).alloc (by simp) _)
  have HQ : Hid (wz.heap[w.heap.size + 1]? = some (.cells #[.string sx, .complex .f64 X Y] 74 (0, 0))) := hide (by rw [hwz]; have := heap_alloc_new (w.alloc (.cells #[.slice A2 n2 c2, .slice A pn c] 57)) (.cells #[.string sx, .complex .f64 X Y] 74); simpa using this)
  have hzs : wz.heap.size = w.heap.size + 2 := by rw [hwz]; simp
  clear hwz
  have L0 : ∀ y : Calm.On wz.heap.size wz, (Instr.lookup 72 (.map (some Ms)) (.string sx) true).run Tryz.prog y.1 = .ok (.tuple #[.int .i64 z, .bool true]) y.1 := fun y => HLK.out y.1 (HWZ.out.trans (y.2.mono (by omega)))
  have C4 : ∀ y : Calm.On wz.heap.size wz, y.1.cell? ⟨R, 4, none⟩ = some (.map (some Ms)) := fun y => HC4.out y.1 (HWZ.out.trans (y.2.mono (by omega)))
  have D0 : ∀ y : Calm.On wz.heap.size wz, y.1.cell? ⟨w.heap.size + 1, 0, none⟩ = some (.string sx) := fun y => cell_of_row y.1 _ 0 _ _ _ ((y.2.block _ (by omega)).trans HQ.out)
  have HWD : Hid (Below w.heap.size w wz.drew) := hide (below_drewN HWZ.out 1)
  refine CalmN.region_tree (fun x => ∃ y : Calm.On wz.heap.size wz, x = y.1) (.fin [0, 1, 2, 3, 4, 5, 6, 7, 8, 9, 10, 11]) (by kernel_rfl) (by kernel_rfl) (fun _ _ d _ _ h => by cases d <;> exact h) ⟨⟨wz.drew, below_drewN (Below.refl wz.heap.size wz) 1⟩, rfl⟩ ?_
  simp only [CalmN.wpT, CalmN.pickOps, List.getElem?_toArray, List.getElem?_cons_zero, List.getElem?_cons_succ]
  repeat (go_big_quiet_step (fail))
  refine wpQuiet_nil ?_
  clear L0 C4 D0 c7 c8
  have r1 : wz.drew.cell? ⟨w.heap.size + 1, 1, none⟩ = some (.complex .f64 X Y) := cell_of_row wz.drew _ 1 _ _ _ HQ.out
  obtain ⟨wd, hwd⟩ : ∃ x, x = wz.drew := ⟨_, rfl⟩
  have hrs : w.heap.size + 1 < wd.heap.size := by rw [hwd]; show w.heap.size + 1 < wz.heap.size; omega
  rw [← hwd] at r1 HWD ⊢
  clear hwd hzs hRs
  go_wp2_with fail
  refine (HIT.out _).mono ?_; rintro _ w5 ⟨rfl, hw5⟩
  subst hw5
  go_wp2
  go_ret2
  exact ⟨HXX.out X Y HXY.out.1 HXY.out.2, HWD.out.mono hB, KeepA.below HWD.out⟩
set_option maxHeartbeats 4000000 in
theorem begin_miss (L : List Int) (B R : Nat) (S : St) (x : Tok) (pn : Nat) (A A2 : Option Addr) (c n2 c2 : Nat) (w : World) (hb : Bld L w B w.heap.size R S) (hd : Gm.named x.t = true ∧ K.Bytes x.t) (_hN : Gm.Nin S.s.ts S.ns) (hst : S.s.st = some x) (hf : ¬ (0 : Int) ≤ Gm.find S.ns x.t) (hg : ¬ (0 : Int) ≤ Gm.find (Gm.names S.s.ts) x.t) (hB : B ≤ w.heap.size) :
    Calls Tryz.prog 47 #[.pointer (some ⟨R, 0, none⟩), .agg #[.slice A2 n2 c2, .slice A pn c]] w fun e w' => AnsZ L w' B R S (.bad x 8) e ∧ Below B w w' ∧ KeepA w w' := by
  have SC := fun a w m X Y => show (store a (.complex .f64 X Y) m).run Tryz.prog w = stored Tryz.prog w a (.complex .f64 X Y) m from run_store _ w a _ m rfl
  have HTX := hide (Gm.tx_named hd)
  have he : symV S.s.ts S.ns x.t = none := by unfold symV; rw [if_neg hg, if_neg hf]
  obtain ⟨vT, vN, vR, Ms, Mt, ml, tl, h⟩ := id hb
  have HH := hide h
  have c7 : w.cell? ⟨R, 7, none⟩ = some (.string (K.str x.t)) := (cell_of_row w R 7 _ _ _ h.w.b).trans (by show some (Value.string (soS S.s.st)) = _; rw [hst]; rfl)
  have c8 : w.cell? ⟨R, 8, none⟩ = some (.complex .f64 (rfX L x) (rfY L x)) := (cell_of_row w R 8 _ _ _ h.w.b).trans (by show some (Value.complex .f64 (soX L S.s.st) (soY L S.s.st)) = _; rw [hst]; rfl)
  have hRs := (Array.getElem?_eq_some_iff.1 h.w.b).1
  have HLK := hide (fun (y : World) (hy : Below w.heap.size w y) => (by
    have h := HH.out.below hy
    have := Mw.run_look (x := x.t) h.w.ms strK Tryz.underlying72 (zero_int y) HTX.out true
    rw [if_pos rfl, h.so x.t, he] at this
    exact this : (Instr.lookup 72 (.map (some Ms)) (.string (K.str x.t)) true).run Tryz.prog y = .ok (.tuple #[.int .i64 0, .bool false]) y))
  have HC4 := hide (fun (y : World) (hy : Below w.heap.size w y) => ((HH.out.below hy).w.at 4).1)
  have hxe : x.t ≠ [] := fun e => by have := hd.1; rw [e] at this; simp [Gm.named, T.isName, T.isLit] at this
  have hsn : ¬ (K.str x.t).toList = [] := by rw [K.str_list]; intro e; exact hxe (by simpa [K.bytes] using e)
  have HXX : Hid (∀ X Y, X = rfX L x → Y = rfY L x → AnsZ L w B R S (.bad x 8) (.returned (.tuple #[.complex .f64 X Y, .int .i64 8]))) := hide (fun X Y h1 h2 => by subst h1 h2; exact ⟨by decide, rfl⟩)
  clear hb hd _hN hf hg he h hst HTX hxe
  obtain ⟨X, hX⟩ : ∃ X, X = rfX L x := ⟨_, rfl⟩
  obtain ⟨Y, hY⟩ : ∃ Y, Y = rfY L x := ⟨_, rfl⟩
  rw [← hX, ← hY] at c8
  have HXY := hide (And.intro hX hY)
  clear hX hY
  generalize K.str x.t = sx at *
  have hsn' : sx.toList.isEmpty = false := by simpa using hsn
  go_enter Tryz.func47, Tryz.ntmps47
  go_upto_region 4 with fail
  obtain ⟨wz, hwz⟩ : ∃ x, x = (w.alloc (.cells #[.slice A2 n2 c2, .slice A pn c] 57)).alloc (.cells #[.string sx, .complex .f64 X Y] 74) := ⟨_, rfl⟩
  rw [← hwz]
  have HWZ : Hid (Below w.heap.size w wz) := hide (by rw [hwz]; exact ((Below.refl _ w).alloc (Nat.le_refl _) _).alloc (by simp) _)
  have HQ : Hid (wz.heap[w.heap.size + 1]? = some (.cells #[.string sx, .complex .f64 X Y] 74 (0, 0))) := hide (by rw [hwz]; have := heap_alloc_new (w.alloc (.cells #[.slice A2 n2 c2, .slice A pn c] 57)) (.cells #[.string sx, .complex .f64 X Y] 74); simpa using this)
  have hzs : wz.heap.size = w.heap.size + 2 := by rw [hwz]; simp
  clear hwz
  have L0 : ∀ y : Calm.On wz.heap.size wz, (Instr.lookup 72 (.map (some Ms)) (.string sx) true).run Tryz.prog y.1 = .ok (.tuple #[.int .i64 0, .bool false]) y.1 := fun y => HLK.out y.1 (HWZ.out.trans (y.2.mono (by omega)))
  have C4 : ∀ y : Calm.On wz.heap.size wz, y.1.cell? ⟨R, 4, none⟩ = some (.map (some Ms)) := fun y => HC4.out y.1 (HWZ.out.trans (y.2.mono (by omega)))
  have D0 : ∀ y : Calm.On wz.heap.size wz, y.1.cell? ⟨w.heap.size + 1, 0, none⟩ = some (.string sx) := fun y => cell_of_row y.1 _ 0 _ _ _ ((y.2.block _ (by omega)).trans HQ.out)
  have HWD : Hid (Below w.heap.size w wz.drew) := hide (below_drewN HWZ.out 1)
  refine CalmN.region_tree (fun x => ∃ y : Calm.On wz.heap.size wz, x = y.1) (.fin [0, 1, 2, 3, 4, 5, 6, 7, 8, 9, 10, 11]) (by kernel_rfl) (by kernel_rfl) (fun _ _ d _ _ h => by cases d <;> exact h) ⟨⟨wz.drew, below_drewN (Below.refl wz.heap.size wz) 1⟩, rfl⟩ ?_
  simp only [CalmN.wpT, CalmN.pickOps, List.getElem?_toArray, List.getElem?_cons_zero, List.getElem?_cons_succ]
  repeat (go_big_quiet_step (fail))
  refine wpQuiet_nil ?_
  clear L0 C4 D0 c7 c8
  have r1 : wz.drew.cell? ⟨w.heap.size + 1, 1, none⟩ = some (.complex .f64 X Y) := cell_of_row wz.drew _ 1 _ _ _ HQ.out
  obtain ⟨wd, hwd⟩ : ∃ x, x = wz.drew := ⟨_, rfl⟩
  have hrs : w.heap.size + 1 < wd.heap.size := by rw [hwd]; show w.heap.size + 1 < wz.heap.size; omega
  rw [← hwd] at r1 HWD ⊢
  clear hwd hzs hRs
  go_wp2
  go_ret2
  exact ⟨HXX.out X Y HXY.out.1 HXY.out.2, HWD.out.mono hB, KeepA.below HWD.out⟩

/-- The first left is the first nonterminal. -/
theorem first_left {ts : List Gm.Tm} {ps : List Y.Prd} {ns : List (List Int)} (hx : ∀ p ∈ ps, T.isName p.l.t = true ∧ K.Bytes p.l.t) (h : Gm.lefts ts [] ps = .ok ns) (hn : 0 < ps.length) : Gm.find ns ps[0].l.t = 0 := by
  obtain ⟨_, _, k⟩ := Gm.lefts_ok ts ps (Gm.Nin.nil ts) hx h
  rcases ps with _ | ⟨p, r⟩
  · simp at hn
  · rw [List.map_cons, Gm.tops] at k
    split at k
    · cases k
    · rename_i q
      simp at q
      simp only [List.getElem_cons_zero]
      omega
theorem begin_any (L : List Int) (B R : Nat) (S : St) (ps : List Y.Prd) (A A2 : Option Addr) (c n2 c2 : Nat) (w : World) (hb : Bld L w B w.heap.size R S) (hd : ∀ d ∈ ps, PdOk d) (hr : RdPd L w B A ps) (hN : Gm.Nin S.s.ts S.ns) (hn : 0 < ps.length) (hf : Gm.find S.ns ps[0].l.t = 0) (hst : ∀ x, S.s.st = some x → Gm.named x.t = true ∧ K.Bytes x.t) (hB : B ≤ w.heap.size) :
    Calls Tryz.prog 47 #[.pointer (some ⟨R, 0, none⟩), .agg #[.slice A2 n2 c2, .slice A ps.length c]] w fun e w' => AnsZ L w' B R S (Gm.start S.ns S.s.st) e ∧ Below B w w' ∧ KeepA w w' := by
  rcases hs : S.s.st with _ | x
  · obtain ⟨g, o, rfl, hgB, hc⟩ := hr (by omega)
    obtain ⟨k0, k1, _⟩ := hc 0 hn
    rw [Nat.zero_mul, Nat.add_zero] at k0 k1
    have hd0 := (hd _ (List.getElem_mem hn)).1
    exact begin_none L B R S ps[0].l ps.length g o A2 c n2 c2 w hb ⟨by unfold Gm.named; rw [hd0.1]; rfl, hd0.2⟩ k0 k1 hgB hN hn hf hs hB
  · unfold Gm.start
    simp only
    by_cases h1 : 0 ≤ Gm.find S.ns x.t
    · rw [if_pos h1]
      exact begin_ok L B R S x ps.length A A2 c n2 c2 w hb (hst x hs) hN hs h1 hB
    · rw [if_neg h1]
      by_cases h2 : 0 ≤ Gm.find (Gm.names S.s.ts) x.t
      · exact begin_term L B R S x ps.length A A2 c n2 c2 w hb (hst x hs) hN hs h2 hB
      · exact begin_miss L B R S x ps.length A A2 c n2 c2 w hb (hst x hs) hN hs h1 h2 hB
end Go.Proofs.YtoehbkgdodogkaaGreat

/- Words for memory over this program: what a reader leaves, a builder may read; what a builder leaves is a grammar. -/
namespace Go.Proofs.YtoehbkgdodogkaaGreat
set_option maxRecDepth 100000
open Go.RowKit

theorem rf_of_own {L : List Int} {w : World} {base : Nat} {A : Option Addr} {xs : List Tok} (h : RdR L w base A xs) : RdRf L w w.heap.size A xs := fun hn => by
  obtain ⟨g, cur, e, _, hh, _⟩ := h hn
  obtain ⟨g', e', _, hc⟩ := h.cell hn
  rw [e] at e'
  injection e' with e'
  injection e' with e'
  subst e'
  refine ⟨g, 0, e, (Array.getElem?_eq_some_iff.1 hh).1, fun i hi => ⟨?_, ?_⟩⟩
  · have := hc i 0 _ hi (by omega) rfl
    rw [Nat.zero_add]; exact this
  · have := hc i 1 _ hi (by omega) rfl
    rw [Nat.zero_add]; exact this
theorem dl_of_own {L : List Int} {w : World} {base : Nat} {v : Value} {ds : List Y.Dcl} (h : OwnD L w base v ds) : ∃ A c, v = .slice A ds.length c ∧ RdDl L w w.heap.size A ds := by
  have h' := h
  obtain ⟨qs, _, h2, _⟩ := h'
  rcases h2.2 with ⟨hv, h0⟩ | ⟨g, cap, cur, hv, _, hg, _⟩
  · exact ⟨none, 0, by rw [hv, h0], fun hn => absurd h0 hn⟩
  · refine ⟨some ⟨g, 0, none⟩, cap, hv, fun hn => ⟨g, 0, rfl, (Array.getElem?_eq_some_iff.1 hg).1, fun i hi => ?_⟩⟩
    obtain ⟨D, c, A, c', hv', k1, k2, k3⟩ := h.at i hi
    rw [hv] at hv'
    injection hv' with e1 e2 e3
    injection e1 with e1
    injection e1 with e1
    subst e1
    rw [Nat.zero_add]
    exact ⟨k1, A, c', k2, rf_of_own k3⟩
theorem pd_of_own {L : List Int} {w : World} {base : Nat} {v : Value} {ps : List Y.Prd} (h : OwnP L w base v ps) : ∃ A c, v = .slice A ps.length c ∧ RdPd L w w.heap.size A ps := by
  have h' := h
  obtain ⟨qs, _, h2, _⟩ := h'
  rcases h2.2 with ⟨hv, h0⟩ | ⟨g, cap, cur, hv, _, hg, _⟩
  · exact ⟨none, 0, by rw [hv, h0], fun hn => absurd h0 hn⟩
  · refine ⟨some ⟨g, 0, none⟩, cap, hv, fun hn => ⟨g, 0, rfl, (Array.getElem?_eq_some_iff.1 hg).1, fun i hi => ?_⟩⟩
    obtain ⟨D, c, A, c', hv', k, k3⟩ := h.at i hi
    rw [hv] at hv'
    injection hv' with e1 e2 e3
    injection e1 with e1
    injection e1 with e1
    subst e1
    rw [Nat.zero_add]
    refine ⟨k 0 _ (by omega) rfl, k 1 _ (by omega) rfl, ⟨A, c', k 2 _ (by omega) rfl, rf_of_own k3⟩, ?_, ?_⟩
    · refine k 3 _ (by omega) ?_
      unfold pcells precells
      rcases ps[i].p with _ | x <;> rfl
    · refine k 4 _ (by omega) ?_
      unfold pcells precells
      rcases ps[i].p with _ | x <;> rfl
theorem rdi_of_row {w : World} {base N : Nat} {A : Option Addr} {zs : List Int} (h : RowI w base N A zs) (hN : N ≤ w.heap.size) : RdI w w.heap.size A zs := fun hn => by
  obtain ⟨g, cur, e, _, hg, hh, hc⟩ := h hn
  refine ⟨g, 0, e, by omega, fun j hj => ?_⟩
  rw [Nat.zero_add, cell_of_row w g _ _ _ _ hh]
  rw [hc j hj]
  simp [List.getD, hj]
theorem tm_of_own {w : World} {base : Nat} {v : Value} {ts : List Gm.Tm} (h : OwnTm w base v ts) : ∃ A c, v = .slice A ts.length c ∧ (ts.length ≤ c ∧ c ≤ 9223372036854775807) ∧ RdTm w w.heap.size A ts := by
  have h0 := h
  unfold OwnTm at h0
  rcases h0.2 with ⟨hv, h1⟩ | ⟨g, cap, cur, hv, _, hg, hn, hm, _⟩
  · exact ⟨none, 0, by rw [hv, h1], by omega, fun hn => absurd h1 hn⟩
  · refine ⟨some ⟨g, 0, none⟩, cap, hv, ⟨hn, by unfold maxLen at hm; omega⟩, fun _ => ⟨g, 0, rfl, (Array.getElem?_eq_some_iff.1 hg).1, fun i hi => ?_⟩⟩
    subst hv
    have k := fun (j : Nat) (u : Value) (hj : j < 3) (hu : (tmC ts[i])[j]? = some u) => World.ownsRow.cells h0 (g := g) rfl (i * 3 + j) u (by unfold tmsC; rw [three_at tmC (fun _ => rfl) ts i j hi hj]; exact hu)
    have k0 := k 0 _ (by omega) rfl
    have k1 := k 1 _ (by omega) rfl
    have k2 := k 2 _ (by omega) rfl
    rw [addZ, Nat.zero_add] at k0 k1 k2
    rw [Nat.zero_add]
    exact ⟨k0, k1, k2⟩
theorem n_of_own {w : World} {base : Nat} {v : Value} {ns : List (List Int)} (h : OwnN w base v ns) : ∃ A c, v = .slice A ns.length c ∧ (ns.length ≤ c ∧ c ≤ 9223372036854775807) ∧ RdN w w.heap.size A ns := by
  have h0 := h
  unfold OwnN at h0
  rcases h0.2 with ⟨hv, h1⟩ | ⟨g, cap, cur, hv, _, hg, hn, hm, _⟩
  · exact ⟨none, 0, by rw [hv, h1], by omega, fun hn => absurd h1 hn⟩
  · refine ⟨some ⟨g, 0, none⟩, cap, hv, ⟨hn, by unfold maxLen at hm; omega⟩, fun _ => ⟨g, 0, rfl, (Array.getElem?_eq_some_iff.1 hg).1, fun i hi => ?_⟩⟩
    subst hv
    have k := World.ownsRow.cells h0 (g := g) rfl i (.string (K.str ns[i])) (by unfold nmsC; simp [hi])
    rw [addZ, Nat.zero_add] at k
    rw [Nat.zero_add]
    exact k
theorem rl_of_own {w : World} {base N : Nat} {v : Value} {rs : List Gm.Rl} (h : OwnRl w base N v rs) (hN : N ≤ w.heap.size) : ∃ A c, v = .slice A rs.length c ∧ (rs.length ≤ c ∧ c ≤ 9223372036854775807) ∧ RdRl w w.heap.size A rs := by
  obtain ⟨qs, rfl, h0, _, hq⟩ := h
  rcases h0.2 with ⟨hv, h1⟩ | ⟨g, cap, cur, hv, _, hg, hn, hm, _⟩
  · exact ⟨none, 0, by rw [hv, h1], by omega, fun hn => absurd h1 hn⟩
  · refine ⟨some ⟨g, 0, none⟩, cap, hv, ⟨hn, by unfold maxLen at hm; omega⟩, fun _ => ⟨g, 0, rfl, (Array.getElem?_eq_some_iff.1 hg).1, fun i hi => ?_⟩⟩
    subst hv
    have hi' : i < qs.length := by simpa using hi
    have k := fun (j : Nat) (u : Value) (hj : j < 3) (hu : (rlC qs[i])[j]? = some u) => World.ownsRow.cells h0 (g := g) rfl (i * 3 + j) u (by unfold rlsC; rw [three_at rlC (fun _ => rfl) qs i j hi' hj]; exact hu)
    have k0 := k 0 _ (by omega) rfl
    have k1 := k 1 _ (by omega) rfl
    have k2 := k 2 _ (by omega) rfl
    rw [addZ, Nat.zero_add] at k0 k1 k2
    rw [Nat.zero_add]
    obtain ⟨q1, q2, q3⟩ := hq qs[i] (List.getElem_mem hi')
    simp only [List.getElem_map]
    exact ⟨k0, ⟨_, _, k1, q1, q2, rdi_of_row q3 hN⟩, k2⟩
/-- What a builder holds is a grammar. -/
theorem gr_of_own {w : World} {B N R Ms Mt : Nat} {cs : Array Value} {vT vN vR : Value} {ts : List Gm.Tm} {ns : List (List Int)} {rs : List Gm.Rl} {ml tl : List (List Int × Value)} (h : BRaw w B N R cs vT vN vR ts ns rs Ms Mt ml tl) (hN : N ≤ w.heap.size) (z : Int) : RdGr w w.heap.size (.agg #[vT, vN, vR, .int .i64 z]) ⟨ts, ns, rs, z⟩ := by
  obtain ⟨A1, c1, rfl, b1, r1⟩ := tm_of_own h.t
  obtain ⟨A2, c2, rfl, b2, r2⟩ := n_of_own h.n
  obtain ⟨A3, c3, rfl, b3, r3⟩ := rl_of_own h.r hN
  exact ⟨A1, c1, A2, c2, A3, c3, rfl, b1, b2, b3, r1, r2, r3⟩
end Go.Proofs.YtoehbkgdodogkaaGreat

/- Contracts over this program: a source's grammar. -/
namespace Go.Proofs.YtoehbkgdodogkaaGreat
set_option maxRecDepth 100000
open Go.RowKit

/-- A builder as it begins. -/
def St0 : St := ⟨⟨[], [], none, 0⟩, [], [], 0⟩
theorem build_bld (a b : Nat) (w : World) : (Instr.build 76 #[(1, .map (some a)), (2, .map (some b))]).run Tryz.prog w = .ok (.agg #[.slice none 0 0, .slice none 0 0, .slice none 0 0, .int .i64 0, .map (some a), .map (some b), .int .i64 0, .string ⟨#[]⟩, .complex .f64 0 0]) w := run_build w 76 _ _ (by kernel_rfl)
theorem build_gr (w : World) : (Instr.build 26 #[]).run Tryz.prog w = .ok (.agg #[.slice none 0 0, .slice none 0 0, .slice none 0 0, .int .i64 0]) w := run_build w 26 _ _ (by kernel_rfl)
/-- How far a builder is. -/
def Stg (ds : List Y.Dcl) (ps : List Y.Prd) (i : Nat) (S : St) : Prop :=
  (i = 0 ∧ S = St0) ∨ (i = 1 ∧ S.ns = [] ∧ S.rs = [] ∧ Gm.decls ⟨[], [], none, 0⟩ ds = .ok S.s ∧ S.s.ts.length ≤ 24) ∨ (i = 2 ∧ S.rs = [] ∧ Gm.decls ⟨[], [], none, 0⟩ ds = .ok S.s ∧ S.s.ts.length ≤ 24 ∧ Gm.lefts S.s.ts [] ps = .ok S.ns) ∨
    (i = 3 ∧ ∃ s1, Gm.decls ⟨[], [], none, 0⟩ ds = .ok s1 ∧ Gm.lefts s1.ts [] ps = .ok S.ns ∧ Gm.prods S.ns s1.ts [] ps = .ok (S.s.ts, S.rs) ∧ S.s.st = s1.st ∧ Gm.Nin S.s.ts S.ns) ∨ (i = 4 ∧ Gm.build ds ps = .ok ⟨S.s.ts, S.ns, S.rs, S.z⟩)
/-- A grammar, as a builder left it. -/
def GrB (w : World) (v : Value) (G : Gm.Gr) : Prop := ∃ B N R cs vT vN vR Ms Mt ml tl, v = .agg #[vT, vN, vR, .int .i64 G.st] ∧ BRaw w B N R cs vT vN vR G.ts G.ns G.rs Ms Mt ml tl ∧ N ≤ w.heap.size
theorem GrB.rd {w : World} {v : Value} {G : Gm.Gr} (h : GrB w v G) : RdGr w w.heap.size v G := by
  obtain ⟨B, N, R, cs, vT, vN, vR, Ms, Mt, ml, tl, rfl, h, hN⟩ := h
  exact gr_of_own h hN G.st
/-- What Build answers. -/
def BuildAns (L : List Int) (w' : World) (r : Gm.R Gm.Gr) (e : Ending) : Prop := match r with
  | .ok G => ∃ v, e = .returned (.tuple #[v, .complex .f64 0 0, .int .i64 0]) ∧ GrB w' v G
  | .bad y er => er ≠ 0 ∧ e = .returned (.tuple #[.agg #[.slice none 0 0, .slice none 0 0, .slice none 0 0, .int .i64 0], .complex .f64 (rfX L y) (rfY L y), .int .i64 er])
theorem tops_pos (n : Nat) : ∀ (l : List Int) (top : Int), Gm.tops n l top = true → ∀ x ∈ l, 0 ≤ x
  | [], _, _, x, hx => by simp at hx
  | a :: r, top, h, x, hx => by
    rw [Gm.tops] at h
    split at h
    · cases h
    · rename_i q
      rcases List.mem_cons.1 hx with e | e
      · omega
      · exact tops_pos n r _ h x e
theorem lefts_pos {ts : List Gm.Tm} {ps : List Y.Prd} {ns : List (List Int)} (hx : ∀ p ∈ ps, T.isName p.l.t = true ∧ K.Bytes p.l.t) (h : Gm.lefts ts [] ps = .ok ns) : ∀ p ∈ ps, 0 ≤ Gm.find ns p.l.t := fun p hp => by
  obtain ⟨_, _, k⟩ := Gm.lefts_ok ts ps (Gm.Nin.nil ts) hx h
  exact tops_pos _ _ _ k _ (List.mem_map.2 ⟨p, hp, rfl⟩)
theorem put_st {k : Int} {S S' : Gm.S1} {x : Tok} (h : Gm.decl1 k S x = .ok S') : S'.st = S.st ∨ S'.st = some x := by
  unfold Gm.decl1 at h
  split at h
  · split at h
    · cases h
    · injection h with h; subst h; exact .inr rfl
  · split at h
    · split at h
      · cases h
      · obtain ⟨p, _, h⟩ := Gm.R.bind_eq h
        injection h with h; subst h; exact .inl rfl
    · split at h
      · cases h
      · obtain ⟨p, _, h⟩ := Gm.R.bind_eq h
        injection h with h; subst h; exact .inl rfl
theorem declN_st {k : Int} : ∀ (xs : List Tok) {S S' : Gm.S1}, Gm.declN k S xs = .ok S' → S'.st = S.st ∨ ∃ x ∈ xs, S'.st = some x
  | [], S, S', h => by rw [Gm.declN] at h; injection h with h; subst h; exact .inl rfl
  | x :: r, S, S', h => by
    rw [Gm.declN] at h
    obtain ⟨s1, h1, h2⟩ := Gm.R.bind_eq h
    rcases declN_st r h2 with e | ⟨y, hy, e⟩
    · rcases put_st h1 with e2 | e2
      · exact .inl (e.trans e2)
      · exact .inr ⟨x, List.mem_cons_self .., e.trans e2⟩
    · exact .inr ⟨y, List.mem_cons_of_mem _ hy, e⟩
theorem decls_st : ∀ (ds : List Y.Dcl) {S S' : Gm.S1}, Gm.decls S ds = .ok S' → S'.st = S.st ∨ ∃ d ∈ ds, ∃ x ∈ d.ns, S'.st = some x
  | [], S, S', h => by rw [Gm.decls] at h; injection h with h; subst h; exact .inl rfl
  | d :: r, S, S', h => by
    rw [Gm.decls] at h
    obtain ⟨s1, h1, h2⟩ := Gm.R.bind_eq h
    have hu : (Gm.up d.k S).st = S.st := by unfold Gm.up; split <;> rfl
    rcases decls_st r h2 with e | ⟨d', hd, x, hx, e⟩
    · rcases declN_st d.ns h1 with e2 | ⟨y, hy, e2⟩
      · exact .inl (e.trans (e2.trans hu))
      · exact .inr ⟨d, List.mem_cons_self .., y, hy, e.trans e2⟩
    · exact .inr ⟨d', List.mem_cons_of_mem _ hd, x, hx, e⟩
theorem st_named {ds : List Y.Dcl} {ps : List Y.Prd} {s1 : Gm.S1} (hg : Gm.Good ds ps) (h : Gm.decls ⟨[], [], none, 0⟩ ds = .ok s1) : ∀ x, s1.st = some x → Gm.named x.t = true ∧ K.Bytes x.t := fun x hx => by
  rcases decls_st ds h with e | ⟨d, hd, y, hy, e⟩
  · rw [e] at hx; cases hx
  · rw [e] at hx; injection hx with hx; subst hx; exact hg.d d hd y hy
/-- The world in which a grammar's building begins. -/
def srcC (A1 A2 : Option Addr) (n1 n2 c1 c2 : Nat) : Array Value := #[.slice A1 n1 c1, .slice A2 n2 c2]
def grC : Array Value := #[.slice none 0 0, .slice none 0 0, .slice none 0 0, .int .i64 0]
def fnC (R : Nat) : Array Value := #[.func (Fn.func 44) #[.pointer (some ⟨R, 0, none⟩)] #[], .func (Fn.func 45) #[.pointer (some ⟨R, 0, none⟩)] #[], .func (Fn.func 46) #[.pointer (some ⟨R, 0, none⟩)] #[], .func (Fn.func 47) #[.pointer (some ⟨R, 0, none⟩)] #[]]
def bdC (a b : Nat) : Array Value := #[.slice none 0 0, .slice none 0 0, .slice none 0 0, .int .i64 0, .map (some a), .map (some b), .int .i64 0, .string ⟨#[]⟩, .complex .f64 0 0]
def wBeg (w : World) (A1 A2 : Option Addr) (n1 n2 c1 c2 : Nat) : World := (((((w.alloc (.cells (srcC A1 A2 n1 n2 c1 c2) 57)).alloc (.cells grC 26)).alloc (.map #[] 0)).alloc (.map #[] 0)).alloc (.cells (bdC (w.heap.size + 1 + 1) (w.heap.size + 1 + 1 + 1)) 76)).alloc (.cells (fnC (w.heap.size + 1 + 1 + 1 + 1)) 77)
theorem new_map (w : World) : Mw.MapIs strE (w.alloc (.map #[] 0)) w.heap.size [] := Mw.MapIs.made strE w
theorem wBeg_is (L : List Int) (w : World) (A1 A2 : Option Addr) (n1 n2 c1 c2 : Nat) : Below w.heap.size w (wBeg w A1 A2 n1 n2 c1 c2) ∧ (wBeg w A1 A2 n1 n2 c1 c2).heap.size = w.heap.size + 6 ∧ (wBeg w A1 A2 n1 n2 c1 c2).heap[w.heap.size]? = some (.cells (srcC A1 A2 n1 n2 c1 c2) 57 (0, 0)) ∧ (wBeg w A1 A2 n1 n2 c1 c2).heap[w.heap.size + 1]? = some (.cells grC 26 (0, 0)) ∧ (wBeg w A1 A2 n1 n2 c1 c2).heap[w.heap.size + 1 + 1 + 1 + 1 + 1]? = some (.cells (fnC (w.heap.size + 1 + 1 + 1 + 1)) 77 (0, 0)) ∧
    Bld L (wBeg w A1 A2 n1 n2 c1 c2) w.heap.size (w.heap.size + 6) (w.heap.size + 1 + 1 + 1 + 1) St0 := by
  obtain ⟨o0, h0⟩ : ∃ o, o = Obj.cells (srcC A1 A2 n1 n2 c1 c2) 57 := ⟨_, rfl⟩
  obtain ⟨o1, h1⟩ : ∃ o, o = Obj.cells grC 26 := ⟨_, rfl⟩
  obtain ⟨o2, h2⟩ : ∃ o, o = Obj.map #[] 0 := ⟨_, rfl⟩
  obtain ⟨o4, h4⟩ : ∃ o, o = Obj.cells (bdC (w.heap.size + 1 + 1) (w.heap.size + 1 + 1 + 1)) 76 := ⟨_, rfl⟩
  obtain ⟨o5, h5⟩ : ∃ o, o = Obj.cells (fnC (w.heap.size + 1 + 1 + 1 + 1)) 77 := ⟨_, rfl⟩
  unfold wBeg
  rw [← h0, ← h1, ← h2, ← h4, ← h5]
  have s1 : (w.alloc o0).heap.size = w.heap.size + 1 := by simp
  have s2 : ((w.alloc o0).alloc o1).heap.size = w.heap.size + 1 + 1 := by simp
  have s3 : (((w.alloc o0).alloc o1).alloc o2).heap.size = w.heap.size + 1 + 1 + 1 := by simp
  have s4 : ((((w.alloc o0).alloc o1).alloc o2).alloc o2).heap.size = w.heap.size + 1 + 1 + 1 + 1 := by simp
  have s5 : (((((w.alloc o0).alloc o1).alloc o2).alloc o2).alloc o4).heap.size = w.heap.size + 1 + 1 + 1 + 1 + 1 := by simp
  have g2 : Mw.MapIs strE (((w.alloc o0).alloc o1).alloc o2) (w.heap.size + 1 + 1) [] := by have := new_map ((w.alloc o0).alloc o1); rw [s2, ← h2] at this; exact this
  have g3 : Mw.MapIs strE ((((w.alloc o0).alloc o1).alloc o2).alloc o2) (w.heap.size + 1 + 1 + 1) [] := by have := new_map (((w.alloc o0).alloc o1).alloc o2); rw [s3, ← h2] at this; exact this
  refine ⟨?_, by simp, ?_, ?_, ?_, ?_⟩
  · exact (((((((Below.refl _ w).alloc (Nat.le_refl _) o0).alloc (by omega) o1).alloc (by omega) o2).alloc (by omega) o2).alloc (by omega) o4).alloc (by omega) o5)
  · rw [Below.heap_alloc _ _ _ (by omega), Below.heap_alloc _ _ _ (by omega), Below.heap_alloc _ _ _ (by omega), Below.heap_alloc _ _ _ (by omega), Below.heap_alloc _ _ _ (by omega), h0]; exact heap_alloc_new w _
  · rw [Below.heap_alloc _ _ _ (by omega), Below.heap_alloc _ _ _ (by omega), Below.heap_alloc _ _ _ (by omega), Below.heap_alloc _ _ _ (by omega), ← s1, h1]; exact heap_alloc_new _ _
  · rw [← s5, h5]; exact heap_alloc_new _ _
  · refine ⟨.slice none 0 0, .slice none 0 0, .slice none 0 0, w.heap.size + 1 + 1, w.heap.size + 1 + 1 + 1, [], [], ⟨⟨?_, OwnTm.nil _ _, OwnN.nil _ _, OwnRl.nil _ _ _, ?_, ?_, by omega, by omega, by omega, by omega⟩, fun s => by unfold symV; rfl, fun s => by simp [Mw.asc, St0]⟩⟩
    · rw [Below.heap_alloc _ _ _ (by omega), ← s4, h4]; exact heap_alloc_new _ _
    · have e : ∀ x, x = (((((w.alloc o0).alloc o1).alloc o2).alloc o2).alloc o4).alloc o5 → x.heap[w.heap.size + 1 + 1]? = (((w.alloc o0).alloc o1).alloc o2).heap[w.heap.size + 1 + 1]? := fun x hx => by
        rw [hx, Below.heap_alloc _ _ _ (by omega), Below.heap_alloc _ _ _ (by omega), Below.heap_alloc _ _ _ (by omega)]
      exact g2.block (e _ rfl)
    · have e : ∀ x, x = (((((w.alloc o0).alloc o1).alloc o2).alloc o2).alloc o4).alloc o5 → x.heap[w.heap.size + 1 + 1 + 1]? = ((((w.alloc o0).alloc o1).alloc o2).alloc o2).heap[w.heap.size + 1 + 1 + 1]? := fun x hx => by
        rw [hx, Below.heap_alloc _ _ _ (by omega), Below.heap_alloc _ _ _ (by omega)]
      exact g3.block (e _ rfl)
set_option maxHeartbeats 8000000 in
theorem build_any (L : List Int) (ds : List Y.Dcl) (ps : List Y.Prd) (A1 A2 : Option Addr) (c1 c2 : Nat) (w : World) (hd : RdDl L w w.heap.size A1 ds) (hp : RdPd L w w.heap.size A2 ps) (hg : Gm.Good ds ps) (hdl : ds.length ≤ 1000000) (hpl : ps.length ≤ 1000000) (hdk : ∀ d ∈ ds, d.ns.length ≤ 1000000) (hpk : ∀ p ∈ ps, p.r.length ≤ 1000000) :
    Calls Tryz.prog 30 #[.agg #[.slice A1 ds.length c1, .slice A2 ps.length c2]] w fun e w' => BuildAns L w' (Gm.build ds ps) e ∧ Below w.heap.size w w' := by
  have hmf : ∀ (fn : Fn) (first cap : Array Value) (w : World), (Instr.makeFunc fn first cap).run Tryz.prog w = .ok (.func fn first cap) w := fun _ _ _ _ => rfl
  have hmm := fun t w => run_makeMap (P := Tryz.prog) t w
  have hbb := fun a b w => build_bld a b w
  have hbg := fun w => build_gr w
  have SC := fun a w m X Y => show (store a (.complex .f64 X Y) m).run Tryz.prog w = stored Tryz.prog w a (.complex .f64 X Y) m from run_store _ w a _ m rfl
  have HDD := hide hd
  have HPP := hide hp
  have HGD := hide hg
  have HLN := hide (And.intro hdl hpl)
  have HDK := hide (fun d (h : d ∈ ds) => (⟨hg.k d h, hg.s d h, hg.d d h, hdk d h⟩ : DcOk d))
  have HPK := hide (fun d (h : d ∈ ps) => (⟨hg.l d h, hg.r d h, hg.p d h, hpk d h⟩ : PdOk d))
  have HLO := hide hg.l
  have HPN : Hid (0 < ps.length) := hide (by have := hg.n; rcases ps with _ | ⟨p, r⟩; exact absurd rfl this; simp)
  have HBG := hide (wBeg_is L w A1 A2 ds.length ps.length c1 c2)
  clear hd hp hg hdl hpl hdk hpk
  go_enter Tryz.func30, Tryz.ntmps30
  go_wp2
  obtain ⟨wb, hwb⟩ : ∃ x, x = wBeg w A1 A2 ds.length ps.length c1 c2 := ⟨_, rfl⟩
  rw [← hwb] at HBG
  unfold wBeg srcC grC fnC bdC at hwb
  rw [← hwb]
  clear hwb
  obtain ⟨R, hR⟩ : ∃ R, R = w.heap.size + 1 + 1 + 1 + 1 := ⟨_, rfl⟩
  obtain ⟨F, hF⟩ : ∃ F, F = w.heap.size + 1 + 1 + 1 + 1 + 1 := ⟨_, rfl⟩
  rw [← hF, ← hR]
  rw [← hF, ← hR] at HBG
  obtain ⟨n, hn⟩ : ∃ n, n = w.heap.size := ⟨_, rfl⟩
  rw [← hn] at HBG HDD HPP ⊢
  have HB0 := HBG.out
  have HWB := hide HB0.1
  have HBn0 : Hid (n ≤ wb.heap.size) := hide (by have := HB0.2.1; omega)
  have HBL0 : Hid (Bld L wb n wb.heap.size R St0) := hide (HB0.2.2.2.2.2.more (by have := HB0.2.1; omega))
  have HSB0 := hide HB0.2.2.1
  have HGB0 := hide HB0.2.2.2.1
  have HFB0 := hide HB0.2.2.2.2.1
  have HNN := hide hn
  clear HB0 HBG hR hF hn
  go_loopw [24] (fun vi wr => ∃ (i : Nat) (S : St), vi = .int .i64 i ∧ i ≤ 4 ∧ Hid (Stg ds ps i S) ∧ Hid (Bld L wr n wr.heap.size R S) ∧ Hid (Below n w wr) ∧ Hid (n ≤ wr.heap.size) ∧ Hid (wr.heap[n]? = some (.cells (srcC A1 A2 ds.length ps.length c1 c2) 57 (0, 0))) ∧ Hid (wr.heap[n + 1]? = some (.cells grC 26 (0, 0))) ∧ Hid (wr.heap[F]? = some (.cells (fnC R) 77 (0, 0)))) (fun vi _ => 4 - (intOf vi).toNat)
  case atStart => exact ⟨0, St0, rfl, by omega, hide (.inl ⟨rfl, rfl⟩), HBL0, HWB, HBn0, HSB0, HGB0, HFB0⟩
  case round =>
    clear HBL0 HWB HBn0 HSB0 HGB0 HFB0
    obtain ⟨i, S, rfl, hi, HST, HBL, HBW, HBn, HSB, HGB, HFB⟩ := hrel
    have s0 : wr.cell? ⟨n, 0, none⟩ = some (.slice A1 ds.length c1) := cell_of_row wr _ 0 _ _ _ HSB.out
    have s1c : wr.cell? ⟨n, 1, none⟩ = some (.slice A2 ps.length c2) := cell_of_row wr _ 1 _ _ _ HSB.out
    have hns := (Array.getElem?_eq_some_iff.1 HSB.out).1
    have hFs := (Array.getElem?_eq_some_iff.1 HFB.out).1
    have hgs := (Array.getElem?_eq_some_iff.1 HGB.out).1
    have HRD := HDD.out.keep HBW.out
    have HRP := HPP.out.keep HBW.out
    have HRDH := hide HRD
    have HRPH := hide HRP
    clear HRD HRP
    rcases HST.out with hs | hs | hs | hs | hs
    · obtain ⟨rfl, hS⟩ := hs
      have cF : wr.cell? ⟨F, 0, none⟩ = some (.func (Fn.func 44) #[.pointer (some ⟨R, 0, none⟩)] #[]) := cell_of_row wr _ 0 _ _ _ HFB.out
      have HRD := HRDH.out
      have HRP := HRPH.out
      have HC := hide (declare_any L n wr.heap.size R S ds A1 A2 c1 ps.length c2 wr HBL.out HDK.out HRD (by rw [hS]; exact ⟨rfl, by simp [St0], fun y h => by cases h⟩) (by rw [hS]; rfl) HBn.out HLN.out.1)
      clear HRD HRP
      have HS := hide hS
      clear hS
      cases q : Gm.decls S.s ds with
      | ok a =>
        have HQ := hide q
        rw [q] at HC
        clear q
        go_wp2_with fail
        refine HC.out.mono ?_; rintro _ w2 ⟨⟨rfl, hb2, hi2⟩, hw2, hk2⟩
        have hka : KeepA wr w2 := (hk2.a)
        have HB2 := hide ((hb2.more (N' := w2.heap.size) hw2.size))
        have HW2 := hide (HBW.out.trans hw2)
        have HN2 : Hid (n ≤ w2.heap.size) := hide (Nat.le_trans HBn.out hw2.size)
        have HSB2 := hide (hka _ _ _ HSB.out (by decide) (by decide) (by decide) (by decide))
        have HGB2 := hide (hka _ _ _ HGB.out (by decide) (by decide) (by decide) (by decide))
        have HFB2 := hide (hka _ _ _ HFB.out (by decide) (by decide) (by decide) (by decide))
        have H3 := hide hi2.t
        clear hb2 hw2 hk2 hka
        go_wp2
        go_roundw
        case rel => exact ⟨1, { S with s := a }, by go_num, by omega, hide (.inr (.inl ⟨rfl, by rw [HS.out]; rfl, by rw [HS.out]; rfl, by have := HQ.out; rw [HS.out] at this; exact this, H3.out⟩)), HB2, HW2, HN2, HSB2, HGB2, HFB2⟩
        case measure => simp [intOf]
      | bad y er =>
        have HQ := hide q
        rw [q] at HC
        clear q
        have HX : Hid (Gm.build ds ps = .bad y er) := hide (by unfold Gm.build; have := HQ.out; rw [HS.out] at this; rw [show (Gm.decls ⟨[], [], none, 0⟩ ds) = _ from this]; rfl)
        go_wp2_with fail
        refine HC.out.mono ?_; rintro _ w2 ⟨⟨her0, rfl⟩, hw2, hk2⟩
        have hka : KeepA wr w2 := (hk2.a)
        have her : (er != 0) = true := by simpa using her0
        have HER := hide her0
        have HW2 := hide (HBW.out.trans hw2)
        have hgb2 := hka _ _ _ HGB.out (by decide) (by decide) (by decide) (by decide)
        have g0 : w2.cell? ⟨n + 1, 0, none⟩ = some (.slice none 0 0) := cell_of_row w2 _ 0 _ _ _ hgb2
        have g1 : w2.cell? ⟨n + 1, 1, none⟩ = some (.slice none 0 0) := cell_of_row w2 _ 1 _ _ _ hgb2
        have g2 : w2.cell? ⟨n + 1, 2, none⟩ = some (.slice none 0 0) := cell_of_row w2 _ 2 _ _ _ hgb2
        have g3 : w2.cell? ⟨n + 1, 3, none⟩ = some (.int .i64 0) := cell_of_row w2 _ 3 _ _ _ hgb2
        have f0 := frozen_of_row w2 _ 0 _ _ hgb2
        have f1 := frozen_of_row w2 _ 1 _ _ hgb2
        have f2 := frozen_of_row w2 _ 2 _ _ hgb2
        have f3 := frozen_of_row w2 _ 3 _ _ hgb2
        have hgz := (Array.getElem?_eq_some_iff.1 hgb2).1
        have HXX : Hid (∀ w3 X Y, X = rfX L y → Y = rfY L y → BuildAns L w3 (.bad y er) (.returned (.tuple #[.agg #[.slice none 0 0, .slice none 0 0, .slice none 0 0, .int .i64 0], .complex .f64 X Y, .int .i64 er]))) := hide (fun _ X Y h1 h2 => by subst h1 h2; exact ⟨HER.out, rfl⟩)
        obtain ⟨X, hX⟩ : ∃ X, X = rfX L y := ⟨_, rfl⟩
        obtain ⟨Y, hY⟩ : ∃ Y, Y = rfY L y := ⟨_, rfl⟩
        rw [← hX, ← hY]
        have HXY := hide (And.intro hX hY)
        clear hw2 hk2 hka hgb2 hX hY her0
        go_wp2
        refine bodyPost_ret (v := .tuple #[.agg #[.slice none 0 0, .slice none 0 0, .slice none 0 0, .int .i64 0], .complex .f64 X Y, .int .i64 er]) (by simp [results, Tryz.results30, go_sem, g0, g1, g2, g3]) rfl ?_
        rw [HX.out]
        refine ⟨HXX.out _ X Y HXY.out.1 HXY.out.2, ?_⟩
        rw [← HNN.out]
        exact (((HW2.out.setCell (by simp only; omega) _).setCell (by simp only; omega) _).setCell (by simp only; omega) _).setCell (by simp only; omega) _
    · obtain ⟨rfl, ⟨h1, h2, h3, h4⟩⟩ := hs
      have cF : wr.cell? ⟨F, 1, none⟩ = some (.func (Fn.func 45) #[.pointer (some ⟨R, 0, none⟩)] #[]) := cell_of_row wr _ 1 _ _ _ HFB.out
      have HRD := HRDH.out
      have HRP := HRPH.out
      have HC := hide (lead_any L n wr.heap.size R S ps A2 A1 c2 ds.length c1 wr HBL.out HPK.out HRP (by rw [h1]; simp) HBn.out HLN.out.2)
      clear HRD HRP
      have HS := hide (And.intro h1 (And.intro h2 (And.intro h3 h4)))
      clear h1 h2 h3 h4
      cases q : Gm.lefts S.s.ts S.ns ps with
      | ok a =>
        have HQ := hide q
        rw [q] at HC
        clear q
        go_wp2_with fail
        refine HC.out.mono ?_; rintro _ w2 ⟨⟨rfl, hb2, _⟩, hw2, hk2⟩
        have hka : KeepA wr w2 := hk2
        have HB2 := hide ((hb2.more (N' := w2.heap.size) hw2.size))
        have HW2 := hide (HBW.out.trans hw2)
        have HN2 : Hid (n ≤ w2.heap.size) := hide (Nat.le_trans HBn.out hw2.size)
        have HSB2 := hide (hka _ _ _ HSB.out (by decide) (by decide) (by decide) (by decide))
        have HGB2 := hide (hka _ _ _ HGB.out (by decide) (by decide) (by decide) (by decide))
        have HFB2 := hide (hka _ _ _ HFB.out (by decide) (by decide) (by decide) (by decide))
        
        clear hb2 hw2 hk2 hka
        go_wp2
        go_roundw
        case rel => exact ⟨2, { S with ns := a }, by go_num, by omega, hide (.inr (.inr (.inl ⟨rfl, HS.out.2.1, HS.out.2.2.1, HS.out.2.2.2, by have := HQ.out; rw [HS.out.1] at this; exact this⟩))), HB2, HW2, HN2, HSB2, HGB2, HFB2⟩
        case measure => simp [intOf]
      | bad y er =>
        have HQ := hide q
        rw [q] at HC
        clear q
        have HX : Hid (Gm.build ds ps = .bad y er) := hide (by unfold Gm.build; rw [HS.out.2.2.1]; have := HQ.out; rw [HS.out.1] at this; rw [Gm.R.bind_ok, this]; rfl)
        go_wp2_with fail
        refine HC.out.mono ?_; rintro _ w2 ⟨⟨her0, rfl⟩, hw2, hk2⟩
        have hka : KeepA wr w2 := hk2
        have her : (er != 0) = true := by simpa using her0
        have HER := hide her0
        have HW2 := hide (HBW.out.trans hw2)
        have hgb2 := hka _ _ _ HGB.out (by decide) (by decide) (by decide) (by decide)
        have g0 : w2.cell? ⟨n + 1, 0, none⟩ = some (.slice none 0 0) := cell_of_row w2 _ 0 _ _ _ hgb2
        have g1 : w2.cell? ⟨n + 1, 1, none⟩ = some (.slice none 0 0) := cell_of_row w2 _ 1 _ _ _ hgb2
        have g2 : w2.cell? ⟨n + 1, 2, none⟩ = some (.slice none 0 0) := cell_of_row w2 _ 2 _ _ _ hgb2
        have g3 : w2.cell? ⟨n + 1, 3, none⟩ = some (.int .i64 0) := cell_of_row w2 _ 3 _ _ _ hgb2
        have f0 := frozen_of_row w2 _ 0 _ _ hgb2
        have f1 := frozen_of_row w2 _ 1 _ _ hgb2
        have f2 := frozen_of_row w2 _ 2 _ _ hgb2
        have f3 := frozen_of_row w2 _ 3 _ _ hgb2
        have hgz := (Array.getElem?_eq_some_iff.1 hgb2).1
        have HXX : Hid (∀ w3 X Y, X = rfX L y → Y = rfY L y → BuildAns L w3 (.bad y er) (.returned (.tuple #[.agg #[.slice none 0 0, .slice none 0 0, .slice none 0 0, .int .i64 0], .complex .f64 X Y, .int .i64 er]))) := hide (fun _ X Y h1 h2 => by subst h1 h2; exact ⟨HER.out, rfl⟩)
        obtain ⟨X, hX⟩ : ∃ X, X = rfX L y := ⟨_, rfl⟩
        obtain ⟨Y, hY⟩ : ∃ Y, Y = rfY L y := ⟨_, rfl⟩
        rw [← hX, ← hY]
        have HXY := hide (And.intro hX hY)
        clear hw2 hk2 hka hgb2 hX hY her0
        go_wp2
        refine bodyPost_ret (v := .tuple #[.agg #[.slice none 0 0, .slice none 0 0, .slice none 0 0, .int .i64 0], .complex .f64 X Y, .int .i64 er]) (by simp [results, Tryz.results30, go_sem, g0, g1, g2, g3]) rfl ?_
        rw [HX.out]
        refine ⟨HXX.out _ X Y HXY.out.1 HXY.out.2, ?_⟩
        rw [← HNN.out]
        exact (((HW2.out.setCell (by simp only; omega) _).setCell (by simp only; omega) _).setCell (by simp only; omega) _).setCell (by simp only; omega) _
    · obtain ⟨rfl, ⟨h1, h2, h3, h4⟩⟩ := hs
      have cF : wr.cell? ⟨F, 2, none⟩ = some (.func (Fn.func 46) #[.pointer (some ⟨R, 0, none⟩)] #[]) := cell_of_row wr _ 2 _ _ _ HFB.out
      have HRD := HRDH.out
      have HRP := HRPH.out
      have HC := hide (brule_any L n R S ps A2 A1 c2 ds.length c1 wr HBL.out HPK.out HRP (Gm.lefts_ok _ ps (Gm.Nin.nil _) HLO.out h4).1 h3 (lefts_pos HLO.out h4) h1 HBn.out HLN.out.2)
      clear HRD HRP
      have HS := hide (And.intro h1 (And.intro h2 (And.intro h3 h4)))
      clear h1 h2 h3 h4
      cases q : Gm.prods S.ns S.s.ts S.rs ps with
      | ok a =>
        have HQ := hide q
        rw [q] at HC
        clear q
        go_wp2_with fail
        refine HC.out.mono ?_; rintro _ w2 ⟨⟨rfl, hb2, hn2, _⟩, hw2, hk2⟩
        have hka : KeepA wr w2 := hk2
        have HB2 := hide (hb2)
        have HW2 := hide (HBW.out.trans hw2)
        have HN2 : Hid (n ≤ w2.heap.size) := hide (Nat.le_trans HBn.out hw2.size)
        have HSB2 := hide (hka _ _ _ HSB.out (by decide) (by decide) (by decide) (by decide))
        have HGB2 := hide (hka _ _ _ HGB.out (by decide) (by decide) (by decide) (by decide))
        have HFB2 := hide (hka _ _ _ HFB.out (by decide) (by decide) (by decide) (by decide))
        have H3 := hide hn2
        clear hb2 hw2 hk2 hka
        go_wp2
        go_roundw
        case rel => exact ⟨3, { S with s := { S.s with ts := a.1 }, rs := a.2 }, by go_num, by omega, hide (.inr (.inr (.inr (.inl ⟨rfl, S.s, HS.out.2.1, HS.out.2.2.2, by have := HQ.out; rw [HS.out.1] at this; exact this, rfl, H3.out⟩)))), HB2, HW2, HN2, HSB2, HGB2, HFB2⟩
        case measure => simp [intOf]
      | bad y er =>
        have HQ := hide q
        rw [q] at HC
        clear q
        have HX : Hid (Gm.build ds ps = .bad y er) := hide (by unfold Gm.build; rw [HS.out.2.1, Gm.R.bind_ok, HS.out.2.2.2, Gm.R.bind_ok]; have := HQ.out; rw [HS.out.1] at this; rw [this]; rfl)
        go_wp2_with fail
        refine HC.out.mono ?_; rintro _ w2 ⟨⟨her0, rfl⟩, hw2, hk2⟩
        have hka : KeepA wr w2 := hk2
        have her : (er != 0) = true := by simpa using her0
        have HER := hide her0
        have HW2 := hide (HBW.out.trans hw2)
        have hgb2 := hka _ _ _ HGB.out (by decide) (by decide) (by decide) (by decide)
        have g0 : w2.cell? ⟨n + 1, 0, none⟩ = some (.slice none 0 0) := cell_of_row w2 _ 0 _ _ _ hgb2
        have g1 : w2.cell? ⟨n + 1, 1, none⟩ = some (.slice none 0 0) := cell_of_row w2 _ 1 _ _ _ hgb2
        have g2 : w2.cell? ⟨n + 1, 2, none⟩ = some (.slice none 0 0) := cell_of_row w2 _ 2 _ _ _ hgb2
        have g3 : w2.cell? ⟨n + 1, 3, none⟩ = some (.int .i64 0) := cell_of_row w2 _ 3 _ _ _ hgb2
        have f0 := frozen_of_row w2 _ 0 _ _ hgb2
        have f1 := frozen_of_row w2 _ 1 _ _ hgb2
        have f2 := frozen_of_row w2 _ 2 _ _ hgb2
        have f3 := frozen_of_row w2 _ 3 _ _ hgb2
        have hgz := (Array.getElem?_eq_some_iff.1 hgb2).1
        have HXX : Hid (∀ w3 X Y, X = rfX L y → Y = rfY L y → BuildAns L w3 (.bad y er) (.returned (.tuple #[.agg #[.slice none 0 0, .slice none 0 0, .slice none 0 0, .int .i64 0], .complex .f64 X Y, .int .i64 er]))) := hide (fun _ X Y h1 h2 => by subst h1 h2; exact ⟨HER.out, rfl⟩)
        obtain ⟨X, hX⟩ : ∃ X, X = rfX L y := ⟨_, rfl⟩
        obtain ⟨Y, hY⟩ : ∃ Y, Y = rfY L y := ⟨_, rfl⟩
        rw [← hX, ← hY]
        have HXY := hide (And.intro hX hY)
        clear hw2 hk2 hka hgb2 hX hY her0
        go_wp2
        refine bodyPost_ret (v := .tuple #[.agg #[.slice none 0 0, .slice none 0 0, .slice none 0 0, .int .i64 0], .complex .f64 X Y, .int .i64 er]) (by simp [results, Tryz.results30, go_sem, g0, g1, g2, g3]) rfl ?_
        rw [HX.out]
        refine ⟨HXX.out _ X Y HXY.out.1 HXY.out.2, ?_⟩
        rw [← HNN.out]
        exact (((HW2.out.setCell (by simp only; omega) _).setCell (by simp only; omega) _).setCell (by simp only; omega) _).setCell (by simp only; omega) _
    · obtain ⟨rfl, ⟨s1, h1, h2, h3, h4, h5⟩⟩ := hs
      have cF : wr.cell? ⟨F, 3, none⟩ = some (.func (Fn.func 47) #[.pointer (some ⟨R, 0, none⟩)] #[]) := cell_of_row wr _ 3 _ _ _ HFB.out
      have HRD := HRDH.out
      have HRP := HRPH.out
      have HC := hide (begin_any L n R S ps A2 A1 c2 ds.length c1 wr HBL.out HPK.out HRP h5 HPN.out (first_left HLO.out h2 HPN.out) (by rw [h4]; exact st_named HGD.out h1) HBn.out)
      clear HRD HRP
      have HBB : Hid (∀ a, Gm.start S.ns S.s.st = .ok a → Gm.build ds ps = .ok ⟨S.s.ts, S.ns, S.rs, a⟩) := hide (fun a h => by unfold Gm.build; rw [h1, Gm.R.bind_ok, h2, Gm.R.bind_ok, h3, Gm.R.bind_ok, ← h4, h]; rfl)
      have HBB2 : Hid (∀ y er, Gm.start S.ns S.s.st = .bad y er → Gm.build ds ps = .bad y er) := hide (fun y er h => by unfold Gm.build; rw [h1, Gm.R.bind_ok, h2, Gm.R.bind_ok, h3, Gm.R.bind_ok, ← h4, h]; rfl)
      clear h1 h2 h3 h4 h5
      cases q : Gm.start S.ns S.s.st with
      | ok a =>
        have HQ := hide q
        rw [q] at HC
        clear q
        go_wp2_with fail
        refine HC.out.mono ?_; rintro _ w2 ⟨⟨rfl, hb2⟩, hw2, hk2⟩
        have hka : KeepA wr w2 := hk2
        have HB2 := hide (hb2)
        have HW2 := hide (HBW.out.trans hw2)
        have HN2 : Hid (n ≤ w2.heap.size) := hide (Nat.le_trans HBn.out hw2.size)
        have HSB2 := hide (hka _ _ _ HSB.out (by decide) (by decide) (by decide) (by decide))
        have HGB2 := hide (hka _ _ _ HGB.out (by decide) (by decide) (by decide) (by decide))
        have HFB2 := hide (hka _ _ _ HFB.out (by decide) (by decide) (by decide) (by decide))
        
        clear hb2 hw2 hk2 hka
        go_wp2
        go_roundw
        case rel => exact ⟨4, { S with z := a }, by go_num, by omega, hide (.inr (.inr (.inr (.inr ⟨rfl, HBB.out a HQ.out⟩)))), HB2, HW2, HN2, HSB2, HGB2, HFB2⟩
        case measure => simp [intOf]
      | bad y er =>
        have HQ := hide q
        rw [q] at HC
        clear q
        have HX : Hid (Gm.build ds ps = .bad y er) := hide (HBB2.out y er HQ.out)
        go_wp2_with fail
        refine HC.out.mono ?_; rintro _ w2 ⟨⟨her0, rfl⟩, hw2, hk2⟩
        have hka : KeepA wr w2 := hk2
        have her : (er != 0) = true := by simpa using her0
        have HER := hide her0
        have HW2 := hide (HBW.out.trans hw2)
        have hgb2 := hka _ _ _ HGB.out (by decide) (by decide) (by decide) (by decide)
        have g0 : w2.cell? ⟨n + 1, 0, none⟩ = some (.slice none 0 0) := cell_of_row w2 _ 0 _ _ _ hgb2
        have g1 : w2.cell? ⟨n + 1, 1, none⟩ = some (.slice none 0 0) := cell_of_row w2 _ 1 _ _ _ hgb2
        have g2 : w2.cell? ⟨n + 1, 2, none⟩ = some (.slice none 0 0) := cell_of_row w2 _ 2 _ _ _ hgb2
        have g3 : w2.cell? ⟨n + 1, 3, none⟩ = some (.int .i64 0) := cell_of_row w2 _ 3 _ _ _ hgb2
        have f0 := frozen_of_row w2 _ 0 _ _ hgb2
        have f1 := frozen_of_row w2 _ 1 _ _ hgb2
        have f2 := frozen_of_row w2 _ 2 _ _ hgb2
        have f3 := frozen_of_row w2 _ 3 _ _ hgb2
        have hgz := (Array.getElem?_eq_some_iff.1 hgb2).1
        have HXX : Hid (∀ w3 X Y, X = rfX L y → Y = rfY L y → BuildAns L w3 (.bad y er) (.returned (.tuple #[.agg #[.slice none 0 0, .slice none 0 0, .slice none 0 0, .int .i64 0], .complex .f64 X Y, .int .i64 er]))) := hide (fun _ X Y h1 h2 => by subst h1 h2; exact ⟨HER.out, rfl⟩)
        obtain ⟨X, hX⟩ : ∃ X, X = rfX L y := ⟨_, rfl⟩
        obtain ⟨Y, hY⟩ : ∃ Y, Y = rfY L y := ⟨_, rfl⟩
        rw [← hX, ← hY]
        have HXY := hide (And.intro hX hY)
        clear hw2 hk2 hka hgb2 hX hY her0
        go_wp2
        refine bodyPost_ret (v := .tuple #[.agg #[.slice none 0 0, .slice none 0 0, .slice none 0 0, .int .i64 0], .complex .f64 X Y, .int .i64 er]) (by simp [results, Tryz.results30, go_sem, g0, g1, g2, g3]) rfl ?_
        rw [HX.out]
        refine ⟨HXX.out _ X Y HXY.out.1 HXY.out.2, ?_⟩
        rw [← HNN.out]
        exact (((HW2.out.setCell (by simp only; omega) _).setCell (by simp only; omega) _).setCell (by simp only; omega) _).setCell (by simp only; omega) _
    · obtain ⟨rfl, h1⟩ := hs
      have HX := hide h1
      obtain ⟨vT, vN, vR, Ms, Mt, ml, tl, h⟩ := HBL.out
      obtain ⟨AT, mT, cT, rfl⟩ := own_slice h.w.t
      obtain ⟨AN, mN, cN, rfl⟩ := own_slice h.w.n
      obtain ⟨AR, cR, rfl, _, _⟩ := ownrl_form h.w.r
      have HH := hide h
      have b0 : wr.cell? ⟨R, 0, none⟩ = some (.slice AT mT cT) := (h.w.at 0).1
      have b1 : wr.cell? ⟨R, 1, none⟩ = some (.slice AN mN cN) := (h.w.at 1).1
      have b2 : wr.cell? ⟨R, 2, none⟩ = some (.slice AR S.rs.length cR) := (h.w.at 2).1
      have b3 : wr.cell? ⟨R, 3, none⟩ = some (.int .i64 S.z) := (h.w.at 3).1
      have hRs := (h.w.at 0).2.2
      have g0 : wr.cell? ⟨n + 1, 0, none⟩ = some (.slice none 0 0) := cell_of_row wr _ 0 _ _ _ HGB.out
      have g1 : wr.cell? ⟨n + 1, 1, none⟩ = some (.slice none 0 0) := cell_of_row wr _ 1 _ _ _ HGB.out
      have g2 : wr.cell? ⟨n + 1, 2, none⟩ = some (.slice none 0 0) := cell_of_row wr _ 2 _ _ _ HGB.out
      have g3 : wr.cell? ⟨n + 1, 3, none⟩ = some (.int .i64 0) := cell_of_row wr _ 3 _ _ _ HGB.out
      have f0 := frozen_of_row wr _ 0 _ _ HGB.out
      have f1 := frozen_of_row wr _ 1 _ _ HGB.out
      have f2 := frozen_of_row wr _ 2 _ _ HGB.out
      have f3 := frozen_of_row wr _ 3 _ _ HGB.out
      clear h h1
      have HOF : Hid (Off wr wr.heap.size (some (n + 1))) := hide ⟨fun g e => by injection e with e; subst e; exact ⟨_, _, HGB.out, by decide, by decide, by decide, .inl ⟨by decide, by decide⟩⟩⟩
      have HGR := hide (fun u0 u1 u2 u3 => HH.out.w.grown (only_set (only_set (only_set (only_set (World.grownBy.refl wr (some (n + 1))) 0 u0) 1 u1) 2 u2) 3 u3) HOF.out)
      go_wp2
      refine bodyPost_ret (v := .tuple #[.agg #[.slice AT mT cT, .slice AN mN cN, .slice AR S.rs.length cR, .int .i64 S.z], .complex .f64 0 0, .int .i64 0]) (by simp [results, Tryz.results30, go_sem, g0, g1, g2, g3]) rfl ?_
      rw [HX.out]
      refine ⟨⟨_, rfl, n, _, _, _, _, _, _, _, _, _, _, rfl, HGR.out _ _ _ _, by simp⟩, ?_⟩
      rw [← HNN.out]
      exact (((HBW.out.setCell (by simp only; omega) _).setCell (by simp only; omega) _).setCell (by simp only; omega) _).setCell (by simp only; omega) _
end Go.Proofs.YtoehbkgdodogkaaGreat

/- Contracts over this program: a text's grammar. -/
namespace Go.Proofs.YtoehbkgdodogkaaGreat
set_option maxRecDepth 100000
open Go.RowKit

/-- What a text's grammar is, if the text is a source. -/
def rd (L : List Int) : Option (Gm.R Gm.Gr) := match toks L with
  | .bad _ _ => none
  | .ok xs => match Y.source xs with
    | .ok s _ => some (Gm.build s.1 s.2)
    | .bad _ => none
def ReadAns (L : List Int) (w' : World) (e : Ending) : Prop := match rd L with
  | some r => BuildAns L w' r e
  | none => ∃ X Y er, er ≠ 0 ∧ e = .returned (.tuple #[.agg #[.slice none 0 0, .slice none 0 0, .slice none 0 0, .int .i64 0], .complex .f64 X Y, .int .i64 er])
theorem rd_built {L : List Int} {G : Gm.Gr} (hl : K.Bytes L) (h : rd L = some (.ok G)) : Gm.Built G := by
  unfold rd at h
  rcases ht : toks L with xs | ⟨o, d⟩
  · rw [ht] at h
    simp only at h
    rcases hs : Y.source xs with ⟨s, r⟩ | p
    · rw [hs] at h
      simp only [Option.some.injEq] at h
      exact Gm.build_ok (source_good (toks_rise L hl xs ht) hs) h
    · rw [hs] at h; cases h
  · rw [ht] at h; cases h
theorem prefs_len : ∀ (ps : List Y.Prd) (q : Option Nat), ∀ p ∈ ps, p.refs.length ≤ (Y.prefs q ps).length
  | [], _, p, hp => by simp at hp
  | y :: r, q, p, hp => by
    rw [Y.prefs]
    rcases List.mem_cons.1 hp with e | e
    · subst e; simp only [List.length_append]; omega
    · have := prefs_len r (some y.l.o) p e; simp only [List.length_append]; omega
theorem flat_len : ∀ (ds : List Y.Dcl), ∀ d ∈ ds, d.ns.length ≤ (ds.flatMap (·.ns)).length
  | [], d, hd => by simp at hd
  | y :: r, d, hd => by
    rw [List.flatMap_cons, List.length_append]
    rcases List.mem_cons.1 hd with e | e
    · subst e; omega
    · have := flat_len r d e; omega
theorem src_lens {xs : List Tok} {s : List Y.Dcl × List Y.Prd} (hin : Y.SourceIn xs s) : (∀ d ∈ s.1, d.ns.length ≤ xs.length) ∧ ∀ p ∈ s.2, p.r.length ≤ xs.length := by
  have hl : (Y.listed s.1 s.2).length ≤ xs.length := by rw [hin.l]; exact List.length_filter_le _ _
  unfold Y.listed at hl
  rw [List.length_append] at hl
  refine ⟨fun d hd => ?_, fun p hp => ?_⟩
  · exact Nat.le_trans (flat_len s.1 d hd) (Nat.le_trans (Nat.le_add_right _ _) hl)
  · have h1 := prefs_len s.2 none p hp
    have h2 : p.r.length ≤ p.refs.length := by unfold Y.Prd.refs; simp
    omega

set_option maxHeartbeats 4000000 in
theorem read_wrong (A : Option Addr) (c m : Nat) (w : World) (d : Int) (hd : d ≠ 0) (X Y : Nat)
    (hp : ∀ w1 : World, Below w.heap.size w w1 → Calls Tryz.prog 29 #[.slice A m c] w1 fun e w' => e = .returned (.tuple #[.agg #[.slice none 0 0, .slice none 0 0], .complex .f64 X Y, .int .i64 d]) ∧ Below w1.heap.size w1 w') :
    Calls Tryz.prog 15 #[.slice A m c] w fun e w' => e = .returned (.tuple #[.agg #[.slice none 0 0, .slice none 0 0, .slice none 0 0, .int .i64 0], .complex .f64 X Y, .int .i64 d]) ∧ Below w.heap.size w w' := by
  have SC := fun a w m X Y => show (store a (.complex .f64 X Y) m).run Tryz.prog w = stored Tryz.prog w a (.complex .f64 X Y) m from run_store _ w a _ m rfl
  have hbg := fun w => build_gr w
  have HP := hide (hp _ ((Below.refl w.heap.size w).alloc (Nat.le_refl _) (.cells grC 26)))
  have hd0 : (d != 0) = true := by simpa using hd
  have HB1 := hide ((Below.refl w.heap.size w).alloc (Nat.le_refl _) (.cells grC 26))
  have HG1 := hide (heap_alloc_new w (.cells grC 26))
  unfold grC at HP HB1
  clear hp hd
  go_enter Tryz.func15, Tryz.ntmps15
  go_wp2_with fail
  refine HP.out.mono ?_; rintro _ w2 ⟨rfl, hb2⟩
  have hgb := (hb2.block w.heap.size (by simp)).trans HG1.out
  have g0 : w2.cell? ⟨w.heap.size, 0, none⟩ = some (.slice none 0 0) := cell_of_row w2 _ 0 _ _ _ hgb
  have g1 : w2.cell? ⟨w.heap.size, 1, none⟩ = some (.slice none 0 0) := cell_of_row w2 _ 1 _ _ _ hgb
  have g2 : w2.cell? ⟨w.heap.size, 2, none⟩ = some (.slice none 0 0) := cell_of_row w2 _ 2 _ _ _ hgb
  have g3 : w2.cell? ⟨w.heap.size, 3, none⟩ = some (.int .i64 0) := cell_of_row w2 _ 3 _ _ _ hgb
  have f0 := frozen_of_row w2 _ 0 _ _ hgb
  have f1 := frozen_of_row w2 _ 1 _ _ hgb
  have f2 := frozen_of_row w2 _ 2 _ _ hgb
  have f3 := frozen_of_row w2 _ 3 _ _ hgb
  have hgz := (Array.getElem?_eq_some_iff.1 hgb).1
  have HB2 := hide (HB1.out.trans (hb2.mono HB1.out.size))
  clear hb2 hgb
  have hca : ∀ (x : World) (o : Obj) (j : Nat), w.heap.size < x.heap.size → (x.alloc o).cell? ⟨w.heap.size, j, none⟩ = x.cell? ⟨w.heap.size, j, none⟩ := fun x o j h => ((Below.refl x.heap.size x).alloc (Nat.le_refl _) o).cell (p := ⟨_, j, none⟩) h
  go_wp2
  refine bodyPost_ret (v := .tuple #[.agg #[.slice none 0 0, .slice none 0 0, .slice none 0 0, .int .i64 0], .complex .f64 X Y, .int .i64 d]) (by simp [results, Tryz.results15, go_sem, g0, g1, g2, g3, hca, hgz]) rfl ?_
  refine ⟨rfl, ?_⟩
  exact (below_far (below_far (below_far (below_far HB2.out _ (Nat.le_refl _)) _ (Nat.le_refl _)) _ (Nat.le_refl _)) _ (Nat.le_refl _)).alloc (by simpa using HB2.out.size) _

set_option maxHeartbeats 4000000 in
theorem read_src (A : Option Addr) (c m : Nat) (L : List Int) (ds : List Y.Dcl) (ps : List Y.Prd) (w : World)
    (hp : ∀ w1 : World, Below w.heap.size w w1 → Calls Tryz.prog 29 #[.slice A m c] w1 fun e w' => ∃ dv pv, e = .returned (.tuple #[.agg #[dv, pv], .complex .f64 0 0, .int .i64 0]) ∧ OwnD L w' w1.heap.size dv ds ∧ OwnP L w' w1.heap.size pv ps ∧ Below w1.heap.size w1 w')
    (hg : Gm.Good ds ps) (hdl : ds.length ≤ 1000000) (hpl : ps.length ≤ 1000000) (hdk : ∀ d ∈ ds, d.ns.length ≤ 1000000) (hpk : ∀ p ∈ ps, p.r.length ≤ 1000000) :
    Calls Tryz.prog 15 #[.slice A m c] w fun e w' => BuildAns L w' (Gm.build ds ps) e ∧ Below w.heap.size w w' := by
  have SC := fun a w m X Y => show (store a (.complex .f64 X Y) m).run Tryz.prog w = stored Tryz.prog w a (.complex .f64 X Y) m from run_store _ w a _ m rfl
  have HP := hide (hp _ ((Below.refl w.heap.size w).alloc (Nat.le_refl _) (.cells grC 26)))
  have HB1 := hide ((Below.refl w.heap.size w).alloc (Nat.le_refl _) (.cells grC 26))
  have HG1 := hide (heap_alloc_new w (.cells grC 26))
  have HBA := hide (fun (x : World) (A1 A2 : Option Addr) (c1 c2 : Nat) (h1 : RdDl L x x.heap.size A1 ds) (h2 : RdPd L x x.heap.size A2 ps) => build_any L ds ps A1 A2 c1 c2 x h1 h2 hg hdl hpl hdk hpk)
  unfold grC at HP HB1
  clear hp hg hdl hpl hdk hpk
  go_enter Tryz.func15, Tryz.ntmps15
  go_wp2_with fail
  refine HP.out.mono ?_; rintro _ w2 ⟨dv, pv, rfl, hod, hop, hb2⟩
  obtain ⟨A1, c1, rfl, hrd⟩ := dl_of_own hod
  obtain ⟨A2, c2, rfl, hrp⟩ := pd_of_own hop
  have hgb := (hb2.block w.heap.size (by simp)).trans HG1.out
  have HGB := hide hgb
  have HB2 := hide (HB1.out.trans (hb2.mono HB1.out.size))
  have hgz := (Array.getElem?_eq_some_iff.1 hgb).1
  obtain ⟨w3, hw3⟩ : ∃ x, x = w2.alloc (.cells #[.slice A1 ds.length c1, .slice A2 ps.length c2] 57) := ⟨_, rfl⟩
  have HB3 : Hid (Below w.heap.size w w3) := hide (by rw [hw3]; exact HB2.out.alloc HB2.out.size _)
  have hb23 : Below w2.heap.size w2 w3 := by rw [hw3]; exact (Below.refl _ _).alloc (Nat.le_refl _) _
  have HG3 : Hid (w3.heap[w.heap.size]? = some (.cells grC 26 (0, 0))) := hide ((hb23.block _ hgz).trans hgb)
  have hs3 : w2.heap.size ≤ w3.heap.size := hb23.size
  have HC := hide (HBA.out w3 A1 A2 c1 c2 (fun hn => by
      obtain ⟨g, o, e, h1, h2⟩ := (hrd.keep hb23) hn
      refine ⟨g, o, e, by omega, fun i hi => ?_⟩
      obtain ⟨k1, A', c', k2, k3⟩ := h2 i hi
      exact ⟨k1, A', c', k2, fun hn => by obtain ⟨g, o, e, q1, q2⟩ := k3 hn; exact ⟨g, o, e, by omega, q2⟩⟩) (fun hn => by
      obtain ⟨g, o, e, h1, h2⟩ := (hrp.keep hb23) hn
      refine ⟨g, o, e, by omega, fun i hi => ?_⟩
      obtain ⟨k1, k2, ⟨A', c', k3, k4⟩, k5⟩ := h2 i hi
      exact ⟨k1, k2, ⟨A', c', k3, fun hn => by obtain ⟨g, o, e, q1, q2⟩ := k4 hn; exact ⟨g, o, e, by omega, q2⟩⟩, k5⟩))
  rw [hw3] at HC HB3 HG3
  clear hb2 hgb hod hop hrd hrp hw3 hb23 hs3 HBA
  go_wp2_with fail
  refine HC.out.mono ?_; rintro _ w4 ⟨hans, hb4⟩
  have hgb := (hb4.block w.heap.size (by simp; omega)).trans HG3.out
  have g0 : w4.cell? ⟨w.heap.size, 0, none⟩ = some (.slice none 0 0) := cell_of_row w4 _ 0 _ _ _ hgb
  have g1 : w4.cell? ⟨w.heap.size, 1, none⟩ = some (.slice none 0 0) := cell_of_row w4 _ 1 _ _ _ hgb
  have g2 : w4.cell? ⟨w.heap.size, 2, none⟩ = some (.slice none 0 0) := cell_of_row w4 _ 2 _ _ _ hgb
  have g3 : w4.cell? ⟨w.heap.size, 3, none⟩ = some (.int .i64 0) := cell_of_row w4 _ 3 _ _ _ hgb
  have f0 := frozen_of_row w4 _ 0 _ _ hgb
  have f1 := frozen_of_row w4 _ 1 _ _ hgb
  have f2 := frozen_of_row w4 _ 2 _ _ hgb
  have f3 := frozen_of_row w4 _ 3 _ _ hgb
  have hgz4 := (Array.getElem?_eq_some_iff.1 hgb).1
  have HGB4 := hide hgb
  have HB4 := hide (HB3.out.trans (hb4.mono HB3.out.size))
  clear hb4 hgb
  rcases hq : Gm.build ds ps with G | ⟨y, er⟩
  · rw [hq] at hans
    obtain ⟨v, rfl, B, N, R, cs, vT, vN, vR, Ms, Mt, ml, tl, rfl, h, hN⟩ := hans
    obtain ⟨AT, mT, cT, rfl⟩ := own_slice h.t
    obtain ⟨AN, mN, cN, rfl⟩ := own_slice h.n
    obtain ⟨AR, cR, rfl, _, _⟩ := ownrl_form h.r
    have HGR := hide (fun u0 u1 u2 u3 => h.grown (only_set (only_set (only_set (only_set (World.grownBy.refl w4 (some w.heap.size)) 0 u0) 1 u1) 2 u2) 3 u3) (⟨fun g e => by injection e with e; subst e; exact ⟨_, _, HGB4.out, by decide, by decide, by decide, .inl ⟨by decide, by decide⟩⟩⟩))
    have HNN := hide hN
    have HQ := hide hq
    clear hq h hN
    go_wp2
    refine bodyPost_ret (v := .tuple #[.agg #[.slice AT mT cT, .slice AN mN cN, .slice AR G.rs.length cR, .int .i64 G.st], .complex .f64 0 0, .int .i64 0]) (by simp [results, Tryz.results15, go_sem, g0, g1, g2, g3]) rfl ?_
    rw [HQ.out]
    refine ⟨⟨_, rfl, B, N, R, cs, _, _, _, Ms, Mt, ml, tl, rfl, HGR.out _ _ _ _, by simpa using HNN.out⟩, ?_⟩
    exact below_far (below_far (below_far (below_far HB4.out _ (Nat.le_refl _)) _ (Nat.le_refl _)) _ (Nat.le_refl _)) _ (Nat.le_refl _)
  · rw [hq] at hans
    obtain ⟨her, rfl⟩ := hans
    have HER := hide her
    have HQ := hide hq
    clear hq her
    have HXX : Hid (∀ w3 X Y, X = rfX L y → Y = rfY L y → BuildAns L w3 (.bad y er) (.returned (.tuple #[.agg #[.slice none 0 0, .slice none 0 0, .slice none 0 0, .int .i64 0], .complex .f64 X Y, .int .i64 er]))) := hide (fun _ X Y h1 h2 => by subst h1 h2; exact ⟨HER.out, rfl⟩)
    obtain ⟨X, hX⟩ : ∃ X, X = rfX L y := ⟨_, rfl⟩
    obtain ⟨Y, hY⟩ : ∃ Y, Y = rfY L y := ⟨_, rfl⟩
    rw [← hX, ← hY]
    have HXY := hide (And.intro hX hY)
    clear hX hY
    go_wp2
    refine bodyPost_ret (v := .tuple #[.agg #[.slice none 0 0, .slice none 0 0, .slice none 0 0, .int .i64 0], .complex .f64 X Y, .int .i64 er]) (by simp [results, Tryz.results15, go_sem, g0, g1, g2, g3]) rfl ?_
    rw [HQ.out]
    refine ⟨HXX.out _ X Y HXY.out.1 HXY.out.2, ?_⟩
    exact below_far (below_far (below_far (below_far HB4.out _ (Nat.le_refl _)) _ (Nat.le_refl _)) _ (Nat.le_refl _)) _ (Nat.le_refl _)
theorem read_any (A : Option Addr) (c : Nat) (L : List Int) (w : World) (hr : RdB w w.heap.size A L) (hl : K.Bytes L) (hc : L.length ≤ c) (hn : L.length ≤ 4000) (hm : ML w) :
    Calls Tryz.prog 15 #[.slice A L.length c] w fun e w' => ReadAns L w' e ∧ Below w.heap.size w w' := by
  have hP := fun (w1 : World) (h1 : Below w.heap.size w w1) => parse_any A c L w1 (hr.up h1) hl hc hn (hm.up h1)
  unfold ReadAns rd
  rcases ht : toks L with xs | ⟨o, d⟩
  · have hri := toks_rise L hl xs ht
    have hcx := hri.count
    simp only
    rw [ht] at hP
    rcases hs : Y.source xs with ⟨s, r⟩ | p
    · have hin := Y.source_in hs hri.2
      have hlen := src_lens hin
      have hd := hin.d
      have hp := hin.p
      refine (read_src A c L.length L s.1 s.2 w (fun w1 h1 => (hP w1 h1).mono fun e w' h => ?_) (source_good hri hs) (by omega) (by omega) (fun d h => by have := hlen.1 d h; omega) (fun p h => by have := hlen.2 p h; omega))
      unfold ParseAns at h
      simp only at h
      rw [hs] at h
      obtain ⟨hb, dv, pv, he, q1, q2⟩ := h
      exact ⟨dv, pv, he, q1, q2, hb⟩
    · rcases p with _ | t
      · refine (read_wrong A c L.length w 4 (by decide) (Fl.fl (Pl.pos L).1) (Fl.fl (Pl.pos L).2) (fun w1 h1 => (hP w1 h1).mono fun e w' h => ?_)).mono fun e w' h => ⟨⟨_, _, 4, by decide, h.1⟩, h.2⟩
        unfold ParseAns at h
        simp only at h
        rw [hs] at h
        exact ⟨h.2, h.1⟩
      · refine (read_wrong A c L.length w 3 (by decide) (Fl.fl (Pl.pos (L.take t.o)).1) (Fl.fl (Pl.pos (L.take t.o)).2) (fun w1 h1 => (hP w1 h1).mono fun e w' h => ?_)).mono fun e w' h => ⟨⟨_, _, 3, by decide, h.1⟩, h.2⟩
        unfold ParseAns at h
        simp only at h
        rw [hs] at h
        exact ⟨h.2, h.1⟩
  · simp only
    rw [ht] at hP
    refine (read_wrong A c L.length w d (toks_ne L o d ht) (Fl.fl (Pl.pos (L.take o)).1) (Fl.fl (Pl.pos (L.take o)).2) (fun w1 h1 => (hP w1 h1).mono fun e w' h => ?_)).mono fun e w' h => ⟨⟨_, _, d, toks_ne L o d ht, h.1⟩, h.2⟩
    unfold ParseAns at h
    exact ⟨h.2, h.1⟩
end Go.Proofs.YtoehbkgdodogkaaGreat
