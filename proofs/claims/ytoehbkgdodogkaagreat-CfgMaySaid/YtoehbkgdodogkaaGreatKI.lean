/- The contract over this program: a builder's rule. -/
import Derived.Test.YtoehbkgdodogkaaGreatKH
namespace Go.Proofs.YtoehbkgdodogkaaGreat
set_option maxRecDepth 100000
open Go.RowKit

/-- What holds while a rule's symbols are read. -/
structure PrI (L : List Int) (w0 wr : World) (B R : Nat) (S0 S : St) (PC : Array Value) (lf : Int) (v : Value) (acc : List Int) (p : Int) : Prop where
  b : Bld L wr B w0.heap.size R S
  e : ∀ ts, ({ S0 with s := { S0.s with ts := ts } } : St) = { S with s := { S.s with ts := ts } }
  n : Gm.Nin S.s.ts S.ns
  t : S.s.ts.length ≤ 24
  w : Below B w0 wr
  k : KeepT w0 wr
  pb : wr.heap[w0.heap.size]? = some (.cells PC 102 (0, 0))
  qb : wr.heap[w0.heap.size + 1]? = some (.cells #[.int .i64 lf, v, .int .i64 p] 43 (0, 0))
  o : OwnI wr w0.heap.size v acc
theorem PrI.alloc {L : List Int} {w0 wr : World} {B R : Nat} {S0 S : St} {PC : Array Value} {lf p : Int} {v : Value} {acc : List Int} (h : PrI L w0 wr B R S0 S PC lf v acc p) (o : Obj) (hB : B ≤ w0.heap.size) : PrI L w0 (wr.alloc o) B R S0 S PC lf v acc p :=
  ⟨h.b.alloc o, h.e, h.n, h.t, h.w.alloc (Nat.le_trans hB h.w.size) o, h.k.trans (KeepT.below ((Below.refl _ _).alloc (Nat.le_refl _) o)), (Below.heap_alloc wr o _ (Array.getElem?_eq_some_iff.1 h.pb).1).trans h.pb, (Below.heap_alloc wr o _ (Array.getElem?_eq_some_iff.1 h.qb).1).trans h.qb, h.o.alloc o⟩
/-- A call that turns terminals alone. -/
theorem PrI.call {L : List Int} {w0 wr w' : World} {B R : Nat} {S0 S : St} {PC : Array Value} {lf p : Int} {v : Value} {acc : List Int} (h : PrI L w0 wr B R S0 S PC lf v acc p) {ts : List Gm.Tm} (hb : Bld L w' B w0.heap.size R { S with s := { S.s with ts := ts } }) (hw : Below B wr w') (hk : KeepT wr w') (hn : Gm.Nin ts S.ns) (ht : ts.length ≤ 24) : PrI L w0 w' B R S0 { S with s := { S.s with ts := ts } } PC lf v acc p :=
  ⟨hb, h.e, hn, ht, h.w.trans hw, h.k.trans hk, hk _ _ _ h.pb (by decide) (by decide), hk _ _ _ h.qb (by decide) (by decide), h.o.keepT hk⟩
/-- A cell of the rule is written. -/
theorem PrI.off {w0 wr : World} {lf p : Int} {v : Value} (qb : wr.heap[w0.heap.size + 1]? = some (.cells #[.int .i64 lf, v, .int .i64 p] 43 (0, 0))) : Off wr w0.heap.size (some (w0.heap.size + 1)) := ⟨fun g e => by
  injection e with e
  subst e
  exact ⟨_, _, qb, by decide, by decide, by decide, .inr (by omega)⟩⟩
theorem PrI.setQ {L : List Int} {w0 wr : World} {B R : Nat} {S0 S : St} {PC : Array Value} {lf p p' : Int} {v v' : Value} {acc : List Int} (h : PrI L w0 wr B R S0 S PC lf v acc p) (j : Nat) (u : Value) (hu : (#[.int .i64 lf, v, .int .i64 p] : Array Value).setIfInBounds j u = #[.int .i64 lf, v', .int .i64 p']) (ho : OwnI (wr.setCell ⟨w0.heap.size + 1, j, none⟩ u) w0.heap.size v' acc) (hB : B ≤ w0.heap.size) : PrI L w0 (wr.setCell ⟨w0.heap.size + 1, j, none⟩ u) B R S0 S PC lf v' acc p' := by
  have hg : wr.grownBy (wr.setCell ⟨w0.heap.size + 1, j, none⟩ u) (some (w0.heap.size + 1)) := only_set (World.grownBy.refl _ _) j u
  refine ⟨h.b.grown hg (PrI.off h.qb), h.e, h.n, h.t, h.w.setCell (by simp only; omega) u, h.k.beyond hg (fun k e => by injection e with e; omega), (Below.heap_setCell wr ⟨w0.heap.size + 1, j, none⟩ u w0.heap.size (by simp only; omega)).trans h.pb, ?_, ho⟩
  rw [← hu]
  exact heap_setCell_same wr _ j _ _ u h.qb
theorem OwnI.set_away {w : World} {base g : Nat} {v : Value} {xs : List Int} {cs : Array Value} (h : OwnI w base v xs) (hg : w.heap[g]? = some (.cells cs 43 (0, 0))) (j : Nat) (u : Value) : OwnI (w.setCell ⟨g, j, none⟩ u) base v xs :=
  World.ownsRow.kept h (only_set (World.grownBy.refl _ _) j u) (own_away h hg (fun cur e => by injection e with _ e; cases e))

theorem ints_own_nil (w : World) (base : Nat) : OwnI w base (.slice none 0 0) [] := OwnI.nil w base
/-- The rule's symbols have one more. -/
theorem PrI.app {L : List Int} {w0 wr w' : World} {B R : Nat} {S0 S : St} {PC : Array Value} {lf p : Int} {v v' : Value} {acc acc' : List Int} (h : PrI L w0 wr B R S0 S PC lf v acc p) (ho : OwnI w' w0.heap.size v' acc') (hg : wr.grownBy w' v.ownBlock) (hB : B ≤ w0.heap.size) :
    (w'.heap[w0.heap.size + 1]? = some (.cells #[.int .i64 lf, v, .int .i64 p] 43 (0, 0))) ∧ PrI L w0 (w'.setCell ⟨w0.heap.size + 1, 1, none⟩ v') B R S0 S PC lf v' acc' p := by
  have hb' := h.b.grown hg h.o.off
  have pb' := cells_row h.pb h.o (by decide) hg
  have qb' := cells_row h.qb h.o (by decide) hg
  have hN : ∀ k, v.ownBlock = some k → w0.heap.size ≤ k := fun k e => (own_holds h.o e).1
  have hw' := h.w.grown hg (Nat.le_trans hB h.w.size) (fun k e => Nat.le_trans hB (hN k e))
  have hk' := h.k.beyond hg hN
  have hg2 : w'.grownBy (w'.setCell ⟨w0.heap.size + 1, 1, none⟩ v') (some (w0.heap.size + 1)) := only_set (World.grownBy.refl _ _) 1 v'
  exact ⟨qb', hb'.grown hg2 (PrI.off qb'), h.e, h.n, h.t, hw'.setCell (by simp only; omega) v', hk'.beyond hg2 (fun k e => by injection e with e; omega), (Below.heap_setCell w' ⟨w0.heap.size + 1, 1, none⟩ v' w0.heap.size (by simp only; omega)).trans pb', heap_setCell_same w' _ 1 _ _ v' qb', ho.set_away qb' 1 v'⟩
theorem PrI.ns {L : List Int} {w0 wr : World} {B R : Nat} {S0 S : St} {PC : Array Value} {lf p : Int} {v : Value} {acc : List Int} (h : PrI L w0 wr B R S0 S PC lf v acc p) : S.ns = S0.ns ∧ S.rs = S0.rs := ⟨(congrArg St.ns (h.e [])).symm, (congrArg St.rs (h.e [])).symm⟩

set_option maxHeartbeats 8000000 in
theorem prod_any (L : List Int) (B R : Nat) (S : St) (pr : Y.Prd) (A : Option Addr) (c : Nat) (w : World) (hb : Bld L w B w.heap.size R S) (hd : PdOk pr) (hr : RdRf L w B A pr.r) (hN : Gm.Nin S.s.ts S.ns) (ht : S.s.ts.length ≤ 24) (hln : 0 ≤ Gm.find S.ns pr.l.t) (hB : B ≤ w.heap.size) (hrs : S.rs.length ≤ 1000) :
    Calls Tryz.prog 65 #[.pointer (some ⟨R, 0, none⟩), .agg (pdCells L pr A c)] w fun e w' => AnsR L w' B R S (prR S.ns S.s.ts S.rs pr) e ∧ Below B w w' ∧ KeepA w w' := by
  have SC := fun a w m X Y => show (store a (.complex .f64 X Y) m).run Tryz.prog w = stored Tryz.prog w a (.complex .f64 X Y) m from run_store _ w a _ m rfl
  have hR0 := hb.lt.1
  obtain ⟨d1, d2, d3, d4⟩ := hd
  have HTX := hide (Gm.tx_named ⟨(by unfold Gm.named; rw [d1.1]; rfl : Gm.named pr.l.t = true), d1.2⟩)
  have HR := hide hr
  have HDX := hide (fun (i : Nat) (hi : i < pr.r.length) => d2 _ (List.getElem_mem hi))
  have HDP := hide d3
  have HN := hide hN
  have HT := hide ht
  have hfl := Gm.find_lt S.ns pr.l.t
  have hNl := hN.c
  obtain ⟨vT, vN, vR, Ms, Mt, ml, tl, h⟩ := id hb
  have HH := hide h
  have hnt : ¬ 0 ≤ Gm.find (Gm.names S.s.ts) pr.l.t := fun q => by
    obtain ⟨i, _, hi, e⟩ := Gm.find_some hln
    have := hN.no _ (List.getElem_mem hi)
    rw [e] at this
    have := Gm.find_none.2 this
    omega
  obtain ⟨z, hz⟩ : ∃ z, z = -1 - Gm.find S.ns pr.l.t := ⟨_, rfl⟩
  have he : symV S.s.ts S.ns pr.l.t = some (.int .i64 z) := by unfold symV; rw [if_neg hnt, if_pos hln, hz]
  have HLF : Hid (-1 - z = Gm.find S.ns pr.l.t) := hide (by omega)
  have HNN := hide (fun y => non_any z (by omega) (by omega) y)
  obtain ⟨lf, hlf⟩ : ∃ lf, lf = -1 - z := ⟨_, rfl⟩
  rw [← hlf] at HNN HLF
  obtain ⟨w1, hw1⟩ : ∃ w1, w1 = w.alloc (.cells (pdCells L pr A c) 102) := ⟨_, rfl⟩
  have H1 : Hid (BldAt L w1 B w.heap.size R S vT vN vR Ms Mt ml tl) := hide (by rw [hw1]; exact h.grown (World.grownBy_alloc w _ .none) (Off.none _ _))
  have HP1 : Hid (w1.heap[w.heap.size]? = some (.cells (pdCells L pr A c) 102 (0, 0))) := hide (by rw [hw1]; exact heap_alloc_new w _)
  have hs1 : w1.heap.size = w.heap.size + 1 := by rw [hw1]; simp
  have HW1 : Hid (Below B w w1) := hide (by rw [hw1]; exact (Below.refl B w).alloc hB _)
  have HK1 : Hid (KeepT w w1) := hide (by rw [hw1]; exact KeepT.below ((Below.refl _ _).alloc (Nat.le_refl _) _))
  have CLK : ∀ y : Calm.On w1.heap.size w1, (Instr.lookup 72 (.map (some Ms)) (.string (K.str pr.l.t)) false).run Tryz.prog y.1 = .ok (.int .i64 z) y.1 := fun y => by
    have hy := H1.out.below y.2
    have := Mw.run_look (x := pr.l.t) hy.w.ms strK Tryz.underlying72 (zero_int y.1) HTX.out false
    rw [if_neg (by simp), hy.so pr.l.t, he] at this
    exact this
  have C4 : ∀ y : Calm.On w1.heap.size w1, y.1.cell? ⟨R, 4, none⟩ = some (.map (some Ms)) := fun y => ((H1.out.below y.2).w.at 4).1
  have D0 : ∀ y : Calm.On w1.heap.size w1, y.1.cell? ⟨w.heap.size, 0, none⟩ = some (.string (K.str pr.l.t)) := fun y => cell_of_row y.1 _ 0 _ _ _ ((y.2.block w.heap.size (by omega)).trans HP1.out)
  have HRB := hide (fun y => build_rl lf y)
  unfold pdCells at HP1 hw1 ⊢
  clear h hb hr hN ht d1 d2 d3 he hnt hz hlf hln
  go_enter Tryz.func65, Tryz.ntmps65
  go_upto_region 1 with fail
  rw [← hw1]
  clear hw1
  have HDa := hide (below_drewN (Below.refl w1.heap.size w1) 1)
  have HDb := hide (fun o => (below_drewN (Below.refl w1.heap.size w1) 1).alloc (Nat.le_refl _) o)
  have RB := HRB.out
  refine CalmN.region_tree (fun x => ∃ y : Calm.On w1.heap.size w1, x = y.1) (.two [0, 1, 2, 3, 4, 5, 6, 7] 8 (.one [9] 10 (.one [] 11 (.fin []))) 10 (.one [] 8 (.one [9] 11 (.fin [])))) (by kernel_rfl) (by kernel_rfl) (fun _ _ d _ _ h => by cases d <;> exact h) ⟨⟨w1.drew, HDa.out⟩, rfl⟩ ?_
  simp only [CalmN.wpT, CalmN.wpSt, CalmN.pickOps, List.getElem?_toArray, List.getElem?_cons_zero, List.getElem?_cons_succ]
  repeat (go_big_quiet_step (fail))
  refine wpQuiet_nil ?_
  clear C4 D0 CLK
  have HPQ : Hid (PrI L w (w1.drew.alloc (.cells #[.int .i64 lf, .slice none 0 0, .int .i64 (-1)] 43)) B R S S #[.string (K.str pr.l.t), .complex .f64 (rfX L pr.l) (rfY L pr.l), .slice A pr.r.length c, .string (soS pr.p), .complex .f64 (soX L pr.p) (soY L pr.p)] lf (.slice none 0 0) [] (-1)) := hide (by
    have hd1 : Below w1.heap.size w1 w1.drew := HDa.out
    have hq := heap_alloc_new w1.drew (.cells #[.int .i64 lf, .slice none 0 0, .int .i64 (-1)] 43)
    have hds : w1.drew.heap.size = w.heap.size + 1 := hs1
    rw [hds] at hq
    exact ⟨⟨vT, vN, vR, Ms, Mt, ml, tl, (H1.out.below hd1).grown (World.grownBy_alloc _ _ .none) (Off.none _ _)⟩, fun _ => rfl, HN.out, HT.out, (HW1.out.trans (hd1.mono (by omega))).alloc (by omega) _, (HK1.out.trans (KeepT.below hd1)).trans (KeepT.below ((Below.refl _ _).alloc (Nat.le_refl _) _)), (Below.heap_alloc _ _ w.heap.size (by omega)).trans HP1.out, hq, ints_own_nil _ _⟩)
  refine ⟨?_, ?_⟩
  · intro KK hKK
    rw [if_pos (by rfl)]
    go_wp2_with fail
    refine (HNN.out _).mono ?_; rintro _ w5 ⟨rfl, hw5⟩
    subst hw5
    go_wp2_with fail
    refine hKK _ _ ⟨⟨_, HDa.out⟩, rfl⟩ (fun x => ∃ y : Calm.On w1.heap.size w1, x = y.1) (fun _ h => h) ⟨⟨_, HDa.out⟩, rfl⟩ ?_
    repeat (go_big_quiet_step (fail))
    refine wpQuiet_nil ?_
    intro KK hKK
    rw [if_pos (by rfl)]
    go_wp2_with fail
    refine hKK _ _ ⟨⟨_, HDb.out _⟩, rfl⟩ (fun x => ∃ y : Calm.On w1.heap.size w1, x = y.1) (fun _ h => h) ⟨⟨_, HDb.out _⟩, rfl⟩ ?_
    refine wpQuiet_nil ?_
    intro KK hKK
    rw [if_pos (by rfl)]
    go_wp2_with fail
    refine hKK _ _ ⟨⟨_, HDb.out _⟩, rfl⟩ (fun x => ∃ y : Calm.On w1.heap.size w1, x = y.1) (fun _ h => h) ⟨⟨_, HDb.out _⟩, rfl⟩ ?_
    refine wpQuiet_nil ?_
    clear hKK RB
    generalize rfX L pr.l = X0 at *
    generalize rfY L pr.l = Y0 at *
    generalize K.str pr.l.t = s0 at *
    obtain ⟨wq, hwq⟩ : ∃ x, x = (w1.alloc (.cells #[.int .i64 lf, .slice none 0 0, .int .i64 (-1)] 43)).drew := ⟨_, rfl⟩
    rw [← hwq]
    have HPX : Hid (PrI L w wq B R S S #[.string s0, .complex .f64 X0 Y0, .slice A pr.r.length c, .string (soS pr.p), .complex .f64 (soX L pr.p) (soY L pr.p)] lf (.slice none 0 0) [] (-1)) := hide (by rw [hwq]; exact HPQ.out)
    have p2 : wq.cell? ⟨w.heap.size, 2, none⟩ = some (.slice A pr.r.length c) := cell_of_row wq _ 2 _ _ _ HPX.out.pb
    have hPs := (Array.getElem?_eq_some_iff.1 HPX.out.pb).1
    clear HH H1 HP1 HDa HDb HNN HRB HW1 HK1 HTX hs1 hwq HPQ
    go_wp2
    go_loopw [26] (fun vi wr => ∃ (i : Nat) (S' : St) (acc : List Int) (p : Int) (v : Value), i ≤ pr.r.length ∧ vi = .int .i64 i ∧ acc.length = i ∧ Hid (Gm.rights S.ns S.s.ts [] (-1) pr.r = Gm.rights S.ns S'.s.ts acc p (pr.r.drop i)) ∧ Hid (PrI L w wr B R S S' #[.string s0, .complex .f64 X0 Y0, .slice A pr.r.length c, .string (soS pr.p), .complex .f64 (soX L pr.p) (soY L pr.p)] lf v acc p)) (fun vi _ => pr.r.length - (intOf vi).toNat)
    case atStart => exact ⟨0, S, [], -1, .slice none 0 0, Nat.zero_le _, rfl, rfl, hide rfl, HPX⟩
    case round =>
      clear HPX p2 hPs
      obtain ⟨i, S', acc, p, v, hi, rfl, hai, HE, HP⟩ := hrel
      have HAI := hide hai
      have p0 : wr.cell? ⟨w.heap.size, 0, none⟩ = some (.string s0) := cell_of_row wr _ 0 _ _ _ HP.out.pb
      have p1 : wr.cell? ⟨w.heap.size, 1, none⟩ = some (.complex .f64 X0 Y0) := cell_of_row wr _ 1 _ _ _ HP.out.pb
      have p2 : wr.cell? ⟨w.heap.size, 2, none⟩ = some (.slice A pr.r.length c) := cell_of_row wr _ 2 _ _ _ HP.out.pb
      have p3 : wr.cell? ⟨w.heap.size, 3, none⟩ = some (.string (soS pr.p)) := cell_of_row wr _ 3 _ _ _ HP.out.pb
      have p4 : wr.cell? ⟨w.heap.size, 4, none⟩ = some (.complex .f64 (soX L pr.p) (soY L pr.p)) := cell_of_row wr _ 4 _ _ _ HP.out.pb
      have hPs := (Array.getElem?_eq_some_iff.1 HP.out.pb).1
      clear hai
      by_cases hlt : i < pr.r.length
      · obtain ⟨g, o, rfl, hgB, hc⟩ := HR.out (by omega)
        have k0 := (HP.out.w.cell (p := ⟨g, o + i * 2, none⟩) hgB).trans (hc i hlt).1
        have k1 := (HP.out.w.cell (p := ⟨g, o + i * 2 + 1, none⟩) hgB).trans (hc i hlt).2
        have hBs := HP.out.w.size
        have hgs : g < wr.heap.size := by omega
        have hx := HDX.out i hlt
        obtain ⟨x, qx⟩ : ∃ x, x = pr.r[i] := ⟨_, rfl⟩
        have HD := hide (rights_drop (ns := S.ns) (ts := S'.s.ts) (acc := acc) (p := p) hlt)
        rw [← qx] at k0 k1 hx HD
        clear hc qx p3 p4
        obtain ⟨X, hX⟩ : ∃ X, X = rfX L x := ⟨_, rfl⟩
        obtain ⟨Y, hY⟩ : ∃ Y, Y = rfY L x := ⟨_, rfl⟩
        rw [← hX, ← hY] at k1
        have HXY := hide (And.intro hX hY)
        have HPA := hide (HP.out.alloc (.cells #[.string (K.str x.t), .complex .f64 X Y] 74) hB)
        have HCR := hide (heap_alloc_new wr (.cells #[.string (K.str x.t), .complex .f64 X Y] 74))
        have HC := hide (right_any9 L B w.heap.size R S' i x.t _ HPA.out.b (Gm.tx_named hx) hx.1 (Nat.le_trans hB HPA.out.w.size) HPA.out.t)
        have HNS : Hid (Gm.Nin S'.s.ts S'.ns) := hide HP.out.n
        have HSN : Hid (S'.ns = S.ns) := hide HP.out.ns.1
        have HXN := hide hx
        clear hX hY hx
        by_cases h6 : i = 6
        · have HX := hide (HE.out.trans (HD.out.trans (if_pos (by rw [HAI.out]; exact h6))))
          have hra : RiA S' i x.t = (0, 5, S') := by unfold RiA; rw [if_pos h6]
          rw [hra] at HC
          clear hra h6
          generalize K.str x.t = sx at *
          go_wp2_with fail
          refine HC.out.mono ?_; rintro _ w2 ⟨rfl, hb2, hw2, hk2⟩
          have H2 := hide (And.intro (HPA.out.w.trans hw2) (HPA.out.k.trans hk2))
          have hrr := hk2 _ _ _ HCR.out (by decide) (by decide)
          have r1 := cell_of_row w2 _ 1 _ _ _ hrr
          have hrz := (Array.getElem?_eq_some_iff.1 hrr).1
          clear hb2 hw2 hk2 hrr
          go_wp2
          go_ret2
          refine ⟨?_, H2.out.1, H2.out.2.a⟩
          rw [prR_bad HX.out]
          exact ⟨by decide, by rw [HXY.out.1, HXY.out.2]; rfl⟩
        have HD1 := hide (HD.out.trans (if_neg (by rw [HAI.out]; exact h6)))
        have hra : RiA S' i x.t = SyA S' x.t := by unfold RiA; rw [if_neg h6]
        rw [hra] at HC
        have HSY := hide (syA_put (S := S') (x := x) HNS.out)
        cases q : Gm.symR S.ns S'.s.ts x with
        | bad y er =>
          have HX := hide (HE.out.trans (HD1.out.trans (by rw [q, Gm.R.bind_bad])))
          obtain ⟨u1, u2, u3⟩ := HSY.out.2 y er (by rw [HSN.out]; exact q)
          subst u3
          rw [u1] at HC
          have her : (er != 0) = true := by simpa using u2
          have HER := hide u2
          clear hra h6 HSY u1 u2 q HD HD1
          generalize (SyA S' y.t).1 = z1 at *
          generalize (SyA S' y.t).2.2 = S2 at *
          generalize K.str y.t = sx at *
          go_wp2_with fail
          refine HC.out.mono ?_; rintro _ w2 ⟨rfl, hb2, hw2, hk2⟩
          have H2 := hide (And.intro (HPA.out.w.trans hw2) (HPA.out.k.trans hk2))
          have hrr := hk2 _ _ _ HCR.out (by decide) (by decide)
          have r1 := cell_of_row w2 _ 1 _ _ _ hrr
          have hrz := (Array.getElem?_eq_some_iff.1 hrr).1
          clear hb2 hw2 hk2 hrr
          go_wp2
          go_ret2
          refine ⟨?_, H2.out.1, H2.out.2.a⟩
          rw [prR_bad HX.out]
          exact ⟨HER.out, by rw [HXY.out.1, HXY.out.2]; rfl⟩
        | ok qq =>
          obtain ⟨ts', zz⟩ := qq
          have HX := hide (HE.out.trans (HD1.out.trans (by rw [q, Gm.R.bind_ok])))
          have hsy := HSY.out.1 ts' zz (by rw [HSN.out]; exact q)
          rw [hsy] at HC
          have HNN2 : Hid (Gm.Nin ts' S'.ns) := hide (by have h := HNS.out; rw [HSN.out] at h ⊢; exact (Gm.symR_ok h HXN.out q).1.n)
          have HTL : Hid (ts'.length ≤ 24) := hide (symR_len q HPA.out.t)
          have HIT := hide (fun y => isTerm_any zz y)
          clear hra h6 HSY hsy q HD HD1
          generalize K.str x.t = sx at *
          go_wp2_with fail
          refine HC.out.mono ?_; rintro _ w2 ⟨rfl, hb2, hw2, hk2⟩
          have HP2 := hide (HPA.out.call hb2 hw2 hk2 HNN2.out HTL.out)
          obtain ⟨Av, nv, cv, hvv⟩ := own_slice HP2.out.o
          subst hvv
          have q1 : w2.cell? ⟨w.heap.size + 1, 1, none⟩ = some (.slice Av nv cv) := cell_of_row w2 _ 1 _ _ _ HP2.out.qb
          have hQs := (Array.getElem?_eq_some_iff.1 HP2.out.qb).1
          have HP3 := hide (HP2.out.alloc (.cells #[.int .i64 zz] 3) hB)
          have HS2 : Hid (w.heap.size ≤ w2.heap.size) := hide HP2.out.w.size
          have hil : acc.length ≤ 1000000000000 := by have := HAI.out; omega
          clear hb2 hw2 hk2
          go_wp2_with (refine apI_arm rfl (.tmp 45) (.tmp 47) _ rfl Tryz.underlying41 w.heap.size _ acc rfl HP3.out.o _ _ zz rfl (new_cells w2 [.int .i64 zz] 3 0) hil (by have := HS2.out; simp; omega) ?_; intro v4 w4 ho4 hg4; obtain ⟨A4, n4, c4, rfl⟩ := own_slice ho4; have happ := hide (HP3.out.app ho4 hg4 hB); have q41 : w4.cell? ⟨w.heap.size + 1, 1, none⟩ = some (.slice Av nv cv) := cell_of_row w4 _ 1 _ _ _ happ.out.1; have q42 : w4.cell? ⟨w.heap.size + 1, 2, none⟩ = some (.int .i64 p) := cell_of_row w4 _ 2 _ _ _ happ.out.1; have f41 := frozen_of_row w4 _ 1 _ _ happ.out.1; have f42 := frozen_of_row w4 _ 2 _ _ happ.out.1; have hQ4 := (Array.getElem?_eq_some_iff.1 happ.out.1).1; clear ho4 hg4)
          refine (HIT.out _).mono ?_; rintro _ w5 ⟨rfl, hw5⟩
          subst hw5
          by_cases hzp : 0 ≤ zz
          · rw [if_pos hzp] at HX
            have e : decide (0 ≤ zz) = true := decide_eq_true hzp
            go_wp2
            go_roundw
            case rel => exact ⟨i + 1, _, acc ++ [zz], zz, .slice A4 n4 c4, hlt, by go_num, by rw [List.length_append, List.length_singleton, HAI.out], HX, hide (happ.out.2.setQ 2 (.int .i64 zz) rfl (happ.out.2.o.set_away happ.out.2.qb 2 _) hB)⟩
            case measure => simp [intOf]; omega
          · rw [if_neg hzp] at HX
            have e : decide (0 ≤ zz) = false := decide_eq_false hzp
            go_wp2
            go_roundw
            case rel => exact ⟨i + 1, _, acc ++ [zz], p, .slice A4 n4 c4, hlt, by go_num, by rw [List.length_append, List.length_singleton, HAI.out], HX, hide happ.out.2⟩
            case measure => simp [intOf]; omega
      · obtain rfl : i = pr.r.length := by omega
        have HX := hide (HE.out.trans (rights_end (Nat.le_refl _)))
        cases hpp : pr.p with
        | none =>
          have HPP := hide hpp
          replace p3 : wr.cell? ⟨w.heap.size, 3, none⟩ = some (.string ⟨#[]⟩) := by rw [p3, hpp]; rfl
          clear hpp p0 p1 p2 p4
          obtain ⟨wz, hwz⟩ : ∃ x, x = wr := ⟨_, rfl⟩
          rw [← hwz] at p3 hPs HP ⊢
          clear hwz
          obtain ⟨vT', vN', vR', Ms', Mt', ml', tl', hfin⟩ := HP.out.b
          have HFB := hide hfin
          obtain ⟨AR, cR, hvR, _, _⟩ := ownrl_form hfin.w.r
          subst hvR
          obtain ⟨Av, cv, hvv, hv1, hv2, hrow⟩ := HP.out.o.row hB
          subst hvv
          have c2 : wz.cell? ⟨R, 2, none⟩ = some (.slice AR S'.rs.length cR) := (hfin.w.at 2).1
          have hRs := (hfin.w.at 2).2.2
          have hQs := (Array.getElem?_eq_some_iff.1 HP.out.qb).1
          have HROW := hide (And.intro hv1 (And.intro hv2 hrow))
          have HRSL : Hid (S'.rs.length ≤ 1000) := hide (by rw [HP.out.ns.2]; exact hrs)
          clear hfin hrow hv1 hv2
          go_wp2_with fail
          have E0 : ∀ y : Calm.OnB (w.heap.size + 1) wz, y.1.cell? ⟨w.heap.size + 1, 0, none⟩ = some (.int .i64 lf) := fun y => cell_of_row y.1 _ 0 _ _ _ (y.2.trans HP.out.qb)
          have E1 : ∀ y : Calm.OnB (w.heap.size + 1) wz, y.1.cell? ⟨w.heap.size + 1, 1, none⟩ = some (.slice Av acc.length cv) := fun y => cell_of_row y.1 _ 1 _ _ _ (y.2.trans HP.out.qb)
          have E2 : ∀ y : Calm.OnB (w.heap.size + 1) wz, y.1.cell? ⟨w.heap.size + 1, 2, none⟩ = some (.int .i64 p) := fun y => cell_of_row y.1 _ 2 _ _ _ (y.2.trans HP.out.qb)
          refine CalmN.region_tree (fun x => ∃ y : Calm.OnB (w.heap.size + 1) wz, x = y.1) (.two [0, 1, 2, 3, 4, 6] 5 (.one [] 7 (.one [] 8 (.one [9, 10, 11] 12 (.fin [])))) 7 (.one [] 5 (.one [] 8 (.one [9, 10, 11] 12 (.fin []))))) (by kernel_rfl) (by kernel_rfl) (fun _ _ d _ _ h => by cases d <;> exact h) ⟨⟨wz.drew, rfl⟩, rfl⟩ ?_
          simp only [CalmN.wpT, CalmN.wpSt, CalmN.pickOps, List.getElem?_toArray, List.getElem?_cons_zero, List.getElem?_cons_succ]
          repeat (go_big_quiet_step (fail))
          refine wpQuiet_nil ?_
          clear E0 E1 E2
          have HQ1 := hide (fun o => (Below.heap_alloc wz o (w.heap.size + 1) hQs))
          refine ⟨?_, ?_⟩
          · intro KK hKK
            rw [if_pos (by rfl)]
            go_wp2_with fail
            refine hKK _ _ ⟨⟨wz.drew, rfl⟩, rfl⟩ (fun x => ∃ y : Calm.OnB (w.heap.size + 1) wz, x = y.1) (fun _ h => h) ⟨⟨wz.drew, rfl⟩, rfl⟩ ?_
            refine wpQuiet_nil ?_
            intro KK hKK
            rw [if_pos (by rfl)]
            go_wp2_with fail
            refine hKK _ _ ⟨⟨(wz.alloc _).drew, HQ1.out _⟩, rfl⟩ (fun x => ∃ y : Calm.OnB (w.heap.size + 1) wz, x = y.1) (fun _ h => h) ⟨⟨(wz.alloc _).drew, HQ1.out _⟩, rfl⟩ ?_
            refine wpQuiet_nil ?_
            intro KK hKK
            rw [if_pos (by rfl)]
            obtain ⟨wy, hwy⟩ : ∃ x, x = (wz.alloc (.cells #[.int .i64 lf, .slice Av acc.length cv, .int .i64 p] 43)).drew := ⟨_, rfl⟩
            rw [← hwy]
            have A0 : Hid (BRaw wy B w.heap.size R (bCells L vT' vN' (.slice AR S'.rs.length cR) Ms' Mt' S') vT' vN' (.slice AR S'.rs.length cR) S'.s.ts S'.ns S'.rs Ms' Mt' ml' tl') := hide (by rw [hwy]; exact (HFB.out.w.alloc (.cells #[.int .i64 lf, .slice Av acc.length cv, .int .i64 p] 43)).grown (drew_grown _ none) (Off.none _ _))
            have HWY : Hid (Below B w wy) := hide (by rw [hwy]; exact below_drewN (HP.out.w.alloc (Nat.le_trans hB HP.out.w.size) _) 1)
            have HKY : Hid (KeepT w wy) := hide (by rw [hwy]; exact HP.out.k.trans (KeepT.below (below_drewN ((Below.refl _ _).alloc (Nat.le_refl _) _) 1)))
            have HQY : Hid (wy.heap[w.heap.size + 1]? = wz.heap[w.heap.size + 1]?) := hide (by rw [hwy]; exact HQ1.out _)
            have HZC : Hid (∀ j u, (rlC (⟨lf, acc, p⟩, Av, cv))[j]? = some u → wy.cell? ⟨wz.heap.size, j, none⟩ = some u) := hide (fun j u hj => by rw [hwy]; exact (new_cells wz (rlC (⟨lf, acc, p⟩, Av, cv)) 43 j).trans hj)
            have HRW : Hid (RowI wy B wy.heap.size Av acc) := hide (by
              rw [hwy]
              exact (HROW.out.2.2.grown (w' := (wz.alloc (.cells #[.int .i64 lf, .slice Av acc.length cv, .int .i64 p] 43)).drew) (row := none) ((World.grownBy_alloc wz (.cells #[.int .i64 lf, .slice Av acc.length cv, .int .i64 p] 43) none).trans (drew_grown _ none)) (fun g e => by cases e)).more (by show wz.heap.size ≤ (wz.alloc _).heap.size; simp))
            have HSW : Hid (w.heap.size ≤ wy.heap.size) := hide HWY.out.size
            clear hwy
            refine apRl_wp (.tmp 80) (.tmp 82) _ rfl Tryz.underlying24 B w.heap.size _ S'.rs rfl A0.out.r _ _ (⟨lf, acc, p⟩, Av, cv) rfl HZC.out ⟨HROW.out.1, HROW.out.2.1, HRW.out⟩ (Nat.le_trans HRSL.out (by decide)) (Nat.le_trans hB HSW.out) HSW.out ?_
            intro v8 w8 ho8 hg8
            have A1 := hide ((A0.out.more (Nat.le_trans HSW.out hg8.size)).r_put ho8 hg8)
            obtain ⟨A8, c8, rfl, _, _⟩ := ownrl_form ho8
            have HQ8 : Hid (w8.heap[w.heap.size + 1]? = wz.heap[w.heap.size + 1]?) := hide ((hg8.block (w.heap.size + 1) (by have := (Array.getElem?_eq_some_iff.1 (HQY.out.trans HP.out.qb)).1; exact this) (fun e => by
              obtain ⟨_, _, _, h3, _⟩ := A0.out.r
              have := h3 _ e.symm
              omega)).trans HQY.out)
            have HK8 : Hid (KeepA w w8) := hide (HKY.out.a.trans (by obtain ⟨_, _, h2, _⟩ := A0.out.r; exact KeepA.own h2 hg8 (.inr (.inr rfl))))
            have HW8 : Hid (Below B w w8) := hide (HWY.out.grown hg8 (Nat.le_trans hB HSW.out) (fun k e => by obtain ⟨_, _, h2, _⟩ := A0.out.r; exact (own_holds h2 e).1))
            obtain ⟨n8, hn8⟩ : ∃ n, n = (S'.rs ++ [(⟨lf, acc, p⟩ : Gm.Rl)]).length := ⟨_, rfl⟩
            have c28 : w8.cell? ⟨R, 2, none⟩ = some (.slice AR S'.rs.length cR) := (A1.out.at 2).1
            have f28 := (A1.out.at 2).2.1
            have hR8 := (A1.out.at 2).2.2
            rw [← hn8] at A1 ⊢
            have HN8 := hide hn8
            clear ho8 hg8 A0 hn8
            refine hKK _ _ ⟨⟨w8, HQ8.out⟩, rfl⟩ (fun x => ∃ y : Calm.OnB (w.heap.size + 1) wz, x = y.1) (fun _ h => h) ⟨⟨w8, HQ8.out⟩, rfl⟩ ?_
            go_frame
            repeat (go_big_quiet_step (fail))
            refine wpQuiet_nil ?_
            intro KK hKK
            rw [if_pos (by rfl)]
            go_wp2_with fail
            have HQ9 := hide (fun u => (Below.heap_setCell w8 ⟨R, 2, none⟩ u (w.heap.size + 1) (by simp only; omega)).trans HQ8.out)
            refine hKK _ _ ⟨⟨w8.setCell ⟨R, 2, none⟩ _, HQ9.out _⟩, rfl⟩ (fun x => ∃ y : Calm.OnB (w.heap.size + 1) wz, x = y.1) (fun _ h => h) ⟨⟨w8.setCell ⟨R, 2, none⟩ _, HQ9.out _⟩, rfl⟩ ?_
            refine wpQuiet_nil ?_
            clear hKK
            go_wp2
            go_ret2
            refine ⟨?_, HW8.out.setCell A1.out.hR _, HK8.out.trans (KeepA.cells (only_set (World.grownBy.refl _ _) 2 _) A1.out.b (.inl rfl))⟩
            rw [prR_none HX.out HPP.out]
            refine ⟨rfl, ?_, by rw [← HP.out.ns.1]; exact HP.out.n, HP.out.t⟩
            have hS : ({ S with s := { S.s with ts := S'.s.ts }, rs := S.rs ++ [⟨Gm.find S.ns pr.l.t, acc, p⟩] } : St) = { S' with rs := S'.rs ++ [⟨lf, acc, p⟩] } := by
              rw [HP.out.ns.2, HLF.out]
              exact congrArg (fun T : St => ({ T with rs := S.rs ++ [⟨Gm.find S.ns pr.l.t, acc, p⟩] } : St)) (HP.out.e S'.s.ts)
            rw [size_set]
            show Bld L _ B w8.heap.size R ({ S with s := { S.s with ts := S'.s.ts }, rs := S.rs ++ [⟨Gm.find S.ns pr.l.t, acc, p⟩] } : St)
            rw [hS]
            exact ⟨vT', vN', _, Ms', Mt', ml', tl', ⟨A1.out.set 2 _, HFB.out.so, HFB.out.ko⟩⟩
          · intro KK hKK
            rw [if_pos (by rfl)]
            go_wp2_with fail
            refine hKK _ _ ⟨⟨(wz.alloc _).drew, HQ1.out _⟩, rfl⟩ (fun x => ∃ y : Calm.OnB (w.heap.size + 1) wz, x = y.1) (fun _ h => h) ⟨⟨(wz.alloc _).drew, HQ1.out _⟩, rfl⟩ ?_
            refine wpQuiet_nil ?_
            intro KK hKK
            rw [if_pos (by rfl)]
            go_wp2_with fail
            refine hKK _ _ ⟨⟨(wz.alloc _).drew, HQ1.out _⟩, rfl⟩ (fun x => ∃ y : Calm.OnB (w.heap.size + 1) wz, x = y.1) (fun _ h => h) ⟨⟨(wz.alloc _).drew, HQ1.out _⟩, rfl⟩ ?_
            refine wpQuiet_nil ?_
            intro KK hKK
            rw [if_pos (by rfl)]
            obtain ⟨wy, hwy⟩ : ∃ x, x = (wz.alloc (.cells #[.int .i64 lf, .slice Av acc.length cv, .int .i64 p] 43)).drew := ⟨_, rfl⟩
            rw [← hwy]
            have A0 : Hid (BRaw wy B w.heap.size R (bCells L vT' vN' (.slice AR S'.rs.length cR) Ms' Mt' S') vT' vN' (.slice AR S'.rs.length cR) S'.s.ts S'.ns S'.rs Ms' Mt' ml' tl') := hide (by rw [hwy]; exact (HFB.out.w.alloc (.cells #[.int .i64 lf, .slice Av acc.length cv, .int .i64 p] 43)).grown (drew_grown _ none) (Off.none _ _))
            have HWY : Hid (Below B w wy) := hide (by rw [hwy]; exact below_drewN (HP.out.w.alloc (Nat.le_trans hB HP.out.w.size) _) 1)
            have HKY : Hid (KeepT w wy) := hide (by rw [hwy]; exact HP.out.k.trans (KeepT.below (below_drewN ((Below.refl _ _).alloc (Nat.le_refl _) _) 1)))
            have HQY : Hid (wy.heap[w.heap.size + 1]? = wz.heap[w.heap.size + 1]?) := hide (by rw [hwy]; exact HQ1.out _)
            have HZC : Hid (∀ j u, (rlC (⟨lf, acc, p⟩, Av, cv))[j]? = some u → wy.cell? ⟨wz.heap.size, j, none⟩ = some u) := hide (fun j u hj => by rw [hwy]; exact (new_cells wz (rlC (⟨lf, acc, p⟩, Av, cv)) 43 j).trans hj)
            have HRW : Hid (RowI wy B wy.heap.size Av acc) := hide (by
              rw [hwy]
              exact (HROW.out.2.2.grown (w' := (wz.alloc (.cells #[.int .i64 lf, .slice Av acc.length cv, .int .i64 p] 43)).drew) (row := none) ((World.grownBy_alloc wz (.cells #[.int .i64 lf, .slice Av acc.length cv, .int .i64 p] 43) none).trans (drew_grown _ none)) (fun g e => by cases e)).more (by show wz.heap.size ≤ (wz.alloc _).heap.size; simp))
            have HSW : Hid (w.heap.size ≤ wy.heap.size) := hide HWY.out.size
            clear hwy
            refine apRl_wp (.tmp 80) (.tmp 82) _ rfl Tryz.underlying24 B w.heap.size _ S'.rs rfl A0.out.r _ _ (⟨lf, acc, p⟩, Av, cv) rfl HZC.out ⟨HROW.out.1, HROW.out.2.1, HRW.out⟩ (Nat.le_trans HRSL.out (by decide)) (Nat.le_trans hB HSW.out) HSW.out ?_
            intro v8 w8 ho8 hg8
            have A1 := hide ((A0.out.more (Nat.le_trans HSW.out hg8.size)).r_put ho8 hg8)
            obtain ⟨A8, c8, rfl, _, _⟩ := ownrl_form ho8
            have HQ8 : Hid (w8.heap[w.heap.size + 1]? = wz.heap[w.heap.size + 1]?) := hide ((hg8.block (w.heap.size + 1) (by have := (Array.getElem?_eq_some_iff.1 (HQY.out.trans HP.out.qb)).1; exact this) (fun e => by
              obtain ⟨_, _, _, h3, _⟩ := A0.out.r
              have := h3 _ e.symm
              omega)).trans HQY.out)
            have HK8 : Hid (KeepA w w8) := hide (HKY.out.a.trans (by obtain ⟨_, _, h2, _⟩ := A0.out.r; exact KeepA.own h2 hg8 (.inr (.inr rfl))))
            have HW8 : Hid (Below B w w8) := hide (HWY.out.grown hg8 (Nat.le_trans hB HSW.out) (fun k e => by obtain ⟨_, _, h2, _⟩ := A0.out.r; exact (own_holds h2 e).1))
            obtain ⟨n8, hn8⟩ : ∃ n, n = (S'.rs ++ [(⟨lf, acc, p⟩ : Gm.Rl)]).length := ⟨_, rfl⟩
            have c28 : w8.cell? ⟨R, 2, none⟩ = some (.slice AR S'.rs.length cR) := (A1.out.at 2).1
            have f28 := (A1.out.at 2).2.1
            have hR8 := (A1.out.at 2).2.2
            rw [← hn8] at A1 ⊢
            have HN8 := hide hn8
            clear ho8 hg8 A0 hn8
            refine hKK _ _ ⟨⟨w8, HQ8.out⟩, rfl⟩ (fun x => ∃ y : Calm.OnB (w.heap.size + 1) wz, x = y.1) (fun _ h => h) ⟨⟨w8, HQ8.out⟩, rfl⟩ ?_
            go_frame
            repeat (go_big_quiet_step (fail))
            refine wpQuiet_nil ?_
            intro KK hKK
            rw [if_pos (by rfl)]
            go_wp2_with fail
            have HQ9 := hide (fun u => (Below.heap_setCell w8 ⟨R, 2, none⟩ u (w.heap.size + 1) (by simp only; omega)).trans HQ8.out)
            refine hKK _ _ ⟨⟨w8.setCell ⟨R, 2, none⟩ _, HQ9.out _⟩, rfl⟩ (fun x => ∃ y : Calm.OnB (w.heap.size + 1) wz, x = y.1) (fun _ h => h) ⟨⟨w8.setCell ⟨R, 2, none⟩ _, HQ9.out _⟩, rfl⟩ ?_
            refine wpQuiet_nil ?_
            clear hKK
            go_wp2
            go_ret2
            refine ⟨?_, HW8.out.setCell A1.out.hR _, HK8.out.trans (KeepA.cells (only_set (World.grownBy.refl _ _) 2 _) A1.out.b (.inl rfl))⟩
            rw [prR_none HX.out HPP.out]
            refine ⟨rfl, ?_, by rw [← HP.out.ns.1]; exact HP.out.n, HP.out.t⟩
            have hS : ({ S with s := { S.s with ts := S'.s.ts }, rs := S.rs ++ [⟨Gm.find S.ns pr.l.t, acc, p⟩] } : St) = { S' with rs := S'.rs ++ [⟨lf, acc, p⟩] } := by
              rw [HP.out.ns.2, HLF.out]
              exact congrArg (fun T : St => ({ T with rs := S.rs ++ [⟨Gm.find S.ns pr.l.t, acc, p⟩] } : St)) (HP.out.e S'.s.ts)
            rw [size_set]
            show Bld L _ B w8.heap.size R ({ S with s := { S.s with ts := S'.s.ts }, rs := S.rs ++ [⟨Gm.find S.ns pr.l.t, acc, p⟩] } : St)
            rw [hS]
            exact ⟨vT', vN', _, Ms', Mt', ml', tl', ⟨A1.out.set 2 _, HFB.out.so, HFB.out.ko⟩⟩
        | some x =>
          have HPP := hide hpp
          have hxn := HDP.out x hpp
          have hne : x.t ≠ [] := fun e => by have := hxn.1; rw [e] at this; simp [Gm.named, T.isName, T.isLit] at this
          replace p3 : wr.cell? ⟨w.heap.size, 3, none⟩ = some (.string (K.str x.t)) := by rw [p3, hpp]; rfl
          obtain ⟨X, hX⟩ : ∃ X, X = rfX L x := ⟨_, rfl⟩
          obtain ⟨Y, hY⟩ : ∃ Y, Y = rfY L x := ⟨_, rfl⟩
          replace p4 : wr.cell? ⟨w.heap.size, 4, none⟩ = some (.complex .f64 X Y) := by rw [p4, hpp, hX, hY]; rfl
          have HXY := hide (And.intro hX hY)
          have hsn : ¬ (K.str x.t).toList = [] := by rw [K.str_list]; intro e; exact hne (by simpa [K.bytes] using e)
          have HC := hide (prec_any9 L B w.heap.size R S' x.t wr HP.out.b (Gm.tx_named hxn) hxn.1 (Nat.le_trans hB HP.out.w.size) HP.out.t)
          have HSN : Hid (S'.ns = S.ns) := hide HP.out.ns.1
          have HPA := hide (prA_put (S := S') (x := x) HP.out.n)
          cases q : Gm.symP S.ns S'.s.ts x with
          | bad y er =>
            obtain ⟨u1, u2, u3⟩ := HPA.out.2 y er (by rw [HSN.out]; exact q)
            subst u3
            have HX2 := hide (prR_bad2 (rs := S.rs) HX.out HPP.out q)
            rw [u1] at HC
            have her : (er != 0) = true := by simpa using u2
            have HER := hide u2
            clear hX hY hpp hxn hne HPA u1 u2 q p0 p1 p2
            generalize (PrA S' y.t).1 = z1 at *
            generalize (PrA S' y.t).2.2 = S2 at *
            generalize K.str y.t = sx at *
            have hsn' : sx.toList.isEmpty = false := by simpa using hsn
            go_wp2_with fail
            refine HC.out.mono ?_; rintro _ w2 ⟨rfl, hb2, hw2, hk2⟩
            have H2 := hide (And.intro (HP.out.w.trans hw2) (HP.out.k.trans hk2))
            have hpb := hk2 _ _ _ HP.out.pb (by decide) (by decide)
            have p4 : w2.cell? ⟨w.heap.size, 4, none⟩ = some (.complex .f64 (soX L pr.p) (soY L pr.p)) := cell_of_row w2 _ 4 _ _ _ hpb
            have hPz := (Array.getElem?_eq_some_iff.1 hpb).1
            have HSX : Hid (soX L pr.p = X ∧ soY L pr.p = Y) := hide (by rw [HPP.out, HXY.out.1, HXY.out.2]; exact ⟨rfl, rfl⟩)
            rw [HSX.out.1, HSX.out.2] at p4
            clear hb2 hw2 hk2 hpb
            go_wp2
            go_ret2
            refine ⟨?_, H2.out.1, H2.out.2.a⟩
            rw [HX2.out]
            exact ⟨HER.out, by rw [HXY.out.1, HXY.out.2]; rfl⟩
          | ok qq =>
            obtain ⟨ts2, z2⟩ := qq
            have hpa := HPA.out.1 ts2 z2 (by rw [HSN.out]; exact q)
            rw [hpa] at HC
            have HNN2 : Hid (Gm.Nin ts2 S'.ns) := hide (by have h := HP.out.n; rw [HSN.out] at h ⊢; exact (Gm.symP_ok h hxn q).1.n)
            have HTL : Hid (ts2.length ≤ 24) := hide (symP_len q HP.out.t)
            have HX2 := hide (prR_some (rs := S.rs) HX.out HPP.out q)
            clear hX hY hpp hxn hne HPA hpa q p0 p1 p2
            generalize K.str x.t = sx at *
            have hsn' : sx.toList.isEmpty = false := by simpa using hsn
            go_wp2_with fail
            refine HC.out.mono ?_; rintro _ w2 ⟨rfl, hb2, hw2, hk2⟩
            have HP2 := hide (HP.out.call hb2 hw2 hk2 HNN2.out HTL.out)
            have q2 : w2.cell? ⟨w.heap.size + 1, 2, none⟩ = some (.int .i64 p) := cell_of_row w2 _ 2 _ _ _ HP2.out.qb
            have f2 := frozen_of_row w2 _ 2 _ _ HP2.out.qb
            have hQ2 := (Array.getElem?_eq_some_iff.1 HP2.out.qb).1
            clear hb2 hw2 hk2 p3 p4
            go_upto_region 17 with fail
            obtain ⟨wz, hwz⟩ : ∃ x, x = w2.setCell ⟨w.heap.size + 1, 2, none⟩ (.int .i64 z2) := ⟨_, rfl⟩
            rw [← hwz]
            have HPZ : Hid (PrI L w wz B R S { S' with s := { S'.s with ts := ts2 } } #[.string s0, .complex .f64 X0 Y0, .slice A pr.r.length c, .string (soS pr.p), .complex .f64 (soX L pr.p) (soY L pr.p)] lf v acc z2) := hide (by rw [hwz]; exact HP2.out.setQ 2 (.int .i64 z2) rfl (HP2.out.o.set_away HP2.out.qb 2 _) hB)
            clear hwz q2 f2 hQ2
            obtain ⟨vT', vN', vR', Ms', Mt', ml', tl', hfin⟩ := HPZ.out.b
            have HFB := hide hfin
            obtain ⟨AR, cR, hvR, _, _⟩ := ownrl_form hfin.w.r
            subst hvR
            obtain ⟨Av, cv, hvv, hv1, hv2, hrow⟩ := HPZ.out.o.row hB
            subst hvv
            have c2 : wz.cell? ⟨R, 2, none⟩ = some (.slice AR ({ S' with s := { S'.s with ts := ts2 } } : St).rs.length cR) := (hfin.w.at 2).1
            have hRs := (hfin.w.at 2).2.2
            have hQs := (Array.getElem?_eq_some_iff.1 HPZ.out.qb).1
            have HROW := hide (And.intro hv1 (And.intro hv2 hrow))
            have HRSL : Hid (({ S' with s := { S'.s with ts := ts2 } } : St).rs.length ≤ 1000) := hide (by rw [HPZ.out.ns.2]; exact hrs)
            clear hfin hrow hv1 hv2
            go_wp2_with fail
            have E0 : ∀ y : Calm.OnB (w.heap.size + 1) wz, y.1.cell? ⟨w.heap.size + 1, 0, none⟩ = some (.int .i64 lf) := fun y => cell_of_row y.1 _ 0 _ _ _ (y.2.trans HPZ.out.qb)
            have E1 : ∀ y : Calm.OnB (w.heap.size + 1) wz, y.1.cell? ⟨w.heap.size + 1, 1, none⟩ = some (.slice Av acc.length cv) := fun y => cell_of_row y.1 _ 1 _ _ _ (y.2.trans HPZ.out.qb)
            have E2 : ∀ y : Calm.OnB (w.heap.size + 1) wz, y.1.cell? ⟨w.heap.size + 1, 2, none⟩ = some (.int .i64 z2) := fun y => cell_of_row y.1 _ 2 _ _ _ (y.2.trans HPZ.out.qb)
            refine CalmN.region_tree (fun x => ∃ y : Calm.OnB (w.heap.size + 1) wz, x = y.1) (.two [0, 1, 2, 3, 4, 6] 5 (.one [] 7 (.one [] 8 (.one [9, 10, 11] 12 (.fin [])))) 7 (.one [] 5 (.one [] 8 (.one [9, 10, 11] 12 (.fin []))))) (by kernel_rfl) (by kernel_rfl) (fun _ _ d _ _ h => by cases d <;> exact h) ⟨⟨wz.drew, rfl⟩, rfl⟩ ?_
            simp only [CalmN.wpT, CalmN.wpSt, CalmN.pickOps, List.getElem?_toArray, List.getElem?_cons_zero, List.getElem?_cons_succ]
            repeat (go_big_quiet_step (fail))
            refine wpQuiet_nil ?_
            clear E0 E1 E2
            have HQ1 := hide (fun o => (Below.heap_alloc wz o (w.heap.size + 1) hQs))
            refine ⟨?_, ?_⟩
            · intro KK hKK
              rw [if_pos (by rfl)]
              go_wp2_with fail
              refine hKK _ _ ⟨⟨wz.drew, rfl⟩, rfl⟩ (fun x => ∃ y : Calm.OnB (w.heap.size + 1) wz, x = y.1) (fun _ h => h) ⟨⟨wz.drew, rfl⟩, rfl⟩ ?_
              refine wpQuiet_nil ?_
              intro KK hKK
              rw [if_pos (by rfl)]
              go_wp2_with fail
              refine hKK _ _ ⟨⟨(wz.alloc _).drew, HQ1.out _⟩, rfl⟩ (fun x => ∃ y : Calm.OnB (w.heap.size + 1) wz, x = y.1) (fun _ h => h) ⟨⟨(wz.alloc _).drew, HQ1.out _⟩, rfl⟩ ?_
              refine wpQuiet_nil ?_
              intro KK hKK
              rw [if_pos (by rfl)]
              obtain ⟨wy, hwy⟩ : ∃ x, x = (wz.alloc (.cells #[.int .i64 lf, .slice Av acc.length cv, .int .i64 z2] 43)).drew := ⟨_, rfl⟩
              rw [← hwy]
              have A0 : Hid (BRaw wy B w.heap.size R (bCells L vT' vN' (.slice AR ({ S' with s := { S'.s with ts := ts2 } } : St).rs.length cR) Ms' Mt' ({ S' with s := { S'.s with ts := ts2 } } : St)) vT' vN' (.slice AR ({ S' with s := { S'.s with ts := ts2 } } : St).rs.length cR) ({ S' with s := { S'.s with ts := ts2 } } : St).s.ts ({ S' with s := { S'.s with ts := ts2 } } : St).ns ({ S' with s := { S'.s with ts := ts2 } } : St).rs Ms' Mt' ml' tl') := hide (by rw [hwy]; exact (HFB.out.w.alloc (.cells #[.int .i64 lf, .slice Av acc.length cv, .int .i64 z2] 43)).grown (drew_grown _ none) (Off.none _ _))
              have HWY : Hid (Below B w wy) := hide (by rw [hwy]; exact below_drewN (HPZ.out.w.alloc (Nat.le_trans hB HPZ.out.w.size) _) 1)
              have HKY : Hid (KeepT w wy) := hide (by rw [hwy]; exact HPZ.out.k.trans (KeepT.below (below_drewN ((Below.refl _ _).alloc (Nat.le_refl _) _) 1)))
              have HQY : Hid (wy.heap[w.heap.size + 1]? = wz.heap[w.heap.size + 1]?) := hide (by rw [hwy]; exact HQ1.out _)
              have HZC : Hid (∀ j u, (rlC (⟨lf, acc, z2⟩, Av, cv))[j]? = some u → wy.cell? ⟨wz.heap.size, j, none⟩ = some u) := hide (fun j u hj => by rw [hwy]; exact (new_cells wz (rlC (⟨lf, acc, z2⟩, Av, cv)) 43 j).trans hj)
              have HRW : Hid (RowI wy B wy.heap.size Av acc) := hide (by
                rw [hwy]
                exact (HROW.out.2.2.grown (w' := (wz.alloc (.cells #[.int .i64 lf, .slice Av acc.length cv, .int .i64 z2] 43)).drew) (row := none) ((World.grownBy_alloc wz (.cells #[.int .i64 lf, .slice Av acc.length cv, .int .i64 z2] 43) none).trans (drew_grown _ none)) (fun g e => by cases e)).more (by show wz.heap.size ≤ (wz.alloc _).heap.size; simp))
              have HSW : Hid (w.heap.size ≤ wy.heap.size) := hide HWY.out.size
              clear hwy
              refine apRl_wp (.tmp 80) (.tmp 82) _ rfl Tryz.underlying24 B w.heap.size _ ({ S' with s := { S'.s with ts := ts2 } } : St).rs rfl A0.out.r _ _ (⟨lf, acc, z2⟩, Av, cv) rfl HZC.out ⟨HROW.out.1, HROW.out.2.1, HRW.out⟩ (Nat.le_trans HRSL.out (by decide)) (Nat.le_trans hB HSW.out) HSW.out ?_
              intro v8 w8 ho8 hg8
              have A1 := hide ((A0.out.more (Nat.le_trans HSW.out hg8.size)).r_put ho8 hg8)
              obtain ⟨A8, c8, rfl, _, _⟩ := ownrl_form ho8
              have HQ8 : Hid (w8.heap[w.heap.size + 1]? = wz.heap[w.heap.size + 1]?) := hide ((hg8.block (w.heap.size + 1) (by have := (Array.getElem?_eq_some_iff.1 (HQY.out.trans HPZ.out.qb)).1; exact this) (fun e => by
                obtain ⟨_, _, _, h3, _⟩ := A0.out.r
                have := h3 _ e.symm
                omega)).trans HQY.out)
              have HK8 : Hid (KeepA w w8) := hide (HKY.out.a.trans (by obtain ⟨_, _, h2, _⟩ := A0.out.r; exact KeepA.own h2 hg8 (.inr (.inr rfl))))
              have HW8 : Hid (Below B w w8) := hide (HWY.out.grown hg8 (Nat.le_trans hB HSW.out) (fun k e => by obtain ⟨_, _, h2, _⟩ := A0.out.r; exact (own_holds h2 e).1))
              obtain ⟨n8, hn8⟩ : ∃ n, n = (({ S' with s := { S'.s with ts := ts2 } } : St).rs ++ [(⟨lf, acc, z2⟩ : Gm.Rl)]).length := ⟨_, rfl⟩
              have c28 : w8.cell? ⟨R, 2, none⟩ = some (.slice AR ({ S' with s := { S'.s with ts := ts2 } } : St).rs.length cR) := (A1.out.at 2).1
              have f28 := (A1.out.at 2).2.1
              have hR8 := (A1.out.at 2).2.2
              rw [← hn8] at A1 ⊢
              have HN8 := hide hn8
              clear ho8 hg8 A0 hn8
              refine hKK _ _ ⟨⟨w8, HQ8.out⟩, rfl⟩ (fun x => ∃ y : Calm.OnB (w.heap.size + 1) wz, x = y.1) (fun _ h => h) ⟨⟨w8, HQ8.out⟩, rfl⟩ ?_
              go_frame
              repeat (go_big_quiet_step (fail))
              refine wpQuiet_nil ?_
              intro KK hKK
              rw [if_pos (by rfl)]
              go_wp2_with fail
              have HQ9 := hide (fun u => (Below.heap_setCell w8 ⟨R, 2, none⟩ u (w.heap.size + 1) (by simp only; omega)).trans HQ8.out)
              refine hKK _ _ ⟨⟨w8.setCell ⟨R, 2, none⟩ _, HQ9.out _⟩, rfl⟩ (fun x => ∃ y : Calm.OnB (w.heap.size + 1) wz, x = y.1) (fun _ h => h) ⟨⟨w8.setCell ⟨R, 2, none⟩ _, HQ9.out _⟩, rfl⟩ ?_
              refine wpQuiet_nil ?_
              clear hKK
              go_wp2
              go_ret2
              refine ⟨?_, HW8.out.setCell A1.out.hR _, HK8.out.trans (KeepA.cells (only_set (World.grownBy.refl _ _) 2 _) A1.out.b (.inl rfl))⟩
              rw [HX2.out]
              refine ⟨rfl, ?_, by rw [← HPZ.out.ns.1]; exact HPZ.out.n, HPZ.out.t⟩
              have hS : ({ S with s := { S.s with ts := ({ S' with s := { S'.s with ts := ts2 } } : St).s.ts }, rs := S.rs ++ [⟨Gm.find S.ns pr.l.t, acc, z2⟩] } : St) = { ({ S' with s := { S'.s with ts := ts2 } } : St) with rs := ({ S' with s := { S'.s with ts := ts2 } } : St).rs ++ [⟨lf, acc, z2⟩] } := by
                rw [HPZ.out.ns.2, HLF.out]
                exact congrArg (fun T : St => ({ T with rs := S.rs ++ [⟨Gm.find S.ns pr.l.t, acc, z2⟩] } : St)) (HPZ.out.e ({ S' with s := { S'.s with ts := ts2 } } : St).s.ts)
              rw [size_set]
              show Bld L _ B w8.heap.size R ({ S with s := { S.s with ts := ({ S' with s := { S'.s with ts := ts2 } } : St).s.ts }, rs := S.rs ++ [⟨Gm.find S.ns pr.l.t, acc, z2⟩] } : St)
              rw [hS]
              exact ⟨vT', vN', _, Ms', Mt', ml', tl', ⟨A1.out.set 2 _, HFB.out.so, HFB.out.ko⟩⟩
            · intro KK hKK
              rw [if_pos (by rfl)]
              go_wp2_with fail
              refine hKK _ _ ⟨⟨(wz.alloc _).drew, HQ1.out _⟩, rfl⟩ (fun x => ∃ y : Calm.OnB (w.heap.size + 1) wz, x = y.1) (fun _ h => h) ⟨⟨(wz.alloc _).drew, HQ1.out _⟩, rfl⟩ ?_
              refine wpQuiet_nil ?_
              intro KK hKK
              rw [if_pos (by rfl)]
              go_wp2_with fail
              refine hKK _ _ ⟨⟨(wz.alloc _).drew, HQ1.out _⟩, rfl⟩ (fun x => ∃ y : Calm.OnB (w.heap.size + 1) wz, x = y.1) (fun _ h => h) ⟨⟨(wz.alloc _).drew, HQ1.out _⟩, rfl⟩ ?_
              refine wpQuiet_nil ?_
              intro KK hKK
              rw [if_pos (by rfl)]
              obtain ⟨wy, hwy⟩ : ∃ x, x = (wz.alloc (.cells #[.int .i64 lf, .slice Av acc.length cv, .int .i64 z2] 43)).drew := ⟨_, rfl⟩
              rw [← hwy]
              have A0 : Hid (BRaw wy B w.heap.size R (bCells L vT' vN' (.slice AR ({ S' with s := { S'.s with ts := ts2 } } : St).rs.length cR) Ms' Mt' ({ S' with s := { S'.s with ts := ts2 } } : St)) vT' vN' (.slice AR ({ S' with s := { S'.s with ts := ts2 } } : St).rs.length cR) ({ S' with s := { S'.s with ts := ts2 } } : St).s.ts ({ S' with s := { S'.s with ts := ts2 } } : St).ns ({ S' with s := { S'.s with ts := ts2 } } : St).rs Ms' Mt' ml' tl') := hide (by rw [hwy]; exact (HFB.out.w.alloc (.cells #[.int .i64 lf, .slice Av acc.length cv, .int .i64 z2] 43)).grown (drew_grown _ none) (Off.none _ _))
              have HWY : Hid (Below B w wy) := hide (by rw [hwy]; exact below_drewN (HPZ.out.w.alloc (Nat.le_trans hB HPZ.out.w.size) _) 1)
              have HKY : Hid (KeepT w wy) := hide (by rw [hwy]; exact HPZ.out.k.trans (KeepT.below (below_drewN ((Below.refl _ _).alloc (Nat.le_refl _) _) 1)))
              have HQY : Hid (wy.heap[w.heap.size + 1]? = wz.heap[w.heap.size + 1]?) := hide (by rw [hwy]; exact HQ1.out _)
              have HZC : Hid (∀ j u, (rlC (⟨lf, acc, z2⟩, Av, cv))[j]? = some u → wy.cell? ⟨wz.heap.size, j, none⟩ = some u) := hide (fun j u hj => by rw [hwy]; exact (new_cells wz (rlC (⟨lf, acc, z2⟩, Av, cv)) 43 j).trans hj)
              have HRW : Hid (RowI wy B wy.heap.size Av acc) := hide (by
                rw [hwy]
                exact (HROW.out.2.2.grown (w' := (wz.alloc (.cells #[.int .i64 lf, .slice Av acc.length cv, .int .i64 z2] 43)).drew) (row := none) ((World.grownBy_alloc wz (.cells #[.int .i64 lf, .slice Av acc.length cv, .int .i64 z2] 43) none).trans (drew_grown _ none)) (fun g e => by cases e)).more (by show wz.heap.size ≤ (wz.alloc _).heap.size; simp))
              have HSW : Hid (w.heap.size ≤ wy.heap.size) := hide HWY.out.size
              clear hwy
              refine apRl_wp (.tmp 80) (.tmp 82) _ rfl Tryz.underlying24 B w.heap.size _ ({ S' with s := { S'.s with ts := ts2 } } : St).rs rfl A0.out.r _ _ (⟨lf, acc, z2⟩, Av, cv) rfl HZC.out ⟨HROW.out.1, HROW.out.2.1, HRW.out⟩ (Nat.le_trans HRSL.out (by decide)) (Nat.le_trans hB HSW.out) HSW.out ?_
              intro v8 w8 ho8 hg8
              have A1 := hide ((A0.out.more (Nat.le_trans HSW.out hg8.size)).r_put ho8 hg8)
              obtain ⟨A8, c8, rfl, _, _⟩ := ownrl_form ho8
              have HQ8 : Hid (w8.heap[w.heap.size + 1]? = wz.heap[w.heap.size + 1]?) := hide ((hg8.block (w.heap.size + 1) (by have := (Array.getElem?_eq_some_iff.1 (HQY.out.trans HPZ.out.qb)).1; exact this) (fun e => by
                obtain ⟨_, _, _, h3, _⟩ := A0.out.r
                have := h3 _ e.symm
                omega)).trans HQY.out)
              have HK8 : Hid (KeepA w w8) := hide (HKY.out.a.trans (by obtain ⟨_, _, h2, _⟩ := A0.out.r; exact KeepA.own h2 hg8 (.inr (.inr rfl))))
              have HW8 : Hid (Below B w w8) := hide (HWY.out.grown hg8 (Nat.le_trans hB HSW.out) (fun k e => by obtain ⟨_, _, h2, _⟩ := A0.out.r; exact (own_holds h2 e).1))
              obtain ⟨n8, hn8⟩ : ∃ n, n = (({ S' with s := { S'.s with ts := ts2 } } : St).rs ++ [(⟨lf, acc, z2⟩ : Gm.Rl)]).length := ⟨_, rfl⟩
              have c28 : w8.cell? ⟨R, 2, none⟩ = some (.slice AR ({ S' with s := { S'.s with ts := ts2 } } : St).rs.length cR) := (A1.out.at 2).1
              have f28 := (A1.out.at 2).2.1
              have hR8 := (A1.out.at 2).2.2
              rw [← hn8] at A1 ⊢
              have HN8 := hide hn8
              clear ho8 hg8 A0 hn8
              refine hKK _ _ ⟨⟨w8, HQ8.out⟩, rfl⟩ (fun x => ∃ y : Calm.OnB (w.heap.size + 1) wz, x = y.1) (fun _ h => h) ⟨⟨w8, HQ8.out⟩, rfl⟩ ?_
              go_frame
              repeat (go_big_quiet_step (fail))
              refine wpQuiet_nil ?_
              intro KK hKK
              rw [if_pos (by rfl)]
              go_wp2_with fail
              have HQ9 := hide (fun u => (Below.heap_setCell w8 ⟨R, 2, none⟩ u (w.heap.size + 1) (by simp only; omega)).trans HQ8.out)
              refine hKK _ _ ⟨⟨w8.setCell ⟨R, 2, none⟩ _, HQ9.out _⟩, rfl⟩ (fun x => ∃ y : Calm.OnB (w.heap.size + 1) wz, x = y.1) (fun _ h => h) ⟨⟨w8.setCell ⟨R, 2, none⟩ _, HQ9.out _⟩, rfl⟩ ?_
              refine wpQuiet_nil ?_
              clear hKK
              go_wp2
              go_ret2
              refine ⟨?_, HW8.out.setCell A1.out.hR _, HK8.out.trans (KeepA.cells (only_set (World.grownBy.refl _ _) 2 _) A1.out.b (.inl rfl))⟩
              rw [HX2.out]
              refine ⟨rfl, ?_, by rw [← HPZ.out.ns.1]; exact HPZ.out.n, HPZ.out.t⟩
              have hS : ({ S with s := { S.s with ts := ({ S' with s := { S'.s with ts := ts2 } } : St).s.ts }, rs := S.rs ++ [⟨Gm.find S.ns pr.l.t, acc, z2⟩] } : St) = { ({ S' with s := { S'.s with ts := ts2 } } : St) with rs := ({ S' with s := { S'.s with ts := ts2 } } : St).rs ++ [⟨lf, acc, z2⟩] } := by
                rw [HPZ.out.ns.2, HLF.out]
                exact congrArg (fun T : St => ({ T with rs := S.rs ++ [⟨Gm.find S.ns pr.l.t, acc, z2⟩] } : St)) (HPZ.out.e ({ S' with s := { S'.s with ts := ts2 } } : St).s.ts)
              rw [size_set]
              show Bld L _ B w8.heap.size R ({ S with s := { S.s with ts := ({ S' with s := { S'.s with ts := ts2 } } : St).s.ts }, rs := S.rs ++ [⟨Gm.find S.ns pr.l.t, acc, z2⟩] } : St)
              rw [hS]
              exact ⟨vT', vN', _, Ms', Mt', ml', tl', ⟨A1.out.set 2 _, HFB.out.so, HFB.out.ko⟩⟩
  · intro KK hKK
    rw [if_pos (by rfl)]
    go_wp2_with fail
    refine hKK _ _ ⟨⟨_, HDb.out _⟩, rfl⟩ (fun x => ∃ y : Calm.On w1.heap.size w1, x = y.1) (fun _ h => h) ⟨⟨_, HDb.out _⟩, rfl⟩ ?_
    refine wpQuiet_nil ?_
    intro KK hKK
    rw [if_pos (by rfl)]
    go_wp2_with fail
    refine (HNN.out _).mono ?_; rintro _ w5 ⟨rfl, hw5⟩
    subst hw5
    go_wp2_with fail
    refine hKK _ _ ⟨⟨_, HDb.out _⟩, rfl⟩ (fun x => ∃ y : Calm.On w1.heap.size w1, x = y.1) (fun _ h => h) ⟨⟨_, HDb.out _⟩, rfl⟩ ?_
    repeat (go_big_quiet_step (fail))
    refine wpQuiet_nil ?_
    intro KK hKK
    rw [if_pos (by rfl)]
    go_wp2_with fail
    refine hKK _ _ ⟨⟨_, HDb.out _⟩, rfl⟩ (fun x => ∃ y : Calm.On w1.heap.size w1, x = y.1) (fun _ h => h) ⟨⟨_, HDb.out _⟩, rfl⟩ ?_
    refine wpQuiet_nil ?_
    clear hKK RB
    generalize rfX L pr.l = X0 at *
    generalize rfY L pr.l = Y0 at *
    generalize K.str pr.l.t = s0 at *
    obtain ⟨wq, hwq⟩ : ∃ x, x = (w1.alloc (.cells #[.int .i64 lf, .slice none 0 0, .int .i64 (-1)] 43)).drew := ⟨_, rfl⟩
    rw [← hwq]
    have HPX : Hid (PrI L w wq B R S S #[.string s0, .complex .f64 X0 Y0, .slice A pr.r.length c, .string (soS pr.p), .complex .f64 (soX L pr.p) (soY L pr.p)] lf (.slice none 0 0) [] (-1)) := hide (by rw [hwq]; exact HPQ.out)
    have p2 : wq.cell? ⟨w.heap.size, 2, none⟩ = some (.slice A pr.r.length c) := cell_of_row wq _ 2 _ _ _ HPX.out.pb
    have hPs := (Array.getElem?_eq_some_iff.1 HPX.out.pb).1
    clear HH H1 HP1 HDa HDb HNN HRB HW1 HK1 HTX hs1 hwq HPQ
    go_wp2
    go_loopw [26] (fun vi wr => ∃ (i : Nat) (S' : St) (acc : List Int) (p : Int) (v : Value), i ≤ pr.r.length ∧ vi = .int .i64 i ∧ acc.length = i ∧ Hid (Gm.rights S.ns S.s.ts [] (-1) pr.r = Gm.rights S.ns S'.s.ts acc p (pr.r.drop i)) ∧ Hid (PrI L w wr B R S S' #[.string s0, .complex .f64 X0 Y0, .slice A pr.r.length c, .string (soS pr.p), .complex .f64 (soX L pr.p) (soY L pr.p)] lf v acc p)) (fun vi _ => pr.r.length - (intOf vi).toNat)
    case atStart => exact ⟨0, S, [], -1, .slice none 0 0, Nat.zero_le _, rfl, rfl, hide rfl, HPX⟩
    case round =>
      clear HPX p2 hPs
      obtain ⟨i, S', acc, p, v, hi, rfl, hai, HE, HP⟩ := hrel
      have HAI := hide hai
      have p0 : wr.cell? ⟨w.heap.size, 0, none⟩ = some (.string s0) := cell_of_row wr _ 0 _ _ _ HP.out.pb
      have p1 : wr.cell? ⟨w.heap.size, 1, none⟩ = some (.complex .f64 X0 Y0) := cell_of_row wr _ 1 _ _ _ HP.out.pb
      have p2 : wr.cell? ⟨w.heap.size, 2, none⟩ = some (.slice A pr.r.length c) := cell_of_row wr _ 2 _ _ _ HP.out.pb
      have p3 : wr.cell? ⟨w.heap.size, 3, none⟩ = some (.string (soS pr.p)) := cell_of_row wr _ 3 _ _ _ HP.out.pb
      have p4 : wr.cell? ⟨w.heap.size, 4, none⟩ = some (.complex .f64 (soX L pr.p) (soY L pr.p)) := cell_of_row wr _ 4 _ _ _ HP.out.pb
      have hPs := (Array.getElem?_eq_some_iff.1 HP.out.pb).1
      clear hai
      by_cases hlt : i < pr.r.length
      · obtain ⟨g, o, rfl, hgB, hc⟩ := HR.out (by omega)
        have k0 := (HP.out.w.cell (p := ⟨g, o + i * 2, none⟩) hgB).trans (hc i hlt).1
        have k1 := (HP.out.w.cell (p := ⟨g, o + i * 2 + 1, none⟩) hgB).trans (hc i hlt).2
        have hBs := HP.out.w.size
        have hgs : g < wr.heap.size := by omega
        have hx := HDX.out i hlt
        obtain ⟨x, qx⟩ : ∃ x, x = pr.r[i] := ⟨_, rfl⟩
        have HD := hide (rights_drop (ns := S.ns) (ts := S'.s.ts) (acc := acc) (p := p) hlt)
        rw [← qx] at k0 k1 hx HD
        clear hc qx p3 p4
        obtain ⟨X, hX⟩ : ∃ X, X = rfX L x := ⟨_, rfl⟩
        obtain ⟨Y, hY⟩ : ∃ Y, Y = rfY L x := ⟨_, rfl⟩
        rw [← hX, ← hY] at k1
        have HXY := hide (And.intro hX hY)
        have HPA := hide (HP.out.alloc (.cells #[.string (K.str x.t), .complex .f64 X Y] 74) hB)
        have HCR := hide (heap_alloc_new wr (.cells #[.string (K.str x.t), .complex .f64 X Y] 74))
        have HC := hide (right_any9 L B w.heap.size R S' i x.t _ HPA.out.b (Gm.tx_named hx) hx.1 (Nat.le_trans hB HPA.out.w.size) HPA.out.t)
        have HNS : Hid (Gm.Nin S'.s.ts S'.ns) := hide HP.out.n
        have HSN : Hid (S'.ns = S.ns) := hide HP.out.ns.1
        have HXN := hide hx
        clear hX hY hx
        by_cases h6 : i = 6
        · have HX := hide (HE.out.trans (HD.out.trans (if_pos (by rw [HAI.out]; exact h6))))
          have hra : RiA S' i x.t = (0, 5, S') := by unfold RiA; rw [if_pos h6]
          rw [hra] at HC
          clear hra h6
          generalize K.str x.t = sx at *
          go_wp2_with fail
          refine HC.out.mono ?_; rintro _ w2 ⟨rfl, hb2, hw2, hk2⟩
          have H2 := hide (And.intro (HPA.out.w.trans hw2) (HPA.out.k.trans hk2))
          have hrr := hk2 _ _ _ HCR.out (by decide) (by decide)
          have r1 := cell_of_row w2 _ 1 _ _ _ hrr
          have hrz := (Array.getElem?_eq_some_iff.1 hrr).1
          clear hb2 hw2 hk2 hrr
          go_wp2
          go_ret2
          refine ⟨?_, H2.out.1, H2.out.2.a⟩
          rw [prR_bad HX.out]
          exact ⟨by decide, by rw [HXY.out.1, HXY.out.2]; rfl⟩
        have HD1 := hide (HD.out.trans (if_neg (by rw [HAI.out]; exact h6)))
        have hra : RiA S' i x.t = SyA S' x.t := by unfold RiA; rw [if_neg h6]
        rw [hra] at HC
        have HSY := hide (syA_put (S := S') (x := x) HNS.out)
        cases q : Gm.symR S.ns S'.s.ts x with
        | bad y er =>
          have HX := hide (HE.out.trans (HD1.out.trans (by rw [q, Gm.R.bind_bad])))
          obtain ⟨u1, u2, u3⟩ := HSY.out.2 y er (by rw [HSN.out]; exact q)
          subst u3
          rw [u1] at HC
          have her : (er != 0) = true := by simpa using u2
          have HER := hide u2
          clear hra h6 HSY u1 u2 q HD HD1
          generalize (SyA S' y.t).1 = z1 at *
          generalize (SyA S' y.t).2.2 = S2 at *
          generalize K.str y.t = sx at *
          go_wp2_with fail
          refine HC.out.mono ?_; rintro _ w2 ⟨rfl, hb2, hw2, hk2⟩
          have H2 := hide (And.intro (HPA.out.w.trans hw2) (HPA.out.k.trans hk2))
          have hrr := hk2 _ _ _ HCR.out (by decide) (by decide)
          have r1 := cell_of_row w2 _ 1 _ _ _ hrr
          have hrz := (Array.getElem?_eq_some_iff.1 hrr).1
          clear hb2 hw2 hk2 hrr
          go_wp2
          go_ret2
          refine ⟨?_, H2.out.1, H2.out.2.a⟩
          rw [prR_bad HX.out]
          exact ⟨HER.out, by rw [HXY.out.1, HXY.out.2]; rfl⟩
        | ok qq =>
          obtain ⟨ts', zz⟩ := qq
          have HX := hide (HE.out.trans (HD1.out.trans (by rw [q, Gm.R.bind_ok])))
          have hsy := HSY.out.1 ts' zz (by rw [HSN.out]; exact q)
          rw [hsy] at HC
          have HNN2 : Hid (Gm.Nin ts' S'.ns) := hide (by have h := HNS.out; rw [HSN.out] at h ⊢; exact (Gm.symR_ok h HXN.out q).1.n)
          have HTL : Hid (ts'.length ≤ 24) := hide (symR_len q HPA.out.t)
          have HIT := hide (fun y => isTerm_any zz y)
          clear hra h6 HSY hsy q HD HD1
          generalize K.str x.t = sx at *
          go_wp2_with fail
          refine HC.out.mono ?_; rintro _ w2 ⟨rfl, hb2, hw2, hk2⟩
          have HP2 := hide (HPA.out.call hb2 hw2 hk2 HNN2.out HTL.out)
          obtain ⟨Av, nv, cv, hvv⟩ := own_slice HP2.out.o
          subst hvv
          have q1 : w2.cell? ⟨w.heap.size + 1, 1, none⟩ = some (.slice Av nv cv) := cell_of_row w2 _ 1 _ _ _ HP2.out.qb
          have hQs := (Array.getElem?_eq_some_iff.1 HP2.out.qb).1
          have HP3 := hide (HP2.out.alloc (.cells #[.int .i64 zz] 3) hB)
          have HS2 : Hid (w.heap.size ≤ w2.heap.size) := hide HP2.out.w.size
          have hil : acc.length ≤ 1000000000000 := by have := HAI.out; omega
          clear hb2 hw2 hk2
          go_wp2_with (refine apI_arm rfl (.tmp 45) (.tmp 47) _ rfl Tryz.underlying41 w.heap.size _ acc rfl HP3.out.o _ _ zz rfl (new_cells w2 [.int .i64 zz] 3 0) hil (by have := HS2.out; simp; omega) ?_; intro v4 w4 ho4 hg4; obtain ⟨A4, n4, c4, rfl⟩ := own_slice ho4; have happ := hide (HP3.out.app ho4 hg4 hB); have q41 : w4.cell? ⟨w.heap.size + 1, 1, none⟩ = some (.slice Av nv cv) := cell_of_row w4 _ 1 _ _ _ happ.out.1; have q42 : w4.cell? ⟨w.heap.size + 1, 2, none⟩ = some (.int .i64 p) := cell_of_row w4 _ 2 _ _ _ happ.out.1; have f41 := frozen_of_row w4 _ 1 _ _ happ.out.1; have f42 := frozen_of_row w4 _ 2 _ _ happ.out.1; have hQ4 := (Array.getElem?_eq_some_iff.1 happ.out.1).1; clear ho4 hg4)
          refine (HIT.out _).mono ?_; rintro _ w5 ⟨rfl, hw5⟩
          subst hw5
          by_cases hzp : 0 ≤ zz
          · rw [if_pos hzp] at HX
            have e : decide (0 ≤ zz) = true := decide_eq_true hzp
            go_wp2
            go_roundw
            case rel => exact ⟨i + 1, _, acc ++ [zz], zz, .slice A4 n4 c4, hlt, by go_num, by rw [List.length_append, List.length_singleton, HAI.out], HX, hide (happ.out.2.setQ 2 (.int .i64 zz) rfl (happ.out.2.o.set_away happ.out.2.qb 2 _) hB)⟩
            case measure => simp [intOf]; omega
          · rw [if_neg hzp] at HX
            have e : decide (0 ≤ zz) = false := decide_eq_false hzp
            go_wp2
            go_roundw
            case rel => exact ⟨i + 1, _, acc ++ [zz], p, .slice A4 n4 c4, hlt, by go_num, by rw [List.length_append, List.length_singleton, HAI.out], HX, hide happ.out.2⟩
            case measure => simp [intOf]; omega
      · obtain rfl : i = pr.r.length := by omega
        have HX := hide (HE.out.trans (rights_end (Nat.le_refl _)))
        cases hpp : pr.p with
        | none =>
          have HPP := hide hpp
          replace p3 : wr.cell? ⟨w.heap.size, 3, none⟩ = some (.string ⟨#[]⟩) := by rw [p3, hpp]; rfl
          clear hpp p0 p1 p2 p4
          obtain ⟨wz, hwz⟩ : ∃ x, x = wr := ⟨_, rfl⟩
          rw [← hwz] at p3 hPs HP ⊢
          clear hwz
          obtain ⟨vT', vN', vR', Ms', Mt', ml', tl', hfin⟩ := HP.out.b
          have HFB := hide hfin
          obtain ⟨AR, cR, hvR, _, _⟩ := ownrl_form hfin.w.r
          subst hvR
          obtain ⟨Av, cv, hvv, hv1, hv2, hrow⟩ := HP.out.o.row hB
          subst hvv
          have c2 : wz.cell? ⟨R, 2, none⟩ = some (.slice AR S'.rs.length cR) := (hfin.w.at 2).1
          have hRs := (hfin.w.at 2).2.2
          have hQs := (Array.getElem?_eq_some_iff.1 HP.out.qb).1
          have HROW := hide (And.intro hv1 (And.intro hv2 hrow))
          have HRSL : Hid (S'.rs.length ≤ 1000) := hide (by rw [HP.out.ns.2]; exact hrs)
          clear hfin hrow hv1 hv2
          go_wp2_with fail
          have E0 : ∀ y : Calm.OnB (w.heap.size + 1) wz, y.1.cell? ⟨w.heap.size + 1, 0, none⟩ = some (.int .i64 lf) := fun y => cell_of_row y.1 _ 0 _ _ _ (y.2.trans HP.out.qb)
          have E1 : ∀ y : Calm.OnB (w.heap.size + 1) wz, y.1.cell? ⟨w.heap.size + 1, 1, none⟩ = some (.slice Av acc.length cv) := fun y => cell_of_row y.1 _ 1 _ _ _ (y.2.trans HP.out.qb)
          have E2 : ∀ y : Calm.OnB (w.heap.size + 1) wz, y.1.cell? ⟨w.heap.size + 1, 2, none⟩ = some (.int .i64 p) := fun y => cell_of_row y.1 _ 2 _ _ _ (y.2.trans HP.out.qb)
          refine CalmN.region_tree (fun x => ∃ y : Calm.OnB (w.heap.size + 1) wz, x = y.1) (.two [0, 1, 2, 3, 4, 6] 5 (.one [] 7 (.one [] 8 (.one [9, 10, 11] 12 (.fin [])))) 7 (.one [] 5 (.one [] 8 (.one [9, 10, 11] 12 (.fin []))))) (by kernel_rfl) (by kernel_rfl) (fun _ _ d _ _ h => by cases d <;> exact h) ⟨⟨wz.drew, rfl⟩, rfl⟩ ?_
          simp only [CalmN.wpT, CalmN.wpSt, CalmN.pickOps, List.getElem?_toArray, List.getElem?_cons_zero, List.getElem?_cons_succ]
          repeat (go_big_quiet_step (fail))
          refine wpQuiet_nil ?_
          clear E0 E1 E2
          have HQ1 := hide (fun o => (Below.heap_alloc wz o (w.heap.size + 1) hQs))
          refine ⟨?_, ?_⟩
          · intro KK hKK
            rw [if_pos (by rfl)]
            go_wp2_with fail
            refine hKK _ _ ⟨⟨wz.drew, rfl⟩, rfl⟩ (fun x => ∃ y : Calm.OnB (w.heap.size + 1) wz, x = y.1) (fun _ h => h) ⟨⟨wz.drew, rfl⟩, rfl⟩ ?_
            refine wpQuiet_nil ?_
            intro KK hKK
            rw [if_pos (by rfl)]
            go_wp2_with fail
            refine hKK _ _ ⟨⟨(wz.alloc _).drew, HQ1.out _⟩, rfl⟩ (fun x => ∃ y : Calm.OnB (w.heap.size + 1) wz, x = y.1) (fun _ h => h) ⟨⟨(wz.alloc _).drew, HQ1.out _⟩, rfl⟩ ?_
            refine wpQuiet_nil ?_
            intro KK hKK
            rw [if_pos (by rfl)]
            obtain ⟨wy, hwy⟩ : ∃ x, x = (wz.alloc (.cells #[.int .i64 lf, .slice Av acc.length cv, .int .i64 p] 43)).drew := ⟨_, rfl⟩
            rw [← hwy]
            have A0 : Hid (BRaw wy B w.heap.size R (bCells L vT' vN' (.slice AR S'.rs.length cR) Ms' Mt' S') vT' vN' (.slice AR S'.rs.length cR) S'.s.ts S'.ns S'.rs Ms' Mt' ml' tl') := hide (by rw [hwy]; exact (HFB.out.w.alloc (.cells #[.int .i64 lf, .slice Av acc.length cv, .int .i64 p] 43)).grown (drew_grown _ none) (Off.none _ _))
            have HWY : Hid (Below B w wy) := hide (by rw [hwy]; exact below_drewN (HP.out.w.alloc (Nat.le_trans hB HP.out.w.size) _) 1)
            have HKY : Hid (KeepT w wy) := hide (by rw [hwy]; exact HP.out.k.trans (KeepT.below (below_drewN ((Below.refl _ _).alloc (Nat.le_refl _) _) 1)))
            have HQY : Hid (wy.heap[w.heap.size + 1]? = wz.heap[w.heap.size + 1]?) := hide (by rw [hwy]; exact HQ1.out _)
            have HZC : Hid (∀ j u, (rlC (⟨lf, acc, p⟩, Av, cv))[j]? = some u → wy.cell? ⟨wz.heap.size, j, none⟩ = some u) := hide (fun j u hj => by rw [hwy]; exact (new_cells wz (rlC (⟨lf, acc, p⟩, Av, cv)) 43 j).trans hj)
            have HRW : Hid (RowI wy B wy.heap.size Av acc) := hide (by
              rw [hwy]
              exact (HROW.out.2.2.grown (w' := (wz.alloc (.cells #[.int .i64 lf, .slice Av acc.length cv, .int .i64 p] 43)).drew) (row := none) ((World.grownBy_alloc wz (.cells #[.int .i64 lf, .slice Av acc.length cv, .int .i64 p] 43) none).trans (drew_grown _ none)) (fun g e => by cases e)).more (by show wz.heap.size ≤ (wz.alloc _).heap.size; simp))
            have HSW : Hid (w.heap.size ≤ wy.heap.size) := hide HWY.out.size
            clear hwy
            refine apRl_wp (.tmp 80) (.tmp 82) _ rfl Tryz.underlying24 B w.heap.size _ S'.rs rfl A0.out.r _ _ (⟨lf, acc, p⟩, Av, cv) rfl HZC.out ⟨HROW.out.1, HROW.out.2.1, HRW.out⟩ (Nat.le_trans HRSL.out (by decide)) (Nat.le_trans hB HSW.out) HSW.out ?_
            intro v8 w8 ho8 hg8
            have A1 := hide ((A0.out.more (Nat.le_trans HSW.out hg8.size)).r_put ho8 hg8)
            obtain ⟨A8, c8, rfl, _, _⟩ := ownrl_form ho8
            have HQ8 : Hid (w8.heap[w.heap.size + 1]? = wz.heap[w.heap.size + 1]?) := hide ((hg8.block (w.heap.size + 1) (by have := (Array.getElem?_eq_some_iff.1 (HQY.out.trans HP.out.qb)).1; exact this) (fun e => by
              obtain ⟨_, _, _, h3, _⟩ := A0.out.r
              have := h3 _ e.symm
              omega)).trans HQY.out)
            have HK8 : Hid (KeepA w w8) := hide (HKY.out.a.trans (by obtain ⟨_, _, h2, _⟩ := A0.out.r; exact KeepA.own h2 hg8 (.inr (.inr rfl))))
            have HW8 : Hid (Below B w w8) := hide (HWY.out.grown hg8 (Nat.le_trans hB HSW.out) (fun k e => by obtain ⟨_, _, h2, _⟩ := A0.out.r; exact (own_holds h2 e).1))
            obtain ⟨n8, hn8⟩ : ∃ n, n = (S'.rs ++ [(⟨lf, acc, p⟩ : Gm.Rl)]).length := ⟨_, rfl⟩
            have c28 : w8.cell? ⟨R, 2, none⟩ = some (.slice AR S'.rs.length cR) := (A1.out.at 2).1
            have f28 := (A1.out.at 2).2.1
            have hR8 := (A1.out.at 2).2.2
            rw [← hn8] at A1 ⊢
            have HN8 := hide hn8
            clear ho8 hg8 A0 hn8
            refine hKK _ _ ⟨⟨w8, HQ8.out⟩, rfl⟩ (fun x => ∃ y : Calm.OnB (w.heap.size + 1) wz, x = y.1) (fun _ h => h) ⟨⟨w8, HQ8.out⟩, rfl⟩ ?_
            go_frame
            repeat (go_big_quiet_step (fail))
            refine wpQuiet_nil ?_
            intro KK hKK
            rw [if_pos (by rfl)]
            go_wp2_with fail
            have HQ9 := hide (fun u => (Below.heap_setCell w8 ⟨R, 2, none⟩ u (w.heap.size + 1) (by simp only; omega)).trans HQ8.out)
            refine hKK _ _ ⟨⟨w8.setCell ⟨R, 2, none⟩ _, HQ9.out _⟩, rfl⟩ (fun x => ∃ y : Calm.OnB (w.heap.size + 1) wz, x = y.1) (fun _ h => h) ⟨⟨w8.setCell ⟨R, 2, none⟩ _, HQ9.out _⟩, rfl⟩ ?_
            refine wpQuiet_nil ?_
            clear hKK
            go_wp2
            go_ret2
            refine ⟨?_, HW8.out.setCell A1.out.hR _, HK8.out.trans (KeepA.cells (only_set (World.grownBy.refl _ _) 2 _) A1.out.b (.inl rfl))⟩
            rw [prR_none HX.out HPP.out]
            refine ⟨rfl, ?_, by rw [← HP.out.ns.1]; exact HP.out.n, HP.out.t⟩
            have hS : ({ S with s := { S.s with ts := S'.s.ts }, rs := S.rs ++ [⟨Gm.find S.ns pr.l.t, acc, p⟩] } : St) = { S' with rs := S'.rs ++ [⟨lf, acc, p⟩] } := by
              rw [HP.out.ns.2, HLF.out]
              exact congrArg (fun T : St => ({ T with rs := S.rs ++ [⟨Gm.find S.ns pr.l.t, acc, p⟩] } : St)) (HP.out.e S'.s.ts)
            rw [size_set]
            show Bld L _ B w8.heap.size R ({ S with s := { S.s with ts := S'.s.ts }, rs := S.rs ++ [⟨Gm.find S.ns pr.l.t, acc, p⟩] } : St)
            rw [hS]
            exact ⟨vT', vN', _, Ms', Mt', ml', tl', ⟨A1.out.set 2 _, HFB.out.so, HFB.out.ko⟩⟩
          · intro KK hKK
            rw [if_pos (by rfl)]
            go_wp2_with fail
            refine hKK _ _ ⟨⟨(wz.alloc _).drew, HQ1.out _⟩, rfl⟩ (fun x => ∃ y : Calm.OnB (w.heap.size + 1) wz, x = y.1) (fun _ h => h) ⟨⟨(wz.alloc _).drew, HQ1.out _⟩, rfl⟩ ?_
            refine wpQuiet_nil ?_
            intro KK hKK
            rw [if_pos (by rfl)]
            go_wp2_with fail
            refine hKK _ _ ⟨⟨(wz.alloc _).drew, HQ1.out _⟩, rfl⟩ (fun x => ∃ y : Calm.OnB (w.heap.size + 1) wz, x = y.1) (fun _ h => h) ⟨⟨(wz.alloc _).drew, HQ1.out _⟩, rfl⟩ ?_
            refine wpQuiet_nil ?_
            intro KK hKK
            rw [if_pos (by rfl)]
            obtain ⟨wy, hwy⟩ : ∃ x, x = (wz.alloc (.cells #[.int .i64 lf, .slice Av acc.length cv, .int .i64 p] 43)).drew := ⟨_, rfl⟩
            rw [← hwy]
            have A0 : Hid (BRaw wy B w.heap.size R (bCells L vT' vN' (.slice AR S'.rs.length cR) Ms' Mt' S') vT' vN' (.slice AR S'.rs.length cR) S'.s.ts S'.ns S'.rs Ms' Mt' ml' tl') := hide (by rw [hwy]; exact (HFB.out.w.alloc (.cells #[.int .i64 lf, .slice Av acc.length cv, .int .i64 p] 43)).grown (drew_grown _ none) (Off.none _ _))
            have HWY : Hid (Below B w wy) := hide (by rw [hwy]; exact below_drewN (HP.out.w.alloc (Nat.le_trans hB HP.out.w.size) _) 1)
            have HKY : Hid (KeepT w wy) := hide (by rw [hwy]; exact HP.out.k.trans (KeepT.below (below_drewN ((Below.refl _ _).alloc (Nat.le_refl _) _) 1)))
            have HQY : Hid (wy.heap[w.heap.size + 1]? = wz.heap[w.heap.size + 1]?) := hide (by rw [hwy]; exact HQ1.out _)
            have HZC : Hid (∀ j u, (rlC (⟨lf, acc, p⟩, Av, cv))[j]? = some u → wy.cell? ⟨wz.heap.size, j, none⟩ = some u) := hide (fun j u hj => by rw [hwy]; exact (new_cells wz (rlC (⟨lf, acc, p⟩, Av, cv)) 43 j).trans hj)
            have HRW : Hid (RowI wy B wy.heap.size Av acc) := hide (by
              rw [hwy]
              exact (HROW.out.2.2.grown (w' := (wz.alloc (.cells #[.int .i64 lf, .slice Av acc.length cv, .int .i64 p] 43)).drew) (row := none) ((World.grownBy_alloc wz (.cells #[.int .i64 lf, .slice Av acc.length cv, .int .i64 p] 43) none).trans (drew_grown _ none)) (fun g e => by cases e)).more (by show wz.heap.size ≤ (wz.alloc _).heap.size; simp))
            have HSW : Hid (w.heap.size ≤ wy.heap.size) := hide HWY.out.size
            clear hwy
            refine apRl_wp (.tmp 80) (.tmp 82) _ rfl Tryz.underlying24 B w.heap.size _ S'.rs rfl A0.out.r _ _ (⟨lf, acc, p⟩, Av, cv) rfl HZC.out ⟨HROW.out.1, HROW.out.2.1, HRW.out⟩ (Nat.le_trans HRSL.out (by decide)) (Nat.le_trans hB HSW.out) HSW.out ?_
            intro v8 w8 ho8 hg8
            have A1 := hide ((A0.out.more (Nat.le_trans HSW.out hg8.size)).r_put ho8 hg8)
            obtain ⟨A8, c8, rfl, _, _⟩ := ownrl_form ho8
            have HQ8 : Hid (w8.heap[w.heap.size + 1]? = wz.heap[w.heap.size + 1]?) := hide ((hg8.block (w.heap.size + 1) (by have := (Array.getElem?_eq_some_iff.1 (HQY.out.trans HP.out.qb)).1; exact this) (fun e => by
              obtain ⟨_, _, _, h3, _⟩ := A0.out.r
              have := h3 _ e.symm
              omega)).trans HQY.out)
            have HK8 : Hid (KeepA w w8) := hide (HKY.out.a.trans (by obtain ⟨_, _, h2, _⟩ := A0.out.r; exact KeepA.own h2 hg8 (.inr (.inr rfl))))
            have HW8 : Hid (Below B w w8) := hide (HWY.out.grown hg8 (Nat.le_trans hB HSW.out) (fun k e => by obtain ⟨_, _, h2, _⟩ := A0.out.r; exact (own_holds h2 e).1))
            obtain ⟨n8, hn8⟩ : ∃ n, n = (S'.rs ++ [(⟨lf, acc, p⟩ : Gm.Rl)]).length := ⟨_, rfl⟩
            have c28 : w8.cell? ⟨R, 2, none⟩ = some (.slice AR S'.rs.length cR) := (A1.out.at 2).1
            have f28 := (A1.out.at 2).2.1
            have hR8 := (A1.out.at 2).2.2
            rw [← hn8] at A1 ⊢
            have HN8 := hide hn8
            clear ho8 hg8 A0 hn8
            refine hKK _ _ ⟨⟨w8, HQ8.out⟩, rfl⟩ (fun x => ∃ y : Calm.OnB (w.heap.size + 1) wz, x = y.1) (fun _ h => h) ⟨⟨w8, HQ8.out⟩, rfl⟩ ?_
            go_frame
            repeat (go_big_quiet_step (fail))
            refine wpQuiet_nil ?_
            intro KK hKK
            rw [if_pos (by rfl)]
            go_wp2_with fail
            have HQ9 := hide (fun u => (Below.heap_setCell w8 ⟨R, 2, none⟩ u (w.heap.size + 1) (by simp only; omega)).trans HQ8.out)
            refine hKK _ _ ⟨⟨w8.setCell ⟨R, 2, none⟩ _, HQ9.out _⟩, rfl⟩ (fun x => ∃ y : Calm.OnB (w.heap.size + 1) wz, x = y.1) (fun _ h => h) ⟨⟨w8.setCell ⟨R, 2, none⟩ _, HQ9.out _⟩, rfl⟩ ?_
            refine wpQuiet_nil ?_
            clear hKK
            go_wp2
            go_ret2
            refine ⟨?_, HW8.out.setCell A1.out.hR _, HK8.out.trans (KeepA.cells (only_set (World.grownBy.refl _ _) 2 _) A1.out.b (.inl rfl))⟩
            rw [prR_none HX.out HPP.out]
            refine ⟨rfl, ?_, by rw [← HP.out.ns.1]; exact HP.out.n, HP.out.t⟩
            have hS : ({ S with s := { S.s with ts := S'.s.ts }, rs := S.rs ++ [⟨Gm.find S.ns pr.l.t, acc, p⟩] } : St) = { S' with rs := S'.rs ++ [⟨lf, acc, p⟩] } := by
              rw [HP.out.ns.2, HLF.out]
              exact congrArg (fun T : St => ({ T with rs := S.rs ++ [⟨Gm.find S.ns pr.l.t, acc, p⟩] } : St)) (HP.out.e S'.s.ts)
            rw [size_set]
            show Bld L _ B w8.heap.size R ({ S with s := { S.s with ts := S'.s.ts }, rs := S.rs ++ [⟨Gm.find S.ns pr.l.t, acc, p⟩] } : St)
            rw [hS]
            exact ⟨vT', vN', _, Ms', Mt', ml', tl', ⟨A1.out.set 2 _, HFB.out.so, HFB.out.ko⟩⟩
        | some x =>
          have HPP := hide hpp
          have hxn := HDP.out x hpp
          have hne : x.t ≠ [] := fun e => by have := hxn.1; rw [e] at this; simp [Gm.named, T.isName, T.isLit] at this
          replace p3 : wr.cell? ⟨w.heap.size, 3, none⟩ = some (.string (K.str x.t)) := by rw [p3, hpp]; rfl
          obtain ⟨X, hX⟩ : ∃ X, X = rfX L x := ⟨_, rfl⟩
          obtain ⟨Y, hY⟩ : ∃ Y, Y = rfY L x := ⟨_, rfl⟩
          replace p4 : wr.cell? ⟨w.heap.size, 4, none⟩ = some (.complex .f64 X Y) := by rw [p4, hpp, hX, hY]; rfl
          have HXY := hide (And.intro hX hY)
          have hsn : ¬ (K.str x.t).toList = [] := by rw [K.str_list]; intro e; exact hne (by simpa [K.bytes] using e)
          have HC := hide (prec_any9 L B w.heap.size R S' x.t wr HP.out.b (Gm.tx_named hxn) hxn.1 (Nat.le_trans hB HP.out.w.size) HP.out.t)
          have HSN : Hid (S'.ns = S.ns) := hide HP.out.ns.1
          have HPA := hide (prA_put (S := S') (x := x) HP.out.n)
          cases q : Gm.symP S.ns S'.s.ts x with
          | bad y er =>
            obtain ⟨u1, u2, u3⟩ := HPA.out.2 y er (by rw [HSN.out]; exact q)
            subst u3
            have HX2 := hide (prR_bad2 (rs := S.rs) HX.out HPP.out q)
            rw [u1] at HC
            have her : (er != 0) = true := by simpa using u2
            have HER := hide u2
            clear hX hY hpp hxn hne HPA u1 u2 q p0 p1 p2
            generalize (PrA S' y.t).1 = z1 at *
            generalize (PrA S' y.t).2.2 = S2 at *
            generalize K.str y.t = sx at *
            have hsn' : sx.toList.isEmpty = false := by simpa using hsn
            go_wp2_with fail
            refine HC.out.mono ?_; rintro _ w2 ⟨rfl, hb2, hw2, hk2⟩
            have H2 := hide (And.intro (HP.out.w.trans hw2) (HP.out.k.trans hk2))
            have hpb := hk2 _ _ _ HP.out.pb (by decide) (by decide)
            have p4 : w2.cell? ⟨w.heap.size, 4, none⟩ = some (.complex .f64 (soX L pr.p) (soY L pr.p)) := cell_of_row w2 _ 4 _ _ _ hpb
            have hPz := (Array.getElem?_eq_some_iff.1 hpb).1
            have HSX : Hid (soX L pr.p = X ∧ soY L pr.p = Y) := hide (by rw [HPP.out, HXY.out.1, HXY.out.2]; exact ⟨rfl, rfl⟩)
            rw [HSX.out.1, HSX.out.2] at p4
            clear hb2 hw2 hk2 hpb
            go_wp2
            go_ret2
            refine ⟨?_, H2.out.1, H2.out.2.a⟩
            rw [HX2.out]
            exact ⟨HER.out, by rw [HXY.out.1, HXY.out.2]; rfl⟩
          | ok qq =>
            obtain ⟨ts2, z2⟩ := qq
            have hpa := HPA.out.1 ts2 z2 (by rw [HSN.out]; exact q)
            rw [hpa] at HC
            have HNN2 : Hid (Gm.Nin ts2 S'.ns) := hide (by have h := HP.out.n; rw [HSN.out] at h ⊢; exact (Gm.symP_ok h hxn q).1.n)
            have HTL : Hid (ts2.length ≤ 24) := hide (symP_len q HP.out.t)
            have HX2 := hide (prR_some (rs := S.rs) HX.out HPP.out q)
            clear hX hY hpp hxn hne HPA hpa q p0 p1 p2
            generalize K.str x.t = sx at *
            have hsn' : sx.toList.isEmpty = false := by simpa using hsn
            go_wp2_with fail
            refine HC.out.mono ?_; rintro _ w2 ⟨rfl, hb2, hw2, hk2⟩
            have HP2 := hide (HP.out.call hb2 hw2 hk2 HNN2.out HTL.out)
            have q2 : w2.cell? ⟨w.heap.size + 1, 2, none⟩ = some (.int .i64 p) := cell_of_row w2 _ 2 _ _ _ HP2.out.qb
            have f2 := frozen_of_row w2 _ 2 _ _ HP2.out.qb
            have hQ2 := (Array.getElem?_eq_some_iff.1 HP2.out.qb).1
            clear hb2 hw2 hk2 p3 p4
            go_upto_region 17 with fail
            obtain ⟨wz, hwz⟩ : ∃ x, x = w2.setCell ⟨w.heap.size + 1, 2, none⟩ (.int .i64 z2) := ⟨_, rfl⟩
            rw [← hwz]
            have HPZ : Hid (PrI L w wz B R S { S' with s := { S'.s with ts := ts2 } } #[.string s0, .complex .f64 X0 Y0, .slice A pr.r.length c, .string (soS pr.p), .complex .f64 (soX L pr.p) (soY L pr.p)] lf v acc z2) := hide (by rw [hwz]; exact HP2.out.setQ 2 (.int .i64 z2) rfl (HP2.out.o.set_away HP2.out.qb 2 _) hB)
            clear hwz q2 f2 hQ2
            obtain ⟨vT', vN', vR', Ms', Mt', ml', tl', hfin⟩ := HPZ.out.b
            have HFB := hide hfin
            obtain ⟨AR, cR, hvR, _, _⟩ := ownrl_form hfin.w.r
            subst hvR
            obtain ⟨Av, cv, hvv, hv1, hv2, hrow⟩ := HPZ.out.o.row hB
            subst hvv
            have c2 : wz.cell? ⟨R, 2, none⟩ = some (.slice AR ({ S' with s := { S'.s with ts := ts2 } } : St).rs.length cR) := (hfin.w.at 2).1
            have hRs := (hfin.w.at 2).2.2
            have hQs := (Array.getElem?_eq_some_iff.1 HPZ.out.qb).1
            have HROW := hide (And.intro hv1 (And.intro hv2 hrow))
            have HRSL : Hid (({ S' with s := { S'.s with ts := ts2 } } : St).rs.length ≤ 1000) := hide (by rw [HPZ.out.ns.2]; exact hrs)
            clear hfin hrow hv1 hv2
            go_wp2_with fail
            have E0 : ∀ y : Calm.OnB (w.heap.size + 1) wz, y.1.cell? ⟨w.heap.size + 1, 0, none⟩ = some (.int .i64 lf) := fun y => cell_of_row y.1 _ 0 _ _ _ (y.2.trans HPZ.out.qb)
            have E1 : ∀ y : Calm.OnB (w.heap.size + 1) wz, y.1.cell? ⟨w.heap.size + 1, 1, none⟩ = some (.slice Av acc.length cv) := fun y => cell_of_row y.1 _ 1 _ _ _ (y.2.trans HPZ.out.qb)
            have E2 : ∀ y : Calm.OnB (w.heap.size + 1) wz, y.1.cell? ⟨w.heap.size + 1, 2, none⟩ = some (.int .i64 z2) := fun y => cell_of_row y.1 _ 2 _ _ _ (y.2.trans HPZ.out.qb)
            refine CalmN.region_tree (fun x => ∃ y : Calm.OnB (w.heap.size + 1) wz, x = y.1) (.two [0, 1, 2, 3, 4, 6] 5 (.one [] 7 (.one [] 8 (.one [9, 10, 11] 12 (.fin [])))) 7 (.one [] 5 (.one [] 8 (.one [9, 10, 11] 12 (.fin []))))) (by kernel_rfl) (by kernel_rfl) (fun _ _ d _ _ h => by cases d <;> exact h) ⟨⟨wz.drew, rfl⟩, rfl⟩ ?_
            simp only [CalmN.wpT, CalmN.wpSt, CalmN.pickOps, List.getElem?_toArray, List.getElem?_cons_zero, List.getElem?_cons_succ]
            repeat (go_big_quiet_step (fail))
            refine wpQuiet_nil ?_
            clear E0 E1 E2
            have HQ1 := hide (fun o => (Below.heap_alloc wz o (w.heap.size + 1) hQs))
            refine ⟨?_, ?_⟩
            · intro KK hKK
              rw [if_pos (by rfl)]
              go_wp2_with fail
              refine hKK _ _ ⟨⟨wz.drew, rfl⟩, rfl⟩ (fun x => ∃ y : Calm.OnB (w.heap.size + 1) wz, x = y.1) (fun _ h => h) ⟨⟨wz.drew, rfl⟩, rfl⟩ ?_
              refine wpQuiet_nil ?_
              intro KK hKK
              rw [if_pos (by rfl)]
              go_wp2_with fail
              refine hKK _ _ ⟨⟨(wz.alloc _).drew, HQ1.out _⟩, rfl⟩ (fun x => ∃ y : Calm.OnB (w.heap.size + 1) wz, x = y.1) (fun _ h => h) ⟨⟨(wz.alloc _).drew, HQ1.out _⟩, rfl⟩ ?_
              refine wpQuiet_nil ?_
              intro KK hKK
              rw [if_pos (by rfl)]
              obtain ⟨wy, hwy⟩ : ∃ x, x = (wz.alloc (.cells #[.int .i64 lf, .slice Av acc.length cv, .int .i64 z2] 43)).drew := ⟨_, rfl⟩
              rw [← hwy]
              have A0 : Hid (BRaw wy B w.heap.size R (bCells L vT' vN' (.slice AR ({ S' with s := { S'.s with ts := ts2 } } : St).rs.length cR) Ms' Mt' ({ S' with s := { S'.s with ts := ts2 } } : St)) vT' vN' (.slice AR ({ S' with s := { S'.s with ts := ts2 } } : St).rs.length cR) ({ S' with s := { S'.s with ts := ts2 } } : St).s.ts ({ S' with s := { S'.s with ts := ts2 } } : St).ns ({ S' with s := { S'.s with ts := ts2 } } : St).rs Ms' Mt' ml' tl') := hide (by rw [hwy]; exact (HFB.out.w.alloc (.cells #[.int .i64 lf, .slice Av acc.length cv, .int .i64 z2] 43)).grown (drew_grown _ none) (Off.none _ _))
              have HWY : Hid (Below B w wy) := hide (by rw [hwy]; exact below_drewN (HPZ.out.w.alloc (Nat.le_trans hB HPZ.out.w.size) _) 1)
              have HKY : Hid (KeepT w wy) := hide (by rw [hwy]; exact HPZ.out.k.trans (KeepT.below (below_drewN ((Below.refl _ _).alloc (Nat.le_refl _) _) 1)))
              have HQY : Hid (wy.heap[w.heap.size + 1]? = wz.heap[w.heap.size + 1]?) := hide (by rw [hwy]; exact HQ1.out _)
              have HZC : Hid (∀ j u, (rlC (⟨lf, acc, z2⟩, Av, cv))[j]? = some u → wy.cell? ⟨wz.heap.size, j, none⟩ = some u) := hide (fun j u hj => by rw [hwy]; exact (new_cells wz (rlC (⟨lf, acc, z2⟩, Av, cv)) 43 j).trans hj)
              have HRW : Hid (RowI wy B wy.heap.size Av acc) := hide (by
                rw [hwy]
                exact (HROW.out.2.2.grown (w' := (wz.alloc (.cells #[.int .i64 lf, .slice Av acc.length cv, .int .i64 z2] 43)).drew) (row := none) ((World.grownBy_alloc wz (.cells #[.int .i64 lf, .slice Av acc.length cv, .int .i64 z2] 43) none).trans (drew_grown _ none)) (fun g e => by cases e)).more (by show wz.heap.size ≤ (wz.alloc _).heap.size; simp))
              have HSW : Hid (w.heap.size ≤ wy.heap.size) := hide HWY.out.size
              clear hwy
              refine apRl_wp (.tmp 80) (.tmp 82) _ rfl Tryz.underlying24 B w.heap.size _ ({ S' with s := { S'.s with ts := ts2 } } : St).rs rfl A0.out.r _ _ (⟨lf, acc, z2⟩, Av, cv) rfl HZC.out ⟨HROW.out.1, HROW.out.2.1, HRW.out⟩ (Nat.le_trans HRSL.out (by decide)) (Nat.le_trans hB HSW.out) HSW.out ?_
              intro v8 w8 ho8 hg8
              have A1 := hide ((A0.out.more (Nat.le_trans HSW.out hg8.size)).r_put ho8 hg8)
              obtain ⟨A8, c8, rfl, _, _⟩ := ownrl_form ho8
              have HQ8 : Hid (w8.heap[w.heap.size + 1]? = wz.heap[w.heap.size + 1]?) := hide ((hg8.block (w.heap.size + 1) (by have := (Array.getElem?_eq_some_iff.1 (HQY.out.trans HPZ.out.qb)).1; exact this) (fun e => by
                obtain ⟨_, _, _, h3, _⟩ := A0.out.r
                have := h3 _ e.symm
                omega)).trans HQY.out)
              have HK8 : Hid (KeepA w w8) := hide (HKY.out.a.trans (by obtain ⟨_, _, h2, _⟩ := A0.out.r; exact KeepA.own h2 hg8 (.inr (.inr rfl))))
              have HW8 : Hid (Below B w w8) := hide (HWY.out.grown hg8 (Nat.le_trans hB HSW.out) (fun k e => by obtain ⟨_, _, h2, _⟩ := A0.out.r; exact (own_holds h2 e).1))
              obtain ⟨n8, hn8⟩ : ∃ n, n = (({ S' with s := { S'.s with ts := ts2 } } : St).rs ++ [(⟨lf, acc, z2⟩ : Gm.Rl)]).length := ⟨_, rfl⟩
              have c28 : w8.cell? ⟨R, 2, none⟩ = some (.slice AR ({ S' with s := { S'.s with ts := ts2 } } : St).rs.length cR) := (A1.out.at 2).1
              have f28 := (A1.out.at 2).2.1
              have hR8 := (A1.out.at 2).2.2
              rw [← hn8] at A1 ⊢
              have HN8 := hide hn8
              clear ho8 hg8 A0 hn8
              refine hKK _ _ ⟨⟨w8, HQ8.out⟩, rfl⟩ (fun x => ∃ y : Calm.OnB (w.heap.size + 1) wz, x = y.1) (fun _ h => h) ⟨⟨w8, HQ8.out⟩, rfl⟩ ?_
              go_frame
              repeat (go_big_quiet_step (fail))
              refine wpQuiet_nil ?_
              intro KK hKK
              rw [if_pos (by rfl)]
              go_wp2_with fail
              have HQ9 := hide (fun u => (Below.heap_setCell w8 ⟨R, 2, none⟩ u (w.heap.size + 1) (by simp only; omega)).trans HQ8.out)
              refine hKK _ _ ⟨⟨w8.setCell ⟨R, 2, none⟩ _, HQ9.out _⟩, rfl⟩ (fun x => ∃ y : Calm.OnB (w.heap.size + 1) wz, x = y.1) (fun _ h => h) ⟨⟨w8.setCell ⟨R, 2, none⟩ _, HQ9.out _⟩, rfl⟩ ?_
              refine wpQuiet_nil ?_
              clear hKK
              go_wp2
              go_ret2
              refine ⟨?_, HW8.out.setCell A1.out.hR _, HK8.out.trans (KeepA.cells (only_set (World.grownBy.refl _ _) 2 _) A1.out.b (.inl rfl))⟩
              rw [HX2.out]
              refine ⟨rfl, ?_, by rw [← HPZ.out.ns.1]; exact HPZ.out.n, HPZ.out.t⟩
              have hS : ({ S with s := { S.s with ts := ({ S' with s := { S'.s with ts := ts2 } } : St).s.ts }, rs := S.rs ++ [⟨Gm.find S.ns pr.l.t, acc, z2⟩] } : St) = { ({ S' with s := { S'.s with ts := ts2 } } : St) with rs := ({ S' with s := { S'.s with ts := ts2 } } : St).rs ++ [⟨lf, acc, z2⟩] } := by
                rw [HPZ.out.ns.2, HLF.out]
                exact congrArg (fun T : St => ({ T with rs := S.rs ++ [⟨Gm.find S.ns pr.l.t, acc, z2⟩] } : St)) (HPZ.out.e ({ S' with s := { S'.s with ts := ts2 } } : St).s.ts)
              rw [size_set]
              show Bld L _ B w8.heap.size R ({ S with s := { S.s with ts := ({ S' with s := { S'.s with ts := ts2 } } : St).s.ts }, rs := S.rs ++ [⟨Gm.find S.ns pr.l.t, acc, z2⟩] } : St)
              rw [hS]
              exact ⟨vT', vN', _, Ms', Mt', ml', tl', ⟨A1.out.set 2 _, HFB.out.so, HFB.out.ko⟩⟩
            · intro KK hKK
              rw [if_pos (by rfl)]
              go_wp2_with fail
              refine hKK _ _ ⟨⟨(wz.alloc _).drew, HQ1.out _⟩, rfl⟩ (fun x => ∃ y : Calm.OnB (w.heap.size + 1) wz, x = y.1) (fun _ h => h) ⟨⟨(wz.alloc _).drew, HQ1.out _⟩, rfl⟩ ?_
              refine wpQuiet_nil ?_
              intro KK hKK
              rw [if_pos (by rfl)]
              go_wp2_with fail
              refine hKK _ _ ⟨⟨(wz.alloc _).drew, HQ1.out _⟩, rfl⟩ (fun x => ∃ y : Calm.OnB (w.heap.size + 1) wz, x = y.1) (fun _ h => h) ⟨⟨(wz.alloc _).drew, HQ1.out _⟩, rfl⟩ ?_
              refine wpQuiet_nil ?_
              intro KK hKK
              rw [if_pos (by rfl)]
              obtain ⟨wy, hwy⟩ : ∃ x, x = (wz.alloc (.cells #[.int .i64 lf, .slice Av acc.length cv, .int .i64 z2] 43)).drew := ⟨_, rfl⟩
              rw [← hwy]
              have A0 : Hid (BRaw wy B w.heap.size R (bCells L vT' vN' (.slice AR ({ S' with s := { S'.s with ts := ts2 } } : St).rs.length cR) Ms' Mt' ({ S' with s := { S'.s with ts := ts2 } } : St)) vT' vN' (.slice AR ({ S' with s := { S'.s with ts := ts2 } } : St).rs.length cR) ({ S' with s := { S'.s with ts := ts2 } } : St).s.ts ({ S' with s := { S'.s with ts := ts2 } } : St).ns ({ S' with s := { S'.s with ts := ts2 } } : St).rs Ms' Mt' ml' tl') := hide (by rw [hwy]; exact (HFB.out.w.alloc (.cells #[.int .i64 lf, .slice Av acc.length cv, .int .i64 z2] 43)).grown (drew_grown _ none) (Off.none _ _))
              have HWY : Hid (Below B w wy) := hide (by rw [hwy]; exact below_drewN (HPZ.out.w.alloc (Nat.le_trans hB HPZ.out.w.size) _) 1)
              have HKY : Hid (KeepT w wy) := hide (by rw [hwy]; exact HPZ.out.k.trans (KeepT.below (below_drewN ((Below.refl _ _).alloc (Nat.le_refl _) _) 1)))
              have HQY : Hid (wy.heap[w.heap.size + 1]? = wz.heap[w.heap.size + 1]?) := hide (by rw [hwy]; exact HQ1.out _)
              have HZC : Hid (∀ j u, (rlC (⟨lf, acc, z2⟩, Av, cv))[j]? = some u → wy.cell? ⟨wz.heap.size, j, none⟩ = some u) := hide (fun j u hj => by rw [hwy]; exact (new_cells wz (rlC (⟨lf, acc, z2⟩, Av, cv)) 43 j).trans hj)
              have HRW : Hid (RowI wy B wy.heap.size Av acc) := hide (by
                rw [hwy]
                exact (HROW.out.2.2.grown (w' := (wz.alloc (.cells #[.int .i64 lf, .slice Av acc.length cv, .int .i64 z2] 43)).drew) (row := none) ((World.grownBy_alloc wz (.cells #[.int .i64 lf, .slice Av acc.length cv, .int .i64 z2] 43) none).trans (drew_grown _ none)) (fun g e => by cases e)).more (by show wz.heap.size ≤ (wz.alloc _).heap.size; simp))
              have HSW : Hid (w.heap.size ≤ wy.heap.size) := hide HWY.out.size
              clear hwy
              refine apRl_wp (.tmp 80) (.tmp 82) _ rfl Tryz.underlying24 B w.heap.size _ ({ S' with s := { S'.s with ts := ts2 } } : St).rs rfl A0.out.r _ _ (⟨lf, acc, z2⟩, Av, cv) rfl HZC.out ⟨HROW.out.1, HROW.out.2.1, HRW.out⟩ (Nat.le_trans HRSL.out (by decide)) (Nat.le_trans hB HSW.out) HSW.out ?_
              intro v8 w8 ho8 hg8
              have A1 := hide ((A0.out.more (Nat.le_trans HSW.out hg8.size)).r_put ho8 hg8)
              obtain ⟨A8, c8, rfl, _, _⟩ := ownrl_form ho8
              have HQ8 : Hid (w8.heap[w.heap.size + 1]? = wz.heap[w.heap.size + 1]?) := hide ((hg8.block (w.heap.size + 1) (by have := (Array.getElem?_eq_some_iff.1 (HQY.out.trans HPZ.out.qb)).1; exact this) (fun e => by
                obtain ⟨_, _, _, h3, _⟩ := A0.out.r
                have := h3 _ e.symm
                omega)).trans HQY.out)
              have HK8 : Hid (KeepA w w8) := hide (HKY.out.a.trans (by obtain ⟨_, _, h2, _⟩ := A0.out.r; exact KeepA.own h2 hg8 (.inr (.inr rfl))))
              have HW8 : Hid (Below B w w8) := hide (HWY.out.grown hg8 (Nat.le_trans hB HSW.out) (fun k e => by obtain ⟨_, _, h2, _⟩ := A0.out.r; exact (own_holds h2 e).1))
              obtain ⟨n8, hn8⟩ : ∃ n, n = (({ S' with s := { S'.s with ts := ts2 } } : St).rs ++ [(⟨lf, acc, z2⟩ : Gm.Rl)]).length := ⟨_, rfl⟩
              have c28 : w8.cell? ⟨R, 2, none⟩ = some (.slice AR ({ S' with s := { S'.s with ts := ts2 } } : St).rs.length cR) := (A1.out.at 2).1
              have f28 := (A1.out.at 2).2.1
              have hR8 := (A1.out.at 2).2.2
              rw [← hn8] at A1 ⊢
              have HN8 := hide hn8
              clear ho8 hg8 A0 hn8
              refine hKK _ _ ⟨⟨w8, HQ8.out⟩, rfl⟩ (fun x => ∃ y : Calm.OnB (w.heap.size + 1) wz, x = y.1) (fun _ h => h) ⟨⟨w8, HQ8.out⟩, rfl⟩ ?_
              go_frame
              repeat (go_big_quiet_step (fail))
              refine wpQuiet_nil ?_
              intro KK hKK
              rw [if_pos (by rfl)]
              go_wp2_with fail
              have HQ9 := hide (fun u => (Below.heap_setCell w8 ⟨R, 2, none⟩ u (w.heap.size + 1) (by simp only; omega)).trans HQ8.out)
              refine hKK _ _ ⟨⟨w8.setCell ⟨R, 2, none⟩ _, HQ9.out _⟩, rfl⟩ (fun x => ∃ y : Calm.OnB (w.heap.size + 1) wz, x = y.1) (fun _ h => h) ⟨⟨w8.setCell ⟨R, 2, none⟩ _, HQ9.out _⟩, rfl⟩ ?_
              refine wpQuiet_nil ?_
              clear hKK
              go_wp2
              go_ret2
              refine ⟨?_, HW8.out.setCell A1.out.hR _, HK8.out.trans (KeepA.cells (only_set (World.grownBy.refl _ _) 2 _) A1.out.b (.inl rfl))⟩
              rw [HX2.out]
              refine ⟨rfl, ?_, by rw [← HPZ.out.ns.1]; exact HPZ.out.n, HPZ.out.t⟩
              have hS : ({ S with s := { S.s with ts := ({ S' with s := { S'.s with ts := ts2 } } : St).s.ts }, rs := S.rs ++ [⟨Gm.find S.ns pr.l.t, acc, z2⟩] } : St) = { ({ S' with s := { S'.s with ts := ts2 } } : St) with rs := ({ S' with s := { S'.s with ts := ts2 } } : St).rs ++ [⟨lf, acc, z2⟩] } := by
                rw [HPZ.out.ns.2, HLF.out]
                exact congrArg (fun T : St => ({ T with rs := S.rs ++ [⟨Gm.find S.ns pr.l.t, acc, z2⟩] } : St)) (HPZ.out.e ({ S' with s := { S'.s with ts := ts2 } } : St).s.ts)
              rw [size_set]
              show Bld L _ B w8.heap.size R ({ S with s := { S.s with ts := ({ S' with s := { S'.s with ts := ts2 } } : St).s.ts }, rs := S.rs ++ [⟨Gm.find S.ns pr.l.t, acc, z2⟩] } : St)
              rw [hS]
              exact ⟨vT', vN', _, Ms', Mt', ml', tl', ⟨A1.out.set 2 _, HFB.out.so, HFB.out.ko⟩⟩
end Go.Proofs.YtoehbkgdodogkaaGreat
