/- Part of the proofs over this program: Lefts9, Sym9, Prj9, Prod9, BldY. -/
import Derived.Test.YtcgclkndkahgaaaGreatKF
namespace Go.Proofs.YtcgclkndkahgaaaGreat
set_option maxRecDepth 100000
set_option maxHeartbeats 40000000
open Go.RowKit
theorem zah {w:World} {B N R:Nat} {cs:Array Value} {vT vN vR:Value} {ts:List Gm.Tm} {ns:List (List Int)} {rs:List Gm.Rl} (h:WRaw w B N R cs vT vN vR ts ns rs):(∃A c,vT=.slice A ts.length c)∧(∃A c,vN=.slice A ns.length c)∧∃A c,vR=.slice A rs.length c:=by
 obtain⟨qs,_,h2,_⟩:=id h.r
 obtain⟨A1,c1,e1,_⟩:=zab h.t
 obtain⟨A2,c2,e2,_⟩:=zab h.n
 obtain⟨A3,c3,e3,_⟩:=zab h2
 exact⟨⟨A1,c1,e1⟩,⟨A2,c2,e2⟩,⟨A3,c3,e3⟩⟩
theorem WRaw.drew9 {w:World} {B N R:Nat} {cs:Array Value} {vT vN vR:Value} {ts:List Gm.Tm} {ns:List (List Int)} {rs:List Gm.Rl} (h:WRaw w B N R cs vT vN vR ts ns rs):WRaw w.drew B N R cs vT vN vR ts ns rs:=h.below (aB (Below.refl _ _) 1)
theorem zcj {w:World} {B N R:Nat} {vT vN vR:Value} {lv:Int} {ts:List Gm.Tm} {ns:List (List Int)} {rs:List Gm.Rl} {s:List Int} (hf:Gm.Fit ⟨ts,ns,rs,0⟩) (hs:K.Tx s) (h:WRaw w B N R (wC vT vN vR lv) vT vN vR ts ns rs) (hN:N≤w.heap.size) :
  Calls Tryz.prog 55 #[.agg #[vT,vN,vR,.int .i64 0],.string (K.str s)] w fun e w'=>e=.returned (.int .i64 (Gm.find (Gm.names ts) s))∧Below w.heap.size w w' :=
 zba _ ⟨ts,ns,rs,0⟩ s _ w (h.rd hN 0) hf hs (Nat.le_refl _)
theorem zbR {w:World} {B N R:Nat} {vT vN vR:Value} {lv:Int} {ts:List Gm.Tm} {ns:List (List Int)} {rs:List Gm.Rl} {s:List Int} (hf:Gm.Fit ⟨ts,ns,rs,0⟩) (hs:K.Tx s) (h:WRaw w B N R (wC vT vN vR lv) vT vN vR ts ns rs) (hN:N≤w.heap.size) :
  Calls Tryz.prog 58 #[.agg #[vT,vN,vR,.int .i64 0],.string (K.str s)] w fun e w'=>e=.returned (.int .i64 (Gm.find ns s))∧Below w.heap.size w w' :=
 zdN _ ⟨ts,ns,rs,0⟩ s _ w (h.rd hN 0) hf hs (Nat.le_refl _)
theorem Fit.left {ts:List Gm.Tm} {ns ns':List (List Int)} {rs:List Gm.Rl} {x:Tok} (h:Gm.Fit ⟨ts,ns,rs,0⟩) (hx:K.Tx x.t) (hp:Gm.left1 ts ns x=.ok ns'):Gm.Fit ⟨ts,ns',rs,0⟩:=by
 rcases Gm.left1_ok hp with⟨rfl,_⟩|⟨rfl,_,_,_⟩
 ·exact h
 ·refine⟨h.t,fun y hy=>?_,h.r,h.s⟩
  rcases List.mem_append.1 hy with q|q
  ·exact h.n y q
  ·simp at q;subst q;exact hx
theorem zdv {ts:List Gm.Tm} {ns ns':List (List Int)} {x:Tok} (h:Gm.left1 ts ns x=.ok ns'):Gm.find (Gm.names ts) x.t<0∧((0≤Gm.find ns x.t∧ns'=ns)∨(Gm.find ns x.t<0∧ns.length≠16∧ns'=ns++[x.t])):=by
 unfold Gm.left1 at h
 split at h
 ·cases h
 ·rename_i h0
  refine⟨by omega,?_⟩
  split at h
  ·rename_i h1;injection h with h;exact .inl ⟨h1,h.symm⟩
  ·rename_i h1
   split at h
   ·cases h
   ·rename_i h2;injection h with h;exact .inr ⟨by omega,h2,h.symm⟩
theorem zhv (L:List Int) (B N R:Nat) (ts:List Gm.Tm) (rs:List Gm.Rl) (ps:List Y.Prd) (ns0 ns2:List (List Int)) (lv:Int) (A:Option Addr) (c:Nat) (w:World) (hw:Wk w B N R ts ns0 rs lv) (hf:Gm.Fit ⟨ts,ns0,rs,0⟩) (hx:∀p∈ps,K.Tx p.l.t∧T.isName p.l.t=true) (hr:zhf L w B A ps)
  (hN:N≤w.heap.size) (hB:B≤w.heap.size) (h16:ns0.length≤16) (hlen:ps.length≤1000) (hp:Gm.lefts ts ns0 ps=.ok ns2) :
  Calls Tryz.prog 63 #[.pointer (some ⟨R,0,none⟩),.slice A ps.length c] w fun e w'=>e=.returned (.tuple #[])∧(Wk w' B N R ts ns2 rs lv∧Gm.Fit ⟨ts,ns2,rs,0⟩∧ns2.length≤16)∧Below B w w'∧KpA w w':=by
 have SC:=fun a w m X Y=>show(store a (.complex .f64 X Y) m).run Tryz.prog w=stored Tryz.prog w a (.complex .f64 X Y) m from run_store _ w a _ m rfl
 have HR:=aA hr
 have HW0:=aA hw
 have HF0:=aA hf
 have H160:=aA h16
 have HP:=aA hp
 have HKX:=aA (fun(i:Nat) (hi:i<ps.length)=>hx _ (List.getElem_mem hi))
 clear hr hw hf hp hx h16
 go_enter Tryz.func63,Tryz.ntmps63
 go_wp2
 go_loopw [4] (fun vi wr=>∃(i:Nat) (ns:List (List Int)),i≤ps.length∧vi=.int .i64 i∧Hid (Gm.lefts ts ns (ps.drop i)=.ok ns2)∧Hid (Gm.Fit ⟨ts,ns,rs,0⟩)∧Hid (ns.length≤16)∧Hid (Wk wr B N R ts ns rs lv)∧Hid (Below B w wr)∧Hid (KpA w wr)) (fun vi _=>ps.length-(intOf vi).toNat)
 case atStart=>exact⟨0,ns0,Nat.zero_le _,rfl,HP,HF0,H160,HW0,aA (Below.refl _ _),aA (KpA.refl _)⟩
 case round =>
  obtain⟨i,ns,hi,rfl,HE,HF,H16,HW,HBW,HKT⟩:=hrel
  obtain⟨vT,vN,vR,hwr⟩:=HW.out
  obtain⟨⟨AT,cT,rfl⟩,⟨AN,cN,rfl⟩,⟨AR,cR,rfl⟩⟩:=zah hwr
  have HRW:=aA hwr
  obtain⟨f10,_,hRw⟩:=hwr.at 10
  simp only[wC,List.getElem?_toArray,List.getElem?_cons_zero,List.getElem?_cons_succ]at f10
  clear hwr
  by_cases hlt:i<ps.length
  ·obtain⟨g,o,rfl,hgB,hc⟩:=HR.out (by omega)
   have k0:=(HBW.out.cell (p:=⟨g,o+i*5,none⟩) hgB).trans (hc i hlt).1
   have k1:=(HBW.out.cell (p:=⟨g,o+i*5+1,none⟩) hgB).trans (hc i hlt).2.1
   have hBs:=HBW.out.size
   have hgs:g<wr.heap.size:=by omega
   have hBr:B≤wr.heap.size:=by omega
   obtain⟨hx1,hx2⟩:=HKX.out i hlt
   have hE:=HE.out
   rw[zei hlt]at hE
   obtain⟨ns1,h1,h2⟩:=Gm.R.bind_eq hE
   have HN1:=aA h2
   have HF1:=aA (Fit.left HF.out hx1 h1)
   have H161:=aA (zfi h1 H16.out)
   obtain⟨hz,hcase⟩:=zdv h1
   have HTM:=aA (fun(y:World) (lv':Int) (h:WRaw y B N R (wC (.slice AT ts.length cT) (.slice AN ns.length cN) (.slice AR rs.length cR) lv') (.slice AT ts.length cT) (.slice AN ns.length cN) (.slice AR rs.length cR) ts ns rs) (hy:N≤y.heap.size)=>zcj HF.out hx1 h hy)
   have HNO:=aA (fun(y:World) (lv':Int) (h:WRaw y B N R (wC (.slice AT ts.length cT) (.slice AN ns.length cN) (.slice AR rs.length cR) lv') (.slice AT ts.length cT) (.slice AN ns.length cN) (.slice AR rs.length cR) ts ns rs) (hy:N≤y.heap.size)=>zbR HF.out hx1 h hy)
   have HNM:=aA (fun(y:World)=>zbF ps[i].l.t hx1.1 y)
   rw[hx2]at HNM
   have HCA:=aA hcase
   clear hc hE h1 h2 hx1 hx2 hcase
   generalize ps[i].l=x at *
   generalize rfX L x=X at *
   generalize rfY L x=Y at *
   obtain⟨w1,hw1⟩:∃y,y=wr.alloc (.cells #[.string (K.str x.t),.complex .f64 X Y] 94):=⟨_,rfl⟩
   have HB01:Hid (Below wr.heap.size wr w1):=aA (by rw[hw1];exact(Below.refl _ _).alloc (Nat.le_refl _) _)
   have HDw1:Hid (w1.heap[wr.heap.size]?=some (.cells #[.string (K.str x.t),.complex .f64 X Y] 94 (0,0))):=aA (by rw[hw1];exact heap_alloc_new wr _)
   have HQw1:=aA (HRW.out.below HB01.out)
   have HNw1:Hid (N≤w1.heap.size):=aA (by have:=HB01.out.size;omega)
   generalize hsx:K.str x.t=sx at *
   have HSX:=aA hsx
   clear hsx
   go_wp2_with fail
   try rw[←hw1]
   clear hw1 f10 k0 k1
   refine(HNM.out _).mono ?_;rintro _ _ ⟨rfl,rfl⟩
   go_wp2_with fail
   obtain⟨p0,_,hRs⟩:=HQw1.out.at 0
   have p1:=(HQw1.out.at 1).1
   have p2:=(HQw1.out.at 2).1
   have p3:=(HQw1.out.at 3).1
   simp only[wC,List.getElem?_toArray,List.getElem?_cons_zero,List.getElem?_cons_succ]at p0 p1 p2 p3
   have hDs:wr.heap.size<w1.heap.size:=(Array.getElem?_eq_some_iff.1 HDw1.out).1
   have t0:w1.cell? ⟨wr.heap.size,0,none⟩=some (.string sx):=by rw[cell_of_row w1 _ 0 _ _ _ HDw1.out];rfl
   have Q0:=fun y:Calm.On w1.heap.size w1=>(y.2.cell (p:=⟨R,0,none⟩) hRs).trans p0
   have Q1:=fun y:Calm.On w1.heap.size w1=>(y.2.cell (p:=⟨R,1,none⟩) hRs).trans p1
   have Q2:=fun y:Calm.On w1.heap.size w1=>(y.2.cell (p:=⟨R,2,none⟩) hRs).trans p2
   have Q3:=fun y:Calm.On w1.heap.size w1=>(y.2.cell (p:=⟨R,3,none⟩) hRs).trans p3
   have Q4:=fun y:Calm.On w1.heap.size w1=>(y.2.cell (p:=⟨wr.heap.size,0,none⟩) hDs).trans t0
   refine CalmN.region_tree (fun x=>∃y:Calm.On w1.heap.size w1,x=y.1) (.one [0,1,2,3,4,5] 6 (.fin [7,8])) (by kernel_rfl) (by kernel_rfl) (fun _ _ d _ _ h=>by cases d <;> exact h) ⟨⟨w1.drew,aB (Below.refl _ _) 1⟩,rfl⟩ ?_
   simp only[CalmN.wpT,CalmN.wpSt,CalmN.pickOps,List.getElem?_toArray,List.getElem?_cons_zero,List.getElem?_cons_succ]
   repeat (go_big_quiet_step (fail))
   refine wpQuiet_nil ?_
   clear Q0 Q1 Q2 Q3 Q4 p0 p1 p2 p3 t0
   intro KK hKK
   rw[if_pos (by rfl)]
   go_wp2_with fail
   refine(HTM.out w1.drew _ HQw1.out.drew9 HNw1.out).mono ?_;rintro _ w2 ⟨rfl,hb2⟩
   have hb12:Below w1.heap.size w1 w2:=(aB (Below.refl w1.heap.size w1) 1).trans hb2
   have HBw2:=aA hb12
   have HQw2:=aA (HQw1.out.below hb12)
   have HDw2:=aA ((hb12.block _ hDs).trans HDw1.out)
   have HNw2:=aA (Nat.le_trans HNw1.out hb12.size)
   clear hb2 hb12
   go_wp2_with fail
   refine hKK _ _ ⟨⟨w2,HBw2.out⟩,rfl⟩ (fun x=>∃y:Calm.On w1.heap.size w1,x=y.1) (fun _ h=>h) ⟨⟨w2,HBw2.out⟩,rfl⟩ ?_
   repeat (go_big_quiet_step (fail))
   refine wpQuiet_nil ?_
   clear hKK hDs hRs
   have hz0:¬(0:Int)≤Gm.find (Gm.names ts) x.t:=by omega
   clear hz
   generalize Gm.find (Gm.names ts) x.t=z at *
   go_wp2_with fail
   obtain⟨p0,_,hRs⟩:=HQw2.out.at 0
   have p1:=(HQw2.out.at 1).1
   have p2:=(HQw2.out.at 2).1
   have p3:=(HQw2.out.at 3).1
   simp only[wC,List.getElem?_toArray,List.getElem?_cons_zero,List.getElem?_cons_succ]at p0 p1 p2 p3
   have hDs:wr.heap.size<w2.heap.size:=(Array.getElem?_eq_some_iff.1 HDw2.out).1
   have t0:w2.cell? ⟨wr.heap.size,0,none⟩=some (.string sx):=by rw[cell_of_row w2 _ 0 _ _ _ HDw2.out];rfl
   have Q0:=fun y:Calm.On w2.heap.size w2=>(y.2.cell (p:=⟨R,0,none⟩) hRs).trans p0
   have Q1:=fun y:Calm.On w2.heap.size w2=>(y.2.cell (p:=⟨R,1,none⟩) hRs).trans p1
   have Q2:=fun y:Calm.On w2.heap.size w2=>(y.2.cell (p:=⟨R,2,none⟩) hRs).trans p2
   have Q3:=fun y:Calm.On w2.heap.size w2=>(y.2.cell (p:=⟨R,3,none⟩) hRs).trans p3
   have Q4:=fun y:Calm.On w2.heap.size w2=>(y.2.cell (p:=⟨wr.heap.size,0,none⟩) hDs).trans t0
   refine CalmN.region_tree (fun x=>∃y:Calm.On w2.heap.size w2,x=y.1) (.one [0,1,2,3,4,5] 6 (.fin [7,8])) (by kernel_rfl) (by kernel_rfl) (fun _ _ d _ _ h=>by cases d <;> exact h) ⟨⟨w2.drew,aB (Below.refl _ _) 1⟩,rfl⟩ ?_
   simp only[CalmN.wpT,CalmN.wpSt,CalmN.pickOps,List.getElem?_toArray,List.getElem?_cons_zero,List.getElem?_cons_succ]
   repeat (go_big_quiet_step (fail))
   refine wpQuiet_nil ?_
   clear Q0 Q1 Q2 Q3 Q4 p0 p1 p2 p3 t0
   intro KK hKK
   rw[if_pos (by rfl)]
   go_wp2_with fail
   refine(HNO.out w2.drew _ HQw2.out.drew9 HNw2.out).mono ?_;rintro _ w3 ⟨rfl,hb2⟩
   have hb12:Below w2.heap.size w2 w3:=(aB (Below.refl w2.heap.size w2) 1).trans hb2
   have HBw3:=aA hb12
   have HQw3:=aA (HQw2.out.below hb12)
   have HDw3:=aA ((hb12.block _ hDs).trans HDw2.out)
   have HNw3:=aA (Nat.le_trans HNw2.out hb12.size)
   clear hb2 hb12
   go_wp2_with fail
   refine hKK _ _ ⟨⟨w3,HBw3.out⟩,rfl⟩ (fun x=>∃y:Calm.On w2.heap.size w2,x=y.1) (fun _ h=>h) ⟨⟨w3,HBw3.out⟩,rfl⟩ ?_
   repeat (go_big_quiet_step (fail))
   refine wpQuiet_nil ?_
   clear hKK hDs hRs
   have HBK:=aA (KpA.below (((HB01.out.trans (HBw2.out.mono HB01.out.size)).trans (HBw3.out.mono (Nat.le_trans HB01.out.size HBw2.out.size)))))
   have HBB:=aA (((HB01.out.trans (HBw2.out.mono HB01.out.size)).trans (HBw3.out.mono (Nat.le_trans HB01.out.size HBw2.out.size))).mono hBr)
   rcases HCA.out with⟨h0,e⟩|⟨h0,hl16,e⟩
   ·have HNE:=aA e
    clear e
    generalize Gm.find ns x.t=z2 at *
    go_wp2
    go_roundw
    case rel=>exact⟨i+1,ns,hlt,by go_num,by rw[←HNE.out];exact HN1,HF,H16,aA ⟨_,_,_,HQw3.out⟩,aA (HBW.out.trans HBB.out),aA (HKT.out.trans HBK.out)⟩
    case measure=>simp[intOf];omega
   have HNE:=aA e
   clear e
   have h0':¬(0:Int)≤Gm.find ns x.t:=by omega
   generalize Gm.find ns x.t=z2 at *
   have hl16':((ns.length:Int)==16)=false:=beq_eq_false_iff_ne.2 (by omega)
   obtain⟨k1,hf1,_⟩:=HQw3.out.at 1
   simp only[wC,List.getElem?_toArray,List.getElem?_cons_zero,List.getElem?_cons_succ]at k1
   go_wp2_with fail
   have HO6:=aA ((HQw3.out.alloc (.cells #[.string sx] 9)).n)
   have HB6:Hid (B≤(w3.alloc (.cells #[.string sx] 9)).drew.heap.size):=aA (by have:=HBw3.out.size;have:=HBw2.out.size;have:=HB01.out.size;simp;omega)
   have HCE:Hid ((w3.alloc (.cells #[.string sx] 9)).drew.cell? ⟨w3.heap.size,0,none⟩=some (.string (K.str x.t))):=aA (by rw[HSX.out];exact aI w3 [.string sx] 9 0)
   have HT6:Hid ((w3.alloc (.cells #[.string sx] 9)).heap[wr.heap.size]?=w3.heap[wr.heap.size]?):=aA (((Below.refl _ w3).alloc (Nat.le_refl _) _).block _ (Array.getElem?_eq_some_iff.1 HDw3.out).1)
   have D8:=fun y:Calm.OnB wr.heap.size w3=>(show y.1.cell? ⟨wr.heap.size,0,none⟩=some (.string sx) by rw[cell_of_row y.1 _ 0 _ _ _ (y.2.trans HDw3.out)];rfl)
   refine CalmN.region_tree (fun y=>∃z:Calm.OnB wr.heap.size w3,y=z.1) (.two [0,1,2,3,4,6,7] 5 (.one [] 8 (.one [] 9 (.one [10,11,12] 13 (.fin [])))) 8 (.one [] 5 (.one [] 9 (.one [10,11,12] 13 (.fin []))))) (by kernel_rfl) (by kernel_rfl) (fun _ _ d _ _ h=>by cases d <;> exact h) ⟨⟨w3.drew,rfl⟩,rfl⟩ ?_
   simp only[CalmN.wpT,CalmN.wpSt,CalmN.pickOps,List.getElem?_toArray,List.getElem?_cons_zero,List.getElem?_cons_succ]
   repeat (go_big_quiet_step (fail))
   refine wpQuiet_nil ?_
   clear D8
   refine⟨?_,?_⟩
   ·intro KK hKK
    rw[if_pos (by rfl)]
    go_wp2_with fail
    refine hKK _ _ ⟨⟨w3.drew,rfl⟩,rfl⟩ (fun y=>∃z:Calm.OnB wr.heap.size w3,y=z.1) (fun _ h=>h) ⟨⟨w3.drew,rfl⟩,rfl⟩ ?_
    refine wpQuiet_nil ?_
    intro KK hKK
    try rw[if_pos (by rfl)]
    go_wp2_with fail
    refine hKK _ _ ⟨⟨(w3.alloc (.cells #[.string sx] 9)).drew,HT6.out⟩,rfl⟩ (fun y=>∃z:Calm.OnB wr.heap.size w3,y=z.1) (fun _ h=>h) ⟨⟨(w3.alloc (.cells #[.string sx] 9)).drew,HT6.out⟩,rfl⟩ ?_
    refine wpQuiet_nil ?_
    intro KK hKK
    try rw[if_pos (by rfl)]
    refine zd5 (w:=(w3.alloc (.cells #[.string sx] 9)).drew) (.tmp 29) (.tmp 32) _ rfl Tryz.underlying23 B (.slice AN ns.length cN) ns rfl HO6.out _ 1 x.t rfl HCE.out (by have:=H16.out;omega) HB6.out ?_
    intro v7 w7 ho7 hg7' _
    have hg7:=(aG (w3.alloc (.cells #[.string sx] 9)) _).trans hg7'
    obtain⟨A7,c7,hv7,_,_⟩:=zab ho7
    rw[show(ns++[x.t]).length=ns.length+1 by simp]at hv7
    subst hv7
    have hW7:=(HQw3.out.alloc (.cells #[.string sx] 9)).n_put ho7 hg7
    have HW7:=aA hW7
    obtain⟨k7,hf7,hR7⟩:=hW7.at 1
    simp only[wC,List.getElem?_toArray,List.getElem?_cons_zero,List.getElem?_cons_succ]at k7
    have hb4:Below w3.heap.size w3 (w3.alloc (.cells #[.string sx] 9)):=(Below.refl _ w3).alloc (Nat.le_refl _) (.cells #[.string sx] 9)
    have HK7:=aA ((KpA.below hb4).trans (KpA.own (HQw3.out.alloc (.cells #[.string sx] 9)).n hg7 (.inr (.inl rfl))))
    have HT7:Hid (w7.heap[wr.heap.size]?=w3.heap[wr.heap.size]?):=aA ((HK7.out _ _ _ HDw3.out (by decide) (by decide) (by decide) (by decide)).trans HDw3.out.symm)
    have HB7:=aA ((HBB.out.alloc (by have:=HB6.out;have:=HBB.out.size;omega) (.cells #[.string sx] 9)).grown hg7 (by have:=HB6.out;simpa using this) (fun k e=>(aH HQw3.out.n e).1))
    clear ho7 hg7 hg7' hW7 hb4
    go_wp2_with fail
    refine hKK _ _ ⟨⟨w7,HT7.out⟩,rfl⟩ (fun y=>∃z:Calm.OnB wr.heap.size w3,y=z.1) (fun _ h=>h) ⟨⟨w7,HT7.out⟩,rfl⟩ ?_
    repeat (go_big_quiet_step (fail))
    refine wpQuiet_nil ?_
    intro KK hKK
    try rw[if_pos (by rfl)]
    go_wp2_with fail
    have HW8:=aA (HW7.out.set 1 (.slice A7 (ns.length+1) c7))
    have HK8:=aA (HK7.out.trans (KpT.set HW7.out 1 (.slice A7 (ns.length+1) c7)).a)
    have HB8:=aA (HB7.out.setCell (p:=⟨R,1,none⟩) HW7.out.hR (.slice A7 (ns.length+1) c7))
    have HT8:Hid ((w7.setCell ⟨R,1,none⟩ (.slice A7 (ns.length+1) c7)).heap[wr.heap.size]?=w3.heap[wr.heap.size]?):=aA ((HK8.out _ _ _ HDw3.out (by decide) (by decide) (by decide) (by decide)).trans HDw3.out.symm)
    refine hKK _ _ ⟨⟨_,HT8.out⟩,rfl⟩ (fun y=>∃z:Calm.OnB wr.heap.size w3,y=z.1) (fun _ h=>h) ⟨⟨_,HT8.out⟩,rfl⟩ ?_
    refine wpQuiet_nil ?_
    clear k7 hf7
    go_wp2
    go_roundw
    case rel=>exact⟨i+1,ns++[x.t],hlt,by go_num,by rw[←HNE.out];exact HN1,by rw[←HNE.out];exact HF1,by rw[←HNE.out];exact H161,aA ⟨_,_,_,HW8.out⟩,aA (HBW.out.trans HB8.out),aA ((HKT.out.trans HBK.out).trans HK8.out)⟩
    case measure=>simp[intOf];omega
   ·intro KK hKK
    rw[if_pos (by rfl)]
    go_wp2_with fail
    refine hKK _ _ ⟨⟨(w3.alloc (.cells #[.string sx] 9)).drew,HT6.out⟩,rfl⟩ (fun y=>∃z:Calm.OnB wr.heap.size w3,y=z.1) (fun _ h=>h) ⟨⟨(w3.alloc (.cells #[.string sx] 9)).drew,HT6.out⟩,rfl⟩ ?_
    refine wpQuiet_nil ?_
    intro KK hKK
    try rw[if_pos (by rfl)]
    go_wp2_with fail
    refine hKK _ _ ⟨⟨(w3.alloc (.cells #[.string sx] 9)).drew,HT6.out⟩,rfl⟩ (fun y=>∃z:Calm.OnB wr.heap.size w3,y=z.1) (fun _ h=>h) ⟨⟨(w3.alloc (.cells #[.string sx] 9)).drew,HT6.out⟩,rfl⟩ ?_
    refine wpQuiet_nil ?_
    intro KK hKK
    try rw[if_pos (by rfl)]
    refine zd5 (w:=(w3.alloc (.cells #[.string sx] 9)).drew) (.tmp 29) (.tmp 32) _ rfl Tryz.underlying23 B (.slice AN ns.length cN) ns rfl HO6.out _ 1 x.t rfl HCE.out (by have:=H16.out;omega) HB6.out ?_
    intro v7 w7 ho7 hg7' _
    have hg7:=(aG (w3.alloc (.cells #[.string sx] 9)) _).trans hg7'
    obtain⟨A7,c7,hv7,_,_⟩:=zab ho7
    rw[show(ns++[x.t]).length=ns.length+1 by simp]at hv7
    subst hv7
    have hW7:=(HQw3.out.alloc (.cells #[.string sx] 9)).n_put ho7 hg7
    have HW7:=aA hW7
    obtain⟨k7,hf7,hR7⟩:=hW7.at 1
    simp only[wC,List.getElem?_toArray,List.getElem?_cons_zero,List.getElem?_cons_succ]at k7
    have hb4:Below w3.heap.size w3 (w3.alloc (.cells #[.string sx] 9)):=(Below.refl _ w3).alloc (Nat.le_refl _) (.cells #[.string sx] 9)
    have HK7:=aA ((KpA.below hb4).trans (KpA.own (HQw3.out.alloc (.cells #[.string sx] 9)).n hg7 (.inr (.inl rfl))))
    have HT7:Hid (w7.heap[wr.heap.size]?=w3.heap[wr.heap.size]?):=aA ((HK7.out _ _ _ HDw3.out (by decide) (by decide) (by decide) (by decide)).trans HDw3.out.symm)
    have HB7:=aA ((HBB.out.alloc (by have:=HB6.out;have:=HBB.out.size;omega) (.cells #[.string sx] 9)).grown hg7 (by have:=HB6.out;simpa using this) (fun k e=>(aH HQw3.out.n e).1))
    clear ho7 hg7 hg7' hW7 hb4
    go_wp2_with fail
    refine hKK _ _ ⟨⟨w7,HT7.out⟩,rfl⟩ (fun y=>∃z:Calm.OnB wr.heap.size w3,y=z.1) (fun _ h=>h) ⟨⟨w7,HT7.out⟩,rfl⟩ ?_
    repeat (go_big_quiet_step (fail))
    refine wpQuiet_nil ?_
    intro KK hKK
    try rw[if_pos (by rfl)]
    go_wp2_with fail
    have HW8:=aA (HW7.out.set 1 (.slice A7 (ns.length+1) c7))
    have HK8:=aA (HK7.out.trans (KpT.set HW7.out 1 (.slice A7 (ns.length+1) c7)).a)
    have HB8:=aA (HB7.out.setCell (p:=⟨R,1,none⟩) HW7.out.hR (.slice A7 (ns.length+1) c7))
    have HT8:Hid ((w7.setCell ⟨R,1,none⟩ (.slice A7 (ns.length+1) c7)).heap[wr.heap.size]?=w3.heap[wr.heap.size]?):=aA ((HK8.out _ _ _ HDw3.out (by decide) (by decide) (by decide) (by decide)).trans HDw3.out.symm)
    refine hKK _ _ ⟨⟨_,HT8.out⟩,rfl⟩ (fun y=>∃z:Calm.OnB wr.heap.size w3,y=z.1) (fun _ h=>h) ⟨⟨_,HT8.out⟩,rfl⟩ ?_
    refine wpQuiet_nil ?_
    clear k7 hf7
    go_wp2
    go_roundw
    case rel=>exact⟨i+1,ns++[x.t],hlt,by go_num,by rw[←HNE.out];exact HN1,by rw[←HNE.out];exact HF1,by rw[←HNE.out];exact H161,aA ⟨_,_,_,HW8.out⟩,aA (HBW.out.trans HB8.out),aA ((HKT.out.trans HBK.out).trans HK8.out)⟩
    case measure=>simp[intOf];omega
  ·obtain rfl:i=ps.length:=by omega
   have hE:=HE.out
   rw[zfh (Nat.le_refl _)]at hE
   injection hE with hE
   subst hE
   go_wp2
   go_end0
   exact⟨rfl,⟨HW.out,HF.out,H16.out⟩,HBW.out,HKT.out⟩
theorem zeH {ts ts':List Gm.Tm} {x:Tok} {n:Int} (h:Gm.sym ts x=.ok (ts',n)) (he:x.t≠[101,114,114,111,114]):Gm.put ts x=.ok (ts',n)∧(0≤Gm.find (Gm.names ts) x.t∨(Gm.find (Gm.names ts) x.t<0∧T.isLit x.t=true)):=by
 unfold Gm.sym at h
 split at h
 ·rename_i q
  refine⟨h,?_⟩
  rcases q with q|q|q
  ·exact .inl q
  ·by_cases h0:0≤Gm.find (Gm.names ts) x.t
   ·exact .inl h0
   ·exact .inr ⟨by omega,q⟩
  ·exact absurd q he
 ·cases h
theorem zct (L:List Int) (B N R:Nat) (ts ts':List Gm.Tm) (ns:List (List Int)) (rs:List Gm.Rl) (lv n:Int) (x:Tok) (may:Bool) (w:World) (hw:Wk w B N R ts ns rs lv) (hf:Gm.Fit ⟨ts,ns,rs,0⟩) (hx:K.Tx x.t) (he:x.t≠[101,114,114,111,114]) (hN:N≤w.heap.size) (hB:B≤w.heap.size) (hlo:(0≤Gm.find ns x.t∧may=true∧ts'=ts∧n = -1-Gm.find ns x.t)∨(Gm.find ns x.t<0∧Gm.sym ts x=.ok (ts',n))) (h24:ts.length≤24) (h16:ns.length≤16) :
  Calls Tryz.prog 84 #[.pointer (some ⟨R,0,none⟩),aY L x,.bool may] w fun e w'=>e=.returned (.int .i64 n)∧Wk w' B N R ts' ns rs lv∧Below B w w'∧KpT w w':=by
 have HW:=aA hw
 obtain⟨vT,vN,vR,hwr⟩:=HW.out
 obtain⟨⟨AT,cT,rfl⟩,⟨AN,cN,rfl⟩,⟨AR,cR,rfl⟩⟩:=zah hwr
 have HRW:=aA hwr
 have HF:=aA hf
 have HX:=aA hx
 have hRw:=hwr.lt
 clear hwr
 have HTM:=aA (fun(y:World) (lv':Int) (h:WRaw y B N R (wC (.slice AT ts.length cT) (.slice AN ns.length cN) (.slice AR rs.length cR) lv') (.slice AT ts.length cT) (.slice AN ns.length cN) (.slice AR rs.length cR) ts ns rs) (hy:N≤y.heap.size)=>zcj hf hx h hy)
 have HNO:=aA (fun(y:World) (lv':Int) (h:WRaw y B N R (wC (.slice AT ts.length cT) (.slice AN ns.length cN) (.slice AR rs.length cR) lv') (.slice AT ts.length cT) (.slice AN ns.length cN) (.slice AR rs.length cR) ts ns rs) (hy:N≤y.heap.size)=>zbR hf hx h hy)
 have HLT:=aA (fun(y:World)=>zcv x.t hx.1 y)
 have HTE:=aA (fun(hp:Gm.put ts x=.ok (ts',n)) (y:World) (h:Wk y B N R ts ns rs lv) (hy:N≤y.heap.size) (hz:B≤y.heap.size)=>zcN L B N R ts ts' ns rs lv n x y h hf hx hy hz hp h24)
 have HSY:=aA (fun h=>zeH (ts:=ts) (ts':=ts') (x:=x) (n:=n) h he)
 unfold aY at HTE ⊢
 have hBr:=hB
 generalize Fl.fl (Pl.pos (L.take x.o)).1=X at *
 generalize Fl.fl (Pl.pos (L.take x.o)).2=Y at *
 obtain⟨w1,hw1⟩:∃y,y=w.alloc (.cells #[.string (K.str x.t),.complex .f64 X Y] 94):=⟨_,rfl⟩
 have HB01:Hid (Below w.heap.size w w1):=aA (by rw[hw1];exact(Below.refl _ _).alloc (Nat.le_refl _) _)
 have HDw1:Hid (w1.heap[w.heap.size]?=some (.cells #[.string (K.str x.t),.complex .f64 X Y] 94 (0,0))):=aA (by rw[hw1];exact heap_alloc_new w _)
 have HQw1:=aA (HRW.out.below HB01.out)
 have HNw1:Hid (N≤w1.heap.size):=aA (by have:=HB01.out.size;omega)
 generalize K.str x.t=sx at *
 have HLO:=aA hlo
 clear hlo hf hx hw
 go_enter Tryz.func84,Tryz.ntmps84
 go_wp2_with fail
 try rw[←hw1]
 clear hw1
 obtain⟨p0,_,hRs⟩:=HQw1.out.at 0
 have p1:=(HQw1.out.at 1).1
 have p2:=(HQw1.out.at 2).1
 have p3:=(HQw1.out.at 3).1
 simp only[wC,List.getElem?_toArray,List.getElem?_cons_zero,List.getElem?_cons_succ]at p0 p1 p2 p3
 have hDs:w.heap.size<w1.heap.size:=(Array.getElem?_eq_some_iff.1 HDw1.out).1
 have t0:w1.cell? ⟨w.heap.size,0,none⟩=some (.string sx):=by rw[cell_of_row w1 _ 0 _ _ _ HDw1.out];rfl
 have Q0:=fun y:Calm.On w1.heap.size w1=>(y.2.cell (p:=⟨R,0,none⟩) hRs).trans p0
 have Q1:=fun y:Calm.On w1.heap.size w1=>(y.2.cell (p:=⟨R,1,none⟩) hRs).trans p1
 have Q2:=fun y:Calm.On w1.heap.size w1=>(y.2.cell (p:=⟨R,2,none⟩) hRs).trans p2
 have Q3:=fun y:Calm.On w1.heap.size w1=>(y.2.cell (p:=⟨R,3,none⟩) hRs).trans p3
 have Q4:=fun y:Calm.On w1.heap.size w1=>(y.2.cell (p:=⟨w.heap.size,0,none⟩) hDs).trans t0
 refine CalmN.region_tree (fun x=>∃y:Calm.On w1.heap.size w1,x=y.1) (.one [0,1,2,3,4,5] 6 (.fin [7])) (by kernel_rfl) (by kernel_rfl) (fun _ _ d _ _ h=>by cases d <;> exact h) ⟨⟨w1.drew,aB (Below.refl _ _) 1⟩,rfl⟩ ?_
 simp only[CalmN.wpT,CalmN.wpSt,CalmN.pickOps,List.getElem?_toArray,List.getElem?_cons_zero,List.getElem?_cons_succ]
 repeat (go_big_quiet_step (fail))
 refine wpQuiet_nil ?_
 clear Q0 Q1 Q2 Q3 Q4 p0 p1 p2 p3 t0
 intro KK hKK
 rw[if_pos (by rfl)]
 go_wp2_with fail
 refine(HNO.out w1.drew _ HQw1.out.drew9 HNw1.out).mono ?_;rintro _ w2 ⟨rfl,hb2⟩
 have hb12:Below w1.heap.size w1 w2:=(aB (Below.refl w1.heap.size w1) 1).trans hb2
 have HBw2:=aA hb12
 have HQw2:=aA (HQw1.out.below hb12)
 have HDw2:=aA ((hb12.block _ hDs).trans HDw1.out)
 have HNw2:=aA (Nat.le_trans HNw1.out hb12.size)
 clear hb2 hb12
 go_wp2_with fail
 refine hKK _ _ ⟨⟨w2,HBw2.out⟩,rfl⟩ (fun x=>∃y:Calm.On w1.heap.size w1,x=y.1) (fun _ h=>h) ⟨⟨w2,HBw2.out⟩,rfl⟩ ?_
 repeat (go_big_quiet_step (fail))
 refine wpQuiet_nil ?_
 clear hKK hDs hRs
 have HB2:=aA (HB01.out.trans (HBw2.out.mono HB01.out.size))
 rcases HLO.out with⟨h0,h1,h2,h3⟩|⟨h0,hsy⟩
 ·subst h1
  have HEQ:=aA (And.intro h2 h3)
  clear h2 h3
  have hzl:=Gm.find_lt ns x.t
  generalize Gm.find ns x.t=z at *
  have hwr:wrap64 (-1-z) = -1-z:=by unfold wrap64;omega
  go_wp2
  go_ret
  exact⟨by rw[HEQ.out.2];simp,by rw[HEQ.out.1];exact⟨_,_,_,HQw2.out⟩,HB2.out.mono hB,KpT.below HB2.out⟩
 ·obtain⟨hput,hc⟩:=HSY.out hsy
  have h0':¬(0:Int)≤Gm.find ns x.t:=by omega
  have HTP:=aA (HTE.out hput)
  clear hsy hput HTE HLO HSY
  generalize Gm.find ns x.t=z at *
  have hmz:(decide (0≤z)&&may)=false:=by simp[h0']
  go_wp2_with fail
  obtain⟨p0,_,hRs⟩:=HQw2.out.at 0
  have p1:=(HQw2.out.at 1).1
  have p2:=(HQw2.out.at 2).1
  have p3:=(HQw2.out.at 3).1
  simp only[wC,List.getElem?_toArray,List.getElem?_cons_zero,List.getElem?_cons_succ]at p0 p1 p2 p3
  have hDs:w.heap.size<w2.heap.size:=(Array.getElem?_eq_some_iff.1 HDw2.out).1
  have u0:w2.cell? ⟨w.heap.size,0,none⟩=some (.string sx):=by rw[cell_of_row w2 _ 0 _ _ _ HDw2.out];rfl
  have Q0:=fun y:Calm.On w2.heap.size w2=>(y.2.cell (p:=⟨R,0,none⟩) hRs).trans p0
  have Q1:=fun y:Calm.On w2.heap.size w2=>(y.2.cell (p:=⟨R,1,none⟩) hRs).trans p1
  have Q2:=fun y:Calm.On w2.heap.size w2=>(y.2.cell (p:=⟨R,2,none⟩) hRs).trans p2
  have Q3:=fun y:Calm.On w2.heap.size w2=>(y.2.cell (p:=⟨R,3,none⟩) hRs).trans p3
  have Q4:=fun y:Calm.On w2.heap.size w2=>(y.2.cell (p:=⟨w.heap.size,0,none⟩) hDs).trans u0
  clear u0
  refine CalmN.region_tree (fun x=>∃y:Calm.On w2.heap.size w2,x=y.1) (.one [0,1,2,3,4,5] 6 (.one [7,8,9,10] 11 (.fin [12,13,14,15,16,17,18]))) (by kernel_rfl) (by kernel_rfl) (fun _ _ d _ _ h=>by cases d <;> exact h) ⟨⟨w2.drew,aB (Below.refl _ _) 1⟩,rfl⟩ ?_
  simp only[CalmN.wpT,CalmN.wpSt,CalmN.pickOps,List.getElem?_toArray,List.getElem?_cons_zero,List.getElem?_cons_succ]
  repeat (go_big_quiet_step (fail))
  refine wpQuiet_nil ?_
  intro KK hKK
  rw[if_pos (by rfl)]
  go_wp2_with fail
  refine(HTM.out w2.drew _ HQw2.out.drew9 HNw2.out).mono ?_;rintro _ w3 ⟨rfl,hb2⟩
  have hb12:Below w2.heap.size w2 w3:=(aB (Below.refl w2.heap.size w2) 1).trans hb2
  have HBw3:=aA hb12
  have HQw3:=aA (HQw2.out.below hb12)
  have HDw3:=aA ((hb12.block _ hDs).trans HDw2.out)
  have HNw3:=aA (Nat.le_trans HNw2.out hb12.size)
  clear hb2 hb12
  go_wp2_with fail
  refine hKK _ _ ⟨⟨w3,HBw3.out⟩,rfl⟩ (fun x=>∃y:Calm.On w2.heap.size w2,x=y.1) (fun _ h=>h) ⟨⟨w3,HBw3.out⟩,rfl⟩ ?_
  have HB3:=aA (HB2.out.trans (HBw3.out.mono HB2.out.size))
  rcases hc with hc|⟨hc,hlit⟩
  ·have hcT:decide (0≤Gm.find (Gm.names ts) x.t)=true:=decide_eq_true hc
   generalize Gm.find (Gm.names ts) x.t=z2 at *
   repeat (go_big_quiet_step (fail))
   refine wpQuiet_nil ?_
   intro KK2 hKK2
   rw[if_neg (by exact(fun h=>absurd (show false=true from h) (by decide)))]
   refine hKK2 _ _ ⟨⟨w3,HBw3.out⟩,rfl⟩ (fun x=>∃y:Calm.On w2.heap.size w2,x=y.1) (fun _ h=>h) ⟨⟨w3,HBw3.out⟩,rfl⟩ ?_
   simp only[Act.put,List.setIfInBounds_toArray,List.set_cons_succ,List.set_cons_zero]
   repeat (go_big_quiet_step (fail))
   refine wpQuiet_nil ?_
   have hDs3:w.heap.size<w3.heap.size:=(Array.getElem?_eq_some_iff.1 HDw3.out).1
   have t0:w3.cell? ⟨w.heap.size,0,none⟩=some (.string sx):=by rw[cell_of_row w3 _ 0 _ _ _ HDw3.out];rfl
   have t1:w3.cell? ⟨w.heap.size,1,none⟩=some (.complex .f64 X Y):=by rw[cell_of_row w3 _ 1 _ _ _ HDw3.out];rfl
   have HC:=aA (HTP.out w3 ⟨_,_,_,HQw3.out⟩ HNw3.out (Nat.le_trans hB HB3.out.size))
   clear Q0 Q1 Q2 Q3 Q4 p0 p1 p2 p3
   go_wp2_with fail
   refine HC.out.mono ?_;rintro _ w4 ⟨rfl,hw4,hb4,hk4⟩
   have HFI:=aA (And.intro hw4 (And.intro ((HB3.out.mono hB).trans hb4) ((KpT.below HB3.out).trans hk4)))
   clear hw4 hb4 hk4 t0 t1
   go_wp2
   go_ret
   exact⟨rfl,HFI.out⟩
  ·have hcF:decide (0≤Gm.find (Gm.names ts) x.t)=false:=decide_eq_false (by omega)
   rw[hlit]at HLT
   generalize Gm.find (Gm.names ts) x.t=z2 at *
   repeat (go_big_quiet_step (fail))
   refine wpQuiet_nil ?_
   intro KK2 hKK2
   rw[if_pos (by rfl)]
   go_wp2_with fail
   refine(HLT.out _).mono ?_;rintro _ _ ⟨rfl,rfl⟩
   go_wp2_with fail
   refine hKK2 _ _ ⟨⟨w3,HBw3.out⟩,rfl⟩ (fun x=>∃y:Calm.On w2.heap.size w2,x=y.1) (fun _ h=>h) ⟨⟨w3,HBw3.out⟩,rfl⟩ ?_
   repeat (go_big_quiet_step (fail))
   refine wpQuiet_nil ?_
   have hDs3:w.heap.size<w3.heap.size:=(Array.getElem?_eq_some_iff.1 HDw3.out).1
   have t0:w3.cell? ⟨w.heap.size,0,none⟩=some (.string sx):=by rw[cell_of_row w3 _ 0 _ _ _ HDw3.out];rfl
   have t1:w3.cell? ⟨w.heap.size,1,none⟩=some (.complex .f64 X Y):=by rw[cell_of_row w3 _ 1 _ _ _ HDw3.out];rfl
   have HC:=aA (HTP.out w3 ⟨_,_,_,HQw3.out⟩ HNw3.out (Nat.le_trans hB HB3.out.size))
   clear Q0 Q1 Q2 Q3 Q4 p0 p1 p2 p3
   go_wp2_with fail
   refine HC.out.mono ?_;rintro _ w4 ⟨rfl,hw4,hb4,hk4⟩
   have HFI:=aA (And.intro hw4 (And.intro ((HB3.out.mono hB).trans hb4) ((KpT.below HB3.out).trans hk4)))
   clear hw4 hb4 hk4 t0 t1
   go_wp2
   go_ret
   exact⟨rfl,HFI.out⟩
theorem KpT.beyond {w wr w':World} {row:Option Nat} (h:KpT w wr) (hg:wr.grownBy w' row) (hr:∀k,row=some k→w.heap.size≤k):KpT w w':=fun g cs T h1 h2 h3=>by
 have hk:=h g cs T h1 h2 h3
 refine(hg.block g (Array.getElem?_eq_some_iff.1 hk).1 (fun e=>?_)).trans hk
 have:=hr g e.symm
 have:=(Array.getElem?_eq_some_iff.1 h1).1
 omega
theorem aJ.kpT {w w':World} {base:Nat} {v:Value} {xs:List Int} (h:aJ w base v xs) (hk:KpT w w'):aJ w' base v xs:=by
 refine⟨h.1,?_⟩
 rcases h.2 with h0|⟨g,cap,cur,e,hb,hg,hr⟩
 ·exact .inl h0
 ·exact .inr ⟨g,cap,cur,e,hb,hk g cur _ hg (by decide) (by decide),hr⟩
theorem aJ.off9 {w:World} {N:Nat} {v:Value} {xs:List Int} (h:aJ w N v xs):Off9 w N v.ownBlock:=⟨fun g e=>by
 obtain⟨h1,cur,h2⟩:=aH h e
 exact⟨_,_,h2,by decide,by decide,by decide,.inr h1⟩⟩
theorem Wk.grown {w w':World} {B N R:Nat} {ts:List Gm.Tm} {ns:List (List Int)} {rs:List Gm.Rl} {lv:Int} {row:Option Nat} (h:Wk w B N R ts ns rs lv) (hg:w.grownBy w' row) (ho:Off9 w N row):Wk w' B N R ts ns rs lv:=by
 obtain⟨vT,vN,vR,h⟩:=h;exact⟨vT,vN,vR,h.grown hg ho⟩
structure PrJ (w0 wr:World) (B R Q:Nat) (ns:List (List Int)) (rs:List Gm.Rl) (lv:Int) (ts:List Gm.Tm) (PC:Array Value) (lf:Int) (v:Value) (acc:List Int) (p:Int):Prop where
 b:Wk wr B w0.heap.size R ts ns rs lv
 f:Gm.Fit ⟨ts,ns,rs,0⟩
 t:ts.length≤24
 w:Below B w0 wr
 k:KpT w0 wr
 q:w0.heap.size<Q
 pb:wr.heap[w0.heap.size]?=some (.cells PC 102 (0,0))
 qb:wr.heap[Q]?=some (.cells #[.int .i64 lf,v,.int .i64 p] 41 (0,0))
 o:aJ wr w0.heap.size v acc
section
variable {w0 wr w':World} {B R Q:Nat} {ns:List (List Int)} {rs:List Gm.Rl} {lv:Int} {ts:List Gm.Tm} {PC:Array Value} {lf p p':Int} {v v':Value} {acc acc':List Int}
theorem PrJ.alloc (h:PrJ w0 wr B R Q ns rs lv ts PC lf v acc p) (o:Obj) (hB:B≤w0.heap.size):PrJ w0 (wr.alloc o) B R Q ns rs lv ts PC lf v acc p :=
 ⟨h.b.alloc o,h.f,h.t,h.w.alloc (Nat.le_trans hB h.w.size) o,h.k.trans (KpT.below ((Below.refl _ _).alloc (Nat.le_refl _) o)),h.q,(Below.heap_alloc wr o _ (Array.getElem?_eq_some_iff.1 h.pb).1).trans h.pb,(Below.heap_alloc wr o _ (Array.getElem?_eq_some_iff.1 h.qb).1).trans h.qb,h.o.alloc o⟩
theorem PrJ.call (h:PrJ w0 wr B R Q ns rs lv ts PC lf v acc p) {ts':List Gm.Tm} (hb:Wk w' B w0.heap.size R ts' ns rs lv) (hw:Below B wr w') (hk:KpT wr w') (hf:Gm.Fit ⟨ts',ns,rs,0⟩) (ht:ts'.length≤24):PrJ w0 w' B R Q ns rs lv ts' PC lf v acc p :=
 ⟨hb,hf,ht,h.w.trans hw,h.k.trans hk,h.q,hk _ _ _ h.pb (by decide) (by decide),hk _ _ _ h.qb (by decide) (by decide),h.o.kpT hk⟩
theorem PrJ.off (hq:w0.heap.size<Q) (qb:wr.heap[Q]?=some (.cells #[.int .i64 lf,v,.int .i64 p] 41 (0,0))):Off9 wr w0.heap.size (some Q):=⟨fun g e=>by
 injection e with e
 subst e
 exact⟨_,_,qb,by decide,by decide,by decide,.inr (by omega)⟩⟩
theorem PrJ.setQ (h:PrJ w0 wr B R Q ns rs lv ts PC lf v acc p) (j:Nat) (u:Value) (hu:(#[.int .i64 lf,v,.int .i64 p]:Array Value).setIfInBounds j u=#[.int .i64 lf,v',.int .i64 p']) (ho:aJ (wr.setCell ⟨Q,j,none⟩ u) w0.heap.size v' acc) (hB:B≤w0.heap.size):PrJ w0 (wr.setCell ⟨Q,j,none⟩ u) B R Q ns rs lv ts PC lf v' acc p':=by
 have hg:wr.grownBy (wr.setCell ⟨Q,j,none⟩ u) (some Q):=aE (World.grownBy.refl _ _) j u
 have hq:=h.q
 refine⟨h.b.grown hg (PrJ.off h.q h.qb),h.f,h.t,h.w.setCell (by simp only;omega) u,h.k.beyond hg (fun k e=>by injection e with e;omega),h.q,(Below.heap_setCell wr ⟨Q,j,none⟩ u w0.heap.size (by simp only;omega)).trans h.pb,?_,ho⟩
 rw[←hu]
 exact heap_setCell_same wr _ j _ _ u h.qb
theorem PrJ.app (h:PrJ w0 wr B R Q ns rs lv ts PC lf v acc p) (ho:aJ w' w0.heap.size v' acc') (hg:wr.grownBy w' v.ownBlock) (hB:B≤w0.heap.size) :
  (w'.heap[Q]?=some (.cells #[.int .i64 lf,v,.int .i64 p] 41 (0,0)))∧PrJ w0 (w'.setCell ⟨Q,1,none⟩ v') B R Q ns rs lv ts PC lf v' acc' p:=by
 have hb':=h.b.grown hg h.o.off9
 have pb':=zaR h.pb h.o (by decide) hg
 have qb':=zaR h.qb h.o (by decide) hg
 have hN:∀k,v.ownBlock=some k→w0.heap.size≤k:=fun k e=>(aH h.o e).1
 have hw':=h.w.grown hg (Nat.le_trans hB h.w.size) (fun k e=>Nat.le_trans hB (hN k e))
 have hk':=h.k.beyond hg hN
 have hq:=h.q
 have hg2:w'.grownBy (w'.setCell ⟨Q,1,none⟩ v') (some Q):=aE (World.grownBy.refl _ _) 1 v'
 exact⟨qb',hb'.grown hg2 (PrJ.off h.q qb'),h.f,h.t,hw'.setCell (by simp only;omega) v',hk'.beyond hg2 (fun k e=>by injection e with e;omega),h.q,(Below.heap_setCell w' ⟨Q,1,none⟩ v' w0.heap.size (by simp only;omega)).trans pb',heap_setCell_same w' _ 1 _ _ v' qb',ho.set_away qb' 1 v'⟩
end
theorem zcP {ns:List (List Int)} {rs:List Gm.Rl} {ts ts':List Gm.Tm} {x:Tok} {z:Int} (h:Gm.symR ns ts x=.ok (ts',z)) (hx:K.Tx x.t) (hf:Gm.Fit ⟨ts,ns,rs,0⟩):((0≤Gm.find ns x.t∧true=true∧ts'=ts∧z = -1-Gm.find ns x.t)∨(Gm.find ns x.t<0∧Gm.sym ts x=.ok (ts',z)))∧Gm.Fit ⟨ts',ns,rs,0⟩:=by
 unfold Gm.symR at h
 split at h
 ·rename_i h0
  injection h with h
  injection h with h1 h2
  subst h1
  exact⟨.inl ⟨h0,rfl,rfl,h2.symm⟩,hf⟩
 ·rename_i h0
  refine⟨.inr ⟨by omega,h⟩,?_⟩
  unfold Gm.sym at h
  split at h
  ·exact Fit.put hf hx h
  ·cases h
theorem zcQ {ns:List (List Int)} {rs:List Gm.Rl} {ts ts':List Gm.Tm} {x:Tok} {z:Int} (h:Gm.symP ns ts x=.ok (ts',z)) (hx:K.Tx x.t) (hf:Gm.Fit ⟨ts,ns,rs,0⟩):((0≤Gm.find ns x.t∧false=true∧ts'=ts∧z = -1-Gm.find ns x.t)∨(Gm.find ns x.t<0∧Gm.sym ts x=.ok (ts',z)))∧Gm.Fit ⟨ts',ns,rs,0⟩:=by
 unfold Gm.symP at h
 split at h
 ·cases h
 ·rename_i h0
  refine⟨.inr ⟨by omega,h⟩,?_⟩
  unfold Gm.sym at h
  split at h
  ·exact Fit.put hf hx h
  ·cases h
end Go.Proofs.YtcgclkndkahgaaaGreat
namespace Go.Proofs.YtcgclkndkahgaaaGreat
set_option maxRecDepth 100000
set_option maxHeartbeats 40000000
open Go.RowKit
theorem zgt {ts ts':List Gm.Tm} {x:Tok} {z:Int} (h:Gm.sym ts x=.ok (ts',z)) (h24:ts.length≤24):Gm.In z∧ts'.length≤24:=by
 unfold Gm.sym at h
 split at h
 ·refine⟨?_,zgv h24 h⟩
  unfold Gm.In
  rcases Gm.put_ok h with⟨j,_,_,hj,hl,_⟩|⟨_,_,hj,_⟩ <;> omega
 ·cases h
theorem zeI {ns:List (List Int)} {ts ts':List Gm.Tm} {x:Tok} {z:Int} (h:Gm.symR ns ts x=.ok (ts',z)) (h24:ts.length≤24) (h16:ns.length≤16):Gm.In z∧ts'.length≤24:=by
 unfold Gm.symR at h
 split at h
 ·rename_i h0
  injection h with h
  injection h with h1 h2
  have:=Gm.find_lt ns x.t
  subst h1
  refine⟨?_,h24⟩
  unfold Gm.In
  omega
 ·exact zgt h h24
theorem zeJ {ns:List (List Int)} {ts ts':List Gm.Tm} {x:Tok} {z:Int} (h:Gm.symP ns ts x=.ok (ts',z)) (h24:ts.length≤24):Gm.In z∧ts'.length≤24:=by
 unfold Gm.symP at h
 split at h
 ·cases h
 ·exact zgt h h24
theorem Fit.more {ts:List Gm.Tm} {ns:List (List Int)} {rs:List Gm.Rl} {r:Gm.Rl} (h:Gm.Fit ⟨ts,ns,rs,0⟩) (hr:Gm.In r.l∧Gm.In r.p∧∀z∈r.r,Gm.In z):Gm.Fit ⟨ts,ns,rs++[r],0⟩:=by
 refine⟨h.t,h.n,fun x hx=>?_,h.s⟩
 rcases List.mem_append.1 hx with q|q
 ·exact h.r x q
 ·simp at q;subst q;exact hr
theorem find_in (ns:List (List Int)) (s:List Int) (h:ns.length≤16):Gm.In (Gm.find ns s):=by
 have h1:=Gm.find_lt ns s
 have h2:=Gm.find_ge ns s
 unfold Gm.In
 omega
theorem zbJ {ns:List (List Int)} {ts ts':List Gm.Tm} {rs rs':List Gm.Rl} {pr:Y.Prd} (h:Gm.prod1 ns ts rs pr=.ok (ts',rs')):rs.length≠40∧∃tz az pz,Gm.rights ns ts [] (-1) pr.r=.ok (tz,az,pz)∧((pr.p=none∧ts'=tz∧rs'=rs++[⟨Gm.find ns pr.l.t,az,pz⟩]) ∨ ∃x z,pr.p=some x∧Gm.symP ns tz x=.ok (ts',z)∧rs'=rs++[⟨Gm.find ns pr.l.t,az,z⟩]):=by
 unfold Gm.prod1 at h
 split at h
 ·cases h
 ·rename_i h40
  obtain⟨⟨tz,az,pz⟩,h1,h2⟩:=Gm.R.bind_eq h
  refine⟨h40,tz,az,pz,h1,?_⟩
  cases hp:pr.p with
  | none =>
   rw[hp]at h2
   injection h2 with h2
   injection h2 with a b
   exact .inl ⟨rfl,a.symm,b.symm⟩
  | some x =>
   rw[hp]at h2
   obtain⟨⟨t2,z⟩,h3,h4⟩:=Gm.R.bind_eq h2
   injection h4 with h4
   injection h4 with a b
   simp only at a b
   subst a
   exact .inr ⟨x,z,rfl,h3,b.symm⟩
theorem zc2 {s:List Int} (h:Gm.named s=true):(K.str s).toList.isEmpty=false:=by
 have hne:s≠[]:=fun e=>by rw[e]at h;simp[Gm.named,T.isName,T.isLit]at h
 have hsn:¬(K.str s).toList=[]:=by rw[K.str_list];intro e;exact hne (by simpa[K.bytes] using e)
 simpa using hsn
theorem zia (L:List Int) (B R:Nat) (ts ts':List Gm.Tm) (ns:List (List Int)) (rs rs':List Gm.Rl) (lv:Int) (pr:Y.Prd) (A:Option Addr) (c:Nat) (w:World) (hw:Wk w B w.heap.size R ts ns rs lv) (hf:Gm.Fit ⟨ts,ns,rs,0⟩) (hr:zhe L w B A pr.r) (hx:K.Tx pr.l.t) (hxr:∀x∈pr.r,K.Tx x.t∧Gm.named x.t=true∧x.t≠[101,114,114,111,114]) (hxp:∀x,pr.p=some x→K.Tx x.t∧Gm.named x.t=true∧x.t≠[101,114,114,111,114])
  (hB:B≤w.heap.size) (h24:ts.length≤24) (h16:ns.length≤16) (hrs:rs.length≤40) (hrl:pr.r.length≤1000) (hp:Gm.prod1 ns ts rs pr=.ok (ts',rs')) :
  Calls Tryz.prog 64 #[.pointer (some ⟨R,0,none⟩),.agg (zbL L pr A c)] w fun e w'=>e=.returned (.tuple #[])∧(Wk w' B w'.heap.size R ts' ns rs' lv∧Gm.Fit ⟨ts',ns,rs',0⟩∧ts'.length≤24)∧Below B w w'∧KpA w w':=by
 have SC:=fun a w m X Y=>show(store a (.complex .f64 X Y) m).run Tryz.prog w=stored Tryz.prog w a (.complex .f64 X Y) m from run_store _ w a _ m rfl
 obtain⟨h40,tz,az,pz,hrt,hlast⟩:=zbJ hp
 have HRT:=aA hrt
 have HLAST:=aA hlast
 have HXP:=aA hxp
 have HR:=aA hr
 have HDX:=aA (fun(i:Nat) (hi:i<pr.r.length)=>hxr _ (List.getElem_mem hi))
 have HF:=aA hf
 obtain⟨vT,vN,vR,hwr⟩:=id hw
 obtain⟨⟨AT,cT,rfl⟩,⟨AN,cN,rfl⟩,⟨AR,cR,rfl⟩⟩:=zah hwr
 have HRW:=aA hwr
 have hR0:=hwr.lt
 have HNO:=aA (fun(y:World) (lv':Int) (h:WRaw y B w.heap.size R (wC (.slice AT ts.length cT) (.slice AN ns.length cN) (.slice AR rs.length cR) lv') (.slice AT ts.length cT) (.slice AN ns.length cN) (.slice AR rs.length cR) ts ns rs) (hy:w.heap.size≤y.heap.size)=>zbR hf hx h hy)
 obtain⟨lf,hlf⟩:∃lf,lf=Gm.find ns pr.l.t:=⟨_,rfl⟩
 have HLI:Hid (Gm.In lf):=aA (by rw[hlf];exact find_in ns _ h16)
 rw[←hlf]at HNO HLAST
 clear hlf
 obtain⟨w1,hw1⟩:∃w1,w1=w.alloc (.cells (zbL L pr A c) 102):=⟨_,rfl⟩
 have HQw1:Hid (WRaw w1 B w.heap.size R (wC (.slice AT ts.length cT) (.slice AN ns.length cN) (.slice AR rs.length cR) lv) (.slice AT ts.length cT) (.slice AN ns.length cN) (.slice AR rs.length cR) ts ns rs):=aA (by rw[hw1];exact hwr.alloc _)
 have HP1:Hid (w1.heap[w.heap.size]?=some (.cells (zbL L pr A c) 102 (0,0))):=aA (by rw[hw1];exact heap_alloc_new w _)
 have hs1:w1.heap.size=w.heap.size+1:=by rw[hw1];simp
 have HW1:Hid (Below w.heap.size w w1):=aA (by rw[hw1];exact(Below.refl _ w).alloc (Nat.le_refl _) _)
 have hR1:R<w1.heap.size:=by omega
 have hd1:w.heap.size<w1.heap.size:=by omega
 have q0:∀y:Calm.On w1.heap.size w1,y.1.cell? ⟨R,0,none⟩=some (.slice AT ts.length cT):=fun y=>((HQw1.out.below y.2).at 0).1
 have q1:∀y:Calm.On w1.heap.size w1,y.1.cell? ⟨R,1,none⟩=some (.slice AN ns.length cN):=fun y=>((HQw1.out.below y.2).at 1).1
 have q2:∀y:Calm.On w1.heap.size w1,y.1.cell? ⟨R,2,none⟩=some (.slice AR rs.length cR):=fun y=>((HQw1.out.below y.2).at 2).1
 have q3:∀y:Calm.On w1.heap.size w1,y.1.cell? ⟨R,3,none⟩=some (.int .i64 0):=fun y=>((HQw1.out.below y.2).at 3).1
 have D0:∀y:Calm.On w1.heap.size w1,y.1.cell? ⟨w.heap.size,0,none⟩=some (.string (K.str pr.l.t)):=fun y=>cell_of_row y.1 _ 0 _ _ _ ((y.2.block w.heap.size hd1).trans HP1.out)
 have HRB:=aA (fun y=>zgk lf y)
 unfold zbL at HP1 hw1 ⊢
 clear hwr hw hf hr hx hxr hxp hp hrt hlast
 generalize rfX L pr.l=X0 at *
 generalize rfY L pr.l=Y0 at *
 generalize K.str pr.l.t=s0 at *
 go_enter Tryz.func64,Tryz.ntmps64
 go_upto_region 1 with fail
 rw[←hw1]
 clear hw1
 have HDa:=aA (aB (Below.refl w1.heap.size w1) 1)
 have HDb:=aA (fun o=>(aB (Below.refl w1.heap.size w1) 1).alloc (Nat.le_refl _) o)
 have RB:=HRB.out
 refine CalmN.region_tree (fun x=>∃y:Calm.On w1.heap.size w1,x=y.1) (.two [0,1,2,3,4,5,6] 7 (.one [8] 9 (.one [] 10 (.fin []))) 9 (.one [] 7 (.one [8] 10 (.fin [])))) (by kernel_rfl) (by kernel_rfl) (fun _ _ d _ _ h=>by cases d <;> exact h) ⟨⟨w1.drew,HDa.out⟩,rfl⟩ ?_
 simp only[CalmN.wpT,CalmN.wpSt,CalmN.pickOps,List.getElem?_toArray,List.getElem?_cons_zero,List.getElem?_cons_succ]
 repeat (go_big_quiet_step (fail))
 refine wpQuiet_nil ?_
 clear q0 q1 q2 q3 D0
 refine⟨?_,?_⟩
 ·intro KK hKK
  rw[if_pos (by rfl)]
  go_wp2_with fail
  refine(HNO.out w1.drew _ HQw1.out.drew9 (by show w.heap.size≤w1.heap.size;omega)).mono ?_;rintro _ w2 ⟨rfl,hb2⟩
  have HB2:=aA ((aB (Below.refl w1.heap.size w1) 1).trans hb2)
  have hz2:w1.heap.size≤w2.heap.size:=HB2.out.size
  have HB3:=aA (fun o=>HB2.out.alloc hz2 o)
  clear hb2
  go_wp2_with fail
  refine hKK _ _ ⟨⟨w2,HB2.out⟩,rfl⟩ (fun x=>∃y:Calm.On w1.heap.size w1,x=y.1) (fun _ h=>h) ⟨⟨w2,HB2.out⟩,rfl⟩ ?_
  repeat (go_big_quiet_step (fail))
  refine wpQuiet_nil ?_
  intro KK hKK
  rw[if_pos (by rfl)]
  go_wp2_with fail
  refine hKK _ _ ⟨⟨_,HB3.out _⟩,rfl⟩ (fun x=>∃y:Calm.On w1.heap.size w1,x=y.1) (fun _ h=>h) ⟨⟨_,HB3.out _⟩,rfl⟩ ?_
  refine wpQuiet_nil ?_
  intro KK hKK
  rw[if_pos (by rfl)]
  go_wp2_with fail
  refine hKK _ _ ⟨⟨_,HB3.out _⟩,rfl⟩ (fun x=>∃y:Calm.On w1.heap.size w1,x=y.1) (fun _ h=>h) ⟨⟨_,HB3.out _⟩,rfl⟩ ?_
  refine wpQuiet_nil ?_
  clear hKK RB
  obtain⟨wq,hwq⟩:∃x,x=w2.alloc (.cells #[.int .i64 lf,.slice none 0 0,.int .i64 (-1)] 41):=⟨_,rfl⟩
  rw[←hwq]
  obtain⟨Q,hQ⟩:∃x,x=w2.heap.size:=⟨_,rfl⟩
  rw[←hQ]
  have HPX:Hid (PrJ w wq B R Q ns rs lv ts #[.string s0,.complex .f64 X0 Y0,.slice A pr.r.length c,.string (soS pr.p),.complex .f64 (soX L pr.p) (soY L pr.p)] lf (.slice none 0 0) [] (-1)):=aA (by
   have hbw:Below w.heap.size w wq:=by rw[hwq];exact(HW1.out.trans (HB2.out.mono HW1.out.size)).alloc (Nat.le_trans HW1.out.size hz2) _
   have hb1:Below w1.heap.size w1 wq:=by rw[hwq];exact HB3.out _
   exact⟨⟨_,_,_,HQw1.out.below hb1⟩,HF.out,h24,hbw.mono hB,KpT.below hbw,by omega,(hb1.block w.heap.size hd1).trans HP1.out,by rw[hwq,hQ];exact heap_alloc_new w2 _,zbp _ _⟩)
  clear hwq hQ HB2 HB3 hz2 HNO HQw1 HP1 HW1 HRB HDa HDb hs1 hR1 hd1 HRW
  have HEX:=aA (Array.getElem?_eq_some_iff.1 HPX.out.pb).1
  obtain⟨vTq,vNq,vRq,hwq⟩:=HPX.out.b
  obtain⟨_,_,⟨ARq,cRq,rfl⟩⟩:=zah hwq
  obtain⟨k2,_,hRq⟩:=hwq.at 2
  simp only[wC,List.getElem?_toArray,List.getElem?_cons_zero,List.getElem?_cons_succ]at k2
  have e40:((rs.length:Int)==40)=false:=beq_eq_false_iff_ne.2 (by omega)
  clear hwq
  go_wp2
  clear k2 hRq e40
  go_loopw [5] (fun vi wr=>∃(i:Nat) (tk:List Gm.Tm) (acc:List Int) (p:Int) (v:Value),i≤pr.r.length∧vi=.int .i64 i∧acc.length=i∧Hid (Gm.rights ns tk acc p (pr.r.drop i)=.ok (tz,az,pz))∧Hid ((∀z∈acc,Gm.In z)∧Gm.In p)∧Hid (PrJ w wr B R Q ns rs lv tk #[.string s0,.complex .f64 X0 Y0,.slice A pr.r.length c,.string (soS pr.p),.complex .f64 (soX L pr.p) (soY L pr.p)] lf v acc p)) (fun vi _=>pr.r.length-(intOf vi).toNat)
  case atStart=>exact⟨0,ts,[],-1,.slice none 0 0,Nat.zero_le _,rfl,rfl,HRT,aA ⟨by simp,by unfold Gm.In;omega⟩,HPX⟩
  case round =>
   clear HPX HEX
   obtain⟨i,tk,acc,p,v,hi,rfl,hai,HE,HIN,HP⟩:=hrel
   have HAI:=aA hai
   have p2:wr.cell? ⟨w.heap.size,2,none⟩=some (.slice A pr.r.length c):=cell_of_row wr _ 2 _ _ _ HP.out.pb
   have hPs:=(Array.getElem?_eq_some_iff.1 HP.out.pb).1
   obtain⟨vTr,vNr,vRr,hwr⟩:=HP.out.b
   have f10:=(hwr.at 10).1
   have hRr:=hwr.lt
   simp only[wC,List.getElem?_toArray,List.getElem?_cons_zero,List.getElem?_cons_succ]at f10
   clear hwr hai
   by_cases hlt:i<pr.r.length
   ·obtain⟨g,o,rfl,hgB,hc⟩:=HR.out (by omega)
    have k0:=(HP.out.w.cell (p:=⟨g,o+i*2,none⟩) hgB).trans (hc i hlt).1
    have k1:=(HP.out.w.cell (p:=⟨g,o+i*2+1,none⟩) hgB).trans (hc i hlt).2
    have hBs:=HP.out.w.size
    have hgs:g<wr.heap.size:=by omega
    obtain⟨hx1,hx2,hx3⟩:=HDX.out i hlt
    have hE:=HE.out
    rw[zbG hlt]at hE
    have h6:acc.length≠6:=fun q=>by rw[if_pos q]at hE;cases hE
    rw[if_neg h6]at hE
    obtain⟨⟨t2,zz⟩,hs,hE2⟩:=Gm.R.bind_eq hE
    simp only at hE2
    have HE2:=aA hE2
    obtain⟨hstep,hfit2⟩:=zcP hs hx1 HP.out.f
    obtain⟨hzin,ht2⟩:=zeI hs HP.out.t h16
    have HF2:=aA (And.intro hfit2 (And.intro ht2 hzin))
    have e6:((i:Int)==6)=false:=beq_eq_false_iff_ne.2 (by have:=HAI.out;omega)
    have HNM:=aA (fun(y:World)=>zau pr.r[i].t hx1 y)
    rw[hx2]at HNM
    have HSY:=aA (fun(y:World) (h:Wk y B w.heap.size R tk ns rs lv) (hy:w.heap.size≤y.heap.size)=>zct L B w.heap.size R tk t2 ns rs lv zz pr.r[i] true y h HP.out.f hx1 hx3 hy (Nat.le_trans hB hy) hstep HP.out.t h16)
    unfold aY at HSY
    clear hc hE hE2 hs hstep hfit2 hzin ht2 hx1 hx2 hx3 h6
    unfold rfX rfY at k1
    generalize K.str pr.r[i].t=sx at *
    generalize Fl.fl (Pl.pos (L.take pr.r[i].o)).1=X at *
    generalize Fl.fl (Pl.pos (L.take pr.r[i].o)).2=Y at *
    have HPA:=aA (HP.out.alloc (.cells #[.string sx,.complex .f64 X Y] 94) hB)
    have HCR:=aA (heap_alloc_new wr (.cells #[.string sx,.complex .f64 X Y] 94))
    have HC:=aA (HSY.out _ HPA.out.b HPA.out.w.size)
    go_wp2_with fail
    refine(HNM.out _).mono ?_;rintro _ _ ⟨rfl,rfl⟩
    go_wp2_with fail
    refine HC.out.mono ?_;rintro _ w2 ⟨rfl,hb2,hw2,hk2⟩
    have HP2:=aA (HPA.out.call hb2 hw2 hk2 HF2.out.1 HF2.out.2.1)
    obtain⟨Av,nv,cv,hvv⟩:=zaD HP2.out.o
    subst hvv
    have q1:w2.cell? ⟨Q,1,none⟩=some (.slice Av nv cv):=cell_of_row w2 _ 1 _ _ _ HP2.out.qb
    have hQs:=(Array.getElem?_eq_some_iff.1 HP2.out.qb).1
    have HP3:=aA (HP2.out.alloc (.cells #[.int .i64 zz] 3) hB)
    have HS2:Hid (w.heap.size≤w2.heap.size):=aA HP2.out.w.size
    have hil:acc.length≤1000000000000:=by have:=HAI.out;omega
    clear hb2 hw2 hk2 p2 f10 k0 k1 HC HSY HNM
    by_cases hzp:0≤zz
    ·have HX:Hid (Gm.rights ns t2 (acc++[zz]) zz (pr.r.drop (i+1))=.ok (tz,az,pz)):=aA (by have h:=HE2.out;rw[if_pos hzp]at h;exact h)
     have e:decide (0≤zz)=true:=decide_eq_true hzp
     go_wp2_with (refine zaU rfl (.tmp 63) (.tmp 65) _ rfl Tryz.underlying30 w.heap.size _ acc rfl HP3.out.o _ _ zz rfl (aI w2 [.int .i64 zz] 3 0) hil (by have:=HS2.out;simp;omega) ?_;intro v4 w4 ho4 hg4;obtain⟨A4,n4,c4,rfl⟩:=zaD ho4;have happ:=aA (HP3.out.app ho4 hg4 hB);have q41:w4.cell? ⟨Q,1,none⟩=some (.slice Av nv cv):=cell_of_row w4 _ 1 _ _ _ happ.out.1;have q42:w4.cell? ⟨Q,2,none⟩=some (.int .i64 p):=cell_of_row w4 _ 2 _ _ _ happ.out.1;have f41:=frozen_of_row w4 _ 1 _ _ happ.out.1;have f42:=frozen_of_row w4 _ 2 _ _ happ.out.1;have hQ4:=(Array.getElem?_eq_some_iff.1 happ.out.1).1;clear ho4 hg4)
     go_roundw
     case rel=>exact⟨i+1,t2,acc++[zz],zz,.slice A4 n4 c4,hlt,by go_num,by rw[List.length_append,List.length_singleton,HAI.out],HX,aA ⟨fun z hz=>by rcases List.mem_append.1 hz with q|q;exact HIN.out.1 z q;rw[List.mem_singleton.1 q];exact HF2.out.2.2,HF2.out.2.2⟩,aA (happ.out.2.setQ 2 (.int .i64 zz) rfl (happ.out.2.o.set_away happ.out.2.qb 2 _) hB)⟩
     case measure=>simp[intOf];omega
    ·have HX:Hid (Gm.rights ns t2 (acc++[zz]) p (pr.r.drop (i+1))=.ok (tz,az,pz)):=aA (by have h:=HE2.out;rw[if_neg hzp]at h;exact h)
     have e:decide (0≤zz)=false:=decide_eq_false hzp
     go_wp2_with (refine zaU rfl (.tmp 63) (.tmp 65) _ rfl Tryz.underlying30 w.heap.size _ acc rfl HP3.out.o _ _ zz rfl (aI w2 [.int .i64 zz] 3 0) hil (by have:=HS2.out;simp;omega) ?_;intro v4 w4 ho4 hg4;obtain⟨A4,n4,c4,rfl⟩:=zaD ho4;have happ:=aA (HP3.out.app ho4 hg4 hB);have q41:w4.cell? ⟨Q,1,none⟩=some (.slice Av nv cv):=cell_of_row w4 _ 1 _ _ _ happ.out.1;have q42:w4.cell? ⟨Q,2,none⟩=some (.int .i64 p):=cell_of_row w4 _ 2 _ _ _ happ.out.1;have f41:=frozen_of_row w4 _ 1 _ _ happ.out.1;have f42:=frozen_of_row w4 _ 2 _ _ happ.out.1;have hQ4:=(Array.getElem?_eq_some_iff.1 happ.out.1).1;clear ho4 hg4)
     go_roundw
     case rel=>exact⟨i+1,t2,acc++[zz],p,.slice A4 n4 c4,hlt,by go_num,by rw[List.length_append,List.length_singleton,HAI.out],HX,aA ⟨fun z hz=>by rcases List.mem_append.1 hz with q|q;exact HIN.out.1 z q;rw[List.mem_singleton.1 q];exact HF2.out.2.2,HIN.out.2⟩,aA happ.out.2⟩
     case measure=>simp[intOf];omega
   ·obtain rfl:i=pr.r.length:=by omega
    have hE:=HE.out
    rw[zca (Nat.le_refl _)]at hE
    injection hE with hE
    injection hE with e1 hE
    injection hE with e2 e3
    subst e1
    subst e2
    subst e3
    have p3:wr.cell? ⟨w.heap.size,3,none⟩=some (.string (soS pr.p)):=cell_of_row wr _ 3 _ _ _ HP.out.pb
    have p4:wr.cell? ⟨w.heap.size,4,none⟩=some (.complex .f64 (soX L pr.p) (soY L pr.p)):=cell_of_row wr _ 4 _ _ _ HP.out.pb
    rcases HLAST.out with⟨hpn,e1,e2⟩|⟨x,z2,hps,hsp,e2⟩
    ·subst e1
     subst e2
     replace p3:wr.cell? ⟨w.heap.size,3,none⟩=some (.string ⟨#[]⟩):=by rw[p3,hpn];rfl
     clear p4
     go_wp2_with fail
     obtain⟨wz,hwz⟩:∃x,x=wr:=⟨_,rfl⟩
     rw[←hwz]
     have HPZ:Hid (PrJ w wz B R Q ns rs lv ts' #[.string s0,.complex .f64 X0 Y0,.slice A pr.r.length c,.string (soS pr.p),.complex .f64 (soX L pr.p) (soY L pr.p)] lf v acc p):=aA (by rw[hwz];exact HP.out)
     clear hwz p3
     obtain⟨vT',vN',vR',hfin⟩:=HPZ.out.b
     have HFB:=aA hfin
     obtain⟨_,_,⟨AR2,cR2,hvR⟩⟩:=zah hfin
     subst hvR
     obtain⟨Av,cv,hvv,hv1,hv2,hrow⟩:=HPZ.out.o.row hB
     subst hvv
     have c2:wz.cell? ⟨R,2,none⟩=some (.slice AR2 rs.length cR2):=(hfin.at 2).1
     have hRs:=(hfin.at 2).2.2
     have hQs:=(Array.getElem?_eq_some_iff.1 HPZ.out.qb).1
     have HROW:=aA (And.intro hv1 (And.intro hv2 hrow))
     clear hfin hrow hv1 hv2
     have E0:∀y:Calm.OnB Q wz,y.1.cell? ⟨Q,0,none⟩=some (.int .i64 lf):=fun y=>cell_of_row y.1 _ 0 _ _ _ (y.2.trans HPZ.out.qb)
     have E1:∀y:Calm.OnB Q wz,y.1.cell? ⟨Q,1,none⟩=some (.slice Av acc.length cv):=fun y=>cell_of_row y.1 _ 1 _ _ _ (y.2.trans HPZ.out.qb)
     have E2:∀y:Calm.OnB Q wz,y.1.cell? ⟨Q,2,none⟩=some (.int .i64 p):=fun y=>cell_of_row y.1 _ 2 _ _ _ (y.2.trans HPZ.out.qb)
     refine CalmN.region_tree (fun x=>∃y:Calm.OnB Q wz,x=y.1) (.two [0,1,2,3,4,6] 5 (.one [] 7 (.one [] 8 (.one [9,10,11] 12 (.fin [])))) 7 (.one [] 5 (.one [] 8 (.one [9,10,11] 12 (.fin []))))) (by kernel_rfl) (by kernel_rfl) (fun _ _ d _ _ h=>by cases d <;> exact h) ⟨⟨wz.drew,rfl⟩,rfl⟩ ?_
     simp only[CalmN.wpT,CalmN.wpSt,CalmN.pickOps,List.getElem?_toArray,List.getElem?_cons_zero,List.getElem?_cons_succ]
     repeat (go_big_quiet_step (fail))
     refine wpQuiet_nil ?_
     clear E0 E1 E2
     have HQ1:=aA (fun o=>(Below.heap_alloc wz o Q hQs))
     refine⟨?_,?_⟩
     ·intro KK hKK
      rw[if_pos (by rfl)]
      go_wp2_with fail
      refine hKK _ _ ⟨⟨wz.drew,rfl⟩,rfl⟩ (fun x=>∃y:Calm.OnB Q wz,x=y.1) (fun _ h=>h) ⟨⟨wz.drew,rfl⟩,rfl⟩ ?_
      refine wpQuiet_nil ?_
      intro KK hKK
      rw[if_pos (by rfl)]
      go_wp2_with fail
      refine hKK _ _ ⟨⟨(wz.alloc _).drew,HQ1.out _⟩,rfl⟩ (fun x=>∃y:Calm.OnB Q wz,x=y.1) (fun _ h=>h) ⟨⟨(wz.alloc _).drew,HQ1.out _⟩,rfl⟩ ?_
      refine wpQuiet_nil ?_
      intro KK hKK
      rw[if_pos (by rfl)]
      obtain⟨wy,hwy⟩:∃x,x=(wz.alloc (.cells #[.int .i64 lf,.slice Av acc.length cv,.int .i64 p] 41)).drew:=⟨_,rfl⟩
      rw[←hwy]
      have A0:Hid (WRaw wy B w.heap.size R (wC vT' vN' (.slice AR2 rs.length cR2) lv) vT' vN' (.slice AR2 rs.length cR2) ts' ns rs):=aA (by rw[hwy];exact(HFB.out.alloc (.cells #[.int .i64 lf,.slice Av acc.length cv,.int .i64 p] 41)).drew9)
      have HWY:Hid (Below B w wy):=aA (by rw[hwy];exact aB (HPZ.out.w.alloc (Nat.le_trans hB HPZ.out.w.size) _) 1)
      have HKY:Hid (KpT w wy):=aA (by rw[hwy];exact HPZ.out.k.trans (KpT.below (aB ((Below.refl _ _).alloc (Nat.le_refl _) _) 1)))
      have HQY:Hid (wy.heap[Q]?=wz.heap[Q]?):=aA (by rw[hwy];exact HQ1.out _)
      have HZC:Hid (∀j u,(rlC (⟨lf,acc,p⟩,Av,cv))[j]?=some u→wy.cell? ⟨wz.heap.size,j,none⟩=some u):=aA (fun j u hj=>by rw[hwy];exact(aI wz (rlC (⟨lf,acc,p⟩,Av,cv)) 41 j).trans hj)
      have HRW2:Hid (zcL wy B wy.heap.size Av acc):=aA (by
       rw[hwy]
       exact(HROW.out.2.2.grown (w':=(wz.alloc (.cells #[.int .i64 lf,.slice Av acc.length cv,.int .i64 p] 41)).drew) (row:=none) ((World.grownBy_alloc wz (.cells #[.int .i64 lf,.slice Av acc.length cv,.int .i64 p] 41) none).trans (aG _ none)) (fun g e=>by cases e)).more (by show wz.heap.size≤(wz.alloc _).heap.size;simp))
      have HSW:Hid (w.heap.size≤wy.heap.size):=aA HWY.out.size
      clear hwy
      refine zaT (.tmp 102) (.tmp 104) _ rfl Tryz.underlying24 B w.heap.size _ rs rfl A0.out.r _ _ (⟨lf,acc,p⟩,Av,cv) rfl HZC.out ⟨HROW.out.1,HROW.out.2.1,HRW2.out⟩ (by omega) (Nat.le_trans hB HSW.out) HSW.out ?_
      intro v8 w8 ho8 hg8
      have A1:=aA ((A0.out.more (Nat.le_trans HSW.out hg8.size)).r_put ho8 hg8)
      obtain⟨A8,c8,rfl,_,_⟩:=zak ho8
      have HQ8:Hid (w8.heap[Q]?=wz.heap[Q]?):=aA ((hg8.block Q (by have:=(Array.getElem?_eq_some_iff.1 (HQY.out.trans HPZ.out.qb)).1;exact this) (fun e=>by
       obtain⟨_,_,_,h3,_⟩:=A0.out.r
       have:=h3 _ e.symm
       have:=HPZ.out.q
       omega)).trans HQY.out)
      have HK8:Hid (KpA w w8):=aA (HKY.out.a.trans (by obtain⟨_,_,h2,_⟩:=A0.out.r;exact KpA.own h2 hg8 (.inr (.inr rfl))))
      have HW8:Hid (Below B w w8):=aA (HWY.out.grown hg8 (Nat.le_trans hB HSW.out) (fun k e=>by obtain⟨_,_,h2,_⟩:=A0.out.r;exact(aH h2 e).1))
      obtain⟨n8,hn8⟩:∃n,n=(rs++[(⟨lf,acc,p⟩:Gm.Rl)]).length:=⟨_,rfl⟩
      have c28:w8.cell? ⟨R,2,none⟩=some (.slice AR2 rs.length cR2):=(A1.out.at 2).1
      have f28:=(A1.out.at 2).2.1
      have hR8:=(A1.out.at 2).2.2
      rw[←hn8]at A1 ⊢
      clear ho8 hg8 A0 hn8
      refine hKK _ _ ⟨⟨w8,HQ8.out⟩,rfl⟩ (fun x=>∃y:Calm.OnB Q wz,x=y.1) (fun _ h=>h) ⟨⟨w8,HQ8.out⟩,rfl⟩ ?_
      go_frame
      repeat (go_big_quiet_step (fail))
      refine wpQuiet_nil ?_
      intro KK hKK
      rw[if_pos (by rfl)]
      go_wp2_with fail
      have HQ9:=aA (fun u=>(Below.heap_setCell w8 ⟨R,2,none⟩ u Q (by simp only;have:=HPZ.out.q;omega)).trans HQ8.out)
      refine hKK _ _ ⟨⟨w8.setCell ⟨R,2,none⟩ _,HQ9.out _⟩,rfl⟩ (fun x=>∃y:Calm.OnB Q wz,x=y.1) (fun _ h=>h) ⟨⟨w8.setCell ⟨R,2,none⟩ _,HQ9.out _⟩,rfl⟩ ?_
      refine wpQuiet_nil ?_
      clear hKK
      go_wp2
      go_end0
      refine⟨rfl,⟨?_,Fit.more HP.out.f ⟨HLI.out,HIN.out.2,HIN.out.1⟩,HPZ.out.t⟩,HW8.out.setCell A1.out.hR _,HK8.out.trans (KpT.set A1.out 2 _).a⟩
      rw[zay]
      exact⟨vT',vN',_,A1.out.set 2 _⟩
     ·intro KK hKK
      rw[if_pos (by rfl)]
      go_wp2_with fail
      refine hKK _ _ ⟨⟨(wz.alloc _).drew,HQ1.out _⟩,rfl⟩ (fun x=>∃y:Calm.OnB Q wz,x=y.1) (fun _ h=>h) ⟨⟨(wz.alloc _).drew,HQ1.out _⟩,rfl⟩ ?_
      refine wpQuiet_nil ?_
      intro KK hKK
      rw[if_pos (by rfl)]
      go_wp2_with fail
      refine hKK _ _ ⟨⟨(wz.alloc _).drew,HQ1.out _⟩,rfl⟩ (fun x=>∃y:Calm.OnB Q wz,x=y.1) (fun _ h=>h) ⟨⟨(wz.alloc _).drew,HQ1.out _⟩,rfl⟩ ?_
      refine wpQuiet_nil ?_
      intro KK hKK
      rw[if_pos (by rfl)]
      obtain⟨wy,hwy⟩:∃x,x=(wz.alloc (.cells #[.int .i64 lf,.slice Av acc.length cv,.int .i64 p] 41)).drew:=⟨_,rfl⟩
      rw[←hwy]
      have A0:Hid (WRaw wy B w.heap.size R (wC vT' vN' (.slice AR2 rs.length cR2) lv) vT' vN' (.slice AR2 rs.length cR2) ts' ns rs):=aA (by rw[hwy];exact(HFB.out.alloc (.cells #[.int .i64 lf,.slice Av acc.length cv,.int .i64 p] 41)).drew9)
      have HWY:Hid (Below B w wy):=aA (by rw[hwy];exact aB (HPZ.out.w.alloc (Nat.le_trans hB HPZ.out.w.size) _) 1)
      have HKY:Hid (KpT w wy):=aA (by rw[hwy];exact HPZ.out.k.trans (KpT.below (aB ((Below.refl _ _).alloc (Nat.le_refl _) _) 1)))
      have HQY:Hid (wy.heap[Q]?=wz.heap[Q]?):=aA (by rw[hwy];exact HQ1.out _)
      have HZC:Hid (∀j u,(rlC (⟨lf,acc,p⟩,Av,cv))[j]?=some u→wy.cell? ⟨wz.heap.size,j,none⟩=some u):=aA (fun j u hj=>by rw[hwy];exact(aI wz (rlC (⟨lf,acc,p⟩,Av,cv)) 41 j).trans hj)
      have HRW2:Hid (zcL wy B wy.heap.size Av acc):=aA (by
       rw[hwy]
       exact(HROW.out.2.2.grown (w':=(wz.alloc (.cells #[.int .i64 lf,.slice Av acc.length cv,.int .i64 p] 41)).drew) (row:=none) ((World.grownBy_alloc wz (.cells #[.int .i64 lf,.slice Av acc.length cv,.int .i64 p] 41) none).trans (aG _ none)) (fun g e=>by cases e)).more (by show wz.heap.size≤(wz.alloc _).heap.size;simp))
      have HSW:Hid (w.heap.size≤wy.heap.size):=aA HWY.out.size
      clear hwy
      refine zaT (.tmp 102) (.tmp 104) _ rfl Tryz.underlying24 B w.heap.size _ rs rfl A0.out.r _ _ (⟨lf,acc,p⟩,Av,cv) rfl HZC.out ⟨HROW.out.1,HROW.out.2.1,HRW2.out⟩ (by omega) (Nat.le_trans hB HSW.out) HSW.out ?_
      intro v8 w8 ho8 hg8
      have A1:=aA ((A0.out.more (Nat.le_trans HSW.out hg8.size)).r_put ho8 hg8)
      obtain⟨A8,c8,rfl,_,_⟩:=zak ho8
      have HQ8:Hid (w8.heap[Q]?=wz.heap[Q]?):=aA ((hg8.block Q (by have:=(Array.getElem?_eq_some_iff.1 (HQY.out.trans HPZ.out.qb)).1;exact this) (fun e=>by
       obtain⟨_,_,_,h3,_⟩:=A0.out.r
       have:=h3 _ e.symm
       have:=HPZ.out.q
       omega)).trans HQY.out)
      have HK8:Hid (KpA w w8):=aA (HKY.out.a.trans (by obtain⟨_,_,h2,_⟩:=A0.out.r;exact KpA.own h2 hg8 (.inr (.inr rfl))))
      have HW8:Hid (Below B w w8):=aA (HWY.out.grown hg8 (Nat.le_trans hB HSW.out) (fun k e=>by obtain⟨_,_,h2,_⟩:=A0.out.r;exact(aH h2 e).1))
      obtain⟨n8,hn8⟩:∃n,n=(rs++[(⟨lf,acc,p⟩:Gm.Rl)]).length:=⟨_,rfl⟩
      have c28:w8.cell? ⟨R,2,none⟩=some (.slice AR2 rs.length cR2):=(A1.out.at 2).1
      have f28:=(A1.out.at 2).2.1
      have hR8:=(A1.out.at 2).2.2
      rw[←hn8]at A1 ⊢
      clear ho8 hg8 A0 hn8
      refine hKK _ _ ⟨⟨w8,HQ8.out⟩,rfl⟩ (fun x=>∃y:Calm.OnB Q wz,x=y.1) (fun _ h=>h) ⟨⟨w8,HQ8.out⟩,rfl⟩ ?_
      go_frame
      repeat (go_big_quiet_step (fail))
      refine wpQuiet_nil ?_
      intro KK hKK
      rw[if_pos (by rfl)]
      go_wp2_with fail
      have HQ9:=aA (fun u=>(Below.heap_setCell w8 ⟨R,2,none⟩ u Q (by simp only;have:=HPZ.out.q;omega)).trans HQ8.out)
      refine hKK _ _ ⟨⟨w8.setCell ⟨R,2,none⟩ _,HQ9.out _⟩,rfl⟩ (fun x=>∃y:Calm.OnB Q wz,x=y.1) (fun _ h=>h) ⟨⟨w8.setCell ⟨R,2,none⟩ _,HQ9.out _⟩,rfl⟩ ?_
      refine wpQuiet_nil ?_
      clear hKK
      go_wp2
      go_end0
      refine⟨rfl,⟨?_,Fit.more HP.out.f ⟨HLI.out,HIN.out.2,HIN.out.1⟩,HPZ.out.t⟩,HW8.out.setCell A1.out.hR _,HK8.out.trans (KpT.set A1.out 2 _).a⟩
      rw[zay]
      exact⟨vT',vN',_,A1.out.set 2 _⟩
    ·subst e2
     obtain⟨hx1,hx2,hx3⟩:=HXP.out x hps
     obtain⟨hstep,hfit2⟩:=zcQ hsp hx1 HP.out.f
     obtain⟨hzin,ht2⟩:=zeJ hsp HP.out.t
     have HZ2:=aA hzin
     have HF2:=aA (And.intro hfit2 ht2)
     have HNM:=aA (fun(y:World)=>zau x.t hx1 y)
     rw[hx2]at HNM
     have HSY:=aA (fun(y:World) (h:Wk y B w.heap.size R tk ns rs lv) (hy:w.heap.size≤y.heap.size)=>zct L B w.heap.size R tk ts' ns rs lv z2 x false y h HP.out.f hx1 hx3 hy (Nat.le_trans hB hy) hstep HP.out.t h16)
     unfold aY at HSY
     have hne:(K.str x.t).toList.isEmpty=false:=zc2 hx2
     replace p3:wr.cell? ⟨w.heap.size,3,none⟩=some (.string (K.str x.t)):=by rw[p3,hps];rfl
     replace p4:wr.cell? ⟨w.heap.size,4,none⟩=some (.complex .f64 (Fl.fl (Pl.pos (L.take x.o)).1) (Fl.fl (Pl.pos (L.take x.o)).2)):=by rw[p4,hps];rfl
     have HC:=aA (HSY.out _ HP.out.b HP.out.w.size)
     clear hx1 hx2 hx3 hstep hfit2 hzin ht2 hsp HSY
     generalize K.str x.t=sx at *
     generalize Fl.fl (Pl.pos (L.take x.o)).1=X at *
     generalize Fl.fl (Pl.pos (L.take x.o)).2=Y at *
     go_wp2_with fail
     refine(HNM.out _).mono ?_;rintro _ _ ⟨rfl,rfl⟩
     go_wp2_with fail
     refine HC.out.mono ?_;rintro _ w2 ⟨rfl,hb2,hw2,hk2⟩
     have HP2:=aA (HP.out.call hb2 hw2 hk2 HF2.out.1 HF2.out.2)
     have q2:w2.cell? ⟨Q,2,none⟩=some (.int .i64 p):=cell_of_row w2 _ 2 _ _ _ HP2.out.qb
     have f2:=frozen_of_row w2 _ 2 _ _ HP2.out.qb
     have hQ2:=(Array.getElem?_eq_some_iff.1 HP2.out.qb).1
     clear hb2 hw2 hk2 p3 p4
     go_upto_region 20 with fail
     obtain⟨wz,hwz⟩:∃x,x=w2.setCell ⟨Q,2,none⟩ (.int .i64 z2):=⟨_,rfl⟩
     rw[←hwz]
     have HPZ:Hid (PrJ w wz B R Q ns rs lv ts' #[.string s0,.complex .f64 X0 Y0,.slice A pr.r.length c,.string (soS pr.p),.complex .f64 (soX L pr.p) (soY L pr.p)] lf v acc z2):=aA (by rw[hwz];exact HP2.out.setQ 2 (.int .i64 z2) rfl (HP2.out.o.set_away HP2.out.qb 2 _) hB)
     clear hwz q2 f2 hQ2
     obtain⟨vT',vN',vR',hfin⟩:=HPZ.out.b
     have HFB:=aA hfin
     obtain⟨_,_,⟨AR2,cR2,hvR⟩⟩:=zah hfin
     subst hvR
     obtain⟨Av,cv,hvv,hv1,hv2,hrow⟩:=HPZ.out.o.row hB
     subst hvv
     have c2:wz.cell? ⟨R,2,none⟩=some (.slice AR2 rs.length cR2):=(hfin.at 2).1
     have hRs:=(hfin.at 2).2.2
     have hQs:=(Array.getElem?_eq_some_iff.1 HPZ.out.qb).1
     have HROW:=aA (And.intro hv1 (And.intro hv2 hrow))
     clear hfin hrow hv1 hv2
     have E0:∀y:Calm.OnB Q wz,y.1.cell? ⟨Q,0,none⟩=some (.int .i64 lf):=fun y=>cell_of_row y.1 _ 0 _ _ _ (y.2.trans HPZ.out.qb)
     have E1:∀y:Calm.OnB Q wz,y.1.cell? ⟨Q,1,none⟩=some (.slice Av acc.length cv):=fun y=>cell_of_row y.1 _ 1 _ _ _ (y.2.trans HPZ.out.qb)
     have E2:∀y:Calm.OnB Q wz,y.1.cell? ⟨Q,2,none⟩=some (.int .i64 z2):=fun y=>cell_of_row y.1 _ 2 _ _ _ (y.2.trans HPZ.out.qb)
     refine CalmN.region_tree (fun x=>∃y:Calm.OnB Q wz,x=y.1) (.two [0,1,2,3,4,6] 5 (.one [] 7 (.one [] 8 (.one [9,10,11] 12 (.fin [])))) 7 (.one [] 5 (.one [] 8 (.one [9,10,11] 12 (.fin []))))) (by kernel_rfl) (by kernel_rfl) (fun _ _ d _ _ h=>by cases d <;> exact h) ⟨⟨wz.drew,rfl⟩,rfl⟩ ?_
     simp only[CalmN.wpT,CalmN.wpSt,CalmN.pickOps,List.getElem?_toArray,List.getElem?_cons_zero,List.getElem?_cons_succ]
     repeat (go_big_quiet_step (fail))
     refine wpQuiet_nil ?_
     clear E0 E1 E2
     have HQ1:=aA (fun o=>(Below.heap_alloc wz o Q hQs))
     refine⟨?_,?_⟩
     ·intro KK hKK
      rw[if_pos (by rfl)]
      go_wp2_with fail
      refine hKK _ _ ⟨⟨wz.drew,rfl⟩,rfl⟩ (fun x=>∃y:Calm.OnB Q wz,x=y.1) (fun _ h=>h) ⟨⟨wz.drew,rfl⟩,rfl⟩ ?_
      refine wpQuiet_nil ?_
      intro KK hKK
      rw[if_pos (by rfl)]
      go_wp2_with fail
      refine hKK _ _ ⟨⟨(wz.alloc _).drew,HQ1.out _⟩,rfl⟩ (fun x=>∃y:Calm.OnB Q wz,x=y.1) (fun _ h=>h) ⟨⟨(wz.alloc _).drew,HQ1.out _⟩,rfl⟩ ?_
      refine wpQuiet_nil ?_
      intro KK hKK
      rw[if_pos (by rfl)]
      obtain⟨wy,hwy⟩:∃x,x=(wz.alloc (.cells #[.int .i64 lf,.slice Av acc.length cv,.int .i64 z2] 41)).drew:=⟨_,rfl⟩
      rw[←hwy]
      have A0:Hid (WRaw wy B w.heap.size R (wC vT' vN' (.slice AR2 rs.length cR2) lv) vT' vN' (.slice AR2 rs.length cR2) ts' ns rs):=aA (by rw[hwy];exact(HFB.out.alloc (.cells #[.int .i64 lf,.slice Av acc.length cv,.int .i64 z2] 41)).drew9)
      have HWY:Hid (Below B w wy):=aA (by rw[hwy];exact aB (HPZ.out.w.alloc (Nat.le_trans hB HPZ.out.w.size) _) 1)
      have HKY:Hid (KpT w wy):=aA (by rw[hwy];exact HPZ.out.k.trans (KpT.below (aB ((Below.refl _ _).alloc (Nat.le_refl _) _) 1)))
      have HQY:Hid (wy.heap[Q]?=wz.heap[Q]?):=aA (by rw[hwy];exact HQ1.out _)
      have HZC:Hid (∀j u,(rlC (⟨lf,acc,z2⟩,Av,cv))[j]?=some u→wy.cell? ⟨wz.heap.size,j,none⟩=some u):=aA (fun j u hj=>by rw[hwy];exact(aI wz (rlC (⟨lf,acc,z2⟩,Av,cv)) 41 j).trans hj)
      have HRW2:Hid (zcL wy B wy.heap.size Av acc):=aA (by
       rw[hwy]
       exact(HROW.out.2.2.grown (w':=(wz.alloc (.cells #[.int .i64 lf,.slice Av acc.length cv,.int .i64 z2] 41)).drew) (row:=none) ((World.grownBy_alloc wz (.cells #[.int .i64 lf,.slice Av acc.length cv,.int .i64 z2] 41) none).trans (aG _ none)) (fun g e=>by cases e)).more (by show wz.heap.size≤(wz.alloc _).heap.size;simp))
      have HSW:Hid (w.heap.size≤wy.heap.size):=aA HWY.out.size
      clear hwy
      refine zaT (.tmp 102) (.tmp 104) _ rfl Tryz.underlying24 B w.heap.size _ rs rfl A0.out.r _ _ (⟨lf,acc,z2⟩,Av,cv) rfl HZC.out ⟨HROW.out.1,HROW.out.2.1,HRW2.out⟩ (by omega) (Nat.le_trans hB HSW.out) HSW.out ?_
      intro v8 w8 ho8 hg8
      have A1:=aA ((A0.out.more (Nat.le_trans HSW.out hg8.size)).r_put ho8 hg8)
      obtain⟨A8,c8,rfl,_,_⟩:=zak ho8
      have HQ8:Hid (w8.heap[Q]?=wz.heap[Q]?):=aA ((hg8.block Q (by have:=(Array.getElem?_eq_some_iff.1 (HQY.out.trans HPZ.out.qb)).1;exact this) (fun e=>by
       obtain⟨_,_,_,h3,_⟩:=A0.out.r
       have:=h3 _ e.symm
       have:=HPZ.out.q
       omega)).trans HQY.out)
      have HK8:Hid (KpA w w8):=aA (HKY.out.a.trans (by obtain⟨_,_,h2,_⟩:=A0.out.r;exact KpA.own h2 hg8 (.inr (.inr rfl))))
      have HW8:Hid (Below B w w8):=aA (HWY.out.grown hg8 (Nat.le_trans hB HSW.out) (fun k e=>by obtain⟨_,_,h2,_⟩:=A0.out.r;exact(aH h2 e).1))
      obtain⟨n8,hn8⟩:∃n,n=(rs++[(⟨lf,acc,z2⟩:Gm.Rl)]).length:=⟨_,rfl⟩
      have c28:w8.cell? ⟨R,2,none⟩=some (.slice AR2 rs.length cR2):=(A1.out.at 2).1
      have f28:=(A1.out.at 2).2.1
      have hR8:=(A1.out.at 2).2.2
      rw[←hn8]at A1 ⊢
      clear ho8 hg8 A0 hn8
      refine hKK _ _ ⟨⟨w8,HQ8.out⟩,rfl⟩ (fun x=>∃y:Calm.OnB Q wz,x=y.1) (fun _ h=>h) ⟨⟨w8,HQ8.out⟩,rfl⟩ ?_
      go_frame
      repeat (go_big_quiet_step (fail))
      refine wpQuiet_nil ?_
      intro KK hKK
      rw[if_pos (by rfl)]
      go_wp2_with fail
      have HQ9:=aA (fun u=>(Below.heap_setCell w8 ⟨R,2,none⟩ u Q (by simp only;have:=HPZ.out.q;omega)).trans HQ8.out)
      refine hKK _ _ ⟨⟨w8.setCell ⟨R,2,none⟩ _,HQ9.out _⟩,rfl⟩ (fun x=>∃y:Calm.OnB Q wz,x=y.1) (fun _ h=>h) ⟨⟨w8.setCell ⟨R,2,none⟩ _,HQ9.out _⟩,rfl⟩ ?_
      refine wpQuiet_nil ?_
      clear hKK
      go_wp2
      go_end0
      refine⟨rfl,⟨?_,Fit.more HP2.out.f ⟨HLI.out,HZ2.out,HIN.out.1⟩,HPZ.out.t⟩,HW8.out.setCell A1.out.hR _,HK8.out.trans (KpT.set A1.out 2 _).a⟩
      rw[zay]
      exact⟨vT',vN',_,A1.out.set 2 _⟩
     ·intro KK hKK
      rw[if_pos (by rfl)]
      go_wp2_with fail
      refine hKK _ _ ⟨⟨(wz.alloc _).drew,HQ1.out _⟩,rfl⟩ (fun x=>∃y:Calm.OnB Q wz,x=y.1) (fun _ h=>h) ⟨⟨(wz.alloc _).drew,HQ1.out _⟩,rfl⟩ ?_
      refine wpQuiet_nil ?_
      intro KK hKK
      rw[if_pos (by rfl)]
      go_wp2_with fail
      refine hKK _ _ ⟨⟨(wz.alloc _).drew,HQ1.out _⟩,rfl⟩ (fun x=>∃y:Calm.OnB Q wz,x=y.1) (fun _ h=>h) ⟨⟨(wz.alloc _).drew,HQ1.out _⟩,rfl⟩ ?_
      refine wpQuiet_nil ?_
      intro KK hKK
      rw[if_pos (by rfl)]
      obtain⟨wy,hwy⟩:∃x,x=(wz.alloc (.cells #[.int .i64 lf,.slice Av acc.length cv,.int .i64 z2] 41)).drew:=⟨_,rfl⟩
      rw[←hwy]
      have A0:Hid (WRaw wy B w.heap.size R (wC vT' vN' (.slice AR2 rs.length cR2) lv) vT' vN' (.slice AR2 rs.length cR2) ts' ns rs):=aA (by rw[hwy];exact(HFB.out.alloc (.cells #[.int .i64 lf,.slice Av acc.length cv,.int .i64 z2] 41)).drew9)
      have HWY:Hid (Below B w wy):=aA (by rw[hwy];exact aB (HPZ.out.w.alloc (Nat.le_trans hB HPZ.out.w.size) _) 1)
      have HKY:Hid (KpT w wy):=aA (by rw[hwy];exact HPZ.out.k.trans (KpT.below (aB ((Below.refl _ _).alloc (Nat.le_refl _) _) 1)))
      have HQY:Hid (wy.heap[Q]?=wz.heap[Q]?):=aA (by rw[hwy];exact HQ1.out _)
      have HZC:Hid (∀j u,(rlC (⟨lf,acc,z2⟩,Av,cv))[j]?=some u→wy.cell? ⟨wz.heap.size,j,none⟩=some u):=aA (fun j u hj=>by rw[hwy];exact(aI wz (rlC (⟨lf,acc,z2⟩,Av,cv)) 41 j).trans hj)
      have HRW2:Hid (zcL wy B wy.heap.size Av acc):=aA (by
       rw[hwy]
       exact(HROW.out.2.2.grown (w':=(wz.alloc (.cells #[.int .i64 lf,.slice Av acc.length cv,.int .i64 z2] 41)).drew) (row:=none) ((World.grownBy_alloc wz (.cells #[.int .i64 lf,.slice Av acc.length cv,.int .i64 z2] 41) none).trans (aG _ none)) (fun g e=>by cases e)).more (by show wz.heap.size≤(wz.alloc _).heap.size;simp))
      have HSW:Hid (w.heap.size≤wy.heap.size):=aA HWY.out.size
      clear hwy
      refine zaT (.tmp 102) (.tmp 104) _ rfl Tryz.underlying24 B w.heap.size _ rs rfl A0.out.r _ _ (⟨lf,acc,z2⟩,Av,cv) rfl HZC.out ⟨HROW.out.1,HROW.out.2.1,HRW2.out⟩ (by omega) (Nat.le_trans hB HSW.out) HSW.out ?_
      intro v8 w8 ho8 hg8
      have A1:=aA ((A0.out.more (Nat.le_trans HSW.out hg8.size)).r_put ho8 hg8)
      obtain⟨A8,c8,rfl,_,_⟩:=zak ho8
      have HQ8:Hid (w8.heap[Q]?=wz.heap[Q]?):=aA ((hg8.block Q (by have:=(Array.getElem?_eq_some_iff.1 (HQY.out.trans HPZ.out.qb)).1;exact this) (fun e=>by
       obtain⟨_,_,_,h3,_⟩:=A0.out.r
       have:=h3 _ e.symm
       have:=HPZ.out.q
       omega)).trans HQY.out)
      have HK8:Hid (KpA w w8):=aA (HKY.out.a.trans (by obtain⟨_,_,h2,_⟩:=A0.out.r;exact KpA.own h2 hg8 (.inr (.inr rfl))))
      have HW8:Hid (Below B w w8):=aA (HWY.out.grown hg8 (Nat.le_trans hB HSW.out) (fun k e=>by obtain⟨_,_,h2,_⟩:=A0.out.r;exact(aH h2 e).1))
      obtain⟨n8,hn8⟩:∃n,n=(rs++[(⟨lf,acc,z2⟩:Gm.Rl)]).length:=⟨_,rfl⟩
      have c28:w8.cell? ⟨R,2,none⟩=some (.slice AR2 rs.length cR2):=(A1.out.at 2).1
      have f28:=(A1.out.at 2).2.1
      have hR8:=(A1.out.at 2).2.2
      rw[←hn8]at A1 ⊢
      clear ho8 hg8 A0 hn8
      refine hKK _ _ ⟨⟨w8,HQ8.out⟩,rfl⟩ (fun x=>∃y:Calm.OnB Q wz,x=y.1) (fun _ h=>h) ⟨⟨w8,HQ8.out⟩,rfl⟩ ?_
      go_frame
      repeat (go_big_quiet_step (fail))
      refine wpQuiet_nil ?_
      intro KK hKK
      rw[if_pos (by rfl)]
      go_wp2_with fail
      have HQ9:=aA (fun u=>(Below.heap_setCell w8 ⟨R,2,none⟩ u Q (by simp only;have:=HPZ.out.q;omega)).trans HQ8.out)
      refine hKK _ _ ⟨⟨w8.setCell ⟨R,2,none⟩ _,HQ9.out _⟩,rfl⟩ (fun x=>∃y:Calm.OnB Q wz,x=y.1) (fun _ h=>h) ⟨⟨w8.setCell ⟨R,2,none⟩ _,HQ9.out _⟩,rfl⟩ ?_
      refine wpQuiet_nil ?_
      clear hKK
      go_wp2
      go_end0
      refine⟨rfl,⟨?_,Fit.more HP2.out.f ⟨HLI.out,HZ2.out,HIN.out.1⟩,HPZ.out.t⟩,HW8.out.setCell A1.out.hR _,HK8.out.trans (KpT.set A1.out 2 _).a⟩
      rw[zay]
      exact⟨vT',vN',_,A1.out.set 2 _⟩
 ·intro KK hKK
  rw[if_pos (by rfl)]
  go_wp2_with fail
  refine hKK _ _ ⟨⟨_,HDb.out _⟩,rfl⟩ (fun x=>∃y:Calm.On w1.heap.size w1,x=y.1) (fun _ h=>h) ⟨⟨_,HDb.out _⟩,rfl⟩ ?_
  refine wpQuiet_nil ?_
  intro KK hKK
  rw[if_pos (by rfl)]
  go_wp2_with fail
  have HBz:Hid (Below w1.heap.size w1 (w1.alloc (.cells #[.int .i64 0,.slice none 0 0,.int .i64 0] 41)).drew):=aA (aB ((Below.refl _ w1).alloc (Nat.le_refl _) _) 1)
  refine(HNO.out _ _ (HQw1.out.below HBz.out) (by have:=HBz.out.size;omega)).mono ?_;rintro _ w2 ⟨rfl,hb2⟩
  have HB2:=aA (HBz.out.trans (hb2.mono HBz.out.size))
  have HZ2:Hid (w2.heap[w1.heap.size]?=some (.cells #[.int .i64 0,.slice none 0 0,.int .i64 0] 41 (0,0))):=aA ((hb2.block w1.heap.size (by show w1.heap.size<(w1.alloc _).heap.size;simp)).trans (heap_alloc_new w1 _))
  have hz2:w1.heap.size<w2.heap.size:=(Array.getElem?_eq_some_iff.1 HZ2.out).1
  clear hb2
  go_wp2_with fail
  refine hKK _ _ ⟨⟨w2,HB2.out⟩,rfl⟩ (fun x=>∃y:Calm.On w1.heap.size w1,x=y.1) (fun _ h=>h) ⟨⟨w2,HB2.out⟩,rfl⟩ ?_
  repeat (go_big_quiet_step (fail))
  refine wpQuiet_nil ?_
  intro KK hKK
  rw[if_pos (by rfl)]
  obtain⟨Q,hQ⟩:∃x,x=w.heap.size+1:=⟨_,rfl⟩
  rw[←hQ]
  have hQ1:w1.heap.size=Q:=by omega
  rw[hQ1]at HZ2 HB2
  have HB3:=aA (fun u0 u1 u2=>((HB2.out.setCell (p:=⟨Q,0,none⟩) (Nat.le_refl _) u0).setCell (p:=⟨Q,1,none⟩) (Nat.le_refl _) u1).setCell (p:=⟨Q,2,none⟩) (Nat.le_refl _) u2)
  have HQS:Hid (w.heap.size<Q∧w1.heap.size=Q):=aA (by omega)
  have z0:=frozen_of_row w2 _ 0 _ _ HZ2.out
  have z1:=frozen_of_row w2 _ 1 _ _ HZ2.out
  have z2:=frozen_of_row w2 _ 2 _ _ HZ2.out
  have y0:w2.cell? ⟨Q,0,none⟩=some (.int .i64 0):=by rw[cell_of_row w2 _ 0 _ _ _ HZ2.out];rfl
  have y1:w2.cell? ⟨Q,1,none⟩=some (.slice none 0 0):=by rw[cell_of_row w2 _ 1 _ _ _ HZ2.out];rfl
  have y2:w2.cell? ⟨Q,2,none⟩=some (.int .i64 0):=by rw[cell_of_row w2 _ 2 _ _ _ HZ2.out];rfl
  have hz2:Q<w2.heap.size:=(Array.getElem?_eq_some_iff.1 HZ2.out).1
  clear hQ hQ1 hs1 hd1
  go_wp2_with fail
  refine hKK _ _ ⟨⟨_,by rw[HQS.out.2];exact HB3.out _ _ _⟩,rfl⟩ (fun x=>∃y:Calm.On w1.heap.size w1,x=y.1) (fun _ h=>h) ⟨⟨_,by rw[HQS.out.2];exact HB3.out _ _ _⟩,rfl⟩ ?_
  refine wpQuiet_nil ?_
  clear hKK RB
  obtain⟨wq,hwq⟩:∃x,x=((w2.setCell ⟨Q,0,none⟩ (.int .i64 lf)).setCell ⟨Q,1,none⟩ (.slice none 0 0)).setCell ⟨Q,2,none⟩ (.int .i64 (-1)):=⟨_,rfl⟩
  rw[←hwq]
  have HPX:Hid (PrJ w wq B R Q ns rs lv ts #[.string s0,.complex .f64 X0 Y0,.slice A pr.r.length c,.string (soS pr.p),.complex .f64 (soX L pr.p) (soY L pr.p)] lf (.slice none 0 0) [] (-1)):=aA (by
   have hb1:Below w1.heap.size w1 wq:=by rw[hwq,HQS.out.2];exact HB3.out _ _ _
   have hbw:Below w.heap.size w wq:=HW1.out.trans (hb1.mono HW1.out.size)
   have hd1:w.heap.size<w1.heap.size:=by have:=HQS.out;omega
   exact⟨⟨_,_,_,HQw1.out.below hb1⟩,HF.out,h24,hbw.mono hB,KpT.below hbw,HQS.out.1,(hb1.block w.heap.size hd1).trans HP1.out,by rw[hwq];exact heap_setCell_same _ _ 2 _ _ _ (heap_setCell_same _ _ 1 _ _ _ (heap_setCell_same _ _ 0 _ _ _ HZ2.out)),zbp _ _⟩)
  clear hwq HB2 HB3 hz2 HNO HQw1 HP1 HW1 HRB HDa HDb hR1 HRW z0 z1 z2 y0 y1 y2 HZ2 HQS HBz
  have HEX:=aA (Array.getElem?_eq_some_iff.1 HPX.out.pb).1
  obtain⟨vTq,vNq,vRq,hwq⟩:=HPX.out.b
  obtain⟨_,_,⟨ARq,cRq,rfl⟩⟩:=zah hwq
  obtain⟨k2,_,hRq⟩:=hwq.at 2
  simp only[wC,List.getElem?_toArray,List.getElem?_cons_zero,List.getElem?_cons_succ]at k2
  have e40:((rs.length:Int)==40)=false:=beq_eq_false_iff_ne.2 (by omega)
  clear hwq
  go_wp2
  clear k2 hRq e40
  go_loopw [5] (fun vi wr=>∃(i:Nat) (tk:List Gm.Tm) (acc:List Int) (p:Int) (v:Value),i≤pr.r.length∧vi=.int .i64 i∧acc.length=i∧Hid (Gm.rights ns tk acc p (pr.r.drop i)=.ok (tz,az,pz))∧Hid ((∀z∈acc,Gm.In z)∧Gm.In p)∧Hid (PrJ w wr B R Q ns rs lv tk #[.string s0,.complex .f64 X0 Y0,.slice A pr.r.length c,.string (soS pr.p),.complex .f64 (soX L pr.p) (soY L pr.p)] lf v acc p)) (fun vi _=>pr.r.length-(intOf vi).toNat)
  case atStart=>exact⟨0,ts,[],-1,.slice none 0 0,Nat.zero_le _,rfl,rfl,HRT,aA ⟨by simp,by unfold Gm.In;omega⟩,HPX⟩
  case round =>
   clear HPX HEX
   obtain⟨i,tk,acc,p,v,hi,rfl,hai,HE,HIN,HP⟩:=hrel
   have HAI:=aA hai
   have p2:wr.cell? ⟨w.heap.size,2,none⟩=some (.slice A pr.r.length c):=cell_of_row wr _ 2 _ _ _ HP.out.pb
   have hPs:=(Array.getElem?_eq_some_iff.1 HP.out.pb).1
   obtain⟨vTr,vNr,vRr,hwr⟩:=HP.out.b
   have f10:=(hwr.at 10).1
   have hRr:=hwr.lt
   simp only[wC,List.getElem?_toArray,List.getElem?_cons_zero,List.getElem?_cons_succ]at f10
   clear hwr hai
   by_cases hlt:i<pr.r.length
   ·obtain⟨g,o,rfl,hgB,hc⟩:=HR.out (by omega)
    have k0:=(HP.out.w.cell (p:=⟨g,o+i*2,none⟩) hgB).trans (hc i hlt).1
    have k1:=(HP.out.w.cell (p:=⟨g,o+i*2+1,none⟩) hgB).trans (hc i hlt).2
    have hBs:=HP.out.w.size
    have hgs:g<wr.heap.size:=by omega
    obtain⟨hx1,hx2,hx3⟩:=HDX.out i hlt
    have hE:=HE.out
    rw[zbG hlt]at hE
    have h6:acc.length≠6:=fun q=>by rw[if_pos q]at hE;cases hE
    rw[if_neg h6]at hE
    obtain⟨⟨t2,zz⟩,hs,hE2⟩:=Gm.R.bind_eq hE
    simp only at hE2
    have HE2:=aA hE2
    obtain⟨hstep,hfit2⟩:=zcP hs hx1 HP.out.f
    obtain⟨hzin,ht2⟩:=zeI hs HP.out.t h16
    have HF2:=aA (And.intro hfit2 (And.intro ht2 hzin))
    have e6:((i:Int)==6)=false:=beq_eq_false_iff_ne.2 (by have:=HAI.out;omega)
    have HNM:=aA (fun(y:World)=>zau pr.r[i].t hx1 y)
    rw[hx2]at HNM
    have HSY:=aA (fun(y:World) (h:Wk y B w.heap.size R tk ns rs lv) (hy:w.heap.size≤y.heap.size)=>zct L B w.heap.size R tk t2 ns rs lv zz pr.r[i] true y h HP.out.f hx1 hx3 hy (Nat.le_trans hB hy) hstep HP.out.t h16)
    unfold aY at HSY
    clear hc hE hE2 hs hstep hfit2 hzin ht2 hx1 hx2 hx3 h6
    unfold rfX rfY at k1
    generalize K.str pr.r[i].t=sx at *
    generalize Fl.fl (Pl.pos (L.take pr.r[i].o)).1=X at *
    generalize Fl.fl (Pl.pos (L.take pr.r[i].o)).2=Y at *
    have HPA:=aA (HP.out.alloc (.cells #[.string sx,.complex .f64 X Y] 94) hB)
    have HCR:=aA (heap_alloc_new wr (.cells #[.string sx,.complex .f64 X Y] 94))
    have HC:=aA (HSY.out _ HPA.out.b HPA.out.w.size)
    go_wp2_with fail
    refine(HNM.out _).mono ?_;rintro _ _ ⟨rfl,rfl⟩
    go_wp2_with fail
    refine HC.out.mono ?_;rintro _ w2 ⟨rfl,hb2,hw2,hk2⟩
    have HP2:=aA (HPA.out.call hb2 hw2 hk2 HF2.out.1 HF2.out.2.1)
    obtain⟨Av,nv,cv,hvv⟩:=zaD HP2.out.o
    subst hvv
    have q1:w2.cell? ⟨Q,1,none⟩=some (.slice Av nv cv):=cell_of_row w2 _ 1 _ _ _ HP2.out.qb
    have hQs:=(Array.getElem?_eq_some_iff.1 HP2.out.qb).1
    have HP3:=aA (HP2.out.alloc (.cells #[.int .i64 zz] 3) hB)
    have HS2:Hid (w.heap.size≤w2.heap.size):=aA HP2.out.w.size
    have hil:acc.length≤1000000000000:=by have:=HAI.out;omega
    clear hb2 hw2 hk2 p2 f10 k0 k1 HC HSY HNM
    by_cases hzp:0≤zz
    ·have HX:Hid (Gm.rights ns t2 (acc++[zz]) zz (pr.r.drop (i+1))=.ok (tz,az,pz)):=aA (by have h:=HE2.out;rw[if_pos hzp]at h;exact h)
     have e:decide (0≤zz)=true:=decide_eq_true hzp
     go_wp2_with (refine zaU rfl (.tmp 63) (.tmp 65) _ rfl Tryz.underlying30 w.heap.size _ acc rfl HP3.out.o _ _ zz rfl (aI w2 [.int .i64 zz] 3 0) hil (by have:=HS2.out;simp;omega) ?_;intro v4 w4 ho4 hg4;obtain⟨A4,n4,c4,rfl⟩:=zaD ho4;have happ:=aA (HP3.out.app ho4 hg4 hB);have q41:w4.cell? ⟨Q,1,none⟩=some (.slice Av nv cv):=cell_of_row w4 _ 1 _ _ _ happ.out.1;have q42:w4.cell? ⟨Q,2,none⟩=some (.int .i64 p):=cell_of_row w4 _ 2 _ _ _ happ.out.1;have f41:=frozen_of_row w4 _ 1 _ _ happ.out.1;have f42:=frozen_of_row w4 _ 2 _ _ happ.out.1;have hQ4:=(Array.getElem?_eq_some_iff.1 happ.out.1).1;clear ho4 hg4)
     go_roundw
     case rel=>exact⟨i+1,t2,acc++[zz],zz,.slice A4 n4 c4,hlt,by go_num,by rw[List.length_append,List.length_singleton,HAI.out],HX,aA ⟨fun z hz=>by rcases List.mem_append.1 hz with q|q;exact HIN.out.1 z q;rw[List.mem_singleton.1 q];exact HF2.out.2.2,HF2.out.2.2⟩,aA (happ.out.2.setQ 2 (.int .i64 zz) rfl (happ.out.2.o.set_away happ.out.2.qb 2 _) hB)⟩
     case measure=>simp[intOf];omega
    ·have HX:Hid (Gm.rights ns t2 (acc++[zz]) p (pr.r.drop (i+1))=.ok (tz,az,pz)):=aA (by have h:=HE2.out;rw[if_neg hzp]at h;exact h)
     have e:decide (0≤zz)=false:=decide_eq_false hzp
     go_wp2_with (refine zaU rfl (.tmp 63) (.tmp 65) _ rfl Tryz.underlying30 w.heap.size _ acc rfl HP3.out.o _ _ zz rfl (aI w2 [.int .i64 zz] 3 0) hil (by have:=HS2.out;simp;omega) ?_;intro v4 w4 ho4 hg4;obtain⟨A4,n4,c4,rfl⟩:=zaD ho4;have happ:=aA (HP3.out.app ho4 hg4 hB);have q41:w4.cell? ⟨Q,1,none⟩=some (.slice Av nv cv):=cell_of_row w4 _ 1 _ _ _ happ.out.1;have q42:w4.cell? ⟨Q,2,none⟩=some (.int .i64 p):=cell_of_row w4 _ 2 _ _ _ happ.out.1;have f41:=frozen_of_row w4 _ 1 _ _ happ.out.1;have f42:=frozen_of_row w4 _ 2 _ _ happ.out.1;have hQ4:=(Array.getElem?_eq_some_iff.1 happ.out.1).1;clear ho4 hg4)
     go_roundw
     case rel=>exact⟨i+1,t2,acc++[zz],p,.slice A4 n4 c4,hlt,by go_num,by rw[List.length_append,List.length_singleton,HAI.out],HX,aA ⟨fun z hz=>by rcases List.mem_append.1 hz with q|q;exact HIN.out.1 z q;rw[List.mem_singleton.1 q];exact HF2.out.2.2,HIN.out.2⟩,aA happ.out.2⟩
     case measure=>simp[intOf];omega
   ·obtain rfl:i=pr.r.length:=by omega
    have hE:=HE.out
    rw[zca (Nat.le_refl _)]at hE
    injection hE with hE
    injection hE with e1 hE
    injection hE with e2 e3
    subst e1
    subst e2
    subst e3
    have p3:wr.cell? ⟨w.heap.size,3,none⟩=some (.string (soS pr.p)):=cell_of_row wr _ 3 _ _ _ HP.out.pb
    have p4:wr.cell? ⟨w.heap.size,4,none⟩=some (.complex .f64 (soX L pr.p) (soY L pr.p)):=cell_of_row wr _ 4 _ _ _ HP.out.pb
    rcases HLAST.out with⟨hpn,e1,e2⟩|⟨x,z2,hps,hsp,e2⟩
    ·subst e1
     subst e2
     replace p3:wr.cell? ⟨w.heap.size,3,none⟩=some (.string ⟨#[]⟩):=by rw[p3,hpn];rfl
     clear p4
     go_wp2_with fail
     obtain⟨wz,hwz⟩:∃x,x=wr:=⟨_,rfl⟩
     rw[←hwz]
     have HPZ:Hid (PrJ w wz B R Q ns rs lv ts' #[.string s0,.complex .f64 X0 Y0,.slice A pr.r.length c,.string (soS pr.p),.complex .f64 (soX L pr.p) (soY L pr.p)] lf v acc p):=aA (by rw[hwz];exact HP.out)
     clear hwz p3
     obtain⟨vT',vN',vR',hfin⟩:=HPZ.out.b
     have HFB:=aA hfin
     obtain⟨_,_,⟨AR2,cR2,hvR⟩⟩:=zah hfin
     subst hvR
     obtain⟨Av,cv,hvv,hv1,hv2,hrow⟩:=HPZ.out.o.row hB
     subst hvv
     have c2:wz.cell? ⟨R,2,none⟩=some (.slice AR2 rs.length cR2):=(hfin.at 2).1
     have hRs:=(hfin.at 2).2.2
     have hQs:=(Array.getElem?_eq_some_iff.1 HPZ.out.qb).1
     have HROW:=aA (And.intro hv1 (And.intro hv2 hrow))
     clear hfin hrow hv1 hv2
     have E0:∀y:Calm.OnB Q wz,y.1.cell? ⟨Q,0,none⟩=some (.int .i64 lf):=fun y=>cell_of_row y.1 _ 0 _ _ _ (y.2.trans HPZ.out.qb)
     have E1:∀y:Calm.OnB Q wz,y.1.cell? ⟨Q,1,none⟩=some (.slice Av acc.length cv):=fun y=>cell_of_row y.1 _ 1 _ _ _ (y.2.trans HPZ.out.qb)
     have E2:∀y:Calm.OnB Q wz,y.1.cell? ⟨Q,2,none⟩=some (.int .i64 p):=fun y=>cell_of_row y.1 _ 2 _ _ _ (y.2.trans HPZ.out.qb)
     refine CalmN.region_tree (fun x=>∃y:Calm.OnB Q wz,x=y.1) (.two [0,1,2,3,4,6] 5 (.one [] 7 (.one [] 8 (.one [9,10,11] 12 (.fin [])))) 7 (.one [] 5 (.one [] 8 (.one [9,10,11] 12 (.fin []))))) (by kernel_rfl) (by kernel_rfl) (fun _ _ d _ _ h=>by cases d <;> exact h) ⟨⟨wz.drew,rfl⟩,rfl⟩ ?_
     simp only[CalmN.wpT,CalmN.wpSt,CalmN.pickOps,List.getElem?_toArray,List.getElem?_cons_zero,List.getElem?_cons_succ]
     repeat (go_big_quiet_step (fail))
     refine wpQuiet_nil ?_
     clear E0 E1 E2
     have HQ1:=aA (fun o=>(Below.heap_alloc wz o Q hQs))
     refine⟨?_,?_⟩
     ·intro KK hKK
      rw[if_pos (by rfl)]
      go_wp2_with fail
      refine hKK _ _ ⟨⟨wz.drew,rfl⟩,rfl⟩ (fun x=>∃y:Calm.OnB Q wz,x=y.1) (fun _ h=>h) ⟨⟨wz.drew,rfl⟩,rfl⟩ ?_
      refine wpQuiet_nil ?_
      intro KK hKK
      rw[if_pos (by rfl)]
      go_wp2_with fail
      refine hKK _ _ ⟨⟨(wz.alloc _).drew,HQ1.out _⟩,rfl⟩ (fun x=>∃y:Calm.OnB Q wz,x=y.1) (fun _ h=>h) ⟨⟨(wz.alloc _).drew,HQ1.out _⟩,rfl⟩ ?_
      refine wpQuiet_nil ?_
      intro KK hKK
      rw[if_pos (by rfl)]
      obtain⟨wy,hwy⟩:∃x,x=(wz.alloc (.cells #[.int .i64 lf,.slice Av acc.length cv,.int .i64 p] 41)).drew:=⟨_,rfl⟩
      rw[←hwy]
      have A0:Hid (WRaw wy B w.heap.size R (wC vT' vN' (.slice AR2 rs.length cR2) lv) vT' vN' (.slice AR2 rs.length cR2) ts' ns rs):=aA (by rw[hwy];exact(HFB.out.alloc (.cells #[.int .i64 lf,.slice Av acc.length cv,.int .i64 p] 41)).drew9)
      have HWY:Hid (Below B w wy):=aA (by rw[hwy];exact aB (HPZ.out.w.alloc (Nat.le_trans hB HPZ.out.w.size) _) 1)
      have HKY:Hid (KpT w wy):=aA (by rw[hwy];exact HPZ.out.k.trans (KpT.below (aB ((Below.refl _ _).alloc (Nat.le_refl _) _) 1)))
      have HQY:Hid (wy.heap[Q]?=wz.heap[Q]?):=aA (by rw[hwy];exact HQ1.out _)
      have HZC:Hid (∀j u,(rlC (⟨lf,acc,p⟩,Av,cv))[j]?=some u→wy.cell? ⟨wz.heap.size,j,none⟩=some u):=aA (fun j u hj=>by rw[hwy];exact(aI wz (rlC (⟨lf,acc,p⟩,Av,cv)) 41 j).trans hj)
      have HRW2:Hid (zcL wy B wy.heap.size Av acc):=aA (by
       rw[hwy]
       exact(HROW.out.2.2.grown (w':=(wz.alloc (.cells #[.int .i64 lf,.slice Av acc.length cv,.int .i64 p] 41)).drew) (row:=none) ((World.grownBy_alloc wz (.cells #[.int .i64 lf,.slice Av acc.length cv,.int .i64 p] 41) none).trans (aG _ none)) (fun g e=>by cases e)).more (by show wz.heap.size≤(wz.alloc _).heap.size;simp))
      have HSW:Hid (w.heap.size≤wy.heap.size):=aA HWY.out.size
      clear hwy
      refine zaT (.tmp 102) (.tmp 104) _ rfl Tryz.underlying24 B w.heap.size _ rs rfl A0.out.r _ _ (⟨lf,acc,p⟩,Av,cv) rfl HZC.out ⟨HROW.out.1,HROW.out.2.1,HRW2.out⟩ (by omega) (Nat.le_trans hB HSW.out) HSW.out ?_
      intro v8 w8 ho8 hg8
      have A1:=aA ((A0.out.more (Nat.le_trans HSW.out hg8.size)).r_put ho8 hg8)
      obtain⟨A8,c8,rfl,_,_⟩:=zak ho8
      have HQ8:Hid (w8.heap[Q]?=wz.heap[Q]?):=aA ((hg8.block Q (by have:=(Array.getElem?_eq_some_iff.1 (HQY.out.trans HPZ.out.qb)).1;exact this) (fun e=>by
       obtain⟨_,_,_,h3,_⟩:=A0.out.r
       have:=h3 _ e.symm
       have:=HPZ.out.q
       omega)).trans HQY.out)
      have HK8:Hid (KpA w w8):=aA (HKY.out.a.trans (by obtain⟨_,_,h2,_⟩:=A0.out.r;exact KpA.own h2 hg8 (.inr (.inr rfl))))
      have HW8:Hid (Below B w w8):=aA (HWY.out.grown hg8 (Nat.le_trans hB HSW.out) (fun k e=>by obtain⟨_,_,h2,_⟩:=A0.out.r;exact(aH h2 e).1))
      obtain⟨n8,hn8⟩:∃n,n=(rs++[(⟨lf,acc,p⟩:Gm.Rl)]).length:=⟨_,rfl⟩
      have c28:w8.cell? ⟨R,2,none⟩=some (.slice AR2 rs.length cR2):=(A1.out.at 2).1
      have f28:=(A1.out.at 2).2.1
      have hR8:=(A1.out.at 2).2.2
      rw[←hn8]at A1 ⊢
      clear ho8 hg8 A0 hn8
      refine hKK _ _ ⟨⟨w8,HQ8.out⟩,rfl⟩ (fun x=>∃y:Calm.OnB Q wz,x=y.1) (fun _ h=>h) ⟨⟨w8,HQ8.out⟩,rfl⟩ ?_
      go_frame
      repeat (go_big_quiet_step (fail))
      refine wpQuiet_nil ?_
      intro KK hKK
      rw[if_pos (by rfl)]
      go_wp2_with fail
      have HQ9:=aA (fun u=>(Below.heap_setCell w8 ⟨R,2,none⟩ u Q (by simp only;have:=HPZ.out.q;omega)).trans HQ8.out)
      refine hKK _ _ ⟨⟨w8.setCell ⟨R,2,none⟩ _,HQ9.out _⟩,rfl⟩ (fun x=>∃y:Calm.OnB Q wz,x=y.1) (fun _ h=>h) ⟨⟨w8.setCell ⟨R,2,none⟩ _,HQ9.out _⟩,rfl⟩ ?_
      refine wpQuiet_nil ?_
      clear hKK
      go_wp2
      go_end0
      refine⟨rfl,⟨?_,Fit.more HP.out.f ⟨HLI.out,HIN.out.2,HIN.out.1⟩,HPZ.out.t⟩,HW8.out.setCell A1.out.hR _,HK8.out.trans (KpT.set A1.out 2 _).a⟩
      rw[zay]
      exact⟨vT',vN',_,A1.out.set 2 _⟩
     ·intro KK hKK
      rw[if_pos (by rfl)]
      go_wp2_with fail
      refine hKK _ _ ⟨⟨(wz.alloc _).drew,HQ1.out _⟩,rfl⟩ (fun x=>∃y:Calm.OnB Q wz,x=y.1) (fun _ h=>h) ⟨⟨(wz.alloc _).drew,HQ1.out _⟩,rfl⟩ ?_
      refine wpQuiet_nil ?_
      intro KK hKK
      rw[if_pos (by rfl)]
      go_wp2_with fail
      refine hKK _ _ ⟨⟨(wz.alloc _).drew,HQ1.out _⟩,rfl⟩ (fun x=>∃y:Calm.OnB Q wz,x=y.1) (fun _ h=>h) ⟨⟨(wz.alloc _).drew,HQ1.out _⟩,rfl⟩ ?_
      refine wpQuiet_nil ?_
      intro KK hKK
      rw[if_pos (by rfl)]
      obtain⟨wy,hwy⟩:∃x,x=(wz.alloc (.cells #[.int .i64 lf,.slice Av acc.length cv,.int .i64 p] 41)).drew:=⟨_,rfl⟩
      rw[←hwy]
      have A0:Hid (WRaw wy B w.heap.size R (wC vT' vN' (.slice AR2 rs.length cR2) lv) vT' vN' (.slice AR2 rs.length cR2) ts' ns rs):=aA (by rw[hwy];exact(HFB.out.alloc (.cells #[.int .i64 lf,.slice Av acc.length cv,.int .i64 p] 41)).drew9)
      have HWY:Hid (Below B w wy):=aA (by rw[hwy];exact aB (HPZ.out.w.alloc (Nat.le_trans hB HPZ.out.w.size) _) 1)
      have HKY:Hid (KpT w wy):=aA (by rw[hwy];exact HPZ.out.k.trans (KpT.below (aB ((Below.refl _ _).alloc (Nat.le_refl _) _) 1)))
      have HQY:Hid (wy.heap[Q]?=wz.heap[Q]?):=aA (by rw[hwy];exact HQ1.out _)
      have HZC:Hid (∀j u,(rlC (⟨lf,acc,p⟩,Av,cv))[j]?=some u→wy.cell? ⟨wz.heap.size,j,none⟩=some u):=aA (fun j u hj=>by rw[hwy];exact(aI wz (rlC (⟨lf,acc,p⟩,Av,cv)) 41 j).trans hj)
      have HRW2:Hid (zcL wy B wy.heap.size Av acc):=aA (by
       rw[hwy]
       exact(HROW.out.2.2.grown (w':=(wz.alloc (.cells #[.int .i64 lf,.slice Av acc.length cv,.int .i64 p] 41)).drew) (row:=none) ((World.grownBy_alloc wz (.cells #[.int .i64 lf,.slice Av acc.length cv,.int .i64 p] 41) none).trans (aG _ none)) (fun g e=>by cases e)).more (by show wz.heap.size≤(wz.alloc _).heap.size;simp))
      have HSW:Hid (w.heap.size≤wy.heap.size):=aA HWY.out.size
      clear hwy
      refine zaT (.tmp 102) (.tmp 104) _ rfl Tryz.underlying24 B w.heap.size _ rs rfl A0.out.r _ _ (⟨lf,acc,p⟩,Av,cv) rfl HZC.out ⟨HROW.out.1,HROW.out.2.1,HRW2.out⟩ (by omega) (Nat.le_trans hB HSW.out) HSW.out ?_
      intro v8 w8 ho8 hg8
      have A1:=aA ((A0.out.more (Nat.le_trans HSW.out hg8.size)).r_put ho8 hg8)
      obtain⟨A8,c8,rfl,_,_⟩:=zak ho8
      have HQ8:Hid (w8.heap[Q]?=wz.heap[Q]?):=aA ((hg8.block Q (by have:=(Array.getElem?_eq_some_iff.1 (HQY.out.trans HPZ.out.qb)).1;exact this) (fun e=>by
       obtain⟨_,_,_,h3,_⟩:=A0.out.r
       have:=h3 _ e.symm
       have:=HPZ.out.q
       omega)).trans HQY.out)
      have HK8:Hid (KpA w w8):=aA (HKY.out.a.trans (by obtain⟨_,_,h2,_⟩:=A0.out.r;exact KpA.own h2 hg8 (.inr (.inr rfl))))
      have HW8:Hid (Below B w w8):=aA (HWY.out.grown hg8 (Nat.le_trans hB HSW.out) (fun k e=>by obtain⟨_,_,h2,_⟩:=A0.out.r;exact(aH h2 e).1))
      obtain⟨n8,hn8⟩:∃n,n=(rs++[(⟨lf,acc,p⟩:Gm.Rl)]).length:=⟨_,rfl⟩
      have c28:w8.cell? ⟨R,2,none⟩=some (.slice AR2 rs.length cR2):=(A1.out.at 2).1
      have f28:=(A1.out.at 2).2.1
      have hR8:=(A1.out.at 2).2.2
      rw[←hn8]at A1 ⊢
      clear ho8 hg8 A0 hn8
      refine hKK _ _ ⟨⟨w8,HQ8.out⟩,rfl⟩ (fun x=>∃y:Calm.OnB Q wz,x=y.1) (fun _ h=>h) ⟨⟨w8,HQ8.out⟩,rfl⟩ ?_
      go_frame
      repeat (go_big_quiet_step (fail))
      refine wpQuiet_nil ?_
      intro KK hKK
      rw[if_pos (by rfl)]
      go_wp2_with fail
      have HQ9:=aA (fun u=>(Below.heap_setCell w8 ⟨R,2,none⟩ u Q (by simp only;have:=HPZ.out.q;omega)).trans HQ8.out)
      refine hKK _ _ ⟨⟨w8.setCell ⟨R,2,none⟩ _,HQ9.out _⟩,rfl⟩ (fun x=>∃y:Calm.OnB Q wz,x=y.1) (fun _ h=>h) ⟨⟨w8.setCell ⟨R,2,none⟩ _,HQ9.out _⟩,rfl⟩ ?_
      refine wpQuiet_nil ?_
      clear hKK
      go_wp2
      go_end0
      refine⟨rfl,⟨?_,Fit.more HP.out.f ⟨HLI.out,HIN.out.2,HIN.out.1⟩,HPZ.out.t⟩,HW8.out.setCell A1.out.hR _,HK8.out.trans (KpT.set A1.out 2 _).a⟩
      rw[zay]
      exact⟨vT',vN',_,A1.out.set 2 _⟩
    ·subst e2
     obtain⟨hx1,hx2,hx3⟩:=HXP.out x hps
     obtain⟨hstep,hfit2⟩:=zcQ hsp hx1 HP.out.f
     obtain⟨hzin,ht2⟩:=zeJ hsp HP.out.t
     have HZ2:=aA hzin
     have HF2:=aA (And.intro hfit2 ht2)
     have HNM:=aA (fun(y:World)=>zau x.t hx1 y)
     rw[hx2]at HNM
     have HSY:=aA (fun(y:World) (h:Wk y B w.heap.size R tk ns rs lv) (hy:w.heap.size≤y.heap.size)=>zct L B w.heap.size R tk ts' ns rs lv z2 x false y h HP.out.f hx1 hx3 hy (Nat.le_trans hB hy) hstep HP.out.t h16)
     unfold aY at HSY
     have hne:(K.str x.t).toList.isEmpty=false:=zc2 hx2
     replace p3:wr.cell? ⟨w.heap.size,3,none⟩=some (.string (K.str x.t)):=by rw[p3,hps];rfl
     replace p4:wr.cell? ⟨w.heap.size,4,none⟩=some (.complex .f64 (Fl.fl (Pl.pos (L.take x.o)).1) (Fl.fl (Pl.pos (L.take x.o)).2)):=by rw[p4,hps];rfl
     have HC:=aA (HSY.out _ HP.out.b HP.out.w.size)
     clear hx1 hx2 hx3 hstep hfit2 hzin ht2 hsp HSY
     generalize K.str x.t=sx at *
     generalize Fl.fl (Pl.pos (L.take x.o)).1=X at *
     generalize Fl.fl (Pl.pos (L.take x.o)).2=Y at *
     go_wp2_with fail
     refine(HNM.out _).mono ?_;rintro _ _ ⟨rfl,rfl⟩
     go_wp2_with fail
     refine HC.out.mono ?_;rintro _ w2 ⟨rfl,hb2,hw2,hk2⟩
     have HP2:=aA (HP.out.call hb2 hw2 hk2 HF2.out.1 HF2.out.2)
     have q2:w2.cell? ⟨Q,2,none⟩=some (.int .i64 p):=cell_of_row w2 _ 2 _ _ _ HP2.out.qb
     have f2:=frozen_of_row w2 _ 2 _ _ HP2.out.qb
     have hQ2:=(Array.getElem?_eq_some_iff.1 HP2.out.qb).1
     clear hb2 hw2 hk2 p3 p4
     go_upto_region 20 with fail
     obtain⟨wz,hwz⟩:∃x,x=w2.setCell ⟨Q,2,none⟩ (.int .i64 z2):=⟨_,rfl⟩
     rw[←hwz]
     have HPZ:Hid (PrJ w wz B R Q ns rs lv ts' #[.string s0,.complex .f64 X0 Y0,.slice A pr.r.length c,.string (soS pr.p),.complex .f64 (soX L pr.p) (soY L pr.p)] lf v acc z2):=aA (by rw[hwz];exact HP2.out.setQ 2 (.int .i64 z2) rfl (HP2.out.o.set_away HP2.out.qb 2 _) hB)
     clear hwz q2 f2 hQ2
     obtain⟨vT',vN',vR',hfin⟩:=HPZ.out.b
     have HFB:=aA hfin
     obtain⟨_,_,⟨AR2,cR2,hvR⟩⟩:=zah hfin
     subst hvR
     obtain⟨Av,cv,hvv,hv1,hv2,hrow⟩:=HPZ.out.o.row hB
     subst hvv
     have c2:wz.cell? ⟨R,2,none⟩=some (.slice AR2 rs.length cR2):=(hfin.at 2).1
     have hRs:=(hfin.at 2).2.2
     have hQs:=(Array.getElem?_eq_some_iff.1 HPZ.out.qb).1
     have HROW:=aA (And.intro hv1 (And.intro hv2 hrow))
     clear hfin hrow hv1 hv2
     have E0:∀y:Calm.OnB Q wz,y.1.cell? ⟨Q,0,none⟩=some (.int .i64 lf):=fun y=>cell_of_row y.1 _ 0 _ _ _ (y.2.trans HPZ.out.qb)
     have E1:∀y:Calm.OnB Q wz,y.1.cell? ⟨Q,1,none⟩=some (.slice Av acc.length cv):=fun y=>cell_of_row y.1 _ 1 _ _ _ (y.2.trans HPZ.out.qb)
     have E2:∀y:Calm.OnB Q wz,y.1.cell? ⟨Q,2,none⟩=some (.int .i64 z2):=fun y=>cell_of_row y.1 _ 2 _ _ _ (y.2.trans HPZ.out.qb)
     refine CalmN.region_tree (fun x=>∃y:Calm.OnB Q wz,x=y.1) (.two [0,1,2,3,4,6] 5 (.one [] 7 (.one [] 8 (.one [9,10,11] 12 (.fin [])))) 7 (.one [] 5 (.one [] 8 (.one [9,10,11] 12 (.fin []))))) (by kernel_rfl) (by kernel_rfl) (fun _ _ d _ _ h=>by cases d <;> exact h) ⟨⟨wz.drew,rfl⟩,rfl⟩ ?_
     simp only[CalmN.wpT,CalmN.wpSt,CalmN.pickOps,List.getElem?_toArray,List.getElem?_cons_zero,List.getElem?_cons_succ]
     repeat (go_big_quiet_step (fail))
     refine wpQuiet_nil ?_
     clear E0 E1 E2
     have HQ1:=aA (fun o=>(Below.heap_alloc wz o Q hQs))
     refine⟨?_,?_⟩
     ·intro KK hKK
      rw[if_pos (by rfl)]
      go_wp2_with fail
      refine hKK _ _ ⟨⟨wz.drew,rfl⟩,rfl⟩ (fun x=>∃y:Calm.OnB Q wz,x=y.1) (fun _ h=>h) ⟨⟨wz.drew,rfl⟩,rfl⟩ ?_
      refine wpQuiet_nil ?_
      intro KK hKK
      rw[if_pos (by rfl)]
      go_wp2_with fail
      refine hKK _ _ ⟨⟨(wz.alloc _).drew,HQ1.out _⟩,rfl⟩ (fun x=>∃y:Calm.OnB Q wz,x=y.1) (fun _ h=>h) ⟨⟨(wz.alloc _).drew,HQ1.out _⟩,rfl⟩ ?_
      refine wpQuiet_nil ?_
      intro KK hKK
      rw[if_pos (by rfl)]
      obtain⟨wy,hwy⟩:∃x,x=(wz.alloc (.cells #[.int .i64 lf,.slice Av acc.length cv,.int .i64 z2] 41)).drew:=⟨_,rfl⟩
      rw[←hwy]
      have A0:Hid (WRaw wy B w.heap.size R (wC vT' vN' (.slice AR2 rs.length cR2) lv) vT' vN' (.slice AR2 rs.length cR2) ts' ns rs):=aA (by rw[hwy];exact(HFB.out.alloc (.cells #[.int .i64 lf,.slice Av acc.length cv,.int .i64 z2] 41)).drew9)
      have HWY:Hid (Below B w wy):=aA (by rw[hwy];exact aB (HPZ.out.w.alloc (Nat.le_trans hB HPZ.out.w.size) _) 1)
      have HKY:Hid (KpT w wy):=aA (by rw[hwy];exact HPZ.out.k.trans (KpT.below (aB ((Below.refl _ _).alloc (Nat.le_refl _) _) 1)))
      have HQY:Hid (wy.heap[Q]?=wz.heap[Q]?):=aA (by rw[hwy];exact HQ1.out _)
      have HZC:Hid (∀j u,(rlC (⟨lf,acc,z2⟩,Av,cv))[j]?=some u→wy.cell? ⟨wz.heap.size,j,none⟩=some u):=aA (fun j u hj=>by rw[hwy];exact(aI wz (rlC (⟨lf,acc,z2⟩,Av,cv)) 41 j).trans hj)
      have HRW2:Hid (zcL wy B wy.heap.size Av acc):=aA (by
       rw[hwy]
       exact(HROW.out.2.2.grown (w':=(wz.alloc (.cells #[.int .i64 lf,.slice Av acc.length cv,.int .i64 z2] 41)).drew) (row:=none) ((World.grownBy_alloc wz (.cells #[.int .i64 lf,.slice Av acc.length cv,.int .i64 z2] 41) none).trans (aG _ none)) (fun g e=>by cases e)).more (by show wz.heap.size≤(wz.alloc _).heap.size;simp))
      have HSW:Hid (w.heap.size≤wy.heap.size):=aA HWY.out.size
      clear hwy
      refine zaT (.tmp 102) (.tmp 104) _ rfl Tryz.underlying24 B w.heap.size _ rs rfl A0.out.r _ _ (⟨lf,acc,z2⟩,Av,cv) rfl HZC.out ⟨HROW.out.1,HROW.out.2.1,HRW2.out⟩ (by omega) (Nat.le_trans hB HSW.out) HSW.out ?_
      intro v8 w8 ho8 hg8
      have A1:=aA ((A0.out.more (Nat.le_trans HSW.out hg8.size)).r_put ho8 hg8)
      obtain⟨A8,c8,rfl,_,_⟩:=zak ho8
      have HQ8:Hid (w8.heap[Q]?=wz.heap[Q]?):=aA ((hg8.block Q (by have:=(Array.getElem?_eq_some_iff.1 (HQY.out.trans HPZ.out.qb)).1;exact this) (fun e=>by
       obtain⟨_,_,_,h3,_⟩:=A0.out.r
       have:=h3 _ e.symm
       have:=HPZ.out.q
       omega)).trans HQY.out)
      have HK8:Hid (KpA w w8):=aA (HKY.out.a.trans (by obtain⟨_,_,h2,_⟩:=A0.out.r;exact KpA.own h2 hg8 (.inr (.inr rfl))))
      have HW8:Hid (Below B w w8):=aA (HWY.out.grown hg8 (Nat.le_trans hB HSW.out) (fun k e=>by obtain⟨_,_,h2,_⟩:=A0.out.r;exact(aH h2 e).1))
      obtain⟨n8,hn8⟩:∃n,n=(rs++[(⟨lf,acc,z2⟩:Gm.Rl)]).length:=⟨_,rfl⟩
      have c28:w8.cell? ⟨R,2,none⟩=some (.slice AR2 rs.length cR2):=(A1.out.at 2).1
      have f28:=(A1.out.at 2).2.1
      have hR8:=(A1.out.at 2).2.2
      rw[←hn8]at A1 ⊢
      clear ho8 hg8 A0 hn8
      refine hKK _ _ ⟨⟨w8,HQ8.out⟩,rfl⟩ (fun x=>∃y:Calm.OnB Q wz,x=y.1) (fun _ h=>h) ⟨⟨w8,HQ8.out⟩,rfl⟩ ?_
      go_frame
      repeat (go_big_quiet_step (fail))
      refine wpQuiet_nil ?_
      intro KK hKK
      rw[if_pos (by rfl)]
      go_wp2_with fail
      have HQ9:=aA (fun u=>(Below.heap_setCell w8 ⟨R,2,none⟩ u Q (by simp only;have:=HPZ.out.q;omega)).trans HQ8.out)
      refine hKK _ _ ⟨⟨w8.setCell ⟨R,2,none⟩ _,HQ9.out _⟩,rfl⟩ (fun x=>∃y:Calm.OnB Q wz,x=y.1) (fun _ h=>h) ⟨⟨w8.setCell ⟨R,2,none⟩ _,HQ9.out _⟩,rfl⟩ ?_
      refine wpQuiet_nil ?_
      clear hKK
      go_wp2
      go_end0
      refine⟨rfl,⟨?_,Fit.more HP2.out.f ⟨HLI.out,HZ2.out,HIN.out.1⟩,HPZ.out.t⟩,HW8.out.setCell A1.out.hR _,HK8.out.trans (KpT.set A1.out 2 _).a⟩
      rw[zay]
      exact⟨vT',vN',_,A1.out.set 2 _⟩
     ·intro KK hKK
      rw[if_pos (by rfl)]
      go_wp2_with fail
      refine hKK _ _ ⟨⟨(wz.alloc _).drew,HQ1.out _⟩,rfl⟩ (fun x=>∃y:Calm.OnB Q wz,x=y.1) (fun _ h=>h) ⟨⟨(wz.alloc _).drew,HQ1.out _⟩,rfl⟩ ?_
      refine wpQuiet_nil ?_
      intro KK hKK
      rw[if_pos (by rfl)]
      go_wp2_with fail
      refine hKK _ _ ⟨⟨(wz.alloc _).drew,HQ1.out _⟩,rfl⟩ (fun x=>∃y:Calm.OnB Q wz,x=y.1) (fun _ h=>h) ⟨⟨(wz.alloc _).drew,HQ1.out _⟩,rfl⟩ ?_
      refine wpQuiet_nil ?_
      intro KK hKK
      rw[if_pos (by rfl)]
      obtain⟨wy,hwy⟩:∃x,x=(wz.alloc (.cells #[.int .i64 lf,.slice Av acc.length cv,.int .i64 z2] 41)).drew:=⟨_,rfl⟩
      rw[←hwy]
      have A0:Hid (WRaw wy B w.heap.size R (wC vT' vN' (.slice AR2 rs.length cR2) lv) vT' vN' (.slice AR2 rs.length cR2) ts' ns rs):=aA (by rw[hwy];exact(HFB.out.alloc (.cells #[.int .i64 lf,.slice Av acc.length cv,.int .i64 z2] 41)).drew9)
      have HWY:Hid (Below B w wy):=aA (by rw[hwy];exact aB (HPZ.out.w.alloc (Nat.le_trans hB HPZ.out.w.size) _) 1)
      have HKY:Hid (KpT w wy):=aA (by rw[hwy];exact HPZ.out.k.trans (KpT.below (aB ((Below.refl _ _).alloc (Nat.le_refl _) _) 1)))
      have HQY:Hid (wy.heap[Q]?=wz.heap[Q]?):=aA (by rw[hwy];exact HQ1.out _)
      have HZC:Hid (∀j u,(rlC (⟨lf,acc,z2⟩,Av,cv))[j]?=some u→wy.cell? ⟨wz.heap.size,j,none⟩=some u):=aA (fun j u hj=>by rw[hwy];exact(aI wz (rlC (⟨lf,acc,z2⟩,Av,cv)) 41 j).trans hj)
      have HRW2:Hid (zcL wy B wy.heap.size Av acc):=aA (by
       rw[hwy]
       exact(HROW.out.2.2.grown (w':=(wz.alloc (.cells #[.int .i64 lf,.slice Av acc.length cv,.int .i64 z2] 41)).drew) (row:=none) ((World.grownBy_alloc wz (.cells #[.int .i64 lf,.slice Av acc.length cv,.int .i64 z2] 41) none).trans (aG _ none)) (fun g e=>by cases e)).more (by show wz.heap.size≤(wz.alloc _).heap.size;simp))
      have HSW:Hid (w.heap.size≤wy.heap.size):=aA HWY.out.size
      clear hwy
      refine zaT (.tmp 102) (.tmp 104) _ rfl Tryz.underlying24 B w.heap.size _ rs rfl A0.out.r _ _ (⟨lf,acc,z2⟩,Av,cv) rfl HZC.out ⟨HROW.out.1,HROW.out.2.1,HRW2.out⟩ (by omega) (Nat.le_trans hB HSW.out) HSW.out ?_
      intro v8 w8 ho8 hg8
      have A1:=aA ((A0.out.more (Nat.le_trans HSW.out hg8.size)).r_put ho8 hg8)
      obtain⟨A8,c8,rfl,_,_⟩:=zak ho8
      have HQ8:Hid (w8.heap[Q]?=wz.heap[Q]?):=aA ((hg8.block Q (by have:=(Array.getElem?_eq_some_iff.1 (HQY.out.trans HPZ.out.qb)).1;exact this) (fun e=>by
       obtain⟨_,_,_,h3,_⟩:=A0.out.r
       have:=h3 _ e.symm
       have:=HPZ.out.q
       omega)).trans HQY.out)
      have HK8:Hid (KpA w w8):=aA (HKY.out.a.trans (by obtain⟨_,_,h2,_⟩:=A0.out.r;exact KpA.own h2 hg8 (.inr (.inr rfl))))
      have HW8:Hid (Below B w w8):=aA (HWY.out.grown hg8 (Nat.le_trans hB HSW.out) (fun k e=>by obtain⟨_,_,h2,_⟩:=A0.out.r;exact(aH h2 e).1))
      obtain⟨n8,hn8⟩:∃n,n=(rs++[(⟨lf,acc,z2⟩:Gm.Rl)]).length:=⟨_,rfl⟩
      have c28:w8.cell? ⟨R,2,none⟩=some (.slice AR2 rs.length cR2):=(A1.out.at 2).1
      have f28:=(A1.out.at 2).2.1
      have hR8:=(A1.out.at 2).2.2
      rw[←hn8]at A1 ⊢
      clear ho8 hg8 A0 hn8
      refine hKK _ _ ⟨⟨w8,HQ8.out⟩,rfl⟩ (fun x=>∃y:Calm.OnB Q wz,x=y.1) (fun _ h=>h) ⟨⟨w8,HQ8.out⟩,rfl⟩ ?_
      go_frame
      repeat (go_big_quiet_step (fail))
      refine wpQuiet_nil ?_
      intro KK hKK
      rw[if_pos (by rfl)]
      go_wp2_with fail
      have HQ9:=aA (fun u=>(Below.heap_setCell w8 ⟨R,2,none⟩ u Q (by simp only;have:=HPZ.out.q;omega)).trans HQ8.out)
      refine hKK _ _ ⟨⟨w8.setCell ⟨R,2,none⟩ _,HQ9.out _⟩,rfl⟩ (fun x=>∃y:Calm.OnB Q wz,x=y.1) (fun _ h=>h) ⟨⟨w8.setCell ⟨R,2,none⟩ _,HQ9.out _⟩,rfl⟩ ?_
      refine wpQuiet_nil ?_
      clear hKK
      go_wp2
      go_end0
      refine⟨rfl,⟨?_,Fit.more HP2.out.f ⟨HLI.out,HZ2.out,HIN.out.1⟩,HPZ.out.t⟩,HW8.out.setCell A1.out.hR _,HK8.out.trans (KpT.set A1.out 2 _).a⟩
      rw[zay]
      exact⟨vT',vN',_,A1.out.set 2 _⟩
def grC:Array Value:=#[.slice none 0 0,.slice none 0 0,.slice none 0 0,.int .i64 0]
end Go.Proofs.YtcgclkndkahgaaaGreat
