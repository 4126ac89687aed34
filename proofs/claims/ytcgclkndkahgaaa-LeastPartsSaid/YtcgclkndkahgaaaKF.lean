/- Part of the proofs over this program: Lefts9, Sym9, Prod9, SliceI, CalmA, TrimReach, Ints, ApI, RowKit. -/
import Derived.Deep.Cut
import Derived.Deep.Slices
import Derived.Deep.Fields
import Derived.ChangeSame
import Derived.Lib.SmallJoins
import Derived.SliceStrings
import Derived.Test.YtcgclkndkahgaaaRows
import Derived.SizedLaws
import Derived.LaidMore
import Derived.Stop.Joined
import Derived.ShutString
import Derived.ChangeOld
import Derived.Test.YtcgclkndkahgaaaKE
namespace Go.Proofs.Ytcgclkndkahgaaa
set_option maxRecDepth 100000
set_option maxHeartbeats 40000000
open Go.RowKit
theorem zag {w:World} {B N R:Nat} {cs:Array Value} {vT vN vR:Value} {ts:List Gm.Tm} {ns:List (List Int)} {rs:List Gm.Rl} (h:WRaw w B N R cs vT vN vR ts ns rs):(∃A c,vT=.slice A ts.length c)∧(∃A c,vN=.slice A ns.length c)∧∃A c,vR=.slice A rs.length c:=by
 obtain⟨qs,_,h2,_⟩:=id h.r
 obtain⟨A1,c1,e1,_⟩:=zab h.t
 obtain⟨A2,c2,e2,_⟩:=zab h.n
 obtain⟨A3,c3,e3,_⟩:=zab h2
 exact⟨⟨A1,c1,e1⟩,⟨A2,c2,e2⟩,⟨A3,c3,e3⟩⟩
theorem WRaw.drew9 {w:World} {B N R:Nat} {cs:Array Value} {vT vN vR:Value} {ts:List Gm.Tm} {ns:List (List Int)} {rs:List Gm.Rl} (h:WRaw w B N R cs vT vN vR ts ns rs):WRaw w.drew B N R cs vT vN vR ts ns rs:=h.below (aB (Below.refl _ _) 1)
theorem zb7 {w:World} {B N R:Nat} {vT vN vR:Value} {lv:Int} {ts:List Gm.Tm} {ns:List (List Int)} {rs:List Gm.Rl} {s:List Int} (hf:Gm.Fit ⟨ts,ns,rs,0⟩) (hs:K.Tx s) (h:WRaw w B N R (wC vT vN vR lv) vT vN vR ts ns rs) (hN:N≤w.heap.size) :
  Calls Try.prog 57 #[.agg #[vT,vN,vR,.int .i64 0],.string (K.str s)] w fun e w'=>e=.returned (.int .i64 (Gm.find (Gm.names ts) s))∧Below w.heap.size w w' :=
 zcg _ ⟨ts,ns,rs,0⟩ s _ w (h.rd hN 0) hf hs (Nat.le_refl _)
theorem zbH {w:World} {B N R:Nat} {vT vN vR:Value} {lv:Int} {ts:List Gm.Tm} {ns:List (List Int)} {rs:List Gm.Rl} {s:List Int} (hf:Gm.Fit ⟨ts,ns,rs,0⟩) (hs:K.Tx s) (h:WRaw w B N R (wC vT vN vR lv) vT vN vR ts ns rs) (hN:N≤w.heap.size) :
  Calls Try.prog 39 #[.agg #[vT,vN,vR,.int .i64 0],.string (K.str s)] w fun e w'=>e=.returned (.int .i64 (Gm.find ns s))∧Below w.heap.size w w' :=
 zfp _ ⟨ts,ns,rs,0⟩ s _ w (h.rd hN 0) hf hs (Nat.le_refl _)
theorem Fit.left {ts:List Gm.Tm} {ns ns':List (List Int)} {rs:List Gm.Rl} {x:Tok} (h:Gm.Fit ⟨ts,ns,rs,0⟩) (hx:K.Tx x.t) (hp:Gm.left1 ts ns x=.ok ns'):Gm.Fit ⟨ts,ns',rs,0⟩:=by
 rcases Gm.left1_ok hp with⟨rfl,_⟩|⟨rfl,_,_,_⟩
 ·exact h
 ·refine⟨h.t,fun y hy=>?_,h.r,h.s⟩
  rcases List.mem_append.1 hy with q|q
  ·exact h.n y q
  ·simp at q;subst q;exact hx
theorem zde {ts:List Gm.Tm} {ns ns':List (List Int)} {x:Tok} (h:Gm.left1 ts ns x=.ok ns'):Gm.find (Gm.names ts) x.t<0∧((0≤Gm.find ns x.t∧ns'=ns)∨(Gm.find ns x.t<0∧ns.length≠16∧ns'=ns++[x.t])):=by
 unfold Gm.left1 at h
 split at h
 ·cases h
 ·rename_i h0
  refine⟨by omega,?_⟩
  split at h
  ·rename_i h1;injection h with h;exact .inl ⟨h1,h.symm⟩
  ·rename_i h1
   split at h
   ·cases h
   ·rename_i h2;injection h with h;exact .inr ⟨by omega,h2,h.symm⟩
theorem zgP (L:List Int) (B N R:Nat) (ts:List Gm.Tm) (rs:List Gm.Rl) (ps:List Y.Prd) (ns0 ns2:List (List Int)) (lv:Int) (A:Option Addr) (c:Nat) (w:World) (hw:Wk w B N R ts ns0 rs lv) (hf:Gm.Fit ⟨ts,ns0,rs,0⟩) (hx:∀p∈ps,K.Tx p.l.t∧T.isName p.l.t=true) (hr:zgA L w B A ps)
  (hN:N≤w.heap.size) (hB:B≤w.heap.size) (h16:ns0.length≤16) (hlen:ps.length≤1000) (hp:Gm.lefts ts ns0 ps=.ok ns2) :
  Calls Try.prog 37 #[.pointer (some ⟨R,0,none⟩),.slice A ps.length c] w fun e w'=>e=.returned (.tuple #[])∧(Wk w' B N R ts ns2 rs lv∧Gm.Fit ⟨ts,ns2,rs,0⟩∧ns2.length≤16)∧Below B w w'∧KpA w w':=by
 have SC:=fun a w m X Y=>show(store a (.complex .f64 X Y) m).run Try.prog w=stored Try.prog w a (.complex .f64 X Y) m from run_store _ w a _ m rfl
 have HR:=aA hr
 have HW0:=aA hw
 have HF0:=aA hf
 have H160:=aA h16
 have HP:=aA hp
 have HKX:=aA (fun(i:Nat) (hi:i<ps.length)=>hx _ (List.getElem_mem hi))
 clear hr hw hf hp hx h16
 go_enter Try.func37,Try.ntmps37
 go_wp2
 go_loopw [4] (fun vi wr=>∃(i:Nat) (ns:List (List Int)),i≤ps.length∧vi=.int .i64 i∧Hid (Gm.lefts ts ns (ps.drop i)=.ok ns2)∧Hid (Gm.Fit ⟨ts,ns,rs,0⟩)∧Hid (ns.length≤16)∧Hid (Wk wr B N R ts ns rs lv)∧Hid (Below B w wr)∧Hid (KpA w wr)) (fun vi _=>ps.length-(intOf vi).toNat)
 case atStart=>exact⟨0,ns0,Nat.zero_le _,rfl,HP,HF0,H160,HW0,aA (Below.refl _ _),aA (KpA.refl _)⟩
 case round =>
  obtain⟨i,ns,hi,rfl,HE,HF,H16,HW,HBW,HKT⟩:=hrel
  obtain⟨vT,vN,vR,hwr⟩:=HW.out
  obtain⟨⟨AT,cT,rfl⟩,⟨AN,cN,rfl⟩,⟨AR,cR,rfl⟩⟩:=zag hwr
  have HRW:=aA hwr
  obtain⟨f10,_,hRw⟩:=hwr.at 10
  simp only[wC,List.getElem?_toArray,List.getElem?_cons_zero,List.getElem?_cons_succ]at f10
  clear hwr
  by_cases hlt:i<ps.length
  ·obtain⟨g,o,rfl,hgB,hc⟩:=HR.out (by omega)
   have k0:=(HBW.out.cell (p:=⟨g,o+i*5,none⟩) hgB).trans (hc i hlt).1
   have k1:=(HBW.out.cell (p:=⟨g,o+i*5+1,none⟩) hgB).trans (hc i hlt).2.1
   have hBs:=HBW.out.size
   have hgs:g<wr.heap.size:=by omega
   have hBr:B≤wr.heap.size:=by omega
   obtain⟨hx1,hx2⟩:=HKX.out i hlt
   have hE:=HE.out
   rw[zdZ hlt]at hE
   obtain⟨ns1,h1,h2⟩:=Gm.R.bind_eq hE
   have HN1:=aA h2
   have HF1:=aA (Fit.left HF.out hx1 h1)
   have H161:=aA (zeM h1 H16.out)
   obtain⟨hz,hcase⟩:=zde h1
   have HTM:=aA (fun(y:World) (lv':Int) (h:WRaw y B N R (wC (.slice AT ts.length cT) (.slice AN ns.length cN) (.slice AR rs.length cR) lv') (.slice AT ts.length cT) (.slice AN ns.length cN) (.slice AR rs.length cR) ts ns rs) (hy:N≤y.heap.size)=>zb7 HF.out hx1 h hy)
   have HNO:=aA (fun(y:World) (lv':Int) (h:WRaw y B N R (wC (.slice AT ts.length cT) (.slice AN ns.length cN) (.slice AR rs.length cR) lv') (.slice AT ts.length cT) (.slice AN ns.length cN) (.slice AR rs.length cR) ts ns rs) (hy:N≤y.heap.size)=>zbH HF.out hx1 h hy)
   have HNM:=aA (fun(y:World)=>zcJ ps[i].l.t hx1.1 y)
   rw[hx2]at HNM
   have HCA:=aA hcase
   clear hc hE h1 h2 hx1 hx2 hcase
   generalize ps[i].l=x at *
   generalize rfX L x=X at *
   generalize rfY L x=Y at *
   obtain⟨w1,hw1⟩:∃y,y=wr.alloc (.cells #[.string (K.str x.t),.complex .f64 X Y] 77):=⟨_,rfl⟩
   have HB01:Hid (Below wr.heap.size wr w1):=aA (by rw[hw1];exact(Below.refl _ _).alloc (Nat.le_refl _) _)
   have HDw1:Hid (w1.heap[wr.heap.size]?=some (.cells #[.string (K.str x.t),.complex .f64 X Y] 77 (0,0))):=aA (by rw[hw1];exact heap_alloc_new wr _)
   have HQw1:=aA (HRW.out.below HB01.out)
   have HNw1:Hid (N≤w1.heap.size):=aA (by have:=HB01.out.size;omega)
   generalize hsx:K.str x.t=sx at *
   have HSX:=aA hsx
   clear hsx
   go_wp2_with fail
   try rw[←hw1]
   clear hw1 f10 k0 k1
   refine(HNM.out _).mono ?_;rintro _ _ ⟨rfl,rfl⟩
   go_wp2_with fail
   obtain⟨p0,_,hRs⟩:=HQw1.out.at 0
   have p1:=(HQw1.out.at 1).1
   have p2:=(HQw1.out.at 2).1
   have p3:=(HQw1.out.at 3).1
   simp only[wC,List.getElem?_toArray,List.getElem?_cons_zero,List.getElem?_cons_succ]at p0 p1 p2 p3
   have hDs:wr.heap.size<w1.heap.size:=(Array.getElem?_eq_some_iff.1 HDw1.out).1
   have t0:w1.cell? ⟨wr.heap.size,0,none⟩=some (.string sx):=by rw[cell_of_row w1 _ 0 _ _ _ HDw1.out];rfl
   have Q0:=fun y:Calm.On w1.heap.size w1=>(y.2.cell (p:=⟨R,0,none⟩) hRs).trans p0
   have Q1:=fun y:Calm.On w1.heap.size w1=>(y.2.cell (p:=⟨R,1,none⟩) hRs).trans p1
   have Q2:=fun y:Calm.On w1.heap.size w1=>(y.2.cell (p:=⟨R,2,none⟩) hRs).trans p2
   have Q3:=fun y:Calm.On w1.heap.size w1=>(y.2.cell (p:=⟨R,3,none⟩) hRs).trans p3
   have Q4:=fun y:Calm.On w1.heap.size w1=>(y.2.cell (p:=⟨wr.heap.size,0,none⟩) hDs).trans t0
   refine CalmN.region_tree (fun x=>∃y:Calm.On w1.heap.size w1,x=y.1) (.one [0,1,2,3,4,5] 6 (.fin [7,8])) (by kernel_rfl) (by kernel_rfl) (fun _ _ d _ _ h=>by cases d <;> exact h) ⟨⟨w1.drew,aB (Below.refl _ _) 1⟩,rfl⟩ ?_
   simp only[CalmN.wpT,CalmN.wpSt,CalmN.pickOps,List.getElem?_toArray,List.getElem?_cons_zero,List.getElem?_cons_succ]
   repeat (go_big_quiet_step (fail))
   refine wpQuiet_nil ?_
   clear Q0 Q1 Q2 Q3 Q4 p0 p1 p2 p3 t0
   intro KK hKK
   rw[if_pos (by rfl)]
   go_wp2_with fail
   refine(HTM.out w1.drew _ HQw1.out.drew9 HNw1.out).mono ?_;rintro _ w2 ⟨rfl,hb2⟩
   have hb12:Below w1.heap.size w1 w2:=(aB (Below.refl w1.heap.size w1) 1).trans hb2
   have HBw2:=aA hb12
   have HQw2:=aA (HQw1.out.below hb12)
   have HDw2:=aA ((hb12.block _ hDs).trans HDw1.out)
   have HNw2:=aA (Nat.le_trans HNw1.out hb12.size)
   clear hb2 hb12
   go_wp2_with fail
   refine hKK _ _ ⟨⟨w2,HBw2.out⟩,rfl⟩ (fun x=>∃y:Calm.On w1.heap.size w1,x=y.1) (fun _ h=>h) ⟨⟨w2,HBw2.out⟩,rfl⟩ ?_
   repeat (go_big_quiet_step (fail))
   refine wpQuiet_nil ?_
   clear hKK hDs hRs
   have hz0:¬(0:Int)≤Gm.find (Gm.names ts) x.t:=by omega
   clear hz
   generalize Gm.find (Gm.names ts) x.t=z at *
   go_wp2_with fail
   obtain⟨p0,_,hRs⟩:=HQw2.out.at 0
   have p1:=(HQw2.out.at 1).1
   have p2:=(HQw2.out.at 2).1
   have p3:=(HQw2.out.at 3).1
   simp only[wC,List.getElem?_toArray,List.getElem?_cons_zero,List.getElem?_cons_succ]at p0 p1 p2 p3
   have hDs:wr.heap.size<w2.heap.size:=(Array.getElem?_eq_some_iff.1 HDw2.out).1
   have t0:w2.cell? ⟨wr.heap.size,0,none⟩=some (.string sx):=by rw[cell_of_row w2 _ 0 _ _ _ HDw2.out];rfl
   have Q0:=fun y:Calm.On w2.heap.size w2=>(y.2.cell (p:=⟨R,0,none⟩) hRs).trans p0
   have Q1:=fun y:Calm.On w2.heap.size w2=>(y.2.cell (p:=⟨R,1,none⟩) hRs).trans p1
   have Q2:=fun y:Calm.On w2.heap.size w2=>(y.2.cell (p:=⟨R,2,none⟩) hRs).trans p2
   have Q3:=fun y:Calm.On w2.heap.size w2=>(y.2.cell (p:=⟨R,3,none⟩) hRs).trans p3
   have Q4:=fun y:Calm.On w2.heap.size w2=>(y.2.cell (p:=⟨wr.heap.size,0,none⟩) hDs).trans t0
   refine CalmN.region_tree (fun x=>∃y:Calm.On w2.heap.size w2,x=y.1) (.one [0,1,2,3,4,5] 6 (.fin [7,8])) (by kernel_rfl) (by kernel_rfl) (fun _ _ d _ _ h=>by cases d <;> exact h) ⟨⟨w2.drew,aB (Below.refl _ _) 1⟩,rfl⟩ ?_
   simp only[CalmN.wpT,CalmN.wpSt,CalmN.pickOps,List.getElem?_toArray,List.getElem?_cons_zero,List.getElem?_cons_succ]
   repeat (go_big_quiet_step (fail))
   refine wpQuiet_nil ?_
   clear Q0 Q1 Q2 Q3 Q4 p0 p1 p2 p3 t0
   intro KK hKK
   rw[if_pos (by rfl)]
   go_wp2_with fail
   refine(HNO.out w2.drew _ HQw2.out.drew9 HNw2.out).mono ?_;rintro _ w3 ⟨rfl,hb2⟩
   have hb12:Below w2.heap.size w2 w3:=(aB (Below.refl w2.heap.size w2) 1).trans hb2
   have HBw3:=aA hb12
   have HQw3:=aA (HQw2.out.below hb12)
   have HDw3:=aA ((hb12.block _ hDs).trans HDw2.out)
   have HNw3:=aA (Nat.le_trans HNw2.out hb12.size)
   clear hb2 hb12
   go_wp2_with fail
   refine hKK _ _ ⟨⟨w3,HBw3.out⟩,rfl⟩ (fun x=>∃y:Calm.On w2.heap.size w2,x=y.1) (fun _ h=>h) ⟨⟨w3,HBw3.out⟩,rfl⟩ ?_
   repeat (go_big_quiet_step (fail))
   refine wpQuiet_nil ?_
   clear hKK hDs hRs
   have HBK:=aA (KpA.below (((HB01.out.trans (HBw2.out.mono HB01.out.size)).trans (HBw3.out.mono (Nat.le_trans HB01.out.size HBw2.out.size)))))
   have HBB:=aA (((HB01.out.trans (HBw2.out.mono HB01.out.size)).trans (HBw3.out.mono (Nat.le_trans HB01.out.size HBw2.out.size))).mono hBr)
   rcases HCA.out with⟨h0,e⟩|⟨h0,hl16,e⟩
   ·have HNE:=aA e
    clear e
    generalize Gm.find ns x.t=z2 at *
    go_wp2
    go_roundw
    case rel=>exact⟨i+1,ns,hlt,by go_num,by rw[←HNE.out];exact HN1,HF,H16,aA ⟨_,_,_,HQw3.out⟩,aA (HBW.out.trans HBB.out),aA (HKT.out.trans HBK.out)⟩
    case measure=>simp[intOf];omega
   have HNE:=aA e
   clear e
   have h0':¬(0:Int)≤Gm.find ns x.t:=by omega
   generalize Gm.find ns x.t=z2 at *
   have hl16':((ns.length:Int)==16)=false:=beq_eq_false_iff_ne.2 (by omega)
   obtain⟨k1,hf1,_⟩:=HQw3.out.at 1
   simp only[wC,List.getElem?_toArray,List.getElem?_cons_zero,List.getElem?_cons_succ]at k1
   go_wp2_with fail
   have HO6:=aA ((HQw3.out.alloc (.cells #[.string sx] 9)).n)
   have HB6:Hid (B≤(w3.alloc (.cells #[.string sx] 9)).drew.heap.size):=aA (by have:=HBw3.out.size;have:=HBw2.out.size;have:=HB01.out.size;simp;omega)
   have HCE:Hid ((w3.alloc (.cells #[.string sx] 9)).drew.cell? ⟨w3.heap.size,0,none⟩=some (.string (K.str x.t))):=aA (by rw[HSX.out];exact aI w3 [.string sx] 9 0)
   have HT6:Hid ((w3.alloc (.cells #[.string sx] 9)).heap[wr.heap.size]?=w3.heap[wr.heap.size]?):=aA (((Below.refl _ w3).alloc (Nat.le_refl _) _).block _ (Array.getElem?_eq_some_iff.1 HDw3.out).1)
   have D8:=fun y:Calm.OnB wr.heap.size w3=>(show y.1.cell? ⟨wr.heap.size,0,none⟩=some (.string sx) by rw[cell_of_row y.1 _ 0 _ _ _ (y.2.trans HDw3.out)];rfl)
   refine CalmN.region_tree (fun y=>∃z:Calm.OnB wr.heap.size w3,y=z.1) (.two [0,1,2,3,4,6,7] 5 (.one [] 8 (.one [] 9 (.one [10,11,12] 13 (.fin [])))) 8 (.one [] 5 (.one [] 9 (.one [10,11,12] 13 (.fin []))))) (by kernel_rfl) (by kernel_rfl) (fun _ _ d _ _ h=>by cases d <;> exact h) ⟨⟨w3.drew,rfl⟩,rfl⟩ ?_
   simp only[CalmN.wpT,CalmN.wpSt,CalmN.pickOps,List.getElem?_toArray,List.getElem?_cons_zero,List.getElem?_cons_succ]
   repeat (go_big_quiet_step (fail))
   refine wpQuiet_nil ?_
   clear D8
   refine⟨?_,?_⟩
   ·intro KK hKK
    rw[if_pos (by rfl)]
    go_wp2_with fail
    refine hKK _ _ ⟨⟨w3.drew,rfl⟩,rfl⟩ (fun y=>∃z:Calm.OnB wr.heap.size w3,y=z.1) (fun _ h=>h) ⟨⟨w3.drew,rfl⟩,rfl⟩ ?_
    refine wpQuiet_nil ?_
    intro KK hKK
    try rw[if_pos (by rfl)]
    go_wp2_with fail
    refine hKK _ _ ⟨⟨(w3.alloc (.cells #[.string sx] 9)).drew,HT6.out⟩,rfl⟩ (fun y=>∃z:Calm.OnB wr.heap.size w3,y=z.1) (fun _ h=>h) ⟨⟨(w3.alloc (.cells #[.string sx] 9)).drew,HT6.out⟩,rfl⟩ ?_
    refine wpQuiet_nil ?_
    intro KK hKK
    try rw[if_pos (by rfl)]
    refine zdP (w:=(w3.alloc (.cells #[.string sx] 9)).drew) (.tmp 29) (.tmp 32) _ rfl Try.underlying23 B (.slice AN ns.length cN) ns rfl HO6.out _ 1 x.t rfl HCE.out (by have:=H16.out;omega) HB6.out ?_
    intro v7 w7 ho7 hg7' _
    have hg7:=(aG (w3.alloc (.cells #[.string sx] 9)) _).trans hg7'
    obtain⟨A7,c7,hv7,_,_⟩:=zab ho7
    rw[show(ns++[x.t]).length=ns.length+1 by simp]at hv7
    subst hv7
    have hW7:=(HQw3.out.alloc (.cells #[.string sx] 9)).n_put ho7 hg7
    have HW7:=aA hW7
    obtain⟨k7,hf7,hR7⟩:=hW7.at 1
    simp only[wC,List.getElem?_toArray,List.getElem?_cons_zero,List.getElem?_cons_succ]at k7
    have hb4:Below w3.heap.size w3 (w3.alloc (.cells #[.string sx] 9)):=(Below.refl _ w3).alloc (Nat.le_refl _) (.cells #[.string sx] 9)
    have HK7:=aA ((KpA.below hb4).trans (KpA.own (HQw3.out.alloc (.cells #[.string sx] 9)).n hg7 (.inr (.inl rfl))))
    have HT7:Hid (w7.heap[wr.heap.size]?=w3.heap[wr.heap.size]?):=aA ((HK7.out _ _ _ HDw3.out (by decide) (by decide) (by decide) (by decide)).trans HDw3.out.symm)
    have HB7:=aA ((HBB.out.alloc (by have:=HB6.out;have:=HBB.out.size;omega) (.cells #[.string sx] 9)).grown hg7 (by have:=HB6.out;simpa using this) (fun k e=>(aH HQw3.out.n e).1))
    clear ho7 hg7 hg7' hW7 hb4
    go_wp2_with fail
    refine hKK _ _ ⟨⟨w7,HT7.out⟩,rfl⟩ (fun y=>∃z:Calm.OnB wr.heap.size w3,y=z.1) (fun _ h=>h) ⟨⟨w7,HT7.out⟩,rfl⟩ ?_
    repeat (go_big_quiet_step (fail))
    refine wpQuiet_nil ?_
    intro KK hKK
    try rw[if_pos (by rfl)]
    go_wp2_with fail
    have HW8:=aA (HW7.out.set 1 (.slice A7 (ns.length+1) c7))
    have HK8:=aA (HK7.out.trans (KpT.set HW7.out 1 (.slice A7 (ns.length+1) c7)).a)
    have HB8:=aA (HB7.out.setCell (p:=⟨R,1,none⟩) HW7.out.hR (.slice A7 (ns.length+1) c7))
    have HT8:Hid ((w7.setCell ⟨R,1,none⟩ (.slice A7 (ns.length+1) c7)).heap[wr.heap.size]?=w3.heap[wr.heap.size]?):=aA ((HK8.out _ _ _ HDw3.out (by decide) (by decide) (by decide) (by decide)).trans HDw3.out.symm)
    refine hKK _ _ ⟨⟨_,HT8.out⟩,rfl⟩ (fun y=>∃z:Calm.OnB wr.heap.size w3,y=z.1) (fun _ h=>h) ⟨⟨_,HT8.out⟩,rfl⟩ ?_
    refine wpQuiet_nil ?_
    clear k7 hf7
    go_wp2
    go_roundw
    case rel=>exact⟨i+1,ns++[x.t],hlt,by go_num,by rw[←HNE.out];exact HN1,by rw[←HNE.out];exact HF1,by rw[←HNE.out];exact H161,aA ⟨_,_,_,HW8.out⟩,aA (HBW.out.trans HB8.out),aA ((HKT.out.trans HBK.out).trans HK8.out)⟩
    case measure=>simp[intOf];omega
   ·intro KK hKK
    rw[if_pos (by rfl)]
    go_wp2_with fail
    refine hKK _ _ ⟨⟨(w3.alloc (.cells #[.string sx] 9)).drew,HT6.out⟩,rfl⟩ (fun y=>∃z:Calm.OnB wr.heap.size w3,y=z.1) (fun _ h=>h) ⟨⟨(w3.alloc (.cells #[.string sx] 9)).drew,HT6.out⟩,rfl⟩ ?_
    refine wpQuiet_nil ?_
    intro KK hKK
    try rw[if_pos (by rfl)]
    go_wp2_with fail
    refine hKK _ _ ⟨⟨(w3.alloc (.cells #[.string sx] 9)).drew,HT6.out⟩,rfl⟩ (fun y=>∃z:Calm.OnB wr.heap.size w3,y=z.1) (fun _ h=>h) ⟨⟨(w3.alloc (.cells #[.string sx] 9)).drew,HT6.out⟩,rfl⟩ ?_
    refine wpQuiet_nil ?_
    intro KK hKK
    try rw[if_pos (by rfl)]
    refine zdP (w:=(w3.alloc (.cells #[.string sx] 9)).drew) (.tmp 29) (.tmp 32) _ rfl Try.underlying23 B (.slice AN ns.length cN) ns rfl HO6.out _ 1 x.t rfl HCE.out (by have:=H16.out;omega) HB6.out ?_
    intro v7 w7 ho7 hg7' _
    have hg7:=(aG (w3.alloc (.cells #[.string sx] 9)) _).trans hg7'
    obtain⟨A7,c7,hv7,_,_⟩:=zab ho7
    rw[show(ns++[x.t]).length=ns.length+1 by simp]at hv7
    subst hv7
    have hW7:=(HQw3.out.alloc (.cells #[.string sx] 9)).n_put ho7 hg7
    have HW7:=aA hW7
    obtain⟨k7,hf7,hR7⟩:=hW7.at 1
    simp only[wC,List.getElem?_toArray,List.getElem?_cons_zero,List.getElem?_cons_succ]at k7
    have hb4:Below w3.heap.size w3 (w3.alloc (.cells #[.string sx] 9)):=(Below.refl _ w3).alloc (Nat.le_refl _) (.cells #[.string sx] 9)
    have HK7:=aA ((KpA.below hb4).trans (KpA.own (HQw3.out.alloc (.cells #[.string sx] 9)).n hg7 (.inr (.inl rfl))))
    have HT7:Hid (w7.heap[wr.heap.size]?=w3.heap[wr.heap.size]?):=aA ((HK7.out _ _ _ HDw3.out (by decide) (by decide) (by decide) (by decide)).trans HDw3.out.symm)
    have HB7:=aA ((HBB.out.alloc (by have:=HB6.out;have:=HBB.out.size;omega) (.cells #[.string sx] 9)).grown hg7 (by have:=HB6.out;simpa using this) (fun k e=>(aH HQw3.out.n e).1))
    clear ho7 hg7 hg7' hW7 hb4
    go_wp2_with fail
    refine hKK _ _ ⟨⟨w7,HT7.out⟩,rfl⟩ (fun y=>∃z:Calm.OnB wr.heap.size w3,y=z.1) (fun _ h=>h) ⟨⟨w7,HT7.out⟩,rfl⟩ ?_
    repeat (go_big_quiet_step (fail))
    refine wpQuiet_nil ?_
    intro KK hKK
    try rw[if_pos (by rfl)]
    go_wp2_with fail
    have HW8:=aA (HW7.out.set 1 (.slice A7 (ns.length+1) c7))
    have HK8:=aA (HK7.out.trans (KpT.set HW7.out 1 (.slice A7 (ns.length+1) c7)).a)
    have HB8:=aA (HB7.out.setCell (p:=⟨R,1,none⟩) HW7.out.hR (.slice A7 (ns.length+1) c7))
    have HT8:Hid ((w7.setCell ⟨R,1,none⟩ (.slice A7 (ns.length+1) c7)).heap[wr.heap.size]?=w3.heap[wr.heap.size]?):=aA ((HK8.out _ _ _ HDw3.out (by decide) (by decide) (by decide) (by decide)).trans HDw3.out.symm)
    refine hKK _ _ ⟨⟨_,HT8.out⟩,rfl⟩ (fun y=>∃z:Calm.OnB wr.heap.size w3,y=z.1) (fun _ h=>h) ⟨⟨_,HT8.out⟩,rfl⟩ ?_
    refine wpQuiet_nil ?_
    clear k7 hf7
    go_wp2
    go_roundw
    case rel=>exact⟨i+1,ns++[x.t],hlt,by go_num,by rw[←HNE.out];exact HN1,by rw[←HNE.out];exact HF1,by rw[←HNE.out];exact H161,aA ⟨_,_,_,HW8.out⟩,aA (HBW.out.trans HB8.out),aA ((HKT.out.trans HBK.out).trans HK8.out)⟩
    case measure=>simp[intOf];omega
  ·obtain rfl:i=ps.length:=by omega
   have hE:=HE.out
   rw[zeL (Nat.le_refl _)]at hE
   injection hE with hE
   subst hE
   go_wp2
   go_end0
   exact⟨rfl,⟨HW.out,HF.out,H16.out⟩,HBW.out,HKT.out⟩
theorem zem {ts ts':List Gm.Tm} {x:Tok} {n:Int} (h:Gm.sym ts x=.ok (ts',n)) (he:x.t≠[101,114,114,111,114]):Gm.put ts x=.ok (ts',n)∧(0≤Gm.find (Gm.names ts) x.t∨(Gm.find (Gm.names ts) x.t<0∧T.isLit x.t=true)):=by
 unfold Gm.sym at h
 split at h
 ·rename_i q
  refine⟨h,?_⟩
  rcases q with q|q|q
  ·exact .inl q
  ·by_cases h0:0≤Gm.find (Gm.names ts) x.t
   ·exact .inl h0
   ·exact .inr ⟨by omega,q⟩
  ·exact absurd q he
 ·cases h
theorem zci (L:List Int) (B N R:Nat) (ts ts':List Gm.Tm) (ns:List (List Int)) (rs:List Gm.Rl) (lv n:Int) (x:Tok) (may:Bool) (w:World) (hw:Wk w B N R ts ns rs lv) (hf:Gm.Fit ⟨ts,ns,rs,0⟩) (hx:K.Tx x.t) (he:x.t≠[101,114,114,111,114]) (hN:N≤w.heap.size) (hB:B≤w.heap.size) (hlo:(0≤Gm.find ns x.t∧may=true∧ts'=ts∧n = -1-Gm.find ns x.t)∨(Gm.find ns x.t<0∧Gm.sym ts x=.ok (ts',n))) (h24:ts.length≤24) (h16:ns.length≤16) :
  Calls Try.prog 59 #[.pointer (some ⟨R,0,none⟩),aY L x,.bool may] w fun e w'=>e=.returned (.int .i64 n)∧Wk w' B N R ts' ns rs lv∧Below B w w'∧KpT w w':=by
 have HW:=aA hw
 obtain⟨vT,vN,vR,hwr⟩:=HW.out
 obtain⟨⟨AT,cT,rfl⟩,⟨AN,cN,rfl⟩,⟨AR,cR,rfl⟩⟩:=zag hwr
 have HRW:=aA hwr
 have HF:=aA hf
 have HX:=aA hx
 have hRw:=hwr.lt
 clear hwr
 have HTM:=aA (fun(y:World) (lv':Int) (h:WRaw y B N R (wC (.slice AT ts.length cT) (.slice AN ns.length cN) (.slice AR rs.length cR) lv') (.slice AT ts.length cT) (.slice AN ns.length cN) (.slice AR rs.length cR) ts ns rs) (hy:N≤y.heap.size)=>zb7 hf hx h hy)
 have HNO:=aA (fun(y:World) (lv':Int) (h:WRaw y B N R (wC (.slice AT ts.length cT) (.slice AN ns.length cN) (.slice AR rs.length cR) lv') (.slice AT ts.length cT) (.slice AN ns.length cN) (.slice AR rs.length cR) ts ns rs) (hy:N≤y.heap.size)=>zbH hf hx h hy)
 have HLT:=aA (fun(y:World)=>zcj x.t hx.1 y)
 have HTE:=aA (fun(hp:Gm.put ts x=.ok (ts',n)) (y:World) (h:Wk y B N R ts ns rs lv) (hy:N≤y.heap.size) (hz:B≤y.heap.size)=>zcC L B N R ts ts' ns rs lv n x y h hf hx hy hz hp h24)
 have HSY:=aA (fun h=>zem (ts:=ts) (ts':=ts') (x:=x) (n:=n) h he)
 unfold aY at HTE ⊢
 have hBr:=hB
 generalize Fl.fl (Pl.pos (L.take x.o)).1=X at *
 generalize Fl.fl (Pl.pos (L.take x.o)).2=Y at *
 obtain⟨w1,hw1⟩:∃y,y=w.alloc (.cells #[.string (K.str x.t),.complex .f64 X Y] 77):=⟨_,rfl⟩
 have HB01:Hid (Below w.heap.size w w1):=aA (by rw[hw1];exact(Below.refl _ _).alloc (Nat.le_refl _) _)
 have HDw1:Hid (w1.heap[w.heap.size]?=some (.cells #[.string (K.str x.t),.complex .f64 X Y] 77 (0,0))):=aA (by rw[hw1];exact heap_alloc_new w _)
 have HQw1:=aA (HRW.out.below HB01.out)
 have HNw1:Hid (N≤w1.heap.size):=aA (by have:=HB01.out.size;omega)
 generalize K.str x.t=sx at *
 have HLO:=aA hlo
 clear hlo hf hx hw
 go_enter Try.func59,Try.ntmps59
 go_wp2_with fail
 try rw[←hw1]
 clear hw1
 obtain⟨p0,_,hRs⟩:=HQw1.out.at 0
 have p1:=(HQw1.out.at 1).1
 have p2:=(HQw1.out.at 2).1
 have p3:=(HQw1.out.at 3).1
 simp only[wC,List.getElem?_toArray,List.getElem?_cons_zero,List.getElem?_cons_succ]at p0 p1 p2 p3
 have hDs:w.heap.size<w1.heap.size:=(Array.getElem?_eq_some_iff.1 HDw1.out).1
 have t0:w1.cell? ⟨w.heap.size,0,none⟩=some (.string sx):=by rw[cell_of_row w1 _ 0 _ _ _ HDw1.out];rfl
 have Q0:=fun y:Calm.On w1.heap.size w1=>(y.2.cell (p:=⟨R,0,none⟩) hRs).trans p0
 have Q1:=fun y:Calm.On w1.heap.size w1=>(y.2.cell (p:=⟨R,1,none⟩) hRs).trans p1
 have Q2:=fun y:Calm.On w1.heap.size w1=>(y.2.cell (p:=⟨R,2,none⟩) hRs).trans p2
 have Q3:=fun y:Calm.On w1.heap.size w1=>(y.2.cell (p:=⟨R,3,none⟩) hRs).trans p3
 have Q4:=fun y:Calm.On w1.heap.size w1=>(y.2.cell (p:=⟨w.heap.size,0,none⟩) hDs).trans t0
 refine CalmN.region_tree (fun x=>∃y:Calm.On w1.heap.size w1,x=y.1) (.one [0,1,2,3,4,5] 6 (.fin [7])) (by kernel_rfl) (by kernel_rfl) (fun _ _ d _ _ h=>by cases d <;> exact h) ⟨⟨w1.drew,aB (Below.refl _ _) 1⟩,rfl⟩ ?_
 simp only[CalmN.wpT,CalmN.wpSt,CalmN.pickOps,List.getElem?_toArray,List.getElem?_cons_zero,List.getElem?_cons_succ]
 repeat (go_big_quiet_step (fail))
 refine wpQuiet_nil ?_
 clear Q0 Q1 Q2 Q3 Q4 p0 p1 p2 p3 t0
 intro KK hKK
 rw[if_pos (by rfl)]
 go_wp2_with fail
 refine(HNO.out w1.drew _ HQw1.out.drew9 HNw1.out).mono ?_;rintro _ w2 ⟨rfl,hb2⟩
 have hb12:Below w1.heap.size w1 w2:=(aB (Below.refl w1.heap.size w1) 1).trans hb2
 have HBw2:=aA hb12
 have HQw2:=aA (HQw1.out.below hb12)
 have HDw2:=aA ((hb12.block _ hDs).trans HDw1.out)
 have HNw2:=aA (Nat.le_trans HNw1.out hb12.size)
 clear hb2 hb12
 go_wp2_with fail
 refine hKK _ _ ⟨⟨w2,HBw2.out⟩,rfl⟩ (fun x=>∃y:Calm.On w1.heap.size w1,x=y.1) (fun _ h=>h) ⟨⟨w2,HBw2.out⟩,rfl⟩ ?_
 repeat (go_big_quiet_step (fail))
 refine wpQuiet_nil ?_
 clear hKK hDs hRs
 have HB2:=aA (HB01.out.trans (HBw2.out.mono HB01.out.size))
 rcases HLO.out with⟨h0,h1,h2,h3⟩|⟨h0,hsy⟩
 ·subst h1
  have HEQ:=aA (And.intro h2 h3)
  clear h2 h3
  have hzl:=Gm.find_lt ns x.t
  generalize Gm.find ns x.t=z at *
  have hwr:wrap64 (-1-z) = -1-z:=by unfold wrap64;omega
  go_wp2
  go_ret
  exact⟨by rw[HEQ.out.2];simp,by rw[HEQ.out.1];exact⟨_,_,_,HQw2.out⟩,HB2.out.mono hB,KpT.below HB2.out⟩
 ·obtain⟨hput,hc⟩:=HSY.out hsy
  have h0':¬(0:Int)≤Gm.find ns x.t:=by omega
  have HTP:=aA (HTE.out hput)
  clear hsy hput HTE HLO HSY
  generalize Gm.find ns x.t=z at *
  have hmz:(decide (0≤z)&&may)=false:=by simp[h0']
  go_wp2_with fail
  obtain⟨p0,_,hRs⟩:=HQw2.out.at 0
  have p1:=(HQw2.out.at 1).1
  have p2:=(HQw2.out.at 2).1
  have p3:=(HQw2.out.at 3).1
  simp only[wC,List.getElem?_toArray,List.getElem?_cons_zero,List.getElem?_cons_succ]at p0 p1 p2 p3
  have hDs:w.heap.size<w2.heap.size:=(Array.getElem?_eq_some_iff.1 HDw2.out).1
  have u0:w2.cell? ⟨w.heap.size,0,none⟩=some (.string sx):=by rw[cell_of_row w2 _ 0 _ _ _ HDw2.out];rfl
  have Q0:=fun y:Calm.On w2.heap.size w2=>(y.2.cell (p:=⟨R,0,none⟩) hRs).trans p0
  have Q1:=fun y:Calm.On w2.heap.size w2=>(y.2.cell (p:=⟨R,1,none⟩) hRs).trans p1
  have Q2:=fun y:Calm.On w2.heap.size w2=>(y.2.cell (p:=⟨R,2,none⟩) hRs).trans p2
  have Q3:=fun y:Calm.On w2.heap.size w2=>(y.2.cell (p:=⟨R,3,none⟩) hRs).trans p3
  have Q4:=fun y:Calm.On w2.heap.size w2=>(y.2.cell (p:=⟨w.heap.size,0,none⟩) hDs).trans u0
  clear u0
  refine CalmN.region_tree (fun x=>∃y:Calm.On w2.heap.size w2,x=y.1) (.one [0,1,2,3,4,5] 6 (.one [7,8,9,10] 11 (.fin [12,13,14,15,16,17,18]))) (by kernel_rfl) (by kernel_rfl) (fun _ _ d _ _ h=>by cases d <;> exact h) ⟨⟨w2.drew,aB (Below.refl _ _) 1⟩,rfl⟩ ?_
  simp only[CalmN.wpT,CalmN.wpSt,CalmN.pickOps,List.getElem?_toArray,List.getElem?_cons_zero,List.getElem?_cons_succ]
  repeat (go_big_quiet_step (fail))
  refine wpQuiet_nil ?_
  intro KK hKK
  rw[if_pos (by rfl)]
  go_wp2_with fail
  refine(HTM.out w2.drew _ HQw2.out.drew9 HNw2.out).mono ?_;rintro _ w3 ⟨rfl,hb2⟩
  have hb12:Below w2.heap.size w2 w3:=(aB (Below.refl w2.heap.size w2) 1).trans hb2
  have HBw3:=aA hb12
  have HQw3:=aA (HQw2.out.below hb12)
  have HDw3:=aA ((hb12.block _ hDs).trans HDw2.out)
  have HNw3:=aA (Nat.le_trans HNw2.out hb12.size)
  clear hb2 hb12
  go_wp2_with fail
  refine hKK _ _ ⟨⟨w3,HBw3.out⟩,rfl⟩ (fun x=>∃y:Calm.On w2.heap.size w2,x=y.1) (fun _ h=>h) ⟨⟨w3,HBw3.out⟩,rfl⟩ ?_
  have HB3:=aA (HB2.out.trans (HBw3.out.mono HB2.out.size))
  rcases hc with hc|⟨hc,hlit⟩
  ·have hcT:decide (0≤Gm.find (Gm.names ts) x.t)=true:=decide_eq_true hc
   generalize Gm.find (Gm.names ts) x.t=z2 at *
   repeat (go_big_quiet_step (fail))
   refine wpQuiet_nil ?_
   intro KK2 hKK2
   rw[if_neg (by exact(fun h=>absurd (show false=true from h) (by decide)))]
   refine hKK2 _ _ ⟨⟨w3,HBw3.out⟩,rfl⟩ (fun x=>∃y:Calm.On w2.heap.size w2,x=y.1) (fun _ h=>h) ⟨⟨w3,HBw3.out⟩,rfl⟩ ?_
   simp only[Act.put,List.setIfInBounds_toArray,List.set_cons_succ,List.set_cons_zero]
   repeat (go_big_quiet_step (fail))
   refine wpQuiet_nil ?_
   have hDs3:w.heap.size<w3.heap.size:=(Array.getElem?_eq_some_iff.1 HDw3.out).1
   have t0:w3.cell? ⟨w.heap.size,0,none⟩=some (.string sx):=by rw[cell_of_row w3 _ 0 _ _ _ HDw3.out];rfl
   have t1:w3.cell? ⟨w.heap.size,1,none⟩=some (.complex .f64 X Y):=by rw[cell_of_row w3 _ 1 _ _ _ HDw3.out];rfl
   have HC:=aA (HTP.out w3 ⟨_,_,_,HQw3.out⟩ HNw3.out (Nat.le_trans hB HB3.out.size))
   clear Q0 Q1 Q2 Q3 Q4 p0 p1 p2 p3
   go_wp2_with fail
   refine HC.out.mono ?_;rintro _ w4 ⟨rfl,hw4,hb4,hk4⟩
   have HFI:=aA (And.intro hw4 (And.intro ((HB3.out.mono hB).trans hb4) ((KpT.below HB3.out).trans hk4)))
   clear hw4 hb4 hk4 t0 t1
   go_wp2
   go_ret
   exact⟨rfl,HFI.out⟩
  ·have hcF:decide (0≤Gm.find (Gm.names ts) x.t)=false:=decide_eq_false (by omega)
   rw[hlit]at HLT
   generalize Gm.find (Gm.names ts) x.t=z2 at *
   repeat (go_big_quiet_step (fail))
   refine wpQuiet_nil ?_
   intro KK2 hKK2
   rw[if_pos (by rfl)]
   go_wp2_with fail
   refine(HLT.out _).mono ?_;rintro _ _ ⟨rfl,rfl⟩
   go_wp2_with fail
   refine hKK2 _ _ ⟨⟨w3,HBw3.out⟩,rfl⟩ (fun x=>∃y:Calm.On w2.heap.size w2,x=y.1) (fun _ h=>h) ⟨⟨w3,HBw3.out⟩,rfl⟩ ?_
   repeat (go_big_quiet_step (fail))
   refine wpQuiet_nil ?_
   have hDs3:w.heap.size<w3.heap.size:=(Array.getElem?_eq_some_iff.1 HDw3.out).1
   have t0:w3.cell? ⟨w.heap.size,0,none⟩=some (.string sx):=by rw[cell_of_row w3 _ 0 _ _ _ HDw3.out];rfl
   have t1:w3.cell? ⟨w.heap.size,1,none⟩=some (.complex .f64 X Y):=by rw[cell_of_row w3 _ 1 _ _ _ HDw3.out];rfl
   have HC:=aA (HTP.out w3 ⟨_,_,_,HQw3.out⟩ HNw3.out (Nat.le_trans hB HB3.out.size))
   clear Q0 Q1 Q2 Q3 Q4 p0 p1 p2 p3
   go_wp2_with fail
   refine HC.out.mono ?_;rintro _ w4 ⟨rfl,hw4,hb4,hk4⟩
   have HFI:=aA (And.intro hw4 (And.intro ((HB3.out.mono hB).trans hb4) ((KpT.below HB3.out).trans hk4)))
   clear hw4 hb4 hk4 t0 t1
   go_wp2
   go_ret
   exact⟨rfl,HFI.out⟩
theorem zfW {ts ts':List Gm.Tm} {x:Tok} {z:Int} (h:Gm.sym ts x=.ok (ts',z)) (h24:ts.length≤24):Gm.In z∧ts'.length≤24:=by
 unfold Gm.sym at h
 split at h
 ·refine⟨?_,zfY h24 h⟩
  unfold Gm.In
  rcases Gm.put_ok h with⟨j,_,_,hj,hl,_⟩|⟨_,_,hj,_⟩ <;> omega
 ·cases h
theorem zen {ns:List (List Int)} {ts ts':List Gm.Tm} {x:Tok} {z:Int} (h:Gm.symR ns ts x=.ok (ts',z)) (h24:ts.length≤24) (h16:ns.length≤16):Gm.In z∧ts'.length≤24:=by
 unfold Gm.symR at h
 split at h
 ·rename_i h0
  injection h with h
  injection h with h1 h2
  have:=Gm.find_lt ns x.t
  subst h1
  refine⟨?_,h24⟩
  unfold Gm.In
  omega
 ·exact zfW h h24
theorem zeo {ns:List (List Int)} {ts ts':List Gm.Tm} {x:Tok} {z:Int} (h:Gm.symP ns ts x=.ok (ts',z)) (h24:ts.length≤24):Gm.In z∧ts'.length≤24:=by
 unfold Gm.symP at h
 split at h
 ·cases h
 ·exact zfW h h24
theorem Fit.more {ts:List Gm.Tm} {ns:List (List Int)} {rs:List Gm.Rl} {r:Gm.Rl} (h:Gm.Fit ⟨ts,ns,rs,0⟩) (hr:Gm.In r.l∧Gm.In r.p∧∀z∈r.r,Gm.In z):Gm.Fit ⟨ts,ns,rs++[r],0⟩:=by
 refine⟨h.t,h.n,fun x hx=>?_,h.s⟩
 rcases List.mem_append.1 hx with q|q
 ·exact h.r x q
 ·simp at q;subst q;exact hr
theorem find_in (ns:List (List Int)) (s:List Int) (h:ns.length≤16):Gm.In (Gm.find ns s):=by
 have h1:=Gm.find_lt ns s
 have h2:=Gm.find_ge ns s
 unfold Gm.In
 omega
theorem zbB {ns:List (List Int)} {ts ts':List Gm.Tm} {rs rs':List Gm.Rl} {pr:Y.Prd} (h:Gm.prod1 ns ts rs pr=.ok (ts',rs')):rs.length≠40∧∃tz az pz,Gm.rights ns ts [] (-1) pr.r=.ok (tz,az,pz)∧((pr.p=none∧ts'=tz∧rs'=rs++[⟨Gm.find ns pr.l.t,az,pz⟩]) ∨ ∃x z,pr.p=some x∧Gm.symP ns tz x=.ok (ts',z)∧rs'=rs++[⟨Gm.find ns pr.l.t,az,z⟩]):=by
 unfold Gm.prod1 at h
 split at h
 ·cases h
 ·rename_i h40
  obtain⟨⟨tz,az,pz⟩,h1,h2⟩:=Gm.R.bind_eq h
  refine⟨h40,tz,az,pz,h1,?_⟩
  cases hp:pr.p with
  | none =>
   rw[hp]at h2
   injection h2 with h2
   injection h2 with a b
   exact .inl ⟨rfl,a.symm,b.symm⟩
  | some x =>
   rw[hp]at h2
   obtain⟨⟨t2,z⟩,h3,h4⟩:=Gm.R.bind_eq h2
   injection h4 with h4
   injection h4 with a b
   simp only at a b
   subst a
   exact .inr ⟨x,z,rfl,h3,b.symm⟩
theorem zcP {s:List Int} (h:Gm.named s=true):(K.str s).toList.isEmpty=false:=by
 have hne:s≠[]:=fun e=>by rw[e]at h;simp[Gm.named,T.isName,T.isLit]at h
 have hsn:¬(K.str s).toList=[]:=by rw[K.str_list];intro e;exact hne (by simpa[K.bytes] using e)
 simpa using hsn
theorem zht (L:List Int) (B R:Nat) (ts ts':List Gm.Tm) (ns:List (List Int)) (rs rs':List Gm.Rl) (lv:Int) (pr:Y.Prd) (A:Option Addr) (c:Nat) (w:World) (hw:Wk w B w.heap.size R ts ns rs lv) (hf:Gm.Fit ⟨ts,ns,rs,0⟩) (hr:zgz L w B A pr.r) (hx:K.Tx pr.l.t) (hxr:∀x∈pr.r,K.Tx x.t∧Gm.named x.t=true∧x.t≠[101,114,114,111,114]) (hxp:∀x,pr.p=some x→K.Tx x.t∧Gm.named x.t=true∧x.t≠[101,114,114,111,114])
  (hB:B≤w.heap.size) (h24:ts.length≤24) (h16:ns.length≤16) (hrs:rs.length≤40) (hrl:pr.r.length≤1000) (hp:Gm.prod1 ns ts rs pr=.ok (ts',rs')) :
  Calls Try.prog 38 #[.pointer (some ⟨R,0,none⟩),.agg (zbD L pr A c)] w fun e w'=>e=.returned (.tuple #[])∧(Wk w' B w'.heap.size R ts' ns rs' lv∧Gm.Fit ⟨ts',ns,rs',0⟩∧ts'.length≤24)∧Below B w w'∧KpA w w':=by
 have SC:=fun a w m X Y=>show(store a (.complex .f64 X Y) m).run Try.prog w=stored Try.prog w a (.complex .f64 X Y) m from run_store _ w a _ m rfl
 obtain⟨h40,tz,az,pz,hrt,hlast⟩:=zbB hp
 have HRT:=aA hrt
 have HLAST:=aA hlast
 have HXP:=aA hxp
 have HR:=aA hr
 have HDX:=aA (fun(i:Nat) (hi:i<pr.r.length)=>hxr _ (List.getElem_mem hi))
 have HF:=aA hf
 obtain⟨vT,vN,vR,hwr⟩:=id hw
 obtain⟨⟨AT,cT,rfl⟩,⟨AN,cN,rfl⟩,⟨AR,cR,rfl⟩⟩:=zag hwr
 have HRW:=aA hwr
 have hR0:=hwr.lt
 have HNO:=aA (fun(y:World) (lv':Int) (h:WRaw y B w.heap.size R (wC (.slice AT ts.length cT) (.slice AN ns.length cN) (.slice AR rs.length cR) lv') (.slice AT ts.length cT) (.slice AN ns.length cN) (.slice AR rs.length cR) ts ns rs) (hy:w.heap.size≤y.heap.size)=>zbH hf hx h hy)
 obtain⟨lf,hlf⟩:∃lf,lf=Gm.find ns pr.l.t:=⟨_,rfl⟩
 have HLI:Hid (Gm.In lf):=aA (by rw[hlf];exact find_in ns _ h16)
 rw[←hlf]at HNO HLAST
 clear hlf
 obtain⟨w1,hw1⟩:∃w1,w1=w.alloc (.cells (zbD L pr A c) 85):=⟨_,rfl⟩
 have HQw1:Hid (WRaw w1 B w.heap.size R (wC (.slice AT ts.length cT) (.slice AN ns.length cN) (.slice AR rs.length cR) lv) (.slice AT ts.length cT) (.slice AN ns.length cN) (.slice AR rs.length cR) ts ns rs):=aA (by rw[hw1];exact hwr.alloc _)
 have HP1:Hid (w1.heap[w.heap.size]?=some (.cells (zbD L pr A c) 85 (0,0))):=aA (by rw[hw1];exact heap_alloc_new w _)
 have hs1:w1.heap.size=w.heap.size+1:=by rw[hw1];simp
 have HW1:Hid (Below w.heap.size w w1):=aA (by rw[hw1];exact(Below.refl _ w).alloc (Nat.le_refl _) _)
 have hR1:R<w1.heap.size:=by omega
 have hd1:w.heap.size<w1.heap.size:=by omega
 have q0:∀y:Calm.On w1.heap.size w1,y.1.cell? ⟨R,0,none⟩=some (.slice AT ts.length cT):=fun y=>((HQw1.out.below y.2).at 0).1
 have q1:∀y:Calm.On w1.heap.size w1,y.1.cell? ⟨R,1,none⟩=some (.slice AN ns.length cN):=fun y=>((HQw1.out.below y.2).at 1).1
 have q2:∀y:Calm.On w1.heap.size w1,y.1.cell? ⟨R,2,none⟩=some (.slice AR rs.length cR):=fun y=>((HQw1.out.below y.2).at 2).1
 have q3:∀y:Calm.On w1.heap.size w1,y.1.cell? ⟨R,3,none⟩=some (.int .i64 0):=fun y=>((HQw1.out.below y.2).at 3).1
 have D0:∀y:Calm.On w1.heap.size w1,y.1.cell? ⟨w.heap.size,0,none⟩=some (.string (K.str pr.l.t)):=fun y=>cell_of_row y.1 _ 0 _ _ _ ((y.2.block w.heap.size hd1).trans HP1.out)
 have HRB:=aA (fun y=>zfO lf y)
 unfold zbD at HP1 hw1 ⊢
 clear hwr hw hf hr hx hxr hxp hp hrt hlast
 generalize rfX L pr.l=X0 at *
 generalize rfY L pr.l=Y0 at *
 generalize K.str pr.l.t=s0 at *
 go_enter Try.func38,Try.ntmps38
 go_upto_region 1 with fail
 rw[←hw1]
 clear hw1
 have HDa:=aA (aB (Below.refl w1.heap.size w1) 1)
 have HDb:=aA (fun o=>(aB (Below.refl w1.heap.size w1) 1).alloc (Nat.le_refl _) o)
 have RB:=HRB.out
 refine CalmN.region_tree (fun x=>∃y:Calm.On w1.heap.size w1,x=y.1) (.two [0,1,2,3,4,5,6] 7 (.one [8] 9 (.one [] 10 (.fin []))) 9 (.one [] 7 (.one [8] 10 (.fin [])))) (by kernel_rfl) (by kernel_rfl) (fun _ _ d _ _ h=>by cases d <;> exact h) ⟨⟨w1.drew,HDa.out⟩,rfl⟩ ?_
 simp only[CalmN.wpT,CalmN.wpSt,CalmN.pickOps,List.getElem?_toArray,List.getElem?_cons_zero,List.getElem?_cons_succ]
 repeat (go_big_quiet_step (fail))
 refine wpQuiet_nil ?_
 clear q0 q1 q2 q3 D0
 refine⟨?_,?_⟩
 ·intro KK hKK
  rw[if_pos (by rfl)]
  go_wp2_with fail
  refine(HNO.out w1.drew _ HQw1.out.drew9 (by show w.heap.size≤w1.heap.size;omega)).mono ?_;rintro _ w2 ⟨rfl,hb2⟩
  have HB2:=aA ((aB (Below.refl w1.heap.size w1) 1).trans hb2)
  have hz2:w1.heap.size≤w2.heap.size:=HB2.out.size
  have HB3:=aA (fun o=>HB2.out.alloc hz2 o)
  clear hb2
  go_wp2_with fail
  refine hKK _ _ ⟨⟨w2,HB2.out⟩,rfl⟩ (fun x=>∃y:Calm.On w1.heap.size w1,x=y.1) (fun _ h=>h) ⟨⟨w2,HB2.out⟩,rfl⟩ ?_
  repeat (go_big_quiet_step (fail))
  refine wpQuiet_nil ?_
  intro KK hKK
  rw[if_pos (by rfl)]
  go_wp2_with fail
  refine hKK _ _ ⟨⟨_,HB3.out _⟩,rfl⟩ (fun x=>∃y:Calm.On w1.heap.size w1,x=y.1) (fun _ h=>h) ⟨⟨_,HB3.out _⟩,rfl⟩ ?_
  refine wpQuiet_nil ?_
  intro KK hKK
  rw[if_pos (by rfl)]
  go_wp2_with fail
  refine hKK _ _ ⟨⟨_,HB3.out _⟩,rfl⟩ (fun x=>∃y:Calm.On w1.heap.size w1,x=y.1) (fun _ h=>h) ⟨⟨_,HB3.out _⟩,rfl⟩ ?_
  refine wpQuiet_nil ?_
  clear hKK RB
  obtain⟨wq,hwq⟩:∃x,x=w2.alloc (.cells #[.int .i64 lf,.slice none 0 0,.int .i64 (-1)] 42):=⟨_,rfl⟩
  rw[←hwq]
  obtain⟨Q,hQ⟩:∃x,x=w2.heap.size:=⟨_,rfl⟩
  rw[←hQ]
  have HPX:Hid (PrJ w wq B R Q ns rs lv ts #[.string s0,.complex .f64 X0 Y0,.slice A pr.r.length c,.string (soS pr.p),.complex .f64 (soX L pr.p) (soY L pr.p)] lf (.slice none 0 0) [] (-1)):=aA (by
   have hbw:Below w.heap.size w wq:=by rw[hwq];exact(HW1.out.trans (HB2.out.mono HW1.out.size)).alloc (Nat.le_trans HW1.out.size hz2) _
   have hb1:Below w1.heap.size w1 wq:=by rw[hwq];exact HB3.out _
   exact⟨⟨_,_,_,HQw1.out.below hb1⟩,HF.out,h24,hbw.mono hB,KpT.below hbw,by omega,(hb1.block w.heap.size hd1).trans HP1.out,by rw[hwq,hQ];exact heap_alloc_new w2 _,zbi _ _⟩)
  clear hwq hQ HB2 HB3 hz2 HNO HQw1 HP1 HW1 HRB HDa HDb hs1 hR1 hd1 HRW
  have HEX:=aA (Array.getElem?_eq_some_iff.1 HPX.out.pb).1
  obtain⟨vTq,vNq,vRq,hwq⟩:=HPX.out.b
  obtain⟨_,_,⟨ARq,cRq,rfl⟩⟩:=zag hwq
  obtain⟨k2,_,hRq⟩:=hwq.at 2
  simp only[wC,List.getElem?_toArray,List.getElem?_cons_zero,List.getElem?_cons_succ]at k2
  have e40:((rs.length:Int)==40)=false:=beq_eq_false_iff_ne.2 (by omega)
  clear hwq
  go_wp2
  clear k2 hRq e40
  go_loopw [5] (fun vi wr=>∃(i:Nat) (tk:List Gm.Tm) (acc:List Int) (p:Int) (v:Value),i≤pr.r.length∧vi=.int .i64 i∧acc.length=i∧Hid (Gm.rights ns tk acc p (pr.r.drop i)=.ok (tz,az,pz))∧Hid ((∀z∈acc,Gm.In z)∧Gm.In p)∧Hid (PrJ w wr B R Q ns rs lv tk #[.string s0,.complex .f64 X0 Y0,.slice A pr.r.length c,.string (soS pr.p),.complex .f64 (soX L pr.p) (soY L pr.p)] lf v acc p)) (fun vi _=>pr.r.length-(intOf vi).toNat)
  case atStart=>exact⟨0,ts,[],-1,.slice none 0 0,Nat.zero_le _,rfl,rfl,HRT,aA ⟨by simp,by unfold Gm.In;omega⟩,HPX⟩
  case round =>
   clear HPX HEX
   obtain⟨i,tk,acc,p,v,hi,rfl,hai,HE,HIN,HP⟩:=hrel
   have HAI:=aA hai
   have p2:wr.cell? ⟨w.heap.size,2,none⟩=some (.slice A pr.r.length c):=cell_of_row wr _ 2 _ _ _ HP.out.pb
   have hPs:=(Array.getElem?_eq_some_iff.1 HP.out.pb).1
   obtain⟨vTr,vNr,vRr,hwr⟩:=HP.out.b
   have f10:=(hwr.at 10).1
   have hRr:=hwr.lt
   simp only[wC,List.getElem?_toArray,List.getElem?_cons_zero,List.getElem?_cons_succ]at f10
   clear hwr hai
   by_cases hlt:i<pr.r.length
   ·obtain⟨g,o,rfl,hgB,hc⟩:=HR.out (by omega)
    have k0:=(HP.out.w.cell (p:=⟨g,o+i*2,none⟩) hgB).trans (hc i hlt).1
    have k1:=(HP.out.w.cell (p:=⟨g,o+i*2+1,none⟩) hgB).trans (hc i hlt).2
    have hBs:=HP.out.w.size
    have hgs:g<wr.heap.size:=by omega
    obtain⟨hx1,hx2,hx3⟩:=HDX.out i hlt
    have hE:=HE.out
    rw[zby hlt]at hE
    have h6:acc.length≠6:=fun q=>by rw[if_pos q]at hE;cases hE
    rw[if_neg h6]at hE
    obtain⟨⟨t2,zz⟩,hs,hE2⟩:=Gm.R.bind_eq hE
    simp only at hE2
    have HE2:=aA hE2
    obtain⟨hstep,hfit2⟩:=zcE hs hx1 HP.out.f
    obtain⟨hzin,ht2⟩:=zen hs HP.out.t h16
    have HF2:=aA (And.intro hfit2 (And.intro ht2 hzin))
    have e6:((i:Int)==6)=false:=beq_eq_false_iff_ne.2 (by have:=HAI.out;omega)
    have HNM:=aA (fun(y:World)=>zaA pr.r[i].t hx1 y)
    rw[hx2]at HNM
    have HSY:=aA (fun(y:World) (h:Wk y B w.heap.size R tk ns rs lv) (hy:w.heap.size≤y.heap.size)=>zci L B w.heap.size R tk t2 ns rs lv zz pr.r[i] true y h HP.out.f hx1 hx3 hy (Nat.le_trans hB hy) hstep HP.out.t h16)
    unfold aY at HSY
    clear hc hE hE2 hs hstep hfit2 hzin ht2 hx1 hx2 hx3 h6
    unfold rfX rfY at k1
    generalize K.str pr.r[i].t=sx at *
    generalize Fl.fl (Pl.pos (L.take pr.r[i].o)).1=X at *
    generalize Fl.fl (Pl.pos (L.take pr.r[i].o)).2=Y at *
    have HPA:=aA (HP.out.alloc (.cells #[.string sx,.complex .f64 X Y] 77) hB)
    have HCR:=aA (heap_alloc_new wr (.cells #[.string sx,.complex .f64 X Y] 77))
    have HC:=aA (HSY.out _ HPA.out.b HPA.out.w.size)
    go_wp2_with fail
    refine(HNM.out _).mono ?_;rintro _ _ ⟨rfl,rfl⟩
    go_wp2_with fail
    refine HC.out.mono ?_;rintro _ w2 ⟨rfl,hb2,hw2,hk2⟩
    have HP2:=aA (HPA.out.call hb2 hw2 hk2 HF2.out.1 HF2.out.2.1)
    obtain⟨Av,nv,cv,hvv⟩:=zaB HP2.out.o
    subst hvv
    have q1:w2.cell? ⟨Q,1,none⟩=some (.slice Av nv cv):=cell_of_row w2 _ 1 _ _ _ HP2.out.qb
    have hQs:=(Array.getElem?_eq_some_iff.1 HP2.out.qb).1
    have HP3:=aA (HP2.out.alloc (.cells #[.int .i64 zz] 3) hB)
    have HS2:Hid (w.heap.size≤w2.heap.size):=aA HP2.out.w.size
    have hil:acc.length≤1000000000000:=by have:=HAI.out;omega
    clear hb2 hw2 hk2 p2 f10 k0 k1 HC HSY HNM
    by_cases hzp:0≤zz
    ·have HX:Hid (Gm.rights ns t2 (acc++[zz]) zz (pr.r.drop (i+1))=.ok (tz,az,pz)):=aA (by have h:=HE2.out;rw[if_pos hzp]at h;exact h)
     have e:decide (0≤zz)=true:=decide_eq_true hzp
     go_wp2_with (refine zbe rfl (.tmp 63) (.tmp 65) _ rfl Try.underlying27 w.heap.size _ acc rfl HP3.out.o _ _ zz rfl (aI w2 [.int .i64 zz] 3 0) hil (by have:=HS2.out;simp;omega) ?_;intro v4 w4 ho4 hg4;obtain⟨A4,n4,c4,rfl⟩:=zaB ho4;have happ:=aA (HP3.out.app ho4 hg4 hB);have q41:w4.cell? ⟨Q,1,none⟩=some (.slice Av nv cv):=cell_of_row w4 _ 1 _ _ _ happ.out.1;have q42:w4.cell? ⟨Q,2,none⟩=some (.int .i64 p):=cell_of_row w4 _ 2 _ _ _ happ.out.1;have f41:=frozen_of_row w4 _ 1 _ _ happ.out.1;have f42:=frozen_of_row w4 _ 2 _ _ happ.out.1;have hQ4:=(Array.getElem?_eq_some_iff.1 happ.out.1).1;clear ho4 hg4)
     go_roundw
     case rel=>exact⟨i+1,t2,acc++[zz],zz,.slice A4 n4 c4,hlt,by go_num,by rw[List.length_append,List.length_singleton,HAI.out],HX,aA ⟨fun z hz=>by rcases List.mem_append.1 hz with q|q;exact HIN.out.1 z q;rw[List.mem_singleton.1 q];exact HF2.out.2.2,HF2.out.2.2⟩,aA (happ.out.2.setQ 2 (.int .i64 zz) rfl (happ.out.2.o.set_away happ.out.2.qb 2 _) hB)⟩
     case measure=>simp[intOf];omega
    ·have HX:Hid (Gm.rights ns t2 (acc++[zz]) p (pr.r.drop (i+1))=.ok (tz,az,pz)):=aA (by have h:=HE2.out;rw[if_neg hzp]at h;exact h)
     have e:decide (0≤zz)=false:=decide_eq_false hzp
     go_wp2_with (refine zbe rfl (.tmp 63) (.tmp 65) _ rfl Try.underlying27 w.heap.size _ acc rfl HP3.out.o _ _ zz rfl (aI w2 [.int .i64 zz] 3 0) hil (by have:=HS2.out;simp;omega) ?_;intro v4 w4 ho4 hg4;obtain⟨A4,n4,c4,rfl⟩:=zaB ho4;have happ:=aA (HP3.out.app ho4 hg4 hB);have q41:w4.cell? ⟨Q,1,none⟩=some (.slice Av nv cv):=cell_of_row w4 _ 1 _ _ _ happ.out.1;have q42:w4.cell? ⟨Q,2,none⟩=some (.int .i64 p):=cell_of_row w4 _ 2 _ _ _ happ.out.1;have f41:=frozen_of_row w4 _ 1 _ _ happ.out.1;have f42:=frozen_of_row w4 _ 2 _ _ happ.out.1;have hQ4:=(Array.getElem?_eq_some_iff.1 happ.out.1).1;clear ho4 hg4)
     go_roundw
     case rel=>exact⟨i+1,t2,acc++[zz],p,.slice A4 n4 c4,hlt,by go_num,by rw[List.length_append,List.length_singleton,HAI.out],HX,aA ⟨fun z hz=>by rcases List.mem_append.1 hz with q|q;exact HIN.out.1 z q;rw[List.mem_singleton.1 q];exact HF2.out.2.2,HIN.out.2⟩,aA happ.out.2⟩
     case measure=>simp[intOf];omega
   ·obtain rfl:i=pr.r.length:=by omega
    have hE:=HE.out
    rw[zbZ (Nat.le_refl _)]at hE
    injection hE with hE
    injection hE with e1 hE
    injection hE with e2 e3
    subst e1
    subst e2
    subst e3
    have p3:wr.cell? ⟨w.heap.size,3,none⟩=some (.string (soS pr.p)):=cell_of_row wr _ 3 _ _ _ HP.out.pb
    have p4:wr.cell? ⟨w.heap.size,4,none⟩=some (.complex .f64 (soX L pr.p) (soY L pr.p)):=cell_of_row wr _ 4 _ _ _ HP.out.pb
    rcases HLAST.out with⟨hpn,e1,e2⟩|⟨x,z2,hps,hsp,e2⟩
    ·subst e1
     subst e2
     replace p3:wr.cell? ⟨w.heap.size,3,none⟩=some (.string ⟨#[]⟩):=by rw[p3,hpn];rfl
     clear p4
     go_wp2_with fail
     obtain⟨wz,hwz⟩:∃x,x=wr:=⟨_,rfl⟩
     rw[←hwz]
     have HPZ:Hid (PrJ w wz B R Q ns rs lv ts' #[.string s0,.complex .f64 X0 Y0,.slice A pr.r.length c,.string (soS pr.p),.complex .f64 (soX L pr.p) (soY L pr.p)] lf v acc p):=aA (by rw[hwz];exact HP.out)
     clear hwz p3
     obtain⟨vT',vN',vR',hfin⟩:=HPZ.out.b
     have HFB:=aA hfin
     obtain⟨_,_,⟨AR2,cR2,hvR⟩⟩:=zag hfin
     subst hvR
     obtain⟨Av,cv,hvv,hv1,hv2,hrow⟩:=HPZ.out.o.row hB
     subst hvv
     have c2:wz.cell? ⟨R,2,none⟩=some (.slice AR2 rs.length cR2):=(hfin.at 2).1
     have hRs:=(hfin.at 2).2.2
     have hQs:=(Array.getElem?_eq_some_iff.1 HPZ.out.qb).1
     have HROW:=aA (And.intro hv1 (And.intro hv2 hrow))
     clear hfin hrow hv1 hv2
     have E0:∀y:Calm.OnB Q wz,y.1.cell? ⟨Q,0,none⟩=some (.int .i64 lf):=fun y=>cell_of_row y.1 _ 0 _ _ _ (y.2.trans HPZ.out.qb)
     have E1:∀y:Calm.OnB Q wz,y.1.cell? ⟨Q,1,none⟩=some (.slice Av acc.length cv):=fun y=>cell_of_row y.1 _ 1 _ _ _ (y.2.trans HPZ.out.qb)
     have E2:∀y:Calm.OnB Q wz,y.1.cell? ⟨Q,2,none⟩=some (.int .i64 p):=fun y=>cell_of_row y.1 _ 2 _ _ _ (y.2.trans HPZ.out.qb)
     refine CalmN.region_tree (fun x=>∃y:Calm.OnB Q wz,x=y.1) (.two [0,1,2,3,4,6] 5 (.one [] 7 (.one [] 8 (.one [9,10,11] 12 (.fin [])))) 7 (.one [] 5 (.one [] 8 (.one [9,10,11] 12 (.fin []))))) (by kernel_rfl) (by kernel_rfl) (fun _ _ d _ _ h=>by cases d <;> exact h) ⟨⟨wz.drew,rfl⟩,rfl⟩ ?_
     simp only[CalmN.wpT,CalmN.wpSt,CalmN.pickOps,List.getElem?_toArray,List.getElem?_cons_zero,List.getElem?_cons_succ]
     repeat (go_big_quiet_step (fail))
     refine wpQuiet_nil ?_
     clear E0 E1 E2
     have HQ1:=aA (fun o=>(Below.heap_alloc wz o Q hQs))
     refine⟨?_,?_⟩
     ·intro KK hKK
      rw[if_pos (by rfl)]
      go_wp2_with fail
      refine hKK _ _ ⟨⟨wz.drew,rfl⟩,rfl⟩ (fun x=>∃y:Calm.OnB Q wz,x=y.1) (fun _ h=>h) ⟨⟨wz.drew,rfl⟩,rfl⟩ ?_
      refine wpQuiet_nil ?_
      intro KK hKK
      rw[if_pos (by rfl)]
      go_wp2_with fail
      refine hKK _ _ ⟨⟨(wz.alloc _).drew,HQ1.out _⟩,rfl⟩ (fun x=>∃y:Calm.OnB Q wz,x=y.1) (fun _ h=>h) ⟨⟨(wz.alloc _).drew,HQ1.out _⟩,rfl⟩ ?_
      refine wpQuiet_nil ?_
      intro KK hKK
      rw[if_pos (by rfl)]
      obtain⟨wy,hwy⟩:∃x,x=(wz.alloc (.cells #[.int .i64 lf,.slice Av acc.length cv,.int .i64 p] 42)).drew:=⟨_,rfl⟩
      rw[←hwy]
      have A0:Hid (WRaw wy B w.heap.size R (wC vT' vN' (.slice AR2 rs.length cR2) lv) vT' vN' (.slice AR2 rs.length cR2) ts' ns rs):=aA (by rw[hwy];exact(HFB.out.alloc (.cells #[.int .i64 lf,.slice Av acc.length cv,.int .i64 p] 42)).drew9)
      have HWY:Hid (Below B w wy):=aA (by rw[hwy];exact aB (HPZ.out.w.alloc (Nat.le_trans hB HPZ.out.w.size) _) 1)
      have HKY:Hid (KpT w wy):=aA (by rw[hwy];exact HPZ.out.k.trans (KpT.below (aB ((Below.refl _ _).alloc (Nat.le_refl _) _) 1)))
      have HQY:Hid (wy.heap[Q]?=wz.heap[Q]?):=aA (by rw[hwy];exact HQ1.out _)
      have HZC:Hid (∀j u,(rlC (⟨lf,acc,p⟩,Av,cv))[j]?=some u→wy.cell? ⟨wz.heap.size,j,none⟩=some u):=aA (fun j u hj=>by rw[hwy];exact(aI wz (rlC (⟨lf,acc,p⟩,Av,cv)) 42 j).trans hj)
      have HRW2:Hid (zcA wy B wy.heap.size Av acc):=aA (by
       rw[hwy]
       exact(HROW.out.2.2.grown (w':=(wz.alloc (.cells #[.int .i64 lf,.slice Av acc.length cv,.int .i64 p] 42)).drew) (row:=none) ((World.grownBy_alloc wz (.cells #[.int .i64 lf,.slice Av acc.length cv,.int .i64 p] 42) none).trans (aG _ none)) (fun g e=>by cases e)).more (by show wz.heap.size≤(wz.alloc _).heap.size;simp))
      have HSW:Hid (w.heap.size≤wy.heap.size):=aA HWY.out.size
      clear hwy
      refine zaN (.tmp 102) (.tmp 104) _ rfl Try.underlying24 B w.heap.size _ rs rfl A0.out.r _ _ (⟨lf,acc,p⟩,Av,cv) rfl HZC.out ⟨HROW.out.1,HROW.out.2.1,HRW2.out⟩ (by omega) (Nat.le_trans hB HSW.out) HSW.out ?_
      intro v8 w8 ho8 hg8
      have A1:=aA ((A0.out.more (Nat.le_trans HSW.out hg8.size)).r_put ho8 hg8)
      obtain⟨A8,c8,rfl,_,_⟩:=zaj ho8
      have HQ8:Hid (w8.heap[Q]?=wz.heap[Q]?):=aA ((hg8.block Q (by have:=(Array.getElem?_eq_some_iff.1 (HQY.out.trans HPZ.out.qb)).1;exact this) (fun e=>by
       obtain⟨_,_,_,h3,_⟩:=A0.out.r
       have:=h3 _ e.symm
       have:=HPZ.out.q
       omega)).trans HQY.out)
      have HK8:Hid (KpA w w8):=aA (HKY.out.a.trans (by obtain⟨_,_,h2,_⟩:=A0.out.r;exact KpA.own h2 hg8 (.inr (.inr rfl))))
      have HW8:Hid (Below B w w8):=aA (HWY.out.grown hg8 (Nat.le_trans hB HSW.out) (fun k e=>by obtain⟨_,_,h2,_⟩:=A0.out.r;exact(aH h2 e).1))
      obtain⟨n8,hn8⟩:∃n,n=(rs++[(⟨lf,acc,p⟩:Gm.Rl)]).length:=⟨_,rfl⟩
      have c28:w8.cell? ⟨R,2,none⟩=some (.slice AR2 rs.length cR2):=(A1.out.at 2).1
      have f28:=(A1.out.at 2).2.1
      have hR8:=(A1.out.at 2).2.2
      rw[←hn8]at A1 ⊢
      clear ho8 hg8 A0 hn8
      refine hKK _ _ ⟨⟨w8,HQ8.out⟩,rfl⟩ (fun x=>∃y:Calm.OnB Q wz,x=y.1) (fun _ h=>h) ⟨⟨w8,HQ8.out⟩,rfl⟩ ?_
      go_frame
      repeat (go_big_quiet_step (fail))
      refine wpQuiet_nil ?_
      intro KK hKK
      rw[if_pos (by rfl)]
      go_wp2_with fail
      have HQ9:=aA (fun u=>(Below.heap_setCell w8 ⟨R,2,none⟩ u Q (by simp only;have:=HPZ.out.q;omega)).trans HQ8.out)
      refine hKK _ _ ⟨⟨w8.setCell ⟨R,2,none⟩ _,HQ9.out _⟩,rfl⟩ (fun x=>∃y:Calm.OnB Q wz,x=y.1) (fun _ h=>h) ⟨⟨w8.setCell ⟨R,2,none⟩ _,HQ9.out _⟩,rfl⟩ ?_
      refine wpQuiet_nil ?_
      clear hKK
      go_wp2
      go_end0
      refine⟨rfl,⟨?_,Fit.more HP.out.f ⟨HLI.out,HIN.out.2,HIN.out.1⟩,HPZ.out.t⟩,HW8.out.setCell A1.out.hR _,HK8.out.trans (KpT.set A1.out 2 _).a⟩
      rw[zav]
      exact⟨vT',vN',_,A1.out.set 2 _⟩
     ·intro KK hKK
      rw[if_pos (by rfl)]
      go_wp2_with fail
      refine hKK _ _ ⟨⟨(wz.alloc _).drew,HQ1.out _⟩,rfl⟩ (fun x=>∃y:Calm.OnB Q wz,x=y.1) (fun _ h=>h) ⟨⟨(wz.alloc _).drew,HQ1.out _⟩,rfl⟩ ?_
      refine wpQuiet_nil ?_
      intro KK hKK
      rw[if_pos (by rfl)]
      go_wp2_with fail
      refine hKK _ _ ⟨⟨(wz.alloc _).drew,HQ1.out _⟩,rfl⟩ (fun x=>∃y:Calm.OnB Q wz,x=y.1) (fun _ h=>h) ⟨⟨(wz.alloc _).drew,HQ1.out _⟩,rfl⟩ ?_
      refine wpQuiet_nil ?_
      intro KK hKK
      rw[if_pos (by rfl)]
      obtain⟨wy,hwy⟩:∃x,x=(wz.alloc (.cells #[.int .i64 lf,.slice Av acc.length cv,.int .i64 p] 42)).drew:=⟨_,rfl⟩
      rw[←hwy]
      have A0:Hid (WRaw wy B w.heap.size R (wC vT' vN' (.slice AR2 rs.length cR2) lv) vT' vN' (.slice AR2 rs.length cR2) ts' ns rs):=aA (by rw[hwy];exact(HFB.out.alloc (.cells #[.int .i64 lf,.slice Av acc.length cv,.int .i64 p] 42)).drew9)
      have HWY:Hid (Below B w wy):=aA (by rw[hwy];exact aB (HPZ.out.w.alloc (Nat.le_trans hB HPZ.out.w.size) _) 1)
      have HKY:Hid (KpT w wy):=aA (by rw[hwy];exact HPZ.out.k.trans (KpT.below (aB ((Below.refl _ _).alloc (Nat.le_refl _) _) 1)))
      have HQY:Hid (wy.heap[Q]?=wz.heap[Q]?):=aA (by rw[hwy];exact HQ1.out _)
      have HZC:Hid (∀j u,(rlC (⟨lf,acc,p⟩,Av,cv))[j]?=some u→wy.cell? ⟨wz.heap.size,j,none⟩=some u):=aA (fun j u hj=>by rw[hwy];exact(aI wz (rlC (⟨lf,acc,p⟩,Av,cv)) 42 j).trans hj)
      have HRW2:Hid (zcA wy B wy.heap.size Av acc):=aA (by
       rw[hwy]
       exact(HROW.out.2.2.grown (w':=(wz.alloc (.cells #[.int .i64 lf,.slice Av acc.length cv,.int .i64 p] 42)).drew) (row:=none) ((World.grownBy_alloc wz (.cells #[.int .i64 lf,.slice Av acc.length cv,.int .i64 p] 42) none).trans (aG _ none)) (fun g e=>by cases e)).more (by show wz.heap.size≤(wz.alloc _).heap.size;simp))
      have HSW:Hid (w.heap.size≤wy.heap.size):=aA HWY.out.size
      clear hwy
      refine zaN (.tmp 102) (.tmp 104) _ rfl Try.underlying24 B w.heap.size _ rs rfl A0.out.r _ _ (⟨lf,acc,p⟩,Av,cv) rfl HZC.out ⟨HROW.out.1,HROW.out.2.1,HRW2.out⟩ (by omega) (Nat.le_trans hB HSW.out) HSW.out ?_
      intro v8 w8 ho8 hg8
      have A1:=aA ((A0.out.more (Nat.le_trans HSW.out hg8.size)).r_put ho8 hg8)
      obtain⟨A8,c8,rfl,_,_⟩:=zaj ho8
      have HQ8:Hid (w8.heap[Q]?=wz.heap[Q]?):=aA ((hg8.block Q (by have:=(Array.getElem?_eq_some_iff.1 (HQY.out.trans HPZ.out.qb)).1;exact this) (fun e=>by
       obtain⟨_,_,_,h3,_⟩:=A0.out.r
       have:=h3 _ e.symm
       have:=HPZ.out.q
       omega)).trans HQY.out)
      have HK8:Hid (KpA w w8):=aA (HKY.out.a.trans (by obtain⟨_,_,h2,_⟩:=A0.out.r;exact KpA.own h2 hg8 (.inr (.inr rfl))))
      have HW8:Hid (Below B w w8):=aA (HWY.out.grown hg8 (Nat.le_trans hB HSW.out) (fun k e=>by obtain⟨_,_,h2,_⟩:=A0.out.r;exact(aH h2 e).1))
      obtain⟨n8,hn8⟩:∃n,n=(rs++[(⟨lf,acc,p⟩:Gm.Rl)]).length:=⟨_,rfl⟩
      have c28:w8.cell? ⟨R,2,none⟩=some (.slice AR2 rs.length cR2):=(A1.out.at 2).1
      have f28:=(A1.out.at 2).2.1
      have hR8:=(A1.out.at 2).2.2
      rw[←hn8]at A1 ⊢
      clear ho8 hg8 A0 hn8
      refine hKK _ _ ⟨⟨w8,HQ8.out⟩,rfl⟩ (fun x=>∃y:Calm.OnB Q wz,x=y.1) (fun _ h=>h) ⟨⟨w8,HQ8.out⟩,rfl⟩ ?_
      go_frame
      repeat (go_big_quiet_step (fail))
      refine wpQuiet_nil ?_
      intro KK hKK
      rw[if_pos (by rfl)]
      go_wp2_with fail
      have HQ9:=aA (fun u=>(Below.heap_setCell w8 ⟨R,2,none⟩ u Q (by simp only;have:=HPZ.out.q;omega)).trans HQ8.out)
      refine hKK _ _ ⟨⟨w8.setCell ⟨R,2,none⟩ _,HQ9.out _⟩,rfl⟩ (fun x=>∃y:Calm.OnB Q wz,x=y.1) (fun _ h=>h) ⟨⟨w8.setCell ⟨R,2,none⟩ _,HQ9.out _⟩,rfl⟩ ?_
      refine wpQuiet_nil ?_
      clear hKK
      go_wp2
      go_end0
      refine⟨rfl,⟨?_,Fit.more HP.out.f ⟨HLI.out,HIN.out.2,HIN.out.1⟩,HPZ.out.t⟩,HW8.out.setCell A1.out.hR _,HK8.out.trans (KpT.set A1.out 2 _).a⟩
      rw[zav]
      exact⟨vT',vN',_,A1.out.set 2 _⟩
    ·subst e2
     obtain⟨hx1,hx2,hx3⟩:=HXP.out x hps
     obtain⟨hstep,hfit2⟩:=zcF hsp hx1 HP.out.f
     obtain⟨hzin,ht2⟩:=zeo hsp HP.out.t
     have HZ2:=aA hzin
     have HF2:=aA (And.intro hfit2 ht2)
     have HNM:=aA (fun(y:World)=>zaA x.t hx1 y)
     rw[hx2]at HNM
     have HSY:=aA (fun(y:World) (h:Wk y B w.heap.size R tk ns rs lv) (hy:w.heap.size≤y.heap.size)=>zci L B w.heap.size R tk ts' ns rs lv z2 x false y h HP.out.f hx1 hx3 hy (Nat.le_trans hB hy) hstep HP.out.t h16)
     unfold aY at HSY
     have hne:(K.str x.t).toList.isEmpty=false:=zcP hx2
     replace p3:wr.cell? ⟨w.heap.size,3,none⟩=some (.string (K.str x.t)):=by rw[p3,hps];rfl
     replace p4:wr.cell? ⟨w.heap.size,4,none⟩=some (.complex .f64 (Fl.fl (Pl.pos (L.take x.o)).1) (Fl.fl (Pl.pos (L.take x.o)).2)):=by rw[p4,hps];rfl
     have HC:=aA (HSY.out _ HP.out.b HP.out.w.size)
     clear hx1 hx2 hx3 hstep hfit2 hzin ht2 hsp HSY
     generalize K.str x.t=sx at *
     generalize Fl.fl (Pl.pos (L.take x.o)).1=X at *
     generalize Fl.fl (Pl.pos (L.take x.o)).2=Y at *
     go_wp2_with fail
     refine(HNM.out _).mono ?_;rintro _ _ ⟨rfl,rfl⟩
     go_wp2_with fail
     refine HC.out.mono ?_;rintro _ w2 ⟨rfl,hb2,hw2,hk2⟩
     have HP2:=aA (HP.out.call hb2 hw2 hk2 HF2.out.1 HF2.out.2)
     have q2:w2.cell? ⟨Q,2,none⟩=some (.int .i64 p):=cell_of_row w2 _ 2 _ _ _ HP2.out.qb
     have f2:=frozen_of_row w2 _ 2 _ _ HP2.out.qb
     have hQ2:=(Array.getElem?_eq_some_iff.1 HP2.out.qb).1
     clear hb2 hw2 hk2 p3 p4
     go_upto_region 20 with fail
     obtain⟨wz,hwz⟩:∃x,x=w2.setCell ⟨Q,2,none⟩ (.int .i64 z2):=⟨_,rfl⟩
     rw[←hwz]
     have HPZ:Hid (PrJ w wz B R Q ns rs lv ts' #[.string s0,.complex .f64 X0 Y0,.slice A pr.r.length c,.string (soS pr.p),.complex .f64 (soX L pr.p) (soY L pr.p)] lf v acc z2):=aA (by rw[hwz];exact HP2.out.setQ 2 (.int .i64 z2) rfl (HP2.out.o.set_away HP2.out.qb 2 _) hB)
     clear hwz q2 f2 hQ2
     obtain⟨vT',vN',vR',hfin⟩:=HPZ.out.b
     have HFB:=aA hfin
     obtain⟨_,_,⟨AR2,cR2,hvR⟩⟩:=zag hfin
     subst hvR
     obtain⟨Av,cv,hvv,hv1,hv2,hrow⟩:=HPZ.out.o.row hB
     subst hvv
     have c2:wz.cell? ⟨R,2,none⟩=some (.slice AR2 rs.length cR2):=(hfin.at 2).1
     have hRs:=(hfin.at 2).2.2
     have hQs:=(Array.getElem?_eq_some_iff.1 HPZ.out.qb).1
     have HROW:=aA (And.intro hv1 (And.intro hv2 hrow))
     clear hfin hrow hv1 hv2
     have E0:∀y:Calm.OnB Q wz,y.1.cell? ⟨Q,0,none⟩=some (.int .i64 lf):=fun y=>cell_of_row y.1 _ 0 _ _ _ (y.2.trans HPZ.out.qb)
     have E1:∀y:Calm.OnB Q wz,y.1.cell? ⟨Q,1,none⟩=some (.slice Av acc.length cv):=fun y=>cell_of_row y.1 _ 1 _ _ _ (y.2.trans HPZ.out.qb)
     have E2:∀y:Calm.OnB Q wz,y.1.cell? ⟨Q,2,none⟩=some (.int .i64 z2):=fun y=>cell_of_row y.1 _ 2 _ _ _ (y.2.trans HPZ.out.qb)
     refine CalmN.region_tree (fun x=>∃y:Calm.OnB Q wz,x=y.1) (.two [0,1,2,3,4,6] 5 (.one [] 7 (.one [] 8 (.one [9,10,11] 12 (.fin [])))) 7 (.one [] 5 (.one [] 8 (.one [9,10,11] 12 (.fin []))))) (by kernel_rfl) (by kernel_rfl) (fun _ _ d _ _ h=>by cases d <;> exact h) ⟨⟨wz.drew,rfl⟩,rfl⟩ ?_
     simp only[CalmN.wpT,CalmN.wpSt,CalmN.pickOps,List.getElem?_toArray,List.getElem?_cons_zero,List.getElem?_cons_succ]
     repeat (go_big_quiet_step (fail))
     refine wpQuiet_nil ?_
     clear E0 E1 E2
     have HQ1:=aA (fun o=>(Below.heap_alloc wz o Q hQs))
     refine⟨?_,?_⟩
     ·intro KK hKK
      rw[if_pos (by rfl)]
      go_wp2_with fail
      refine hKK _ _ ⟨⟨wz.drew,rfl⟩,rfl⟩ (fun x=>∃y:Calm.OnB Q wz,x=y.1) (fun _ h=>h) ⟨⟨wz.drew,rfl⟩,rfl⟩ ?_
      refine wpQuiet_nil ?_
      intro KK hKK
      rw[if_pos (by rfl)]
      go_wp2_with fail
      refine hKK _ _ ⟨⟨(wz.alloc _).drew,HQ1.out _⟩,rfl⟩ (fun x=>∃y:Calm.OnB Q wz,x=y.1) (fun _ h=>h) ⟨⟨(wz.alloc _).drew,HQ1.out _⟩,rfl⟩ ?_
      refine wpQuiet_nil ?_
      intro KK hKK
      rw[if_pos (by rfl)]
      obtain⟨wy,hwy⟩:∃x,x=(wz.alloc (.cells #[.int .i64 lf,.slice Av acc.length cv,.int .i64 z2] 42)).drew:=⟨_,rfl⟩
      rw[←hwy]
      have A0:Hid (WRaw wy B w.heap.size R (wC vT' vN' (.slice AR2 rs.length cR2) lv) vT' vN' (.slice AR2 rs.length cR2) ts' ns rs):=aA (by rw[hwy];exact(HFB.out.alloc (.cells #[.int .i64 lf,.slice Av acc.length cv,.int .i64 z2] 42)).drew9)
      have HWY:Hid (Below B w wy):=aA (by rw[hwy];exact aB (HPZ.out.w.alloc (Nat.le_trans hB HPZ.out.w.size) _) 1)
      have HKY:Hid (KpT w wy):=aA (by rw[hwy];exact HPZ.out.k.trans (KpT.below (aB ((Below.refl _ _).alloc (Nat.le_refl _) _) 1)))
      have HQY:Hid (wy.heap[Q]?=wz.heap[Q]?):=aA (by rw[hwy];exact HQ1.out _)
      have HZC:Hid (∀j u,(rlC (⟨lf,acc,z2⟩,Av,cv))[j]?=some u→wy.cell? ⟨wz.heap.size,j,none⟩=some u):=aA (fun j u hj=>by rw[hwy];exact(aI wz (rlC (⟨lf,acc,z2⟩,Av,cv)) 42 j).trans hj)
      have HRW2:Hid (zcA wy B wy.heap.size Av acc):=aA (by
       rw[hwy]
       exact(HROW.out.2.2.grown (w':=(wz.alloc (.cells #[.int .i64 lf,.slice Av acc.length cv,.int .i64 z2] 42)).drew) (row:=none) ((World.grownBy_alloc wz (.cells #[.int .i64 lf,.slice Av acc.length cv,.int .i64 z2] 42) none).trans (aG _ none)) (fun g e=>by cases e)).more (by show wz.heap.size≤(wz.alloc _).heap.size;simp))
      have HSW:Hid (w.heap.size≤wy.heap.size):=aA HWY.out.size
      clear hwy
      refine zaN (.tmp 102) (.tmp 104) _ rfl Try.underlying24 B w.heap.size _ rs rfl A0.out.r _ _ (⟨lf,acc,z2⟩,Av,cv) rfl HZC.out ⟨HROW.out.1,HROW.out.2.1,HRW2.out⟩ (by omega) (Nat.le_trans hB HSW.out) HSW.out ?_
      intro v8 w8 ho8 hg8
      have A1:=aA ((A0.out.more (Nat.le_trans HSW.out hg8.size)).r_put ho8 hg8)
      obtain⟨A8,c8,rfl,_,_⟩:=zaj ho8
      have HQ8:Hid (w8.heap[Q]?=wz.heap[Q]?):=aA ((hg8.block Q (by have:=(Array.getElem?_eq_some_iff.1 (HQY.out.trans HPZ.out.qb)).1;exact this) (fun e=>by
       obtain⟨_,_,_,h3,_⟩:=A0.out.r
       have:=h3 _ e.symm
       have:=HPZ.out.q
       omega)).trans HQY.out)
      have HK8:Hid (KpA w w8):=aA (HKY.out.a.trans (by obtain⟨_,_,h2,_⟩:=A0.out.r;exact KpA.own h2 hg8 (.inr (.inr rfl))))
      have HW8:Hid (Below B w w8):=aA (HWY.out.grown hg8 (Nat.le_trans hB HSW.out) (fun k e=>by obtain⟨_,_,h2,_⟩:=A0.out.r;exact(aH h2 e).1))
      obtain⟨n8,hn8⟩:∃n,n=(rs++[(⟨lf,acc,z2⟩:Gm.Rl)]).length:=⟨_,rfl⟩
      have c28:w8.cell? ⟨R,2,none⟩=some (.slice AR2 rs.length cR2):=(A1.out.at 2).1
      have f28:=(A1.out.at 2).2.1
      have hR8:=(A1.out.at 2).2.2
      rw[←hn8]at A1 ⊢
      clear ho8 hg8 A0 hn8
      refine hKK _ _ ⟨⟨w8,HQ8.out⟩,rfl⟩ (fun x=>∃y:Calm.OnB Q wz,x=y.1) (fun _ h=>h) ⟨⟨w8,HQ8.out⟩,rfl⟩ ?_
      go_frame
      repeat (go_big_quiet_step (fail))
      refine wpQuiet_nil ?_
      intro KK hKK
      rw[if_pos (by rfl)]
      go_wp2_with fail
      have HQ9:=aA (fun u=>(Below.heap_setCell w8 ⟨R,2,none⟩ u Q (by simp only;have:=HPZ.out.q;omega)).trans HQ8.out)
      refine hKK _ _ ⟨⟨w8.setCell ⟨R,2,none⟩ _,HQ9.out _⟩,rfl⟩ (fun x=>∃y:Calm.OnB Q wz,x=y.1) (fun _ h=>h) ⟨⟨w8.setCell ⟨R,2,none⟩ _,HQ9.out _⟩,rfl⟩ ?_
      refine wpQuiet_nil ?_
      clear hKK
      go_wp2
      go_end0
      refine⟨rfl,⟨?_,Fit.more HP2.out.f ⟨HLI.out,HZ2.out,HIN.out.1⟩,HPZ.out.t⟩,HW8.out.setCell A1.out.hR _,HK8.out.trans (KpT.set A1.out 2 _).a⟩
      rw[zav]
      exact⟨vT',vN',_,A1.out.set 2 _⟩
     ·intro KK hKK
      rw[if_pos (by rfl)]
      go_wp2_with fail
      refine hKK _ _ ⟨⟨(wz.alloc _).drew,HQ1.out _⟩,rfl⟩ (fun x=>∃y:Calm.OnB Q wz,x=y.1) (fun _ h=>h) ⟨⟨(wz.alloc _).drew,HQ1.out _⟩,rfl⟩ ?_
      refine wpQuiet_nil ?_
      intro KK hKK
      rw[if_pos (by rfl)]
      go_wp2_with fail
      refine hKK _ _ ⟨⟨(wz.alloc _).drew,HQ1.out _⟩,rfl⟩ (fun x=>∃y:Calm.OnB Q wz,x=y.1) (fun _ h=>h) ⟨⟨(wz.alloc _).drew,HQ1.out _⟩,rfl⟩ ?_
      refine wpQuiet_nil ?_
      intro KK hKK
      rw[if_pos (by rfl)]
      obtain⟨wy,hwy⟩:∃x,x=(wz.alloc (.cells #[.int .i64 lf,.slice Av acc.length cv,.int .i64 z2] 42)).drew:=⟨_,rfl⟩
      rw[←hwy]
      have A0:Hid (WRaw wy B w.heap.size R (wC vT' vN' (.slice AR2 rs.length cR2) lv) vT' vN' (.slice AR2 rs.length cR2) ts' ns rs):=aA (by rw[hwy];exact(HFB.out.alloc (.cells #[.int .i64 lf,.slice Av acc.length cv,.int .i64 z2] 42)).drew9)
      have HWY:Hid (Below B w wy):=aA (by rw[hwy];exact aB (HPZ.out.w.alloc (Nat.le_trans hB HPZ.out.w.size) _) 1)
      have HKY:Hid (KpT w wy):=aA (by rw[hwy];exact HPZ.out.k.trans (KpT.below (aB ((Below.refl _ _).alloc (Nat.le_refl _) _) 1)))
      have HQY:Hid (wy.heap[Q]?=wz.heap[Q]?):=aA (by rw[hwy];exact HQ1.out _)
      have HZC:Hid (∀j u,(rlC (⟨lf,acc,z2⟩,Av,cv))[j]?=some u→wy.cell? ⟨wz.heap.size,j,none⟩=some u):=aA (fun j u hj=>by rw[hwy];exact(aI wz (rlC (⟨lf,acc,z2⟩,Av,cv)) 42 j).trans hj)
      have HRW2:Hid (zcA wy B wy.heap.size Av acc):=aA (by
       rw[hwy]
       exact(HROW.out.2.2.grown (w':=(wz.alloc (.cells #[.int .i64 lf,.slice Av acc.length cv,.int .i64 z2] 42)).drew) (row:=none) ((World.grownBy_alloc wz (.cells #[.int .i64 lf,.slice Av acc.length cv,.int .i64 z2] 42) none).trans (aG _ none)) (fun g e=>by cases e)).more (by show wz.heap.size≤(wz.alloc _).heap.size;simp))
      have HSW:Hid (w.heap.size≤wy.heap.size):=aA HWY.out.size
      clear hwy
      refine zaN (.tmp 102) (.tmp 104) _ rfl Try.underlying24 B w.heap.size _ rs rfl A0.out.r _ _ (⟨lf,acc,z2⟩,Av,cv) rfl HZC.out ⟨HROW.out.1,HROW.out.2.1,HRW2.out⟩ (by omega) (Nat.le_trans hB HSW.out) HSW.out ?_
      intro v8 w8 ho8 hg8
      have A1:=aA ((A0.out.more (Nat.le_trans HSW.out hg8.size)).r_put ho8 hg8)
      obtain⟨A8,c8,rfl,_,_⟩:=zaj ho8
      have HQ8:Hid (w8.heap[Q]?=wz.heap[Q]?):=aA ((hg8.block Q (by have:=(Array.getElem?_eq_some_iff.1 (HQY.out.trans HPZ.out.qb)).1;exact this) (fun e=>by
       obtain⟨_,_,_,h3,_⟩:=A0.out.r
       have:=h3 _ e.symm
       have:=HPZ.out.q
       omega)).trans HQY.out)
      have HK8:Hid (KpA w w8):=aA (HKY.out.a.trans (by obtain⟨_,_,h2,_⟩:=A0.out.r;exact KpA.own h2 hg8 (.inr (.inr rfl))))
      have HW8:Hid (Below B w w8):=aA (HWY.out.grown hg8 (Nat.le_trans hB HSW.out) (fun k e=>by obtain⟨_,_,h2,_⟩:=A0.out.r;exact(aH h2 e).1))
      obtain⟨n8,hn8⟩:∃n,n=(rs++[(⟨lf,acc,z2⟩:Gm.Rl)]).length:=⟨_,rfl⟩
      have c28:w8.cell? ⟨R,2,none⟩=some (.slice AR2 rs.length cR2):=(A1.out.at 2).1
      have f28:=(A1.out.at 2).2.1
      have hR8:=(A1.out.at 2).2.2
      rw[←hn8]at A1 ⊢
      clear ho8 hg8 A0 hn8
      refine hKK _ _ ⟨⟨w8,HQ8.out⟩,rfl⟩ (fun x=>∃y:Calm.OnB Q wz,x=y.1) (fun _ h=>h) ⟨⟨w8,HQ8.out⟩,rfl⟩ ?_
      go_frame
      repeat (go_big_quiet_step (fail))
      refine wpQuiet_nil ?_
      intro KK hKK
      rw[if_pos (by rfl)]
      go_wp2_with fail
      have HQ9:=aA (fun u=>(Below.heap_setCell w8 ⟨R,2,none⟩ u Q (by simp only;have:=HPZ.out.q;omega)).trans HQ8.out)
      refine hKK _ _ ⟨⟨w8.setCell ⟨R,2,none⟩ _,HQ9.out _⟩,rfl⟩ (fun x=>∃y:Calm.OnB Q wz,x=y.1) (fun _ h=>h) ⟨⟨w8.setCell ⟨R,2,none⟩ _,HQ9.out _⟩,rfl⟩ ?_
      refine wpQuiet_nil ?_
      clear hKK
      go_wp2
      go_end0
      refine⟨rfl,⟨?_,Fit.more HP2.out.f ⟨HLI.out,HZ2.out,HIN.out.1⟩,HPZ.out.t⟩,HW8.out.setCell A1.out.hR _,HK8.out.trans (KpT.set A1.out 2 _).a⟩
      rw[zav]
      exact⟨vT',vN',_,A1.out.set 2 _⟩
 ·intro KK hKK
  rw[if_pos (by rfl)]
  go_wp2_with fail
  refine hKK _ _ ⟨⟨_,HDb.out _⟩,rfl⟩ (fun x=>∃y:Calm.On w1.heap.size w1,x=y.1) (fun _ h=>h) ⟨⟨_,HDb.out _⟩,rfl⟩ ?_
  refine wpQuiet_nil ?_
  intro KK hKK
  rw[if_pos (by rfl)]
  go_wp2_with fail
  have HBz:Hid (Below w1.heap.size w1 (w1.alloc (.cells #[.int .i64 0,.slice none 0 0,.int .i64 0] 42)).drew):=aA (aB ((Below.refl _ w1).alloc (Nat.le_refl _) _) 1)
  refine(HNO.out _ _ (HQw1.out.below HBz.out) (by have:=HBz.out.size;omega)).mono ?_;rintro _ w2 ⟨rfl,hb2⟩
  have HB2:=aA (HBz.out.trans (hb2.mono HBz.out.size))
  have HZ2:Hid (w2.heap[w1.heap.size]?=some (.cells #[.int .i64 0,.slice none 0 0,.int .i64 0] 42 (0,0))):=aA ((hb2.block w1.heap.size (by show w1.heap.size<(w1.alloc _).heap.size;simp)).trans (heap_alloc_new w1 _))
  have hz2:w1.heap.size<w2.heap.size:=(Array.getElem?_eq_some_iff.1 HZ2.out).1
  clear hb2
  go_wp2_with fail
  refine hKK _ _ ⟨⟨w2,HB2.out⟩,rfl⟩ (fun x=>∃y:Calm.On w1.heap.size w1,x=y.1) (fun _ h=>h) ⟨⟨w2,HB2.out⟩,rfl⟩ ?_
  repeat (go_big_quiet_step (fail))
  refine wpQuiet_nil ?_
  intro KK hKK
  rw[if_pos (by rfl)]
  obtain⟨Q,hQ⟩:∃x,x=w.heap.size+1:=⟨_,rfl⟩
  rw[←hQ]
  have hQ1:w1.heap.size=Q:=by omega
  rw[hQ1]at HZ2 HB2
  have HB3:=aA (fun u0 u1 u2=>((HB2.out.setCell (p:=⟨Q,0,none⟩) (Nat.le_refl _) u0).setCell (p:=⟨Q,1,none⟩) (Nat.le_refl _) u1).setCell (p:=⟨Q,2,none⟩) (Nat.le_refl _) u2)
  have HQS:Hid (w.heap.size<Q∧w1.heap.size=Q):=aA (by omega)
  have z0:=frozen_of_row w2 _ 0 _ _ HZ2.out
  have z1:=frozen_of_row w2 _ 1 _ _ HZ2.out
  have z2:=frozen_of_row w2 _ 2 _ _ HZ2.out
  have y0:w2.cell? ⟨Q,0,none⟩=some (.int .i64 0):=by rw[cell_of_row w2 _ 0 _ _ _ HZ2.out];rfl
  have y1:w2.cell? ⟨Q,1,none⟩=some (.slice none 0 0):=by rw[cell_of_row w2 _ 1 _ _ _ HZ2.out];rfl
  have y2:w2.cell? ⟨Q,2,none⟩=some (.int .i64 0):=by rw[cell_of_row w2 _ 2 _ _ _ HZ2.out];rfl
  have hz2:Q<w2.heap.size:=(Array.getElem?_eq_some_iff.1 HZ2.out).1
  clear hQ hQ1 hs1 hd1
  go_wp2_with fail
  refine hKK _ _ ⟨⟨_,by rw[HQS.out.2];exact HB3.out _ _ _⟩,rfl⟩ (fun x=>∃y:Calm.On w1.heap.size w1,x=y.1) (fun _ h=>h) ⟨⟨_,by rw[HQS.out.2];exact HB3.out _ _ _⟩,rfl⟩ ?_
  refine wpQuiet_nil ?_
  clear hKK RB
  obtain⟨wq,hwq⟩:∃x,x=((w2.setCell ⟨Q,0,none⟩ (.int .i64 lf)).setCell ⟨Q,1,none⟩ (.slice none 0 0)).setCell ⟨Q,2,none⟩ (.int .i64 (-1)):=⟨_,rfl⟩
  rw[←hwq]
  have HPX:Hid (PrJ w wq B R Q ns rs lv ts #[.string s0,.complex .f64 X0 Y0,.slice A pr.r.length c,.string (soS pr.p),.complex .f64 (soX L pr.p) (soY L pr.p)] lf (.slice none 0 0) [] (-1)):=aA (by
   have hb1:Below w1.heap.size w1 wq:=by rw[hwq,HQS.out.2];exact HB3.out _ _ _
   have hbw:Below w.heap.size w wq:=HW1.out.trans (hb1.mono HW1.out.size)
   have hd1:w.heap.size<w1.heap.size:=by have:=HQS.out;omega
   exact⟨⟨_,_,_,HQw1.out.below hb1⟩,HF.out,h24,hbw.mono hB,KpT.below hbw,HQS.out.1,(hb1.block w.heap.size hd1).trans HP1.out,by rw[hwq];exact heap_setCell_same _ _ 2 _ _ _ (heap_setCell_same _ _ 1 _ _ _ (heap_setCell_same _ _ 0 _ _ _ HZ2.out)),zbi _ _⟩)
  clear hwq HB2 HB3 hz2 HNO HQw1 HP1 HW1 HRB HDa HDb hR1 HRW z0 z1 z2 y0 y1 y2 HZ2 HQS HBz
  have HEX:=aA (Array.getElem?_eq_some_iff.1 HPX.out.pb).1
  obtain⟨vTq,vNq,vRq,hwq⟩:=HPX.out.b
  obtain⟨_,_,⟨ARq,cRq,rfl⟩⟩:=zag hwq
  obtain⟨k2,_,hRq⟩:=hwq.at 2
  simp only[wC,List.getElem?_toArray,List.getElem?_cons_zero,List.getElem?_cons_succ]at k2
  have e40:((rs.length:Int)==40)=false:=beq_eq_false_iff_ne.2 (by omega)
  clear hwq
  go_wp2
  clear k2 hRq e40
  go_loopw [5] (fun vi wr=>∃(i:Nat) (tk:List Gm.Tm) (acc:List Int) (p:Int) (v:Value),i≤pr.r.length∧vi=.int .i64 i∧acc.length=i∧Hid (Gm.rights ns tk acc p (pr.r.drop i)=.ok (tz,az,pz))∧Hid ((∀z∈acc,Gm.In z)∧Gm.In p)∧Hid (PrJ w wr B R Q ns rs lv tk #[.string s0,.complex .f64 X0 Y0,.slice A pr.r.length c,.string (soS pr.p),.complex .f64 (soX L pr.p) (soY L pr.p)] lf v acc p)) (fun vi _=>pr.r.length-(intOf vi).toNat)
  case atStart=>exact⟨0,ts,[],-1,.slice none 0 0,Nat.zero_le _,rfl,rfl,HRT,aA ⟨by simp,by unfold Gm.In;omega⟩,HPX⟩
  case round =>
   clear HPX HEX
   obtain⟨i,tk,acc,p,v,hi,rfl,hai,HE,HIN,HP⟩:=hrel
   have HAI:=aA hai
   have p2:wr.cell? ⟨w.heap.size,2,none⟩=some (.slice A pr.r.length c):=cell_of_row wr _ 2 _ _ _ HP.out.pb
   have hPs:=(Array.getElem?_eq_some_iff.1 HP.out.pb).1
   obtain⟨vTr,vNr,vRr,hwr⟩:=HP.out.b
   have f10:=(hwr.at 10).1
   have hRr:=hwr.lt
   simp only[wC,List.getElem?_toArray,List.getElem?_cons_zero,List.getElem?_cons_succ]at f10
   clear hwr hai
   by_cases hlt:i<pr.r.length
   ·obtain⟨g,o,rfl,hgB,hc⟩:=HR.out (by omega)
    have k0:=(HP.out.w.cell (p:=⟨g,o+i*2,none⟩) hgB).trans (hc i hlt).1
    have k1:=(HP.out.w.cell (p:=⟨g,o+i*2+1,none⟩) hgB).trans (hc i hlt).2
    have hBs:=HP.out.w.size
    have hgs:g<wr.heap.size:=by omega
    obtain⟨hx1,hx2,hx3⟩:=HDX.out i hlt
    have hE:=HE.out
    rw[zby hlt]at hE
    have h6:acc.length≠6:=fun q=>by rw[if_pos q]at hE;cases hE
    rw[if_neg h6]at hE
    obtain⟨⟨t2,zz⟩,hs,hE2⟩:=Gm.R.bind_eq hE
    simp only at hE2
    have HE2:=aA hE2
    obtain⟨hstep,hfit2⟩:=zcE hs hx1 HP.out.f
    obtain⟨hzin,ht2⟩:=zen hs HP.out.t h16
    have HF2:=aA (And.intro hfit2 (And.intro ht2 hzin))
    have e6:((i:Int)==6)=false:=beq_eq_false_iff_ne.2 (by have:=HAI.out;omega)
    have HNM:=aA (fun(y:World)=>zaA pr.r[i].t hx1 y)
    rw[hx2]at HNM
    have HSY:=aA (fun(y:World) (h:Wk y B w.heap.size R tk ns rs lv) (hy:w.heap.size≤y.heap.size)=>zci L B w.heap.size R tk t2 ns rs lv zz pr.r[i] true y h HP.out.f hx1 hx3 hy (Nat.le_trans hB hy) hstep HP.out.t h16)
    unfold aY at HSY
    clear hc hE hE2 hs hstep hfit2 hzin ht2 hx1 hx2 hx3 h6
    unfold rfX rfY at k1
    generalize K.str pr.r[i].t=sx at *
    generalize Fl.fl (Pl.pos (L.take pr.r[i].o)).1=X at *
    generalize Fl.fl (Pl.pos (L.take pr.r[i].o)).2=Y at *
    have HPA:=aA (HP.out.alloc (.cells #[.string sx,.complex .f64 X Y] 77) hB)
    have HCR:=aA (heap_alloc_new wr (.cells #[.string sx,.complex .f64 X Y] 77))
    have HC:=aA (HSY.out _ HPA.out.b HPA.out.w.size)
    go_wp2_with fail
    refine(HNM.out _).mono ?_;rintro _ _ ⟨rfl,rfl⟩
    go_wp2_with fail
    refine HC.out.mono ?_;rintro _ w2 ⟨rfl,hb2,hw2,hk2⟩
    have HP2:=aA (HPA.out.call hb2 hw2 hk2 HF2.out.1 HF2.out.2.1)
    obtain⟨Av,nv,cv,hvv⟩:=zaB HP2.out.o
    subst hvv
    have q1:w2.cell? ⟨Q,1,none⟩=some (.slice Av nv cv):=cell_of_row w2 _ 1 _ _ _ HP2.out.qb
    have hQs:=(Array.getElem?_eq_some_iff.1 HP2.out.qb).1
    have HP3:=aA (HP2.out.alloc (.cells #[.int .i64 zz] 3) hB)
    have HS2:Hid (w.heap.size≤w2.heap.size):=aA HP2.out.w.size
    have hil:acc.length≤1000000000000:=by have:=HAI.out;omega
    clear hb2 hw2 hk2 p2 f10 k0 k1 HC HSY HNM
    by_cases hzp:0≤zz
    ·have HX:Hid (Gm.rights ns t2 (acc++[zz]) zz (pr.r.drop (i+1))=.ok (tz,az,pz)):=aA (by have h:=HE2.out;rw[if_pos hzp]at h;exact h)
     have e:decide (0≤zz)=true:=decide_eq_true hzp
     go_wp2_with (refine zbe rfl (.tmp 63) (.tmp 65) _ rfl Try.underlying27 w.heap.size _ acc rfl HP3.out.o _ _ zz rfl (aI w2 [.int .i64 zz] 3 0) hil (by have:=HS2.out;simp;omega) ?_;intro v4 w4 ho4 hg4;obtain⟨A4,n4,c4,rfl⟩:=zaB ho4;have happ:=aA (HP3.out.app ho4 hg4 hB);have q41:w4.cell? ⟨Q,1,none⟩=some (.slice Av nv cv):=cell_of_row w4 _ 1 _ _ _ happ.out.1;have q42:w4.cell? ⟨Q,2,none⟩=some (.int .i64 p):=cell_of_row w4 _ 2 _ _ _ happ.out.1;have f41:=frozen_of_row w4 _ 1 _ _ happ.out.1;have f42:=frozen_of_row w4 _ 2 _ _ happ.out.1;have hQ4:=(Array.getElem?_eq_some_iff.1 happ.out.1).1;clear ho4 hg4)
     go_roundw
     case rel=>exact⟨i+1,t2,acc++[zz],zz,.slice A4 n4 c4,hlt,by go_num,by rw[List.length_append,List.length_singleton,HAI.out],HX,aA ⟨fun z hz=>by rcases List.mem_append.1 hz with q|q;exact HIN.out.1 z q;rw[List.mem_singleton.1 q];exact HF2.out.2.2,HF2.out.2.2⟩,aA (happ.out.2.setQ 2 (.int .i64 zz) rfl (happ.out.2.o.set_away happ.out.2.qb 2 _) hB)⟩
     case measure=>simp[intOf];omega
    ·have HX:Hid (Gm.rights ns t2 (acc++[zz]) p (pr.r.drop (i+1))=.ok (tz,az,pz)):=aA (by have h:=HE2.out;rw[if_neg hzp]at h;exact h)
     have e:decide (0≤zz)=false:=decide_eq_false hzp
     go_wp2_with (refine zbe rfl (.tmp 63) (.tmp 65) _ rfl Try.underlying27 w.heap.size _ acc rfl HP3.out.o _ _ zz rfl (aI w2 [.int .i64 zz] 3 0) hil (by have:=HS2.out;simp;omega) ?_;intro v4 w4 ho4 hg4;obtain⟨A4,n4,c4,rfl⟩:=zaB ho4;have happ:=aA (HP3.out.app ho4 hg4 hB);have q41:w4.cell? ⟨Q,1,none⟩=some (.slice Av nv cv):=cell_of_row w4 _ 1 _ _ _ happ.out.1;have q42:w4.cell? ⟨Q,2,none⟩=some (.int .i64 p):=cell_of_row w4 _ 2 _ _ _ happ.out.1;have f41:=frozen_of_row w4 _ 1 _ _ happ.out.1;have f42:=frozen_of_row w4 _ 2 _ _ happ.out.1;have hQ4:=(Array.getElem?_eq_some_iff.1 happ.out.1).1;clear ho4 hg4)
     go_roundw
     case rel=>exact⟨i+1,t2,acc++[zz],p,.slice A4 n4 c4,hlt,by go_num,by rw[List.length_append,List.length_singleton,HAI.out],HX,aA ⟨fun z hz=>by rcases List.mem_append.1 hz with q|q;exact HIN.out.1 z q;rw[List.mem_singleton.1 q];exact HF2.out.2.2,HIN.out.2⟩,aA happ.out.2⟩
     case measure=>simp[intOf];omega
   ·obtain rfl:i=pr.r.length:=by omega
    have hE:=HE.out
    rw[zbZ (Nat.le_refl _)]at hE
    injection hE with hE
    injection hE with e1 hE
    injection hE with e2 e3
    subst e1
    subst e2
    subst e3
    have p3:wr.cell? ⟨w.heap.size,3,none⟩=some (.string (soS pr.p)):=cell_of_row wr _ 3 _ _ _ HP.out.pb
    have p4:wr.cell? ⟨w.heap.size,4,none⟩=some (.complex .f64 (soX L pr.p) (soY L pr.p)):=cell_of_row wr _ 4 _ _ _ HP.out.pb
    rcases HLAST.out with⟨hpn,e1,e2⟩|⟨x,z2,hps,hsp,e2⟩
    ·subst e1
     subst e2
     replace p3:wr.cell? ⟨w.heap.size,3,none⟩=some (.string ⟨#[]⟩):=by rw[p3,hpn];rfl
     clear p4
     go_wp2_with fail
     obtain⟨wz,hwz⟩:∃x,x=wr:=⟨_,rfl⟩
     rw[←hwz]
     have HPZ:Hid (PrJ w wz B R Q ns rs lv ts' #[.string s0,.complex .f64 X0 Y0,.slice A pr.r.length c,.string (soS pr.p),.complex .f64 (soX L pr.p) (soY L pr.p)] lf v acc p):=aA (by rw[hwz];exact HP.out)
     clear hwz p3
     obtain⟨vT',vN',vR',hfin⟩:=HPZ.out.b
     have HFB:=aA hfin
     obtain⟨_,_,⟨AR2,cR2,hvR⟩⟩:=zag hfin
     subst hvR
     obtain⟨Av,cv,hvv,hv1,hv2,hrow⟩:=HPZ.out.o.row hB
     subst hvv
     have c2:wz.cell? ⟨R,2,none⟩=some (.slice AR2 rs.length cR2):=(hfin.at 2).1
     have hRs:=(hfin.at 2).2.2
     have hQs:=(Array.getElem?_eq_some_iff.1 HPZ.out.qb).1
     have HROW:=aA (And.intro hv1 (And.intro hv2 hrow))
     clear hfin hrow hv1 hv2
     have E0:∀y:Calm.OnB Q wz,y.1.cell? ⟨Q,0,none⟩=some (.int .i64 lf):=fun y=>cell_of_row y.1 _ 0 _ _ _ (y.2.trans HPZ.out.qb)
     have E1:∀y:Calm.OnB Q wz,y.1.cell? ⟨Q,1,none⟩=some (.slice Av acc.length cv):=fun y=>cell_of_row y.1 _ 1 _ _ _ (y.2.trans HPZ.out.qb)
     have E2:∀y:Calm.OnB Q wz,y.1.cell? ⟨Q,2,none⟩=some (.int .i64 p):=fun y=>cell_of_row y.1 _ 2 _ _ _ (y.2.trans HPZ.out.qb)
     refine CalmN.region_tree (fun x=>∃y:Calm.OnB Q wz,x=y.1) (.two [0,1,2,3,4,6] 5 (.one [] 7 (.one [] 8 (.one [9,10,11] 12 (.fin [])))) 7 (.one [] 5 (.one [] 8 (.one [9,10,11] 12 (.fin []))))) (by kernel_rfl) (by kernel_rfl) (fun _ _ d _ _ h=>by cases d <;> exact h) ⟨⟨wz.drew,rfl⟩,rfl⟩ ?_
     simp only[CalmN.wpT,CalmN.wpSt,CalmN.pickOps,List.getElem?_toArray,List.getElem?_cons_zero,List.getElem?_cons_succ]
     repeat (go_big_quiet_step (fail))
     refine wpQuiet_nil ?_
     clear E0 E1 E2
     have HQ1:=aA (fun o=>(Below.heap_alloc wz o Q hQs))
     refine⟨?_,?_⟩
     ·intro KK hKK
      rw[if_pos (by rfl)]
      go_wp2_with fail
      refine hKK _ _ ⟨⟨wz.drew,rfl⟩,rfl⟩ (fun x=>∃y:Calm.OnB Q wz,x=y.1) (fun _ h=>h) ⟨⟨wz.drew,rfl⟩,rfl⟩ ?_
      refine wpQuiet_nil ?_
      intro KK hKK
      rw[if_pos (by rfl)]
      go_wp2_with fail
      refine hKK _ _ ⟨⟨(wz.alloc _).drew,HQ1.out _⟩,rfl⟩ (fun x=>∃y:Calm.OnB Q wz,x=y.1) (fun _ h=>h) ⟨⟨(wz.alloc _).drew,HQ1.out _⟩,rfl⟩ ?_
      refine wpQuiet_nil ?_
      intro KK hKK
      rw[if_pos (by rfl)]
      obtain⟨wy,hwy⟩:∃x,x=(wz.alloc (.cells #[.int .i64 lf,.slice Av acc.length cv,.int .i64 p] 42)).drew:=⟨_,rfl⟩
      rw[←hwy]
      have A0:Hid (WRaw wy B w.heap.size R (wC vT' vN' (.slice AR2 rs.length cR2) lv) vT' vN' (.slice AR2 rs.length cR2) ts' ns rs):=aA (by rw[hwy];exact(HFB.out.alloc (.cells #[.int .i64 lf,.slice Av acc.length cv,.int .i64 p] 42)).drew9)
      have HWY:Hid (Below B w wy):=aA (by rw[hwy];exact aB (HPZ.out.w.alloc (Nat.le_trans hB HPZ.out.w.size) _) 1)
      have HKY:Hid (KpT w wy):=aA (by rw[hwy];exact HPZ.out.k.trans (KpT.below (aB ((Below.refl _ _).alloc (Nat.le_refl _) _) 1)))
      have HQY:Hid (wy.heap[Q]?=wz.heap[Q]?):=aA (by rw[hwy];exact HQ1.out _)
      have HZC:Hid (∀j u,(rlC (⟨lf,acc,p⟩,Av,cv))[j]?=some u→wy.cell? ⟨wz.heap.size,j,none⟩=some u):=aA (fun j u hj=>by rw[hwy];exact(aI wz (rlC (⟨lf,acc,p⟩,Av,cv)) 42 j).trans hj)
      have HRW2:Hid (zcA wy B wy.heap.size Av acc):=aA (by
       rw[hwy]
       exact(HROW.out.2.2.grown (w':=(wz.alloc (.cells #[.int .i64 lf,.slice Av acc.length cv,.int .i64 p] 42)).drew) (row:=none) ((World.grownBy_alloc wz (.cells #[.int .i64 lf,.slice Av acc.length cv,.int .i64 p] 42) none).trans (aG _ none)) (fun g e=>by cases e)).more (by show wz.heap.size≤(wz.alloc _).heap.size;simp))
      have HSW:Hid (w.heap.size≤wy.heap.size):=aA HWY.out.size
      clear hwy
      refine zaN (.tmp 102) (.tmp 104) _ rfl Try.underlying24 B w.heap.size _ rs rfl A0.out.r _ _ (⟨lf,acc,p⟩,Av,cv) rfl HZC.out ⟨HROW.out.1,HROW.out.2.1,HRW2.out⟩ (by omega) (Nat.le_trans hB HSW.out) HSW.out ?_
      intro v8 w8 ho8 hg8
      have A1:=aA ((A0.out.more (Nat.le_trans HSW.out hg8.size)).r_put ho8 hg8)
      obtain⟨A8,c8,rfl,_,_⟩:=zaj ho8
      have HQ8:Hid (w8.heap[Q]?=wz.heap[Q]?):=aA ((hg8.block Q (by have:=(Array.getElem?_eq_some_iff.1 (HQY.out.trans HPZ.out.qb)).1;exact this) (fun e=>by
       obtain⟨_,_,_,h3,_⟩:=A0.out.r
       have:=h3 _ e.symm
       have:=HPZ.out.q
       omega)).trans HQY.out)
      have HK8:Hid (KpA w w8):=aA (HKY.out.a.trans (by obtain⟨_,_,h2,_⟩:=A0.out.r;exact KpA.own h2 hg8 (.inr (.inr rfl))))
      have HW8:Hid (Below B w w8):=aA (HWY.out.grown hg8 (Nat.le_trans hB HSW.out) (fun k e=>by obtain⟨_,_,h2,_⟩:=A0.out.r;exact(aH h2 e).1))
      obtain⟨n8,hn8⟩:∃n,n=(rs++[(⟨lf,acc,p⟩:Gm.Rl)]).length:=⟨_,rfl⟩
      have c28:w8.cell? ⟨R,2,none⟩=some (.slice AR2 rs.length cR2):=(A1.out.at 2).1
      have f28:=(A1.out.at 2).2.1
      have hR8:=(A1.out.at 2).2.2
      rw[←hn8]at A1 ⊢
      clear ho8 hg8 A0 hn8
      refine hKK _ _ ⟨⟨w8,HQ8.out⟩,rfl⟩ (fun x=>∃y:Calm.OnB Q wz,x=y.1) (fun _ h=>h) ⟨⟨w8,HQ8.out⟩,rfl⟩ ?_
      go_frame
      repeat (go_big_quiet_step (fail))
      refine wpQuiet_nil ?_
      intro KK hKK
      rw[if_pos (by rfl)]
      go_wp2_with fail
      have HQ9:=aA (fun u=>(Below.heap_setCell w8 ⟨R,2,none⟩ u Q (by simp only;have:=HPZ.out.q;omega)).trans HQ8.out)
      refine hKK _ _ ⟨⟨w8.setCell ⟨R,2,none⟩ _,HQ9.out _⟩,rfl⟩ (fun x=>∃y:Calm.OnB Q wz,x=y.1) (fun _ h=>h) ⟨⟨w8.setCell ⟨R,2,none⟩ _,HQ9.out _⟩,rfl⟩ ?_
      refine wpQuiet_nil ?_
      clear hKK
      go_wp2
      go_end0
      refine⟨rfl,⟨?_,Fit.more HP.out.f ⟨HLI.out,HIN.out.2,HIN.out.1⟩,HPZ.out.t⟩,HW8.out.setCell A1.out.hR _,HK8.out.trans (KpT.set A1.out 2 _).a⟩
      rw[zav]
      exact⟨vT',vN',_,A1.out.set 2 _⟩
     ·intro KK hKK
      rw[if_pos (by rfl)]
      go_wp2_with fail
      refine hKK _ _ ⟨⟨(wz.alloc _).drew,HQ1.out _⟩,rfl⟩ (fun x=>∃y:Calm.OnB Q wz,x=y.1) (fun _ h=>h) ⟨⟨(wz.alloc _).drew,HQ1.out _⟩,rfl⟩ ?_
      refine wpQuiet_nil ?_
      intro KK hKK
      rw[if_pos (by rfl)]
      go_wp2_with fail
      refine hKK _ _ ⟨⟨(wz.alloc _).drew,HQ1.out _⟩,rfl⟩ (fun x=>∃y:Calm.OnB Q wz,x=y.1) (fun _ h=>h) ⟨⟨(wz.alloc _).drew,HQ1.out _⟩,rfl⟩ ?_
      refine wpQuiet_nil ?_
      intro KK hKK
      rw[if_pos (by rfl)]
      obtain⟨wy,hwy⟩:∃x,x=(wz.alloc (.cells #[.int .i64 lf,.slice Av acc.length cv,.int .i64 p] 42)).drew:=⟨_,rfl⟩
      rw[←hwy]
      have A0:Hid (WRaw wy B w.heap.size R (wC vT' vN' (.slice AR2 rs.length cR2) lv) vT' vN' (.slice AR2 rs.length cR2) ts' ns rs):=aA (by rw[hwy];exact(HFB.out.alloc (.cells #[.int .i64 lf,.slice Av acc.length cv,.int .i64 p] 42)).drew9)
      have HWY:Hid (Below B w wy):=aA (by rw[hwy];exact aB (HPZ.out.w.alloc (Nat.le_trans hB HPZ.out.w.size) _) 1)
      have HKY:Hid (KpT w wy):=aA (by rw[hwy];exact HPZ.out.k.trans (KpT.below (aB ((Below.refl _ _).alloc (Nat.le_refl _) _) 1)))
      have HQY:Hid (wy.heap[Q]?=wz.heap[Q]?):=aA (by rw[hwy];exact HQ1.out _)
      have HZC:Hid (∀j u,(rlC (⟨lf,acc,p⟩,Av,cv))[j]?=some u→wy.cell? ⟨wz.heap.size,j,none⟩=some u):=aA (fun j u hj=>by rw[hwy];exact(aI wz (rlC (⟨lf,acc,p⟩,Av,cv)) 42 j).trans hj)
      have HRW2:Hid (zcA wy B wy.heap.size Av acc):=aA (by
       rw[hwy]
       exact(HROW.out.2.2.grown (w':=(wz.alloc (.cells #[.int .i64 lf,.slice Av acc.length cv,.int .i64 p] 42)).drew) (row:=none) ((World.grownBy_alloc wz (.cells #[.int .i64 lf,.slice Av acc.length cv,.int .i64 p] 42) none).trans (aG _ none)) (fun g e=>by cases e)).more (by show wz.heap.size≤(wz.alloc _).heap.size;simp))
      have HSW:Hid (w.heap.size≤wy.heap.size):=aA HWY.out.size
      clear hwy
      refine zaN (.tmp 102) (.tmp 104) _ rfl Try.underlying24 B w.heap.size _ rs rfl A0.out.r _ _ (⟨lf,acc,p⟩,Av,cv) rfl HZC.out ⟨HROW.out.1,HROW.out.2.1,HRW2.out⟩ (by omega) (Nat.le_trans hB HSW.out) HSW.out ?_
      intro v8 w8 ho8 hg8
      have A1:=aA ((A0.out.more (Nat.le_trans HSW.out hg8.size)).r_put ho8 hg8)
      obtain⟨A8,c8,rfl,_,_⟩:=zaj ho8
      have HQ8:Hid (w8.heap[Q]?=wz.heap[Q]?):=aA ((hg8.block Q (by have:=(Array.getElem?_eq_some_iff.1 (HQY.out.trans HPZ.out.qb)).1;exact this) (fun e=>by
       obtain⟨_,_,_,h3,_⟩:=A0.out.r
       have:=h3 _ e.symm
       have:=HPZ.out.q
       omega)).trans HQY.out)
      have HK8:Hid (KpA w w8):=aA (HKY.out.a.trans (by obtain⟨_,_,h2,_⟩:=A0.out.r;exact KpA.own h2 hg8 (.inr (.inr rfl))))
      have HW8:Hid (Below B w w8):=aA (HWY.out.grown hg8 (Nat.le_trans hB HSW.out) (fun k e=>by obtain⟨_,_,h2,_⟩:=A0.out.r;exact(aH h2 e).1))
      obtain⟨n8,hn8⟩:∃n,n=(rs++[(⟨lf,acc,p⟩:Gm.Rl)]).length:=⟨_,rfl⟩
      have c28:w8.cell? ⟨R,2,none⟩=some (.slice AR2 rs.length cR2):=(A1.out.at 2).1
      have f28:=(A1.out.at 2).2.1
      have hR8:=(A1.out.at 2).2.2
      rw[←hn8]at A1 ⊢
      clear ho8 hg8 A0 hn8
      refine hKK _ _ ⟨⟨w8,HQ8.out⟩,rfl⟩ (fun x=>∃y:Calm.OnB Q wz,x=y.1) (fun _ h=>h) ⟨⟨w8,HQ8.out⟩,rfl⟩ ?_
      go_frame
      repeat (go_big_quiet_step (fail))
      refine wpQuiet_nil ?_
      intro KK hKK
      rw[if_pos (by rfl)]
      go_wp2_with fail
      have HQ9:=aA (fun u=>(Below.heap_setCell w8 ⟨R,2,none⟩ u Q (by simp only;have:=HPZ.out.q;omega)).trans HQ8.out)
      refine hKK _ _ ⟨⟨w8.setCell ⟨R,2,none⟩ _,HQ9.out _⟩,rfl⟩ (fun x=>∃y:Calm.OnB Q wz,x=y.1) (fun _ h=>h) ⟨⟨w8.setCell ⟨R,2,none⟩ _,HQ9.out _⟩,rfl⟩ ?_
      refine wpQuiet_nil ?_
      clear hKK
      go_wp2
      go_end0
      refine⟨rfl,⟨?_,Fit.more HP.out.f ⟨HLI.out,HIN.out.2,HIN.out.1⟩,HPZ.out.t⟩,HW8.out.setCell A1.out.hR _,HK8.out.trans (KpT.set A1.out 2 _).a⟩
      rw[zav]
      exact⟨vT',vN',_,A1.out.set 2 _⟩
    ·subst e2
     obtain⟨hx1,hx2,hx3⟩:=HXP.out x hps
     obtain⟨hstep,hfit2⟩:=zcF hsp hx1 HP.out.f
     obtain⟨hzin,ht2⟩:=zeo hsp HP.out.t
     have HZ2:=aA hzin
     have HF2:=aA (And.intro hfit2 ht2)
     have HNM:=aA (fun(y:World)=>zaA x.t hx1 y)
     rw[hx2]at HNM
     have HSY:=aA (fun(y:World) (h:Wk y B w.heap.size R tk ns rs lv) (hy:w.heap.size≤y.heap.size)=>zci L B w.heap.size R tk ts' ns rs lv z2 x false y h HP.out.f hx1 hx3 hy (Nat.le_trans hB hy) hstep HP.out.t h16)
     unfold aY at HSY
     have hne:(K.str x.t).toList.isEmpty=false:=zcP hx2
     replace p3:wr.cell? ⟨w.heap.size,3,none⟩=some (.string (K.str x.t)):=by rw[p3,hps];rfl
     replace p4:wr.cell? ⟨w.heap.size,4,none⟩=some (.complex .f64 (Fl.fl (Pl.pos (L.take x.o)).1) (Fl.fl (Pl.pos (L.take x.o)).2)):=by rw[p4,hps];rfl
     have HC:=aA (HSY.out _ HP.out.b HP.out.w.size)
     clear hx1 hx2 hx3 hstep hfit2 hzin ht2 hsp HSY
     generalize K.str x.t=sx at *
     generalize Fl.fl (Pl.pos (L.take x.o)).1=X at *
     generalize Fl.fl (Pl.pos (L.take x.o)).2=Y at *
     go_wp2_with fail
     refine(HNM.out _).mono ?_;rintro _ _ ⟨rfl,rfl⟩
     go_wp2_with fail
     refine HC.out.mono ?_;rintro _ w2 ⟨rfl,hb2,hw2,hk2⟩
     have HP2:=aA (HP.out.call hb2 hw2 hk2 HF2.out.1 HF2.out.2)
     have q2:w2.cell? ⟨Q,2,none⟩=some (.int .i64 p):=cell_of_row w2 _ 2 _ _ _ HP2.out.qb
     have f2:=frozen_of_row w2 _ 2 _ _ HP2.out.qb
     have hQ2:=(Array.getElem?_eq_some_iff.1 HP2.out.qb).1
     clear hb2 hw2 hk2 p3 p4
     go_upto_region 20 with fail
     obtain⟨wz,hwz⟩:∃x,x=w2.setCell ⟨Q,2,none⟩ (.int .i64 z2):=⟨_,rfl⟩
     rw[←hwz]
     have HPZ:Hid (PrJ w wz B R Q ns rs lv ts' #[.string s0,.complex .f64 X0 Y0,.slice A pr.r.length c,.string (soS pr.p),.complex .f64 (soX L pr.p) (soY L pr.p)] lf v acc z2):=aA (by rw[hwz];exact HP2.out.setQ 2 (.int .i64 z2) rfl (HP2.out.o.set_away HP2.out.qb 2 _) hB)
     clear hwz q2 f2 hQ2
     obtain⟨vT',vN',vR',hfin⟩:=HPZ.out.b
     have HFB:=aA hfin
     obtain⟨_,_,⟨AR2,cR2,hvR⟩⟩:=zag hfin
     subst hvR
     obtain⟨Av,cv,hvv,hv1,hv2,hrow⟩:=HPZ.out.o.row hB
     subst hvv
     have c2:wz.cell? ⟨R,2,none⟩=some (.slice AR2 rs.length cR2):=(hfin.at 2).1
     have hRs:=(hfin.at 2).2.2
     have hQs:=(Array.getElem?_eq_some_iff.1 HPZ.out.qb).1
     have HROW:=aA (And.intro hv1 (And.intro hv2 hrow))
     clear hfin hrow hv1 hv2
     have E0:∀y:Calm.OnB Q wz,y.1.cell? ⟨Q,0,none⟩=some (.int .i64 lf):=fun y=>cell_of_row y.1 _ 0 _ _ _ (y.2.trans HPZ.out.qb)
     have E1:∀y:Calm.OnB Q wz,y.1.cell? ⟨Q,1,none⟩=some (.slice Av acc.length cv):=fun y=>cell_of_row y.1 _ 1 _ _ _ (y.2.trans HPZ.out.qb)
     have E2:∀y:Calm.OnB Q wz,y.1.cell? ⟨Q,2,none⟩=some (.int .i64 z2):=fun y=>cell_of_row y.1 _ 2 _ _ _ (y.2.trans HPZ.out.qb)
     refine CalmN.region_tree (fun x=>∃y:Calm.OnB Q wz,x=y.1) (.two [0,1,2,3,4,6] 5 (.one [] 7 (.one [] 8 (.one [9,10,11] 12 (.fin [])))) 7 (.one [] 5 (.one [] 8 (.one [9,10,11] 12 (.fin []))))) (by kernel_rfl) (by kernel_rfl) (fun _ _ d _ _ h=>by cases d <;> exact h) ⟨⟨wz.drew,rfl⟩,rfl⟩ ?_
     simp only[CalmN.wpT,CalmN.wpSt,CalmN.pickOps,List.getElem?_toArray,List.getElem?_cons_zero,List.getElem?_cons_succ]
     repeat (go_big_quiet_step (fail))
     refine wpQuiet_nil ?_
     clear E0 E1 E2
     have HQ1:=aA (fun o=>(Below.heap_alloc wz o Q hQs))
     refine⟨?_,?_⟩
     ·intro KK hKK
      rw[if_pos (by rfl)]
      go_wp2_with fail
      refine hKK _ _ ⟨⟨wz.drew,rfl⟩,rfl⟩ (fun x=>∃y:Calm.OnB Q wz,x=y.1) (fun _ h=>h) ⟨⟨wz.drew,rfl⟩,rfl⟩ ?_
      refine wpQuiet_nil ?_
      intro KK hKK
      rw[if_pos (by rfl)]
      go_wp2_with fail
      refine hKK _ _ ⟨⟨(wz.alloc _).drew,HQ1.out _⟩,rfl⟩ (fun x=>∃y:Calm.OnB Q wz,x=y.1) (fun _ h=>h) ⟨⟨(wz.alloc _).drew,HQ1.out _⟩,rfl⟩ ?_
      refine wpQuiet_nil ?_
      intro KK hKK
      rw[if_pos (by rfl)]
      obtain⟨wy,hwy⟩:∃x,x=(wz.alloc (.cells #[.int .i64 lf,.slice Av acc.length cv,.int .i64 z2] 42)).drew:=⟨_,rfl⟩
      rw[←hwy]
      have A0:Hid (WRaw wy B w.heap.size R (wC vT' vN' (.slice AR2 rs.length cR2) lv) vT' vN' (.slice AR2 rs.length cR2) ts' ns rs):=aA (by rw[hwy];exact(HFB.out.alloc (.cells #[.int .i64 lf,.slice Av acc.length cv,.int .i64 z2] 42)).drew9)
      have HWY:Hid (Below B w wy):=aA (by rw[hwy];exact aB (HPZ.out.w.alloc (Nat.le_trans hB HPZ.out.w.size) _) 1)
      have HKY:Hid (KpT w wy):=aA (by rw[hwy];exact HPZ.out.k.trans (KpT.below (aB ((Below.refl _ _).alloc (Nat.le_refl _) _) 1)))
      have HQY:Hid (wy.heap[Q]?=wz.heap[Q]?):=aA (by rw[hwy];exact HQ1.out _)
      have HZC:Hid (∀j u,(rlC (⟨lf,acc,z2⟩,Av,cv))[j]?=some u→wy.cell? ⟨wz.heap.size,j,none⟩=some u):=aA (fun j u hj=>by rw[hwy];exact(aI wz (rlC (⟨lf,acc,z2⟩,Av,cv)) 42 j).trans hj)
      have HRW2:Hid (zcA wy B wy.heap.size Av acc):=aA (by
       rw[hwy]
       exact(HROW.out.2.2.grown (w':=(wz.alloc (.cells #[.int .i64 lf,.slice Av acc.length cv,.int .i64 z2] 42)).drew) (row:=none) ((World.grownBy_alloc wz (.cells #[.int .i64 lf,.slice Av acc.length cv,.int .i64 z2] 42) none).trans (aG _ none)) (fun g e=>by cases e)).more (by show wz.heap.size≤(wz.alloc _).heap.size;simp))
      have HSW:Hid (w.heap.size≤wy.heap.size):=aA HWY.out.size
      clear hwy
      refine zaN (.tmp 102) (.tmp 104) _ rfl Try.underlying24 B w.heap.size _ rs rfl A0.out.r _ _ (⟨lf,acc,z2⟩,Av,cv) rfl HZC.out ⟨HROW.out.1,HROW.out.2.1,HRW2.out⟩ (by omega) (Nat.le_trans hB HSW.out) HSW.out ?_
      intro v8 w8 ho8 hg8
      have A1:=aA ((A0.out.more (Nat.le_trans HSW.out hg8.size)).r_put ho8 hg8)
      obtain⟨A8,c8,rfl,_,_⟩:=zaj ho8
      have HQ8:Hid (w8.heap[Q]?=wz.heap[Q]?):=aA ((hg8.block Q (by have:=(Array.getElem?_eq_some_iff.1 (HQY.out.trans HPZ.out.qb)).1;exact this) (fun e=>by
       obtain⟨_,_,_,h3,_⟩:=A0.out.r
       have:=h3 _ e.symm
       have:=HPZ.out.q
       omega)).trans HQY.out)
      have HK8:Hid (KpA w w8):=aA (HKY.out.a.trans (by obtain⟨_,_,h2,_⟩:=A0.out.r;exact KpA.own h2 hg8 (.inr (.inr rfl))))
      have HW8:Hid (Below B w w8):=aA (HWY.out.grown hg8 (Nat.le_trans hB HSW.out) (fun k e=>by obtain⟨_,_,h2,_⟩:=A0.out.r;exact(aH h2 e).1))
      obtain⟨n8,hn8⟩:∃n,n=(rs++[(⟨lf,acc,z2⟩:Gm.Rl)]).length:=⟨_,rfl⟩
      have c28:w8.cell? ⟨R,2,none⟩=some (.slice AR2 rs.length cR2):=(A1.out.at 2).1
      have f28:=(A1.out.at 2).2.1
      have hR8:=(A1.out.at 2).2.2
      rw[←hn8]at A1 ⊢
      clear ho8 hg8 A0 hn8
      refine hKK _ _ ⟨⟨w8,HQ8.out⟩,rfl⟩ (fun x=>∃y:Calm.OnB Q wz,x=y.1) (fun _ h=>h) ⟨⟨w8,HQ8.out⟩,rfl⟩ ?_
      go_frame
      repeat (go_big_quiet_step (fail))
      refine wpQuiet_nil ?_
      intro KK hKK
      rw[if_pos (by rfl)]
      go_wp2_with fail
      have HQ9:=aA (fun u=>(Below.heap_setCell w8 ⟨R,2,none⟩ u Q (by simp only;have:=HPZ.out.q;omega)).trans HQ8.out)
      refine hKK _ _ ⟨⟨w8.setCell ⟨R,2,none⟩ _,HQ9.out _⟩,rfl⟩ (fun x=>∃y:Calm.OnB Q wz,x=y.1) (fun _ h=>h) ⟨⟨w8.setCell ⟨R,2,none⟩ _,HQ9.out _⟩,rfl⟩ ?_
      refine wpQuiet_nil ?_
      clear hKK
      go_wp2
      go_end0
      refine⟨rfl,⟨?_,Fit.more HP2.out.f ⟨HLI.out,HZ2.out,HIN.out.1⟩,HPZ.out.t⟩,HW8.out.setCell A1.out.hR _,HK8.out.trans (KpT.set A1.out 2 _).a⟩
      rw[zav]
      exact⟨vT',vN',_,A1.out.set 2 _⟩
     ·intro KK hKK
      rw[if_pos (by rfl)]
      go_wp2_with fail
      refine hKK _ _ ⟨⟨(wz.alloc _).drew,HQ1.out _⟩,rfl⟩ (fun x=>∃y:Calm.OnB Q wz,x=y.1) (fun _ h=>h) ⟨⟨(wz.alloc _).drew,HQ1.out _⟩,rfl⟩ ?_
      refine wpQuiet_nil ?_
      intro KK hKK
      rw[if_pos (by rfl)]
      go_wp2_with fail
      refine hKK _ _ ⟨⟨(wz.alloc _).drew,HQ1.out _⟩,rfl⟩ (fun x=>∃y:Calm.OnB Q wz,x=y.1) (fun _ h=>h) ⟨⟨(wz.alloc _).drew,HQ1.out _⟩,rfl⟩ ?_
      refine wpQuiet_nil ?_
      intro KK hKK
      rw[if_pos (by rfl)]
      obtain⟨wy,hwy⟩:∃x,x=(wz.alloc (.cells #[.int .i64 lf,.slice Av acc.length cv,.int .i64 z2] 42)).drew:=⟨_,rfl⟩
      rw[←hwy]
      have A0:Hid (WRaw wy B w.heap.size R (wC vT' vN' (.slice AR2 rs.length cR2) lv) vT' vN' (.slice AR2 rs.length cR2) ts' ns rs):=aA (by rw[hwy];exact(HFB.out.alloc (.cells #[.int .i64 lf,.slice Av acc.length cv,.int .i64 z2] 42)).drew9)
      have HWY:Hid (Below B w wy):=aA (by rw[hwy];exact aB (HPZ.out.w.alloc (Nat.le_trans hB HPZ.out.w.size) _) 1)
      have HKY:Hid (KpT w wy):=aA (by rw[hwy];exact HPZ.out.k.trans (KpT.below (aB ((Below.refl _ _).alloc (Nat.le_refl _) _) 1)))
      have HQY:Hid (wy.heap[Q]?=wz.heap[Q]?):=aA (by rw[hwy];exact HQ1.out _)
      have HZC:Hid (∀j u,(rlC (⟨lf,acc,z2⟩,Av,cv))[j]?=some u→wy.cell? ⟨wz.heap.size,j,none⟩=some u):=aA (fun j u hj=>by rw[hwy];exact(aI wz (rlC (⟨lf,acc,z2⟩,Av,cv)) 42 j).trans hj)
      have HRW2:Hid (zcA wy B wy.heap.size Av acc):=aA (by
       rw[hwy]
       exact(HROW.out.2.2.grown (w':=(wz.alloc (.cells #[.int .i64 lf,.slice Av acc.length cv,.int .i64 z2] 42)).drew) (row:=none) ((World.grownBy_alloc wz (.cells #[.int .i64 lf,.slice Av acc.length cv,.int .i64 z2] 42) none).trans (aG _ none)) (fun g e=>by cases e)).more (by show wz.heap.size≤(wz.alloc _).heap.size;simp))
      have HSW:Hid (w.heap.size≤wy.heap.size):=aA HWY.out.size
      clear hwy
      refine zaN (.tmp 102) (.tmp 104) _ rfl Try.underlying24 B w.heap.size _ rs rfl A0.out.r _ _ (⟨lf,acc,z2⟩,Av,cv) rfl HZC.out ⟨HROW.out.1,HROW.out.2.1,HRW2.out⟩ (by omega) (Nat.le_trans hB HSW.out) HSW.out ?_
      intro v8 w8 ho8 hg8
      have A1:=aA ((A0.out.more (Nat.le_trans HSW.out hg8.size)).r_put ho8 hg8)
      obtain⟨A8,c8,rfl,_,_⟩:=zaj ho8
      have HQ8:Hid (w8.heap[Q]?=wz.heap[Q]?):=aA ((hg8.block Q (by have:=(Array.getElem?_eq_some_iff.1 (HQY.out.trans HPZ.out.qb)).1;exact this) (fun e=>by
       obtain⟨_,_,_,h3,_⟩:=A0.out.r
       have:=h3 _ e.symm
       have:=HPZ.out.q
       omega)).trans HQY.out)
      have HK8:Hid (KpA w w8):=aA (HKY.out.a.trans (by obtain⟨_,_,h2,_⟩:=A0.out.r;exact KpA.own h2 hg8 (.inr (.inr rfl))))
      have HW8:Hid (Below B w w8):=aA (HWY.out.grown hg8 (Nat.le_trans hB HSW.out) (fun k e=>by obtain⟨_,_,h2,_⟩:=A0.out.r;exact(aH h2 e).1))
      obtain⟨n8,hn8⟩:∃n,n=(rs++[(⟨lf,acc,z2⟩:Gm.Rl)]).length:=⟨_,rfl⟩
      have c28:w8.cell? ⟨R,2,none⟩=some (.slice AR2 rs.length cR2):=(A1.out.at 2).1
      have f28:=(A1.out.at 2).2.1
      have hR8:=(A1.out.at 2).2.2
      rw[←hn8]at A1 ⊢
      clear ho8 hg8 A0 hn8
      refine hKK _ _ ⟨⟨w8,HQ8.out⟩,rfl⟩ (fun x=>∃y:Calm.OnB Q wz,x=y.1) (fun _ h=>h) ⟨⟨w8,HQ8.out⟩,rfl⟩ ?_
      go_frame
      repeat (go_big_quiet_step (fail))
      refine wpQuiet_nil ?_
      intro KK hKK
      rw[if_pos (by rfl)]
      go_wp2_with fail
      have HQ9:=aA (fun u=>(Below.heap_setCell w8 ⟨R,2,none⟩ u Q (by simp only;have:=HPZ.out.q;omega)).trans HQ8.out)
      refine hKK _ _ ⟨⟨w8.setCell ⟨R,2,none⟩ _,HQ9.out _⟩,rfl⟩ (fun x=>∃y:Calm.OnB Q wz,x=y.1) (fun _ h=>h) ⟨⟨w8.setCell ⟨R,2,none⟩ _,HQ9.out _⟩,rfl⟩ ?_
      refine wpQuiet_nil ?_
      clear hKK
      go_wp2
      go_end0
      refine⟨rfl,⟨?_,Fit.more HP2.out.f ⟨HLI.out,HZ2.out,HIN.out.1⟩,HPZ.out.t⟩,HW8.out.setCell A1.out.hR _,HK8.out.trans (KpT.set A1.out 2 _).a⟩
      rw[zav]
      exact⟨vT',vN',_,A1.out.set 2 _⟩
theorem RdI.dropA {w:World} {B c:Nat} {A:Option Addr} {l:List Int} (h:RdI w B A l) (hc:l.length≤c) (k:Nat):RdI w B (dropA A c k) (l.drop k):=by
 intro hn
 rw[List.length_drop]at hn
 obtain⟨g,o,rfl,hg,hcl⟩:=h (by omega)
 refine⟨g,o+k,?_,hg,fun j hj=>?_⟩
 ·have e:((⟨g,o,none⟩:Addr).add k)=⟨g,o+k,none⟩:=by unfold Addr.add;by_cases h0:k=0 <;> simp[h0]
  unfold Go.Proofs.Ytcgclkndkahgaaa.dropA
  rw[if_neg (by omega),Option.map_some,e]
 ·rw[List.length_drop]at hj
  rw[show o+k+j=o+(k+j) by omega,hcl (k+j) (by omega),L.gd_lt (by omega:k+j<l.length),L.gd_lt (by rw[List.length_drop];exact hj),List.getElem_drop]
theorem zbv (w:World) (A:Option Addr) (c n k:Nat) (hk:k≤n):(Instr.sliceAt 27 (.slice A n c) (some (.int .i64 k)) none none).run Try.prog w=.ok (.slice (dropA A c k) (n-k) (c-k)) w:=by
 rw[run_sliceAt_slice _ _ _ _ _ _ (by kernel_rfl),run_slice_l _ _ _ _ _ (by kernel_rfl) .i64 (k:Int) (by omega) (by omega)]
 have hs:(sizeOf (Try.prog.elem 27)).run Try.prog w=.ok 1 w:=by kernel_rfl
 rw[hs]
 simp[Result.andThen,sliced,dropA]
theorem zcG (w:World) (A:Option Addr) (c n k:Nat) (hk:k≤c):(Instr.sliceAt 27 (.slice A n c) none (some (.int .i64 k)) none).run Try.prog w=.ok (.slice A k c) w:=by
 rw[run_sliceAt_slice _ _ _ _ _ _ (by kernel_rfl),run_slice_h _ _ _ _ _ (by kernel_rfl) .i64 (k:Int) (by omega) (by omega)]
 have hs:(sizeOf (Try.prog.elem 27)).run Try.prog w=.ok 1 w:=by kernel_rfl
 rw[hs]
 have e:∀A:Option Addr,A.map (fun x=>x.add 0)=A:=fun A=>by
  cases A with
  | none=>rfl
  | some x=>simp[Addr.add]
 simp[Result.andThen,sliced,e]
end Go.Proofs.Ytcgclkndkahgaaa
namespace Go.CalmN
open Go.RowKit
section
variable {P:Program} {ops:Array Oper} {Q:Exit→Act→World→Prop} {md:Region.Mode}
def chD (md:Region.Mode) (ops:Array Oper) (t:Ph) (dep:List (Nat×Nat)):Nat→List Nat→Array Bool→Nat→Bool
 | 0,todo,l,n=>todo.isEmpty&&tB md ops t l n
 | f+1,todo,l,n=>!(Region.ready md ops l).isEmpty&&decide (1≤n)&&(Region.ready md ops l).all fun k=>todo.contains k&&dep.all (fun d=>!(d.1==k) || !todo.contains d.2)&&(ops[k]?).isSome&&chD md ops t dep f (todo.erase k) (l.setIfInBounds k true) (n-1)
theorem zce (hs:Region.noSelect ops=true) (hQ:∀c a d v w,Q (.panic c) (a.put d v) w→Q (.panic c) a w) {S:World→Prop} {t:Ph} {dep:List (Nat×Nat)} {J:List Nat→Act→World→Prop}
  (hstep:∀todo k a w,k∈todo→(∀d∈dep,d.1=k→d.2 ∉ todo)→J todo a w→S w→wpSt P ops Q ops[k]? S (fun _ a2 w2=>J (todo.erase k) a2 w2) a w)
  (hend:∀a w,J [] a w→S w→wpT P ops Q t S a w) :
  ∀(f:Nat) (todo:List Nat) (listed:Array Bool) (a:Act) (w:World) (n:Nat),chD md ops t dep f todo listed n=true→S w→J todo a w→wpAnyH P md ops Q S n listed a w
 | 0,todo,listed,a,w,n,hb,hS,h=>by
  unfold chD at hb
  simp only[Bool.and_eq_true,List.isEmpty_iff]at hb
  obtain⟨rfl,h2⟩:=hb
  exact any_of_t hs hQ t S listed a w n h2 hS (hend a w h hS)
 | f+1,todo,listed,a,w,n,hb,hS,h=>by
  unfold chD at hb
  simp only[Bool.and_eq_true,decide_eq_true_iff,List.all_eq_true,Bool.not_eq_true',List.isEmpty_eq_false_iff]at hb
  obtain⟨⟨h2,h3⟩,h4⟩:=hb
  obtain⟨m,rfl⟩:∃m,n=m+1:=⟨n-1,by omega⟩
  refine wpAnyH_all rfl h2 fun i hi=>?_
  obtain⟨⟨⟨h5,h6⟩,h7⟩,h8⟩:=h4 i hi
  obtain⟨o,ho⟩:=Option.isSome_iff_exists.1 h7
  have hq:=hstep todo i a w (by simpa using h5) (fun d hd e=>by
   have:=h6 d hd
   subst e
   simpa using this) h hS
  rw[ho]at hq
  refine wpOp_step ho fun K' hK=>?_
  refine hq K' fun a2 w2 h9 S' hS' hS2 h10=>hK _ _ ⟨h9,?_⟩
  exact zce hs hQ hstep hend f _ _ a2 w2 _ h8 h9 h10
theorem region_dep {id:Nat} {a:Act} {w:World} {l:List Oper} (S:World→Prop) (p ks:List Nat) (dep:List (Nat×Nat)) (t:Ph) (J:List Nat→Act→World→Prop) (hm:P.follows .mixedOrders=true)
  (hB:(Region.noSelect l.toArray&&stillB .any l.toArray p (Array.replicate l.toArray.size false)&&decide (p.length≤l.toArray.size)&&chD .any l.toArray t dep ks.length ks (marked p (Array.replicate l.toArray.size false)) (l.toArray.size-p.length))=true)
  (hQ:∀c a d v w,Q (.panic c) (a.put d v) w→Q (.panic c) a w) (hS:S w.drew)
  (h0:wpQuiet P l.toArray S (fun a'=>J ks a' w.drew) (pickOps l.toArray p) a)
  (hstep:∀todo k a w,k∈todo→(∀d∈dep,d.1=k→d.2 ∉ todo)→J todo a w→S w→wpSt P l.toArray Q l.toArray[k]? S (fun _ a2 w2=>J (todo.erase k) a2 w2) a w)
  (hend:∀a w,J [] a w→S w→wpT P l.toArray Q t S a w):(Code.region id l.toArray true).wp P Q a w:=by
 simp only[Bool.and_eq_true,decide_eq_true_iff]at hB
 obtain⟨⟨⟨h1,h2⟩,h3⟩,h4⟩:=hB
 refine wp_region_held (S:=S) hm ?_
 have e:l.toArray.size=p.length+(l.toArray.size-p.length):=by omega
 rw[show wpAnyH P .any l.toArray Q S l.toArray.size=wpAnyH P .any l.toArray Q S (p.length+(l.toArray.size-p.length)) by rw[←e]]
 refine still_block h1 hQ hS _ p _ a h2 ?_
 exact quiet_mono (fun a' hj=>zce h1 hQ hstep hend _ ks _ a' _ _ h4 hS hj) h0
end
end Go.CalmN
namespace Go.Proofs.Ytcgclkndkahgaaa
set_option maxRecDepth 100000
set_option maxHeartbeats 40000000
open Go.RowKit
section
variable {w2 wx w':World} {n:Nat} {row:List Bool} {todo:List Nat} {x3 x5 x6 x7:Value} {g3 g5 c6 c7:Nat}
theorem aE {l:List Nat} {j k:Nat} (h:j ∉ l.erase k) (hne:j≠k):j ∉ l:=fun hm=>h ((List.mem_erase_of_ne hne).2 hm)
theorem zaa {g:Nat} {o:Obj} (hb:Below wx.heap.size wx w') (h:wx.heap[g]?=some o):w'.heap[g]?=some o:=(hb.block g (Array.getElem?_eq_some_iff.1 h).1).trans h
end
end Go.Proofs.Ytcgclkndkahgaaa
namespace Go.Proofs.Ytcgclkndkahgaaa
set_option maxRecDepth 100000
set_option maxHeartbeats 40000000
open Go.RowKit
theorem zfH (A A':Option Addr) (ca cb:Nat) (xs ys:List Int) (w:World) (hra:RdI w w.heap.size A xs) (hrb:RdI w w.heap.size A' ys) (hxl:xs.length≤9223372036854775807) (hyl:ys.length≤9223372036854775807) :
  Calls Try.prog 7 #[.slice A xs.length ca,.slice A' ys.length cb] w fun e w'=>e=.returned (.bool (decide (xs=ys)))∧∃n,w'=w.drewN n:=by
 by_cases hl:xs.length=ys.length
 ·have HL:=aA hl
  rw[←hl]
  have hne:((xs.length:Int) != (xs.length:Int))=false:=by simp
  clear hl hyl
  go_enter Try.func7,Try.ntmps7
  go_wp2
  go_loopw [5] (fun vi wr=>∃(k q:Nat),k≤xs.length∧vi=.int .i64 k∧xs.take k=ys.take k∧wr=w.drewN q) (fun vi _=>xs.length-(intOf vi).toNat)
  case atStart=>exact⟨0,0,Nat.zero_le _,rfl,rfl,rfl⟩
  case round =>
   obtain⟨k,q,hk,rfl,ht,hwr⟩:=hrel
   have HT:=aA ht
   have HW:=aA hwr
   by_cases hlt:k<xs.length
   ·obtain⟨ga,oa,rfl,_,ha⟩:=hra (by omega)
    obtain⟨gb,ob,rfl,_,hb⟩:=hrb (by have:=HL.out;omega)
    have ca':wr.cell? ⟨ga,oa+k,none⟩=some (.int .i64 (xs.getD k 0)):=by rw[hwr];exact ha k hlt
    have cb':wr.cell? ⟨gb,ob+k,none⟩=some (.int .i64 (ys.getD k 0)):=by rw[hwr];exact hb k (by have:=HL.out;omega)
    have k0:(0:Int)≤(k:Int):=by omega
    have k1:(k:Int)<(xs.length:Int):=by omega
    clear ha hb ht hwr hra hrb
    by_cases hxy:xs.getD k 0=ys.getD k 0
    ·have HN:Hid (xs.take (k+1)=ys.take (k+1)):=by
      show xs.take (k+1)=ys.take (k+1)
      rw[L.take_snoc xs k hlt,L.take_snoc ys k (by have:=HL.out;omega),HT.out,hxy]
     rw[←hxy]at cb'
     generalize xs.getD k 0=x at *
     have hx':(x != x)=false:=by simp
     clear hxy
     go_wp2_with fail
     go_quiet (fail)
     go_wp2
     go_roundw
     case rel=>exact⟨k+1,_,hlt,by go_num,HN.out,by rw[HW.out];exact World.drewN_drewN _ _ _⟩
     case measure=>simp[intOf];omega
    ·have HN:Hid (decide (xs=ys)=false):=by
      show decide (xs=ys)=false
      rw[decide_eq_false_iff_not];rintro rfl;exact hxy rfl
     generalize xs.getD k 0=x at *
     generalize ys.getD k 0=y at *
     have hx':(x != y)=true:=by simpa using hxy
     clear hxy
     go_wp2_with fail
     go_quiet (fail)
     go_wp2
     go_ret
     exact⟨aF HN.out.symm,_,by rw[HW.out,World.drewN_drewN]⟩
   ·obtain rfl:k=xs.length:=by omega
    have HE:Hid (decide (xs=ys)=true):=by
     show decide (xs=ys)=true
     rw[decide_eq_true_iff]
     have h:=HT.out
     rwa [List.take_length,HL.out,List.take_length]at h
    clear ht
    subst hwr
    go_wp2
    go_ret
    exact⟨aF HE.out.symm,_,rfl⟩
 ·have HE:Hid (decide (xs=ys)=false):=by
   show decide (xs=ys)=false
   rw[decide_eq_false_iff_not];rintro rfl;exact hl rfl
  have hne:((xs.length:Int) != (ys.length:Int))=true:=by simp;omega
  go_enter Try.func7,Try.ntmps7
  go_wp2
  go_ret
  exact⟨aF HE.out.symm,0,rfl⟩
end Go.Proofs.Ytcgclkndkahgaaa
namespace Go.Proofs.Ytcgclkndkahgaaa
set_option maxRecDepth 100000
set_option maxHeartbeats 40000000
open Go.RowKit Go.ChangeShapes Go.WideShapes Go.ChangeAt
theorem ze7 {w:World} {o:Oper} {a:Act} {Q:Exit→Act→World→Prop} {K:Act→World→Prop}
  (s x:Operand) (t:TypeId) (ho:o.op=.call {callee:=.builtin .append,args:=#[s,x],argTypes:=#[t,t]}) (ht:Try.prog.underlying t=some (.slice 3))
  (base:Nat) (v:Value) (xs:List Int) (hs:a.eval s=v) (hown:aK w base v xs) (B m c:Nat) (A:Option Addr) (zs:List Int) (hx:a.eval x=.slice A m c) (hm:m=zs.length) (hr:RdI w B A zs)
  (hlen:xs.length+zs.length≤1000000000000) (hbase:base≤w.heap.size)
  (hK:∀v' w',aK w' base v' (xs++zs)→w.grownBy w' v.ownBlock→K (a.put o.dst v') w') :
  o.wp Try.prog a w K Q:=by
 obtain⟨i,hi,hz0,hz1,hz2⟩:=info_parts zeN
 subst hm
 rcases A with _|ad
 ·have hz:zs=[]:=by
   rcases Nat.eq_zero_or_pos zs.length with h0|h0
   ·exact List.eq_nil_of_length_eq_zero h0
   ·obtain⟨g,o',h,_⟩:=hr (by omega);cases h
  subst hz
  have hrun:=zai (P:=Try.prog) w base t o.type 3 i 1 ht hi v xs.length _ hown c
  unfold Oper.wp
  simp[execOp,ho,resolve,invoke,builtin,hs,hx,hrun,Result.andThen]
  exact hK v w (by simpa using hown) (World.grownBy.refl _ _)
 ·refine wp_append_own w s x t ho base 3 i (.int .i64 0) 1 8 ht hi hz0 hz1 hz2 rfl (by decide) v xs.length (xs.map (Value.int .i64)) hs hown ad zs.length c (zs.map (Value.int .i64)) hx (by simp) ?_ ?_ (by unfold maxLen;omega) (by omega) hbase fun v' w' h1 h2 _=>hK v' w' ?_ h2
  ·intro j u hj
   have hjl:j<zs.length:=by have:=(List.getElem?_eq_some_iff.1 hj).1;simpa using this
   obtain⟨g,o',h,_,hc⟩:=hr (by omega)
   replace h:=Option.some.inj h
   subst h
   have e:((⟨g,o',none⟩:Addr).add j)=⟨g,o'+j,none⟩:=by unfold Addr.add;by_cases h0:j=0 <;> simp[h0]
   rw[e,hc j hjl]
   rw[List.getElem?_map,List.getElem?_eq_getElem hjl]at hj
   rw[L.gd_lt hjl];simpa using hj
  ·intro u hu;obtain⟨z,_,rfl⟩:=List.mem_map.1 hu;rfl
  ·unfold aK
   rw[List.length_append,List.map_append];exact h1
end Go.Proofs.Ytcgclkndkahgaaa
namespace Go.Proofs.Ytcgclkndkahgaaa.RowKit
open Go.ChangeShapes Go.WideShapes Go.ChangeAt Go.RowKit
theorem own:ownKnob Try.prog.godebug=none:=by kernel_rfl
theorem laidOut:laidOutB Try.prog=true:=by kernel_rfl
end Go.Proofs.Ytcgclkndkahgaaa.RowKit
