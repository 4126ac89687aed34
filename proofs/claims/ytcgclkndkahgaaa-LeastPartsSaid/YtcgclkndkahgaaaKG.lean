/- Part of the proofs over this program: Build9, Ref8M, Read9, Src9, Alive14T, RowQ, WordsO, LsFn, LsPlans, LsPlan2, TrimGrow. -/
import Derived.Lib.MinMax
import Derived.Test.YtcgclkndkahgaaaKF
namespace Go.Proofs.Ytcgclkndkahgaaa
set_option maxRecDepth 100000
set_option maxHeartbeats 40000000
open Go.RowKit
def zhD (x:Tok):Prop:=K.Tx x.t∧Gm.named x.t=true∧x.t≠[101,114,114,111,114]
structure Ez (ds:List Y.Dcl) (ps:List Y.Prd):Prop where
 k:∀d∈ds,d.k=4∨d.k=5
 d:∀d∈ds,(∀x∈d.ns,K.Tx x.t∧Gm.named x.t=true)∧d.ns.length≤1000000
 l:∀p∈ps,K.Tx p.l.t∧T.isName p.l.t=true
 r:∀p∈ps,(∀x∈p.r,zhD x)∧(∀x,p.p=some x→zhD x)∧p.r.length≤1000
 dl:ds.length≤1000
 pl:ps.length≤1000
 pn:0<ps.length
theorem zcb {k:Int} (hk:k=4∨k=5):∀(xs:List Tok) {s s':Gm.S1},Gm.declN k s xs=.ok s'→s'.st=s.st
 | [],s,s',h=>by rw[Gm.declN]at h;injection h with h;subst h;rfl
 | x::r,s,s',h=>by
  rw[Gm.declN]at h
  obtain⟨s1,h1,h2⟩:=Gm.R.bind_eq h
  rw[zcb hk r h2]
  unfold Gm.decl1 at h1
  rw[if_neg (by omega),if_neg (by omega)]at h1
  split at h1
  ·cases h1
  ·obtain⟨p,_,h1⟩:=Gm.R.bind_eq h1
   injection h1 with h1;subst h1;rfl
theorem zca:∀(ds:List Y.Dcl) {S S':Gm.S1},(∀d∈ds,d.k=4∨d.k=5)→Gm.decls S ds=.ok S'→S'.st=S.st
 | [],S,S',_,h=>by rw[Gm.decls]at h;injection h with h;subst h;rfl
 | d::r,S,S',hk,h=>by
  rw[Gm.decls]at h
  obtain⟨s1,h1,h2⟩:=Gm.R.bind_eq h
  rw[zca r (fun d hd=>hk d (List.mem_cons_of_mem _ hd)) h2,zcb (hk d (List.mem_cons_self ..)) d.ns h1]
  unfold Gm.up;split <;> rfl
theorem zdo {ds:List Y.Dcl} {ps:List Y.Prd} {G:Gm.Gr} (hk:∀d∈ds,d.k=4∨d.k=5) (h:Gm.build ds ps=.ok G):∃S ns q,Gm.decls ⟨[],[],none,0⟩ ds=.ok S∧Gm.lefts S.ts [] ps=.ok ns∧Gm.prods ns S.ts [] ps=.ok q∧G=⟨q.1,ns,q.2,0⟩:=by
 unfold Gm.build at h
 obtain⟨S,h1,h⟩:=Gm.R.bind_eq h
 obtain⟨ns,h2,h⟩:=Gm.R.bind_eq h
 obtain⟨q,h3,h⟩:=Gm.R.bind_eq h
 have hs:S.st=none:=zca ds hk h1
 rw[hs]at h
 injection h with h
 exact⟨S,ns,q,h1,h2,h3,h.symm⟩
theorem zda {ns:List (List Int)} {ts:List Gm.Tm} {rs:List Gm.Rl} {ps:List Y.Prd} {i:Nat} (h:i<ps.length):Gm.prods ns ts rs (ps.drop i)=(Gm.prod1 ns ts rs ps[i]).bind fun q=>Gm.prods ns q.1 q.2 (ps.drop (i+1)):=by
 rw[List.drop_eq_getElem_cons h,Gm.prods]
theorem ze2 (w:World):(Instr.build 79 #[]).run Try.prog w=.ok (.agg (wC (.slice none 0 0) (.slice none 0 0) (.slice none 0 0) 0)) w:=run_build w 79 _ _ (by kernel_rfl)
theorem zeE {ns:List (List Int)} {ts ts':List Gm.Tm} {rs rs':List Gm.Rl} {pr:Y.Prd} (h:Gm.prod1 ns ts rs pr=.ok (ts',rs')) (hl:rs.length≤40):rs'.length≤40:=by
 obtain⟨h40,tz,az,pz,_,q⟩:=zbB h
 rcases q with⟨_,_,rfl⟩|⟨x,z,_,_,rfl⟩ <;> simp <;> omega
def GrW (w:World) (v:Value) (G:Gm.Gr):Prop:=∃B N R cs vT vN vR,v=.agg #[vT,vN,vR,.int .i64 G.st]∧WRaw w B N R cs vT vN vR G.ts G.ns G.rs∧N≤w.heap.size
theorem GrW.rd {w:World} {v:Value} {G:Gm.Gr} (h:GrW w v G):aS w w.heap.size v G:=by
 obtain⟨B,N,R,cs,vT,vN,vR,rfl,h,hN⟩:=h
 exact h.rd hN G.st
theorem zgv (w:World) (A1 A2:Option Addr) (n1 n2 c1 c2:Nat) (wb:World) (h:wb=((w.alloc (.cells #[.slice A1 n1 c1,.slice A2 n2 c2] 57)).alloc (.cells #[.slice none 0 0,.slice none 0 0,.slice none 0 0,.int .i64 0] 26)).alloc (.cells (wC (.slice none 0 0) (.slice none 0 0) (.slice none 0 0) 0) 79)) :
  Below w.heap.size w wb∧wb.heap.size=w.heap.size+3∧wb.heap[w.heap.size]?=some (.cells #[.slice A1 n1 c1,.slice A2 n2 c2] 57 (0,0))∧wb.heap[w.heap.size+1]?=some (.cells #[.slice none 0 0,.slice none 0 0,.slice none 0 0,.int .i64 0] 26 (0,0))∧Wk wb w.heap.size (w.heap.size+3) (w.heap.size+1+1) [] [] [] 0:=by
 obtain⟨o0,h0⟩:∃o,o=Obj.cells #[.slice A1 n1 c1,.slice A2 n2 c2] 57:=⟨_,rfl⟩
 obtain⟨o1,h1⟩:∃o,o=Obj.cells #[.slice none 0 0,.slice none 0 0,.slice none 0 0,.int .i64 0] 26:=⟨_,rfl⟩
 obtain⟨o2,h2⟩:∃o,o=Obj.cells (wC (.slice none 0 0) (.slice none 0 0) (.slice none 0 0) 0) 79:=⟨_,rfl⟩
 rw[←h0,←h1,←h2]at h
 subst h
 have s1:(w.alloc o0).heap.size=w.heap.size+1:=by simp
 have s2:((w.alloc o0).alloc o1).heap.size=w.heap.size+1+1:=by simp
 refine⟨(((Below.refl _ w).alloc (Nat.le_refl _) o0).alloc (by omega) o1).alloc (by omega) o2,by simp,?_,?_,.slice none 0 0,.slice none 0 0,.slice none 0 0,?_,zaI.nil _ _,a7.nil _ _,za1.nil _ _ _,by omega⟩
 ·rw[Below.heap_alloc _ _ _ (by omega),Below.heap_alloc _ _ _ (by omega),h0];exact heap_alloc_new w _
 ·rw[Below.heap_alloc _ _ _ (by omega),←s1,h1];exact heap_alloc_new _ _
 ·rw[←s2,h2];exact heap_alloc_new _ _
theorem zhe (L:List Int) (ds:List Y.Dcl) (ps:List Y.Prd) (A1 A2:Option Addr) (c1 c2:Nat) (G:Gm.Gr) (w:World) (hd:zgB L w w.heap.size A1 ds) (hp:zgA L w w.heap.size A2 ps) (hz:Ez ds ps) (hb:Gm.build ds ps=.ok G) :
  Calls Try.prog 21 #[.agg #[.slice A1 ds.length c1,.slice A2 ps.length c2]] w fun e w'=>(∃g,e=.returned (.tuple #[g,.complex .f64 0 0,.int .i64 0])∧GrW w' g G∧Gm.Fit G)∧Below w.heap.size w w':=by
 obtain⟨S,ns,⟨tz,rz⟩,h1,h2,h3,hG⟩:=zdo hz.k hb
 have hbg:=fun w=>ze2 w
 unfold wC at hbg
 have HDD:=aA hd
 have HPP:=aA hp
 have HZ:=aA hz
 have H1:=aA h1
 have H2:=aA h2
 have H3:=aA h3
 have HG:=aA hG
 have HPN:Hid (0<ps.length):=aA hz.pn
 clear hd hp hz hb h1 h2 h3 hG
 go_enter Try.func21,Try.ntmps21
 go_wp2_with fail
 obtain⟨wb,hwb⟩:∃x,x=((w.alloc (.cells #[.slice A1 ds.length c1,.slice A2 ps.length c2] 57)).alloc (.cells #[.slice none 0 0,.slice none 0 0,.slice none 0 0,.int .i64 0] 26)).alloc (.cells (wC (.slice none 0 0) (.slice none 0 0) (.slice none 0 0) 0) 79):=⟨_,rfl⟩
 have hbe:=zgv w A1 A2 ds.length ps.length c1 c2 wb hwb
 unfold wC at hwb
 rw[←hwb]
 obtain⟨b1,b2,b3,b4,b5⟩:=hbe
 have HBW:=aA b1
 have HSB:=aA b3
 have HGB:=aA b4
 have HWK:=aA b5
 have HSZ:Hid (w.heap.size≤wb.heap.size∧w.heap.size+3≤wb.heap.size):=aA (by omega)
 clear hwb b1 b2 b3 b4 b5 hbg
 obtain⟨n,hn⟩:∃n,n=w.heap.size:=⟨_,rfl⟩
 have HNN:=aA hn
 rw[←hn]at HDD HPP HBW HSB HGB HWK HSZ ⊢
 clear hn
 obtain⟨R,hR⟩:∃R,R=n+1+1:=⟨_,rfl⟩
 rw[←hR]at HWK ⊢
 have HRN:=aA hR
 clear hR
 have HFN:Hid (Gm.Fit ⟨[],[],[],0⟩):=aA ⟨by simp,by simp,by simp,by unfold Gm.In;simp⟩
 have HC:=aA (zha L n (n+3) R [] [] ds ⟨[],[],none,0⟩ S A1 c1 wb HWK.out ⟨HFN.out,by simp,by simp⟩ HZ.out.k HZ.out.d (HDD.out.keep HBW.out) HSZ.out.2 HSZ.out.1 rfl HZ.out.dl H1.out)
 refine HC.out.mono ?_;rintro _ w2 ⟨rfl,⟨hw2,hj2⟩,hb2,hk2⟩
 have HW2:=aA hw2
 have HJ2:=aA hj2
 have HB2:=aA hb2
 have HK2:=aA (KpT.a hk2)
 have HSB2:=aA (hk2 _ _ _ HSB.out (by decide) (by decide))
 have s1:w2.cell? ⟨n,1,none⟩=some (.slice A2 ps.length c2):=cell_of_row w2 _ 1 _ _ _ HSB2.out
 have hns2:=(Array.getElem?_eq_some_iff.1 HSB2.out).1
 have HC3:=aA (zgP L n (n+3) R S.ts [] ps [] ns S.lv A2 c2 w2 HW2.out HJ2.out.f HZ.out.l ((HPP.out.keep HBW.out).keep HB2.out) (Nat.le_trans HSZ.out.2 HB2.out.size) (Nat.le_trans HSZ.out.1 HB2.out.size) (by simp) HZ.out.pl H2.out)
 clear hw2 hj2 hb2 hk2 HC
 go_wp2_with fail
 refine HC3.out.mono ?_;rintro _ w3 ⟨rfl,⟨hw3,hf3,hl3⟩,hb3,hk3⟩
 have HW3:Hid (Wk w3 n w3.heap.size R S.ts ns [] S.lv):=aA (hw3.more (Nat.le_trans HSZ.out.2 (Nat.le_trans HB2.out.size hb3.size)))
 have HF3:=aA hf3
 have HB3:=aA (HB2.out.trans hb3)
 have HK3:=aA (HK2.out.trans hk3)
 have HL3:=aA hl3
 have HT3:=aA HJ2.out.h
 clear hw3 hf3 hb3 hk3 HC3 s1 hl3 hns2 HW2 HB2 HK2 HSB2 HJ2
 go_wp2
 go_loopw [6] (fun vi wr=>∃(i:Nat) (ts:List Gm.Tm) (rs:List Gm.Rl),i≤ps.length∧vi=.int .i64 i∧Hid (Gm.prods ns ts rs (ps.drop i)=.ok (tz,rz))∧Hid (Wk wr n wr.heap.size R ts ns rs S.lv)∧Hid (Gm.Fit ⟨ts,ns,rs,0⟩)∧Hid (ts.length≤24)∧Hid (rs.length≤40)∧Hid (Below n wb wr)∧Hid (KpA wb wr)) (fun vi _=>ps.length-(intOf vi).toNat)
 case atStart=>exact⟨0,S.ts,[],Nat.zero_le _,rfl,H3,HW3,HF3,HT3,aA (by simp),HB3,HK3⟩
 case round =>
  obtain⟨i,ts,rs,hi,rfl,HE,HW,HF,HT,HRS,HBQ,HKQ⟩:=hrel
  have HSQ:=aA (HKQ.out _ _ _ HSB.out (by decide) (by decide) (by decide) (by decide))
  have s1:wr.cell? ⟨n,1,none⟩=some (.slice A2 ps.length c2):=cell_of_row wr _ 1 _ _ _ HSQ.out
  have hns2:=(Array.getElem?_eq_some_iff.1 HSQ.out).1
  obtain⟨vTr,vNr,vRr,hwr⟩:=HW.out
  have f10:=(hwr.at 10).1
  have hRr:=hwr.lt
  simp only[wC,List.getElem?_toArray,List.getElem?_cons_zero,List.getElem?_cons_succ]at f10
  clear hwr
  have hBs:=HBQ.out.size
  have hpl:=HZ.out.pl
  have hBs':n≤wr.heap.size:=by have:=HSZ.out;omega
  by_cases hlt:i<ps.length
  ·have HPQ:=aA ((HPP.out.keep HBW.out).keep HBQ.out)
   obtain⟨g,o,rfl,hgB,hc⟩:=HPQ.out (by omega)
   obtain⟨k0,k1,⟨A',c',k2,hrf⟩,k3,k4⟩:=hc i hlt
   have hgs:g<wr.heap.size:=by have:=HSZ.out;omega
   have hE:=HE.out
   rw[zda hlt]at hE
   obtain⟨⟨t2,r2⟩,hp1,hE2⟩:=Gm.R.bind_eq hE
   simp only at hE2
   have HE2:=aA hE2
   obtain⟨z1,z2,z3⟩:=HZ.out.r _ (List.getElem_mem hlt)
   have HC:=aA (zht L n R ts t2 ns rs r2 S.lv ps[i] A' c' wr HW.out HF.out hrf (HZ.out.l _ (List.getElem_mem hlt)).1 z1 z2 (by have:=HSZ.out;omega) HT.out HL3.out HRS.out z3 hp1)
   have HR2:=aA (zeE hp1 HRS.out)
   unfold zbD at HC
   clear hc hrf hE hE2 hp1 z1 z2 z3
   generalize ps[i]=p at *
   generalize rfX L p.l=X0 at *
   generalize rfY L p.l=Y0 at *
   generalize K.str p.l.t=s0 at *
   generalize soX L p.p=X1 at *
   generalize soY L p.p=Y1 at *
   generalize soS p.p=s1 at *
   go_wp2_with fail
   refine HC.out.mono ?_;rintro _ w4 ⟨rfl,⟨hw4,hf4,ht4⟩,hb4,hk4⟩
   have H4:=aA (And.intro hw4 (And.intro hf4 (And.intro ht4 (And.intro (HBQ.out.trans hb4) (HKQ.out.trans hk4)))))
   clear hw4 hf4 ht4 hb4 hk4 HC
   go_wp2
   go_roundw
   case rel=>exact⟨i+1,t2,r2,hlt,by go_num,HE2,aA H4.out.1,aA H4.out.2.1,aA H4.out.2.2.1,HR2,aA H4.out.2.2.2.1,aA H4.out.2.2.2.2⟩
   case measure=>simp[intOf];omega
  ·obtain rfl:i=ps.length:=by omega
   have hE:=HE.out
   rw[List.drop_length,Gm.prods]at hE
   injection hE with hE
   injection hE with e1 e2
   subst e1
   subst e2
   have e0:((ps.length:Int)==0)=false:=beq_eq_false_iff_ne.2 (by have:=HPN.out;omega)
   go_wp2_with fail
   have f7:=fun y:Calm.On wr.heap.size wr=>(show y.1.cell? ⟨R,7,none⟩=some (.bool false) by obtain⟨a,b,c,h⟩:=HW.out.below y.2;exact(h.at 7).1)
   refine CalmN.region_tree (fun x=>∃y:Calm.On wr.heap.size wr,x=y.1) (.one [0,1,2,3,4,5,6,7,8,9,10,11,12,13] 14 (.fin [15,16])) (by kernel_rfl) (by kernel_rfl) (fun _ _ d _ _ h=>by cases d <;> exact h) ⟨⟨wr.drew,aB (Below.refl _ _) 1⟩,rfl⟩ ?_
   simp only[CalmN.wpT,CalmN.wpSt,CalmN.pickOps,List.getElem?_toArray,List.getElem?_cons_zero,List.getElem?_cons_succ]
   repeat (go_big_quiet_step (fail))
   refine wpQuiet_nil ?_
   intro KK2 hKK2
   rw[if_neg (by exact(fun h=>absurd (show false=true from h) (by decide)))]
   refine hKK2 _ _ ⟨⟨wr.drew,aB (Below.refl _ _) 1⟩,rfl⟩ (fun x=>∃y:Calm.On wr.heap.size wr,x=y.1) (fun _ h=>h) ⟨⟨wr.drew,aB (Below.refl _ _) 1⟩,rfl⟩ ?_
   simp only[Act.put,List.setIfInBounds_toArray,List.set_cons_succ,List.set_cons_zero]
   repeat (go_big_quiet_step (fail))
   refine wpQuiet_nil ?_
   clear f7 s1 hns2 f10 hRr hKK2
   obtain⟨wz,hwz⟩:∃x,x=wr.drew:=⟨_,rfl⟩
   rw[←hwz]
   have hbz:Below wr.heap.size wr wz:=by rw[hwz];exact aB (Below.refl _ _) 1
   have HWZ:=aA (HW.out.below hbz)
   have hzs:wz.heap.size=wr.heap.size:=by rw[hwz];rfl
   have HWB:=aA ((HBW.out.trans HBQ.out).trans (hbz.mono hBs'))
   have HSZ2:=aA ((hbz.block _ (Array.getElem?_eq_some_iff.1 HSQ.out).1).trans HSQ.out)
   have HGQ:=HKQ.out _ _ _ HGB.out (by decide) (by decide) (by decide) (by decide)
   have HGZ:=aA ((hbz.block _ (Array.getElem?_eq_some_iff.1 HGQ).1).trans HGQ)
   clear hwz HGQ hbz
   have s1:wz.cell? ⟨n,1,none⟩=some (.slice A2 ps.length c2):=cell_of_row wz _ 1 _ _ _ HSZ2.out
   have hns2:=(Array.getElem?_eq_some_iff.1 HSZ2.out).1
   obtain⟨vTz,vNz,vRz,hzw⟩:=HWZ.out
   obtain⟨⟨AT,cT,rfl⟩,⟨AN,cN,rfl⟩,⟨AR,cR,rfl⟩⟩:=zag hzw
   have HZW:=aA hzw
   have b0:=(hzw.at 0).1
   have b1:=(hzw.at 1).1
   have b2:=(hzw.at 2).1
   have b3:=(hzw.at 3).1
   have b7:=(hzw.at 7).1
   have b10:=(hzw.at 10).1
   have hRz:=hzw.lt
   simp only[wC,List.getElem?_toArray,List.getElem?_cons_zero,List.getElem?_cons_succ]at b0 b1 b2 b3 b7 b10
   have g0:wz.cell? ⟨n+1,0,none⟩=some (.slice none 0 0):=cell_of_row wz _ 0 _ _ _ HGZ.out
   have g1:wz.cell? ⟨n+1,1,none⟩=some (.slice none 0 0):=cell_of_row wz _ 1 _ _ _ HGZ.out
   have g2:wz.cell? ⟨n+1,2,none⟩=some (.slice none 0 0):=cell_of_row wz _ 2 _ _ _ HGZ.out
   have g3:wz.cell? ⟨n+1,3,none⟩=some (.int .i64 0):=cell_of_row wz _ 3 _ _ _ HGZ.out
   have f0:=frozen_of_row wz _ 0 _ _ HGZ.out
   have f1:=frozen_of_row wz _ 1 _ _ HGZ.out
   have f2:=frozen_of_row wz _ 2 _ _ HGZ.out
   have f3:=frozen_of_row wz _ 3 _ _ HGZ.out
   have hgz:=(Array.getElem?_eq_some_iff.1 HGZ.out).1
   have HOF:Hid (Off9 wz wz.heap.size (some (n+1))):=aA ⟨fun g e=>by injection e with e;subst e;exact⟨_,_,HGZ.out,by decide,by decide,by decide,.inl ⟨by decide,by decide⟩⟩⟩
   have HGR:=aA (fun u0 u1 u2 u3=>(HZW.out.more (N':=wz.heap.size) (by rw[hzs];exact Nat.le_refl _)).grown (aD (aD (aD (aD (World.grownBy.refl wz (some (n+1))) 0 u0) 1 u1) 2 u2) 3 u3) HOF.out)
   clear hzw hzs
   go_wp2
   refine bodyPost_ret (v:=.tuple #[.agg #[.slice AT ts.length cT,.slice AN ns.length cN,.slice AR rs.length cR,.int .i64 0],.complex .f64 0 0,.int .i64 0]) (by simp[results,Try.results21,go_sem,g0,g1,g2,g3]) rfl ?_
   rw[HG.out]
   refine⟨⟨_,rfl,⟨_,_,_,_,_,_,_,rfl,HGR.out _ _ _ _,by simp⟩,HF.out⟩,?_⟩
   rw[←HNN.out]
   exact(((HWB.out.setCell (by simp only;omega) _).setCell (by simp only;omega) _).setCell (by simp only;omega) _).setCell (by simp only;omega) _
def Y.more:Nat→List Prd→List Tok→Res (List Prd)
 | 0,acc,ts=>.ok acc ts
 | _+1,acc,[]=>.ok acc []
 | f+1,acc,t::ts=>(group [] (t::ts)).bind fun ps r=>Y.more f (acc++ps) r
theorem Y.group_kind {t:Tok} {ts r:List Tok} {ps:List Y.Prd} (h:Y.group [] (t::ts)=.ok ps r):t.k=1:=by
 unfold Y.group at h
 obtain⟨left,m,h1,h⟩:=Y.bind_eq_ok h
 obtain⟨e,hk⟩:=Y.take_ok h1
 injection e with e _
 subst e
 simpa using hk
theorem zf5 {w:World} {o:Oper} {a:Act} {K:Act→World→Prop} {Q:Exit→Act→World→Prop}
  (s x:Operand) (t:TypeId) (ho:o.op=.call {callee:=.builtin .append,args:=#[s,x],argTypes:=#[t,t]}) (ht:Try.prog.underlying t=some (.slice 85))
  (L:List Int) (base bu:Nat) (v u:Value) (xs ys:List Y.Prd) (hs:a.eval s=v) (hown:aT L w base v xs) (hx:a.eval x=u) (hsrc:aT L w bu u ys) (hbu:base≤bu)
  (hlen:xs.length+ys.length≤1000000) (hbase:base≤w.heap.size)
  (hK:∀v' w',aT L w' base v' (xs++ys)→w.grownBy w' v.ownBlock→K (a.put o.dst v') w') :
  o.wp Try.prog a w K Q:=by
 obtain⟨i,hi,hz0,hz1,hz2⟩:=info_parts zgV
 have hown0:=hown
 obtain⟨qs,hq1,hq2,hq3⟩:=hown
 obtain⟨qy,hy1,hy2,hy3⟩:=hsrc
 have hlq:qs.length=xs.length:=by rw[←hq1,List.length_map]
 have hly:qy.length=ys.length:=by rw[←hy1,List.length_map]
 have hpl:(zfw L qy).length=ys.length*5:=hy2.1
 rcases hy2.2 with⟨rfl,h0⟩|⟨g,cap,cur,rfl,hb,hg,hn,hm,hc,htk⟩
 ·have hz:ys=[]:=List.eq_nil_of_length_eq_zero h0
  subst hz
  have hrun:=zai (P:=Try.prog) w base t o.type 85 i 5 ht hi v xs.length _ hq2 0
  unfold Oper.wp
  simp[execOp,ho,resolve,invoke,builtin,hs,hx,hrun,Result.andThen]
  exact hK v w (by simpa using hown0) (World.grownBy.refl _ _)
 ·refine wp_append_own w s x t ho base 85 i _ 5 88 ht hi hz0 hz1 hz2 rfl (by decide) v xs.length (zfw L qs) hs hq2 ⟨g,0,none⟩ ys.length cap (zfw L qy) hx hpl ?_ ?_ (by unfold maxLen;omega) (by omega) hbase fun v' w' h1 h2 _=>hK v' w' ?_ h2
  ·intro j z hj
   have hjl:j<ys.length*5:=by have:=(List.getElem?_eq_some_iff.1 hj).1;omega
   rw[zdr,Nat.zero_add,cell_of_row w g _ _ _ _ hg]
   rw[←htk,List.getElem?_take_of_lt hjl]at hj
   simpa using hj
  ·intro z hz
   obtain⟨q,_,hz⟩:=List.mem_flatMap.1 hz
   exact zb2 L q.1 q.2.1 q.2.2 z hz
  ·have hoo:=zaq hq2 (by decide)
   refine⟨qs++qy,by rw[List.map_append,hq1,hy1],?_,fun q hq=>?_⟩
   ·rw[List.length_append]
    unfold zfw at h1 ⊢
    rw[List.flatMap_append]
    exact h1
   ·rcases List.mem_append.1 hq with h|h
    ·exact(hq3 q h).grown h2 hoo
    ·exact((hy3 q h).less hbu).grown h2 hoo
theorem Rd8.dlen {L:List Int} {B R px py:Nat} {w:World} {ts:List Tok} (h:Rd8 L B R px py w ts):zcu R w=ts.length:=by
 obtain⟨A,c,h0,_⟩:=h.cell0
 unfold zcu
 rw[h0]
theorem zcN {w:World} {base base':Nat} {v v':Value} {n n' size size':Nat} {e e':TypeId} {xs xs':List Value} (h:w.ownsRow base e size v n xs) (h':w.ownsRow base' e' size' v' n' xs') (he:e≠e'):v.ownBlock=none∨v.ownBlock≠v'.ownBlock:=by
 rcases h'.2 with⟨rfl,_⟩|⟨g,cap,cur,rfl,_,hg,_⟩
 ·rcases hv:v.ownBlock with _|k
  ·exact .inl rfl
  ·exact .inr (by simp[Value.ownBlock])
 ·exact .inr (zdA h hg he)
theorem of8m (L:List Int) (A:Option Addr) (c px py:Nat) (ts:List Tok) (ds:List Y.Dcl) (p1 ps:List Y.Prd) (f1:Nat) (m m2 r1:List Tok) (t9:Tok) (w:World) (hr:RdT L w w.heap.size A ts) (hc:ts.length≤c) (h4:ts.length≤4000)
  (hd:Y.decls (ts.length+1) [] ts=.ok ds m) (hk:∀d∈ds,d.k=4∨d.k=5) (h9:Y.take [9] m=.ok t9 m2) (hg:Y.group [] m2=.ok p1 r1) (hmo:Y.more f1 p1 r1=.ok ps []) :
  Calls Try.prog 35 #[.slice A ts.length c,.complex .f64 px py] w fun e w'=>∃dv pv,e=.returned (.tuple #[.agg #[dv,pv],.complex .f64 0 0,.int .i64 0])∧aU L w' w.heap.size dv ds∧aT L w' w.heap.size pv ps∧Below w.heap.size w w':=by
 have SC:=fun a w m X Y=>show(store a (.complex .f64 X Y) m).run Try.prog w=stored Try.prog w a (.complex .f64 X Y) m from run_store _ w a _ m rfl
 have BR:=fun A (n c:Nat) X Y w=>(run_build w 109 _ _ (by kernel_rfl):(Instr.build 109 #[(0,.slice A n c),(1,.complex .f64 X Y)]).run Try.prog w=.ok (.agg #[.slice A n c,.complex .f64 X Y,.complex .f64 0 0,.int .i64 0]) w)
 have BS:=fun A (n c:Nat) w=>(run_build w 57 _ _ (by kernel_rfl):(Instr.build 57 #[(0,.slice A n c)]).run Try.prog w=.ok (.agg #[.slice A n c,.slice none 0 0]) w)
 have HB0:=aA (((Below.refl w.heap.size w).alloc (Nat.le_refl _) (.cells #[.slice none 0 0,.slice none 0 0] 57)).alloc (by simp) (.cells #[.slice A ts.length c,.complex .f64 px py,.complex .f64 0 0,.int .i64 0] 109))
 have HR1:Hid (Rd8 L w.heap.size (w.heap.size+1) px py ((w.alloc (.cells #[.slice none 0 0,.slice none 0 0] 57)).alloc (.cells #[.slice A ts.length c,.complex .f64 px py,.complex .f64 0 0,.int .i64 0] 109)) ts):=aA ⟨A,c,by have:=heap_alloc_new (w.alloc (.cells #[.slice none 0 0,.slice none 0 0] 57)) (.cells #[.slice A ts.length c,.complex .f64 px py,.complex .f64 0 0,.int .i64 0] 109);rwa [show(w.alloc (.cells #[.slice none 0 0,.slice none 0 0] 57)).heap.size=w.heap.size+1 by simp]at this,hc,h4,hr.below HB0.out (Nat.le_refl _),by omega⟩
 have HD:=aA (fun(x:World) (B R:Nat) (h:Rd8 L B R px py x ts)=>zhb L B R px py (ts.length+1) ts ds m x h hd (by omega) hk)
 have H9:=aA (fun(x:World) (B R:Nat) (h:Rd8 L B R px py x m)=>zbW L B R px py m 9 9 x h t9 m2 ((zbm 9 m).trans h9))
 have HG:=aA (fun(x:World) (B R:Nat) (h:Rd8 L B R px py x m2)=>zf3 L B R px py m2 p1 r1 x h hg)
 have HMO:=aA hmo
 have HGL:=aA (Y.group_len hg)
 unfold aY at H9
 clear hr hc h4 hd hk h9 hg hmo
 go_enter Try.func35,Try.ntmps35
 go_wp2_with fail
 refine(HD.out _ _ _ HR1.out).mono ?_;rintro _ w2 ⟨hg2,v2,rfl,ho2,hr2⟩
 have hz0:=zad hg2 ((Below.block (B:=w.heap.size+1) ((Below.refl _ (w.alloc (.cells #[.slice none 0 0,.slice none 0 0] 57))).alloc (by simp) (.cells #[.slice A ts.length c,.complex .f64 px py,.complex .f64 0 0,.int .i64 0] 109)) w.heap.size (by omega)).trans (heap_alloc_new w _)) (by omega)
 obtain⟨A2,c2,rfl,_,_⟩:=ho2.form
 have HG2:=aA hg2
 have hs2:w.heap.size+2≤w2.heap.size:=by have:=hg2.size;simpa using this
 have HO2:=aA ho2
 have HRO:=aA hr2.other
 have HR2:=aA (hr2.alloc (.cells #[.slice A2 ds.length c2,.slice none 0 0] 57))
 have HZ2:=aA ((Below.heap_alloc w2 (.cells #[.slice A2 ds.length c2,.slice none 0 0] 57) w.heap.size (by omega)).trans hz0)
 clear hg2 ho2 hr2 hz0
 go_wp2_with fail
 refine(H9.out _ _ _ HR2.out).mono ?_;rintro _ w3 ⟨rfl,hg3,hr3⟩
 have HG3:=aA hg3
 have HR3:=aA hr3
 have HZ3:=aA (zad hg3 HZ2.out (by omega))
 have HB3:=aA (zcc hg3 (by omega:w.heap.size+1<w2.heap.size))
 clear hg3 hr3
 go_wp2_with fail
 have HL1:Hid (p1.length+r1.length≤4000):=aA (by have h1:=HGL.out;have h2:=HR3.out.len;simp at h1;omega)
 refine(HG.out _ _ _ HR3.out).mono ?_;rintro _ w4 ⟨hg4,v4,rfl,ho4,hr4⟩
 obtain⟨A4,c4,rfl,_,_⟩:=ho4.form
 have hs3:w2.heap.size+1≤w3.heap.size:=by have:=HG3.out.size;simpa using this
 have hs4:w3.heap.size≤w4.heap.size:=hg4.size
 have hb4:=zad hg4 HB3.out (by omega)
 have hz4:=zad hg4 HZ3.out (by omega)
 have HGA:=aA ((aC HG2.out (.cells #[.slice A2 ds.length c2,.slice none 0 0] 57)).trans (HG3.out.trans hg4))
 have b0:=cell_of_row w4 _ 0 _ _ _ hb4
 have b1:=cell_of_row w4 _ 1 _ _ _ hb4
 have fb1:=frozen_of_row w4 _ 1 _ _ hb4
 have z0:=cell_of_row w4 _ 0 _ _ _ hz4
 have z1:=cell_of_row w4 _ 1 _ _ _ hz4
 have fz0:=frozen_of_row w4 _ 0 _ _ hz4
 have fz1:=frozen_of_row w4 _ 1 _ _ hz4
 have hRl:=hr4.lt
 have HO4:=aA ho4
 have HOD4:=aA (HO2.out.grown ((aC (World.grownBy.refl w2 (some (w.heap.size+1))) (.cells #[.slice A2 ds.length c2,.slice none 0 0] 57)).trans (HG3.out.trans hg4)) ⟨HRO.out,by obtain⟨z,hz⟩:=HO2.out.own;simp at hz;exact zao hz (by omega)⟩)
 have HW5:∃w5:World,w5=w4.setCell ⟨w2.heap.size,1,none⟩ (.slice A4 p1.length c4):=⟨_,rfl⟩
 obtain⟨w5,hw5⟩:=HW5
 have hb5:w5.heap[w2.heap.size]?=some (.cells #[.slice A2 ds.length c2,.slice A4 p1.length c4] 57 (0,0)):=by rw[hw5,heap_setCell_same w4 _ 1 _ _ _ hb4];rfl
 have hz5:w5.heap[w.heap.size]?=some (.cells #[.slice none 0 0,.slice none 0 0] 57 (0,0)):=by rw[hw5,Below.heap_setCell _ _ _ _ (by simp only;omega)];exact hz4
 have HR5:Hid (Rd8 L w.heap.size (w.heap.size+1) px py w5 r1):=aA (by rw[hw5];exact hr4.far _ _ _ (by omega))
 have HOD5:Hid (aU L w5 (w.heap.size+2) (.slice A2 ds.length c2) ds):=aA (by rw[hw5];have h:=HOD4.out.grown (aD (World.grownBy.refl w4 (some w2.heap.size)) 1 (.slice A4 p1.length c4)) ⟨zap hb4,by obtain⟨z,hz⟩:=HOD4.out.own;exact zac hz hb4 (fun cur e=>by injection e with _ e;exact absurd e (by decide))⟩;simpa using h)
 have HOP5:Hid (aT L w5 w3.heap.size (.slice A4 p1.length c4) p1):=aA (by rw[hw5];exact ho4.grown (aD (World.grownBy.refl w4 (some w2.heap.size)) 1 (.slice A4 p1.length c4)) ⟨zap hb4,by obtain⟨z,hz⟩:=ho4.own;exact zac hz hb4 (fun cur e=>by injection e with _ e;exact absurd e (by decide))⟩)
 have HBW:Hid (Below w.heap.size w w5):=aA (by
  rw[hw5]
  refine Below.setCell ?_ (p:=⟨w2.heap.size,1,none⟩) (by simp only;omega) _
  exact HB0.out.grown HGA.out (by simp;omega) (fun k e=>by injection e with e;omega))
 clear hg4 ho4 hr4
 go_wp2_with fail
 rw[←hw5]
 have HB5:=aA hb5
 have HZ5:=aA hz5
 have hpb5:w3.heap.size≤w5.heap.size:=by rw[hw5];simp;omega
 clear hw5 hb5 hz5 b0 b1 fb1 z0 z1 fz0 fz1 hb4 hz4 HO4 HOD4
 go_loopw [] (fun wt=>∃(f:Nat) (acc:List Y.Prd) (rest:List Tok) (A:Option Addr) (c:Nat),Hid (Y.more f acc rest=.ok ps [])∧acc.length+rest.length≤4000∧wt.heap[w2.heap.size]?=some (.cells #[.slice A2 ds.length c2,.slice A acc.length c] 57 (0,0))∧wt.heap[w.heap.size]?=some (.cells #[.slice none 0 0,.slice none 0 0] 57 (0,0))∧Rd8 L w.heap.size (w.heap.size+1) px py wt rest∧aU L wt (w.heap.size+2) (.slice A2 ds.length c2) ds∧aT L wt w3.heap.size (.slice A acc.length c) acc∧Below w.heap.size w wt∧w3.heap.size≤wt.heap.size) (fun wt=>zcu (w.heap.size+1) wt)
 case atStart=>exact⟨f1,p1,r1,A4,c4,HMO,HL1.out,HB5.out,HZ5.out,HR5.out,HOD5.out,HOP5.out,HBW.out,hpb5⟩
 case round =>
  clear HMO HL1 HB5 HZ5 HR5 HOD5 HOP5 HBW hpb5
  obtain⟨f,acc,rest,A,c,HM,hle,hsb,hzz,hrd,hod,hop,hbw,hpb⟩:=hrel
  obtain⟨Ax,cx,r0,r3,_⟩:=hrd.cell0
  have HSB:=aA hsb
  have HZZ:=aA hzz
  have HRD:=aA hrd
  have HOD:=aA hod
  have HOP:=aA hop
  have HBW:=aA hbw
  have HPB:=aA hpb
  have HLE:=aA hle
  have hsz:w.heap.size<wr.heap.size:=(Array.getElem?_eq_some_iff.1 hzz).1
  have hsbl:w2.heap.size<wr.heap.size:=(Array.getElem?_eq_some_iff.1 hsb).1
  rcases rest with _|⟨t,m1⟩
  ·have HFIN:Hid (acc=ps):=aA (by
    have h:=HM.out
    cases f with
    | zero=>injection h
    | succ f=>injection h)
   have p0:=cell_of_row wr _ 0 _ _ _ hsb
   have p1':=cell_of_row wr _ 1 _ _ _ hsb
   have y0:=cell_of_row wr _ 0 _ _ _ hzz
   have y1:=cell_of_row wr _ 1 _ _ _ hzz
   have gz0:=frozen_of_row wr _ 0 _ _ hzz
   have gz1:=frozen_of_row wr _ 1 _ _ hzz
   clear hsb hzz hrd hod hop hbw hpb hle HM
   go_wp2
   have hgf:=aD (aD (World.grownBy.refl wr (some w.heap.size)) 0 (.slice A2 ds.length c2)) 1 (.slice A acc.length c)
   refine bodyPost_ret (v:=.tuple #[.agg #[.slice A2 ds.length c2,.slice A acc.length c],.complex .f64 0 0,.int .i64 0]) (by simp[results,Try.results35,go_sem,y0,y1]) rfl ⟨_,_,rfl,?_,?_,?_⟩
   ·exact(HOD.out.grown hgf ⟨zap HZZ.out,by obtain⟨z,hz⟩:=HOD.out.own;exact zao hz (by omega)⟩).less5 (by omega)
   ·rw[←HFIN.out]
    exact(HOP.out.grown hgf ⟨zap HZZ.out,by obtain⟨z,hz⟩:=HOP.out.own;exact zao hz (by omega)⟩).less5 (by omega)
   ·exact HBW.out.grown hgf HBW.out.size (fun k e=>by injection e with e;omega)
  ·obtain⟨f,rfl⟩:∃f',f=f'+1:=by
    cases f with
    | zero=>have h:=HM.out;injection h with _ h;cases h
    | succ f=>exact⟨f,rfl⟩
   have hY:=HM.out
   rw[Y.more]at hY
   obtain⟨p2,r2,hgp,hmo2⟩:=Y.bind_eq_ok hY
   have HMO2:=aA hmo2
   have HGL2:=aA (Y.group_len hgp)
   have HKD:=aA (fun(x:World) (h:Rd8 L w.heap.size (w.heap.size+1) px py x (t::m1))=>zgm L w.heap.size (w.heap.size+1) px py (t::m1) x h)
   have HGR:=aA (fun(x:World) (h:Rd8 L w.heap.size (w.heap.size+1) px py x (t::m1))=>zf3 L w.heap.size (w.heap.size+1) px py (t::m1) p2 r2 x h hgp)
   rw[show kd (t::m1)=1 from Y.group_kind hgp]at HKD
   have hlen:0<((t::m1).length:Int):=by simp
   have HLN:Hid ((t::m1).length=m1.length+1):=aA rfl
   clear hY hgp hmo2 HM hsb hzz hrd hod hop hbw hpb hle
   have HRL:Hid ((t::m1).length=zcu (w.heap.size+1) wr):=aA HRD.out.dlen.symm
   generalize hrr:t::m1=rst at *
   clear hrr
   go_wp2_with fail
   refine(HKD.out _ HRD.out).mono ?_;rintro _ _ ⟨rfl,rfl⟩
   go_upto_region 6 with fail
   refine Calm.region_tree (fun _=>True) (.two [0,2] 1 (.one [] 3 (.one [] 4 (.one [5] 6 (.fin [])))) 3 (.one [] 1 (.one [] 4 (.one [5] 6 (.fin []))))) (by kernel_rfl) (by kernel_rfl) (fun _ _ d _ _ h=>by cases d <;> exact h) trivial ?_
   obtain⟨x2,hx2⟩:∃x,x=wr.drew:=⟨_,rfl⟩
   rw[←hx2]
   have hgd:wr.grownBy x2 .none:=by rw[hx2];exact aG _ _
   have hbx:Below w.heap.size w x2:=by rw[hx2];exact aB HBW.out 1
   have HSB2:=aA ((hgd.block w2.heap.size hsbl (by simp)).trans HSB.out)
   have HZZ2:=aA ((hgd.block w.heap.size hsz (by simp)).trans HZZ.out)
   have HRD2:=aA (HRD.out.row hgd)
   have HOD2:=aA (HOD.out.grown hgd (zf6.none _ _))
   have HOP2:=aA (HOP.out.grown hgd (zf6.none _ _))
   have HBW2:=aA hbx
   have HPB2:Hid (w3.heap.size≤x2.heap.size):=aA (Nat.le_trans HPB.out hgd.size)
   clear hx2 hgd hbx HSB HZZ HRD HOD HOP HBW HPB
   simp only[Calm.wpT,Calm.wpSt,Calm.pickOps,List.getElem?_toArray,List.getElem?_cons_zero,List.getElem?_cons_succ]
   repeat (go_big_quiet_step (fail))
   refine wpQuiet_nil ?_
   refine⟨?_,?_⟩
   ·intro KK hKK
    try rw[if_pos (by rfl)]
    have c1:=cell_of_row x2 _ 1 _ _ _ HSB2.out
    go_wp2_with fail
    clear c1
    refine hKK _ _ trivial (fun _=>True) (fun _ _=>trivial) trivial ?_
    repeat (go_big_quiet_step (fail))
    refine wpQuiet_nil ?_
    intro KK hKK
    try rw[if_pos (by rfl)]
    go_wp2_with fail
    refine(HGR.out _ HRD2.out).mono ?_;rintro _ x3 ⟨hg3,v3,rfl,ho3,hr3⟩
    have HSB3:=aA (zad hg3 HSB2.out (by omega))
    have HZZ3:=aA (zad hg3 HZZ2.out (by omega))
    have HRD3:=aA hr3
    have HOD3:=aA (HOD2.out.grown hg3 ⟨HRD2.out.other,by obtain⟨z,hz⟩:=HOD2.out.own;exact zao hz (by omega)⟩)
    have HOP3:=aA (HOP2.out.grown hg3 ⟨HRD2.out.other,by obtain⟨z,hz⟩:=HOP2.out.own;exact zao hz (by omega)⟩)
    have HBW3:=aA (HBW2.out.grown hg3 HBW2.out.size (fun k e=>by injection e with e;omega))
    have HPB3:=aA (Nat.le_trans HPB2.out hg3.size)
    have HO3:=aA (ho3.less5 HPB2.out)
    have hs23:x2.heap.size≤x3.heap.size:=hg3.size
    clear hg3 ho3 hr3
    go_wp2_with fail
    refine hKK _ _ trivial (fun _=>True) (fun _ _=>trivial) trivial ?_
    repeat (go_big_quiet_step (fail))
    refine wpQuiet_nil ?_
    intro KK hKK
    try rw[if_pos (by rfl)]
    refine zf5 (.tmp 40) (.tmp 42) _ rfl Try.underlying55 L w3.heap.size w3.heap.size _ v3 acc p2 rfl HOP3.out rfl HO3.out (Nat.le_refl _) (by have h1:=HLE.out;have h2:=HGL2.out;simp at h2;omega) HPB3.out ?_
    intro v4 x4 ho4 hg4
    obtain⟨zo,hown⟩:=HOP3.out.own
    have HSB4:=aA (zbp hown HSB3.out (by decide) hg4)
    have HZZ4:=aA (zbp hown HZZ3.out (by decide) hg4)
    have HRD4:=aA (HRD3.out.own hown hg4 (by omega))
    have HOD4:=aA (HOD3.out.grown hg4 ⟨zaq hown (by decide),by obtain⟨z,hz⟩:=HOD3.out.own;exact zcN hz hown (by decide)⟩)
    have HBW4:=aA (HBW3.out.grown hg4 HBW3.out.size (fun k e=>by have:=(World.ownsRow.lt hown k e).1;omega))
    have HPB4:=aA (Nat.le_trans HPB3.out hg4.size)
    have hs34:x3.heap.size≤x4.heap.size:=hg4.size
    have HO4:=aA ho4
    clear ho4 hg4 hown
    obtain⟨A4',c4',hv4,_,_⟩:=HO4.out.form
    rw[List.length_append]at hv4
    subst hv4
    go_wp2_with fail
    refine hKK _ _ trivial (fun _=>True) (fun _ _=>trivial) trivial ?_
    repeat (go_big_quiet_step (fail))
    refine wpQuiet_nil ?_
    intro KK hKK
    try rw[if_pos (by rfl)]
    have c1:=cell_of_row x4 _ 1 _ _ _ HSB4.out
    have f1':=frozen_of_row x4 _ 1 _ _ HSB4.out
    go_wp2_with fail
    refine hKK _ _ trivial (fun _=>True) (fun _ _=>trivial) trivial ?_
    refine wpQuiet_nil ?_
    go_wp2_with fail
    have hst:=aD (World.grownBy.refl x4 (some w2.heap.size)) 1 (.slice A4' (acc.length+p2.length) c4')
    have HRD5:=aA (HRD4.out.far w2.heap.size 1 (.slice A4' (acc.length+p2.length) c4') (by omega))
    go_roundw
    case rel =>
     refine⟨f,acc++p2,r2,A4',c4',HMO2,by have h1:=HLE.out;have h2:=HGL2.out;simp at h2 ⊢;omega,?_,?_,HRD5.out,?_,?_,?_,?_⟩
     ·rw[List.length_append,heap_setCell_same x4 _ 1 _ _ _ HSB4.out];rfl
     ·rw[Below.heap_setCell _ _ _ _ (by simp only;omega)];exact HZZ4.out
     ·exact HOD4.out.grown hst ⟨zap HSB4.out,by obtain⟨z,hz⟩:=HOD4.out.own;exact zac hz HSB4.out (fun cur e=>by injection e with _ e;exact absurd e (by decide))⟩
     ·rw[List.length_append];exact HO4.out.grown hst ⟨zap HSB4.out,by obtain⟨z,hz⟩:=HO4.out.own;exact zac hz HSB4.out (fun cur e=>by injection e with _ e;exact absurd e (by decide))⟩
     ·exact Below.setCell HBW4.out (p:=⟨w2.heap.size,1,none⟩) (by simp only;omega) _
     ·simpa using HPB4.out
    case measure =>
     rw[HRD5.out.dlen,←HRL.out]
     have h2:=HGL2.out
     have h3:=HLN.out
     simp at h2
     omega
   ·intro KK hKK
    try rw[if_pos (by rfl)]
    go_wp2_with fail
    refine(HGR.out _ HRD2.out).mono ?_;rintro _ x3 ⟨hg3,v3,rfl,ho3,hr3⟩
    have HSB3:=aA (zad hg3 HSB2.out (by omega))
    have HZZ3:=aA (zad hg3 HZZ2.out (by omega))
    have HRD3:=aA hr3
    have HOD3:=aA (HOD2.out.grown hg3 ⟨HRD2.out.other,by obtain⟨z,hz⟩:=HOD2.out.own;exact zao hz (by omega)⟩)
    have HOP3:=aA (HOP2.out.grown hg3 ⟨HRD2.out.other,by obtain⟨z,hz⟩:=HOP2.out.own;exact zao hz (by omega)⟩)
    have HBW3:=aA (HBW2.out.grown hg3 HBW2.out.size (fun k e=>by injection e with e;omega))
    have HPB3:=aA (Nat.le_trans HPB2.out hg3.size)
    have HO3:=aA (ho3.less5 HPB2.out)
    have hs23:x2.heap.size≤x3.heap.size:=hg3.size
    clear hg3 ho3 hr3
    go_wp2_with fail
    refine hKK _ _ trivial (fun _=>True) (fun _ _=>trivial) trivial ?_
    repeat (go_big_quiet_step (fail))
    refine wpQuiet_nil ?_
    intro KK hKK
    try rw[if_pos (by rfl)]
    have c1:=cell_of_row x3 _ 1 _ _ _ HSB3.out
    go_wp2_with fail
    clear c1
    refine hKK _ _ trivial (fun _=>True) (fun _ _=>trivial) trivial ?_
    repeat (go_big_quiet_step (fail))
    refine wpQuiet_nil ?_
    intro KK hKK
    try rw[if_pos (by rfl)]
    refine zf5 (.tmp 40) (.tmp 42) _ rfl Try.underlying55 L w3.heap.size w3.heap.size _ v3 acc p2 rfl HOP3.out rfl HO3.out (Nat.le_refl _) (by have h1:=HLE.out;have h2:=HGL2.out;simp at h2;omega) HPB3.out ?_
    intro v4 x4 ho4 hg4
    obtain⟨zo,hown⟩:=HOP3.out.own
    have HSB4:=aA (zbp hown HSB3.out (by decide) hg4)
    have HZZ4:=aA (zbp hown HZZ3.out (by decide) hg4)
    have HRD4:=aA (HRD3.out.own hown hg4 (by omega))
    have HOD4:=aA (HOD3.out.grown hg4 ⟨zaq hown (by decide),by obtain⟨z,hz⟩:=HOD3.out.own;exact zcN hz hown (by decide)⟩)
    have HBW4:=aA (HBW3.out.grown hg4 HBW3.out.size (fun k e=>by have:=(World.ownsRow.lt hown k e).1;omega))
    have HPB4:=aA (Nat.le_trans HPB3.out hg4.size)
    have hs34:x3.heap.size≤x4.heap.size:=hg4.size
    have HO4:=aA ho4
    clear ho4 hg4 hown
    obtain⟨A4',c4',hv4,_,_⟩:=HO4.out.form
    rw[List.length_append]at hv4
    subst hv4
    go_wp2_with fail
    refine hKK _ _ trivial (fun _=>True) (fun _ _=>trivial) trivial ?_
    repeat (go_big_quiet_step (fail))
    refine wpQuiet_nil ?_
    intro KK hKK
    try rw[if_pos (by rfl)]
    have c1:=cell_of_row x4 _ 1 _ _ _ HSB4.out
    have f1':=frozen_of_row x4 _ 1 _ _ HSB4.out
    go_wp2_with fail
    refine hKK _ _ trivial (fun _=>True) (fun _ _=>trivial) trivial ?_
    refine wpQuiet_nil ?_
    go_wp2_with fail
    have hst:=aD (World.grownBy.refl x4 (some w2.heap.size)) 1 (.slice A4' (acc.length+p2.length) c4')
    have HRD5:=aA (HRD4.out.far w2.heap.size 1 (.slice A4' (acc.length+p2.length) c4') (by omega))
    go_roundw
    case rel =>
     refine⟨f,acc++p2,r2,A4',c4',HMO2,by have h1:=HLE.out;have h2:=HGL2.out;simp at h2 ⊢;omega,?_,?_,HRD5.out,?_,?_,?_,?_⟩
     ·rw[List.length_append,heap_setCell_same x4 _ 1 _ _ _ HSB4.out];rfl
     ·rw[Below.heap_setCell _ _ _ _ (by simp only;omega)];exact HZZ4.out
     ·exact HOD4.out.grown hst ⟨zap HSB4.out,by obtain⟨z,hz⟩:=HOD4.out.own;exact zac hz HSB4.out (fun cur e=>by injection e with _ e;exact absurd e (by decide))⟩
     ·rw[List.length_append];exact HO4.out.grown hst ⟨zap HSB4.out,by obtain⟨z,hz⟩:=HO4.out.own;exact zac hz HSB4.out (fun cur e=>by injection e with _ e;exact absurd e (by decide))⟩
     ·exact Below.setCell HBW4.out (p:=⟨w2.heap.size,1,none⟩) (by simp only;omega) _
     ·simpa using HPB4.out
    case measure =>
     rw[HRD5.out.dlen,←HRL.out]
     have h2:=HGL2.out
     have h3:=HLN.out
     simp at h2
     omega
structure Sr9 (L:List Int) (xs:List Tok) (ds:List Y.Dcl) (ps:List Y.Prd) (G:Gm.Gr):Prop where
 b:K.Bytes L
 n:L.length≤2000
 t:zf7 L=.ok xs
 s:∃m t9 m2 p1 r1 f1,Y.decls (xs.length+1) [] xs=.ok ds m∧Y.take [9] m=.ok t9 m2∧Y.group [] m2=.ok p1 r1∧Y.more f1 p1 r1=.ok ps []
 z:Ez ds ps
 g:Gm.build ds ps=.ok G
theorem zgL (A:Option Addr) (c:Nat) (L:List Int) (xs:List Tok) (ds:List Y.Dcl) (ps:List Y.Prd) (G:Gm.Gr) (w:World) (hr:RdB w w.heap.size A L) (hc:L.length≤c) (hs:Sr9 L xs ds ps G) :
  Calls Try.prog 20 #[.slice A L.length c] w fun e w'=>∃dv pv,e=.returned (.tuple #[.agg #[dv,pv],.complex .f64 0 0,.int .i64 0])∧aU L w' w.heap.size dv ds∧aT L w' w.heap.size pv ps∧Below w.heap.size w w':=by
 have SC:=fun a w m X Y=>show(store a (.complex .f64 X Y) m).run Try.prog w=stored Try.prog w a (.complex .f64 X Y) m from run_store _ w a _ m rfl
 have HT:=aA (fun(w1:World) (h1:Below w.heap.size w w1)=>zeu A c L xs w1 (hr.up h1) hs.b hc hs.n hs.t)
 have HB0:=aA (fun o=>((Below.refl w.heap.size w).alloc (Nat.le_refl _) o))
 obtain⟨m,t9,m2,p1,r1,f1,s1,s2,s3,s4⟩:=hs.s
 have hxs:xs.length≤4000:=by have:=(zeg L hs.b xs hs.t).count;have:=hs.n;omega
 have HOF:=aA (fun(w1:World) (A':Option Addr) (c':Nat) (h1:RdT L w1 w1.heap.size A' xs) (h2:xs.length≤c')=>of8m L A' c' (Fl.fl (Pl.pos L).1) (Fl.fl (Pl.pos L).2) xs ds p1 ps f1 m m2 r1 t9 w1 h1 h2 hxs s1 hs.z.k s2 s3 s4)
 clear hr hc hs s1 s2 s3 s4
 go_enter Try.func20,Try.ntmps20
 go_wp2_with fail
 refine(HT.out _ (HB0.out _)).mono ?_;rintro _ w2 ⟨v,rfl,ho,hb⟩
 obtain⟨A',c',rfl,hxc,_,hrd⟩:=ho.rd
 have h2:w2.heap[w.heap.size]?=some (.cells #[.slice none 0 0,.slice none 0 0] 57 (0,0)):=(hb.block w.heap.size (by simp)).trans (heap_alloc_new w _)
 have HB2:=aA ((HB0.out (.cells #[.slice none 0 0,.slice none 0 0] 57)).trans (hb.mono (HB0.out _).size))
 have HO2:=aA (HOF.out w2 A' c' hrd hxc)
 clear ho hb HT HB0 HOF hrd hxc
 go_wp2_with fail
 refine HO2.out.mono ?_;rintro _ w3 ⟨dv,pv,rfl,hod,hop,hb3⟩
 have h3:=(hb3.block w.heap.size (Array.getElem?_eq_some_iff.1 h2).1).trans h2
 have c0:=cell_of_row w3 _ 0 _ _ _ h3
 have c1:=cell_of_row w3 _ 1 _ _ _ h3
 have f0:=frozen_of_row w3 _ 0 _ _ h3
 have f1:=frozen_of_row w3 _ 1 _ _ h3
 have HB3:=aA (HB2.out.trans (hb3.mono HB2.out.size))
 have HX:=aA (zbq h3 (by decide))
 obtain⟨DA,DC,rfl,_,_⟩:=hod.form
 obtain⟨PA',PC,rfl,_,_⟩:=hop.form
 have HWD:Hid (aU L ((w3.setCell ⟨w.heap.size,0,none⟩ (.slice DA ds.length DC)).setCell ⟨w.heap.size,1,none⟩ (.slice PA' ps.length PC)) w.heap.size (.slice DA ds.length DC) ds):=aA (by
  obtain⟨zs,hz⟩:=hod.own
  exact(hod.less HB2.out.size).grown (aD (aD (World.grownBy.refl _ _) _ _) _ _) ⟨HX.out,.inr (zdA hz h3 (by decide))⟩)
 have HWP:Hid (aT L ((w3.setCell ⟨w.heap.size,0,none⟩ (.slice DA ds.length DC)).setCell ⟨w.heap.size,1,none⟩ (.slice PA' ps.length PC)) w.heap.size (.slice PA' ps.length PC) ps):=aA (by
  obtain⟨zs,hz⟩:=hop.own
  exact(hop.less HB2.out.size).grown (aD (aD (World.grownBy.refl _ _) _ _) _ _) ⟨HX.out,.inr (zdA hz h3 (by decide))⟩)
 clear hod hop hb3 HO2 h2 h3
 go_wp2
 refine bodyPost_ret (v:=.tuple #[.agg #[.slice DA ds.length DC,.slice PA' ps.length PC],.complex .f64 0 0,.int .i64 0]) (by simp[results,Try.results20,go_sem,c0,c1]) rfl ?_
 exact⟨_,_,rfl,HWD.out,HWP.out,zaE (zaE HB3.out _ (Nat.le_refl _)) _ (Nat.le_refl _)⟩
theorem zg2 (A:Option Addr) (c:Nat) (L:List Int) (xs:List Tok) (ds:List Y.Dcl) (ps:List Y.Prd) (G:Gm.Gr) (w:World) (hr:RdB w w.heap.size A L) (hc:L.length≤c) (hs:Sr9 L xs ds ps G) :
  Calls Try.prog 8 #[.slice A L.length c] w fun e w'=>(∃g,e=.returned (.tuple #[g,.complex .f64 0 0,.int .i64 0])∧aS w' w'.heap.size g G∧Gm.Fit G)∧Below w.heap.size w w':=by
 have SC:=fun a w m X Y=>show(store a (.complex .f64 X Y) m).run Try.prog w=stored Try.prog w a (.complex .f64 X Y) m from run_store _ w a _ m rfl
 have hb1:Below w.heap.size w (w.alloc (.cells grC 26)):=(Below.refl w.heap.size w).alloc (Nat.le_refl _) _
 have HP:=aA (zgL A c L xs ds ps G _ (hr.up hb1) hc hs)
 have HB1:=aA hb1
 have HG1:=aA (heap_alloc_new w (.cells grC 26))
 have HBA:=aA (fun(x:World) (A1 A2:Option Addr) (c1 c2:Nat) (h1:zgB L x x.heap.size A1 ds) (h2:zgA L x x.heap.size A2 ps)=>zhe L ds ps A1 A2 c1 c2 G x h1 h2 hs.z hs.g)
 unfold grC at HP HB1
 clear hr hc hs hb1
 go_enter Try.func8,Try.ntmps8
 go_wp2_with fail
 refine HP.out.mono ?_;rintro _ w2 ⟨dv,pv,rfl,hod,hop,hb2⟩
 obtain⟨A1,c1,rfl,hrd⟩:=zeY hod
 obtain⟨A2,c2,rfl,hrp⟩:=zeG hop
 have hgb:=(hb2.block w.heap.size (by simp)).trans HG1.out
 have HGB:=aA hgb
 have HB2:=aA (HB1.out.trans (hb2.mono HB1.out.size))
 have hgz:=(Array.getElem?_eq_some_iff.1 hgb).1
 obtain⟨w3,hw3⟩:∃x,x=w2.alloc (.cells #[.slice A1 ds.length c1,.slice A2 ps.length c2] 57):=⟨_,rfl⟩
 have HB3:Hid (Below w.heap.size w w3):=aA (by rw[hw3];exact HB2.out.alloc HB2.out.size _)
 have hb23:Below w2.heap.size w2 w3:=by rw[hw3];exact(Below.refl _ _).alloc (Nat.le_refl _) _
 have HG3:Hid (w3.heap[w.heap.size]?=some (.cells grC 26 (0,0))):=aA ((hb23.block _ hgz).trans hgb)
 have hs3:w2.heap.size≤w3.heap.size:=hb23.size
 have HC:=aA (HBA.out w3 A1 A2 c1 c2 (fun hn=>by
   obtain⟨g,o,e,h1,h2⟩:=(hrd.keep hb23) hn
   refine⟨g,o,e,by omega,fun i hi=>?_⟩
   obtain⟨k1,A',c',k2,k3⟩:=h2 i hi
   exact⟨k1,A',c',k2,fun hn=>by obtain⟨g,o,e,q1,q2⟩:=k3 hn;exact⟨g,o,e,by omega,q2⟩⟩) (fun hn=>by
   obtain⟨g,o,e,h1,h2⟩:=(hrp.keep hb23) hn
   refine⟨g,o,e,by omega,fun i hi=>?_⟩
   obtain⟨k1,k2,⟨A',c',k3,k4⟩,k5⟩:=h2 i hi
   exact⟨k1,k2,⟨A',c',k3,fun hn=>by obtain⟨g,o,e,q1,q2⟩:=k4 hn;exact⟨g,o,e,by omega,q2⟩⟩,k5⟩))
 rw[hw3]at HC HB3 HG3
 clear hb2 hgb hod hop hrd hrp hw3 hb23 hs3 HBA
 go_wp2_with fail
 refine HC.out.mono ?_;rintro _ w4 ⟨⟨g,rfl,hgw,hfit⟩,hb4⟩
 have hgb:=(hb4.block w.heap.size (by simp;omega)).trans HG3.out
 have g0:w4.cell? ⟨w.heap.size,0,none⟩=some (.slice none 0 0):=cell_of_row w4 _ 0 _ _ _ hgb
 have g1:w4.cell? ⟨w.heap.size,1,none⟩=some (.slice none 0 0):=cell_of_row w4 _ 1 _ _ _ hgb
 have g2:w4.cell? ⟨w.heap.size,2,none⟩=some (.slice none 0 0):=cell_of_row w4 _ 2 _ _ _ hgb
 have g3:w4.cell? ⟨w.heap.size,3,none⟩=some (.int .i64 0):=cell_of_row w4 _ 3 _ _ _ hgb
 have f0:=frozen_of_row w4 _ 0 _ _ hgb
 have f1:=frozen_of_row w4 _ 1 _ _ hgb
 have f2:=frozen_of_row w4 _ 2 _ _ hgb
 have f3:=frozen_of_row w4 _ 3 _ _ hgb
 have hgz4:=(Array.getElem?_eq_some_iff.1 hgb).1
 have HB4:=aA (HB3.out.trans (hb4.mono HB3.out.size))
 obtain⟨B,N,R,cs,vT,vN,vR,rfl,h,hN⟩:=hgw
 obtain⟨⟨AT,cT,rfl⟩,⟨AN,cN,rfl⟩,⟨AR,cR,rfl⟩⟩:=zag h
 have HGR:=aA (fun u0 u1 u2 u3=>(h.more hN).grown (aD (aD (aD (aD (World.grownBy.refl w4 (some w.heap.size)) 0 u0) 1 u1) 2 u2) 3 u3) (⟨fun g e=>by injection e with e;subst e;exact⟨_,_,hgb,by decide,by decide,by decide,.inl ⟨by decide,by decide⟩⟩⟩))
 have HFI:=aA hfit
 clear hb4 hgb h hN hfit
 go_wp2
 refine bodyPost_ret (v:=.tuple #[.agg #[.slice AT G.ts.length cT,.slice AN G.ns.length cN,.slice AR G.rs.length cR,.int .i64 G.st],.complex .f64 0 0,.int .i64 0]) (by simp[results,Try.results8,go_sem,g0,g1,g2,g3]) rfl ?_
 exact⟨⟨_,rfl,(HGR.out _ _ _ _).rd (by simp) G.st,HFI.out⟩,zaE (zaE (zaE (zaE HB4.out _ (Nat.le_refl _)) _ (Nat.le_refl _)) _ (Nat.le_refl _)) _ (Nat.le_refl _)⟩
def txB (s:List Int):Bool:=(s.all fun z=>decide (0≤z)&&decide (z<256))&&decide (s.length≤100)
def zhm (x:Tok):Bool:=txB x.t&&Gm.named x.t && !(x.t==[101,114,114,111,114])
def dcB (d:Y.Dcl):Bool:=(d.k==4||d.k==5)&&(d.ns.all fun x=>txB x.t&&Gm.named x.t)&&decide (d.ns.length≤1000)
def pdB (p:Y.Prd):Bool:=txB p.l.t&&T.isName p.l.t&&(p.r.all zhm)&&(match p.p with|none=>true|some x=>zhm x)&&decide (p.r.length≤1000)
def ezB (ds:List Y.Dcl) (ps:List Y.Prd):Bool:=ds.all dcB&&ps.all pdB&&decide (ds.length≤1000)&&decide (ps.length≤1000)&&decide (0<ps.length)
theorem zee {s:List Int} (h:txB s=true):K.Tx s:=by
 unfold txB at h
 rw[Bool.and_eq_true,decide_eq_true_eq]at h
 exact⟨zan _ h.1,by omega⟩
theorem zeC {x:Tok} (h:zhm x=true):zhD x:=by
 unfold zhm at h
 simp only[Bool.and_eq_true]at h
 exact⟨zee h.1.1,h.1.2,by simpa using h.2⟩
theorem zg7 {ds:List Y.Dcl} {ps:List Y.Prd} (h:ezB ds ps=true):Ez ds ps:=by
 unfold ezB at h
 simp only[Bool.and_eq_true,decide_eq_true_eq,List.all_eq_true]at h
 obtain⟨⟨⟨⟨h1,h2⟩,h3⟩,h4⟩,h5⟩:=h
 refine⟨fun d hd=>?_,fun d hd=>?_,fun p hp=>?_,fun p hp=>?_,h3,h4,h5⟩
 ·have:=h1 d hd
  unfold dcB at this
  simp only[Bool.and_eq_true,Bool.or_eq_true,beq_iff_eq]at this
  exact this.1.1
 ·have:=h1 d hd
  unfold dcB at this
  simp only[Bool.and_eq_true,List.all_eq_true,decide_eq_true_eq]at this
  exact⟨fun x hx=>⟨zee (this.1.2 x hx).1,(this.1.2 x hx).2⟩,by omega⟩
 ·have:=h2 p hp
  unfold pdB at this
  simp only[Bool.and_eq_true]at this
  exact⟨zee this.1.1.1.1,this.1.1.1.2⟩
 ·have:=h2 p hp
  unfold pdB at this
  simp only[Bool.and_eq_true,List.all_eq_true,decide_eq_true_eq]at this
  refine⟨fun x hx=>zeC (this.1.1.2 x hx),fun x hx=>?_,this.2⟩
  have h6:=this.1.2
  rw[hx]at h6
  exact zeC h6
def gr9 (L:List Int):Option Gm.Gr :=
 match zf7 L with
 | .ok xs=>match Y.decls (xs.length+1) [] xs with
  | .ok ds m=>match Y.take [9] m with
   | .ok _ m2=>match Y.group [] m2 with
    | .ok p1 r1=>match Y.more (r1.length+1) p1 r1 with
     | .ok ps []=>match ezB ds ps,Gm.build ds ps with
      | true,.ok G=>some G
      | _,_=>none
     | _=>none
    | _=>none
   | _=>none
  | _=>none
 | _=>none
theorem zg4 {L:List Int} {G:Gm.Gr} (hb:(L.all fun z=>decide (0≤z)&&decide (z<256))=true) (hn:L.length≤2000) (h:gr9 L=some G):∃xs ds ps,Sr9 L xs ds ps G:=by
 unfold gr9 at h
 split at h
 ·rename_i xs h1
  split at h
  ·rename_i ds m h2
   split at h
   ·rename_i t9 m2 h3
    split at h
    ·rename_i p1 r1 h4
     split at h
     ·rename_i ps h7
      split at h
      ·rename_i h5 h6
       injection h with h
       subst h
       exact⟨xs,ds,ps,zan _ hb,hn,h1,⟨m,t9,m2,p1,r1,_,h2,h3,h4,h7⟩,zg7 h5,h6⟩
      ·cases h
     ·cases h
    ·cases h
   ·cases h
  ·cases h
 ·cases h
theorem zbM (L:List Int) (G:Gm.Gr) (hb:(L.all fun z=>decide (0≤z)&&decide (z<256))=true) (hl:L.length≤2000) (hg:gr9 L=some G) (w:World) (n:Nat) (hw:n=w.heap.size) :
  Calls Try.prog 8 #[.slice (some ⟨n,0,none⟩) L.length L.length] (w.alloc (za5 L)) fun e w'=>(∃g,e=.returned (.tuple #[g,.complex .f64 0 0,.int .i64 0])∧aS w' w'.heap.size g G∧Gm.Fit G)∧Below w.heap.size w w':=by
 subst hw
 obtain⟨xs,ds,ps,hs⟩:=zg4 hb hl hg
 obtain⟨r1,r2⟩:=litM w L
 exact(zg2 _ L.length L xs ds ps G _ r1 (Nat.le_refl _) hs).mono fun e w' h=>⟨h.1,r2.trans (h.2.mono r2.size)⟩
def zg8:List Int:=[37,37,32,115,32,58,32,115,32,39,97,39,32,124,32,116,32,59,32,116,32,58,32,39,98,39,32,59]
def aR:Gm.Gr:=⟨[⟨[39,97,39],0,0⟩,⟨[39,98,39],0,0⟩],[[115],[116]],[⟨0,[-1,0],0⟩,⟨0,[-2],-1⟩,⟨1,[1],1⟩],0⟩
def zeX:List Int:=[37,37,32,97,32,58,32,98,32,98,32,98,32,98,32,98,32,98,32,59,32,98,32,58,32,99,32,99,32,99,32,99,32,99,32,99,32,59,32,99,32,58,32,100,32,100,32,100,32,100,32,100,32,100,32,59,32,100,32,58,32,39,100,39,32,59]
def aJ:Gm.Gr:=⟨[⟨[39,100,39],0,0⟩],[[97],[98],[99],[100]],[⟨0,[-2,-2,-2,-2,-2,-2],-1⟩,⟨1,[-3,-3,-3,-3,-3,-3],-1⟩,⟨2,[-4,-4,-4,-4,-4,-4],-1⟩,⟨3,[0],0⟩],0⟩
theorem zhz:gr9 zg8=some aR:=by kernel_rfl
theorem zg3:gr9 zeX=some aJ:=by kernel_rfl
theorem zbA:Gm.right aR=true:=by decide +kernel
theorem zcl:Gm.right aJ=true:=by decide +kernel
theorem zgo:Gm.hts aR=[2,1]:=by decide +kernel
theorem zgZ:Gm.hts aJ=[4,3,2,1]:=by decide +kernel
theorem zhy:Gm.htI aR=[2,1]:=by unfold Gm.htI;rw[zgo];rfl
theorem zhf:Gm.best aR (Gm.hts aR)=[1,2]:=by rw[zgo];decide +kernel
theorem gn14 (j:Nat) (hj:j<2):Gm.Gn true aR.rs (j:Int):=by
 refine((Gm.hgt_hi (Gm.right_ok.1 zbA)).p j hj).1 ?_
 show 0<(Gm.hts aR).getD j 0
 rw[zgo]
 match j,hj with
 | 0,_=>decide
 | 1,_=>decide
theorem zg5 (j:Nat) (hj:j<4):Gm.Gn true aJ.rs (j:Int):=by
 refine((Gm.hgt_hi (Gm.right_ok.1 zcl)).p j hj).1 ?_
 show 0<(Gm.hts aJ).getD j 0
 rw[zgZ]
 match j,hj with
 | 0,_=>decide
 | 1,_=>decide
 | 2,_=>decide
 | 3,_=>decide
theorem zfT:Gm.ltree aR [-1]=[1,2]:=by decide +kernel
theorem zfS:Gm.lword aR [-1,0]=[1,0]:=by decide +kernel
theorem zgG:Gm.trE aR 0=0:=by
 unfold Gm.trE
 rw[if_pos ⟨zbA,by decide,by decide⟩,if_pos (Gm.tr_iff.2 (show Gm.Gn true aR.rs 0 from gn14 0 (by decide))),if_pos]
 rw[show(-1-(0:Int)) = -1 by rfl,zfT];decide
theorem zhq:Gm.trL aR 0=[1,2]:=by
 unfold Gm.trL
 rw[if_pos zgG,show(-1-(0:Int)) = -1 by rfl,zfT];rfl
theorem zgE:Gm.wdE aR [-1,0]=0:=by
 unfold Gm.wdE
 rw[if_pos ⟨zbA,by decide +kernel⟩,if_pos (Gm.tr_iff.2 ?_),if_pos]
 ·refine⟨?_,by rw[zfS];decide⟩
  decide +kernel
 ·intro z hz hn
  simp at hz
  rcases hz with rfl|rfl
  ·exact gn14 0 (by decide)
  ·omega
theorem zhp:Gm.wdL aR [-1,0]=[1,0]:=by
 unfold Gm.wdL
 rw[if_pos zgE,zfS]
theorem zgF:Gm.trE aJ 0=0:=by
 unfold Gm.trE
 rw[if_pos ⟨zcl,by decide,by decide⟩,if_pos (Gm.tr_iff.2 (show Gm.Gn true aJ.rs 0 from zg5 0 (by decide))),if_pos]
 decide +kernel
theorem zgD:Gm.wdE aJ [-2,-2]=13:=by
 unfold Gm.wdE
 rw[if_pos ⟨zcl,by decide +kernel⟩,if_pos (Gm.tr_iff.2 ?_),if_neg]
 ·rintro⟨_,h⟩
  exact absurd h (by decide +kernel)
 ·intro z hz hn
  simp at hz
  subst hz
  exact zg5 1 (by decide)
end Go.Proofs.Ytcgclkndkahgaaa
namespace Go.Proofs.Ytcgclkndkahgaaa
set_option maxRecDepth 100000
set_option maxHeartbeats 40000000
open Go.RowKit Go.ChangeShapes Go.WideShapes Go.ChangeAt
section
variable {α:Type} {m:Nat} {f:α→List Value}
theorem qlen (hf:∀x,(f x).length=m) (xs:List α):(xs.flatMap f).length=xs.length*m:=by
 induction xs with
 | nil=>simp
 | cons x r ih=>rw[List.flatMap_cons,List.length_append,ih,hf,List.length_cons,Nat.add_mul,Nat.one_mul,Nat.add_comm]
theorem qat (hf:∀x,(f x).length=m) (xs:List α) (i j:Nat) (hi:i<xs.length) (hj:j<m):(xs.flatMap f)[i*m+j]?=(f xs[i])[j]?:=by
 induction xs generalizing i with
 | nil=>simp at hi
 | cons x r ih =>
  rw[List.flatMap_cons]
  have hl:=hf x
  cases i with
  | zero=>rw[List.getElem?_append_left (by omega)];simp
  | succ i =>
   rw[Nat.add_mul,Nat.one_mul,List.getElem?_append_right (by omega),show i*m+m+j-(f x).length=i*m+j by omega]
   simpa using ih i (by simpa using hi)
theorem zhs (hf:∀x,(f x).length=2) (xs:List α) (i:Nat) (y:α) (a b:Value) (hy:f y=[a,b]):((xs.flatMap f).set (i*2) a).set (i*2+1) b=(xs.set i y).flatMap f:=by
 induction xs generalizing i with
 | nil=>simp
 | cons x r ih =>
  obtain⟨p,q,e⟩:∃p q,f x=[p,q]:=by
   have:=hf x
   match h:f x,this with
   | [p,q],_=>exact⟨p,q,rfl⟩
  rw[List.flatMap_cons,e]
  cases i with
  | zero=>simp[hy]
  | succ i =>
   rw[show(i+1)*2=i*2+1+1 by omega]
   simp only[List.cons_append,List.nil_append,List.set_cons_succ,List.flatMap_cons,e]
   rw[ih i]
def RdQ (m:Nat) (f:α→List Value) (w:World) (B:Nat) (A:Option Addr) (xs:List α):Prop :=
 xs.length≠0→∃g o,A=some ⟨g,o,none⟩∧g<B∧∀i (h:i<xs.length) j u,(f xs[i])[j]?=some u→w.cell? ⟨g,o+i*m+j,none⟩=some u
theorem RdQ.keep {w w':World} {B:Nat} {A:Option Addr} {xs:List α} (h:RdQ m f w B A xs) (hk:∀g o,g<B→w'.cell? ⟨g,o,none⟩=w.cell? ⟨g,o,none⟩):RdQ m f w' B A xs:=fun hn=>by
 obtain⟨g,o,e,hg,hc⟩:=h hn
 exact⟨g,o,e,hg,fun i hi j u hu=>(hk _ _ hg).trans (hc i hi j u hu)⟩
theorem RdQ.more {w:World} {B B':Nat} {A:Option Addr} {xs:List α} (h:RdQ m f w B A xs) (hB:B≤B'):RdQ m f w B' A xs:=fun hn=>by
 obtain⟨g,o,e,hg,hc⟩:=h hn
 exact⟨g,o,e,by omega,hc⟩
theorem RdQ.below {w w':World} {B B':Nat} {A:Option Addr} {xs:List α} (h:RdQ m f w B A xs) (hb:Below B' w w') (hB:B≤B'):RdQ m f w' B A xs :=
 h.keep fun g o hg=>hb.cell (p:=⟨g,o,none⟩) (Nat.lt_of_lt_of_le hg hB)
def UBQ (T:TypeId) (f:α→List Value) (w:World) (g:Nat) (xs:List α):Prop:=w.heap[g]?=some (.cells (xs.flatMap f).toArray T (0,0))
variable {T:TypeId}
theorem UBQ.lt {w:World} {g:Nat} {xs:List α} (h:UBQ T f w g xs):g<w.heap.size:=(Array.getElem?_eq_some_iff.1 h).1
theorem UBQ.cell {w:World} {g:Nat} {xs:List α} (h:UBQ T f w g xs) (hf:∀x,(f x).length=m) (i j:Nat) (hi:i<xs.length) (u:Value) (hu:(f xs[i])[j]?=some u):w.cell? ⟨g,i*m+j,none⟩=some u:=by
 have hj:j<m:=by rw[←hf xs[i]];exact(List.getElem?_eq_some_iff.1 hu).1
 rw[cell_of_row w g _ _ _ _ h]
 rw[List.getElem?_toArray,qat hf xs i j hi hj];exact hu
theorem UBQ.frozen {w:World} {g:Nat} {xs:List α} (h:UBQ T f w g xs) (i:Nat):w.frozen? ⟨g,i,none⟩=false:=frozen_of_row w g i _ _ h
theorem UBQ.below {w w':World} {g B:Nat} {xs:List α} (h:UBQ T f w g xs) (hb:Below B w w') (hg:g<B):UBQ T f w' g xs:=(hb.block g hg).trans h
theorem UBQ.drewN {w:World} {g:Nat} {xs:List α} (h:UBQ T f w g xs) (n:Nat):UBQ T f (w.drewN n) g xs:=h
theorem UBQ.far {w:World} {g:Nat} {xs:List α} (h:UBQ T f w g xs) {p:Addr} (hp:g≠p.block) (u:Value):UBQ T f (w.setCell p u) g xs:=(Below.heap_setCell w p u g hp).trans h
theorem UBQ.rd0 {w:World} {g:Nat} {xs:List α} (h:UBQ T f w g xs) (hf:∀x,(f x).length=m) {B:Nat} (hB:g<B):RdQ m f w B (some ⟨g,0,none⟩) xs:=fun _ =>
 ⟨g,0,rfl,hB,fun i hi j u hu=>by rw[Nat.zero_add];exact h.cell hf i j hi u hu⟩
theorem UBQ.set2 {w:World} {g:Nat} {xs:List α} (h:UBQ T f w g xs) (hf:∀x,(f x).length=2) (i:Nat) (y:α) (a b:Value) (hy:f y=[a,b]):UBQ T f ((w.setCell ⟨g,i*2,none⟩ a).setCell ⟨g,i*2+1,none⟩ b) g (xs.set i y):=by
 unfold UBQ at h ⊢
 rw[heap_setCell_same _ g _ _ _ _ (heap_setCell_same w g _ _ _ _ h)]
 congr 2
 apply Array.ext'
 rw[←zhs hf xs i y a b hy]
 simp
def aN (T:TypeId) (m:Nat) (f:α→List Value) (w:World) (base:Nat) (v:Value) (xs:List α):Prop:=w.ownsRow base T m v xs.length (xs.flatMap f)
theorem aN.nil (w:World) (base:Nat):aN T m f w base (.slice none 0 0) []:=World.ownsRow_nil w base _ _
theorem aN.mono {w:World} {base base':Nat} {v:Value} {xs:List α} (h:aN T m f w base v xs) (hb:base'≤base):aN T m f w base' v xs:=by
 refine⟨h.1,?_⟩
 rcases h.2 with h0|⟨g,cap,cur,e,hb1,hr⟩
 ·exact .inl h0
 ·exact .inr ⟨g,cap,cur,e,by omega,hr⟩
theorem aN.alloc {w:World} {base:Nat} {v:Value} {xs:List α} (h:aN T m f w base v xs) (o:Obj):aN T m f (w.alloc o) base v xs:=World.ownsRow.alloc h o
theorem aN.drewN {w:World} {base:Nat} {v:Value} {xs:List α} (h:aN T m f w base v xs) (n:Nat):aN T m f (w.drewN n) base v xs:=h
theorem aN.below {w w':World} {base B:Nat} {v:Value} {xs:List α} (h:aN T m f w base v xs) (hb:Below B w w') (hB:w.heap.size≤B):aN T m f w' base v xs:=by
 refine⟨h.1,?_⟩
 rcases h.2 with h0|⟨g,cap,cur,e,hb1,hg,hr⟩
 ·exact .inl h0
 ·exact .inr ⟨g,cap,cur,e,hb1,(hb.block g (Nat.lt_of_lt_of_le (Array.getElem?_eq_some_iff.1 hg).1 hB)).trans hg,hr⟩
theorem aN.form {w:World} {base:Nat} {v:Value} {xs:List α} (h:aN T m f w base v xs) (hf:∀x,(f x).length=m):∃A c,v=.slice A xs.length c∧xs.length≤c∧c≤maxLen∧RdQ m f w w.heap.size A xs:=by
 rcases h.2 with⟨rfl,h0⟩|⟨g,cap,cur,rfl,hb,hg,hn,hm,hs,ht⟩
 ·exact⟨none,0,by rw[h0],by omega,by unfold maxLen;omega,fun hc=>absurd h0 hc⟩
 ·refine⟨some ⟨g,0,none⟩,cap,rfl,hn,hm,fun _=>⟨g,0,rfl,(Array.getElem?_eq_some_iff.1 hg).1,fun i hi j u hu=>?_⟩⟩
  have hj:j<m:=by rw[←hf xs[i]];exact(List.getElem?_eq_some_iff.1 hu).1
  have hc:=World.ownsRow.cells h (g:=g) rfl (i*m+j) u (by rw[qat hf xs i j hi hj];exact hu)
  rw[Go.WideShapes.add_plain,Nat.zero_add]at hc
  rw[Nat.zero_add];exact hc
theorem aN.addr {w:World} {base:Nat} {v:Value} {xs:List α} (h:aN T m f w base v xs) (h0:xs.length≠0):∃g c,v=.slice (some ⟨g,0,none⟩) xs.length c∧xs.length≤c∧c≤maxLen∧base≤g:=by
 rcases h.2 with⟨_,h1⟩|⟨g,cap,cur,rfl,hb,hg,hn,hm,hs,ht⟩
 ·exact absurd h1 h0
 ·exact⟨g,cap,rfl,hn,hm,hb⟩
theorem aN.cellAt {w:World} {base g n c:Nat} {xs:List α} (h:aN T m f w base (.slice (some ⟨g,0,none⟩) n c) xs) (hf:∀x,(f x).length=m) (i j:Nat) (hi:i<xs.length) (u:Value) (hu:(f xs[i])[j]?=some u):w.cell? ⟨g,i*m+j,none⟩=some u:=by
 have hj:j<m:=by rw[←hf xs[i]];exact(List.getElem?_eq_some_iff.1 hu).1
 have hc:=World.ownsRow.cells h (g:=g) rfl (i*m+j) u (by rw[qat hf xs i j hi hj];exact hu)
 rw[Go.WideShapes.add_plain,Nat.zero_add]at hc
 exact hc
theorem aN.lt {w:World} {base g n c:Nat} {xs:List α} (h:aN T m f w base (.slice (some ⟨g,0,none⟩) n c) xs):g<w.heap.size:=by
 rcases h.2 with⟨e,_⟩|⟨g',_,_,e,_,hg,_⟩
 ·cases e
 ·injection e with e;injection e with e;injection e with e;subst e;exact(Array.getElem?_eq_some_iff.1 hg).1
theorem zbk {B:Nat} {a w w':World} {v:Value} {xs:List α} (h:Below B a w) (ho:aN T m f w B v xs) (hg:w.grownBy w' v.ownBlock) (hs:B≤w.heap.size):Below B a w' :=
 h.grown hg hs (fun k e=>(World.ownsRow.lt ho k e).1)
theorem zgx {w:World} {ops:Array Oper} {rest:List Oper} {o:Oper} {a:Act} {Q:Exit→Act→World→Prop}
  (hgd:o.guard=none) (s x:Operand) (t:TypeId) (ho:o.op=.call {callee:=.builtin .append,args:=#[s,x],argTypes:=#[t,t]}) (ht:Try.prog.underlying t=some (.slice T))
  (z:Value) (bytes:Nat) (hinfo:(Try.prog.info? T).map (fun i=>(i.zero,i.size,i.bytes))=some (some z,m,bytes)) (hzs:z.cells.size=m) (hm:0<m) (hby:bytes≤100) (hf:∀x,(f x).length=m) (h1:∀x,∀u∈f x,u.oneCell'=true)
  (base:Nat) (v:Value) (xs:List α) (hs:a.eval s=v) (hown:aN T m f w base v xs) (g c:Nat) (y:α) (hx:a.eval x=.slice (some ⟨g,0,none⟩) 1 c) (hz:∀j u,(f y)[j]?=some u→w.cell? ⟨g,j,none⟩=some u)
  (hlen:xs.length≤1000000) (hbase:base≤w.heap.size)
  (hK:∀v' w',aN T m f w' base v' (xs++[y])→w.grownBy w' v.ownBlock→wpList Try.prog ops Q rest (a.put o.dst v') w') :
  wpList Try.prog ops Q (o::rest) a w:=by
 obtain⟨i,hi,hz0,hz1,hz2⟩:=info_parts hinfo
 refine wpList_append_own w hgd s x t ho base T i z m bytes ht hi hz0 hz1 hz2 hzs hm v xs.length (xs.flatMap f) hs hown ⟨g,0,none⟩ 1 c (f y) hx (by rw[hf,Nat.one_mul]) ?_ (h1 y) (by unfold maxLen;omega) (by have:=Nat.mul_le_mul (show xs.length+1≤1000001 by omega) hby;omega) hbase fun v' w' h2 h3 _=>hK v' w' ?_ h3
 ·intro j u hj
  rw[Go.WideShapes.add_plain,Nat.zero_add]
  exact hz j u hj
 ·unfold aN
  rw[List.length_append,List.flatMap_append,List.flatMap_singleton];exact h2
theorem zfP {w:World} {ops:Array Oper} {rest:List Oper} {o:Oper} {a:Act} {Q:Exit→Act→World→Prop}
  (hgd:o.guard=none) (s x:Operand) (t:TypeId) (ho:o.op=.call {callee:=.builtin .append,args:=#[s,x],argTypes:=#[t,t]}) (ht:Try.prog.underlying t=some (.slice T))
  (z:Value) (bytes:Nat) (hinfo:(Try.prog.info? T).map (fun i=>(i.zero,i.size,i.bytes))=some (some z,m,bytes)) (hzs:z.cells.size=m) (hm:0<m) (hby:bytes≤100) (hf:∀x,(f x).length=m) (h1:∀x,∀u∈f x,u.oneCell'=true)
  (base:Nat) (v:Value) (xs:List α) (hs:a.eval s=v) (hown:aN T m f w base v xs) (B n c:Nat) (A:Option Addr) (ys:List α) (hx:a.eval x=.slice A n c) (hn:n=ys.length) (hr:RdQ m f w B A ys)
  (hlen:xs.length+ys.length≤1000000) (hbase:base≤w.heap.size)
  (hK:∀v' w',aN T m f w' base v' (xs++ys)→w.grownBy w' v.ownBlock→wpList Try.prog ops Q rest (a.put o.dst v') w') :
  wpList Try.prog ops Q (o::rest) a w:=by
 obtain⟨i,hi,hz0,hz1,hz2⟩:=info_parts hinfo
 subst hn
 rcases A with _|ad
 ·have hz:ys=[]:=by
   rcases Nat.eq_zero_or_pos ys.length with h0|h0
   ·exact List.eq_nil_of_length_eq_zero h0
   ·obtain⟨g,o',h,_⟩:=hr (by omega);cases h
  subst hz
  have hrun:=zai (P:=Try.prog) w base t o.type T i m ht hi v xs.length _ hown c
  refine wpList_plain hgd fun K hK'=>?_
  unfold Oper.wp
  simp[execOp,ho,resolve,invoke,builtin,hs,hx,hrun,Result.andThen]
  exact hK' _ _ (hK v w (by simpa using hown) (World.grownBy.refl _ _))
 ·refine wpList_append_own w hgd s x t ho base T i z m bytes ht hi hz0 hz1 hz2 hzs hm v xs.length (xs.flatMap f) hs hown ad ys.length c (ys.flatMap f) hx (qlen hf ys) ?_ ?_ (by unfold maxLen;omega) (by have:=Nat.mul_le_mul (show xs.length+ys.length≤1000000 by omega) hby;omega) hbase fun v' w' h2 h3 _=>hK v' w' ?_ h3
  ·intro j u hj
   have hjl:j<ys.length*m:=by rw[←qlen hf ys];exact(List.getElem?_eq_some_iff.1 hj).1
   have hd:j / m<ys.length:=by
    rcases Nat.lt_or_ge (j / m) ys.length with h|h
    ·exact h
    ·have:=Nat.mul_le_mul_right m h
     have:=Nat.div_mul_le_self j m
     omega
   obtain⟨g,o',h,_,hc⟩:=hr (fun e=>by rw[e]at hd;exact absurd hd (Nat.not_lt_zero _))
   replace h:=Option.some.inj h
   subst h
   have hj2:j=j / m*m+j % m:=by rw[Nat.mul_comm];exact(Nat.div_add_mod j m).symm
   have hj3:=hj
   rw[hj2,qat hf ys _ _ hd (Nat.mod_lt _ hm)]at hj3
   have:=hc _ hd _ _ hj3
   rw[Go.WideShapes.add_plain]
   rw[Nat.add_assoc,←hj2]at this
   exact this
  ·intro u hu
   obtain⟨y,_,hy⟩:=List.mem_flatMap.1 hu
   exact h1 y u hy
  ·unfold aN
   rw[List.length_append,List.flatMap_append];exact h2
theorem zc4 {w:World} {base g n:Nat} {xs:List α} (h:w.ownsRow base T m (.slice (some ⟨g,0,none⟩) n n) n (xs.flatMap f)):UBQ T f w g xs:=by
 rcases h.2 with⟨he,_⟩|⟨g',cap,cur,he,hb,hg,_,hm,hs,ht⟩
 ·cases he
 ·injection he with e1 e2 e3
  injection e1 with e1
  injection e1 with e1
  subst e1 e3
  unfold UBQ
  rw[hg,←ht,List.take_of_length_le (by simp[hs])]
theorem zeK (z:Value) (hz:z.cells.size=m) (hm:0<m) (n:Nat):(madeCells z.cells (n*m)).toList=(List.replicate n z).flatMap fun z=>z.cells.toList:=by
 refine List.ext_getElem? fun j=>?_
 have hl:∀x∈List.replicate n z,x=z:=fun x hx=>(List.mem_replicate.1 hx).2
 have hfl:((List.replicate n z).flatMap fun z=>z.cells.toList).length=n*m:=by
  rw[List.length_flatMap,List.map_replicate];simp[hz]
 rcases Nat.lt_or_ge j (n*m) with h|h
 ·have hd:j / m<n:=by
   rcases Nat.lt_or_ge (j / m) n with h1|h1
   ·exact h1
   ·have:=Nat.mul_le_mul_right m h1
    have:=Nat.div_mul_le_self j m
    omega
  have hj2:j=j / m*m+j % m:=by rw[Nat.mul_comm];exact(Nat.div_add_mod j m).symm
  have key:∀(k i r:Nat),i<k→r<m→((List.replicate k z).flatMap fun z=>z.cells.toList)[i*m+r]?=z.cells.toList[r]?:=by
   intro k
   induction k with
   | zero=>intro i r hi;omega
   | succ k ih =>
    intro i r hi hr
    rw[List.replicate_succ,List.flatMap_cons]
    have hlz:z.cells.toList.length=m:=by simpa using hz
    cases i with
    | zero=>rw[List.getElem?_append_left (by omega)];simp
    | succ i =>
     rw[Nat.add_mul,Nat.one_mul,List.getElem?_append_right (by omega),show i*m+m+r-z.cells.toList.length=i*m+r by omega]
     exact ih i r (by omega) hr
  have hr:=Nat.mod_lt j hm
  have e2:=key n (j / m) (j % m) hd hr
  rw[←hj2]at e2
  rw[e2]
  unfold madeCells
  simp[h,hz,hr]
 ·have e1:(madeCells z.cells (n*m)).toList.length≤j:=by rw[Array.length_toList,size_madeCells];exact h
  have e2:((List.replicate n z).flatMap fun z=>z.cells.toList).length≤j:=by rw[hfl];exact h
  rw[List.getElem?_eq_none e1,List.getElem?_eq_none e2]
theorem zgb (w:World) (t:TypeId) (ht:Try.prog.underlying t=some (.slice T)) (z:Value) (bytes:Nat) (hinfo:(Try.prog.info? T).map (fun i=>(i.zero,i.size,i.bytes))=some (some z,m,bytes)) (hzs:z.cells.size=m) (hm:0<m) (hby:bytes≤100) (y:α) (hy:f y=z.cells.toList) (n:Nat) (hn:n≤1000000) :
  ∃w',(Instr.makeSlice t (.int .i64 n) (.int .i64 n)).run Try.prog w=.ok (.slice (some ⟨w.heap.size,0,none⟩) n n) w'∧UBQ T f w' w.heap.size (List.replicate n y)∧Below w.heap.size w w':=by
 obtain⟨i,hi,hz0,hz1,hz2⟩:=info_parts hinfo
 obtain⟨w',hrun,hown,hgr⟩:=run_make_full (P:=Try.prog) w w.heap.size t T i z m ht hi hz0 hz1 .i64 .i64 n (by rw[hz2];have:=Nat.mul_le_mul hby hn;omega) (by unfold maxLen;omega) (Nat.le_refl _)
 refine⟨w',hrun,?_,⟨hgr.os,hgr.tape,hgr.output,hgr.size,fun k hk=>hgr.block k hk (by simp)⟩⟩
 refine zc4 (m:=m) (base:=w.heap.size) (n:=n) ?_
 rw[zeK z hzs hm n]at hown
 have e:(List.replicate n z).flatMap (fun z=>z.cells.toList)=(List.replicate n y).flatMap f:=by
  clear hown hrun
  induction n with
  | zero=>rfl
  | succ n ih=>rw[List.replicate_succ,List.replicate_succ,List.flatMap_cons,List.flatMap_cons,ih (by omega),hy]
 rw[e]at hown;exact hown
theorem zgM {w:World} {o:Oper} {a:Act} {K:Act→World→Prop} {Q:Exit→Act→World→Prop} (l c:Operand) (t:TypeId) (hop:o.op=Op.makeSlice t l c) (ht:Try.prog.underlying t=some (.slice T)) (z:Value) (bytes:Nat) (hinfo:(Try.prog.info? T).map (fun i=>(i.zero,i.size,i.bytes))=some (some z,m,bytes)) (hzs:z.cells.size=m) (hm:0<m) (hby:bytes≤100) (y:α) (hy:f y=z.cells.toList) (n:Nat) (hl:a.eval l=.int .i64 n) (hc:a.eval c=.int .i64 n) (hn:n≤1000000)
  (hK:∀w',UBQ T f w' w.heap.size (List.replicate n y)→Below w.heap.size w w'→K (a.put o.dst (.slice (some ⟨w.heap.size,0,none⟩) n n)) w'):Oper.wp Try.prog o a w K Q:=by
 obtain⟨w',hrun,h1,h2⟩:=zgb w t ht z bytes hinfo hzs hm hby y hy n hn
 unfold Oper.wp
 simp[execOp,hop,hl,hc,hrun,Result.andThen]
 exact hK w' h1 h2
end
end Go.Proofs.Ytcgclkndkahgaaa
namespace Go.Proofs.Ytcgclkndkahgaaa
set_option maxRecDepth 100000
set_option maxHeartbeats 40000000
open Go.RowKit Go.ChangeShapes Go.WideShapes Go.ChangeAt
theorem LB.gd_lt {l:List Bool} {k:Nat} (h:k<l.length):l.getD k false=l[k]:=by simp[List.getD,h]
def RdO (w:World) (B:Nat) (A:Option Addr) (zs:List Bool):Prop :=
 zs.length≠0→∃g o,A=some ⟨g,o,none⟩∧g<B∧∀j,j<zs.length→w.cell? ⟨g,o+j,none⟩=some (.bool (zs.getD j false))
theorem RdO.nil (w:World) (B:Nat) (A:Option Addr):RdO w B A []:=fun h=>absurd rfl h
theorem RdO.keep {w w':World} {B:Nat} {A:Option Addr} {zs:List Bool} (h:RdO w B A zs) (hk:∀g o,g<B→w'.cell? ⟨g,o,none⟩=w.cell? ⟨g,o,none⟩):RdO w' B A zs:=fun hn=>by
 obtain⟨g,o,e,hg,hc⟩:=h hn
 exact⟨g,o,e,hg,fun j hj=>(hk _ _ hg).trans (hc j hj)⟩
theorem RdO.more {w:World} {B B':Nat} {A:Option Addr} {zs:List Bool} (h:RdO w B A zs) (hB:B≤B'):RdO w B' A zs:=fun hn=>by
 obtain⟨g,o,e,hg,hc⟩:=h hn
 exact⟨g,o,e,by omega,hc⟩
theorem RdO.below {w w':World} {B B':Nat} {A:Option Addr} {zs:List Bool} (h:RdO w B A zs) (hb:Below B' w w') (hB:B≤B'):RdO w' B A zs :=
 h.keep fun g o hg=>hb.cell (p:=⟨g,o,none⟩) (Nat.lt_of_lt_of_le hg hB)
theorem RdO.up {w w':World} {A:Option Addr} {zs:List Bool} (h:RdO w w.heap.size A zs) (hb:Below w.heap.size w w'):RdO w' w'.heap.size A zs:=(h.below hb (Nat.le_refl _)).more hb.size
theorem RdO.drewN {w:World} {B:Nat} {A:Option Addr} {zs:List Bool} (h:RdO w B A zs) (n:Nat):RdO (w.drewN n) B A zs:=h
theorem RdO.drew {w:World} {B:Nat} {A:Option Addr} {zs:List Bool} (h:RdO w B A zs):RdO w.drew B A zs:=h
theorem RdO.alloc {w:World} {B:Nat} {A:Option Addr} {zs:List Bool} (h:RdO w B A zs) (hB:B≤w.heap.size) (o:Obj):RdO (w.alloc o) B A zs :=
 h.keep fun g i hg=>World.cell?_alloc_lt w o ⟨g,i,none⟩ (Nat.lt_of_lt_of_le hg hB)
theorem RdO.grown {w w':World} {B:Nat} {A:Option Addr} {zs:List Bool} {g:Nat} (h:RdO w B A zs) (hg:w.grownBy w' (some g)) (hB:B≤g) (hs:B≤w.heap.size):RdO w' B A zs :=
 h.keep fun p o hp=>World.cell?_of_block (hg.block p (by omega) (fun e=>by injection e with e;omega))
theorem RdO.take {w:World} {B:Nat} {A:Option Addr} {zs:List Bool} (h:RdO w B A zs) (k:Nat):RdO w B A (zs.take k):=fun hn=>by
 have hl:(zs.take k).length≤zs.length:=by rw[List.length_take];omega
 obtain⟨g,o,e,hg,hc⟩:=h (by omega)
 refine⟨g,o,e,hg,fun j hj=>?_⟩
 rw[hc j (by omega),LB.gd_lt hj,LB.gd_lt (by omega:j<zs.length),List.getElem_take]
theorem RdO.cell {w:World} {B:Nat} {zs:List Bool} {g o:Nat} (h:RdO w B (some ⟨g,o,none⟩) zs) (j:Nat) (hj:j<zs.length):w.cell? ⟨g,o+j,none⟩=some (.bool (zs.getD j false)):=by
 obtain⟨g',o',e,_,hc⟩:=h (by omega)
 injection e with e;injection e with e1 e2
 subst e1 e2
 exact hc j hj
def UBO (w:World) (g:Nat) (ls:List Bool):Prop:=w.heap[g]?=some (.cells (ls.map Value.bool).toArray 4 (0,0))
theorem UBO.lt {w:World} {g:Nat} {ls:List Bool} (h:UBO w g ls):g<w.heap.size:=by
 rcases Nat.lt_or_ge g w.heap.size with hlt|hge
 ·exact hlt
 ·unfold UBO at h;rw[Array.getElem?_eq_none hge]at h;cases h
theorem UBO.cell {w:World} {g:Nat} {ls:List Bool} (h:UBO w g ls) (i:Nat) (hi:i<ls.length):w.cell? ⟨g,i,none⟩=some (.bool (ls.getD i false)):=by
 rw[cell_of_row w g i _ _ _ h];simp[hi,List.getD]
theorem UBO.frozen {w:World} {g:Nat} {ls:List Bool} (h:UBO w g ls) (i:Nat):w.frozen? ⟨g,i,none⟩=false:=frozen_of_row w g i _ _ h
theorem UBO.drewN {w:World} {g:Nat} {ls:List Bool} (h:UBO w g ls) (n:Nat):UBO (w.drewN n) g ls:=h
theorem UBO.drew {w:World} {g:Nat} {ls:List Bool} (h:UBO w g ls):UBO w.drew g ls:=h
theorem UBO.alloc {w:World} {g:Nat} {ls:List Bool} (h:UBO w g ls) (o:Obj):UBO (w.alloc o) g ls:=(Below.heap_alloc w o g h.lt).trans h
theorem UBO.set_ {w:World} {g:Nat} {ls:List Bool} (h:UBO w g ls) (i:Nat) (z:Bool):UBO (w.setCell ⟨g,i,none⟩ (.bool z)) g (ls.set i z):=by
 unfold UBO at h ⊢
 rw[heap_setCell_same w g i _ _ _ h]
 congr 2
 apply Array.ext'
 simp[List.map_set]
theorem UBO.far {w:World} {g:Nat} {ls:List Bool} (h:UBO w g ls) {p:Addr} (hp:g≠p.block) (u:Value):UBO (w.setCell p u) g ls:=(Below.heap_setCell w p u g hp).trans h
theorem UBO.below {w w':World} {g B:Nat} {ls:List Bool} (h:UBO w g ls) (hb:Below B w w') (hg:g<B):UBO w' g ls:=(hb.block g hg).trans h
theorem UBO.grown {w w':World} {g:Nat} {ls:List Bool} {row:Option Nat} (h:UBO w g ls) (hb:w.grownBy w' row) (hg:some g≠row):UBO w' g ls:=(hb.block g h.lt hg).trans h
theorem UBO.rd {w:World} {g:Nat} {ls:List Bool} (h:UBO w g ls) (o n:Nat) (hn:o+n≤ls.length) {B:Nat} (hB:g<B):RdO w B (some ⟨g,o,none⟩) ((ls.drop o).take n):=fun _=>by
 refine⟨g,o,rfl,hB,fun j hj=>?_⟩
 have hj':j<n:=by rw[List.length_take]at hj;omega
 rw[h.cell (o+j) (by omega),LB.gd_lt hj,LB.gd_lt (by omega:o+j<ls.length),List.getElem_take,List.getElem_drop]
theorem UBO.rd0 {w:World} {g:Nat} {ls:List Bool} (h:UBO w g ls) {B:Nat} (hB:g<B):RdO w B (some ⟨g,0,none⟩) ls:=by
 have:=h.rd 0 ls.length (by omega) hB;simpa using this
theorem zgW:(Try.prog.info? 4).map (fun i=>(i.zero,i.size,i.bytes))=some (some (.bool false),1,1):=by kernel_rfl
theorem zbT (n:Nat):(List.replicate n false).map Value.bool=List.replicate n (.bool false):=by simp
def aV (w:World) (base:Nat) (v:Value) (xs:List Bool):Prop:=w.ownsRow base 4 1 v xs.length (xs.map Value.bool)
theorem aV.nil (w:World) (base:Nat):aV w base (.slice none 0 0) []:=World.ownsRow_nil w base _ _
theorem aV.alloc {w:World} {base:Nat} {v:Value} {xs:List Bool} (h:aV w base v xs) (o:Obj):aV (w.alloc o) base v xs:=World.ownsRow.alloc h o
theorem aV.drewN {w:World} {base:Nat} {v:Value} {xs:List Bool} (h:aV w base v xs) (n:Nat):aV (w.drewN n) base v xs:=h
theorem aV.below {w w':World} {base B:Nat} {v:Value} {xs:List Bool} (h:aV w base v xs) (hb:Below B w w') (hB:w.heap.size≤B):aV w' base v xs:=by
 refine⟨h.1,?_⟩
 rcases h.2 with h0|⟨g,cap,cur,e,hb1,hg,hr⟩
 ·exact .inl h0
 ·exact .inr ⟨g,cap,cur,e,hb1,(hb.block g (Nat.lt_of_lt_of_le (Array.getElem?_eq_some_iff.1 hg).1 hB)).trans hg,hr⟩
theorem aV.form {w:World} {base:Nat} {v:Value} {xs:List Bool} (h:aV w base v xs):∃A c,v=.slice A xs.length c∧xs.length≤c∧c≤maxLen∧RdO w w.heap.size A xs:=by
 rcases h.2 with⟨rfl,h0⟩|⟨g,cap,cur,rfl,hb,hg,hn,hm,hs,ht⟩
 ·exact⟨none,0,by rw[h0],by omega,by unfold maxLen;omega,fun hc=>absurd h0 hc⟩
 ·refine⟨some ⟨g,0,none⟩,cap,rfl,hn,hm,fun _=>⟨g,0,rfl,?_,fun j hj=>?_⟩⟩
  ·exact(Array.getElem?_eq_some_iff.1 hg).1
  ·have hc:=World.ownsRow.cells h (g:=g) rfl j (.bool (xs.getD j false)) (by simp[hj,List.getD])
   have e:((⟨g,0,none⟩:Addr).add j)=⟨g,0+j,none⟩:=by unfold Addr.add;by_cases h0:j=0 <;> simp[h0]
   rw[e]at hc;exact hc
theorem aV.mono {w:World} {base base':Nat} {v:Value} {xs:List Bool} (h:aV w base v xs) (hb:base'≤base):aV w base' v xs:=by
 refine⟨h.1,?_⟩
 rcases h.2 with h0|⟨g,cap,cur,e,hb1,hr⟩
 ·exact .inl h0
 ·exact .inr ⟨g,cap,cur,e,by omega,hr⟩
theorem aV.addr {w:World} {base:Nat} {v:Value} {xs:List Bool} (h:aV w base v xs) (h0:xs.length≠0):∃g c,v=.slice (some ⟨g,0,none⟩) xs.length c∧xs.length≤c∧c≤maxLen∧base≤g:=by
 rcases h.2 with⟨_,h1⟩|⟨g,cap,cur,rfl,hb,hg,hn,hm,hs,ht⟩
 ·exact absurd h1 h0
 ·exact⟨g,cap,rfl,hn,hm,hb⟩
theorem aV.cellAt {w:World} {base g n c:Nat} {xs:List Bool} (h:aV w base (.slice (some ⟨g,0,none⟩) n c) xs) (hn:n=xs.length) (j:Nat) (hj:j<xs.length):w.cell? ⟨g,j,none⟩=some (.bool (xs.getD j false)):=by
 subst hn
 rw[World.ownsRow.cellAt h j (by omega)]
 simp[hj,List.getD]
theorem aV.frozenAt {w:World} {base g n c:Nat} {xs:List Bool} (h:aV w base (.slice (some ⟨g,0,none⟩) n c) xs) (hn:n=xs.length) (j:Nat):w.frozen? ⟨g,j,none⟩=false:=by
 subst hn
 exact World.ownsRow.frozenAt h j
theorem aV.stored {w:World} {base g n c:Nat} {xs:List Bool} (h:aV w base (.slice (some ⟨g,0,none⟩) n c) xs) (hn:n=xs.length) (j:Nat) (z:Bool):aV (w.setCell ⟨g,j,none⟩ (.bool z)) base (.slice (some ⟨g,0,none⟩) n c) (xs.set j z):=by
 subst hn
 have:=(World.ownsRow.stored h j (.bool z)).1
 unfold aV
 rw[List.length_set,List.map_set];exact this
theorem zc5 {w:World} {base g n:Nat} {ls:List Bool} (h:w.ownsRow base 4 1 (.slice (some ⟨g,0,none⟩) n n) n (ls.map Value.bool)):UBO w g ls:=by
 rcases h.2 with⟨he,_⟩|⟨g',cap,cur,he,hb,hg,hn,hm,hs,ht⟩
 ·cases he
 ·injection he with e1 e2 e3
  injection e1 with e1
  injection e1 with e1
  subst e1 e3
  unfold UBO
  rw[hg,←ht,List.take_of_length_le (by simp[hs])]
theorem zgj {w:World} {ops:Array Oper} {rest:List Oper} {o:Oper} {a:Act} {Q:Exit→Act→World→Prop}
  (hg:o.guard=none) (l c:Operand) (t:TypeId) (hop:o.op=Op.makeSlice t l c) (ht:Try.prog.underlying t=some (.slice 4)) (n:Nat) (L C:Int) (hl:a.eval l=.int .i64 L) (hc:a.eval c=.int .i64 C) (hL:L=(n:Int)) (hC:C=(n:Int)) (hn:n≤35184372088832)
  (hK:∀w',UBO w' w.heap.size (List.replicate n false)→Below w.heap.size w w'→w.heap.size<w'.heap.size→wpList Try.prog ops Q rest (a.put o.dst (.slice (some ⟨w.heap.size,0,none⟩) n n)) w') :
  wpList Try.prog ops Q (o::rest) a w:=by
 obtain⟨i,hi,hz0,hz1,hz2⟩:=info_parts zgW
 refine wpList_make_full w hg l c t hop w.heap.size 4 i (.bool false) 1 ht hi hz0 hz1 .i64 .i64 L C n hl hc hL hC (by rw[hz2];omega) (by unfold maxLen;omega) (Nat.le_refl _) fun w' hown hgr=>?_
 have hub:UBO w' w.heap.size (List.replicate n false):=by
  refine zc5 (base:=w.heap.size) (n:=n) ?_
  rw[zbT]
  have e:(madeCells (Value.bool false).cells (n*1)).toList=List.replicate n (Value.bool false):=by
   rw[Nat.mul_one];exact toList_madeCells_one _ _
  rw[e]at hown;exact hown
 exact hK w' hub ⟨hgr.os,hgr.tape,hgr.output,hgr.size,fun k hk=>hgr.block k hk (by simp)⟩ hub.lt
theorem zfQ {w:World} {ops:Array Oper} {rest:List Oper} {o:Oper} {a:Act} {Q:Exit→Act→World→Prop}
  (hgd:o.guard=none) (s x:Operand) (t:TypeId) (ho:o.op=.call {callee:=.builtin .append,args:=#[s,x],argTypes:=#[t,t]}) (ht:Try.prog.underlying t=some (.slice 4))
  (base:Nat) (v:Value) (xs:List Bool) (hs:a.eval s=v) (hown:aV w base v xs) (B m c:Nat) (A:Option Addr) (zs:List Bool) (hx:a.eval x=.slice A m c) (hm:m=zs.length) (hr:RdO w B A zs)
  (hlen:xs.length+zs.length≤1000000000000) (hbase:base≤w.heap.size)
  (hK:∀v' w',aV w' base v' (xs++zs)→w.grownBy w' v.ownBlock→wpList Try.prog ops Q rest (a.put o.dst v') w') :
  wpList Try.prog ops Q (o::rest) a w:=by
 obtain⟨i,hi,hz0,hz1,hz2⟩:=info_parts zgW
 subst hm
 rcases A with _|ad
 ·have hz:zs=[]:=by
   rcases Nat.eq_zero_or_pos zs.length with h0|h0
   ·exact List.eq_nil_of_length_eq_zero h0
   ·obtain⟨g,o',h,_⟩:=hr (by omega);cases h
  subst hz
  have hrun:=zai (P:=Try.prog) w base t o.type 4 i 1 ht hi v xs.length _ hown c
  refine wpList_plain hgd fun K hK'=>?_
  unfold Oper.wp
  simp[execOp,ho,resolve,invoke,builtin,hs,hx,hrun,Result.andThen]
  exact hK' _ _ (hK v w (by simpa using hown) (World.grownBy.refl _ _))
 ·refine wpList_append_own w hgd s x t ho base 4 i (.bool false) 1 1 ht hi hz0 hz1 hz2 rfl (by decide) v xs.length (xs.map Value.bool) hs hown ad zs.length c (zs.map Value.bool) hx (by simp) ?_ ?_ (by unfold maxLen;omega) (by omega) hbase fun v' w' h1 h2 _=>hK v' w' ?_ h2
  ·intro j u hj
   have hjl:j<zs.length:=by have:=(List.getElem?_eq_some_iff.1 hj).1;simpa using this
   obtain⟨g,o',h,_,hc⟩:=hr (by omega)
   replace h:=Option.some.inj h
   subst h
   have e:((⟨g,o',none⟩:Addr).add j)=⟨g,o'+j,none⟩:=by unfold Addr.add;by_cases h0:j=0 <;> simp[h0]
   rw[e,hc j hjl]
   rw[List.getElem?_map,List.getElem?_eq_getElem hjl]at hj
   rw[LB.gd_lt hjl];simpa using hj
  ·intro u hu;obtain⟨z,_,rfl⟩:=List.mem_map.1 hu;rfl
  ·unfold aV
   rw[List.length_append,List.map_append];exact h1
theorem zb4 (w:World):aV (w.alloc (.cells #[] 4)) w.heap.size (.slice (some ⟨w.heap.size,0,none⟩) 0 0) []:=by
 have:=World.ownsRow_made (base:=w.heap.size) (e:=4) (size:=1) w #[] 0 (Nat.le_refl _) (by unfold maxLen;omega) rfl
 exact this
theorem zcZ {B:Nat} {a w w':World} {v:Value} {xs:List Bool} (h:Below B a w) (ho:aV w B v xs) (hg:w.grownBy w' v.ownBlock) (hs:B≤w.heap.size):Below B a w' :=
 h.grown hg hs (fun k e=>(World.ownsRow.lt ho k e).1)
def GotO (xs:List Bool) (w:World) (e:Ending) (w':World):Prop:=∃v,e=.returned v∧aV w' w.heap.size v xs∧Below w.heap.size w w'
end Go.Proofs.Ytcgclkndkahgaaa
namespace Go.Proofs.Ytcgclkndkahgaaa
set_option maxRecDepth 100000
set_option maxHeartbeats 40000000
open Go.RowKit
theorem zaC (z:Int) (w:World) :
  Calls Try.prog 33 #[.int .i64 z] w fun e w'=>e=.returned (.bool (decide (z<0)))∧w'=w:=by
 go_enter Try.func33,Try.ntmps33
 go_wp2
 go_ret
 exact⟨rfl,rfl⟩
theorem zaX (z:Int) (hz:-9223372036854775808≤z) (hz':z≤9223372036854775807) (w:World) :
  Calls Try.prog 22 #[.int .i64 z] w fun e w'=>e=.returned (.int .i64 (-1-z))∧w'=w:=by
 have hs:IntKind.i64.wrap (-1-z) = -1-z:=IntWalk.i64_in _ (by omega)
 clear hz hz'
 go_enter Try.func22,Try.ntmps22
 go_wp2
 go_ret
 exact⟨rfl,rfl⟩
def szc (s:Nat×Nat):List Value:=[.int .i64 (s.1:Int),.int .i64 (s.2:Int)]
theorem za7 (s:Nat×Nat):(szc s).length=2:=rfl
theorem zdH (a b c d:Nat) (w:World) (ha:a≤1000000) (hb:b≤1000000) (hc:c≤1000000) (hd:d≤1000000) :
  Calls Try.prog 31 #[.agg #[.int .i64 a,.int .i64 b],.agg #[.int .i64 c,.int .i64 d]] w fun e w'=>e=.returned (.agg #[.int .i64 ((min (a+c) 301:Nat):Int),.int .i64 ((min (b+d) 61:Nat):Int)])∧Below w.heap.size w w':=by
 obtain⟨s,hs⟩:∃s:Nat,s=a+c:=⟨_,rfl⟩
 obtain⟨t,ht⟩:∃t:Nat,t=b+d:=⟨_,rfl⟩
 have hw1:IntKind.i64.wrap ((a:Int)+(c:Int))=(s:Int):=by rw[IntWalk.i64_in _ (by omega)];omega
 have hw2:IntKind.i64.wrap ((b:Int)+(d:Int))=(t:Int):=by rw[IntWalk.i64_in _ (by omega)];omega
 have hm1:min (s:Int) 301=((min s 301:Nat):Int):=by omega
 have hm2:min (t:Int) 61=((min t 61:Nat):Int):=by omega
 rw[←hs,←ht]
 clear hs ht ha hb hc hd
 generalize min s 301=m at *
 generalize min t 61=n at *
 have HB0:=aA (fun(o1 o2 o3:Obj)=>(((Below.refl w.heap.size w).alloc (Nat.le_refl _) o1).alloc (by simp) o2).alloc (by simp;omega) o3)
 go_enter Try.func31,Try.ntmps31
 have HRS:=aA (fun(w:World)=>show w.heap.size+1+1=((w.alloc (.cells #[.int .i64 a,.int .i64 b] 51)).alloc (.cells #[.int .i64 c,.int .i64 d] 51)).heap.size by simp)
 go_wp2
 have hb:=heap_alloc_new ((w.alloc (.cells #[.int .i64 a,.int .i64 b] 51)).alloc (.cells #[.int .i64 c,.int .i64 d] 51)) (.cells #[.int .i64 m,.int .i64 n] 51)
 rw[←HRS.out]at hb
 have g0:=cell_of_row _ _ 0 _ _ _ hb
 have g1:=cell_of_row _ _ 1 _ _ _ hb
 refine bodyPost_ret (v:=.agg #[.int .i64 m,.int .i64 n]) (by simp[results,Try.results31,go_sem,g0,g1]) rfl ?_
 exact⟨rfl,HB0.out _ _ _⟩
theorem zdg (z:Int) (kn:List Bool) (p:Nat) (A:Option Addr) (c B:Nat) (w:World) (hz:Gm.In z) (hs:z<0→-1-z<(kn.length:Int)) (hc:w.cell? ⟨p,0,none⟩=some (.slice A kn.length c)) (hr:RdO w B A kn) :
  Calls Try.prog 88 #[.int .i64 z,.pointer (some ⟨p,0,none⟩)] w fun e w'=>e=.returned (.bool (!Gm.ps true kn z))∧∃q,w'=w.drewN q:=by
 unfold Gm.In at hz
 have HI:=aA (fun w=>zaC z w)
 have HX:=aA (fun w=>zaX z hz.1 hz.2 w)
 by_cases h0:z<0
 ·obtain⟨m,he,hps⟩:=Gm.ps_non (tm:=true) (is:=kn) h0
  have hm:=hs h0
  rw[he]at HX hm
  have hm2:m<kn.length:=by omega
  obtain⟨g,o,rfl,hgb,hcc⟩:=hr (by omega)
  have k0:=hcc m hm2
  rw[hps]
  rw[decide_eq_true h0]at HI
  generalize kn.getD m false=b at *
  clear hz hs hr hcc h0 he hps
  go_enter Try.func88,Try.ntmps88
  go_wp2_with fail
  go_quiet (first|(go_at_call 22;exact Calls.quiet_of_same (HX.out _))|(go_at_call 33;exact Calls.quiet_of_same (HI.out _)))
  go_wp2
  go_ret
  exact⟨rfl,_,rfl⟩
 ·rw[Gm.ps_term h0]
  rw[decide_eq_false h0]at HI
  clear hz hs hr h0 HX
  go_enter Try.func88,Try.ntmps88
  go_wp2_with fail
  go_quiet ((go_at_call 33;exact Calls.quiet_of_same (HI.out _)))
  go_wp2
  go_ret
  exact⟨rfl,_,rfl⟩
theorem Gm.any_ps (kn:List Bool) (r:List Int):r.any (fun z=>!Gm.ps true kn z) = !Gm.allB true kn r:=by
 rw[Gm.allB_ps,List.all_eq_not_any_not,Bool.not_not]
theorem zc0 (l:List Int) (kn:List Bool) (A A2:Option Addr) (c c2 B:Nat) (w:World) (hr:RdI w B A l) (h2:RdO w B A2 kn) (hB:B≤w.heap.size) (hin:∀z∈l,Gm.In z) (hs:∀z∈l,z<0→-1-z<(kn.length:Int)) (hl:l.length≤1000000) :
  Calls Try.prog 67 #[.slice A l.length c,.slice A2 kn.length c2] w fun e w'=>e=.returned (.bool (Gm.allB true kn l))∧Below w.heap.size w w':=by
 obtain⟨w1,hw1⟩:∃y,y=w.alloc (.cells #[.slice A2 kn.length c2] 99):=⟨_,rfl⟩
 have hb1:Below w.heap.size w w1:=by rw[hw1];exact(Below.refl _ _).alloc (Nat.le_refl _) _
 have hc1:w1.cell? ⟨w.heap.size,0,none⟩=some (.slice A2 kn.length c2):=by rw[hw1];exact World.cell?_alloc_new _ _ _ 0
 have hz1:w1.heap.size=w.heap.size+1:=by rw[hw1];simp
 have H:=aA (zcW 88 (.pointer (some ⟨w.heap.size,0,none⟩)) (zct Try.func88 (by kernel_rfl) (by kernel_rfl)) l (fun z=>!Gm.ps true kn z) A c B w1 (hr.below hb1 hB) (Nat.le_trans hB hb1.size) (by omega)
  (fun y z hy hz=>(zdg z kn w.heap.size A2 c2 B y (hin z hz) (hs z hz) ((hy.cell (p:=⟨w.heap.size,0,none⟩) (by simp[hz1])).trans hc1) (h2.below (hb1.trans (hy.mono (by omega))) hB)).mono fun e w' h=>⟨h.1,by obtain⟨q,rfl⟩:=h.2;exact aB (Below.refl _ _) q⟩))
 rw[Gm.any_ps]at H
 have HB1:=aA hb1
 have hmf:∀(fn:Fn) (first cap:Array Value) (w:World),(Instr.makeFunc fn first cap).run Try.prog w=.ok (.func fn first cap) w:=fun _ _ _ _=>rfl
 clear hr h2 hB hin hs hl hb1 hc1 hz1
 go_enter Try.func67,Try.ntmps67
 go_upto_region 1 with fail
 rw[←hw1]
 clear hw1
 go_wp2_with fail
 refine H.out.mono ?_;rintro _ w2 ⟨rfl,hb⟩
 have HB2:=aA (HB1.out.trans (hb.mono HB1.out.size))
 clear hb
 go_wp2
 go_ret
 exact⟨by simp,HB2.out⟩
def Gm.neH (H:List Int) (z:Int):Bool:=decide (z<0)&&H.getD (-1-z).toNat 0==0
theorem zb8 (z:Int) (H:List Int) (AR:Option Addr) (nR cR gH gL gS n:Nat) (w:World) (hz:Gm.In z) (hs:z<0→-1-z<(H.length:Int)) (hn:n=H.length) (hH:UBI w gH H) :
  Calls Try.prog 17 #[.agg #[.slice AR nR cR,.slice (some ⟨gH,0,none⟩) n n,.slice (some ⟨gL,0,none⟩) n n,.slice (some ⟨gS,0,none⟩) n n],.int .i64 z] w fun e w'=>e=.returned (.bool (Gm.neH H z))∧Below w.heap.size w w':=by
 unfold Gm.In at hz
 obtain⟨w1,hw1⟩:∃y,y=w.alloc (.cells #[.slice AR nR cR,.slice (some ⟨gH,0,none⟩) n n,.slice (some ⟨gL,0,none⟩) n n,.slice (some ⟨gS,0,none⟩) n n] 48):=⟨_,rfl⟩
 have hb1:Below w.heap.size w w1:=by rw[hw1];exact(Below.refl _ _).alloc (Nat.le_refl _) _
 have hbx:w1.heap[w.heap.size]?=some (.cells #[.slice AR nR cR,.slice (some ⟨gH,0,none⟩) n n,.slice (some ⟨gL,0,none⟩) n n,.slice (some ⟨gS,0,none⟩) n n] 48 (0,0)):=by rw[hw1];exact heap_alloc_new w _
 have q1:=cell_of_row w1 _ 1 _ _ _ hbx
 have lb:w.heap.size<w1.heap.size:=(Array.getElem?_eq_some_iff.1 hbx).1
 have HI:=aA (fun w=>zaC z w)
 have HX:=aA (fun w=>zaX z hz.1 hz.2 w)
 have HB1:=aA hb1
 by_cases h0:z<0
 ·have hm:=hs h0
  obtain⟨m,he⟩:∃m:Nat,-1-z=(m:Int):=⟨(-1-z).toNat,by omega⟩
  rw[he]at HX hm
  have hm2:(m:Int)<(n:Int):=by omega
  have k0:=(hb1.cell (p:=⟨gH,m,none⟩) hH.lt).trans (hH.cell m (by omega))
  have lh:gH<w1.heap.size:=Nat.lt_of_lt_of_le hH.lt hb1.size
  have hbg:Gm.neH H z=(H.getD m 0==0):=by unfold Gm.neH;rw[decide_eq_true h0,he];simp
  rw[hbg]
  rw[decide_eq_true h0]at HI
  generalize H.getD m 0=x at *
  clear hz hs h0 he hbg hm hn hH hbx hb1
  go_enter Try.func17,Try.ntmps17
  go_upto_region 1 with fail
  rw[←hw1]
  clear hw1
  go_quiet (first|(go_at_call 22;exact Calls.quiet_of_same (HX.out _))|(go_at_call 33;exact Calls.quiet_of_same (HI.out _)))
  go_wp2
  go_ret
  exact⟨rfl,aB HB1.out _⟩
 ·have hbg:Gm.neH H z=false:=by unfold Gm.neH;rw[decide_eq_false h0,Bool.false_and]
  rw[hbg]
  rw[decide_eq_false h0]at HI
  clear hz hs h0 HX hbg hn hH hbx hb1
  go_enter Try.func17,Try.ntmps17
  go_upto_region 1 with fail
  rw[←hw1]
  clear hw1
  go_quiet ((go_at_call 33;exact Calls.quiet_of_same (HI.out _)))
  go_wp2
  go_ret
  exact⟨rfl,aB HB1.out _⟩
theorem zbb (rs:List Gm.Rl) (L:List Int) (AR:Option Addr) (nR cR gH gL gS n B j i:Nat) (w:World) (hj:j<L.length) (hi:i<rs.length) (hji:L.getD j 0=(i:Int)) (hn:n=L.length) (hm:nR=rs.length) (hL:UBI w gL L) (hR:zc1 w B AR rs) (hB:B≤w.heap.size) :
  Calls Try.prog 32 #[.agg #[.slice AR nR cR,.slice (some ⟨gH,0,none⟩) n n,.slice (some ⟨gL,0,none⟩) n n,.slice (some ⟨gS,0,none⟩) n n],.int .i64 (j:Int)] w fun e w'=>(∃A c,e=.returned (.slice A rs[i].r.length c)∧rs[i].r.length≤c∧RdI w B A rs[i].r)∧Below w.heap.size w w':=by
 obtain⟨w1,hw1⟩:∃y,y=w.alloc (.cells #[.slice AR nR cR,.slice (some ⟨gH,0,none⟩) n n,.slice (some ⟨gL,0,none⟩) n n,.slice (some ⟨gS,0,none⟩) n n] 48):=⟨_,rfl⟩
 have hb1:Below w.heap.size w w1:=by rw[hw1];exact(Below.refl _ _).alloc (Nat.le_refl _) _
 have hbx:w1.heap[w.heap.size]?=some (.cells #[.slice AR nR cR,.slice (some ⟨gH,0,none⟩) n n,.slice (some ⟨gL,0,none⟩) n n,.slice (some ⟨gS,0,none⟩) n n] 48 (0,0)):=by rw[hw1];exact heap_alloc_new w _
 have q0:=cell_of_row w1 _ 0 _ _ _ hbx
 have q2:=cell_of_row w1 _ 2 _ _ _ hbx
 have lb:w.heap.size<w1.heap.size:=(Array.getElem?_eq_some_iff.1 hbx).1
 have k0:=(hb1.cell (p:=⟨gL,j,none⟩) hL.lt).trans (hL.cell j hj)
 rw[hji]at k0
 have lh:gL<w1.heap.size:=Nat.lt_of_lt_of_le hL.lt hb1.size
 obtain⟨g,o,rfl,hgB,hc⟩:=hR (by omega)
 obtain⟨u1,⟨A',c',k1,hlc,u2,hri⟩,u3⟩:=hc i hi
 replace k1:=(hb1.cell (p:=⟨g,o+i*3+1,none⟩) (Nat.lt_of_lt_of_le hgB hB)).trans k1
 have hjn:(j:Int)<(n:Int):=by omega
 have hin:(i:Int)<(nR:Int):=by omega
 have HB1:=aA hb1
 have HX:=aA (And.intro hlc hri)
 obtain⟨r,hr⟩:∃r,r=rs[i].r:=⟨_,rfl⟩
 rw[←hr]at HX k1 ⊢
 clear hr
 clear u1 u2 u3 hc
 clear hj hi hji hn hm hL hR hB hbx hb1 hgB hlc hri
 go_enter Try.func32,Try.ntmps32
 go_upto_region 1 with fail
 rw[←hw1]
 clear hw1
 go_quiet (fail)
 go_wp2
 go_ret
 exact⟨⟨_,_,rfl,HX.out⟩,aB HB1.out _⟩
def plc (q:Gm.Pl):List Value:=[.int .i64 (q.n:Int),.int .i64 (q.h:Int),.int .i64 (q.i:Int)]
theorem zas (q:Gm.Pl):(plc q).length=3:=rfl
theorem zeF (q:Gm.Pl):∀u∈plc q,u.oneCell'=true:=fun u hu=>by simp[plc]at hu;rcases hu with rfl|rfl|rfl <;> rfl
theorem zf0:(Try.prog.info? 68).map (fun i=>(i.zero,i.size,i.bytes))=some (some (.agg #[.int .i64 0,.int .i64 0,.int .i64 0]),3,24):=by kernel_rfl
abbrev zc2 (w:World) (base:Nat) (v:Value) (l:List Gm.Pl):Prop:=aN 68 3 plc w base v l
theorem zd9 (A:Option Addr) (c B:Nat) (zs:List Bool) (w:World) (hr:RdO w B A zs) (hl:zs.length≤1000000000) (hB:B≤w.heap.size) :
  Calls Try.prog 66 #[.slice A zs.length c] w (GotO zs w):=by
 have hr1:=aA (hr.alloc hB (.cells #[] 4))
 have HL:=aA hl
 have heq:=fun W=>Lib.run_eql_slice_nil (P:=Try.prog) W 99 4 A zs.length c 0 0 Try.underlying99
 rcases A with _|ad
 ·have hz:zs=[]:=by
   rcases Nat.eq_zero_or_pos zs.length with h0|h0
   ·exact List.eq_nil_of_length_eq_zero h0
   ·obtain⟨g,o',h,_⟩:=hr (by omega);cases h
  subst hz
  have heq':=fun W=>Lib.run_eql_slice_nil (P:=Try.prog) W 99 4 none 0 c 0 0 Try.underlying99
  clear hr heq hl
  go_enter Try.func66,Try.ntmps66
  go_wp2
  go_ret
  exact⟨_,rfl,aV.nil _ _,Below.refl _ _⟩
 ·clear hr hl
  go_enter Try.func66,Try.ntmps66
  go_wp2_with (at_builtin;refine zfQ rfl (.tmp 5) (.tmp 6) _ rfl Try.underlying99 w.heap.size _ [] rfl (zb4 w) B zs.length c (some ad) zs rfl rfl hr1.out (by have:=HL.out;simp;omega) (by simp) ?_;intro v' w' h1 h2)
  go_ret
  exact⟨_,rfl,h1,zcZ ((Below.refl _ _).alloc (Nat.le_refl _) _) (zb4 w) h2 (by simp)⟩
theorem zc1.blw {w w':World} {B B':Nat} {A:Option Addr} {rs:List Gm.Rl} (h:zc1 w B A rs) (hb:Below B' w w') (hB:B≤B'):zc1 w' B A rs :=
 h.keep fun g o hg=>hb.cell (p:=⟨g,o,none⟩) (Nat.lt_of_lt_of_le hg hB)
def zhF (rs:List Gm.Rl) (kn:List Bool) (h:Nat) (w:World) (e:Ending) (w':World):Prop:=∃v l pd,e=.returned v∧zc2 w' w.heap.size v l∧Gm.Nx rs kn h rs.length pd l∧Below w.heap.size w w'
theorem zcn (rs:List Gm.Rl) (kn:List Bool) (h:Nat) (AR A2:Option Addr) (cR c2 B:Nat) (w:World) (hR:zc1 w B AR rs) (h2:RdO w B A2 kn) (hB:B≤w.heap.size) (hl:Gm.Lin kn.length rs) (hs:∀x∈rs,Gm.Sin kn.length x.r) (hin:∀x∈rs,∀z∈x.r,Gm.In z) (hrl:∀x∈rs,x.r.length≤1000000) (h0:kn.length≠0) (hk:kn.length≤1000000) (hn:rs.length≤1000000) :
  Calls Try.prog 46 #[.slice AR rs.length cR,.slice A2 kn.length c2,.int .i64 (h:Int)] w (zhF rs kn h w):=by
 have HCL:=aA (zd9 A2 c2 B kn w h2 (by omega) hB)
 have HAK:=aA (fun(y:World) (hy:Below w.heap.size w y) (x:Gm.Rl) (hx:x∈rs) (A':Option Addr) (c':Nat) (hr:RdI w B A' x.r)=>zc0 x.r kn A' A2 c' c2 B y (hr.below hy hB) (h2.below hy hB) (Nat.le_trans hB hy.size) (hin x hx) (fun z hz hn=>hs x hx z hz hn) (hrl x hx))
 have HRl:=aA hR
 have HB:=aA hB
 have HLI:=aA hl
 have H0:=aA h0
 have HKL:=aA hk
 have HNL:=aA hn
 have hlen:(rs.length:Int)≤9223372036854775807:=by omega
 clear hR h2 hB hl hs hin hrl h0 hk hn
 go_enter Try.func46,Try.ntmps46
 go_upto_region 3 with fail
 refine HCL.out.mono ?_;rintro _ w1 ⟨v,rfl,ho1,hb1⟩
 obtain⟨gp,cp,rfl,hc1,hc2,hgp⟩:=ho1.addr H0.out
 have HO1:=aA ho1
 have HB1:=aA hb1
 have HGP:=aA hgp
 clear ho1 hb1 hc1 hc2 hgp HCL
 go_wp2
 go_loopw [7,15] (fun vl vi wr=>∃(k:Nat) (pd:List Bool) (l:List Gm.Pl) (VL:Value),VL=vl∧k≤rs.length∧vi=.int .i64 k∧Hid (Gm.Nx rs kn h k pd l)∧Hid (aV wr w.heap.size (.slice (some ⟨gp,0,none⟩) kn.length cp) pd)∧Hid (zc2 wr w.heap.size VL l)∧Hid (Below w.heap.size w wr)) (fun _ vi _=>rs.length-(intOf vi).toNat)
 case atStart=>exact⟨0,kn,[],_,rfl,Nat.zero_le _,rfl,aA (Gm.Nx.zero _ _ _),HO1,aA (aN.nil _ _),HB1⟩
 case round =>
  clear HO1 HB1
  obtain⟨k,pd,l,VL,rfl,hk,rfl,HX,HP,HL,HW⟩:=hrel
  by_cases hlt:k<rs.length
  ·obtain⟨g,o,rfl,hgB,hc⟩:=HRl.out (by omega)
   obtain⟨k0,⟨A',c',k1,hlc,u1,hri⟩,k2⟩:=hc k hlt
   have k0:=(HW.out.cell (p:=⟨g,o+k*3,none⟩) (Nat.lt_of_lt_of_le hgB HB.out)).trans k0
   have k1:=(HW.out.cell (p:=⟨g,o+k*3+1,none⟩) (Nat.lt_of_lt_of_le hgB HB.out)).trans k1
   have k2:=(HW.out.cell (p:=⟨g,o+k*3+2,none⟩) (Nat.lt_of_lt_of_le hgB HB.out)).trans k2
   have hm:=List.getElem_mem hlt
   have hli:=HLI.out _ hm
   obtain⟨j,hj⟩:∃j:Nat,rs[k].l=(j:Int):=⟨rs[k].l.toNat,by omega⟩
   have hj2:j<kn.length:=by omega
   have HAK:=aA (fun y hy=>HAK.out y hy rs[k] hm A' c' hri)
   have HSK:=aA (fun hc=>HX.out.skip hlt hc)
   have HTK:=aA (fun h1 h2=>HX.out.take hlt hli.1 (by omega) h1 h2)
   rw[hj,Int.toNat_natCast]at HSK HTK
   rw[hj]at k0
   obtain⟨x,hx⟩:∃x,x=rs[k]:=⟨_,rfl⟩
   rw[←hx]at k1 k2 HAK HSK HTK hlc
   obtain⟨wb,hwb⟩:∃y,y=wr.alloc (.cells #[.int .i64 (j:Int),.slice A' x.r.length c',.int .i64 x.p] 42):=⟨_,rfl⟩
   have hbb:Below wr.heap.size wr wb:=by rw[hwb];exact(Below.refl _ _).alloc (Nat.le_refl _) _
   have hbr:wb.heap[wr.heap.size]?=some (.cells #[.int .i64 (j:Int),.slice A' x.r.length c',.int .i64 x.p] 42 (0,0)):=by rw[hwb];exact heap_alloc_new wr _
   have b0:=cell_of_row wb _ 0 _ _ _ hbr
   have b1:=cell_of_row wb _ 1 _ _ _ hbr
   have lb:=(Array.getElem?_eq_some_iff.1 hbr).1
   have HPB:=aA (HP.out.below hbb (Nat.le_refl _))
   have HLB:=aA (aN.below HL.out hbb (Nat.le_refl _))
   have HWB:=aA (HW.out.trans (hbb.mono HW.out.size))
   have HPN:=aA HX.out.n
   have HLN:=aA HX.out.len
   have kp:=HPB.out.cellAt HPN.out.symm j (by rw[HPN.out];exact hj2)
   have lp:gp<wb.heap.size:=by
    rcases HPB.out.2 with⟨e,_⟩|⟨g',_,_,e,_,hg,_⟩
    ·cases e
    ·injection e with e;injection e with e;injection e with e;subst e;exact(Array.getElem?_eq_some_iff.1 hg).1
   have hj3:(j:Int)<(kn.length:Int):=by omega
   have HBR:=aA hbr
   clear hc u1 hri hm hli hj hj2 hx hbb hbr hlc HP HL HW
   cases hpd:pd.getD j false
   ·rw[hpd]at kp
    have HTK:=aA (HTK.out hpd)
    have HAKb:=aA (HAK.out wb HWB.out)
    cases hab:Gm.allB true kn x.r
    ·rw[hab]at HAKb
     have HN:=aA (HSK.out (.inr hab))
     clear hpd hab HTK HAK HSK HX
     go_upto_region 6 with fail
     rw[←hwb]
     clear hwb k0 k1 k2
     go_wp2_with fail
     refine HAKb.out.mono ?_;rintro _ we ⟨rfl,hb⟩
     have HPE:=aA (HPB.out.below hb (Nat.le_refl _))
     have HLE:=aA (aN.below HLB.out hb (Nat.le_refl _))
     have HWE:=aA (HWB.out.trans (hb.mono HWB.out.size))
     clear hb b0 b1 lb kp lp
     go_wp2
     go_roundw
     case rel=>exact⟨k+1,pd,l,VL,rfl,hlt,by go_num,HN,HPE,HLE,HWE⟩
     case measure=>simp[intOf];omega
    ·rw[hab]at HAKb
     have HN:=aA (HTK.out hab)
     clear hpd hab HTK HAK HSK HX
     go_upto_region 6 with fail
     rw[←hwb]
     clear hwb k0 k1 k2
     go_wp2_with fail
     refine HAKb.out.mono ?_;rintro _ we ⟨rfl,hb⟩
     have HPE:=aA (HPB.out.below hb (Nat.le_refl _))
     have HLE:=aA (aN.below HLB.out hb (Nat.le_refl _))
     have HWE:=aA (HWB.out.trans (hb.mono HWB.out.size))
     have hbe:=(hb.block _ lb).trans HBR.out
     have b0':=cell_of_row we _ 0 _ _ _ hbe
     have lb':=(Array.getElem?_eq_some_iff.1 hbe).1
     have lp':gp<we.heap.size:=Nat.lt_of_lt_of_le lp hb.size
     have fp:=HPE.out.frozenAt HPN.out.symm j
     have kpe:=HPE.out.cellAt HPN.out.symm j (by rw[HPN.out];omega)
     have HPS:=aA (HPE.out.stored HPN.out.symm j true)
     have hset:we.grownBy (we.setCell ⟨gp,j,none⟩ (.bool true)) (some gp):=aD (World.grownBy.refl we (some gp)) j _
     have HLS:=aA (World.ownsRow.kept HLE.out hset (zbY HLE.out HPE.out (by decide)))
     have HWS:Hid (Below w.heap.size w (we.setCell ⟨gp,j,none⟩ (.bool true))):=aA (HWE.out.setCell (p:=⟨gp,j,none⟩) HGP.out _)
     have hbs:(we.setCell ⟨gp,j,none⟩ (.bool true)).heap[wr.heap.size]?=some (.cells #[.int .i64 (j:Int),.slice A' x.r.length c',.int .i64 x.p] 42 (0,0)):=by
      refine(hset.block _ lb' fun e=>?_).trans hbe
      injection e with e
      rcases HPE.out.2 with⟨e2,_⟩|⟨g',_,_,e2,_,hg,_⟩
      ·cases e2
      ·injection e2 with e2;injection e2 with e2;injection e2 with e2;subst e2;rw[←e,hbe]at hg;injection hg with hg;injection hg with _ hg _;exact absurd hg (by decide)
     have HBS:=aA hbs
     clear hb b0 b1 lb kp lp hbe hset hbs HPE HLE HWE HPB HLB HWB HBR
     go_upto_region 8 with fail
     obtain⟨ws,hws⟩:∃y,y=we.setCell ⟨gp,j,none⟩ (.bool true):=⟨_,rfl⟩
     rw[←hws]at HPS HLS HWS HBS ⊢
     clear hws b0' lb' lp' fp kpe
     have c0:=cell_of_row ws _ 0 _ _ _ HBS.out
     have lc:=(Array.getElem?_eq_some_iff.1 HBS.out).1
     have HBD:∀w:World,(Instr.build 68 #[(0,Value.int .i64 (j:Int)),(1,Value.int .i64 (h:Int)),(2,Value.int .i64 (k:Int))]).run Try.prog w=.ok (.agg #[.int .i64 (j:Int),.int .i64 (h:Int),.int .i64 (k:Int)]) w:=fun w=>run_build w 68 _ _ (by kernel_rfl)
     have HBQ:=aA (show w.heap.size≤(ws.alloc (.cells #[.int .i64 (j:Int),.int .i64 (h:Int),.int .i64 (k:Int)] 68)).heap.size from Nat.le_trans HWS.out.size (by simp))
     have HZ:Hid (∀i u,(plc ⟨j,h,k⟩)[i]?=some u→(ws.alloc (.cells #[.int .i64 (j:Int),.int .i64 (h:Int),.int .i64 (k:Int)] 68)).cell? ⟨ws.heap.size,i,none⟩=some u):=aA (fun i u hu=>(cell_of_row _ _ i _ _ _ (heap_alloc_new ws _)).trans (by rw[List.getElem?_toArray];exact hu))
     have HL6:Hid (l.length≤1000000):=aA (by have:=HLN.out;have:=HNL.out;omega)
     have HLA:=aA (aN.alloc HLS.out (.cells #[.int .i64 (j:Int),.int .i64 (h:Int),.int .i64 (k:Int)] 68))
     have HPA:=aA (HPS.out.alloc (.cells #[.int .i64 (j:Int),.int .i64 (h:Int),.int .i64 (k:Int)] 68))
     have HWA:=aA (HWS.out.alloc HWS.out.size (.cells #[.int .i64 (j:Int),.int .i64 (h:Int),.int .i64 (k:Int)] 68))
     have HI1:=aA (show(Value.agg #[.int .i64 0,.int .i64 0,.int .i64 0]).cells.size=3 from rfl)
     go_wp2_with (at_builtin;refine zgx (f:=plc) rfl (.tmp 36) (.tmp 42) _ rfl Try.underlying65 _ 24 zf0 HI1.out (by decide) (by decide) zas zeF w.heap.size _ l rfl HLA.out ws.heap.size 1 ⟨j,h,k⟩ rfl HZ.out HL6.out HBQ.out ?_;intro v' wf ho hg)
     have HPF:=aA (World.ownsRow.kept HPA.out hg (zbY HPA.out HLA.out (by decide)))
     have HWF:=aA (zbk HWA.out HLA.out hg HBQ.out)
     have HLF:=aA ho
     clear ho hg c0 lc
     go_wp2
     go_roundw
     case rel=>exact⟨k+1,_,_,_,rfl,hlt,by go_num,HN,HPF,HLF,HWF⟩
     case measure=>simp[intOf];omega
   ·rw[hpd]at kp
    have HN:=aA (HSK.out (.inl hpd))
    clear hpd HTK HAK HSK HX
    go_upto_region 6 with fail
    rw[←hwb]
    clear hwb k0 k1 k2
    go_wp2
    go_roundw
    case rel=>exact⟨k+1,pd,l,VL,rfl,hlt,by go_num,HN,HPB,HLB,HWB⟩
    case measure=>simp[intOf];omega
  ·obtain rfl:k=rs.length:=by omega
   go_wp2
   go_ret
   exact⟨_,_,_,rfl,HL.out,HX.out,HW.out⟩
def zhE (G:Gm.Gr) (w:World) (e:Ending) (w':World):Prop:=∃v l d kn,e=.returned v∧zc2 w' w.heap.size v l∧Gm.Pls G d kn l∧(∀j:Nat,Gm.Gn true G.rs (j:Int)→∃q∈l,q.n=j)∧Below w.heap.size w w'
theorem zdb (v:Value) (G:Gm.Gr) (B:Nat) (w:World) (hg:aS w B v G) (hf:Gm.Fit G) (hok:Gm.Ok G) (hB:B≤w.heap.size) :
  Calls Try.prog 30 #[v] w (zhE G w):=by
 obtain⟨AT,cT,AN,cN,AR,cR,rfl,_,⟨hlN,hmN⟩,⟨hlR,hmR⟩,_,_,hR⟩:=hg
 have HS0:=aA (One.start w #[.slice AT G.ts.length cT,.slice AN G.ns.length cN,.slice AR G.rs.length cR,.int .i64 G.st])
 have hns:=(Gm.nons_iff G).1 hok.n
 have HN:Hid (1≤G.ns.length∧G.ns.length≤16):=aA ⟨hns.1,hns.2.1⟩
 have hnn:=HN.out
 have HNX:=aA (fun(y:World) (hy:Below w.heap.size w y) (kn:List Bool) (hk:kn.length=G.ns.length) (g d:Nat) (hu:UBO y g kn)=>zcn G.rs kn (d+1) AR (some ⟨g,0,none⟩) cR kn.length y.heap.size y ((hR.blw hy hB).more (Nat.le_trans hB hy.size)) (hu.rd0 hu.lt) (Nat.le_refl _) (by rw[hk];exact hok.lin) (fun x hx=>by rw[hk];exact hok.sin x hx) (fun x hx=>(hf.r x hx).2.2) (fun x hx=>by have:=(Gm.rule_in (hok.rr x hx)).1;omega) (by omega) (by omega) (by have:=hok.r40;omega))
 have HOK:=aA hok
 have hlen:(G.ns.length:Int)≤9223372036854775807:=by omega
 clear hf hR hB hok hns
 go_enter Try.func30,Try.ntmps30
 go_upto_region 3 with(at_make;refine zgj rfl (.tmp 11) (.tmp 11) _ rfl Try.underlying99 G.ns.length _ _ rfl rfl rfl rfl (by omega) ?_;intro w2 hu2 hb2 hlt2)
 rw[show(w.alloc (.cells #[.slice AT G.ts.length cT,.slice AN G.ns.length cN,.slice AR G.rs.length cR,.int .i64 G.st] 26)).heap.size=w.heap.size+1 by simp]at hu2
 have HS2:=aA (HS0.out.on hb2)
 have HU2:=aA hu2
 clear hu2 hb2 hlt2 HS0 hnn
 go_wp2
 go_loopw [3,5] (fun vl vh wr=>∃(d:Nat) (kn:List Bool) (l:List Gm.Pl) (VL:Value),VL=vl∧vh=.int .i64 ((d:Int)+1)∧d≤G.ns.length∧Hid (Gm.Pls G d kn l)∧Hid (UBO wr (w.heap.size+1) kn)∧Hid (zc2 wr (w.heap.size+1) VL l)∧Hid (One w #[.slice AT G.ts.length cT,.slice AN G.ns.length cN,.slice AR G.rs.length cR,.int .i64 G.st] wr)) (fun _ vh _=>G.ns.length+1-(intOf vh).toNat)
 case atStart=>exact⟨0,_,[],_,rfl,rfl,Nat.zero_le _,aA (Gm.Pls.zero G),HU2,aA (aN.nil _ _),HS2⟩
 case round =>
  clear HU2 HS2
  obtain⟨d,kn,l,VL,rfl,rfl,hd,HP,HU,HL,HW⟩:=hrel
  obtain⟨wo,hwo⟩:∃wo:World,wo=wr:=⟨_,rfl⟩
  subst hwo
  have q2:=HW.out.c 2 _ rfl
  have ld:w.heap.size<wo.heap.size:=HW.out.size
  have HNd:=aA (HNX.out wo HW.out.below kn HP.out.n (w.heap.size+1) d HU.out)
  rw[HP.out.n]at HNd
  rw[show((d+1:Nat):Int)=(d:Int)+1 by omega]at HNd
  obtain⟨dd,hdd⟩:∃x:Int,x=(d:Int)+1:=⟨_,rfl⟩
  rw[←hdd]at HNd ⊢
  have HDD:=aA hdd
  have hdw:IntKind.i64.wrap (dd+1)=dd+1:=IntWalk.i64_in _ (by have:=HN.out.2;omega)
  clear hdd
  go_upto_region 6 with fail
  refine HNd.out.mono ?_;rintro _ w3 ⟨v3,m,pd,rfl,ho3,hnx,hb3⟩
  have HW3:=aA (HW.out.on hb3)
  have HU3:=aA (HU.out.below hb3 HU.out.lt)
  have HL3:=aA (aN.below HL.out hb3 (Nat.le_refl _))
  have HX:=aA hnx
  have HM3:=aA ho3
  clear hnx hb3 q2 ld HU HL HW
  by_cases hm:m=[]
  ·subst hm
   obtain⟨A3,c3,rfl,_⟩:=ho3.form zas
   have HA:=aA (fun j hj=>Gm.Pls.last HOK.out HP.out HX.out j hj)
   clear ho3 HM3
   go_wp2
   go_ret
   exact⟨_,l,d,kn,rfl,aN.mono HL3.out (by omega),HP.out,HA.out,HW3.out.below⟩
  ·have hml:m.length≠0:=fun e=>hm (List.eq_nil_of_length_eq_zero e)
   obtain⟨gm,cm,rfl,_,_,hgm⟩:=ho3.addr hml
   have HNX2:=aA (HP.out.next HOK.out HX.out hm)
   have HML:Hid (m.length≤40∧l.length≤640):=aA ⟨by have:=HX.out.len;have:=HOK.out.r40;omega,by have:=HP.out.len;have:=HN.out.2;omega⟩
   have hmle:(m.length:Int)≤9223372036854775807:=by have:=HML.out.1;omega
   have hmz:((m.length:Int)==0)=false:=beq_eq_false_iff_ne.2 (by omega)
   have HGM:=aA hgm
   have HKN:=aA HP.out.n
   have HMI:=aA (fun q (h:q∈m)=>(show q.n<G.ns.length from by
    obtain⟨_,_,h2,h3,_⟩:=HX.out.a q h
    have:=HOK.out.lin _ (List.getElem_mem h2)
    omega))
   clear ho3 hgm
   have HVH:Hid (Value.int .i64 (dd+1)=.int .i64 (((d+1:Nat):Int)+1)):=aA (by rw[HDD.out];simp)
   clear HP HX HNd hm hml
   go_upto_region 8 with fail
   go_wp2
   go_loopw [26] (fun vi wr=>∃i:Nat,i≤m.length∧vi=.int .i64 i∧Hid (UBO wr (w.heap.size+1) (Gm.setP kn (m.take i)))∧Hid (zc2 wr (w.heap.size+1) VL l)∧Hid (zc2 wr wo.heap.size (.slice (some ⟨gm,0,none⟩) m.length cm) m)∧Hid (One w #[.slice AT G.ts.length cT,.slice AN G.ns.length cN,.slice AR G.rs.length cR,.int .i64 G.st] wr)) (fun vi _=>m.length-(intOf vi).toNat)
   case atStart=>exact⟨0,Nat.zero_le _,rfl,HU3,HL3,HM3,HW3⟩
   case round =>
    clear HU3 HL3 HM3 HW3
    obtain⟨i,hi,rfl,HU,HL,HM,HW⟩:=hrel
    by_cases hlt:i<m.length
    ·have m0:=aN.cellAt HM.out zas i 0 hlt _ rfl
     rw[Nat.add_zero]at m0
     have m1:=aN.cellAt HM.out zas i 1 hlt _ rfl
     have m2:=aN.cellAt HM.out zas i 2 hlt _ rfl
     have lm:=aN.lt HM.out
     have hqn:=HMI.out _ (List.getElem_mem hlt)
     have HST:=aA (Gm.setP_take (s:=kn) hlt)
     generalize m[i]=q at *
     obtain⟨wb,hwb⟩:∃y,y=wr.alloc (.cells #[.int .i64 (q.n:Int),.int .i64 (q.h:Int),.int .i64 (q.i:Int)] 68):=⟨_,rfl⟩
     have hbb:Below wr.heap.size wr wb:=by rw[hwb];exact(Below.refl _ _).alloc (Nat.le_refl _) _
     have hbr:wb.heap[wr.heap.size]?=some (.cells #[.int .i64 (q.n:Int),.int .i64 (q.h:Int),.int .i64 (q.i:Int)] 68 (0,0)):=by rw[hwb];exact heap_alloc_new wr _
     have b0:=cell_of_row wb _ 0 _ _ _ hbr
     have lb:=(Array.getElem?_eq_some_iff.1 hbr).1
     have HUB:=aA (HU.out.below hbb HU.out.lt)
     have lk:=HUB.out.lt
     have hlen2:(Gm.setP kn (m.take i)).length=G.ns.length:=by rw[Gm.setP_len,HKN.out]
     have kc:=HUB.out.cell q.n (by rw[hlen2];exact hqn)
     have fc:=HUB.out.frozen q.n
     have hqn2:(q.n:Int)<(G.ns.length:Int):=by omega
     have hset:wb.grownBy (wb.setCell ⟨w.heap.size+1,q.n,none⟩ (.bool true)) (some (w.heap.size+1)):=aD (World.grownBy.refl wb (some (w.heap.size+1))) q.n _
     have HLB:=aA (aN.below HL.out hbb (Nat.le_refl _))
     have HMB:=aA (aN.below HM.out hbb (Nat.le_refl _))
     have HWB:=aA (HW.out.on hbb)
     have HU2:=aA (HUB.out.set_ q.n true)
     rw[←HST.out]at HU2
     have HL2:=aA (World.ownsRow.kept HLB.out hset (zaQ HLB.out HUB.out (by decide)))
     have HM2:=aA (World.ownsRow.kept HMB.out hset (zaQ HMB.out HUB.out (by decide)))
     have HW2:Hid (One w #[.slice AT G.ts.length cT,.slice AN G.ns.length cN,.slice AR G.rs.length cR,.int .i64 G.st] (wb.setCell ⟨w.heap.size+1,q.n,none⟩ (.bool true))):=aA (Below.setCell HWB.out (p:=⟨w.heap.size+1,q.n,none⟩) (by simp) _)
     clear hbb hbr hlen2 hset HU HL HM HW HUB HLB HMB HWB HST hqn
     go_upto_region 11 with fail
     rw[←hwb]
     clear hwb m0 m1 m2 lm
     go_wp2
     go_roundw
     case rel=>exact⟨i+1,hlt,by go_num,HU2,HL2,HM2,HW2⟩
     case measure=>simp[intOf];omega
    ·obtain rfl:i=m.length:=by omega
     rw[List.take_length]at HU
     obtain⟨A5,c5,e5,h51,h52,hr5⟩:=aN.form HM.out zas
     have HR5:=aA hr5
     have e6:A5=some ⟨gm,0,none⟩:=by injection e5 with e5;exact e5.symm
     rw[e6]at HR5
     clear hr5 e5 e6 h51 h52
     have HBQ:=aA (show w.heap.size+1≤wr.heap.size from HW.out.size)
     have HI1:=aA (show(Value.agg #[.int .i64 0,.int .i64 0,.int .i64 0]).cells.size=3 from rfl)
     have HL9:=aA (show l.length+m.length≤1000000 by have:=HML.out;omega)
     go_upto_region 14 with(at_builtin;refine zfP (f:=plc) rfl (.tmp 35) (.tmp 36) _ rfl Try.underlying65 _ 24 zf0 HI1.out (by decide) (by decide) zas zeF (w.heap.size+1) _ l rfl HL.out wr.heap.size m.length cm (some ⟨gm,0,none⟩) m rfl rfl HR5.out HL9.out HBQ.out ?_;intro v' wf ho hg)
     have HUF:Hid (UBO wf (w.heap.size+1) (Gm.setP kn m)):=aA ((hg.block _ HU.out.lt (fun e=>by rcases zaQ HL.out HU.out (by decide) with h|h;exact absurd (e.trans h) (by simp);exact h e.symm)).trans HU.out)
     have HWF:Hid (One w #[.slice AT G.ts.length cT,.slice AN G.ns.length cN,.slice AR G.rs.length cR,.int .i64 G.st] wf):=aA (zbk HW.out HL.out hg HBQ.out)
     have HLF:=aA ho
     have HDL:=aA HNX2.out.dl
     clear ho hg HU HL HM HW
     go_wp2
     go_roundw
     case rel=>exact⟨d+1,_,_,_,rfl,HVH.out,HDL.out,HNX2,HUF,HLF,HWF⟩
     case measure=>simp[intOf];have:=HDL.out;have:=HDD.out;omega
theorem aK.far {w w':World} {base gk:Nat} {v:Value} {xs:List Int} (h:aK w base v xs) (hg:w.grownBy w' (some gk)) (hlt:gk<base):aK w' base v xs :=
 World.ownsRow.kept h hg (by
  cases hv:v.ownBlock with
  | none=>exact .inl rfl
  | some k=>exact .inr (fun e=>by injection e with e;have:=(World.ownsRow.lt h k hv).1;omega))
end Go.Proofs.Ytcgclkndkahgaaa
