/- Part of the proofs over this program: LkEnds2, LkOf, LookC, CfgRead, Ref8M, Read9, Src9, Alive15T, TableL, TbFn, RepN. -/
import Derived.Test.YtjjbaehamplnaaaGreatHM
set_option linter.all false
namespace Go
def EB:=@List.length_zip
def Fe:=@List.getElem_zip
end Go
open Go.RowKit Go.Proofs.Tryz
set_option maxRecDepth 100000
set_option maxHeartbeats 40000000
namespace Go.Proofs.YtjjbaehamplnaaaGreat
variable {A:Option Go.Addr} {B N base base' g i k n px py:Nat} {E:List (List (Int×Int))} {G:Gm.Gr} {ds:List Y.jL} {ks:List Int} {s t z:Int} {v v':Go.Value} {w:Go.World} {x:fv} {xs:List Go.Value}
theorem Uj {Aa:Option Addr} {ss:List nY} (h:cB w B Aa ss) (i:Nat) (hi:i<ss.length):∃g o,Aa=some ⟨g,o,none⟩/\g<B/\(∃A1 c1,w.cell? ⟨g,o+i*2,none⟩=some (.slice A1 ss[i].1.length c1))/\∃A2 c2,w.cell? ⟨g,o+i*2+1,none⟩=some (.slice A2 ss[i].2.length c2)/\iC 2 fM w B A2 ss[i].2:=by
 obtain⟨g,o,e,hg,hc⟩:=h ω;obtain⟨⟨A1,c1,a1,_⟩,A2,c2,a2,_,_,a3⟩:=hc i hi;exact⟨g,o,e,hg,⟨A1,c1,a1⟩,A2,c2,a2,a3⟩
theorem Qh (v:Value) (G:Gm.Gr) (B:Nat) (w:World) (Aa:Option Addr) (ca:Nat) (K:List (List Au.It)) (E:List (List (Int×Int))) (hg:aT w B v G) (hf:Gm.Fit G) (hB:B<=w.heap.size) (hb:Gm.ja G=true) (hk:Au.ku G=some (K,E)) (ha:cB w w.heap.size Aa (K.zip E)) :
  Calls prog 58 #[v,.slice Aa (K.zip E).length ca] w fun e w'=>∃D MM DD,e=.returned (.map (some D))/\Mw.fw qS w' D (Lk.gY DD)/\Lk.WI G K E MM DD []/\β w w':=by
 obtain⟨hi,hE,ai⟩:=Au.jx hk;have I:=Gm.fq.1 (Gm.gx hb);have aj:=((Gm.fK G.ts).1 I.t)
 have ak:=((Gm.fF G).1 I.n)
 have hz:(K.zip E).length=K.length:=by rw[EB,hE,Nat.min_self]
 have bX:=aA (fun(tl:List ((Int×Int)×Value)) (h:Lk.TS E E.length 0 tl)=>(show IV G K E tl from⟨hi,hE,I,fun x hx=>(Gm.sd hb x hx).2,ω,ω,ai,fun i s j he=>h.done he⟩));have HZ:=aA hz;have a0:=aA hE;have b0:=aA (show 0<K.length from(Bk.1 hi.h0).1);have b1:=aA ai;have b4:=aA (fun(i:Nat) (h:i<E.length)=>Lk.ov hi h)
 have b5:=aA (fun(i:Nat) (h:i<E.length) (e:Int×Int) (he:e∈E[i])=>(show Gm.In e.1 from by
  have h1:e.1∈E[i].map (·.1):=ET he;rw[(hi.ed i h).1,Cc]at h1
  have:=Gm.iN.1 (Au.iU.1 h1.1)
  unfold Gm.In
  omega))
 have b6:=aA (fun(i:Nat) (h:i<E.length)=>(show(E[i]).length<=100000 from by have:=Au.pD ω ω hi h;omega));have b7:=aA (fun(y:World) (h:β w y)=>PX v G B y (hg.below h hB) hf I (Ah hB h.size) ω);have b8:=aA (fun(y:World) (h:β w y)=>hg.below h hB);have HB:=aA hB;obtain⟨AT,cT,AN,cN,AR,cR,rfl,_⟩:=hg;obtain⟨w1,ab⟩:=χ (w.alloc (.cells #[.slice AT G.ts.length cT,.slice AN G.ns.length cN,.slice AR G.rs.length cR,.int .i64 G.st] 26))
 have r:Hid (β w w1):=aA (by rw[ab];exact(AB _ _).alloc (Af _) _);have J:Hid (w1.heap[w.heap.size]?=some (.cells #[.slice AT G.ts.length cT,.slice AN G.ns.length cN,.slice AR G.rs.length cR,.int .i64 G.st] 26 (0,0))):=aA (by rw[ab];exact AI w _);have cA:Hid (w.heap.size<w1.heap.size):=aA (Ad.1 J.o).1;have HA:=aA ha;have b9:=fun t w=>Fh (P:=prog) t w;clear hf hB hb hk ha hi hE I aj ak hz ai;generalize hn:(K.zip E).length=n at *;have HN:=aA hn;clear hn
 go_enter func58,ntmps58
 go_upto_region 1 with fail
 rw[<-ab];clear ab;have q0:=fun y:Calm.On w1.heap.size w1=>aQ (aC y.2 J.o);have q1:=fun y:Calm.On w1.heap.size w1=>aU (aC y.2 J.o);have q2:=fun y:Calm.On w1.heap.size w1=>bB (aC y.2 J.o);have q3:=fun y:Calm.On w1.heap.size w1=>bL (aC y.2 J.o)
 refine CalmN.mT (γ w1) [0,1] [2,3,4,5,6,7] [(6,2),(6,3),(6,4),(6,5)] (.one [] 8 (.fin []))
  (fun todo a wx=>∃x12 x13 x14 x15 x16 x5 At ct T M D c,a = {tmps:=#[.agg #[.slice AT G.ts.length cT,.slice AN G.ns.length cN,.slice AR G.rs.length cR,.int .i64 G.st],.slice Aa n ca,.pointer (some ⟨w.heap.size,0,none⟩),undef,.map none,x5,undef,undef,undef,undef,.agg #[.slice AT G.ts.length cT,.slice AN G.ns.length cN,.slice AR G.rs.length cR,.int .i64 G.st],.agg #[.slice AT G.ts.length cT,.slice AN G.ns.length cN,.slice AR G.rs.length cR,.int .i64 G.st],x12,x13,x14,x15,x16,undef,undef,undef,undef,undef,undef,undef,undef,undef,undef,undef,undef,undef,undef,undef,undef,undef,undef,undef,undef,undef,undef,undef,undef,undef,undef,undef,undef],defers:=[]}/\EJ w1 G (.slice AT G.ts.length cT) (.slice AN G.ns.length cN) (.slice AR G.rs.length cR) (.int .i64 G.st) todo wx x12 x13 x14 x15 x16 x5 At ct T M D c)
  κ κ (fun _ _ d _ _ h=>by cases d <;> exact h) ⟨⟨w1.drew,aB (AB _ _) 1⟩,rfl⟩ ?_ ?_ ?_
 ·simp only[CalmN.fo,Aq,Ai,Am];repeat (go_big_quiet_step (fail))
  refine Ap ?_;exact⟨undef,undef,undef,undef,undef,undef,none,0,0,0,0,0,rfl,⟨σ,aB (AB _ _) 1,fun h=>absurd σ h,fun h=>absurd σ h,fun h=>absurd σ h,fun h=>absurd σ h,fun h=>absurd σ h,fun h=>absurd σ h,fun h=>absurd σ h,fun h=>absurd σ h,fun _ h=>absurd σ h⟩⟩
 ·intro todo k a wx hk hD hJ hS;obtain⟨x12,x13,x14,x15,x16,x5,At,ct,T,M,D,c,rfl,hJ⟩:=hJ;have HJ:=aA hJ;have aa:=hJ.t k hk;have HK:=aA hk;have HD:=aA hD;clear hJ hS hk hD q0 q1 q2 q3;rcases aa with rfl|rfl|rfl|rfl|rfl|rfl
  ·simp only[CalmN.fu,Aq,Ai,Am];intro KK u;rw[Az ε];go_wp2_with fail
   refine(b7.o wx (r.o.trans (HJ.o.b.mono r.o.size))).mono ?_;rintro _ w' ⟨A',c',rfl,ho,hb⟩;have hj:=HJ.o.Jd HK.o hb (c':=c') ho;go_wp2_with fail
   exact u _ _ ⟨⟨w',hj.b⟩,rfl⟩ _ ι ⟨⟨w',hj.b⟩,rfl⟩ ⟨_,x13,x14,x15,x16,x5,_,_,T,M,D,c,rfl,hj⟩
  ·simp only[CalmN.fu,Aq,Ai,Am];intro KK u;rw[Az ε];have hj:=HJ.o.zC HK.o;go_wp2_with fail
   exact u _ _ ⟨⟨_,hj.b⟩,rfl⟩ _ ι ⟨⟨_,hj.b⟩,rfl⟩ ⟨x12,_,x14,x15,x16,x5,At,ct,_,M,D,c,rfl,hj⟩
  ·simp only[CalmN.fu,Aq,Ai,Am];intro KK u;rw[Az ε];have hj:=HJ.o.Je HK.o;go_wp2_with fail
   exact u _ _ ⟨⟨_,hj.b⟩,rfl⟩ _ ι ⟨⟨_,hj.b⟩,rfl⟩ ⟨x12,x13,_,x15,x16,x5,At,ct,T,_,D,c,rfl,hj⟩
  ·simp only[CalmN.fu,Aq,Ai,Am];intro KK u;rw[Az ε];have hj:=HJ.o.uS HK.o;go_wp2_with fail
   exact u _ _ ⟨⟨_,hj.b⟩,rfl⟩ _ ι ⟨⟨_,hj.b⟩,rfl⟩ ⟨x12,x13,x14,_,x16,x5,At,ct,T,M,_,c,rfl,hj⟩
  ·have m2:=HD.o (6,2) σ rfl;have m3:=HD.o (6,3) σ rfl;have m4:=HD.o (6,4) σ rfl;have m5:=HD.o (6,5) σ rfl;obtain⟨rfl,_⟩:=HJ.o.h2 m2;obtain⟨rfl,_⟩:=HJ.o.h3 m3;obtain⟨rfl,_⟩:=HJ.o.h4 m4;obtain⟨rfl,_⟩:=HJ.o.h5 m5;have hj:=HJ.o.uT m2 m3 m4 m5;simp only[CalmN.fu,Aq,Ai,Am];intro KK u;rw[Az ε];go_wp2_with fail
   exact u _ _ ⟨⟨_,hj.b⟩,rfl⟩ _ ι ⟨⟨_,hj.b⟩,rfl⟩ ⟨_,_,_,_,_,x5,At,ct,T,M,D,c,rfl,hj⟩
  ·simp only[CalmN.fu,Aq,Ai,Am];intro KK u;rw[Az ε];have hj:=HJ.o.uU;go_wp2_with fail
   exact u _ _ ⟨⟨_,hj.b⟩,rfl⟩ _ ι ⟨⟨_,hj.b⟩,rfl⟩ ⟨x12,x13,x14,x15,x16,_,At,ct,T,M,D,_,rfl,hj⟩
 ·intro a wx hJ hS;obtain⟨x12,x13,x14,x15,x16,x5,At,ct,T,M,D,c,rfl,hJ⟩:=hJ;obtain⟨rfl,a4⟩:=hJ.h2 σ;obtain⟨rfl,a5,a6⟩:=hJ.h3 σ;obtain⟨rfl,a9,ba⟩:=hJ.h4 σ;obtain⟨rfl,bb,bc⟩:=hJ.h5 σ;obtain⟨_,rfl⟩:=hJ.h6 σ;obtain⟨rfl,al,l⟩:=hJ.h7 σ;have am:Hid (T≠M/\T≠D/\M≠D):=aA ⟨hJ.d34 σ σ,hJ.d35 σ σ,hJ.d45 σ σ⟩;have ao:=hJ.b;clear hS q0 q1 q2 q3 hJ;have lc:=(Ad.1 l).1;have f0:=AM wx _ 0 _ _ l;have f1:=AM wx _ 1 _ _ l;have f2:=AM wx _ 2 _ _ l;have f3:=AM wx _ 3 _ _ l;have f4:=AM wx _ 4 _ _ l;have f5:=AM wx _ 5 _ _ l;have f6:=AM wx _ 6 _ _ l;have f7:=AM wx _ 7 _ _ l;have k0:=AF wx _ 0 _ _ _ l;have k1:=AF wx _ 1 _ _ _ l;have k2:=AF wx _ 2 _ _ _ l;have k3:=AF wx _ 3 _ _ _ l;have k4:=AF wx _ 4 _ _ _ l;have k5:=AF wx _ 5 _ _ _ l;have k6:=AF wx _ 6 _ _ _ l;have k7:=AF wx _ 7 _ _ _ l;simp only[CalmN.fS,CalmN.fu,CalmN.fo,Aq,Ai,Am];refine Ap ?_;intro KK u;rw[Az ε];unfold qH;go_wp2_with fail
  obtain⟨wy,ac⟩:∃y,y=(((((((wx.setCell ⟨c,0,none⟩ (.slice AT G.ts.length cT)).setCell ⟨c,1,none⟩ (.slice AN G.ns.length cN)).setCell ⟨c,2,none⟩ (.slice AR G.rs.length cR)).setCell ⟨c,3,none⟩ (.int .i64 G.st)).setCell ⟨c,4,none⟩ (.slice At (Lk.fO G).length ct)).setCell ⟨c,5,none⟩ (.map (some T))).setCell ⟨c,6,none⟩ (.map (some M))).setCell ⟨c,7,none⟩ (.map (some D)):=⟨_,rfl⟩
  have ad:wx.grownBy wy (some c):=by
   rw[ac];exact aF (aF (aF (aF (aF (aF (aF (aF (AO _ _) _ _) _ _) _ _) _ _) _ _) _ _) _ _) _ _
  have bd:wy.heap[c]?=some (.cells (qH (.slice AT G.ts.length cT) (.slice AN G.ns.length cN) (.slice AR G.rs.length cR) (.int .i64 G.st) (.slice At (Lk.fO G).length ct) T M D) 174 (0,0)):=by
   rw[ac];exact Ba _ c 7 _ _ _ (Ba _ c 6 _ _ _ (Ba _ c 5 _ _ _ (Ba _ c 4 _ _ _ (Ba _ c 3 _ _ _ (Ba _ c 2 _ _ _ (Ba _ c 1 _ _ _ (Ba wx c 0 _ _ _ l)))))))
  rw[<-ac];have ae:β w1 wy:=aM ao ad al ao.size
  have z:∀(g:Nat) (o:Obj),wx.heap[g]?=some o->(∀cs t f,o=Obj.cells cs t f->t≠174)->wy.heap[g]?=some o:=fun g o h1 h2=>(ad.block g (Ad.1 h1).1 (fun e=>by
   injection e with e;rw[e,l]at h1;injection h1 with h1;exact h2 _ _ _ h1.symm rfl)).trans h1
  have af:Hid (Mw.fw qG wy T []):=aA ⟨#[],0,z _ _ a6 (fun _ _ _ e=>by cases e),rfl,σ,σ⟩;have bf:Hid (Mw.jJ qG wy M (Lk.gY [])):=aA ⟨#[],0,z _ _ ba (fun _ _ _ e=>by cases e),rfl,by simp[Lk.gY],by simp[Lk.gY],σ,σ⟩;have bg:Hid (Mw.jJ qS wy D (Lk.gY [])):=aA ⟨#[],0,z _ _ bc (fun _ _ _ e=>by cases e),rfl,by simp[Lk.gY],by simp[Lk.gY],σ,σ⟩
  have cb:Hid (cF wy At G):=aA (a4.fp ad.size fun g cur ty cc hc=>z _ _ hc (fun _ _ _ e=>by
   injection e with _ e _;rcases cc with rfl|rfl <;> rw[<-e] <;> decide))
  have C:=aA bd;have A:=aA ae;have F:Hid (w1.heap.size<=T/\w1.heap.size<=M/\w1.heap.size<=D/\w1.heap.size<=c):=aA ⟨a5,a9,bb,al⟩;refine u _ _ ⟨⟨wy,ae⟩,rfl⟩ _ ι ⟨⟨wy,ae⟩,rfl⟩ ?_;clear u k0 k1 k2 k3 k4 k5 k6 k7 f0 f1 f2 f3 f4 f5 f6 f7 lc ac ad bd ae z a4 a5 a6 a9 ba bb bc al l ao b9;refine Ap ?_;have ap:=aA (Lk.TS.start E);have cC:(n:Int)<=300:=by have:=HN.o;have:=HZ.o;have:=b1.o;omega
  go_wp2;go_loopw [19] (fun vi wr=>∃(i:Nat) (tl:List ((Int×Int)×Value)),i<=n/\vi=.int .i64 i/\Hid (Lk.TS E i 0 tl)/\Hid (Mw.fw qG wr T tl)/\Hid (wy.grownBy wr (some T))) (fun vi _=>n-(intOf vi).toNat)
  case atStart=>exact⟨0,[],Bb _,rfl,ap,af,aA (AO _ _)⟩
  case round =>
   obtain⟨i,tl,hi,rfl,bh,aq,HG⟩:=hrel;rename World=>wr;by_cases bi:i<n
   ·have bj:i<(K.zip E).length:=by rw[HN.o];exact bi
    obtain⟨ga,oa,rfl,bk,⟨A1,c1,a1⟩,A2,c2,a2,b3⟩:=Uj HA.o i bj;have N:i<E.length:=by have:=a0.o;have:=HZ.o;have:=HN.o;omega
    have ar:(K.zip E)[i].2=E[i]:=by rw[Fe]
    have H:E.getD i []=E[i]:=by rw[Aw,AH N];rfl
    rw[ar,<-H]at a2;have a3:iC 2 fM w w.heap.size A2 (E.getD i []):=by rw[H,<-ar];exact b3
    have O:Hid (β w wr):=aA (aM (r.o.trans (A.o.mono r.o.size)) HG.o (Ah r.o.size F.o.1) (Ah r.o.size A.o.size));have k0:=(O.o.cell (p:=⟨ga,oa+i*2,none⟩) bk).trans a1;have k1:=(O.o.cell (p:=⟨ga,oa+i*2+1,none⟩) bk).trans a2;have cd:=aA a3;have ce:=aA (fun(j:Nat) (tl2:List ((Int×Int)×Value)) (h:Lk.TS E i j tl2) (hj:j<(E.getD i []).length)=>h.put (by rw[H];exact b4.o i N) hj);have cf:=aA (fun(tl2:List ((Int×Int)×Value)) (h:Lk.TS E i (E.getD i []).length tl2)=>h.next);have cg:=aA (fun(e:Int×Int) (he:e∈E.getD i [])=>b5.o i N e (by rw[<-H];exact he))
    have au:Hid ((E.getD i []).length<=100000):=aA (by
     rw[H];exact b6.o i N)
    have ch:=aA bi;clear b3 a3 a1;generalize (K.zip E)[i].1.length=n1 at *;clear ar a2;clear bj N H;generalize E.getD i []=es at *;obtain⟨wi,ag⟩:=χ (wr.alloc (.cells #[.slice A1 n1 c1,.slice A2 es.length c2] 59))
    have bl:Hid (β wr wi):=aA (by rw[ag];exact(AB _ _).alloc (Af _) _);have bm:wi.heap[wr.heap.size]?=some (.cells #[.slice A1 n1 c1,.slice A2 es.length c2] 59 (0,0)):=by rw[ag];exact AI wr _
    have z1:=aU bm;have ci:=aA (aq.o.block (bl.o.block _ aq.o.lt));have cE:((i:Nat):Int)<((n:Nat):Int):=ω
    have cj:(es.length:Int)<=100000:=by have:=au.o;omega
    go_upto_region 5 with fail
    rw[<-ag];clear ag k0 k1 bm;go_wp2;clear z1;go_loopw [27] (fun vj wz=>∃(j:Nat) (tl2:List ((Int×Int)×Value)),j<=es.length/\vj=.int .i64 j/\Hid (Lk.TS E i j tl2)/\Hid (Mw.fw qG wz T tl2)/\Hid (wi.grownBy wz (some T))) (fun vj _=>es.length-(intOf vj).toNat)
    case atStart=>exact⟨0,tl,Bb _,rfl,bh,ci,aA (AO _ _)⟩
    case round =>
     obtain⟨j,tl2,hj,rfl,bn,av,bo⟩:=hrel;rename World=>wz;have aw:Hid (wy.grownBy wz (some T)):=aA (qI (qI HG.o (aL bl.o _)) bo.o);by_cases U:j<es.length
     ·obtain⟨g3,o3,rfl,bp,ax⟩:=cd.o ω;have bq:Hid (β w wz):=aA (aM (r.o.trans (A.o.mono r.o.size)) aw.o (Ah r.o.size F.o.1) (Ah r.o.size A.o.size));have e0:=(bq.o.cell (p:=⟨g3,o3+j*2+0,none⟩) bp).trans (ax j U 0 _ rfl);have e1:=(bq.o.cell (p:=⟨g3,o3+j*2+1,none⟩) bp).trans (ax j U 1 _ rfl);rw[CB]at e0;have ck:=aA (ce.o j tl2 bn.o U);have cl:Hid (Gm.In ((i:Int),(es[j]).1).1/\Gm.In ((i:Int),(es[j]).1).2):=aA ⟨by unfold Gm.In;simp only;omega,cg.o _ (AD U)⟩;have cG:((j:Nat):Int)<((es.length:Nat):Int):=ω
      have cm:=aA U;clear ax;generalize (es[j]).1=s at *;generalize (es[j]).2=tz at *;obtain⟨wj,ah⟩:=χ (wz.alloc (.cells #[.int .i64 s,.int .i64 tz] 96))
      have ay:Hid (β wz wj):=aA (by rw[ah];exact(AB _ _).alloc (Af _) _);have az:wj.heap[wz.heap.size]?=some (.cells #[.int .i64 s,.int .i64 tz] 96 (0,0)):=by rw[ah];exact AI wz _
      have y0:=aQ az;have y1:=aU az;have V:T≠c:=fun e=>by have:=af.o;rw[e]at this;exact this.fD C.o
      have m:wz.heap[c]?=some (.cells (qH (.slice AT G.ts.length cT) (.slice AN G.ns.length cN) (.slice AR G.rs.length cR) (.int .i64 G.st) (.slice At (Lk.fO G).length ct) T M D) 174 (0,0)):=(aw.o.block c (Ad.1 C.o).1 (fun e=>by injection e with e;exact V e.symm)).trans C.o;have x5:=vU (aC ay.o m);have cn:=aA (av.o.block (ay.o.block _ av.o.lt));have co:=aA (Mw.oS (x:=((i:Int),s)) cn.o GK underlying171 cl.o (.int .i64 tz));clear az V m;go_upto_region 8 with fail
      rw[<-ah];clear ah e0 e1;go_wp2_with (at_mapUpdate;refine Mw.iy rfl _ _ _ _ rfl co.o rfl rfl rfl ?_;rintro w6 ⟨br,bs⟩;have cp:=aA br;have cq:=aA (qI (qI bo.o (aL ay.o (some T))) bs);clear br bs)
      go_roundw
      case rel=>exact⟨j+1,_,cm.o,ν,ck,cp,cq⟩
      case measure=>simp[intOf];omega
     ·obtain rfl:j=es.length:=ω
      have cr:=aA (cf.o _ bn.o);go_wp2;go_roundw
      case rel=>exact⟨i+1,tl2,ch.o,ν,cr,av,aw⟩
      case measure=>simp[intOf];omega
   ·obtain rfl:i=n:=ω
    have cu:Hid (Lk.TS E E.length 0 tl):=aA (by have:=bh.o;rwa [show i=E.length by have:=a0.o;have:=HZ.o;have:=HN.o;omega]at this);have O:Hid (β w wr):=aA (aM (r.o.trans (A.o.mono r.o.size)) HG.o (Ah r.o.size F.o.1) (Ah r.o.size A.o.size));have V:T≠c:=fun e=>by have:=af.o;rw[e]at this;exact this.fD C.o
    have m:wr.heap[c]?=some (.cells (qH (.slice AT G.ts.length cT) (.slice AN G.ns.length cN) (.slice AR G.rs.length cR) (.int .i64 G.st) (.slice At (Lk.fO G).length ct) T M D) 174 (0,0)):=(HG.o.block c (Ad.1 C.o).1 (fun e=>by injection e with e;exact V e.symm)).trans C.o;have bu:=aA m
    have cv:Hid (cF wr At G):=aA (cb.o.fp HG.o.size fun g cur ty _ hc=>(HG.o.block g (Ad.1 hc).1 (fun e=>by
     injection e with e;rw[e]at hc;exact af.o.fD hc)).trans hc)
    have bv:=aA (bf.o.block (HG.o.block M bf.o.lt (fun e=>by injection e with e;exact am.o.1 e.symm)));have bw:=aA (bg.o.block (HG.o.block D bg.o.lt (fun e=>by injection e with e;exact am.o.2.1 e.symm)));have cw:=aA (Qg G K E wr w1.heap.size B T M D AT AN AR At cT cN cR ct tl (bX.o tl cu.o) b0.o (b8.o wr O.o) (Ah HB.o r.o.size) cv.o (Ah A.o.size HG.o.size) aq.o bv.o bw.o F.o.1 F.o.2.1 F.o.2.2.1 am.o);have k0:=aQ m;have k1:=aU m;have k2:=bB m;have k3:=bL m;have k4:=qJ m;have k5:=vU m;have k6:=yQ m;have k7:=Km m;have bx:Hid (c≠M/\c≠D):=aA ⟨fun e=>by rw[e]at m;exact bv.o.is.fD m,fun e=>by rw[e]at m;exact bw.o.is.fD m⟩;clear V m;go_wp2_with fail
    refine cw.o.mono ?_;rintro _ w9 ⟨rfl,MM',DD',bz,bD,bM,bT⟩;have x7:=Km ((bT c (Ad.1 bu.o).1 bx.o.1 bx.o.2).trans bu.o);have cx:=aA bz.is;have cy:=aA bD;have cz:Hid (β w w9):=aA (O.o.trans (bM.mono r.o.size));clear bz bD bM bT k0 k1 k2 k3 k4 k5 k6 k7;go_wp2;go_ret
    exact⟨D,MM',DD',rfl,cx.o,cy.o,cz.o⟩
namespace Lk
open Au Gm Go.Mw
noncomputable def gM (G:Gr) (K:List (List It)) (E:List (List (Int×Int))) (q n:Nat):List (Int×Int):=(List.range n).filterMap fun k=>(lW G K E q k).map fun v=>((k:Int),(v:Int))
theorem pR (G:Gr) (K:List (List It)) (E:List (List (Int×Int))) (q:Nat):gM G K E q 0=[]:=rfl
theorem pP {G:Gr} {K:List (List It)} {q:Nat} (h:lW G K E q n=none):gM G K E q (n+1)=gM G K E q n:=by
 unfold gM;rw[CM,List.filterMap_append];simp[h]
theorem pQ {G:Gr} {K:List (List It)} {q v:Nat} (h:lW G K E q n=some v):gM G K E q (n+1)=gM G K E q n++[((n:Int),(v:Int))]:=by
 unfold gM;rw[CM,List.filterMap_append];simp[h]
theorem mL (G:Gr) (K:List (List It)) (E:List (List (Int×Int))) (q n:Nat):(gM G K E q n).length<=n:=by
 unfold gM
 have:=List.length_filterMap_le (fun k=>(lW G K E q k).map fun v=>((k:Int),(v:Int))) (List.range n)
 simpa using this
theorem mK (G:Gr) (K:List (List It)) (E:List (List (Int×Int))) (q:Nat):gM G K E q G.rs.length=gh G K E q:=rfl
noncomputable def pS (G:Gr):List (List (Int×Int)):=if ja G=true then(match ku G with|some p=>(List.range p.1.length).map (gh G p.1 p.2)|none=>[]) else []
theorem Gh {G:Gr} (h:ja G=false):pS G=[]:=by unfold pS;rw[h];rfl
theorem xu {G:Gr} (h:ja G=true) (k:ku G=none):pS G=[]:=by unfold pS;rw[h,k];rfl
theorem su {G:Gr} {K:List (List It)} (h:ja G=true) (k:ku G=some (K,E)):pS G=(List.range K.length).map (gh G K E):=by unfold pS;rw[h,k];rfl
end Lk
def pa (x:Int×Int):List Value:=[.int .i64 x.1,.int .u32 x.2]
theorem Iu (x:Int×Int):(pa x).length=2:=rfl
theorem SD (x:Int×Int):∀u∈pa x,u.oneCell'=true:=fun u hu=>by
 simp[pa]at hu;rcases hu with rfl|rfl <;> rfl
theorem Un:(prog.info? 109).map (fun i=>(i.zero,i.size,i.bytes))=some (some (.agg #[.int .i64 0,.int .u32 0]),2,16):=κ
theorem TE:(prog.info? 53).map (fun i=>(i.zero,i.size,i.bytes))=some (some (.slice none 0 0),1,24):=κ
theorem Ss (x:Int×Int) (w:World) (g:Nat) (hb:w.heap[g]?=some (.cells #[.int .i64 x.1,.int .u32 x.2] 109 (0,0))):∀j u,(pa x)[j]?=some u->w.cell? ⟨g,j,none⟩=some u:=fun j u hu=>by
 refine(AF w g j _ _ _ hb).trans ?_
 match j,hu with
 | 0,hu=>exact hu
 | 1,hu=>exact hu
 | j+2,hu=>simp[pa]at hu
def Hf (G:Gm.Gr) (w:World) (e:Ending) (w':World):Prop :=
 ∃A c,e=.returned (.tuple #[.slice A (Lk.pS G).length c,.int .i64 (Au.jo G)])/\(Lk.pS G).length<=c/\c<=9223372036854775807/\mb 2 pa w' w'.heap.size A (Lk.pS G)/\β w w'
theorem Hf.nil {G:Gm.Gr} {w w':World} {er:Int} (h:Au.jo G=er) (h2:Lk.pS G=[]) (hb:β w w'):Hf G w (.returned (.tuple #[.slice none 0 0,.int .i64 er])) w':=by
 refine⟨none,0,?_,?_,ω,?_,hb⟩
 ·rw[h,h2];rfl
 ·rw[h2];exact Af _
 ·rw[h2];exact mb.nil _ _ _
theorem Uc {α:Type} (rs l:List α) (x:α) (i:Nat) (h:rs.length=i) (hi:i<(rs++[x]++l).length):(rs++[x]++l)[i]=x:=by
 subst h;simp
theorem k9 {α:Type} (rs l:List α) (x y:α) (i:Nat) (h:rs.length=i):(rs++[x]++l).set i y=rs++[y]++l:=by
 subst h;simp
theorem ia.Fq {α:Type} {T:TypeId} {c:Nat} {rs l:List (RW α)} {xs:List α} (h:ia T jl w g (rs++[((xs,A,c):RW α)]++l)) (hi:rs.length=i):w.cell? ⟨g,i,none⟩=some (.slice A xs.length c):=by
 have hl:i<(rs++[((xs,A,c):RW α)]++l).length:=by rw[AZ,AZ,BC];omega
 have:=h.cell tE i 0 hl (.slice A xs.length c) (by rw[Uc rs l _ i hi hl];rfl)
 rw[DS,CB]at this;exact this
theorem Tz (v:Value) (G:Gm.Gr) (B:Nat) (w:World) (hg:aT w B v G) (hf:Gm.Fit G) (hB:B<=w.heap.size) :
  Calls prog 28 #[v] w (Hf G w):=by
 have br:=aA (fun y (h:β w y)=>KP v G B y (hg.below h hB) hf (Ah hB h.size));have bs:=aA (fun(y:World) (h:β w y) (Aa:Option Addr) (ca:Nat) (K:List (List Au.It)) (E:List (List (Int×Int))) (hb:Gm.ja G=true) (hk:Au.ku G=some (K,E)) (ha:cB y y.heap.size Aa (K.zip E))=>Qh v G B y Aa ca K E (hg.below h hB) hf (Ah hB h.size) hb hk ha);have cl:=aA hB;obtain⟨AT,cT,AN,cN,AR,cR,rfl,_⟩:=hg;obtain⟨w1,d⟩:=χ (w.alloc (.cells #[.slice AT G.ts.length cT,.slice AN G.ns.length cN,.slice AR G.rs.length cR,.int .i64 G.st] 26))
 have l:Hid (β w w1):=aA (by rw[d];exact(AB _ _).alloc (Af _) _);have F:Hid (w1.heap[w.heap.size]?=some (.cells #[.slice AT G.ts.length cT,.slice AN G.ns.length cN,.slice AR G.rs.length cR,.int .i64 G.st] 26 (0,0))):=aA (by rw[d];exact AI w _);have cm:Hid (w.heap.size<w1.heap.size):=aA (Ad.1 F.o).1;have HS:=aA (br.o w1 l.o);have x0:=aQ F.o;have x1:=aU F.o;have x2:=bB F.o;have x3:=bL F.o;clear hf hB;cases hb:Gm.ja G with
 | false =>
  have HE:=aA (Ca (Au.lK hb) (Lk.Gh hb));unfold sN at HS;rw[HE.o.1.1,HE.o.1.2]at HS;clear hb
  go_enter func28,ntmps28
  go_upto_region 1 with fail
  rw[<-d];clear d;go_wp2_with fail
  refine HS.o.mono ?_;rintro _ w2 ⟨Aa,ca,rfl,_,_,_,b⟩;have s:=aA (l.o.trans (b.mono l.o.size));clear b x0 x1 x2 x3;generalize ([]:List nY).length=nz at *;go_wp2
  go_ret2
  exact Hf.nil HE.o.1.1 HE.o.2 s.o
 | true =>
  cases hk:Au.ku G with
  | none =>
   have HE:=aA (Ca (Au.jO hb hk) (Lk.xu hb hk));unfold sN at HS;rw[HE.o.1.1,HE.o.1.2]at HS;clear hb hk
   go_enter func28,ntmps28
   go_upto_region 1 with fail
   rw[<-d];clear d;go_wp2_with fail
   refine HS.o.mono ?_;rintro _ w2 ⟨Aa,ca,rfl,_,_,_,b⟩;have s:=aA (l.o.trans (b.mono l.o.size));clear b x0 x1 x2 x3;generalize ([]:List nY).length=nz at *;go_wp2
   go_ret2
   exact Hf.nil HE.o.1.1 HE.o.2 s.o
  | some p =>
   obtain⟨K,E⟩:=p;have HE:=aA (Ca (Au.jy hb hk) (Lk.su hb hk));obtain⟨hi,hE,a2⟩:=Au.jx hk;have hz:(K.zip E).length=K.length:=by rw[EB,hE,Nat.min_self]
   have ad:=Gm.fq.1 (Gm.gx hb);have a3:=aA (fun(MM DD:Lk.MP) (h:Lk.WI G K E MM DD []) (i k:Nat) (bu:i<K.length) (hk:k<G.rs.length)=>h.at hi hE ad (fun x hx=>(Gm.sd hb x hx).2) bu hk);have bv:=aA (fun(y:World) (h:β w y) (Aa:Option Addr) (ca:Nat) (ha:cB y y.heap.size Aa (K.zip E))=>bs.o y h Aa ca K E hb hk ha)
   have bw:=aA (fun(k v:Nat) (i:Nat) (h:Lk.lW G K E i k=some v)=>(show v<4294967296 from by
    unfold Lk.lW at h;split at h
    ·injection h with h;rw[<-h];exact Lk.uB (by have:=(Gm.fK G.ts).1 ad.t;omega) _ _
    ·cases h))
   have ah:=aA ad.kL;have ai:=aA a2;have HZ:=aA hz;unfold sN at HS;rw[HE.o.1.1,HE.o.1.2]at HS;clear hb hk hi hE a2 hz ad
   go_enter func28,ntmps28
   go_upto_region 1 with fail
   rw[<-d];clear d;go_wp2_with fail
   refine HS.o.mono ?_;rintro _ w2 ⟨Aa,ca,rfl,bx,bz,a4,b⟩;have s:=aA (l.o.trans (b.mono l.o.size));have J:=aA (aC b F.o);have aj:=aA (bv.o w2 s.o Aa ca a4);clear b x0 x1 x2 x3 a4 bx bz;have x0:=aQ J.o;have x1:=aU J.o;have x2:=bB J.o;have x3:=bL J.o;rw[HZ.o]at aj ⊢;obtain⟨n,hn⟩:∃n,K.length=n:=⟨_,rfl⟩
   rw[hn]at aj ai HZ a3 ⊢;have HN:=aA hn;clear hn;go_upto_region 4 with fail
   go_wp2_with fail
   refine aj.o.mono ?_;rintro _ w3 ⟨D,MM,DD,rfl,a5,a6,ak⟩;have a9:=aA a5;have bD:=aA (a3.o MM DD a6);have al:=aA (s.o.trans (ak.mono s.o.size));have ba:=aA (aC ak J.o);clear a5 a6 ak x0 x1 x2 x3;have cn:(n:Int)<=300:=by have:=ai.o;omega
   have bb:n<=1000000:=by have:=ai.o;omega
   go_upto_region 6 with(at_make;refine GY (m:=1) (f:=jl (α:=Int×Int)) rfl (.tmp 24) (.tmp 24) _ rfl underlying48 _ 24 TE δ δ δ (([],none,0):RW (Int×Int)) rfl n rfl rfl bb ?_;intro w4 am ae)
   obtain⟨gL,af⟩:∃g,g=w3.heap.size:=⟨_,rfl⟩
   rw[<-af]at am;rw[<-af];have bM:Hid (ia 53 jl w4 gL (([]:List (RW (Int×Int)))++List.replicate (n-0) ([],none,0))):=aA am;have bT:=aA (al.o.trans (ae.mono al.o.size));have bX:=aA (aC ae ba.o);have b0:=aA (a9.o.block (ae.block D a9.o.lt));have bc:Hid (w.heap.size<gL):=aA (by rw[af];have:=al.o.size;have:=(Ad.1 ba.o).1;omega);clear am ae af bb;go_wp2;go_loopw [28] (fun vi wr=>∃(i:Nat) (rs:List (RW (Int×Int))),i<=n/\vi=.int .i64 i/\Hid (rs.map (·.1)=(List.range i).map (Lk.gh G K E))/\Hid (∀r∈rs,bU 109 2 pa wr 0 wr.heap.size r)/\Hid (ia 53 jl wr gL (rs++List.replicate (n-i) ([],none,0)))/\Hid (Mw.fw qS wr D (Lk.gY DD))/\Hid (wr.heap[w.heap.size]?=some (.cells #[.slice AT G.ts.length cT,.slice AN G.ns.length cN,.slice AR G.rs.length cR,.int .i64 G.st] 26 (0,0)))/\Hid (β w wr)) (fun vi _=>n-(intOf vi).toNat)
   case atStart=>exact⟨0,[],Bb _,rfl,aA rfl,aA σ,bM,b0,bX,bT⟩
   case round =>
    obtain⟨i,rs,hi,rfl,ao,ap,HU,HD,HX,HW⟩:=hrel;rename World=>wr
    have bd:rs.length=i:=by
     have:=congrArg List.length ao.o
     simpa using this
    by_cases bf:i<n
    ·have x2:=bB HX.o;have co:((i:Nat):Int)<((n:Nat):Int):=ω
     have bg:=aA bf;have aq:=aA bd;have b1:(G.rs.length:Int)<=40:=by have:=ah.o;omega
     obtain⟨N0,ar⟩:∃N,N=wr.heap.size:=⟨_,rfl⟩
     rw[<-ar]at ap
     have b3:Hid (ia 53 jl wr gL (rs++[((Lk.gM G K E i 0,none,0):RW (Int×Int))]++List.replicate (n-(i+1)) ([],none,0))):=aA (by
      have:=HU.o
      rw[show n-i=(n-(i+1))+1 by omega,CY]at this;rw[Lk.pR,Cd];exact this)
     have b4:Hid (aK 109 2 pa wr N0 (.slice none (Lk.gM G K E i 0).length 0) (Lk.gM G K E i 0)):=aA (aK.nil _ _);have b5:Hid (N0<=wr.heap.size):=aA ω;have bh:Hid (gL<N0/\D<N0/\w.heap.size<N0):=aA (by rw[ar];exact⟨HU.o.lt,HD.o.lt,(Ad.1 HX.o).1⟩);clear ar bd bf;go_wp2;clear x2;go_loopw [34] (fun vk wz=>∃(k:Nat) (A:Option Addr) (c:Nat),k<=G.rs.length/\vk=.int .i64 k/\Hid (aK 109 2 pa wz N0 (.slice A (Lk.gM G K E i k).length c) (Lk.gM G K E i k))/\Hid (ia 53 jl wz gL (rs++[((Lk.gM G K E i k,A,c):RW (Int×Int))]++List.replicate (n-(i+1)) ([],none,0)))/\Hid (∀r∈rs,bU 109 2 pa wz 0 N0 r)/\Hid (Mw.fw qS wz D (Lk.gY DD))/\Hid (wz.heap[w.heap.size]?=some (.cells #[.slice AT G.ts.length cT,.slice AN G.ns.length cN,.slice AR G.rs.length cR,.int .i64 G.st] 26 (0,0)))/\Hid (β w wz)/\Hid (N0<=wz.heap.size)) (fun vk _=>G.rs.length-(intOf vk).toNat)
     case atStart=>exact⟨0,none,0,Bb _,rfl,b4,b3,ap,HD,HX,HW,b5⟩
     case round =>
      obtain⟨k,A,c,hk,rfl,HO,H,au,M,av,ag,aw⟩:=hrel;rename World=>wz;by_cases bi:k<G.rs.length
      ·have aa:=bD.o i k bg.o bi;have b6:Hid (Gm.In ((i:Int),(k:Int)).1/\Gm.In ((i:Int),(k:Int)).2):=aA ⟨by unfold Gm.In;simp only;omega,by unfold Gm.In;simp only;omega⟩;have lk:=Mw.gP (E:=qS) M.o Hg (t:=123) underlying123 (z:=.int .u32 0) κ (x:=((i:Int),(k:Int))) b6.o true;have ab:qS.enc ((i:Int),(k:Int))=.agg #[.int .i64 (i:Int),.int .i64 (k:Int)]:=rfl;rw[ab,Lk.od,aa]at lk;have ax:=aA bi;cases ha:Lk.lW G K E i k with
       | none =>
        rw[ha]at lk;simp only[Option.map_none,Option.getD_none,Option.isSome_none,if_true]at lk;have O:=aA (Lk.pP ha);clear ha aa ab;go_wp2;go_roundw
        case rel=>exact⟨k+1,A,c,ax.o,ν,by rw[O.o];exact HO,by rw[O.o];exact H,au,M,av,ag,aw⟩
        case measure=>simp[intOf];omega
       | some u =>
        rw[ha]at lk;simp only[DH,Bu,Option.isSome_some,if_true]at lk;have O:=aA (Lk.pQ ha);have b7:=aA (Lk.mL G K E i k);have cp:=bw.o k u i ha;clear ha aa ab;generalize Lk.gM G K E i k=xs at *;have cL:wz.cell? ⟨gL,i,none⟩=some (.slice A xs.length c):=H.o.Fq aq.o;have I:Hid (Below wz.heap.size wz (wz.alloc (.cells #[.int .i64 (k:Int),.int .u32 (u:Int)] 109))):=aA ((AB _ _).alloc (Af _) _);have U:=aA (HO.o.alloc (.cells #[.int .i64 (k:Int),.int .u32 (u:Int)] 109));have ay:=aA (AI wz (.cells #[.int .i64 (k:Int),.int .u32 (u:Int)] 109));have b8:=aA (H.o.below I.o H.o.lt);have bj:Hid (N0<=(wz.alloc (.cells #[.int .i64 (k:Int),.int .u32 (u:Int)] 109)).heap.size):=aA (Ah aw.o I.o.size);have bk:Hid (Below w.heap.size w (wz.alloc (.cells #[.int .i64 (k:Int),.int .u32 (u:Int)] 109))):=aA (ag.o.trans (I.o.mono (by have:=ag.o.size;omega)));have bl:=fun j (e:(Value.slice A xs.length c).ownBlock=some j)=>(Br U.o j e).1;have bm:=aA bl;clear bl;go_wp2_with (at_builtin;refine yz (f:=pa) rfl (.tmp 51) (.tmp 55) _ rfl underlying53 _ 16 Un δ δ δ Iu SD N0 _ xs rfl U.o _ _ ((k:Int),(u:Int)) rfl (Ss ((k:Int),(u:Int)) _ _ ay.o) (by have:=b7.o;have:=ax.o;omega) bj.o ?_;intro v5 w5 az a0;have V:=aA a0;have C:Hid (ia 53 jl w5 gL (rs++[((xs,A,c):RW (Int×Int))]++List.replicate (n-(i+1)) ([],none,0))):=aA (aJ U.o a0 b8.o fun cur=>aH δ);have c5:=C.o.Fq aq.o;have f5:=C.o.frozen i;have l5:=C.o.lt;obtain⟨A5,c5',rfl,_,_,_⟩:=aK.form az Iu;have bn:=aA az;clear a0 az;generalize bo:(xs++[((k:Int),(u:Int))]).length=ln at *;have bp:=aA bo;clear bo)
        have b9:Hid (aK 109 2 pa (w5.setCell ⟨gL,i,none⟩ (.slice A5 ln c5')) N0 (.slice A5 ln c5') (xs++[((k:Int),(u:Int))])):=aA (Bf bn.o (aF (AO _ _) i _) (qn bn.o C.o fun cur=>aH δ))
        have cb:Hid (ia 53 jl (w5.setCell ⟨gL,i,none⟩ (.slice A5 ln c5')) gL (rs++[((xs++[((k:Int),(u:Int))],A5,c5'):RW (Int×Int))]++List.replicate (n-(i+1)) ([],none,0))):=aA (by
         have:=C.o.xJ i ((xs++[((k:Int),(u:Int))],A5,c5'):RW (Int×Int)) A5 ln c5' rfl bp.o rfl
         rw[k9 _ _ _ _ i aq.o]at this;exact this)
        have ac:∀(g:Nat) (cur:Array Value),g<N0->wz.heap[g]?=some (.cells cur 109 (0,0))->(w5.setCell ⟨gL,i,none⟩ (.slice A5 ln c5')).heap[g]?=some (.cells cur 109 (0,0)):=fun g cur h1 h2=>by
         have h3:=aC I.o h2;have h4:w5.heap[g]?=some (.cells cur 109 (0,0)):=(V.o.block g (Ad.1 h3).1 (fun e=>by have:=bm.o g e.symm;omega)).trans h3;refine(AQ w5 ⟨gL,i,none⟩ _ g (fun e=>?_)).trans h4;have e:g=gL:=e;rw[e]at h4;have h5:=C.o;unfold ia at h5;rw[h4]at h5;injection h5 with h5;exact aH δ h5
        have cc:Hid (∀r∈rs,bU 109 2 pa (w5.setCell ⟨gL,i,none⟩ (.slice A5 ln c5')) 0 N0 r):=aA (fun r hr=>(au.o r hr).fp fun g cur _ h2 h3=>ac g cur h2 h3)
        have cd:Hid (Mw.fw qS (w5.setCell ⟨gL,i,none⟩ (.slice A5 ln c5')) D (Lk.gY DD)):=aA (by
         have ce:=M.o.block (I.o.block D M.o.lt);obtain⟨es,ck,hm,hr⟩:=ce;have a1:=aJ U.o V.o hm fun cur e=>by cases e
         refine⟨es,ck,(AQ w5 ⟨gL,i,none⟩ _ D (fun e=>?_)).trans a1,hr⟩
         have:=bh.o
         have e:D=gL:=e;rw[e]at a1;have h5:=C.o;unfold ia at h5;rw[a1]at h5;cases h5)
        have cf:Hid ((w5.setCell ⟨gL,i,none⟩ (.slice A5 ln c5')).heap[w.heap.size]?=some (.cells #[.slice AT G.ts.length cT,.slice AN G.ns.length cN,.slice AR G.rs.length cR,.int .i64 G.st] 26 (0,0))):=aA ((AQ w5 ⟨gL,i,none⟩ _ w.heap.size (fun e=>by have e:w.heap.size=gL:=e;have:=bc.o;omega)).trans (aJ U.o V.o (aC I.o av.o) fun cur=>aH δ));have cg:Hid (Below w.heap.size w (w5.setCell ⟨gL,i,none⟩ (.slice A5 ln c5'))):=aA ((bk.o.grown V.o bk.o.size (fun j e=>by have:=bm.o j e;have:=bh.o;omega)).setCell (by have:=bc.o;simp only;omega) _);have ch:Hid (N0<=(w5.setCell ⟨gL,i,none⟩ (.slice A5 ln c5')).heap.size):=aA (by have:=bj.o;have:=V.o.size;simp;omega);clear ac c5 f5 l5;go_roundw
        case rel=>exact⟨k+1,A5,c5',ax.o,ν,by rw[O.o,bp.o];exact b9,by rw[O.o];exact cb,cc,cd,cf,cg,ch⟩
        case measure=>simp[intOf];omega
      ·obtain rfl:k=G.rs.length:=ω
       rw[Lk.mK]at HO H
       have ci:Hid (∀r∈rs++[((Lk.gh G K E i,A,c):RW (Int×Int))],bU 109 2 pa wz 0 wz.heap.size r):=aA (fun r hr=>by
        rcases Bs.1 hr with hr|hr
        ·exact(au.o r hr).more aw.o
        ·rw[AW.1 hr];obtain⟨A9,c9,e9,h1,h2,_⟩:=aK.form HO.o Iu;injection e9 with e1 e2 e3;subst e1 e3;exact⟨h1,by unfold maxLen at h2;simp only;omega,(HO.o.ve Iu).less (Bb _)⟩)
       have cj:Hid ((rs++[((Lk.gh G K E i,A,c):RW (Int×Int))]).map (·.1)=(List.range (i+1)).map (Lk.gh G K E)):=aA (by rw[Bi,ao.o,CM,Bi];rfl);go_wp2;go_roundw
       case rel=>exact⟨i+1,_,bg.o,ν,cj,ci,H,M,av,ag⟩
       case measure=>simp[intOf];omega
    ·obtain rfl:i=n:=ω
     have HR:Hid ((List.range i).map (Lk.gh G K E)=Lk.pS G):=aA (by rw[HE.o.2,HN.o]);have bq:Hid ((Lk.pS G).length=i):=aA (by rw[<-HR.o];simp);rw[DB,Er,CG]at HU;go_wp2
     go_ret2
     refine⟨some ⟨gL,0,none⟩,i,?_,by rw[bq.o];exact Af _,ω,?_,HW.o⟩
     ·rw[bq.o,HE.o.1.1];rfl
     ·have:=ia.GB HU.o HU.o.lt ap.o
      rw[ao.o,HR.o]at this;exact this
namespace Lk
open Au Gm Go.Mw
def FR (L:List (List It)):SS:=L.map fun l=>l.map fun _=>0
theorem My (L:List (List It)) (q:Nat):(FR L).getD q []=(L.getD q []).map fun _=>0:=by
 unfold FR;rw[Aw,BO,Aw];cases L[q]? <;> rfl
theorem Tg (l:List It) (i:Nat):(l.map fun _=>(0:Nat)).getD i 0=0:=by
 rw[Aw,BO];cases l[i]? <;> rfl
theorem JW (L:List (List It)):Fit L (FR L):=⟨by simp[FR],fun q=>by rw[My,Bh]⟩
theorem Td (G:Gr) (E:List (List (Int×Int))) (L:List (List It)):lH G E L (FR L):=fun q x t h=>by
 obtain⟨i,_,h2⟩:=h;rw[My,Tg,Dl]at h2;cases h2
def He (G:Gr) (L:List (List It)):SS:=gv L (FR L) 0 (-1,0) (2 ^ G.ts.length)
theorem SI {t:Nat} (h:(2 ^ n).testBit t=true):t=n:=by
 rw[CI]at h;exact(CN h).symm
section
variable {G:Gr} {K:List (List It)} {E:List (List (Int×Int))}
theorem J1 (hi:Inv G K E):Fit (fN G K) (He G (fN G K))/\lH G E (fN G K) (He G (fN G K))/\At (fN G K) (He G (fN G K)) 0 (-1,0) G.ts.length:=by
 refine⟨z7 (JW _) _ _ _,J4 (JW _) (Td _ _ _) fun t h=>by rw[SI h];exact .st,(FP (JW _)).2 (.inr ⟨rfl,rfl,by rw[CI];simp,?_⟩)⟩;have h0:=sn hi (.st:La G E 0 (-1,0) G.ts.length);rw[zP h0.1];exact List.getElem?_of_mem h0.2
end
def Jb (nu:List Bool) (f:List Nat) (G:Gr) (tw:Nat->Int->Nat) (L:List (List It)) (S:SS) (p:Nat×Nat):SS :=
 match (L.getD p.1 [])[p.2]? with
 | none=>S
 | some x=>match nx G x with
  | none=>S
  | some sym=>if(S.getD p.1 []).getD p.2 0=0 then S else
   if 0<=sym then gv L S (tw p.1 sym) (x.1,x.2+1) ((S.getD p.1 []).getD p.2 0)
   else(List.range G.rs.length).foldl (uR G L p.1 sym (jG nu f ((S.getD p.1 []).getD p.2 0) (rest G x))) (gv L S (tw p.1 sym) (x.1,x.2+1) ((S.getD p.1 []).getD p.2 0))
theorem Gt {G:Gr} {nu:List Bool} {f:List Nat} (h1:gn false G.rs G.ns.length=nu) (h2:fst G=f):ps G=Jb nu f G:=by subst h1 h2;rfl
def Gs (L:List (List It)):List (Nat×Nat):=(List.range L.length).flatMap fun q=>(List.range (L.getD q []).length).map fun i=>(q,i)
theorem S4 {L:List (List It)} {q:Nat} (hq:q<L.length) (hi:i<(L.getD q []).length):(q,i)∈Gs L:=CJ.2 ⟨q,BU.2 hq,Bo.2 ⟨i,BU.2 hi,rfl⟩⟩
theorem UA {G:Gr} {tw:Nat->Int->Nat} {L:List (List It)} {S:SS} {q:Nat} (h:¬(q<L.length/\i<(L.getD q []).length)):ps G tw L S (q,i)=S:=by
 have:(L.getD q [])[i]?=none:=by
  rw[List.getElem?_eq_none_iff];rcases BM q L.length with hq|hq
  ·exact Nat.le_of_not_lt fun k=>h ⟨hq,k⟩
  ·rw[Aw,Ch hq];exact Bb _
 unfold ps;simp only[this]
theorem U7 {G:Gr} {tw:Nat->Int->Nat} {L:List (List It)} {S:SS} (p:Nat×Nat) {q:Nat} {x:It} {t:Nat} (hf:Fit L S) (h:At L S q x t):At L (ps G tw L S p) q x t:=by
 have key:∀(q':Nat) (sym:Int) (s:Nat) (ks:List Nat) (S1:SS),Fit L S1->At L S1 q x t->At L (ks.foldl (uR G L q' sym s) S1) q x t:=by
  intro q' sym s ks;induction ks with
  | nil=>exact fun _ _ h=>h
  | cons k ks ih =>
   intro S1 aa h1;rw[Dt];refine ih _ (G3 q' sym s S1 k aa).1 ?_;unfold uR;split
   ·exact(FP aa).2 (.inl h1)
   ·exact h1
 unfold ps;split
 ·exact h
 ·split
  ·exact h
  ·split
   ·exact h
   ·split
    ·exact(FP hf).2 (.inl h)
    ·exact key _ _ _ _ _ (z7 hf _ _ _) ((FP hf).2 (.inl h))
section
variable {G:Gr} {K:List (List It)} {E:List (List (Int×Int))}
structure sO (G:Gr) (K:List (List It)) (E:List (List (Int×Int))) (S:SS):Prop where
 f:Fit (fN G K) S
 s:lH G E (fN G K) S
 b:At (fN G K) S 0 (-1,0) G.ts.length
theorem sO.Oa (hi:Inv G K E):sO G K E (He G (fN G K)):=⟨(J1 hi).1,(J1 hi).2.1,(J1 hi).2.2⟩
theorem sO.ps {S:SS} (h:sO G K E S) (hi:Inv G K E) (hE:E.length=K.length) (aa:Ok G) (p:Nat×Nat):sO G K E (ps G (vF K E) (fN G K) S p) :=
 ⟨(U6 S p h.f).1,Uz aa (fun _ _ _ hx hs=>(Nq hi hE aa hx hs).1) S p h.f h.s,U7 p h.f h.b⟩
theorem sO.all (hi:Inv G K E) (hE:E.length=K.length) (aa:Ok G):∀(l:List (Nat×Nat)) (S:SS),sO G K E S->sO G K E (l.foldl (Lk.ps G (vF K E) (fN G K)) S)
 | [],_,h=>h
 | p::l,_,h=>sO.all hi hE aa l _ (h.ps hi hE aa p)
theorem sO.done {S:SS} (h:sO G K E S) (hr:∀p∈Gs (fN G K),Lk.ps G (vF K E) (fN G K) S p=S):qN G K E S:=⟨h.f,h.s,h.b,fun q i=>by
 by_cases c:q<(fN G K).length/\i<((fN G K).getD q []).length
 ·exact hr _ (S4 c.1 c.2)
 ·exact UA c⟩
theorem UI {S:SS} {L:List (List It)} (hB:ja G=true) (hb:ku G=some (K,E)) (hd:qN G K E S) (aa:Ok G) (hL:fN G K=L):pS G=(List.range K.length).map fun q=>yK G (L.getD q []) (S.getD q []) (L.getD q []).length:=by
 have hi:=jx hb;rw[su hB hb];refine Eo fun q hq=>?_;have hq:=BU.1 hq;rw[<-Ue hd hi.1 hi.2.1 aa hq,<-hL,zP hq]
theorem uD {nu:List Bool} {f:List Nat} {L:List (List It)} {S:SS} (hB:ja G=true) (hb:ku G=some (K,E)) (aa:Ok G) (hL:fN G K=L) (h1:gn false G.rs G.ns.length=nu) (h2:fst G=f) (n:Nat) (hS:(List.replicate n (Gs L)).flatten.foldl (Jb nu f G (vF K E) L) (He G L)=S) (hr:∀p∈Gs L,Jb nu f G (vF K E) L S p=S):pS G=(List.range K.length).map fun q=>yK G (L.getD q []) (S.getD q []) (L.getD q []).length:=by
 have hi:=jx hb;have hR:=sO.all hi.1 hi.2.1 aa (List.replicate n (Gs L)).flatten _ (sO.Oa hi.1);rw[hL,Gt h1 h2,hS]at hR;exact UI hB hb (hR.done (by rw[hL,Gt h1 h2];exact hr)) aa hL
end
end Lk
def rd (L:List Int):Option (Gm.R Gm.Gr):=match As L with
 | .bad _ _=>none
 | .ok xs=>match Y.source xs with
  | .ok s _=>some (Gm.build s.1 s.2)
  | .bad _=>none
def Y.more:Nat->List iu->List fv->ng (List iu)
 | 0,acc,ts=>.ok acc ts
 | _+1,acc,[]=>.ok acc []
 | f+1,acc,t::ts=>(group [] (t::ts)).bind fun ps r=>Y.more f (acc++ps) r
theorem Y.qW {t:fv} {ts r:List fv} {ps:List Y.iu} (h:Y.group [] (t::ts)=.ok ps r):t.k=1:=by
 unfold Y.group at h;obtain⟨left,m,h1,h⟩:=Y.fx h;obtain⟨e,hk⟩:=Y.gH h1;injection e with e _;subst e
 simpa using hk
theorem Vo {o:Oper} {a:Act} {K:Act->World->Prop} {Q:Exit->Act->World->Prop} (s x:Operand) (t:TypeId) (ho:o.op=.call {callee:=.builtin .append,args:=#[s,x],argTypes:=#[t,t]}) (ht:prog.underlying t=some (.slice 161)) (L:List Int) (base bu:Nat) (v u:Value) (xs ys:List Y.iu) (hs:a.eval s=v) (aa:bO L w base v xs) (hx:a.eval x=u) (ad:bO L w bu u ys) (ak:base<=bu) (al:xs.length+ys.length<=1000000) (ab:base<=w.heap.size) (hK:∀v' w',bO L w' base v' (xs++ys)->w.grownBy w' v.ownBlock->K (a.put o.dst v') w') :
  o.wp prog a w K Q:=by
 obtain⟨i,hi,am,ao,ap⟩:=CF NV;have ac:=aa;obtain⟨qs,ag,ae,aq⟩:=aa;obtain⟨qy,ah,ai,ar⟩:=ad;have ax:qs.length=xs.length:=by rw[<-ag,Bh]
 have ay:qy.length=ys.length:=by rw[<-ah,Bh]
 have au:(yc L qy).length=ys.length*5:=ai.1;rcases ai.2 with⟨rfl,h0⟩|⟨g,cap,cur,rfl,hb,hg,hn,hm,hc,av⟩
 ·have hz:ys=[]:=BI h0;subst hz;have af:=Fx (P:=prog) w base t o.type 161 i 5 ht hi v xs.length _ ae 0;unfold Oper.wp;simp[execOp,ho,resolve,invoke,builtin,hs,hx,af,Result.andThen];exact hK v w (by simpa using ac) (AO _ _)
 ·refine En w s x t ho base 161 i _ 5 88 ht hi am ao ap rfl δ v xs.length (yc L qs) hs ae ⟨g,0,none⟩ ys.length cap (yc L qy) hx au ?_ ?_ (by unfold maxLen;omega) ω ab fun v' w' h1 h2 _=>hK v' w' ?_ h2
  ·intro j z hj;have aw:j<ys.length*5:=by have:=(Bk.1 hj).1;omega
   rw[qq,BF,AF w g _ _ _ _ hg];rw[<-av,Dd aw]at hj
   simpa using hj
  ·intro z hz;obtain⟨q,_,hz⟩:=CJ.1 hz;exact KZ L q.1 q.2.1 q.2.2 z hz
  ·have aj:=zV ae δ;refine⟨qs++qy,by rw[Bi,ag,ah],?_,fun q hq=>?_⟩
   ·rw[AZ];unfold yc at h1 ⊢;rw[BW];exact h1
   ·rcases Bs.1 hq with h|h
    ·exact(aq q h).grown h2 aj
    ·exact((ar q h).less ak).grown h2 aj
theorem gU.Ga {L:List Int} {R:Nat} {ts:List fv} (h:gU L B R px py w ts):Iw R w=ts.length:=by
 obtain⟨A,c,h0,_⟩:=h.cell0;unfold Iw;rw[h0]
theorem Qp {n' size size':Nat} {e e':TypeId} {xs':List Value} (h:w.ownsRow base e size v n xs) (h':w.ownsRow base' e' size' v' n' xs') (he:e≠e'):v.ownBlock=none\/v.ownBlock≠v'.ownBlock:=by
 rcases h'.2 with⟨rfl,_⟩|⟨g,cap,cur,rfl,_,hg,_⟩
 ·rcases hv:v.ownBlock with _|k
  ·exact .inl rfl
  ·exact .inr (by simp[Value.ownBlock])
 ·exact .inr (IB h hg he)
theorem I7 (L:List Int) (A:Option Addr) (c px py:Nat) (ts:List fv) (ds:List Y.jL) (p1 ps:List Y.iu) (f1:Nat) (m m2 r1:List fv) (t9:fv) (w:World) (hr:mr L w w.heap.size A ts) (hc:ts.length<=c) (h4:ts.length<=4000) (hd:Y.decls (ts.length+1) [] ts=.ok ds m) (hk:F0 ds) (h9:Y.take [9] m=.ok t9 m2) (hg:Y.group [] m2=.ok p1 r1) (bp:Y.more f1 p1 r1=.ok ps []) :
  Calls prog 85 #[.slice A ts.length c,.complex .f64 px py] w fun e w'=>∃dv pv,e=.returned (.tuple #[.agg #[dv,pv],.complex .f64 0 0,.int .i64 0])/\bP L w' w.heap.size dv ds/\bO L w' w.heap.size pv ps/\β w w':=by
 have SC:=fun a w m X Y=>show(store a (.complex .f64 X Y) m).run prog w=stored prog w a (.complex .f64 X Y) m from run_store _ w a _ m rfl;have BR:=fun A (n c:Nat) X Y w=>(EC w 203 _ _ κ:(Instr.build 203 #[(0,.slice A n c),(1,.complex .f64 X Y)]).run prog w=.ok (.agg #[.slice A n c,.complex .f64 X Y,.complex .f64 0 0,.int .i64 0]) w)
 have BS:=fun A (n c:Nat) w=>(EC w 114 _ _ κ:(Instr.build 114 #[(0,.slice A n c)]).run prog w=.ok (.agg #[.slice A n c,.slice none 0 0]) w)
 have bq:=aA (((AB w.heap.size w).alloc (Af _) (.cells #[.slice none 0 0,.slice none 0 0] 114)).alloc σ (.cells #[.slice A ts.length c,.complex .f64 px py,.complex .f64 0 0,.int .i64 0] 203));have cb:Hid (gU L w.heap.size (w.heap.size+1) px py ((w.alloc (.cells #[.slice none 0 0,.slice none 0 0] 114)).alloc (.cells #[.slice A ts.length c,.complex .f64 px py,.complex .f64 0 0,.int .i64 0] 203)) ts):=aA ⟨A,c,by have:=AI (w.alloc (.cells #[.slice none 0 0,.slice none 0 0] 114)) (.cells #[.slice A ts.length c,.complex .f64 px py,.complex .f64 0 0,.int .i64 0] 203);rwa [show(w.alloc (.cells #[.slice none 0 0,.slice none 0 0] 114)).heap.size=w.heap.size+1 by simp]at this,hc,h4,hr.below bq.o (Af _),ω⟩;have HD:=aA (fun(x:World) (B R:Nat) (h:gU L B R px py x ts)=>Vf L B R px py (ts.length+1) ts ds m x h hd ω hk);have H9:=aA (fun(x:World) (B R:Nat) (h:gU L B R px py x m)=>FI L B R px py m 9 9 x h t9 m2 ((Hv 9 m).trans h9));have HG:=aA (fun(x:World) (B R:Nat) (h:gU L B R px py x m2)=>NC L B R px py m2 p1 r1 x h hg);have br:=aA bp;have cc:=aA (Y.nE hg);unfold cH at H9;clear hr hc h4 hd hk h9 hg bp
 go_enter func85,ntmps85
 go_wp2_with fail
 refine(HD.o _ _ _ cb.o).mono ?_;rintro _ w2 ⟨aw,v2,rfl,a4,a5⟩;have bs:=rL aw ((Ef (B:=w.heap.size+1) ((AB _ (w.alloc (.cells #[.slice none 0 0,.slice none 0 0] 114))).alloc σ (.cells #[.slice A ts.length c,.complex .f64 px py,.complex .f64 0 0,.int .i64 0] 203)) w.heap.size ω).trans (AI w _)) ω;obtain⟨A2,c2,rfl,_,_⟩:=a4.form;have cd:=aA aw;have cr:w.heap.size+2<=w2.heap.size:=by have:=aw.size;simpa using this
 have bu:=aA a4;have ce:=aA a5.other;have cf:=aA (a5.alloc (.cells #[.slice A2 ds.length c2,.slice none 0 0] 114));have cg:=aA ((BD w2 (.cells #[.slice A2 ds.length c2,.slice none 0 0] 114) w.heap.size ω).trans bs);clear aw a4 a5 bs;go_wp2_with fail
 refine(H9.o _ _ _ cf.o).mono ?_;rintro _ w3 ⟨rfl,b,C⟩;have a6:=aA b;have bv:=aA C;have ch:=aA (rL b cg.o ω);have ci:=aA (KI b (by omega:w.heap.size+1<w2.heap.size));clear b C;go_wp2_with fail
 have bw:Hid (p1.length+r1.length<=4000):=aA (by have h1:=cc.o;have h2:=bv.o.len;simp at h1;omega);refine(HG.o _ _ _ bv.o).mono ?_;rintro _ w4 ⟨g,v4,rfl,D,a9⟩;obtain⟨A4,c4,rfl,_,_⟩:=D.form;have cs:w2.heap.size+1<=w3.heap.size:=by have:=a6.o.size;simpa using this
 have cu:w3.heap.size<=w4.heap.size:=g.size;have u:=rL g ci.o ω;have I:=rL g ch.o ω;have cj:=aA ((aI cd.o (.cells #[.slice A2 ds.length c2,.slice none 0 0] 114)).trans (a6.o.trans g));have b0:=AF w4 _ 0 _ _ _ u;have b1:=AF w4 _ 1 _ _ _ u;have fb1:=AM w4 _ 1 _ _ u;have z0:=AF w4 _ 0 _ _ _ I;have z1:=AF w4 _ 1 _ _ _ I;have fz0:=AM w4 _ 0 _ _ I;have fz1:=AM w4 _ 1 _ _ I;have cv:=a9.lt;have M:=aA D;have l:=aA (bu.o.grown ((aI (AO w2 (some (w.heap.size+1))) (.cells #[.slice A2 ds.length c2,.slice none 0 0] 114)).trans (a6.o.trans g)) ⟨ce.o,by obtain⟨z,hz⟩:=bu.o.own;simp at hz;exact vP hz ω⟩);have ck:∃w5:World,w5=w4.setCell ⟨w2.heap.size,1,none⟩ (.slice A4 p1.length c4):=⟨_,rfl⟩
 obtain⟨w5,y⟩:=ck;have bx:w5.heap[w2.heap.size]?=some (.cells #[.slice A2 ds.length c2,.slice A4 p1.length c4] 114 (0,0)):=by rw[y,Ba w4 _ 1 _ _ _ u];rfl
 have bz:w5.heap[w.heap.size]?=some (.cells #[.slice none 0 0,.slice none 0 0] 114 (0,0)):=by rw[y,AQ _ _ _ _ (by simp only;omega)];exact I
 have bD:Hid (gU L w.heap.size (w.heap.size+1) px py w5 r1):=aA (by rw[y];exact a9.jv _ _ _ ω);have al:Hid (bP L w5 (w.heap.size+2) (.slice A2 ds.length c2) ds):=aA (by rw[y];have h:=l.o.grown (aF (AO w4 (some w2.heap.size)) 1 (.slice A4 p1.length c4)) ⟨Ft u,by obtain⟨z,hz⟩:=l.o.own;exact aP hz u (fun cur e=>by injection e with _ e;exact absurd e δ)⟩;simpa using h);have am:Hid (bO L w5 w3.heap.size (.slice A4 p1.length c4) p1):=aA (by rw[y];exact D.grown (aF (AO w4 (some w2.heap.size)) 1 (.slice A4 p1.length c4)) ⟨Ft u,by obtain⟨z,hz⟩:=D.own;exact aP hz u (fun cur e=>by injection e with _ e;exact absurd e δ)⟩)
 have F:Hid (β w w5):=aA (by
  rw[y];refine Em ?_ (p:=⟨w2.heap.size,1,none⟩) (by simp only;omega) _;exact bq.o.grown cj.o (by simp;omega) (fun k e=>by injection e with e;omega))
 clear g D a9;go_wp2_with fail
 rw[<-y];have bM:=aA bx;have bT:=aA bz;have ao:w3.heap.size<=w5.heap.size:=by rw[y];simp;omega
 clear y bx bz b0 b1 fb1 z0 z1 fz0 fz1 u I M l;go_loopw [] (fun wt=>∃(f:Nat) (acc:List Y.iu) (rest:List fv) (A:Option Addr) (c:Nat),Hid (Y.more f acc rest=.ok ps [])/\acc.length+rest.length<=4000/\wt.heap[w2.heap.size]?=some (.cells #[.slice A2 ds.length c2,.slice A acc.length c] 114 (0,0))/\wt.heap[w.heap.size]?=some (.cells #[.slice none 0 0,.slice none 0 0] 114 (0,0))/\gU L w.heap.size (w.heap.size+1) px py wt rest/\bP L wt (w.heap.size+2) (.slice A2 ds.length c2) ds/\bO L wt w3.heap.size (.slice A acc.length c) acc/\β w wt/\w3.heap.size<=wt.heap.size) (fun wt=>Iw (w.heap.size+1) wt)
 case atStart=>exact⟨f1,p1,r1,A4,c4,br,bw.o,bM.o,bT.o,bD.o,al.o,am.o,F.o,ao⟩
 case round =>
  clear br bw bM bT bD al am F ao;obtain⟨f,acc,rest,A,c,HM,ba,J,E,ax,bb,bc,bd,bf⟩:=hrel;obtain⟨Ax,cx,r0,r3,_⟩:=ax.cell0;have bX:=aA J;have ay:=aA E;have az:=aA ax;have a0:=aA bb;have a1:=aA bc;have F:=aA bd;have b3:=aA bf;have b4:=aA ba;have cl:w.heap.size<wr.heap.size:=(Ad.1 E).1;have bg:w2.heap.size<wr.heap.size:=(Ad.1 J).1;rcases rest with _|⟨t,m1⟩
  ·have bh:Hid (acc=ps):=aA (by
    have h:=HM.o;cases f with
    | zero=>injection h
    | succ f=>injection h)
   have p0:=AF wr _ 0 _ _ _ J;have p1':=AF wr _ 1 _ _ _ J;have y0:=AF wr _ 0 _ _ _ E;have y1:=AF wr _ 1 _ _ _ E;have gz0:=AM wr _ 0 _ _ E;have gz1:=AM wr _ 1 _ _ E;clear J E ax bb bc bd bf ba HM;go_wp2;have bi:=aF (aF (AO wr (some w.heap.size)) 0 (.slice A2 ds.length c2)) 1 (.slice A acc.length c);refine B3 (v:=.tuple #[.agg #[.slice A2 ds.length c2,.slice A acc.length c],.complex .f64 0 0,.int .i64 0]) (by simp[results,results85,go_sem,y0,y1]) rfl ⟨_,_,rfl,?_,?_,?_⟩
   ·exact(a0.o.grown bi ⟨Ft ay.o,by obtain⟨z,hz⟩:=a0.o.own;exact vP hz ω⟩).pO ω
   ·rw[<-bh.o];exact(a1.o.grown bi ⟨Ft ay.o,by obtain⟨z,hz⟩:=a1.o.own;exact vP hz ω⟩).pO ω
   ·exact F.o.grown bi F.o.size (fun k e=>by injection e with e;omega)
  ·obtain⟨f,rfl⟩:∃f',f=f'+1:=by
    cases f with
    | zero=>have h:=HM.o;injection h with _ h;cases h
    | succ f=>exact⟨f,rfl⟩
   have hY:=HM.o;rw[Y.more]at hY;obtain⟨p2,r2,a2,ap⟩:=Y.fx hY;have bj:=aA ap;have ae:=aA (Y.nE a2);have b5:=aA (fun(x:World) (h:gU L w.heap.size (w.heap.size+1) px py x (t::m1))=>Ke L w.heap.size (w.heap.size+1) px py (t::m1) x h);have b6:=aA (fun(x:World) (h:gU L w.heap.size (w.heap.size+1) px py x (t::m1))=>NC L w.heap.size (w.heap.size+1) px py (t::m1) p2 r2 x h a2);rw[show kd (t::m1)=1 from Y.qW a2]at b5;have cm:0<((t::m1).length:Int):=σ
   have cn:Hid ((t::m1).length=m1.length+1):=aA rfl;clear hY a2 ap HM J E ax bb bc bd bf ba;have co:Hid ((t::m1).length=Iw (w.heap.size+1) wr):=aA az.o.Ga.symm;generalize cp:t::m1=rst at *;clear cp;go_wp2_with fail
   refine(b5.o _ az.o).mono ?_;rintro _ _ ⟨rfl,rfl⟩;go_upto_region 6 with fail
   refine Calm.fk (fun _=>True) (.two [0,2] 1 (.one [] 3 (.one [] 4 (.one [5] 6 (.fin [])))) 3 (.one [] 1 (.one [] 4 (.one [5] 6 (.fin []))))) trivial ?_;obtain⟨x2,a3⟩:∃x,x=wr.drew:=⟨_,rfl⟩
   rw[<-a3];have H:wr.grownBy x2 .none:=by rw[a3];exact tC _ _
   have b7:β w x2:=by rw[a3];exact aB F.o 1
   have af:=aA ((H.block w2.heap.size bg σ).trans bX.o);have aq:=aA ((H.block w.heap.size cl σ).trans ay.o);have r:=aA (az.o.row H);have aa:=aA (a0.o.grown H (yU.none _ _));have ab:=aA (a1.o.grown H (yU.none _ _));have ac:=aA b7;have ad:Hid (w3.heap.size<=x2.heap.size):=aA (Ah b3.o H.size);clear a3 H b7 bX ay az a0 a1 F b3;simp only[Calm.fS,Calm.fu,Calm.fo,Aq,Ai,Am];repeat (go_big_quiet_step (fail))
   refine Ap ?_;refine⟨?_,?_⟩
   focus
    intro KK s;try rw[Az ε]
    have c1:=AF x2 _ 1 _ _ _ af.o;go_wp2_with fail
    clear c1;refine s _ _ trivial (fun _=>True) (fun _ _=>trivial) trivial ?_;repeat (go_big_quiet_step (fail))
    refine Ap ?_;intro KK s;try rw[Az ε]
    go_wp2_with fail
    refine(b6.o _ r.o).mono ?_;rintro _ x3 ⟨b,v3,rfl,N,C⟩;have ag:=aA (rL b af.o ω);have ar:=aA (rL b aq.o ω);have au:=aA C;have ah:=aA (aa.o.grown b ⟨r.o.other,by obtain⟨z,hz⟩:=aa.o.own;exact vP hz ω⟩);have ai:=aA (ab.o.grown b ⟨r.o.other,by obtain⟨z,hz⟩:=ab.o.own;exact vP hz ω⟩);have aj:=aA (ac.o.grown b ac.o.size (fun k e=>by injection e with e;omega));have ak:=aA (Ah ad.o b.size);have b8:=aA (N.pO ad.o);have bk:x2.heap.size<=x3.heap.size:=b.size;clear b N C;go_wp2_with fail
   rotate_left
   focus
    intro KK s;try rw[Az ε]
    go_wp2_with fail
    refine(b6.o _ r.o).mono ?_;rintro _ x3 ⟨b,v3,rfl,N,C⟩;have ag:=aA (rL b af.o ω);have ar:=aA (rL b aq.o ω);have au:=aA C;have ah:=aA (aa.o.grown b ⟨r.o.other,by obtain⟨z,hz⟩:=aa.o.own;exact vP hz ω⟩);have ai:=aA (ab.o.grown b ⟨r.o.other,by obtain⟨z,hz⟩:=ab.o.own;exact vP hz ω⟩);have aj:=aA (ac.o.grown b ac.o.size (fun k e=>by injection e with e;omega));have ak:=aA (Ah ad.o b.size);have b8:=aA (N.pO ad.o);have bk:x2.heap.size<=x3.heap.size:=b.size;clear b N C;go_wp2_with fail
    refine s _ _ trivial (fun _=>True) (fun _ _=>trivial) trivial ?_;repeat (go_big_quiet_step (fail))
    refine Ap ?_;intro KK s;try rw[Az ε]
    have c1:=AF x3 _ 1 _ _ _ ag.o;go_wp2_with fail
    clear c1
   all_goals
    refine s _ _ trivial (fun _=>True) (fun _ _=>trivial) trivial ?_;repeat (go_big_quiet_step (fail))
    refine Ap ?_;intro KK s;try rw[Az ε]
    refine Vo (.tmp 40) (.tmp 42) _ rfl underlying112 L w3.heap.size w3.heap.size _ v3 acc p2 rfl ai.o rfl b8.o (Af _) (by have h1:=b4.o;have h2:=ae.o;simp at h2;omega) ak.o ?_;intro v4 x4 D g;obtain⟨zo,i⟩:=ai.o.own;have j:=aA (L6 i ag.o δ g);have bl:=aA (L6 i ar.o δ g);have bm:=aA (au.o.own i g ω);have l:=aA (ah.o.grown g ⟨zV i δ,by obtain⟨z,hz⟩:=ah.o.own;exact Qp hz i δ⟩);have bn:=aA (aj.o.grown g aj.o.size (fun k e=>by have:=(Br i k e).1;omega));have bo:=aA (Ah ak.o g.size);have cq:x3.heap.size<=x4.heap.size:=g.size;have M:=aA D;clear D g i;obtain⟨A4',c4',b9,_,_⟩:=M.o.form;rw[AZ]at b9;subst b9;go_wp2_with fail
    refine s _ _ trivial (fun _=>True) (fun _ _=>trivial) trivial ?_;repeat (go_big_quiet_step (fail))
    refine Ap ?_;intro KK s;try rw[Az ε]
    have c1:=AF x4 _ 1 _ _ _ j.o;have f1':=AM x4 _ 1 _ _ j.o;go_wp2_with fail
    refine s _ _ trivial (fun _=>True) (fun _ _=>trivial) trivial ?_;refine Ap ?_;go_wp2_with fail
    have ca:=aF (AO x4 (some w2.heap.size)) 1 (.slice A4' (acc.length+p2.length) c4');have av:=aA (bm.o.jv w2.heap.size 1 (.slice A4' (acc.length+p2.length) c4') ω);go_roundw
    case rel =>
     refine⟨f,acc++p2,r2,A4',c4',bj,by have h1:=b4.o;have h2:=ae.o;simp at h2 ⊢;omega,?_,?_,av.o,?_,?_,?_,?_⟩
     ·rw[AZ,Ba x4 _ 1 _ _ _ j.o];rfl
     ·rw[AQ _ _ _ _ (by simp only;omega)];exact bl.o
     ·exact l.o.grown ca ⟨Ft j.o,by obtain⟨z,hz⟩:=l.o.own;exact aP hz j.o (fun cur e=>by injection e with _ e;exact absurd e δ)⟩
     ·rw[AZ];exact M.o.grown ca ⟨Ft j.o,by obtain⟨z,hz⟩:=M.o.own;exact aP hz j.o (fun cur e=>by injection e with _ e;exact absurd e δ)⟩
     ·exact Em bn.o (p:=⟨w2.heap.size,1,none⟩) (by simp only;omega) _
     ·simpa using bo.o
    case measure =>
     rw[av.o.Ga,<-co.o];have h2:=ae.o;have h3:=cn.o;simp at h2;omega
structure IU (L:List Int) (xs:List fv) (ds:List Y.jL) (ps:List Y.iu) (G:Gm.Gr):Prop where
 b:K.Bytes L
 n:L.length<=2000
 t:As L=.ok xs
 s:∃m t9 m2 p1 r1 f1,Y.decls (xs.length+1) [] xs=.ok ds m/\Y.take [9] m=.ok t9 m2/\Y.group [] m2=.ok p1 r1/\Y.more f1 p1 r1=.ok ps []
 z:Ez ds ps
 g:Gm.build ds ps=.ok G
theorem UB (A:Option Addr) (c:Nat) (L:List Int) (xs:List fv) (ds:List Y.jL) (ps:List Y.iu) (G:Gm.Gr) (w:World) (hr:ij w w.heap.size A L) (hc:L.length<=c) (hs:IU L xs ds ps G) :
  Calls prog 53 #[.slice A L.length c] w fun e w'=>∃dv pv,e=.returned (.tuple #[.agg #[dv,pv],.complex .f64 0 0,.int .i64 0])/\bP L w' w.heap.size dv ds/\bO L w' w.heap.size pv ps/\β w w':=by
 have SC:=fun a w m X Y=>show(store a (.complex .f64 X Y) m).run prog w=stored prog w a (.complex .f64 X Y) m from run_store _ w a _ m rfl;have HT:=aA (fun(w1:World) (h1:β w w1)=>QF A c L xs w1 (hr.up h1) hs.b hc hs.n hs.t);have aa:=aA (fun o=>((AB w.heap.size w).alloc (Af _) o));obtain⟨m,t9,m2,p1,r1,f1,s1,s2,s3,s4⟩:=hs.s;have aj:xs.length<=4000:=by have:=(PH L hs.b xs hs.t).count;have:=hs.n;omega
 have af:=aA (fun(w1:World) (A':Option Addr) (c':Nat) (h1:mr L w1 w1.heap.size A' xs) (h2:xs.length<=c')=>I7 L A' c' (Fl.fl (Pl.pos L).1) (Fl.fl (Pl.pos L).2) xs ds p1 ps f1 m m2 r1 t9 w1 h1 h2 aj s1 hs.z.k s2 s3 s4);clear hr hc hs s1 s2 s3 s4
 go_enter func53,ntmps53
 go_wp2_with fail
 refine(HT.o _ (aa.o _)).mono ?_;rintro _ w2 ⟨v,rfl,ho,hb⟩;obtain⟨A',c',rfl,ag,_,ah⟩:=ho.rd;have h2:w2.heap[w.heap.size]?=some (.cells #[.slice none 0 0,.slice none 0 0] 114 (0,0)):=(hb.block w.heap.size σ).trans (AI w _);have ab:=aA ((aa.o (.cells #[.slice none 0 0,.slice none 0 0] 114)).trans (hb.mono (aa.o _).size));have ai:=aA (af.o w2 A' c' ah ag);clear ho hb HT aa af ah ag;go_wp2_with fail
 refine ai.o.mono ?_;rintro _ w3 ⟨dv,pv,rfl,ac,ad,ae⟩;have h3:=(ae.block w.heap.size (Ad.1 h2).1).trans h2;have c0:=AF w3 _ 0 _ _ _ h3;have c1:=AF w3 _ 1 _ _ _ h3;have f0:=AM w3 _ 0 _ _ h3;have f1:=AM w3 _ 1 _ _ h3;have ak:=aA (ab.o.trans (ae.mono ab.o.size));have HX:=aA (Hy h3 δ);obtain⟨DA,DC,rfl,_,_⟩:=ac.form;obtain⟨PA',PC,rfl,_,_⟩:=ad.form
 have al:Hid (bP L ((w3.setCell ⟨w.heap.size,0,none⟩ (.slice DA ds.length DC)).setCell ⟨w.heap.size,1,none⟩ (.slice PA' ps.length PC)) w.heap.size (.slice DA ds.length DC) ds):=aA (by
  obtain⟨zs,hz⟩:=ac.own;exact(ac.less ab.o.size).grown (aF (aF (AO _ _) _ _) _ _) ⟨HX.o,.inr (IB hz h3 δ)⟩)
 have am:Hid (bO L ((w3.setCell ⟨w.heap.size,0,none⟩ (.slice DA ds.length DC)).setCell ⟨w.heap.size,1,none⟩ (.slice PA' ps.length PC)) w.heap.size (.slice PA' ps.length PC) ps):=aA (by
  obtain⟨zs,hz⟩:=ad.own;exact(ad.less ab.o.size).grown (aF (aF (AO _ _) _ _) _ _) ⟨HX.o,.inr (IB hz h3 δ)⟩)
 clear ac ad ae ai h2 h3;go_wp2;refine B3 (v:=.tuple #[.agg #[.slice DA ds.length DC,.slice PA' ps.length PC],.complex .f64 0 0,.int .i64 0]) (by simp[results,results53,go_sem,c0,c1]) rfl ?_;exact⟨_,_,rfl,al.o,am.o,Fv (Fv ak.o _ (Af _)) _ (Af _)⟩
theorem TX (A:Option Addr) (c:Nat) (L:List Int) (xs:List fv) (ds:List Y.jL) (ps:List Y.iu) (G:Gm.Gr) (w:World) (hr:ij w w.heap.size A L) (hc:L.length<=c) (hs:IU L xs ds ps G) :
  Calls prog 25 #[.slice A L.length c] w fun e w'=>(∃g,e=.returned (.tuple #[g,.complex .f64 0 0,.int .i64 0])/\aT w' w'.heap.size g G/\Gm.Fit G)/\β w w':=by
 have SC:=fun a w m X Y=>show(store a (.complex .f64 X Y) m).run prog w=stored prog w a (.complex .f64 X Y) m from run_store _ w a _ m rfl;have ac:Below w.heap.size w (w.alloc (.cells Hh 26)):=(AB w.heap.size w).alloc (Af _) _;have HP:=aA (UB A c L xs ds ps G _ (hr.up ac) hc hs);have ad:=aA ac;have ap:=aA (AI w (.cells Hh 26));have ah:=aA (fun(x:World) (A1 A2:Option Addr) (c1 c2:Nat) (h1:DO L x x.heap.size A1 ds) (h2:BE L x x.heap.size A2 ps)=>Vi L ds ps A1 A2 c1 c2 G x h1 h2 hs.z hs.g);unfold Hh at HP ad;clear hr hc hs ac
 go_enter func25,ntmps25
 go_wp2_with fail
 refine HP.o.mono ?_;rintro _ w2 ⟨dv,pv,rfl,ai,aj,ae⟩;obtain⟨A1,c1,rfl,ak⟩:=Rz ai;obtain⟨A2,c2,rfl,al⟩:=Qm aj;have b:=(ae.block w.heap.size σ).trans ap.o;have az:=aA b;have am:=aA (ad.o.trans (ae.mono ad.o.size));have aq:=(Ad.1 b).1;obtain⟨w3,ab⟩:∃x,x=w2.alloc (.cells #[.slice A1 ds.length c1,.slice A2 ps.length c2] 114):=⟨_,rfl⟩
 have af:Hid (β w w3):=aA (by rw[ab];exact am.o.alloc am.o.size _);have d:β w2 w3:=by rw[ab];exact(AB _ _).alloc (Af _) _
 have ao:Hid (w3.heap[w.heap.size]?=some (.cells Hh 26 (0,0))):=aA ((d.block _ aq).trans b);have ar:w2.heap.size<=w3.heap.size:=d.size
 have HC:=aA (ah.o w3 A1 A2 c1 c2 (fun hn=>by
   obtain⟨g,o,e,h1,h2⟩:=(ak.fp d) hn;refine⟨g,o,e,ω,fun i hi=>?_⟩;obtain⟨k1,A',c',k2,k3⟩:=h2 i hi;exact⟨k1,A',c',k2,fun hn=>by obtain⟨g,o,e,q1,q2⟩:=k3 hn;exact⟨g,o,e,ω,q2⟩⟩) (fun hn=>by
   obtain⟨g,o,e,h1,h2⟩:=(al.fp d) hn;refine⟨g,o,e,ω,fun i hi=>?_⟩;obtain⟨k1,k2,⟨A',c',k3,k4⟩,k5⟩:=h2 i hi;exact⟨k1,k2,⟨A',c',k3,fun hn=>by obtain⟨g,o,e,q1,q2⟩:=k4 hn;exact⟨g,o,e,ω,q2⟩⟩,k5⟩))
 rw[ab]at HC af ao;clear ae b ai aj ak al ab d ar ah;go_wp2_with fail
 refine HC.o.mono ?_;rintro _ w4 ⟨⟨g,rfl,au,aa⟩,ag⟩;have b:=(ag.block w.heap.size (by simp;omega)).trans ao.o;have g0:=aQ b;have g1:=aU b;have g2:=bB b;have g3:=bL b;have f0:=AM w4 _ 0 _ _ b;have f1:=AM w4 _ 1 _ _ b;have f2:=AM w4 _ 2 _ _ b;have f3:=AM w4 _ 3 _ _ b;have av:=(Ad.1 b).1;have aw:=aA (af.o.trans (ag.mono af.o.size));obtain⟨B,N,R,cs,vT,vN,vR,rfl,h,hN⟩:=au;obtain⟨⟨AT,cT,rfl⟩,⟨AN,cN,rfl⟩,⟨AR,cR,rfl⟩⟩:=zU h;have ax:=aA (fun u0 u1 u2 u3=>(h.more hN).grown (aF (aF (aF (aF (AO w4 (some w.heap.size)) 0 u0) 1 u1) 2 u2) 3 u3) (⟨fun g e=>by injection e with e;subst e;exact⟨_,_,b,δ,δ,δ,.inl ⟨δ,δ⟩⟩⟩));have ay:=aA aa;clear ag b h hN aa;go_wp2;refine B3 (v:=.tuple #[.agg #[.slice AT G.ts.length cT,.slice AN G.ns.length cN,.slice AR G.rs.length cR,.int .i64 G.st],.complex .f64 0 0,.int .i64 0]) (by simp[results,results25,go_sem,g0,g1,g2,g3]) rfl ?_;exact⟨⟨_,rfl,(ax.o _ _ _ _).rd σ G.st,ay.o⟩,Fv (Fv (Fv (Fv aw.o _ (Af _)) _ (Af _)) _ (Af _)) _ (Af _)⟩
def GJ (s:List Int):Bool:=(s.all fun z=>decide (0<=z)&&decide (z<256))&&decide (s.length<=100)
def IL (x:fv):Bool:=GJ x.t&&Gm.named x.t && !(x.t==[101,114,114,111,114])
def IW (d:Y.jL):Bool:=(d.k==4||d.k==5)&&(d.ns.all fun x=>GJ x.t&&Gm.named x.t)&&decide (d.ns.length<=1000)
def Ja (p:Y.iu):Bool:=GJ p.l.t&&T.isName p.l.t&&(p.r.all IL)&&(match p.p with|none=>true|some x=>IL x)&&decide (p.r.length<=1000)
def I0 (ds:List Y.jL) (ps:List Y.iu):Bool:=ds.all IW&&ps.all Ja&&decide (ds.length<=1000)&&decide (ps.length<=1000)&&decide (0<ps.length)
theorem JZ {s:List Int} (h:GJ s=true):K.Tx s:=by
 unfold GJ at h;rw[Bd,Bj]at h;exact⟨xV _ h.1,ω⟩
theorem MY (h:IL x=true):Kq x:=by
 unfold IL at h;simp only[Bd]at h;exact⟨JZ h.1.1,h.1.2,by simpa using h.2⟩
theorem T6 {ps:List Y.iu} (h:I0 ds ps=true):Ez ds ps:=by
 unfold I0 at h;simp only[Bd,Bj,B6]at h;obtain⟨⟨⟨⟨h1,h2⟩,h3⟩,h4⟩,h5⟩:=h;refine⟨fun d hd=>?_,fun d hd=>?_,fun p hp=>?_,fun p hp=>?_,h3,h4,h5⟩
 ·have:=h1 d hd
  unfold IW at this;simp only[Bd,CR,BP]at this;exact this.1.1
 ·have:=h1 d hd
  unfold IW at this;simp only[Bd,B6,Bj]at this;exact⟨fun x hx=>⟨JZ (this.1.2 x hx).1,(this.1.2 x hx).2⟩,ω⟩
 ·have:=h2 p hp
  unfold Ja at this;simp only[Bd]at this;exact⟨JZ this.1.1.1.1,this.1.1.1.2⟩
 ·have:=h2 p hp
  unfold Ja at this;simp only[Bd,B6,Bj]at this;refine⟨fun x hx=>MY (this.1.1.2 x hx),fun x hx=>?_,this.2⟩;have h6:=this.1.2;rw[hx]at h6;exact MY h6
def Ge (L:List Int):Option Gm.Gr :=
 match As L with
 | .ok xs=>match Y.decls (xs.length+1) [] xs with
  | .ok ds m=>match Y.take [9] m with
   | .ok _ m2=>match Y.group [] m2 with
    | .ok p1 r1=>match Y.more (r1.length+1) p1 r1 with
     | .ok ps []=>match I0 ds ps,Gm.build ds ps with
      | true,.ok G=>some G
      | _,_=>none
     | _=>none
    | _=>none
   | _=>none
  | _=>none
 | _=>none
theorem TY {L:List Int} (hb:(L.all fun z=>decide (0<=z)&&decide (z<256))=true) (hn:L.length<=2000) (h:Ge L=some G):∃xs ds ps,IU L xs ds ps G:=by
 unfold Ge at h;split at h
 ·rename_i xs h1
  split at h
  ·rename_i ds m h2
   split at h
   ·rename_i t9 m2 h3
    split at h
    ·rename_i p1 r1 h4
     split at h
     ·rename_i ps h7
      split at h
      ·rename_i h5 h6
       injection h with h;subst h;exact⟨xs,ds,ps,xV _ hb,hn,h1,⟨m,t9,m2,p1,r1,_,h2,h3,h4,h7⟩,T6 h5,h6⟩
      ·cases h
     ·cases h
    ·cases h
   ·cases h
  ·cases h
 ·cases h
theorem Lc (L:List Int) (G:Gm.Gr) (hb:(L.all fun z=>decide (0<=z)&&decide (z<256))=true) (hl:L.length<=2000) (hg:Ge L=some G) (w:World) (n:Nat) (hw:n=w.heap.size) :
  Calls prog 25 #[.slice (some ⟨n,0,none⟩) L.length L.length] (w.alloc (xW L)) fun e w'=>(∃g,e=.returned (.tuple #[g,.complex .f64 0 0,.int .i64 0])/\aT w' w'.heap.size g G/\Gm.Fit G)/\β w w':=by
 subst hw;obtain⟨xs,ds,ps,hs⟩:=TY hb hl hg;obtain⟨r1,r2⟩:=I2 w L;exact(TX _ L.length L xs ds ps G _ r1 (Af _) hs).mono fun e w' h=>⟨h.1,r2.trans (h.2.mono r2.size)⟩
def Ha:List Int:=[37,37,32,115,32,58,32,39,97,39,32,115,32,124,32,59]
def bI:Gm.Gr:=⟨[⟨[39,97,39],0,0⟩],[[115]],[⟨0,[0,-1],0⟩,⟨0,[],-1⟩],0⟩
theorem Vt:Ge Ha=some bI:=κ
theorem zY:Gm.right bI=true:=by decide +kernel
theorem J8:Gm.gn true bI.rs bI.ns.length=[true]:=by
 rw[<-Gm.kX (Gm.fq.1 zY).iO];decide +kernel
theorem U3:Gm.rc bI=[true]:=by
 have h:=Gm.fq.1 zY;rw[<-Gm.mS h.iO h.sin h.s0 h.s1,J8];decide +kernel
theorem N2:Gm.ni bI=0:=Gm.oO zY (by
 have aa:=Gm.fq.1 zY;have h0:=aa.s0;have h1:=aa.s1
 have e:Gm.tr (Gm.Gn true bI.rs bI.st)=(Gm.gn true bI.rs bI.ns.length).getD bI.st.toNat false:=by
  rw[Gm.mH _ _ _ _ ω,BH h0]
 rw[e,J8];decide)
theorem UR {x:Gm.Rl} (hx:x∈bI.rs):Gm.use bI x=Gm.oJ [true] [true] x:=by
 rw[<-Gm.mo (Gm.fq.1 zY) hx,J8,U3]
theorem NT:Gm.iB bI=[⟨0,[0,-1],0⟩,⟨0,[],-1⟩]:=by
 have e:Gm.iB bI=bI.rs.filter (Gm.oJ [true] [true]):=List.filter_congr fun x hx=>UR hx;exact e.trans κ
theorem UD:Gm.ft bI=[0]:=by unfold Gm.ft;rw[NT];decide +kernel
theorem UZ:Gm.reduce bI=bI:=by unfold Gm.reduce;rw[NT,UD];rfl
theorem Kg:Gm.ja bI=true:=by
 unfold Gm.ja Gm.nL;rw[Az N2,UZ,N2,Gm.nO];rfl
def Kk:List (List Au.It):=[[(-1,0)],[(0,1)],[(-1,1)],[(0,2)]]
def IY:List (List (Int×Int)):=[[(0,1),(-1,2)],[(0,1),(-1,3)],[],[]]
theorem Kb:Au.ku bI=some (Kk,IY):=Au.yi (by decide +kernel)
theorem Vn:Au.jo bI=0:=(Au.jy Kg Kb).1
theorem Uu:Gm.right Gm.lU=false:=by decide +kernel
theorem Gg:Gm.ja Gm.lU=false:=by
 cases h:Gm.ja Gm.lU
 ·rfl
 ·have:=Gm.gx h
  rw[Uu]at this;cases this
theorem Vz:Au.jo Gm.lU=1:=(Au.lK Gg).1
namespace Tb
abbrev Ce:=Int×Int
def nF (G:Gm.Gr) (k t:Int):Int :=
 let p:=(G.rs.getD k.toNat ⟨0,[],0⟩).p
 if t=G.ts.length\/p<0\/(G.ts.getD p.toNat ⟨[],0,0⟩).lv=0\/(G.ts.getD t.toNat ⟨[],0,0⟩).lv=0 then 4
 else
  let a:=(G.ts.getD p.toNat ⟨[],0,0⟩).lv
  let b:=(G.ts.getD t.toNat ⟨[],0,0⟩).lv
  let y:=(G.ts.getD t.toNat ⟨[],0,0⟩).wy
  if a > b\/a=b/\y=1 then 1 else if a<b\/y=2 then 2 else 3
def settle (G:Gm.Gr) (k t:Int):Int:=if Gm.right G=true/\0<=k/\k<G.rs.length/\0<=t/\t<=G.ts.length then nF G k t else 0
theorem za (G:Gm.Gr) (k t:Int):nF G k t=1\/nF G k t=2\/nF G k t=3\/nF G k t=4:=by
 unfold nF;simp only;split
 ·simp
 ·split
  ·simp
  ·split <;> simp
def aW:List (Int×Int)->Int->Int
 | [],_=>-1
 | e::l,s=>if e.1=s then e.2 else aW l s
theorem Hs {l:List (Int×Int)} (h:∀e∈l,e.1≠s):aW l s = -1:=by
 induction l with
 | nil=>rfl
 | cons e l ih=>rw[aW,AJ (h e Bn),ih fun x hx=>h x (Bq _ hx)]
def shift (G:Gm.Gr) (k:List Au.It) (ed:List (Int×Int)) (t:Int):Ce :=
 if t∈ed.map (·.1) then(1,aW ed t) else if t=G.ts.length/\((-1:Int),(1:Int))∈k then(3,0) else(0,0)
abbrev Cf:=Int×Int×Int×Int
def cell (G:Gm.Gr) (x:Ce) (t:Int):List Int->Ce×List Cf
 | []=>(x,[])
 | k::ks =>
  let out:=ks.map fun j=>(t,5,j,k)
  if x.1=0 then((2,k),out)
  else
   (if nF G k t=1 then(2,k) else if nF G k t=3 then(0,0) else x,out++[(t,nF G k t,k,-1)])
def one (b:Bool):Nat:=if b then 1 else 0
theorem Qd {x:Ce} (h:(cell G x t ks).2=[]) (hx:x.1≠0):(cell G x t ks).1=x/\ks=[]:=by
 cases ks with
 | nil=>exact⟨rfl,rfl⟩
 | cons k ks =>
  unfold cell at h;simp only at h;rw[AJ hx]at h;simp at h
theorem Qc {x:Ce} (h:(cell G x t ks).1.1=1):(cell G x t ks).1=x:=by
 cases ks with
 | nil=>rfl
 | cons k ks =>
  unfold cell at h ⊢;simp only at h ⊢;by_cases hx:x.1=0
  ·rw[Az hx]at h;simp at h
  ·rw[AJ hx]at h ⊢;simp only at h ⊢;by_cases h1:nF G k t=1
   ·rw[Az h1]at h;simp at h
   ·rw[AJ h1]at h ⊢;by_cases h3:nF G k t=3
    ·rw[Az h3]at h;simp at h
    ·rw[AJ h3]
end Tb
theorem Gm.vr {x:Gm.Rl} (h:Gm.gu G x=true):x.p<G.ts.length:=by
 unfold Gm.gu at h;simp only[Bd,Bj]at h;omega
namespace Tb
def qY (G:Gm.Gr) (z:Int):Int:=if 0<=z/\z<G.ts.length then(G.ts.getD z.toNat ⟨[],0,0⟩).lv else 0
theorem zf (h:k<G.ts.length):qY G (k:Int)=(G.ts[k]).lv:=by
 unfold qY;rw[Az ⟨ω,ω⟩,Cj,Aw,AH h];rfl
theorem ow (h:¬(0<=z/\z<G.ts.length)):qY G z=0:=AJ h
theorem zb {k:Int} (hp:(G.rs.getD k.toNat ⟨0,[],0⟩).p<G.ts.length) (h0:0<=t) (h1:t<=G.ts.length):nF G k t =
  if qY G (G.rs.getD k.toNat ⟨0,[],0⟩).p=0\/qY G t=0 then 4
  else if qY G (G.rs.getD k.toNat ⟨0,[],0⟩).p > qY G t then 1
  else if qY G (G.rs.getD k.toNat ⟨0,[],0⟩).p<qY G t then 2
  else if(G.ts.getD t.toNat ⟨[],0,0⟩).wy=1 then 1 else if(G.ts.getD t.toNat ⟨[],0,0⟩).wy=2 then 2 else 3:=by
 unfold nF;simp only;generalize (G.rs.getD k.toNat ⟨0,[],0⟩).p=p at *;by_cases ht:t=G.ts.length
 ·rw[Az (.inl ht),Az (.inr (ow ω))]
 ·by_cases aa:p<0
  ·rw[Az (.inr (.inl aa)),Az (.inl (ow ω))]
  ·have e1:qY G p=(G.ts.getD p.toNat ⟨[],0,0⟩).lv:=Az ⟨ω,hp⟩;have e2:qY G t=(G.ts.getD t.toNat ⟨[],0,0⟩).lv:=Az ⟨h0,ω⟩;rw[e1,e2];generalize (G.ts.getD p.toNat ⟨[],0,0⟩).lv=a;generalize (G.ts.getD t.toNat ⟨[],0,0⟩).lv=b;generalize (G.ts.getD t.toNat ⟨[],0,0⟩).wy=y;by_cases hz:a=0\/b=0
   ·rw[Az hz,Az (by rcases hz with h|h <;> simp[h])]
   ·rw[AJ hz,AJ (by simp only[not_or]at hz ⊢;exact⟨ht,aa,hz⟩)];rcases Int.lt_trichotomy a b with h|h|h
    ·rw[AJ ω,Az (.inl h),AJ ω,Az h]
    ·subst h;by_cases h1:y=1
     ·rw[Az (.inr ⟨rfl,h1⟩),AJ ω,AJ ω,Az h1]
     ·rw[AJ ω,AJ (Int.lt_irrefl a:¬a > a),AJ (Int.lt_irrefl a),AJ h1];by_cases h2:y=2
      ·rw[Az (.inr h2),Az h2]
      ·rw[AJ ω,AJ h2]
    ·rw[Az (.inl h),Az h]
end Tb
theorem GO (a b:Int) (w:World) :
  Calls prog 40 #[.int .i64 a,.int .i64 b] w fun e w'=>e=.returned (.bool (decide (0<=a)&&decide (a<b)))/\w'=w:=by
 by_cases h:0<=a <;> by_cases h2:a<b
 all_goals
  have H:=aA h;have H2:=aA h2;clear h2
  go_enter func40,ntmps40
  go_wp2;go_ret
  exact⟨aD (by have h:=H.o;have h2:=H2.o;simp[h,h2]),rfl⟩
theorem KR (z:Int) (w:World) :
  Calls prog 61 #[.int .i64 z] w fun e w'=>e=.returned (.bool (decide (z<0)))/\w'=w:=by
 go_enter func61,ntmps61
 go_wp2;go_ret
 exact⟨rfl,rfl⟩
theorem Ro (z:Int) (hz:-9223372036854775808<=z) (aa:z<=9223372036854775807) (w:World) :
  Calls prog 64 #[.int .i64 z] w fun e w'=>e=.returned (.int .i64 (-1-z))/\w'=w:=by
 have hs:IntKind.i64.wrap (-1-z) = -1-z:=BV _ ω;clear hz aa
 go_enter func64,ntmps64
 go_wp2;go_ret
 exact⟨rfl,rfl⟩
theorem Po (v:Value) (G:Gm.Gr) (B:Nat) (z:Int) (w:World) (hg:aT w B v G) (hB:B<=w.heap.size) :
  Calls prog 77 #[v,.int .i64 z] w fun e w'=>e=.returned (.int .i64 (Tb.qY G z))/\β w w':=by
 have HX:=aA (fun w=>GO z G.ts.length w);have ae:=aA hB;obtain⟨AT,cT,AN,cN,AR,cR,rfl,⟨ab,ac⟩,_,_,hT,_,_⟩:=hg;have aa:=aA (aZ.start 26 w #[.slice AT G.ts.length cT,.slice AN G.ns.length cN,.slice AR G.rs.length cR,.int .i64 G.st]);have x0:=aa.o.c 0 _ rfl;have HT:=aA hT;clear hB hT;by_cases h:0<=z/\z<G.ts.length
 ·obtain⟨k,rfl⟩:∃k:Nat,z=k:=⟨z.toNat,ω⟩
  have hk:k<G.ts.length:=ω
  obtain⟨g,o,rfl,ad,hc⟩:=HT.o ω;have k1:=(aa.o.below.cell (p:=⟨g,o+k*3+1,none⟩) (Aj ad ae.o)).trans (hc k hk).2.1;have HL:=aA (Tb.zf hk);have af:(k:Int)<(G.ts.length:Int):=ω
  rw[show(decide ((0:Int)<=k)&&decide ((k:Int)<(G.ts.length:Int)))=true by simp[hk]]at HX;rw[HL.o];clear hc h ad ab ac;generalize (G.ts[k]).lv=lv at *
  go_enter func77,ntmps77
  go_wp2_with fail
  refine(HX.o _).mono ?_;rintro _ _ ⟨rfl,rfl⟩;go_wp2;go_ret
  exact⟨rfl,aa.o.below⟩
 ·have HL:=aA (Tb.ow h)
  rw[show(decide (0<=z)&&decide (z<(G.ts.length:Int)))=false by
   rw[CW];simp only[Es];omega]at HX
  rw[HL.o];clear h ab ac
  go_enter func77,ntmps77
  go_wp2_with fail
  refine(HX.o _).mono ?_;rintro _ _ ⟨rfl,rfl⟩;go_wp2;go_ret
  exact⟨rfl,aa.o.below⟩
theorem LL (v:Value) (G:Gm.Gr) (B k t:Nat) (w:World) (hg:aT w B v G) (hB:B<=w.heap.size) (hk:k<G.rs.length) (ht:t<=G.ts.length) (hp:(G.rs[k]).p<G.ts.length) :
  Calls prog 41 #[v,.int .i64 k,.int .i64 t] w fun e w'=>e=.returned (.int .i64 (Tb.nF G k t))/\β w w':=by
 have ac:=aA (fun(z:Int) (x:World) (h:β w x)=>Po v G B z x (hg.below h hB) (Ah hB h.size));have ae:=aA hB;have e0:G.rs.getD ((k:Int)).toNat ⟨0,[],0⟩=G.rs[k]:=by rw[Cj,Aw,AH hk];rfl
 have f:=aA (Tb.zb (G:=G) (k:=(k:Int)) (t:=(t:Int)) (by rw[e0];exact hp) ω ω);rw[e0]at f;obtain⟨AT,cT,AN,cN,AR,cR,rfl,⟨aw,ax⟩,_,⟨ay,az⟩,hT,_,hR⟩:=hg;obtain⟨gR,oR,rfl,af,ag⟩:=hR ω;have hr:=(ag k hk).2.2;have a0:(k:Int)<(G.rs.length:Int):=ω
 have a1:Hid (Tb.qY G (t:Int)≠0->(t:Int)<(G.ts.length:Int)):=aA (fun h=>by
  by_cases q:t<G.ts.length
  ·omega
  ·exact absurd (Tb.ow ω) h)
 generalize (G.rs[k]).p=p at *;generalize Tb.nF G k t=hw at *;have ah:=aA (ac.o p);have ai:=aA (ac.o t);generalize Tb.qY G p=a at *;generalize Tb.qY G (t:Int)=b at *;have HT:=aA hT;have a2:=aA af;obtain⟨w1,ad⟩:=χ (w.alloc (.cells #[.slice AT G.ts.length cT,.slice AN G.ns.length cN,.slice (some ⟨gR,oR,none⟩) G.rs.length cR,.int .i64 G.st] 26))
 have i:Hid (aZ 26 w #[.slice AT G.ts.length cT,.slice AN G.ns.length cN,.slice (some ⟨gR,oR,none⟩) G.rs.length cR,.int .i64 G.st] w1):=aA (by rw[ad];exact aZ.start _ _ _);have q0:=fun y:Calm.On w1.heap.size w1=>(i.o.on y.2).c 0 _ rfl;have q1:=fun y:Calm.On w1.heap.size w1=>(i.o.on y.2).c 1 _ rfl;have q2:=fun y:Calm.On w1.heap.size w1=>(i.o.on y.2).c 2 _ rfl;have q3:=fun y:Calm.On w1.heap.size w1=>(i.o.on y.2).c 3 _ rfl;have q4:=fun y:Calm.On w1.heap.size w1=>((i.o.on y.2).below.cell (p:=⟨gR,oR+k*3+2,none⟩) (Aj a2.o ae.o)).trans hr;clear hT hR ag af hr aw ax ay az ac hp ht hB e0
 go_enter func41,ntmps41
 go_upto_region 1 with fail
 rw[<-ad];clear ad;have l:Hid (β w1 w1.drew):=aA (aB (AB _ _) 1);refine CalmN.fk (γ w1) (.one [0,1,2,3,4,5,6,8,9] 7 (.one [] 10 (.fin [11,12]))) ⟨⟨w1.drew,l.o⟩,rfl⟩ ?_;simp only[CalmN.fS,CalmN.fu,CalmN.fo,Aq,Ai,Am];repeat (go_big_quiet_step (fail))
 refine Ap ?_;clear q0 q1 q2 q3 q4;generalize w1.drew=wd at *;have aj:=aA (i.o.on l.o);intro KK aa;rw[Az ε];go_wp2_with fail
 refine(ah.o wd aj.o.below).mono ?_;rintro _ w3 ⟨rfl,ak⟩;have j:=aA (l.o.trans (ak.mono l.o.size));have al:=aA (i.o.on j.o);clear ak;go_wp2_with fail
 refine aa _ _ ⟨⟨w3,j.o⟩,rfl⟩ _ ι ⟨⟨w3,j.o⟩,rfl⟩ ?_;refine Ap ?_;intro KK aa;rw[Az ε];go_wp2_with fail
 refine(ai.o w3 al.o.below).mono ?_;rintro _ w4 ⟨rfl,am⟩;have ab:=aA (j.o.trans (am.mono j.o.size));have g:=aA (i.o.on ab.o);clear am;go_wp2_with fail
 refine aa _ _ ⟨⟨w4,ab.o⟩,rfl⟩ _ ι ⟨⟨w4,ab.o⟩,rfl⟩ ?_;clear aa;repeat (go_big_quiet_step (fail))
 refine Ap ?_;clear ah ai l aj j al ab a0;by_cases hz:a=0\/b=0
 ·have HE:=aA (f.o.trans (Az hz));have ao:(a==0||b==0)=true:=by simpa using hz
  clear hz;rcases Bool.or_eq_true_iff.1 ao with h|h
  ·go_wp2;go_ret
   exact⟨aR HE.o.symm,g.o.below⟩
  ·cases h0:(a==0)
   all_goals
    clear ao;go_wp2;go_ret
    exact⟨aR HE.o.symm,g.o.below⟩
 ·have f:=aA (f.o.trans (AJ hz));have h1:(a==0)=false:=by simp only[not_or]at hz;simpa using hz.1
  have h2:(b==0)=false:=by simp only[not_or]at hz;simpa using hz.2
  have a3:=a1.o (fun e=>hz (.inr e));clear hz;by_cases ap:a > b
  ·have HE:=aA (f.o.trans (Az ap));go_wp2;go_ret
   exact⟨aR HE.o.symm,g.o.below⟩
  ·have f:=aA (f.o.trans (AJ ap));by_cases aq:a<b
   ·have HE:=aA (f.o.trans (Az aq));go_wp2;go_ret
    exact⟨aR HE.o.symm,g.o.below⟩
   ·have f:=aA (f.o.trans (AJ aq));have ar:t<G.ts.length:=ω
    obtain⟨gT,oT,rfl,au,av⟩:=HT.o ω;have x0:=g.o.c 0 _ rfl;have x2:=(g.o.below.cell (p:=⟨gT,oT+t*3+2,none⟩) (Aj au ae.o)).trans (av t ar).2.2;have e1:G.ts.getD ((t:Int)).toNat ⟨[],0,0⟩=G.ts[t]:=by rw[Cj,Aw,AH ar];rfl
    rw[e1]at f;clear e1 av au;generalize (G.ts[t]).wy=y at *;by_cases m:y=1
    ·have HE:=aA (f.o.trans (Az m));subst m;go_wp2;go_ret
     exact⟨aR HE.o.symm,g.o.below⟩
    ·have f:=aA (f.o.trans (AJ m));have b1:(y==1)=false:=by simpa using m
     clear m;by_cases n:y=2
     ·have HE:=aA (f.o.trans (Az n));subst n;go_wp2;go_ret
      exact⟨aR HE.o.symm,g.o.below⟩
     ·have HE:=aA (f.o.trans (AJ n));have b2:(y==2)=false:=by simpa using n
      clear n;go_wp2;go_ret
      exact⟨aR HE.o.symm,g.o.below⟩
theorem OW (v:Value) (G:Gm.Gr) (B:Nat) (k t:Int) (w:World) (hg:aT w B v G) (hf:Gm.Fit G) (hB:B<=w.heap.size) :
  Calls prog 19 #[v,.int .i64 k,.int .i64 t] w fun e w'=>e=.returned (.int .i64 (Tb.settle G k t))/\β w w':=by
 have H1:=aA (fun(x:World) (h:β w x)=>zT v G B x (hg.below h hB) hf (Ah hB h.size));have HR:=aA (fun x=>GO k G.rs.length x);have HT:=aA (fun x=>GO t ((G.ts.length:Int)+1) x);have ah:=aA (fun(x:World) (h:β w x)=>hg.below h hB);have ai:=aA hB;obtain⟨AT,cT,AN,cN,AR,cR,rfl,⟨ab,ac⟩,_,⟨ad,ae⟩,_,_,_⟩:=hg;have d:=aA (aZ.start 26 w #[.slice AT G.ts.length cT,.slice AN G.ns.length cN,.slice AR G.rs.length cR,.int .i64 G.st]);have x0:=d.o.c 0 _ rfl;have x1:=d.o.c 1 _ rfl;have x2:=d.o.c 2 _ rfl;have x3:=d.o.c 3 _ rfl;have f:Hid (Tb.settle G k t=if Gm.right G=true/\0<=k/\k<G.rs.length/\0<=t/\t<=G.ts.length then Tb.nF G k t else 0):=aA rfl;cases q:Gm.right G
 ·rw[q]at H1;have HE:=aA (f.o.trans (AJ (by rw[q];simp)));rw[HE.o];clear q HR HT x1 x2 x3 ab ac ad ae f
  go_enter func19,ntmps19
  go_wp2_with fail
  refine(H1.o _ d.o.below).mono ?_;rintro _ w2 ⟨rfl,hb⟩;have b:=aA (d.o.on hb);clear hb x0;go_wp2;go_ret
  exact⟨rfl,b.o.below⟩
 ·rw[q]at H1;have ag:=Gm.fq.1 q;have aa:=((Gm.fK G.ts).1 ag.t).1;have aj:IntKind.i64.wrap ((G.ts.length:Int)+1)=(G.ts.length:Int)+1:=BV _ ω;have af:=aA (fun(x:World) (h:β w x) (i j:Nat) (hi:i<G.rs.length) (hj:j<=G.ts.length)=>LL _ G B i j x (ah.o x h) (Ah ai.o h.size) hi hj (Gm.vr (ag.rr _ (AD hi))));clear ag ah;cases hk:(decide (0<=k)&&decide (k<(G.rs.length:Int)))
  ·rw[hk]at HR;have HE:=aA (f.o.trans (AJ (by intro h;simp[h.2.1,h.2.2.1]at hk)));rw[HE.o];clear q HT ab ac ad ae f hk aa aj af
   go_enter func19,ntmps19
   go_wp2_with fail
   refine(H1.o _ d.o.below).mono ?_;rintro _ w2 ⟨rfl,hb⟩;have b:=aA (d.o.on hb);clear hb x0 x1 x2 x3;have x0:=b.o.c 0 _ rfl;have x2:=b.o.c 2 _ rfl;go_wp2_with fail
   refine(HR.o _).mono ?_;rintro _ _ ⟨rfl,rfl⟩;go_wp2;go_ret
   exact⟨rfl,b.o.below⟩
  ·rw[hk]at HR;cases ht:(decide (0<=t)&&decide (t<(G.ts.length:Int)+1))
   ·rw[ht]at HT;have HE:=aA (f.o.trans (AJ (by intro h;have:=h.2.2.2.1;have:=h.2.2.2.2;simp at ht;omega)));rw[HE.o];clear q ab ac ad ae f hk aa ht af
    go_enter func19,ntmps19
    go_wp2_with fail
    refine(H1.o _ d.o.below).mono ?_;rintro _ w2 ⟨rfl,hb⟩;have b:=aA (d.o.on hb);clear hb x0 x1 x2 x3;have x0:=b.o.c 0 _ rfl;have x2:=b.o.c 2 _ rfl;go_wp2_with fail
    refine(HR.o _).mono ?_;rintro _ _ ⟨rfl,rfl⟩;go_wp2_with fail
    refine(HT.o _).mono ?_;rintro _ _ ⟨rfl,rfl⟩;go_wp2;go_ret
    exact⟨rfl,b.o.below⟩
   ·rw[ht]at HT;rw[Bd,Bj,Bj]at hk ht;have HE:=aA (f.o.trans (Az ⟨q,hk.1,hk.2,ht.1,ω⟩));rw[HE.o];obtain⟨i,rfl⟩:∃i:Nat,k=i:=⟨k.toNat,ω⟩
    obtain⟨j,rfl⟩:∃j:Nat,t=j:=⟨t.toNat,ω⟩
    have HK:=aA (fun(x:World) (h:β w x)=>af.o x h i j ω ω);clear q ab ac ad ae f hk aa ht af
    go_enter func19,ntmps19
    go_wp2_with fail
    refine(H1.o _ d.o.below).mono ?_;rintro _ w2 ⟨rfl,hb⟩;have b:=aA (d.o.on hb);clear hb x0 x1 x2 x3;have x0:=b.o.c 0 _ rfl;have x1:=b.o.c 1 _ rfl;have x2:=b.o.c 2 _ rfl;have x3:=b.o.c 3 _ rfl;go_wp2_with fail
    refine(HR.o _).mono ?_;rintro _ _ ⟨rfl,rfl⟩;go_wp2_with fail
    refine(HT.o _).mono ?_;rintro _ _ ⟨rfl,rfl⟩;go_wp2_with fail
    refine(HK.o _ b.o.below).mono ?_;rintro _ w3 ⟨rfl,hb⟩;have ak:=aA (b.o.on hb);clear hb x0 x1 x2 x3;go_wp2;go_ret
    exact⟨rfl,ak.o.below⟩
def qp (v:Int) (N k:Nat):List Int:=List.replicate k v++List.replicate (N-k) 0
theorem LG {v:Int} (h:k<=N):(qp v N k).length=N:=by unfold qp;simp;omega
theorem Sa (v:Int) (N:Nat):qp v N N=List.replicate N v:=by unfold qp;simp
theorem QN {v:Int} {c:Nat} (h:k+c<=N):((qp v N k).map (Value.int .i64)).take k++List.replicate c (Value.int .i64 v)++((qp v N k).map (Value.int .i64)).drop (k+c)=(qp v N (k+c)).map (Value.int .i64):=by
 unfold qp;rw[Bi,Bi,Ex,Ex,Ex,Ex];rw[List.take_append_of_le_length σ,List.drop_append,Cq σ,List.drop_of_length_le σ,CS,Ea,List.drop_replicate,List.replicate_append_replicate]
 congr 2
 omega
theorem R9 {v:Int} {j:Nat} (hj:j<k):(qp v N k).getD j 0=v:=by
 unfold qp;rw[Aw,BQ (by simpa using hj),CO,Az hj];rfl
theorem MH (n:Nat) (h:n<=1000000):IntKind.u64.wrap (n:Int)=(n:Int):=by
 unfold IntKind.wrap;simp[IntKind.bits,IntKind.signed];omega
theorem R8 (w:World) (g N k:Nat) (v:Int) (hk:k<N) (hu:gJ w g (qp v N k)) :
  ∃w',(Builtin.copy_ #[51,51] 3 #[.slice (some ⟨g,k,none⟩) (N-k) (N-k),.slice (some ⟨g,0,none⟩) k N]).run prog w=.ok (goInt ((min k (N-k):Nat):Int)) w'/\gJ w' g (qp v N (k+min k (N-k)))/\w.grownBy w' (some g):=by
 have h:=run_copy_row (P:=prog) w 51 51 3 3 g k (N-k) (N-k) ⟨g,0,none⟩ k N _ _ (List.replicate (min k (N-k)) (Value.int .i64 v)) κ κ hu σ
  (fun j u hj=>by
   rw[CO]at hj;split at hj
   ·rename_i hl
    injection hj with hj;subst hj;have e:((⟨g,0,none⟩:Addr).add j)=⟨g,j,none⟩:=by unfold Addr.add;by_cases h0:j=0 <;> simp[h0]
    rw[e,hu.cell j (by rw[LG ω];omega),R9 ω]
   ·cases hj)
  (by simp[LG (Cx hk)];omega) (by intro u hu;rw[(List.mem_replicate.1 hu).2];rfl)
 rw[Ea]at h;refine⟨_,h,?_,Kz w g _⟩;unfold gJ;rw[setRow_heap w g _ _ _ _ hu]
 have:=QN (v:=v) (N:=N) (k:=k) (c:=min k (N-k)) ω
 rw[<-this]
theorem OJ (v:Int) (N cx B:Nat) (A:Option Addr) (w:World) (hr:gg w B A [v]) (hB:B<=w.heap.size) (hN:1<=N) (ad:N<=1000000) :
  Calls prog 63 #[.slice A 1 cx,.int .i64 (N:Int)] w fun e w'=>∃g,e=.returned (.slice (some ⟨g,0,none⟩) N N)/\w.heap.size<=g/\gJ w' g (List.replicate N v)/\β w w':=by
 have HR:=aA hr;have HB:=aA hB;have e1:1*N / 18446744073709551616=0:=ω
 have e2:1*N % 18446744073709551616=N:=ω
 have HM:=aA (show Calls prog 101 #[.int .u64 1,.int .u64 (N:Int)] w (fun e w'=>e=.returned (.tuple #[.int .u64 0,.int .u64 (N:Int)])/\w'=w) from by have h:=Tryz.bits_Mul 1 N δ ω w;rw[e1,e2]at h;exact h);have a0:IntKind.u64.wrap (1:Int)=1:=MH 1 δ;have a1:IntKind.u64.wrap (N:Int)=(N:Int):=MH N ad;have bh:IntKind.i64.wrap (N:Int)=(N:Int):=BV _ ω;have a2:decide (9223372036854775807<N)=false:=AU ω;have a3:decide ((9223372036854775807:Int)<(N:Int))=false:=AU ω;have HN:=aA hN;have a4:=aA ad;clear hr hB hN ad e1 e2
 go_enter func63,ntmps63
 go_upto_region 6 with fail
 refine HM.o.mono ?_;rintro _ w ⟨rfl,rfl⟩;go_upto_region 6 with fail
 have a5:=HN.o;have bi:=a4.o;go_upto_region 7 with(at_make;refine Is rfl (.tmp 29) (.tmp 29) _ rfl underlying51 N _ _ rfl rfl rfl rfl ω ?_;intro w2 ag ah aa)
 have ai:=aA ag;have aj:=aA ah;have ak:=aA (show w.heap.size<w2.heap.size from aa);have al:=aA (show N=(List.replicate N (0:Int)).length by simp);have am:=aA (show [v].length<=(List.replicate N (0:Int)).length by simp;omega);have ao:=aA (HR.o.below aj.o HB.o);clear ag ah aa;go_upto_region 8 with(with_reducible show wpList _ _ _ _ _ _;refine TU rfl (.tmp 31) (.tmp 32) _ _ rfl underlying51 w.heap.size N N 1 cx B A (List.replicate N 0) [v] rfl rfl al.o rfl ai.o ao.o am.o ?_;intro w3 ap ae)
 have aq:Hid (gJ w3 w.heap.size (qp v N 1)):=aA (by
  have e:[v]++(List.replicate N (0:Int)).drop [v].length=qp v N 1:=by unfold qp;simp
  rw[<-e];exact ap)
 have ar:Hid (β w w3):=aA (aM aj.o ae (Af _) (Cx ak.o));have a6:=aA (Aj ak.o ae.size);clear ap ae ai al am ao a5 a2 a3 a0 a1 HM;go_wp2;go_loopw [8] (fun vi wr=>∃k:Nat,1<=k/\k<=N/\vi=.int .i64 k/\Hid (gJ wr w.heap.size (qp v N k))/\Hid (β w wr)) (fun vi _=>N-(intOf vi).toNat)
 case atStart=>exact⟨1,Af _,HN.o,rfl,aq,ar⟩
 case round =>
  clear aq ar a6;obtain⟨k,bj,hk,rfl,HU,HB⟩:=hrel;by_cases a9:k<N
  ·have S1:∀y:World,(Instr.sliceAt 51 (.slice (some ⟨w.heap.size,0,none⟩) N N) (some (.int .i64 k)) none none).run prog y=.ok (.slice (some ⟨w.heap.size,k,none⟩) (N-k) (N-k)) y:=fun y=>by
    have h:=Hm y (some ⟨w.heap.size,0,none⟩) N N k hk;have e:((⟨w.heap.size,0,none⟩:Addr).add k)=⟨w.heap.size,k,none⟩:=by unfold Addr.add;by_cases h0:k=0 <;> simp[h0]
    unfold fY at h;rw[AJ ω,DH,e]at h;exact h
   have S2:=fun y:World=>QD y (some ⟨w.heap.size,0,none⟩) N N k hk;have HC:=aA (fun y hu=>R8 y w.heap.size N k v a9 hu);obtain⟨c,hc⟩:∃c,c=min k (N-k):=⟨_,rfl⟩
   rw[<-hc]at HC;have au:1<=c/\k+c<=N:=ω
   have ba:IntKind.i64.wrap ((k:Int)+(c:Int))=((k+c:Nat):Int):=by rw[BV _ ω];omega
   have ac:=aA au;have af:Hid (∀x,∃y:iR [] wr,x=y.1):=aA (fun x=>⟨⟨x,fun g h=>by cases h⟩,rfl⟩);clear hc au;generalize bb:N-k=nk at *;clear bb;obtain⟨kc,av⟩:∃kc,kc=k+c:=⟨_,rfl⟩
   rw[<-av]at HC ac ba;have bc:=aA (show Value.int .i64 ((k:Int)+(c:Int))=.int .i64 (kc:Int) by rw[av];simp);go_upto_region 9 with fail
   refine CalmN.fk (fun x=>∃y:iR [] wr,x=y.1) (.one [0,1,2,3,4,5,6] 7 (.fin [8,9])) (af.o _) ?_;simp only[CalmN.fS,CalmN.fu,CalmN.fo,Aq,Ai,Am];repeat (go_big_quiet_step (fail))
   refine Ap ?_;have bd:Hid (gJ wr.drew w.heap.size (qp v N k)):=HU;have aw:Hid (β w wr.drew):=aA (aB HB.o 1);generalize wr.drew=wd at *;intro KK ax;rw[Az ε];obtain⟨we,ab,ay,az⟩:=HC.o wd bd.o;unfold Oper.wp;simp[execOp,resolve,invoke,builtin,Act.eval,ab,Result.andThen];have bf:=aA ay;have bg:Hid (β w we):=aA (aM aw.o az (Af _) aw.o.size);clear ab ay az;refine ax _ _ (af.o _) _ ι (af.o _) ?_;clear ax
   go_frame
   repeat (go_big_quiet_step (fail))
   refine Ap ?_;clear HC S1 S2;go_wp2;go_roundw
   case rel=>exact⟨kc,by have:=ac.o;omega,by have:=ac.o;omega,bc.o,bf,bg⟩
   case measure=>simp[intOf];have:=ac.o;omega
  ·obtain rfl:k=N:=ω
   rw[Sa]at HU;go_wp2;go_ret
   exact⟨_,rfl,Af _,HU.o,HB.o⟩
end Go.Proofs.YtjjbaehamplnaaaGreat
