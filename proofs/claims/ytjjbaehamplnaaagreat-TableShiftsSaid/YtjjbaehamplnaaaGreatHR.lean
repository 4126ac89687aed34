/- Part of the proofs over this program: RefReduce, RfBuild, WalkShifts17, RowKit. -/
import Derived.Test.YtjjbaehamplnaaaGreatRows
import Derived.SizedLaws
import Derived.LaidMore
import Derived.Stop.Joined
import Derived.ShutString
import Derived.ChangeOld
import Derived.Test.YtjjbaehamplnaaaGreatHP
import Derived.Test.YtjjbaehamplnaaaGreatHQ
set_option linter.all false
open Go.RowKit Go.Proofs.Tryz
set_option maxRecDepth 100000
set_option maxHeartbeats 40000000
variable {A:Option Go.Addr} {G:Go.Proofs.YtjjbaehamplnaaaGreat.Gm.Gr} {es:List (List (Int×Int))} {s:Int}
namespace Go.Proofs.YtjjbaehamplnaaaGreat
theorem O4 (v:Value) (G:Gm.Gr) (B:Nat) (w:World) (hg:aT w B v G) (hf:Gm.Fit G) (hB:B<=w.heap.size) :
  Calls prog 78 #[v] w (sL G w):=by
 have H1:=aA (fun(x:World) (h:β w x)=>Ib v G B x (hg.below h hB) hf (Ah hB h.size));have H2:=aA (fun(x:World) (h:β w x)=>Kw v G B x (hg.below h hB) hf (Ah hB h.size));have H3:=aA (fun(x:World) (h:β w x)=>Oh v G B x (hg.below h hB) hf (Ah hB h.size));have eY:=fun w=>KH w;obtain⟨AT,cT,AN,cN,AR,cR,rfl,_,⟨eZ,e4⟩,_,hT,hN,hR⟩:=hg;have dg:=aA (fun(y:World) (h:β w y)=>hR.fp fun g o hg=>h.cell (p:=⟨g,o,none⟩) (Aj hg hB));have d6:=aA (fun(y:World) (h:β w y)=>hN.fp fun g o hg=>h.cell (p:=⟨g,o,none⟩) (Aj hg hB));have d7:=aA (fun(y:World) (h:β w y)=>hT.fp fun g o hg=>h.cell (p:=⟨g,o,none⟩) (Aj hg hB));have HB:=aA hB;have dh:=aA hf;obtain⟨w1,av⟩:∃y,y=(w.alloc (.cells #[.slice AT G.ts.length cT,.slice AN G.ns.length cN,.slice AR G.rs.length cR,.int .i64 G.st] 26)).alloc (.cells #[.slice none 0 0,.slice none 0 0,.slice none 0 0,.int .i64 0] 26):=⟨_,rfl⟩
 have di:w1.heap.size=w.heap.size+2:=by rw[av];simp
 have bn:Hid (β w w1):=aA (by rw[av];exact((AB _ w).alloc (Af _) _).alloc σ _);have aw:Hid (w1.heap[w.heap.size]?=some (.cells #[.slice AT G.ts.length cT,.slice AN G.ns.length cN,.slice AR G.rs.length cR,.int .i64 G.st] 26 (0,0))):=aA (by rw[av,BD _ _ _ σ];exact AI w _);have d8:Hid (w1.heap[w.heap.size+1]?=some (.cells #[.slice none 0 0,.slice none 0 0,.slice none 0 0,.int .i64 0] 26 (0,0))):=aA (by rw[av];have:=AI (w.alloc (.cells #[.slice AT G.ts.length cT,.slice AN G.ns.length cN,.slice AR G.rs.length cR,.int .i64 G.st] 26)) (.cells #[.slice none 0 0,.slice none 0 0,.slice none 0 0,.int .i64 0] 26);simpa using this);have bo:=aA di;have HQ:=aA (fun(y:World) (h:β w1 y)=>(h.block w.heap.size ω).trans aw.o);have HZ:=aA (fun(y:World) (h:β w1 y)=>(h.block (w.heap.size+1) ω).trans d8.o);have ax:=aA (fun(y:World) (h:β w1 y)=>bn.o.trans (h.mono ω));have c0:=aQ aw.o;have c1:=aU aw.o;have c2:=bB aw.o;have c3:=bL aw.o;have e5:w.heap.size<w1.heap.size:=ω
 clear hf di hT hN hR hB;cases q:Gm.right G
 ·rw[q]at H1;have HE:=aA (Gm.oM q);clear q H2 H3
  go_enter func78,ntmps78
  go_upto_region 1 with fail
  rw[<-av];clear av;go_wp2_with fail
  refine(H1.o _ bn.o).mono ?_;rintro _ w2 ⟨rfl,O⟩;have g0:=aQ (HZ.o w2 O);have g1:=aU (HZ.o w2 O);have g2:=bB (HZ.o w2 O);have g3:=bL (HZ.o w2 O);have e0:=AM w2 _ 0 _ _ (HZ.o w2 O);have e1:=AM w2 _ 1 _ _ (HZ.o w2 O);have e2:=AM w2 _ 2 _ _ (HZ.o w2 O);have e3:=AM w2 _ 3 _ _ (HZ.o w2 O);have lz:=(Ad.1 (HZ.o w2 O)).1;have ay:=aA (fun u1 u2 u3 u4=>((((ax.o w2 O).setCell (p:=⟨w.heap.size+1,0,none⟩) (by simp only;omega) u1).setCell (p:=⟨w.heap.size+1,1,none⟩) (by simp only;omega) u2).setCell (p:=⟨w.heap.size+1,2,none⟩) (by simp only;omega) u3).setCell (p:=⟨w.heap.size+1,3,none⟩) (by simp only;omega) u4);clear c0 c1 c2 c3 O H1;go_wp2;refine B3 (v:=.tuple #[.agg #[.slice none 0 0,.slice none 0 0,.slice none 0 0,.int .i64 0],.slice none 0 0,.int .i64 1]) (by simp[results,results78,go_sem,g0,g1,g2,g3]) rfl ?_;exact sL.no HE.o δ (ay.o _ _ _ _)
 ·have dj:=aA q;have N:=aA (Gm.fq.1 q);have H2:=aA (fun x h=>(show Calls _ _ _ _ (wI _ _) from(H2.o x h).mono fun e w' k=>k.1 q));have H3:=aA (fun x h=>(show Calls _ _ _ _ (wI _ _) from(H3.o x h).mono fun e w' k=>k.1 q));rw[q]at H1;clear q;have a4:=aA (fun x hx=>Gm.mo N.o (x:=x) hx);have bx:Hid (G.ns.length<=40):=aA (by have:=(Gm.fF G).1 N.o.n;omega);have cs:Hid (G.ts.length<=24):=aA (by have:=N.o.t;unfold Gm.gW at this;rw[Bd]at this;exact CN this.1);have aq:Hid (G.rs.length<=40):=aA N.o.kL;obtain⟨T,hT⟩:∃x,x=Gm.gn true G.rs G.ns.length:=⟨_,rfl⟩
  have ce:Hid (T.length=G.ns.length):=aA (by rw[hT,Gm.iJ]);rw[<-hT]at H2 a4;obtain⟨R,cu⟩:∃x,x=Gm.rc G:=⟨_,rfl⟩
  have dk:Hid (R.length=G.ns.length):=aA (by rw[cu,Gm.mR]);rw[<-cu]at H3 a4;have d9:=N.o.s0;have cv:=N.o.s1;obtain⟨m,hm⟩:∃m:Nat,G.st=(m:Int):=⟨G.st.toNat,ω⟩
  obtain⟨tb,cw⟩:∃b,b=T.getD m false:=⟨_,rfl⟩
  have cf:Hid (tb=Gm.tr (Gm.Gn true G.rs G.st)):=aA (by rw[cw,hT,Gm.mH _ _ _ _ ω,hm]);have cz:=aA cw;have HM:=aA hm;have cA:m<G.ns.length:=ω
  have e6:(m:Int)<(G.ns.length:Int):=ω
  have e7:=bx.o;have dl:(G.ns.length:Int)<=9223372036854775807:=ω
  have dm:(G.rs.length:Int)<=9223372036854775807:=by have:=aq.o;omega
  clear hT d9 cv hm cw cu
  go_enter func78,ntmps78
  go_upto_region 1 with fail
  rw[<-av];clear av;go_upto_region 3 with fail
  refine(H1.o _ bn.o).mono ?_;rintro _ w2 ⟨rfl,O⟩;have U:=aA O;clear O c0 c1 c2 c3 H1;go_upto_region 3 with fail
  go_cut [5,6] (fun v5 v6 wx=>∃gp gr,v5=.slice (some ⟨gp,0,none⟩) G.ns.length G.ns.length/\v6=.slice (some ⟨gr,0,none⟩) G.ns.length G.ns.length/\fU wx gp T/\fU wx gr R/\β w1 wx)
  case first =>
   have q0:=fun y:Calm.On w2.heap.size w2=>aQ (HQ.o y.1 (U.o.trans (y.2.mono U.o.size)));have q1:=fun y:Calm.On w2.heap.size w2=>aU (HQ.o y.1 (U.o.trans (y.2.mono U.o.size)));have q2:=fun y:Calm.On w2.heap.size w2=>bB (HQ.o y.1 (U.o.trans (y.2.mono U.o.size)));have q3:=fun y:Calm.On w2.heap.size w2=>bL (HQ.o y.1 (U.o.trans (y.2.mono U.o.size)));have bz:Hid (β w2 w2.drew):=aA (aB (AB _ _) 1);refine CalmN.fk (γ w2) (.one [0,2] 1 (.one [] 3 (.fin [4,5]))) ⟨⟨w2.drew,bz.o⟩,rfl⟩ ?_;simp only[CalmN.fS,CalmN.fu,CalmN.fo,Aq,Ai,Am];repeat (go_big_quiet_step (fail))
   refine Ap ?_;clear q0 q1 q2 q3;obtain⟨wd,al⟩:∃y,y=w2.drew:=⟨_,rfl⟩
   rw[<-al]at bz ⊢;clear al;intro KK C;rw[Az ε];go_wp2_with fail
   refine(H2.o wd (ax.o _ (U.o.trans (bz.o.mono U.o.size)))).mono ?_;rintro _ w3 ⟨ga,rfl,e8,dn,ea⟩;rw[ce.o];have f:β w2 w3:=bz.o.trans (ea.mono bz.o.size);have cC:=aA (U.o.trans (f.mono U.o.size));go_wp2_with fail
   refine C _ _ ⟨⟨w3,f⟩,rfl⟩ _ ι ⟨⟨w3,f⟩,rfl⟩ ?_;refine Ap ?_;intro KK C;rw[Az ε];go_wp2_with fail
   refine(H3.o w3 (ax.o _ cC.o)).mono ?_;rintro _ w4 ⟨gb,rfl,e9,eb,cE⟩;rw[dk.o];have bD:β w2 w4:=f.trans (cE.mono f.size);go_wp2_with fail
   refine C _ _ ⟨⟨w4,bD⟩,rfl⟩ _ ι ⟨⟨w4,bD⟩,rfl⟩ ?_;repeat (go_big_quiet_step (fail))
   refine Ap ?_;go_wp2_with fail
   go_meet
   case rel=>exact⟨ga,gb,rfl,rfl,dn.below cE dn.lt,eb,cC.o.trans (cE.mono cC.o.size)⟩
  case rest =>
   obtain⟨gp,gr,rfl,rfl,cg,dp,cG⟩:=hcut;have dq:=aA cg;have dr:=aA dp;have F:=aA cG;have q3:=bL (HQ.o wc cG);rw[HM.o]at q3;have km:=cg.cell m (by rw[ce.o];exact cA);rw[<-cz.o]at km;have lq:=Bl q3;have lp:=cg.lt;clear cg dp cG H2 H3 U;cases hp:Gm.tr (Gm.Gn true G.rs G.st)
   ·have HE:=aA (Gm.lN dj.o hp);obtain rfl:tb=false:=cf.o.trans hp;have g0:=aQ (HZ.o wc F.o);have g1:=aU (HZ.o wc F.o);have g2:=bB (HZ.o wc F.o);have g3:=bL (HZ.o wc F.o);have e0:=AM wc _ 0 _ _ (HZ.o wc F.o);have e1:=AM wc _ 1 _ _ (HZ.o wc F.o);have e2:=AM wc _ 2 _ _ (HZ.o wc F.o);have e3:=AM wc _ 3 _ _ (HZ.o wc F.o);have lz:=(Ad.1 (HZ.o wc F.o)).1;have ay:=aA (fun u1 u2 u3 u4=>((((ax.o wc F.o).setCell (p:=⟨w.heap.size+1,0,none⟩) (by simp only;omega) u1).setCell (p:=⟨w.heap.size+1,1,none⟩) (by simp only;omega) u2).setCell (p:=⟨w.heap.size+1,2,none⟩) (by simp only;omega) u3).setCell (p:=⟨w.heap.size+1,3,none⟩) (by simp only;omega) u4);clear hp cf cz;go_wp2;refine B3 (v:=.tuple #[.agg #[.slice none 0 0,.slice none 0 0,.slice none 0 0,.int .i64 0],.slice none 0 0,.int .i64 9]) (by simp[results,results78,go_sem,g0,g1,g2,g3]) rfl ?_;exact sL.no HE.o δ (ay.o _ _ _ _)
   ·have HE:=aA (Gm.oO dj.o hp);have fc:=aA (Gm.fV.1 hp);obtain rfl:tb=true:=cf.o.trans hp;clear hp cf cz;have bp:=aA (fun(y:World) (h:β wc y)=>HQ.o y (F.o.trans (h.mono F.o.size)));have fd:=aA (fun(y:World) (h:β wc y)=>ax.o y (F.o.trans (h.mono F.o.size)));have c0:=aQ (HQ.o wc F.o);go_upto_region 7 with(at_builtin;refine LV rfl (.tmp 33) (.tmp 35) _ rfl underlying22 wc.heap.size _ [] rfl (Hn wc) B G.ts.length cT AT G.ts rfl rfl (d7.o _ ((ax.o _ F.o).alloc (ax.o _ F.o).size _)) (by have:=cs.o;simp;omega) σ ?_;intro v2 w5 az a5;have ds:=aA az;have ch:=aA (((AB wc.heap.size wc).alloc (Af _) (.cells #[] 85)).grown a5 σ (fun k e=>(aN (Hn wc) e).1));obtain⟨A2,c2,rfl,_,_⟩:=aO az;clear az a5)
    obtain⟨w6,bM⟩:=χ (w5.alloc (.cells #[.slice A2 G.ts.length c2,.slice none 0 0,.slice none 0 0,.int .i64 0] 26))
    have bT:Hid (β wc w6):=aA (by rw[bM];exact ch.o.alloc ch.o.size _);have bX:Hid (bE w6 wc.heap.size (.slice A2 G.ts.length c2) G.ts):=aA (by rw[bM];exact Dm ds.o _);have dt:Hid (w6.heap[w5.heap.size]?=some (.cells #[.slice A2 G.ts.length c2,.slice none 0 0,.slice none 0 0,.int .i64 0] 26 (0,0))):=aA (by rw[bM];exact AI w5 _);rw[<-bM];clear bM ds c0 q3 km lq;have c1:=aU (bp.o w6 bT.o);have l6:=Bl c1;go_upto_region 8 with(at_make;refine Is rfl (.tmp 40) (.tmp 40) _ rfl underlying51 G.ns.length _ _ rfl rfl rfl rfl ω ?_;intro w7 du ci cI)
    have cJ:Hid (jn wc w7 w5.heap.size w6.heap.size #[.slice A2 G.ts.length c2,.slice none 0 0,.slice none 0 0,.int .i64 0] (.slice A2 G.ts.length c2) (.slice none 0 0) (.slice none 0 0) G.ts [] [] (List.replicate G.ns.length 0)):=aA
     ⟨aC ci dt.o,Bf bX.o (aL ci .none) (yG _),bQ.nil _ _,bF.nil _ _ _,du,bT.o.trans (ci.mono bT.o.size),ch.o.size,bT.o.size⟩
    obtain⟨vT,cL⟩:∃v,v=Value.slice A2 G.ts.length c2:=⟨_,rfl⟩
    obtain⟨H,hH⟩:∃x,x=w5.heap.size:=⟨_,rfl⟩
    obtain⟨gA,cM⟩:∃x,x=w6.heap.size:=⟨_,rfl⟩
    rw[<-cL,<-hH,<-cM]at cJ;rw[<-cL,<-hH,<-cM];clear cL hH cM du ci c1 l6 cI bX dt bT ch;go_wp2;go_loopw [9] (fun vk wr=>∃(k:Nat),k<=G.ns.length/\vk=.int .i64 k/\Hid (jn wc wr H gA #[vT,.slice none 0 0,.slice none 0 0,.int .i64 0] vT (.slice none 0 0) (.slice none 0 0) G.ts [] [] (List.replicate k (-1)++List.replicate (G.ns.length-k) 0))) (fun vk _=>G.ns.length-(intOf vk).toNat)
    case atStart=>exact⟨0,Bb _,rfl,by simpa using cJ⟩
    case round =>
     clear cJ;obtain⟨k,hk,rfl,HS⟩:=hrel;by_cases hlt:k<G.ns.length
     ·have ka:=HS.o.a.cell k (by simp;omega);have fa:=HS.o.a.frozen k;have la:=HS.o.a.lt;have dv:=aA (HS.o.zF k (-1));rw[Gm.xd hlt]at dv;go_wp2;go_roundw
      case rel=>exact⟨k+1,hlt,ν,dv⟩
      case measure=>simp[intOf];omega
     ·obtain rfl:k=G.ns.length:=ω
      rw[DB,Er,CG,<-Gm.xQ]at HS;go_wp2;go_loopw [10,11] (fun v10 v11 wr=>∃(i:Nat) (vN:Value),i<=G.rs.length/\v11=.int .i64 i/\Hid (jn wc wr H gA #[vT,vN,.slice none 0 0,.int .i64 0] vT vN (.slice none 0 0) G.ts (Gm.gZ G (Gm.oR G i)) [] (Gm.nU G.ns.length (Gm.oR G i)))/\Hid (aV wr (gA+1) v10 (Gm.kl G i))) (fun _ v11 _=>G.rs.length-(intOf v11).toNat)
      case atStart=>exact⟨0,_,Bb _,rfl,HS,aA (aV.nil _ _)⟩
      case round =>
       clear HS hlt;obtain⟨i,vN,hi,rfl,HS,HK⟩:=hrel;by_cases hlt:i<G.rs.length
       ·obtain⟨g,o,rfl,ec,hc⟩:=dg.o w1 bn.o ω;obtain⟨k0,⟨A',c',k1,_,_,b3⟩,k2⟩:=hc i hlt;have a6:g<w1.heap.size:=by have:=HB.o;have:=bo.o;omega
        have am:=aA (fun(y:World) (h:β wc y)=>F.o.trans (h.mono F.o.size));have k0:=((am.o wr HS.o.w).cell (p:=⟨g,o+i*3,none⟩) a6).trans k0;have k1:=((am.o wr HS.o.w).cell (p:=⟨g,o+i*3+1,none⟩) a6).trans k1;have k2:=((am.o wr HS.o.w).cell (p:=⟨g,o+i*3+2,none⟩) a6).trans k2;have ac:G.rs[i]∈G.rs:=AD hlt;have e:=dh.o.r _ ac;have a9:=N.o.iO _ ac;have cO:=(Gm.fT (N.o.rr _ ac)).1;have br:=aA (Gm.sj hlt);have ba:=aA (Gm.xA hlt);have dw:=aA (a4.o _ ac);have ed:=aA (Gm.zu N.o i);have cj:=aA (Ah (Gm.uA G i) hi);have b4:=aA (fun(y:World) (h:β wc y)=>JA G.rs[i].r T true A' (some ⟨gp,0,none⟩) c' G.ns.length B wc.heap.size y (b3.fp fun g o hg=>(am.o y h).cell (p:=⟨g,o,none⟩) (by have:=HB.o;have:=bo.o;simp only;omega)) e.2.2 (fun z hz h0=>by rw[ce.o];exact N.o.sin _ ac z hz h0) ((dq.o.p7 dq.o.lt).below h (Af _)) ω);rw[ce.o]at b4;generalize G.rs[i]=x at *;obtain⟨l,r,pz⟩:=x;simp only at k0 k1 k2 b4 a9 cO ba;obtain⟨ml,rfl⟩:∃m:Nat,l=(m:Int):=⟨l.toNat,ω⟩
        have cP:=a9.2;have J:ml<G.ns.length:=ω
        have dx:Hid (Gm.oJ T R ⟨ml,r,pz⟩=(R.getD ml false&&Gm.iv true T r)):=aA (by simp[Gm.oJ]);have bs:=aA (dw.o.symm.trans dx.o);generalize Gm.use G ⟨(ml:Int),r,pz⟩=ub at *;have q2:=bB (bp.o wr HS.o.w);have lq:=Bl q2;have lg:=Bl k0;have kr:=(HS.o.w.cell (p:=⟨gr,ml,none⟩) dr.o.lt).trans (dr.o.cell ml (by rw[dk.o];exact J));have lr:=Bl kr;have V:=aA (HS.o.alloc (.cells #[.int .i64 ml,.slice A' r.length c',.int .i64 pz] 74));have bb:=aA (HK.o.alloc (.cells #[.int .i64 ml,.slice A' r.length c',.int .i64 pz] 74));have ar:=aA (AI wr (.cells #[.int .i64 ml,.slice A' r.length c',.int .i64 pz] 74));clear hc b3 e ac a9 dw dx;generalize R.getD ml false=rb at *;cases rb
        ·obtain rfl:ub=false:=bs.o;have HX:Hid (Gm.kl G (i+1)=Gm.kl G i):=aA (br.o.trans (AJ σ));have a0:Hid (Gm.oR G (i+1)=Gm.oR G i):=aA (ba.o.trans (AJ σ));clear br ba bs;go_wp2;go_roundw
         case rel=>exact⟨i+1,vN,hlt,ν,by rw[a0.o];exact V,by rw[HX.o];exact bb⟩
         case measure=>simp[intOf];omega
        ·have cQ:=aA (b4.o _ V.o.w);generalize Gm.iv true T r=ab at *;cases ab
         ·obtain rfl:ub=false:=bs.o;have HX:Hid (Gm.kl G (i+1)=Gm.kl G i):=aA (br.o.trans (AJ σ));have a0:Hid (Gm.oR G (i+1)=Gm.oR G i):=aA (ba.o.trans (AJ σ));clear br ba bs b4;go_wp2_with fail
          refine cQ.o.mono ?_;rintro _ w8 ⟨rfl,ao⟩;subst ao;go_wp2;go_roundw
          case rel=>exact⟨i+1,vN,hlt,ν,by rw[a0.o];exact V,by rw[HX.o];exact bb⟩
          case measure=>simp[intOf];omega
         ·obtain rfl:ub=true:=bs.o;have HX:Hid (Gm.kl G (i+1)=Gm.kl G i++[(i:Int)]):=aA (br.o.trans (Az rfl));have au:=aA (ba.o.trans (Az rfl));have dy:Hid (gA<wr.heap.size):=aA HS.o.a.lt;clear br ba bs b4;go_upto_region 18 with fail
          refine cQ.o.mono ?_;rintro _ w8 ⟨rfl,ao⟩;subst ao;go_upto_region 18 with fail
          obtain⟨w8,ao⟩:=χ (wr.alloc (.cells #[.int .i64 ml,.slice A' r.length c',.int .i64 pz] 74))
          have ee:Hid (w8.heap.size=wr.heap.size+1):=aA (by rw[ao];simp);rw[<-ao]at V bb ar ⊢;clear ao k0 k1 k2 q2 lq lg kr lr cQ;go_upto_region 19 with(at_builtin;refine yA rfl (.tmp 76) (.tmp 78) _ rfl underlying51 (gA+1) _ _ rfl (bb.o.alloc _) _ 1 i rfl (Df _ _ _ 0) (by have:=cj.o;have:=aq.o;omega) (by have:=dy.o;have:=ee.o;simp;omega) ?_;intro v' w9 dz cS;have I:=aA ((V.o.alloc _).other (bb.o.alloc _) ω cS);have bu:=aA dz;have ck:=aA (rK (aC ((AB _ _).alloc (Af _) _) ar.o) (bb.o.alloc _) δ cS);clear dz cS)
          clear V bb ar;have d0:=aQ ck.o;have ld:=(Ad.1 ck.o).1;have kt:=I.o.a.cell ml (by rw[Gm.mm];exact J);rw[Gm.mZ J]at kt;have lt9:=I.o.a.lt;by_cases bc:(ml:Int)∈Gm.oR G i
          ·have a0:=aA (au.o.trans (Az bc));have hq:decide (Gm.pos (Gm.oR G i) ml<0)=false:=AU (fun h=>Gm.sD.1 h bc);generalize Gm.pos (Gm.oR G i) ml=pq at *;clear bc au;go_wp2;go_roundw
           case rel=>exact⟨i+1,vN,hlt,ν,by rw[a0.o];exact I,by rw[HX.o];exact bu⟩
           case measure=>simp[intOf];omega
          ·have a0:=aA (au.o.trans (AJ bc));have hq:decide (Gm.pos (Gm.oR G i) ml<0)=true:=AV (Gm.sD.2 bc);have cl:=aA bc;obtain⟨A9,c9,rfl,_,_⟩:=aO I.o.nn;have cU:(Gm.gZ G (Gm.oR G i)).length=(Gm.oR G i).length:=by simp[Gm.gZ]
           have dA:Hid (Gm.gZ G (Gm.oR G (i+1))=Gm.gZ G (Gm.oR G i)++[G.ns.getD ml []]):=aA (by rw[a0.o];simp[Gm.gZ]);have j1:=aU I.o.h;have lh:=Bl j1;have fa:=I.o.a.frozen ml
           have A:Hid (jn wc (w9.setCell ⟨gA,ml,none⟩ (.int .i64 (Gm.gZ G (Gm.oR G i)).length)) H gA #[vT,.slice A9 (Gm.gZ G (Gm.oR G i)).length c9,.slice none 0 0,.int .i64 0] vT (.slice A9 (Gm.gZ G (Gm.oR G i)).length c9) (.slice none 0 0) G.ts (Gm.gZ G (Gm.oR G i)) [] (Gm.nU G.ns.length (Gm.oR G (i+1)))):=aA (by
            have q:=I.o.zF ml ((Gm.gZ G (Gm.oR G i)).length:Int);rw[cU]at q;rw[a0.o,<-Gm.vE cl.o];rw[cU];exact q)
           have X:=aA (bu.o.jv (aF (AO w9 (some gA)) ml (.int .i64 (Gm.gZ G (Gm.oR G i)).length)) ω);have Z:=aA ((AQ w9 ⟨gA,ml,none⟩ (.int .i64 (Gm.gZ G (Gm.oR G i)).length) wr.heap.size (by have:=dy.o;simp only;omega)).trans ck.o);generalize Gm.pos (Gm.oR G i) ml=pq at *;clear bc au cU;go_upto_region 21 with fail
           obtain⟨wz,dB⟩:∃y,y=w9.setCell ⟨gA,ml,none⟩ (.int .i64 (Gm.gZ G (Gm.oR G i)).length):=⟨_,rfl⟩
           rw[<-dB]at A X Z ⊢;clear dB I bu ck d0 ld kt lt9 j1 lh fa;obtain⟨gN,oN,rfl,fe,dC⟩:=d6.o w1 bn.o ω;have kN:=dC ml J;rw[show G.ns[ml]=G.ns.getD ml [] by rw[Aw,AH J];rfl]at kN;obtain⟨nm,dD⟩:∃s,s=G.ns.getD ml []:=⟨_,rfl⟩
           rw[<-dD]at kN dA;clear dD;have ef:gN<w1.heap.size:=by have:=HB.o;have:=bo.o;omega
           have a1:=aA (fun(y:World) (h:Below wc.heap.size wz y)=>A.o.w.trans h);have bN:=fun y:vZ wc.heap.size wr.heap.size wz=>((am.o y.1 (a1.o y.1 y.2.1)).cell (p:=⟨gN,oN+ml,none⟩) ef).trans kN;have bq:=fun y:vZ wc.heap.size wr.heap.size wz=>aU (bp.o y.1 (a1.o y.1 y.2.1));have bd:=fun y:vZ wc.heap.size wr.heap.size wz=>aQ (y.2.2.trans Z.o);have b5:=aA A.o.drew;have dE:Hid (aV wz.drew (gA+1) v' (Gm.kl G i++[(i:Int)])):=aA (X.o.drewN 1);have bf:Hid (Below wc.heap.size wz wz.drew/\wz.drew.heap[wr.heap.size]?=wz.heap[wr.heap.size]?):=aA ⟨aB (AB _ _) 1,rfl⟩;refine CalmN.fk (fun x=>∃y:vZ wc.heap.size wr.heap.size wz,x=y.1) (.two [0,2,3,4,5,6,7] 1 (.one [] 8 (.one [] 9 (.one [10] 11 (.fin [])))) 8 (.one [] 1 (.one [] 9 (.one [10] 11 (.fin []))))) ⟨⟨wz.drew,bf.o⟩,rfl⟩ ?_;simp only[CalmN.fS,CalmN.fu,CalmN.fo,Aq,Ai,Am];repeat (go_big_quiet_step (fail))
           refine Ap ?_;clear bN bq bd kN dC;obtain⟨w8',ao⟩:∃y,y=wz.drew:=⟨_,rfl⟩
           rw[<-ao]at b5 dE bf ⊢;clear ao A X;have I:=aA (b5.o.alloc (.cells #[.string (K.str nm)] 9));have bu:=aA (dE.o.alloc (.cells #[.string (K.str nm)] 9));have bv:Hid (Below wc.heap.size wz (w8'.alloc (.cells #[.string (K.str nm)] 9))/\(w8'.alloc (.cells #[.string (K.str nm)] 9)).heap[wr.heap.size]?=wz.heap[wr.heap.size]?):=aA ⟨bf.o.1.alloc b5.o.w.size _,(BD w8' _ _ (Ad.1 (bf.o.2.trans Z.o)).1).trans bf.o.2⟩;have eg:Hid ((w8'.alloc (.cells #[.string (K.str nm)] 9)).cell? ⟨w8'.heap.size,0,none⟩=some (.string (K.str nm))):=aA (Df _ _ _ 0);have n8:=AF w8' _ 1 _ _ _ b5.o.h;have n9:=AF _ _ 1 _ _ _ I.o.h;have lh8:=(Ad.1 b5.o.h).1;have lh9:=(Ad.1 I.o.h).1;refine⟨?_,?_⟩
           focus
            intro KK C;rw[Az ε];go_wp2_with fail
            refine C _ _ ⟨⟨_,bf.o⟩,rfl⟩ _ ι ⟨⟨_,bf.o⟩,rfl⟩ ?_
           rotate_left
           focus
            intro KK C;rw[Az ε];go_wp2_with fail
            refine C _ _ ⟨⟨_,bv.o⟩,rfl⟩ _ ι ⟨⟨_,bv.o⟩,rfl⟩ ?_
           all_goals
            refine Ap ?_;intro KK C;rw[Az ε];go_wp2_with fail
            refine C _ _ ⟨⟨_,bv.o⟩,rfl⟩ _ ι ⟨⟨_,bv.o⟩,rfl⟩ ?_;refine Ap ?_;intro KK C;rw[Az ε];refine NL (.tmp 94) (.tmp 101) _ rfl underlying23 wc.heap.size _ _ rfl I.o.nn w8'.heap.size 1 _ rfl eg.o (by have:=ed.o;have:=bx.o;unfold Gm.gZ;rw[Bh];omega) I.o.w.size ?_;intro v2' w10 bg ae;have A:=aA (I.o.Gw bg ae);have X:Hid (aV w10 (gA+1) v' (Gm.kl G i++[(i:Int)])):=aA (Bf bu.o ae (vO bu.o I.o.nn δ));have af:Hid (Below wc.heap.size wz w10/\w10.heap[wr.heap.size]?=wz.heap[wr.heap.size]?):=aA ⟨bv.o.1.grown ae I.o.w.size (fun k e=>(aN I.o.nn e).1),(rK (bv.o.2.trans Z.o) I.o.nn δ ae).trans Z.o.symm⟩;obtain⟨A10,c10,rfl,_,_⟩:=aO bg;clear bg ae;obtain⟨n10,b6⟩:∃n,n=(Gm.gZ G (Gm.oR G i)++[nm]).length:=⟨_,rfl⟩
            rw[<-b6]at A ⊢;clear b6;refine C _ _ ⟨⟨w10,af.o⟩,rfl⟩ _ ι ⟨⟨w10,af.o⟩,rfl⟩ ?_
            go_frame
            repeat (go_big_quiet_step (fail))
            refine Ap ?_;intro KK C;rw[Az ε];have j1:=AF w10 _ 1 _ _ _ A.o.h;have f1:=AM w10 _ 1 _ _ A.o.h;have lh:=(Ad.1 A.o.h).1;have b7:=aA (A.o.rF 1 (.slice A10 n10 c10));have cV:Hid (aV (w10.setCell ⟨H,1,none⟩ (.slice A10 n10 c10)) (gA+1) v' (Gm.kl G i++[(i:Int)])):=aA (Bf X.o (aF (AO w10 (some H)) 1 _) (aP X.o A.o.h (fun cur e=>by injection e with _ e;cases e)));have dF:wr.heap.size≠H:=fun e=>by have h1:=af.o.2.trans Z.o;rw[e,A.o.h]at h1;injection h1 with h1;injection h1 with _ h1;cases h1
            have b8:Hid (Below wc.heap.size wz (w10.setCell ⟨H,1,none⟩ (.slice A10 n10 c10))/\(w10.setCell ⟨H,1,none⟩ (.slice A10 n10 c10)).heap[wr.heap.size]?=wz.heap[wr.heap.size]?):=aA ⟨af.o.1.setCell (p:=⟨H,1,none⟩) A.o.hH _,(AQ w10 ⟨H,1,none⟩ _ wr.heap.size dF).trans af.o.2⟩;clear dF;go_wp2_with fail
            refine C _ _ ⟨⟨_,b8.o⟩,rfl⟩ _ ι ⟨⟨_,b8.o⟩,rfl⟩ ?_;clear j1 f1 lh;refine Ap ?_;go_wp2;go_roundw
            case rel=>exact⟨i+1,_,hlt,ν,by rw[<-dA.o]at b7;exact b7,by rw[HX.o];exact cV⟩
            case measure=>simp[intOf];omega
       ·obtain rfl:i=G.rs.length:=ω
        rw[Gm.zt]at HS;obtain⟨AK,cK,eh,_,_,_⟩:=HK.o.form;subst eh;obtain⟨ks,cm⟩:∃ks,ks=Gm.kl G G.rs.length:=⟨_,rfl⟩
        rw[<-cm]at HK ⊢;have cW:=aA cm;have cj:Hid (ks.length=(Gm.iB G).length):=aA (by rw[cm];exact Gm.uz G);have dG:(ks.length:Int)<=9223372036854775807:=by have:=cj.o;have:=Gm.mh G;have:=aq.o;omega
        clear cm hlt;have q2:=bB (bp.o wr HS.o.w);have lq:=Bl q2;go_wp2;go_loopw [13] (fun vk wr=>∃(k:Nat) (vR:Value),k<=ks.length/\vk=.int .i64 k/\Hid (jn wc wr H gA #[vT,vN,vR,.int .i64 0] vT vN vR G.ts (Gm.gZ G (Gm.ft G)) (((Gm.iB G).take k).map (Gm.re (Gm.ft G))) (Gm.nU G.ns.length (Gm.ft G)))/\Hid (aV wr (gA+1) (.slice AK ks.length cK) ks)) (fun vk _=>ks.length-(intOf vk).toNat)
        case atStart=>exact⟨0,_,Bb _,rfl,HS,HK⟩
        case round =>
         clear HS HK q2 lq;obtain⟨k,vR,hk,rfl,HS,HK⟩:=hrel;obtain⟨ws,ei⟩:∃y:World,y=wr:=⟨_,rfl⟩
         subst ei;have am:=aA (fun(y:World) (h:β wc y)=>F.o.trans (h.mono F.o.size));by_cases hlt:k<ks.length
         ·obtain⟨gk,ok,rfl,ff,dH⟩:=HK.o.xG ω;have kk:=dH k hlt;rw[L.fy hlt]at kk;have lk:=Bl kk;obtain⟨i,dI,hi,hkk,dJ⟩:=Gm.uy (G:=G) (k:=k) (by rw[<-cW.o];exact hlt);have b9:ks[k]=(i:Int):=by simp only[cW.o];exact dI
          rw[b9]at kk;have dK:=aA (Gm.pI hkk);have dL:(Gm.iB G)[k]∈Gm.iB G:=AD hkk;rw[dJ]at dK dL;have ac:G.rs[i]∈G.rs:=AD hi;have e:=dh.o.r _ ac;have a9:=N.o.iO _ ac;have dM:=aA (N.o.sin _ ac);have cO:=(Gm.fT (N.o.rr _ ac)).1;obtain⟨g,o,rfl,ec,hc⟩:=dg.o w1 bn.o ω;obtain⟨k0,⟨A',c',k1,_,_,b3⟩,k2⟩:=hc i hi;have a6:g<w1.heap.size:=by have:=HB.o;have:=bo.o;omega
          have dN:=aA (fun(y:World) (h:β wc y)=>b3.fp fun g o hg=>(am.o y h).cell (p:=⟨g,o,none⟩) (by have:=HB.o;have:=bo.o;simp only;omega));have ej:Hid (((Gm.iB G).take k).length<=40):=aA (by rw[Bm];have:=Gm.mh G;have:=aq.o;omega);have cl:=aA e.2.2;generalize G.rs[i]=x at *;obtain⟨l,r,pz⟩:=x;simp only at k0 k1 k2 dN dM cO a9 cl;obtain⟨ml,rfl⟩:∃m:Nat,l=(m:Int):=⟨l.toNat,ω⟩
          have cP:=a9.2;have J:ml<G.ns.length:=ω
          have fg:(r.length:Int)<=9223372036854775807:=ω
          have fh:(i:Int)<(G.rs.length:Int):=ω
          have dO:Hid (Gm.re (Gm.ft G) ⟨ml,r,pz⟩=⟨Gm.pos (Gm.ft G) ml,r.map (Gm.lY (Gm.ft G)),pz⟩):=aA rfl;have ek:=aA (fun(i:Nat) (hi:i<G.ns.length)=>Gm.zK N.o (Gm.ft G) (Gm.oD N.o) G.ns.length i hi);go_upto_region 25 with fail
          have a1:=aA (fun(y:World) (h:β ws y)=>HS.o.w.trans (h.mono HS.o.w.size));have b0:=fun y:Calm.On ws.heap.size ws=>((am.o y.1 (a1.o y.1 y.2)).cell (p:=⟨g,o+i*3,none⟩) a6).trans k0;have b1:=fun y:Calm.On ws.heap.size ws=>((am.o y.1 (a1.o y.1 y.2)).cell (p:=⟨g,o+i*3+1,none⟩) a6).trans k1;have b2:=fun y:Calm.On ws.heap.size ws=>((am.o y.1 (a1.o y.1 y.2)).cell (p:=⟨g,o+i*3+2,none⟩) a6).trans k2;have bk:=fun y:Calm.On ws.heap.size ws=>(y.2.cell (p:=⟨gk,ok+k,none⟩) lk).trans kk;have bq:=fun y:Calm.On ws.heap.size ws=>bB (bp.o y.1 (a1.o y.1 y.2));have ag:Hid (β ws ws.drew):=aA (aB (AB _ _) 1);clear kk dH hc b3 hkk dJ dI b9 dL ac e a9 k0 k1 k2;refine CalmN.fk (γ ws) (.one [0,1,2,3,4,5,6,7] 8 (.one [] 9 (.fin []))) ⟨⟨ws.drew,ag.o⟩,rfl⟩ ?_;simp only[CalmN.fS,CalmN.fu,CalmN.fo,Aq,Ai,Am];repeat (go_big_quiet_step (fail))
          refine Ap ?_;clear b0 b1 b2 bk bq;obtain⟨wd,al⟩:∃y,y=ws.drew:=⟨_,rfl⟩
          have a2:Hid (wd.heap.size=ws.heap.size):=aA (by rw[al];rfl);rw[<-al]at ag ⊢;clear al;have ah:=ag.o.alloc ag.o.size (.cells #[.int .i64 0,.slice none 0 0,.int .i64 0] 74);intro KK C;rw[Az ε];go_wp2_with fail
          refine C _ _ ⟨⟨_,ah⟩,rfl⟩ _ ι ⟨⟨_,ah⟩,rfl⟩ ?_;refine Ap ?_;have hx:=AI wd (.cells #[.int .i64 0,.slice none 0 0,.int .i64 0] 74);obtain⟨D,hD⟩:∃D,D=wd.heap.size:=⟨_,rfl⟩
          have bh:Hid (ws.heap.size<=D):=aA (by have:=a2.o;omega);rw[<-hD]at hx ⊢;obtain⟨wa,ca⟩:=χ (wd.alloc (.cells #[.int .i64 0,.slice none 0 0,.int .i64 0] 74))
          rw[<-ca]at hx ah ⊢;clear ca C hD a2;have ai:=Ba wa D 0 _ _ (.int .i64 ml) hx;have aj:=Ba _ D 1 _ _ (.slice A' r.length c') ai;have M:=Ba _ D 2 _ _ (.int .i64 pz) aj;have f:=((ah.setCell (p:=⟨D,0,none⟩) bh.o (.int .i64 ml)).setCell (p:=⟨D,1,none⟩) bh.o (.slice A' r.length c')).setCell (p:=⟨D,2,none⟩) bh.o (.int .i64 pz);have d0:=AF wa _ 0 _ _ _ hx;have d1:=AF wa _ 1 _ _ _ hx;have d2:=AF wa _ 2 _ _ _ hx;have f0:=AM wa _ 0 _ _ hx;have f1:=AM wa _ 1 _ _ hx;have f2:=AM wa _ 2 _ _ hx;have ld:=(Ad.1 hx).1;clear ai aj ah hx;intro KK C;rw[Az ε];go_wp2_with fail
          obtain⟨we,dP⟩:∃y,y=((wa.setCell ⟨D,0,none⟩ (.int .i64 ml)).setCell ⟨D,1,none⟩ (.slice A' r.length c')).setCell ⟨D,2,none⟩ (.int .i64 pz):=⟨_,rfl⟩
          rw[<-dP]at M f ⊢;refine C _ _ ⟨⟨we,f⟩,rfl⟩ _ ι ⟨⟨we,f⟩,rfl⟩ ?_;have ar:Hid (we.heap[D]?=some (.cells #[.int .i64 ml,.slice A' r.length c',.int .i64 pz] 74 (0,0))):=aA M;have cn:=aA f;clear d0 d1 d2 f0 f1 f2 ld M f dP C ag;refine Ap ?_;go_upto_region 26 with fail
          have el:=(Ad.1 ar.o).1;have b0:=fun y:Calm.On we.heap.size we=>aQ (aC y.2 ar.o);have b2:=fun y:Calm.On we.heap.size we=>bB (aC y.2 ar.o);obtain⟨tl,cX⟩:∃z,z=Gm.pos (Gm.ft G) (ml:Int):=⟨_,rfl⟩
          have kt:=(cn.o.cell (p:=⟨gA,ml,none⟩) HS.o.a.lt).trans (HS.o.a.cell ml (by rw[Gm.mm];exact J));rw[Gm.mZ J,<-cX]at kt;rw[<-cX]at dO;clear cX;have bt:=fun y:Calm.On we.heap.size we=>(y.2.cell (p:=⟨gA,ml,none⟩) (Bl kt)).trans kt;have ag:Hid (β we we.drew):=aA (aB (AB _ _) 1);refine CalmN.fk (γ we) (.one [0,1,2,3,4,5,6,7] 8 (.one [] 9 (.fin []))) ⟨⟨we.drew,ag.o⟩,rfl⟩ ?_;simp only[CalmN.fS,CalmN.fu,CalmN.fo,Aq,Ai,Am];repeat (go_big_quiet_step (fail))
          refine Ap ?_;clear b0 b2 bt kt;obtain⟨wd2,al⟩:∃y,y=we.drew:=⟨_,rfl⟩
          have a2:Hid (wd2.heap.size=we.heap.size):=aA (by rw[al];rfl);rw[<-al]at ag ⊢;clear al;have ah:=ag.o.alloc ag.o.size (.cells #[.int .i64 0,.slice none 0 0,.int .i64 0] 74);intro KK C;rw[Az ε];go_wp2_with fail
          refine C _ _ ⟨⟨_,ah⟩,rfl⟩ _ ι ⟨⟨_,ah⟩,rfl⟩ ?_;refine Ap ?_;have hx:=AI wd2 (.cells #[.int .i64 0,.slice none 0 0,.int .i64 0] 74);obtain⟨E,hE⟩:∃E,E=wd2.heap.size:=⟨_,rfl⟩
          have a3:Hid (we.heap.size<=E/\D<E):=aA (by have:=a2.o;omega);rw[<-hE]at hx ⊢;obtain⟨wa2,ca⟩:=χ (wd2.alloc (.cells #[.int .i64 0,.slice none 0 0,.int .i64 0] 74))
          rw[<-ca]at hx ah ⊢;clear ca C hE a2;have ai:=Ba wa2 E 0 _ _ (.int .i64 tl) hx;have aj:=Ba _ E 1 _ _ (.slice none 0 0) ai;have M:=Ba _ E 2 _ _ (.int .i64 pz) aj;have f:=((ah.setCell (p:=⟨E,0,none⟩) a3.o.1 (.int .i64 tl)).setCell (p:=⟨E,1,none⟩) a3.o.1 (.slice none 0 0)).setCell (p:=⟨E,2,none⟩) a3.o.1 (.int .i64 pz);have d0:=AF wa2 _ 0 _ _ _ hx;have d1:=AF wa2 _ 1 _ _ _ hx;have d2:=AF wa2 _ 2 _ _ _ hx;have f0:=AM wa2 _ 0 _ _ hx;have f1:=AM wa2 _ 1 _ _ hx;have f2:=AM wa2 _ 2 _ _ hx;have ld:=(Ad.1 hx).1;clear ai aj ah hx;intro KK C;rw[Az ε];go_wp2_with fail
          obtain⟨wf,dQ⟩:∃y,y=((wa2.setCell ⟨E,0,none⟩ (.int .i64 tl)).setCell ⟨E,1,none⟩ (.slice none 0 0)).setCell ⟨E,2,none⟩ (.int .i64 pz):=⟨_,rfl⟩
          rw[<-dQ]at M f ⊢;refine C _ _ ⟨⟨wf,f⟩,rfl⟩ _ ι ⟨⟨wf,f⟩,rfl⟩ ?_;have aw:Hid (wf.heap[E]?=some (.cells #[.int .i64 tl,.slice none 0 0,.int .i64 pz] 74 (0,0))):=aA M;have dR:=aA (aC f ar.o);have ay:=aA (cn.o.trans (f.mono cn.o.size));have em:Hid (E<wf.heap.size):=aA (Ad.1 M).1;clear d0 d1 d2 f0 f1 f2 ld M f dQ C ag ar cn el;refine Ap ?_;go_wp2;go_loopw [16] (fun vj wr=>∃(j:Nat) (vx:Value),j<=r.length/\vj=.int .i64 j/\Hid (β ws wr)/\Hid (wr.heap[D]?=some (.cells #[.int .i64 ml,.slice A' r.length c',.int .i64 pz] 74 (0,0)))/\Hid (wr.heap[E]?=some (.cells #[.int .i64 tl,vx,.int .i64 pz] 74 (0,0)))/\Hid (aV wr (E+1) vx ((r.take j).map (Gm.lY (Gm.ft G))))) (fun vj _=>r.length-(intOf vj).toNat)
          case atStart=>exact⟨0,_,Bb _,rfl,ay,dR,aw,aA (aV.nil _ _)⟩
          case round =>
           clear ay dR aw em;obtain⟨j,vx,hj,rfl,bi,cY,ap,bj⟩:=hrel;obtain⟨Ax,cx,eo,_,_,_⟩:=bj.o.form;subst eo;have d1:=aU cY.o;have ld:=Bl d1;have fi:=(Ad.1 ap.o).1;by_cases aa:j<r.length
           ·obtain⟨g5,o5,rfl,a5,dS⟩:=dN.o wr (a1.o wr bi.o) ω;have k5:=dS j aa;rw[L.fy aa]at k5;have l5:=Bl k5;have cZ:=dM.o _ (AD aa);have c4:=cl.o _ (AD aa);have HT:Hid ((r.take (j+1)).map (Gm.lY (Gm.ft G))=(r.take j).map (Gm.lY (Gm.ft G))++[Gm.lY (Gm.ft G) r[j]]):=aA (by rw[AP aa,Bi,Dv]);have ep:Hid (((r.take j).map (Gm.lY (Gm.ft G))).length<=1000):=aA (by rw[Bh,Bm];omega);have fj:=aA (fun u=>bi.o.setCell (p:=⟨E,1,none⟩) (by have:=a3.o;have:=bh.o;simp only;omega) u);have er:D≠E:=by have:=a3.o;omega
            have es:Hid (∀k,E+1<=k->ws.heap.size<=k):=aA (fun k h=>by have:=a3.o.2;have:=bh.o;omega);unfold Gm.In at c4;generalize r[j]=z at *;obtain⟨lx,bl⟩:∃n,n=((r.take j).map (Gm.lY (Gm.ft G))).length:=⟨_,rfl⟩
            rw[<-bl]at ap bj;have dT:=aA bl;have e1:=aU ap.o;clear dS bl;by_cases hz:z<0
            focus
             obtain⟨q,hq⟩:∃q:Nat,-1-z=(q:Int):=⟨(-1-z).toNat,ω⟩
             have et:=cZ hz;rw[hq]at et;have eu:=ek.o q ω;have kt:=(bi.o.cell (p:=⟨gA,q,none⟩) HS.o.a.lt).trans (HS.o.a.cell q (by rw[Gm.mm];omega));have lt5:=Bl kt;have bm:Hid (Gm.lY (Gm.ft G) z = -1-(Gm.nU G.ns.length (Gm.ft G)).getD q 0):=aA (by unfold Gm.lY;rw[Az hz,hq,Gm.mZ ω]);generalize (Gm.nU G.ns.length (Gm.ft G)).getD q 0=tq at *;have ev:IntKind.i64.wrap (-1-z)=(q:Int):=by rw[BV _ ω];exact hq
             have a2:decide (z<0)=true:=AV hz;obtain⟨u,hu⟩:∃u,u = -1-tq:=⟨_,rfl⟩
             have ew:IntKind.i64.wrap (-1-tq)=u:=by rw[hu];exact BV _ ω
             rw[<-hu]at bm;rw[bm.o]at HT;clear hz hq c4 cZ eu hu bm
            rotate_left
            focus
             have bm:Hid (Gm.lY (Gm.ft G) z=z):=aA (by unfold Gm.lY;rw[AJ hz]);have a2:decide (z<0)=false:=AU hz;obtain⟨u,hu⟩:∃u,u=z:=⟨_,rfl⟩
             rw[<-hu]at bm k5 a2;rw[<-hu,bm.o]at HT;clear hz c4 cZ hu bm
            all_goals
             have ex:Hid (∀y:World,(wr.alloc (.cells #[.int .i64 u] 3)).grownBy y (Value.slice Ax lx cx).ownBlock->y.heap[D]?=some (.cells #[.int .i64 ml,.slice (some ⟨g5,o5,none⟩) r.length c',.int .i64 pz] 74 (0,0))/\y.heap[E]?=some (.cells #[.int .i64 tl,.slice Ax lx cx,.int .i64 pz] 74 (0,0))/\β ws y):=aA (by
              have c5:aV (wr.alloc (.cells #[.int .i64 u] 3)) (E+1) (.slice Ax lx cx) ((r.take j).map (Gm.lY (Gm.ft G))):=bj.o.alloc _;have ey:(wr.alloc (.cells #[.int .i64 u] 3)).heap[D]?=some (.cells #[.int .i64 ml,.slice (some ⟨g5,o5,none⟩) r.length c',.int .i64 pz] 74 (0,0)):=(BD wr _ D (Ad.1 cY.o).1).trans cY.o;have ez:(wr.alloc (.cells #[.int .i64 u] 3)).heap[E]?=some (.cells #[.int .i64 tl,.slice Ax lx cx,.int .i64 pz] 74 (0,0)):=(BD wr _ E (Ad.1 ap.o).1).trans ap.o;have dU:Below ws.heap.size ws (wr.alloc (.cells #[.int .i64 u] 3)):=bi.o.alloc bi.o.size _;intro y h;have c7:=Br c5;exact⟨rK ey c5 δ h,rK ez c5 δ h,dU.grown h dU.size (fun k e=>es.o k (c7 k e).1)⟩)
             have eA:Hid (aV (wr.alloc (.cells #[.int .i64 u] 3)) (E+1) (.slice Ax lx cx) ((r.take j).map (Gm.lY (Gm.ft G)))):=aA (bj.o.alloc _);have eB:Hid (E+1<=(wr.alloc (.cells #[.int .i64 u] 3)).heap.size):=aA (by simp;omega);have eC:Hid (ws.heap.size<=E):=aA (by have:=a3.o;have:=bh.o;omega);have eD:Hid (E<E+1):=aA (Nat.lt_succ_self E);have eE:Hid (((r.take j).map (Gm.lY (Gm.ft G))).length<=1000000000000):=aA (by have:=ep.o;omega);go_wp2_with (at_builtin;(go_loud (refine yA rfl (.tmp 147) (.tmp 149) _ rfl underlying51 (E+1) _ _ rfl eA.o _ 1 u rfl (Df _ _ _ 0) eE.o eB.o ?_));intro v6 w6 co dV;rw[<-HT.o]at co;obtain⟨dW,dX,dY⟩:=ex.o w6 dV;have eF:=aA dW;have cp:=aA dX;have eG:=aA dY;have bX:=aA co;obtain⟨A6,c6,eH,_,_,_⟩:=co.form;subst eH;obtain⟨n6,cb⟩:∃n,n=((r.take (j+1)).map (Gm.lY (Gm.ft G))).length:=⟨_,rfl⟩;rw[<-cb]at bX ⊢;have e1':w6.cell? ⟨E,1,none⟩=some (.slice Ax lx cx):=(AF w6 _ 1 _ _ _ cp.o).trans rfl;have f1':=AM w6 _ 1 _ _ cp.o;have l1':=(Ad.1 cp.o).1;have eI:=aA (eG.o.setCell (p:=⟨E,1,none⟩) eC.o (.slice A6 n6 c6));have eJ:=aA ((AQ w6 ⟨E,1,none⟩ (.slice A6 n6 c6) D er).trans eF.o);have eK:=aA (Ba w6 E 1 _ _ (.slice A6 n6 c6) cp.o);have eL:Hid (aV (w6.setCell ⟨E,1,none⟩ (.slice A6 n6 c6)) (E+1) (.slice A6 n6 c6) ((r.take (j+1)).map (Gm.lY (Gm.ft G)))):=aA (bX.o.jv (aF (AO w6 (some E)) 1 _) eD.o);clear co dV cb dW dX dY)
             go_roundw
             case rel=>exact⟨j+1,_,aa,ν,eI,eJ,eK,eL⟩
             case measure=>simp[intOf];omega
           ·obtain rfl:j=r.length:=ω
            rw[Bp]at bj ap;have cq:=aA (HS.o.below bi.o);have eM:=aA (HK.o.below bi.o (Af _));have eN:=yF cq.o.r;obtain⟨AR5,cR5,rfl,_,_⟩:=eN;obtain⟨lR,dZ⟩:∃n,n=(((Gm.iB G).take k).map (Gm.re (Gm.ft G))).length:=⟨_,rfl⟩
            obtain⟨lx,bl⟩:∃n,n=(r.map (Gm.lY (Gm.ft G))).length:=⟨_,rfl⟩
            rw[<-dZ]at cq;rw[<-bl]at ap bj;have dT:=aA bl;have j2:=bB cq.o.h;have lh:=Bl j2;have e0:=aQ ap.o;have e1:=aU ap.o;have e2:=bB ap.o;obtain⟨Ay,cy,hy,ry1,ry2,cc⟩:=bj.o.row (B:=wc.heap.size) (by have:=a3.o;have:=bh.o;have:=HS.o.w.size;omega);injection hy with eO eP eQ;subst eO eQ;have cr:=aA (cq.o.alloc (.cells #[.int .i64 tl,.slice Ax lx cx,.int .i64 pz] 74));have d3:=aA (eM.o.alloc (.cells #[.int .i64 tl,.slice Ax lx cx,.int .i64 pz] 74));have c8:=aA ((cc.grown (DY wr (.cells #[.int .i64 tl,.slice Ax lx cx,.int .i64 pz] 74) none) (fun g e=>by cases e)).more (show wr.heap.size<=(wr.alloc (.cells #[.int .i64 tl,.slice Ax lx cx,.int .i64 pz] 74)).heap.size by simp))
            have eR:Hid (∀j u,(qF (⟨tl,r.map (Gm.lY (Gm.ft G)),pz⟩,Ax,cx))[j]?=some u->(wr.alloc (.cells #[.int .i64 tl,.slice Ax lx cx,.int .i64 pz] 74)).cell? ⟨wr.heap.size,j,none⟩=some u):=aA (fun j u hj=>by
             have h:=tD wr [.int .i64 tl,.slice Ax lx cx,.int .i64 pz] 74 j;rw[dT.o]at h ⊢;exact h.trans hj)
            have cd:=aA (Ca ry1 ry2);have da:Hid ((((Gm.iB G).take k).map (Gm.re (Gm.ft G))).length<=1000000):=aA (by rw[Bh];have:=ej.o;omega);clear dZ bl eP ry1 ry2 cc;go_wp2_with (at_builtin;(go_loud (refine R2 rfl (.tmp 153) (.tmp 155) _ rfl underlying24 wc.heap.size _ (.slice AR5 lR cR5) _ rfl cr.o.r _ _ (⟨tl,r.map (Gm.lY (Gm.ft G)),pz⟩,Ax,cx) rfl eR.o ⟨cd.o.1,cd.o.2,c8.o⟩ da.o cr.o.w.size (Af _) ?_));intro v5 w5 az a5;rw[<-dO.o,<-dK.o]at az;have bw:=aA (cr.o.zD az a5);have d4:Hid (aV w5 (gA+1) (.slice (some ⟨gk,ok,none⟩) ks.length cK) ks):=aA (by obtain⟨qs,_,h2,_⟩:=id cr.o.r;exact Bf d3.o a5 (vO d3.o h2 δ));obtain⟨A6,c6,rfl,_,_⟩:=yF az;obtain⟨n6,cb⟩:∃n,n=(((Gm.iB G).take (k+1)).map (Gm.re (Gm.ft G))).length:=⟨_,rfl⟩;rw[<-cb]at bw ⊢;have j2':=AF w5 _ 2 _ _ _ bw.o.h;have f2':=AM w5 _ 2 _ _ bw.o.h;have lh':=(Ad.1 bw.o.h).1;have eS:=aA (bw.o.rF 2 (.slice A6 n6 c6));have eT:Hid (aV (w5.setCell ⟨H,2,none⟩ (.slice A6 n6 c6)) (gA+1) (.slice (some ⟨gk,ok,none⟩) ks.length cK) ks):=aA (Bf d4.o (aF (AO w5 (some H)) 2 _) (aP d4.o bw.o.h (fun cur e=>by injection e with _ e;cases e)));clear az a5 cb)
            go_roundw
            case rel=>exact⟨k+1,_,hlt,ν,eS,eT⟩
            case measure=>simp[intOf];omega
         ·obtain rfl:k=ks.length:=ω
          rw[cj.o,Bp]at HS;obtain⟨AT5,cT5,rfl,_,_⟩:=aO HS.o.t;obtain⟨AN5,cN5,rfl,_,_⟩:=aO HS.o.nn;obtain⟨AR5,cR5,rfl,_,_⟩:=yF HS.o.r;have HP:Hid ((Gm.nU G.ns.length (Gm.ft G)).getD m 0=Gm.pos (Gm.ft G) G.st):=aA (by rw[Gm.mZ cA,<-HM.o]);have q3:=bL (bp.o ws HS.o.w);rw[HM.o]at q3;have km:=HS.o.a.cell m (by rw[Gm.mm];exact cA);rw[HP.o]at km;have la:=HS.o.a.lt;have lq:=Bl q3;have j3:=AF ws _ 3 _ _ _ HS.o.h;have f3:=AM ws _ 3 _ _ HS.o.h;have lh:=(Ad.1 HS.o.h).1;obtain⟨pp,db⟩:∃z,z=Gm.pos (Gm.ft G) G.st:=⟨_,rfl⟩
          rw[<-db]at km;have eU:=aA db;have ad:=aA (HS.o.rF 3 (.int .i64 pp));have dc:Hid (aV (ws.setCell ⟨H,3,none⟩ (.int .i64 pp)) (gA+1) (.slice AK ks.length cK) ks):=aA (Bf HK.o (aF (AO ws (some H)) 3 _) (aP HK.o HS.o.h (fun cur e=>by injection e with _ e;cases e)));obtain⟨wy,de⟩:∃y,y=ws.setCell ⟨H,3,none⟩ (.int .i64 pp):=⟨_,rfl⟩
          rw[<-de]at ad dc;clear db HP;go_upto_region 36 with fail
          rw[<-de];clear de q3 km la lq j3 f3 lh;have j0:=aQ ad.o.h;have j1:=aU ad.o.h;have j2:=bB ad.o.h;have j3:=bL ad.o.h;have lh:=(Ad.1 ad.o.h).1;have ak:=F.o.trans (ad.o.w.mono F.o.size);have g0:=aQ (HZ.o wy ak);have g1:=aU (HZ.o wy ak);have g2:=bB (HZ.o wy ak);have g3:=bL (HZ.o wy ak);have e0:=AM wy _ 0 _ _ (HZ.o wy ak);have e1:=AM wy _ 1 _ _ (HZ.o wy ak);have e2:=AM wy _ 2 _ _ (HZ.o wy ak);have e3:=AM wy _ 3 _ _ (HZ.o wy ak);have lz:=(Ad.1 (HZ.o wy ak)).1;have ay:=aA (fun u1 u2 u3 u4=>((((ax.o wy ak).setCell (p:=⟨w.heap.size+1,0,none⟩) (by simp only;omega) u1).setCell (p:=⟨w.heap.size+1,1,none⟩) (by simp only;omega) u2).setCell (p:=⟨w.heap.size+1,2,none⟩) (by simp only;omega) u3).setCell (p:=⟨w.heap.size+1,3,none⟩) (by simp only;omega) u4);have df:=aF (aF (aF (aF (AO wy (some (w.heap.size+1))) 0 (.slice AT5 G.ts.length cT5)) 1 (.slice AN5 (Gm.gZ G (Gm.ft G)).length cN5)) 2 (.slice AR5 ((Gm.iB G).map (Gm.re (Gm.ft G))).length cR5)) 3 (.int .i64 pp);have eV:w.heap.size+1<wc.heap.size:=by have:=F.o.size;have:=bo.o;omega
          have d5:Gm.reduce G=⟨G.ts,Gm.gZ G (Gm.ft G),(Gm.iB G).map (Gm.re (Gm.ft G)),pp⟩:=by rw[eU.o];rfl
          have eW:=aA ((show wF wy wc.heap.size (.agg #[.slice AT5 G.ts.length cT5,.slice AN5 (Gm.gZ G (Gm.ft G)).length cN5,.slice AR5 ((Gm.iB G).map (Gm.re (Gm.ft G))).length cR5,.int .i64 pp]) (Gm.reduce G) from by rw[d5];exact⟨_,_,_,rfl,ad.o.t,ad.o.nn,ad.o.r⟩).grown df (fun g e=>by injection e with e;omega));have eX:=aA (dc.o.jv df (by have:=ad.o.hA;omega));generalize Gm.gZ G (Gm.ft G)=nms at *;generalize (Gm.iB G).map (Gm.re (Gm.ft G))=tO at *;clear df d5 eV ak HS ad HK dc;go_wp2;refine B3 (v:=.tuple #[.agg #[.slice AT5 G.ts.length cT5,.slice AN5 nms.length cN5,.slice AR5 tO.length cR5,.int .i64 pp],.slice AK ks.length cK,.int .i64 0]) (by simp[results,results78,go_sem,g0,g1,g2,g3]) rfl ?_;exact sL.ok HE.o cW.o eW.o.rd eX.o.xG (ay.o _ _ _ _)
theorem SZ (v:Value) (G:Gm.Gr) (B:Nat) (w:World) (hg:aT w B v G) (hf:Gm.Fit G) (hB:B<=w.heap.size) :
  Calls prog 42 #[v] w fun e w'=>e=.returned (.bool (Gm.ja G))/\β w w':=by
 have H1:=aA (fun(x:World) (h:β w x)=>O4 v G B x (hg.below h hB) hf (Ah hB h.size));have H2:=aA (fun(x:World) (h:β w x) (u:Value) (B':Nat) (hu:aT x B' u (Gm.nL G)) (ag:B'<=x.heap.size)=>QH v u G (Gm.nL G) B B' x (hg.below h hB) hu hf (Gm.sE hf) (Ah hB h.size) ag);have ah:=Gm.uY G;have HI:Hid (Gm.ja G=(decide (Gm.ni G=0)&&Gm.same G (Gm.nL G))):=aA rfl;obtain⟨AT,cT,AN,cN,AR,cR,rfl,_⟩:=hg;have aa:=aA (One.start w #[.slice AT G.ts.length cT,.slice AN G.ns.length cN,.slice AR G.rs.length cR,.int .i64 G.st]);unfold sL at H1;generalize Gm.yo G=L at *;generalize Gm.ni G=er at *;generalize Gm.nL G=RG at *;clear hf;by_cases he:er=0
 ·have HX:Hid (Gm.ja G=Gm.same G RG):=aA (by rw[HI.o,AV he];rfl);subst he;clear ah HI
  go_enter func42,ntmps42
  go_wp2_with fail
  refine(H1.o _ aa.o.below).mono ?_;rintro _ w2 ⟨g,A,c,rfl,ab,ad,d⟩;have ac:=aA (aa.o.on d);have ai:=aA ab;obtain⟨A0,d0,A1,d1,A2,d2,rfl,_⟩:=ab;have ae:=aA (One.start w2 #[.slice A0 RG.ts.length d0,.slice A1 RG.ns.length d1,.slice A2 RG.rs.length d2,.int .i64 RG.st]);have b:=aA (ac.o.on ae.o.below);have x0:=b.o.c 0 _ rfl;have x1:=b.o.c 1 _ rfl;have x2:=b.o.c 2 _ rfl;have x3:=b.o.c 3 _ rfl;have ak:w.heap.size<w2.heap.size:=ac.o.size;clear ad d;go_wp2_with fail
  refine(H2.o _ b.o.below _ w2.heap.size (ai.o.below ae.o.below (Af _)) ae.o.below.size).mono ?_;rintro _ w4 ⟨rfl,af⟩;have aj:=aA (b.o.on af);clear af x0 x1 x2 x3;go_wp2;go_ret
  exact⟨by rw[HX.o];rfl,aj.o.below⟩
 ·have HX:Hid (Gm.ja G=false):=aA (by rw[HI.o,AU he];rfl);have al:(er==0)=false:=by simpa using he
  clear HI H2
  go_enter func42,ntmps42
  go_wp2_with fail
  refine(H1.o _ aa.o.below).mono ?_;rintro _ w2 ⟨g,A,c,rfl,ab,ad,d⟩;have ac:=aA (aa.o.on d);obtain⟨A0,d0,A1,d1,A2,d2,rfl,_⟩:=ab;clear ad d;go_wp2;go_ret
  exact⟨by rw[HX.o];rfl,(ac.o.alloc _).below⟩
def yf (qs:List QS) (es:List (List (Int×Int))):Prop:=(∀j (h:j<qs.length) (h2:j<es.length),(qs[j]).2.1=es[j])/\∀j (h:j<qs.length),es.length<=j->(qs[j]).2=([],none,0)
def tK (qs:List QS) (es:List (List (Int×Int))):Prop:=(∀j (h:j<qs.length) (h2:j<es.length),(qs[j]).2.1=es[j])/\∀j (h:j<qs.length),es.length<j->(qs[j]).2=([],none,0)
theorem yf.in {qs:List QS} (h:yf qs es):tK qs es:=⟨h.1,fun j hj hl=>h.2 j hj ω⟩
theorem tK.snoc {qs:List QS} (h:tK qs es) (hn:es.length<qs.length) (k:List Au.It) (A:Option Addr) (c:Nat):tK (qs++[bK k A c]) es:=by
 refine⟨fun j hj h2=>?_,fun j hj hl=>?_⟩
 ·have b:j<qs.length:=ω
  rw[Cv b];exact h.1 j b h2
 ·by_cases b:j<qs.length
  ·rw[Cv b];exact h.2 j b hl
  ·obtain rfl:j=qs.length:=by rw[AZ,BC]at hj;omega
   rw[Db (Af _)];simp[bK]
theorem tK.set {qs:List QS} (h:tK qs es) (y:QS):tK (qs.set es.length y) es:=by
 refine⟨fun j hj h2=>?_,fun j hj hl=>?_⟩
 ·rw[CE]at hj;rw[EV ω];exact h.1 j hj h2
 ·rw[CE]at hj;rw[EV ω];exact h.2 j hj hl
theorem tK.o {qs:List QS} (h:tK qs es) (hn:es.length<qs.length):yf qs (es++[(qs[es.length]).2.1]):=by
 refine⟨fun j hj h2=>?_,fun j hj hl=>?_⟩
 ·by_cases aa:j<es.length
  ·rw[Cv aa];exact h.1 j hj aa
  ·obtain rfl:j=es.length:=by rw[AZ,BC]at h2;omega
   rw[Db (Af _)];simp
 ·rw[AZ,BC]at hl;exact h.2 j hj ω
theorem yf.zip {qs:List QS} (h:yf qs es) (hn:es.length=qs.length):qs.map yP=(aX qs).zip es:=by
 refine Cu (by simp[aX,hn]) fun j h1 h2=>?_;have hj:j<qs.length:=by simpa using h1
 rw[Cg,Fe];unfold aX;rw[Cg,<-h.1 j hj ω];rfl
theorem RP {cl:List Au.It} {p:List (List Au.It)×List (Int×Int)} {qs:List QS} (hp:aX qs=p.1) (aa:Au.mv G cl s≠[]):Au.ji G cl p s=if Au.ig (aX qs) (Au.mv G cl s)<0 then(p.1++[Au.mv G cl s],p.2++[(s,(qs.length:Int))]) else(p.1,p.2++[(s,Au.ig (aX qs) (Au.mv G cl s))]):=by
 unfold Au.ji;rw[AJ aa,hp];have e:p.1.length=qs.length:=by rw[<-hp];unfold aX;rw[Bh]
 by_cases h:Au.ig p.1 (Au.mv G cl s)<0
 ·rw[AJ ω,Az h,e]
 ·rw[Az ω,AJ h]
theorem PU {k:List Au.It} {nm c:Nat} (h:k.length=nm):∀(j:Nat) (u:Value),(nP (bK k A c))[j]?=some u->(#[.slice A nm c,.slice none 0 0]:Array Value)[j]?=some u:=fun j u hu=>by
 subst h
 match j,hu with
 | 0,hu=>exact hu
 | 1,hu=>exact hu
 | j+2,hu=>simp[nP]at hu
theorem OA (v:Value) (G:Gm.Gr) (B:Nat) (w:World) (hg:aT w B v G) (hf:Gm.Fit G) (hB:B<=w.heap.size) :
  Calls prog 21 #[v] w (sN G w):=by
 have bo:=aA (fun y (h:β w y)=>SZ v G B y (hg.below h hB) hf (Ah hB h.size));have HG:=aA hg;have HF:=aA hf;have a2:=aA hB;obtain⟨AT,cT,AN,cN,AR,cR,rfl,⟨em,eo⟩,⟨ep,er⟩,_⟩:=hg;have C:=aA (aZ.start 26 w #[.slice AT G.ts.length cT,.slice AN G.ns.length cN,.slice AR G.rs.length cR,.int .i64 G.st]);have g0:=C.o.c 0 _ rfl;have g1:=C.o.c 1 _ rfl;have g2:=C.o.c 2 _ rfl;have g3:=C.o.c 3 _ rfl;clear hf hB;cases hr:Gm.ja G
 ·have HQ:=aA (Au.lK hr);rw[hr]at bo;clear hr
  go_enter func21,ntmps21
  go_wp2_with fail
  refine(bo.o _ C.o.below).mono ?_;rintro _ w2 ⟨rfl,hb⟩;have HB:=aA (C.o.on hb);clear hb g0 g1 g2 g3;go_wp2
  go_ret2
  exact sN.nil HQ.o HB.o.below
 ·have HR:=aA hr;have O:=aA (Gm.fq.1 (Gm.gx hr));rw[hr]at bo;have U:=(Gm.fK G.ts).1 O.o.t;have a3:=(Gm.fF G).1 O.o.n;have et:(G.ts.length:Int)<=24:=ω
  have eu:(G.ns.length:Int)<=16:=ω
  have dE:Hid (G.ts.length<=24/\G.ns.length<=16):=aA ω;clear hr U a3
  go_enter func21,ntmps21
  go_wp2_with fail
  refine(bo.o _ C.o.below).mono ?_;rintro _ w2 ⟨rfl,hb⟩;have HB:=aA (C.o.on hb);clear hb g0 g1 g2 g3;obtain⟨w3,a4⟩:=χ (w2.alloc (.cells #[.int .i64 (-1),.int .i64 0] 61))
  have b0:w3.heap.size=w2.heap.size+1:=by rw[a4];simp
  have b3:β w2 w3:=by rw[a4];exact(AB _ _).alloc (Af _) _
  have c3:w3.heap[w2.heap.size]?=some (.cells #[.int .i64 (-1),.int .i64 0] 61 (0,0)):=by rw[a4];exact AI w2 _
  obtain⟨w4,a5⟩:=χ (w3.alloc (.cells #[.slice (some ⟨w2.heap.size,0,none⟩) 1 1,.slice none 0 0] 59))
  have dF:w4.heap.size=w2.heap.size+2:=by rw[a5];simp[b0]
  have b4:β w3 w4:=by rw[a5];exact(AB _ _).alloc (Af _) _
  have c4:w4.heap[w2.heap.size+1]?=some (.cells #[.slice (some ⟨w2.heap.size,0,none⟩) 1 1,.slice none 0 0] 59 (0,0)):=by rw[a5,<-b0];exact AI w3 _
  have dG:=HB.o.size;have dH:=aA ((HB.o.on b3).on (b4))
  have a6:Hid (pd w4 (w.heap.size+1) w4.heap.size w4.heap.size (.slice (some ⟨w2.heap.size+1,0,none⟩) 1 1) [bK [(-1,0)] (some ⟨w2.heap.size,0,none⟩) 1]):=aA ⟨⟨by simp[nP],.inr ⟨w2.heap.size+1,1,_,rfl,ω,c4,Af _,by unfold maxLen;omega,σ,by simp[nP,bK,rv]⟩⟩,fun q hq=>by
   rw[AW.1 hq];refine⟨⟨Af _,by simp[bK],fun _=>⟨w2.heap.size,_,rfl,ω,ω,aC b4 c3,fun i hi j u hu=>?_⟩⟩,⟨Bb _,Bb _,bR.nil _ _ _ _ _⟩⟩
   have:i=0:=by simp[bK]at hi;omega
   subst this
   match j,hu with
   | 0,hu=>exact hu
   | 1,hu=>exact hu
   | j+2,hu=>simp[bK,fM]at hu⟩
  clear b3 c3 b4 c4 dG;go_upto_region 4 with fail
  rw[<-a4,<-a5];clear a4 a5 dF b0;have dI:Hid (Au.Inv G [[(-1,0)]] []):=aA (Au.Inv.start G);have b1:Hid (Au.run G (302-([]:List (List (Int×Int))).length) [[(-1,0)]] []=Au.ku G):=aA rfl;have b5:Hid (aX [bK [((-1:Int),(0:Int))] (some ⟨w2.heap.size,0,none⟩) 1]=[[(-1,0)]]):=aA rfl
  have dJ:Hid (yf [bK [((-1:Int),(0:Int))] (some ⟨w2.heap.size,0,none⟩) 1] []):=aA ⟨fun j _ h=>absurd h (Dj _),fun j hj _=>by
   have:j=0:=by simp at hj;omega
   subst this;rfl⟩
  generalize [bK [((-1:Int),(0:Int))] (some ⟨w2.heap.size,0,none⟩) 1]=qs0 at *;obtain⟨bs,c5⟩:∃bs,bs=w2.heap.size+1:=⟨_,rfl⟩
  rw[<-c5]at a6;rw[<-c5];go_wp2;go_loopw [4,5] (fun vo vi wr=>∃(ks:List (List Au.It)) (es:List (List (Int×Int))) (qs:List QS),vi=.int .i64 (es.length:Nat)/\ks.length<=300/\es.length<=ks.length/\Hid (Au.Inv G ks es)/\Hid (Au.run G (302-es.length) ks es=Au.ku G)/\Hid (aX qs=ks)/\Hid (yf qs es)/\Hid (pd wr (w.heap.size+1) wr.heap.size wr.heap.size vo qs)/\Hid (aZ 26 w #[.slice AT G.ts.length cT,.slice AN G.ns.length cN,.slice AR G.rs.length cR,.int .i64 G.st] wr)) (fun _ vi _=>301-(intOf vi).toNat)
  case atStart=>exact⟨[[(-1,0)]],[],qs0,rfl,σ,σ,dI,b1,b5,dJ,a6,dH⟩
  case round =>
   obtain⟨ks,es,qs,rfl,bp,c6,HI,b6,bq,HE,V,HW⟩:=hrel;have b7:qs.length=ks.length:=by rw[<-bq.o];unfold aX;rw[Bh]
   obtain⟨Ao,co,rfl,_,_,_⟩:=aK.form V.o.1 oX;by_cases ai:es.length<ks.length
   ·have ay:es.length<qs.length:=ω
    have dK:=aA b7;clear b7;have dL:((es.length:Nat):Int)<((qs.length:Nat):Int):=ω
    obtain⟨gS,cS,he,br,bu,ev⟩:=aK.addr V.o.1 ω;injection he with dM dN dO;subst dM;clear dN dO;have k0:wr.cell? ⟨gS,es.length*2,none⟩=some (.slice (qs[es.length]).1.2.1 (qs[es.length]).1.1.length (qs[es.length]).1.2.2):=aK.cellAt V.o.1 oX es.length 0 ay _ rfl;have c7:=aK.lt V.o.1
    have b8:ks.getD es.length []=(qs[es.length]).1.1:=by
     rw[<-bq.o];unfold aX;rw[Aw,BO,AH ay];rfl
    have b9:(qs[es.length]).1.1∈ks:=by
     rw[<-b8,Aw,AH ai];exact AD ai
    have da:=HI.o.it _ b9;have hQ:=V.o.2 _ (AD ay);have dP:=aA (fun(y:World) (h:β wr y)=>Pf _ G B (qs[es.length]).1.1 (qs[es.length]).1.2.1 (qs[es.length]).1.2.2 wr.heap.size y (HG.o.below (HW.o.on h).below a2.o) HF.o O.o (Ah a2.o (HW.o.on h).below.size) (hQ.1.2.2.rd.below h (Af _)) h.size da.2 (Ah (Au.lM O.o O.o.kL HI.o b9) ω));have dQ:Hid (Au.one G ks es.length=Au.fZ G (Au.jb G (qs[es.length]).1.1) (ks,[]) (Au.syms G)):=aA (by unfold Au.one;rw[b8]);have db:=aA (Au.qd (G:=G) ai bp);have dc:=aA (HI.o.step ai);have dR:Hid (∀x∈Au.jb G (qs[es.length]).1.1,Au.ir G x=true):=aA (fun x hx=>Au.mA hx);have dS:=aA (Au.kT G (qs[es.length]).1.1);have de:Hid ((Au.jb G (qs[es.length]).1.1).length<=287):=aA (Au.rZ O.o O.o.kL _);have dT:Hid ((qs[es.length]).2=([],none,0)):=aA (HE.o.2 _ ay (Af _));generalize (qs[es.length]).1.1=k at *;generalize (qs[es.length]).1.2.1=Ak at *;generalize (qs[es.length]).1.2.2=ck at *;clear b8 b9 da hQ br bu;have z0:∀z:Calm.On wr.heap.size wr,z.1.cell? ⟨w.heap.size,0,none⟩=some (.slice AT G.ts.length cT):=fun z=>(HW.o.on z.2).c 0 _ rfl;have z1:∀z:Calm.On wr.heap.size wr,z.1.cell? ⟨w.heap.size,1,none⟩=some (.slice AN G.ns.length cN):=fun z=>(HW.o.on z.2).c 1 _ rfl;have z2:∀z:Calm.On wr.heap.size wr,z.1.cell? ⟨w.heap.size,2,none⟩=some (.slice AR G.rs.length cR):=fun z=>(HW.o.on z.2).c 2 _ rfl;have z3:∀z:Calm.On wr.heap.size wr,z.1.cell? ⟨w.heap.size,3,none⟩=some (.int .i64 G.st):=fun z=>(HW.o.on z.2).c 3 _ rfl;have q0:∀z:Calm.On wr.heap.size wr,z.1.cell? ⟨gS,es.length*2,none⟩=some (.slice Ak k.length ck):=fun z=>(z.2.cell (p:=⟨gS,es.length*2,none⟩) c7).trans k0;have C:=rM wr;clear k0 c7;go_wp2_with fail
    refine CalmN.fk (γ wr) (.one [0,1,2,3,4,5] 6 (.fin [7])) C.o ?_;simp only[CalmN.fS,CalmN.fu,CalmN.fo,Aq,Ai,Am];repeat (go_big_quiet_step (fail))
    refine Ap ?_;intro KK df;rw[Az ε];go_wp2_with fail
    refine(dP.o wr.drew (aB (AB _ _) 1)).mono ?_;rintro _ w6 ⟨v6,rfl,ca,X⟩;have X:β wr w6:=(aB (AB _ wr) 1).trans X;have cb:=yM X;obtain⟨Ac,cc,rfl,_,_,_⟩:=aK.form ca aG;have dU:=aA (aK.jK ca);have dg:=aA (HW.o.on X);have aj:=V.o.below X;have dV:=aA (iI.of (n:=es.length) (w:=w6) (base:=w.heap.size+1) (NE:=w6.heap.size) ⟨aj.1,fun q hq=>(aj.2 q hq).more X.size X.size⟩ ay dT.o);have dW:=aA (HE.o.in);have dh:Hid (w.heap.size+1<=w6.heap.size):=aA dg.o.size;generalize Au.jb G k=cl at *;clear ca X aj z0 z1 z2 z3 q0;have dX:(cl.length:Int)<=287:=by have:=de.o;omega
    obtain⟨nn,a3⟩:∃nn,nn=G.ts.length+G.ns.length:=⟨_,rfl⟩
    have di:=aA a3;have D:Hid (nn<=40):=aA (by have:=dE.o;omega);have ew:IntKind.i64.wrap ((G.ts.length:Int)+(G.ns.length:Int))=((nn:Nat):Int):=by rw[BV _ ω,a3];omega
    have dj:((nn:Nat):Int)<=40:=by have:=D.o;omega
    clear a3;have ex:=aA ai;have ey:=aA bp;go_wp2_with fail
    refine df _ _ cb.o _ ι cb.o ?_;clear df cb C;repeat (go_big_quiet_step (fail))
    refine Ap ?_;go_wp2;go_loopw [4,7] (fun vo vi wy=>∃(i:Nat) (qs2:List QS),i<=nn/\vi=.int .i64 i/\es.length<qs2.length/\qs2.length<=300+i/\Hid (aX qs2=(Au.fZ G cl (ks,[]) ((Au.syms G).take i)).1)/\Hid (tK qs2 es)/\Hid (iI wy (w.heap.size+1) w6.heap.size es.length vo qs2 (Au.fZ G cl (ks,[]) ((Au.syms G).take i)).2)/\Hid ((Au.fZ G cl (ks,[]) ((Au.syms G).take i)).2.length<=i)/\Hid (bR 61 wy 0 wy.heap.size Ac cl)/\Hid (aZ 26 w #[.slice AT G.ts.length cT,.slice AN G.ns.length cN,.slice AR G.rs.length cR,.int .i64 G.st] wy)/\Hid (w6.heap.size<=wy.heap.size)) (fun _ vi _=>nn-(intOf vi).toNat)
    case atStart=>exact⟨0,qs,Bb _,rfl,ay,by have:=dK.o;omega,bq,dW,dV,aA (by simp[Au.fZ]),aA (dU.o.less (Bb _)),dg,aA (Af _)⟩
    case round =>
     obtain⟨i,qs2,hi,rfl,ak,bv,l,ab,E,F,a9,r,dk⟩:=hrel;rename World=>wy;obtain⟨A2,c2,rfl,_,_,_⟩:=aK.form E.o.o oX;have x0:=r.o.c 0 _ rfl;have x1:=r.o.c 1 _ rfl;have x2:=r.o.c 2 _ rfl;have x3:=r.o.c 3 _ rfl;by_cases cd:i<nn
     ·have dl:=aA (fun(y:World) (h:β wy y)=>O3 _ G B i y (HG.o.below (r.o.on h).below a2.o) (by have:=D.o;omega) ω);obtain⟨s,hs⟩:∃s,s=(if(i:Int)<G.ts.length then(i:Int) else -1-((i:Int)-G.ts.length)):=⟨_,rfl⟩
      have ce:=Au.xN (G:=G) (i:=i) (by have:=di.o;omega);rw[<-hs]at dl ce
      have H:Hid (Au.fZ G cl (ks,[]) ((Au.syms G).take (i+1))=Au.ji G cl (Au.fZ G cl (ks,[]) ((Au.syms G).take i)) s):=aA (by
       obtain⟨hl,e⟩:=Bk.1 ce;rw[AP hl,e,Au.mE])
      have dY:=aA (fun(y:World) (h:β wy y)=>Pc _ G B cl Ac cc wy.heap.size s y (HG.o.below (r.o.on h).below a2.o) HF.o O.o (Ah a2.o (r.o.on h).below.size) (a9.o.rd.below h (Af _)) h.size dR.o dS.o (by have:=de.o;omega));have ez:=aA (Au.sw G cl s);have dm:Hid ((Au.fZ G cl (ks,[]) ((Au.syms G).take i)).2.length<=1000):=aA (by have:=F.o;have:=D.o;omega);have dZ:((i:Nat):Int)<((nn:Nat):Int):=ω
      clear hs ce;generalize Au.fZ G cl (ks,[]) ((Au.syms G).take i)=p at *;go_wp2_with fail
      refine(dl.o wy (AB _ _)).mono ?_;rintro _ w7 ⟨rfl,az⟩;have bw:=aA az;have y0:=(r.o.on az).c 0 _ rfl;have y1:=(r.o.on az).c 1 _ rfl;have y2:=(r.o.on az).c 2 _ rfl;have y3:=(r.o.on az).c 3 _ rfl;clear az x0 x1 x2 x3;go_wp2_with fail
      refine(dY.o w7 bw.o).mono ?_;rintro _ w8 ⟨v8,rfl,bx,cf⟩;have ba:Hid (β wy w8):=aA (bw.o.trans (cf.mono bw.o.size));obtain⟨A8,c8,rfl,cg,bz,ac⟩:=aK.form bx aG;have ch:=aA (r.o.on ba.o);have bb:=aA (E.o.below ba.o);have al:Hid (bR 61 w8 0 w8.heap.size Ac cl):=aA ((a9.o.fp fun g cur hg hc=>(ba.o.block g hg).trans hc).more ba.o.size);have bD:Hid (w6.heap.size<=w8.heap.size):=aA (Ah dk.o ba.o.size);clear y0 y1 y2 y3;by_cases a0:Au.mv G cl s=[]
      ·have HE:Hid (Au.ji G cl p s=p):=aA (by unfold Au.ji;rw[Az a0]);have d0:(((Au.mv G cl s).length:Int)==0)=true:=by rw[a0];rfl
       clear bx cf cg bz ac a0;generalize (Au.mv G cl s).length=nm at *;go_wp2;go_roundw
       case rel=>exact⟨i+1,qs2,cd,ν,ak,ω,aA (by rw[H.o,HE.o];exact l.o),ab,aA (by rw[H.o,HE.o];exact bb.o),aA (by rw[H.o,HE.o];have:=F.o;omega),al,ch,bD⟩
       case measure=>simp[intOf];omega
      ·have d1:0<(Au.mv G cl s).length:=List.length_pos_iff.2 a0;have d0:(((Au.mv G cl s).length:Int)==0)=false:=by rw[Bc];omega
       have dn:=aA (RP (qs:=qs2) l.o a0);have bc:(qs2.map yP).map (·.1)=aX qs2:=by unfold aX yP;rw[Ee];rfl
       have aa:(qs2.map yP).length=qs2.length:=Bh _;have d2:=aA ac
       have ci:=aA (QW (qs2.map yP) (Au.mv G cl s) A2 A8 c2 c8 w8.heap.size w8 (bb.o.rd bD.o) ac (Af _) (by rw[aa];omega) (fun x hx=>by
        obtain⟨q,hq,rfl⟩:=Bo.1 hx;obtain⟨j,hj,rfl⟩:=BG hq
        have:=(bb.o.k j hj)
        exact Ah this.1 this.2.1))
       rw[aa,bc]at ci;have d3:Hid (vY 61 w8 (w.heap.size+1) w8.heap.size (Au.mv G cl s,A8,c8)):=aA ⟨cg,by unfold maxLen at bz;exact Ah bz ω,(aK.jK bx).less (Ah r.o.size bw.o.size)⟩;clear bx cf cg bz ac a0 d1 bc aa;by_cases dp:Au.ig (aX qs2) (Au.mv G cl s)<0
       focus
        have HE:=aA dn.o;rw[Az dp]at HE;generalize Au.ig (aX qs2) (Au.mv G cl s)=fz at *;generalize dq:(Au.mv G cl s).length=nm at *;have d4:=aA dq;clear dq;go_wp2_with fail
        refine ci.o.mono ?_;rintro _ wf ⟨rfl,m⟩;have cj:=aA (bb.o.below m);have d5:=aA (ch.o.on m);have d6:=aA (d3.o.fp (N':=wf.heap.size) (fun g cur _ hc=>(m.block g (Ad.1 hc).1).trans hc) m.size);have cm:Hid (bR 61 wf 0 wf.heap.size Ac cl):=aA ((al.o.fp fun g cur hg hc=>(m.block g hg).trans hc).more m.size);have d7:Hid (w6.heap.size<=wf.heap.size):=aA (Ah bD.o m.size);clear m;obtain⟨gO,cO,d8,_,_,d9⟩:=aK.addr cj.o.o ω;injection d8 with cn cp cq;subst cn;clear cp cq;have cr:=aA (cj.o.o.alloc (.cells #[.slice A8 nm c8,.slice none 0 0] 59));have cs:=aA (AI wf (.cells #[.slice A8 nm c8,.slice none 0 0] 59));have cu:=aA (cj.o.below ((AB wf.heap.size wf).alloc (Af _) (.cells #[.slice A8 nm c8,.slice none 0 0] 59)));have am:=aA (d5.o.alloc (.cells #[.slice A8 nm c8,.slice none 0 0] 59));have cv:=aA (d6.o.fp (w':=wf.alloc (.cells #[.slice A8 nm c8,.slice none 0 0] 59)) (N':=(wf.alloc (.cells #[.slice A8 nm c8,.slice none 0 0] 59)).heap.size) (fun g cur ea hc=>(BD wf _ g ea).trans hc) σ);have cw:Hid (bR 61 (wf.alloc (.cells #[.slice A8 nm c8,.slice none 0 0] 59)) 0 wf.heap.size Ac cl):=aA (cm.o.fp fun g cur hg hc=>(BD wf _ g hg).trans hc);have cx:Hid (qs2.length<=1000):=aA (by have:=D.o;omega);have bd:Hid (es.length<qs2.length):=aA ak;have cy:Hid (qs2.length<=300+i):=aA bv;go_upto_region 18 with(at_builtin;refine yz (f:=nP) rfl (.tmp 59) (.tmp 62) _ rfl underlying45 _ 48 Nv δ δ δ oX Mv (w.heap.size+1) _ qs2 rfl cr.o _ _ (bK (Au.mv G cl s) A8 c8) rfl (fun j u hu=>(AF _ wf.heap.size j _ _ _ cs.o).trans (PU d4.o j u hu)) (by have:=cx.o;omega) am.o.size ?_;intro vX wX ao A;obtain⟨AX,cX0,dr,_,_,_⟩:=aK.form ao oX;generalize ds:(qs2++[bK (Au.mv G cl s) A8 c8]).length=lX at dr;subst dr;have bf:=aA ds;clear ds)
        have I:=aA (cu.o.snoc ao A cv.o);have cz:Hid (aZ 26 w #[.slice AT G.ts.length cT,.slice AN G.ns.length cN,.slice AR G.rs.length cR,.int .i64 G.st] wX):=aA (Eh am.o A am.o.size (fun k e=>(Br cr.o k e).1));have cA:Hid (bR 61 wX 0 wX.heap.size Ac cl):=aA ((cw.o.fp fun g cur hg hc=>aJ cr.o A hc fun cur=>aH δ).more (by have:=A.size;simp at this;omega));have cC:Hid (w6.heap.size<=wX.heap.size):=aA (by have:=A.size;simp at this;have:=d7.o;omega);have cE:es.length<(qs2++[bK (Au.mv G cl s) A8 c8]).length:=by have:=bd.o;rw[AZ];omega
        have ap:=aA (ab.o.snoc bd.o (Au.mv G cl s) A8 c8);have cG:Hid (aX (qs2++[bK (Au.mv G cl s) A8 c8])=p.1++[Au.mv G cl s]):=aA (by rw[<-l.o];unfold aX;rw[Bi];rfl);have cI:Hid ((qs2++[bK (Au.mv G cl s) A8 c8]).length<=300+(i+1)):=aA (by rw[AZ,BC];have:=cy.o;omega);obtain rfl:=bf.o;clear ao A bf ak bv;generalize qs2++[bK (Au.mv G cl s) A8 c8]=qsX at *;have bv:=cI.o;have U:Hid (es.length<qsX.length):=aA cE
       rotate_left
       focus
        have HE:=aA dn.o;rw[AJ dp]at HE;generalize Au.ig (aX qs2) (Au.mv G cl s)=fz at *;generalize (Au.mv G cl s).length=nm at *;go_wp2_with fail
        refine ci.o.mono ?_;rintro _ wf ⟨rfl,m⟩;have I:=aA (bb.o.below m);have cz:=aA (ch.o.on m);have cA:Hid (bR 61 wf 0 wf.heap.size Ac cl):=aA ((al.o.fp fun g cur hg hc=>(m.block g hg).trans hc).more m.size);have cC:Hid (w6.heap.size<=wf.heap.size):=aA (Ah bD.o m.size);have cE:es.length<qs2.length:=ak;have ap:=ab;have cG:Hid (aX qs2=p.1):=l;clear m;have U:Hid (es.length<qs2.length):=aA cE
       rotate_left
       all_goals
        obtain⟨Z,ad,aq⟩:=I.o.a;obtain⟨Aee,cee,ah,_,_,_⟩:=aK.form aq aG;obtain⟨gX,cX,eb,_,_,cJ⟩:=aK.addr I.o.o (by have:=U.o;omega);injection eb with cK cL cM;subst cK;clear cL cM
       focus
        have e0:wX.cell? ⟨gX,es.length*2+1,none⟩=some (.slice Aee p.2.length cee):=by
         rw[<-ah];exact aK.cellAt I.o.o oX es.length 1 Z _ rfl
        obtain⟨curX,b⟩:∃cur,wX.heap[gX]?=some (.cells cur 59 (0,0)):=by
         rcases I.o.o.2 with⟨e,_⟩|⟨g2,cap,cur,e,_,cP,_⟩
         ·cases e
         ·injection e with e _ _;injection e with e;injection e with e;subst e;exact⟨cur,cP⟩
        have cQ:=aA ((AF wX gX (es.length*2+1) _ _ _ b).symm.trans e0);rw[ah]at aq;have ar:=aA (aq.alloc (.cells #[.int .i64 s,.int .i64 (qs2.length:Int)] 96));have bM:=aA ((BD wX (.cells #[.int .i64 s,.int .i64 (qs2.length:Int)] 96) gX (Ad.1 b).1).trans b);have au:=aA (AI wX (.cells #[.int .i64 s,.int .i64 (qs2.length:Int)] 96));have bg:=aA (I.o.below ((AB wX.heap.size wX).alloc (Af _) (.cells #[.int .i64 s,.int .i64 (qs2.length:Int)] 96)));have av:=aA (cz.o.alloc (.cells #[.int .i64 s,.int .i64 (qs2.length:Int)] 96));have ae:Hid (w6.heap.size<=(wX.alloc (.cells #[.int .i64 s,.int .i64 (qs2.length:Int)] 96)).heap.size):=aA (by have:=cC.o;simp;omega);have bh:Hid (bR 61 (wX.alloc (.cells #[.int .i64 s,.int .i64 (qs2.length:Int)] 96)) 0 wX.heap.size Ac cl):=aA (cA.o.fp fun g cur hg hc=>(BD wX _ g hg).trans hc);have dt:=aA ah;have ec:=aA ad;have du:=aA Z;have ed:((es.length:Nat):Int)<((qsX.length:Nat):Int):=by have:=U.o;omega
        clear ad aq b ah;go_wp2_with (at_builtin;refine yz (f:=fM) rfl (.tmp 70) (.tmp 74) _ rfl underlying57 _ 16 J0 δ δ δ aG tA w6.heap.size _ p.2 rfl ar.o _ _ (s,(qs2.length:Int)) rfl (Jt (s,(qs2.length:Int)) _ _ au.o) (by have:=dm.o;omega) ae.o ?_;intro v9 w9 a1 J;obtain⟨A9,c9,bi,_,_,_⟩:=aK.form a1 aG;generalize bj:(p.2++[(s,(qs2.length:Int))]).length=ln at bi;subst bi;have bk:=aA bj;clear bj;have M:=aJ ar.o J bM.o (fun cur=>aH δ);have e9:=(AF w9 gX (es.length*2+1) _ _ _ M).trans cQ.o;have f9:=AM w9 gX (es.length*2+1) _ _ M;have l9:=(Ad.1 M).1)
       rotate_left
       focus
        have e0:wf.cell? ⟨gX,es.length*2+1,none⟩=some (.slice Aee p.2.length cee):=by
         rw[<-ah];exact aK.cellAt I.o.o oX es.length 1 Z _ rfl
        obtain⟨curX,b⟩:∃cur,wf.heap[gX]?=some (.cells cur 59 (0,0)):=by
         rcases I.o.o.2 with⟨e,_⟩|⟨g2,cap,cur,e,_,cP,_⟩
         ·cases e
         ·injection e with e _ _;injection e with e;injection e with e;subst e;exact⟨cur,cP⟩
        have cQ:=aA ((AF wf gX (es.length*2+1) _ _ _ b).symm.trans e0);rw[ah]at aq;have ar:=aA (aq.alloc (.cells #[.int .i64 s,.int .i64 fz] 96));have bM:=aA ((BD wf (.cells #[.int .i64 s,.int .i64 fz] 96) gX (Ad.1 b).1).trans b);have au:=aA (AI wf (.cells #[.int .i64 s,.int .i64 fz] 96));have bg:=aA (I.o.below ((AB wf.heap.size wf).alloc (Af _) (.cells #[.int .i64 s,.int .i64 fz] 96)));have av:=aA (cz.o.alloc (.cells #[.int .i64 s,.int .i64 fz] 96));have ae:Hid (w6.heap.size<=(wf.alloc (.cells #[.int .i64 s,.int .i64 fz] 96)).heap.size):=aA (by have:=cC.o;simp;omega);have bh:Hid (bR 61 (wf.alloc (.cells #[.int .i64 s,.int .i64 fz] 96)) 0 wf.heap.size Ac cl):=aA (cA.o.fp fun g cur hg hc=>(BD wf _ g hg).trans hc);have dt:=aA ah;have ec:=aA ad;have du:=aA Z;have ed:((es.length:Nat):Int)<((qs2.length:Nat):Int):=by have:=U.o;omega
        clear ad aq b ah;go_wp2_with (at_builtin;refine yz (f:=fM) rfl (.tmp 70) (.tmp 74) _ rfl underlying57 _ 16 J0 δ δ δ aG tA w6.heap.size _ p.2 rfl ar.o _ _ (s,fz) rfl (Jt (s,fz) _ _ au.o) (by have:=dm.o;omega) ae.o ?_;intro v9 w9 a1 J;obtain⟨A9,c9,bi,_,_,_⟩:=aK.form a1 aG;generalize bj:(p.2++[(s,fz)]).length=ln at bi;subst bi;have bk:=aA bj;clear bj;have M:=aJ ar.o J bM.o (fun cur=>aH δ);have e9:=(AF w9 gX (es.length*2+1) _ _ _ M).trans cQ.o;have f9:=AM w9 gX (es.length*2+1) _ _ M;have l9:=(Ad.1 M).1)
       rotate_left
       all_goals
        have bl:=aA (bg.o.ji du.o a1 (by rw[bk.o]) (by rw[dt.o];exact J));have bT:=J.size;have af:(w9.setCell ⟨gX,es.length*2+1,none⟩ (.slice A9 ln c9)).heap.size=w9.heap.size:=σ
        have dv:Hid (aZ 26 w #[.slice AT G.ts.length cT,.slice AN G.ns.length cN,.slice AR G.rs.length cR,.int .i64 G.st] (w9.setCell ⟨gX,es.length*2+1,none⟩ (.slice A9 ln c9))):=aA (Em (Eh av.o J av.o.size (fun k e=>Ah dh.o (Br ar.o k e).1)) cJ _)
        have dw:Hid (bR 61 (w9.setCell ⟨gX,es.length*2+1,none⟩ (.slice A9 ln c9)) 0 (w9.setCell ⟨gX,es.length*2+1,none⟩ (.slice A9 ln c9)).heap.size Ac cl):=aA ((bh.o.fp fun g cur hg hc=>(AQ w9 ⟨gX,es.length*2+1,none⟩ _ g (fun e=>by
         have e:g=gX:=e;rw[e,bM.o]at hc;injection hc with hc;exact aH δ hc)).trans (aJ ar.o J hc fun cur=>aH δ)).more (by rw[af];simp at bT;omega))
        have dx:Hid (w6.heap.size<=(w9.setCell ⟨gX,es.length*2+1,none⟩ (.slice A9 ln c9)).heap.size):=aA (by rw[af];exact Ah ae.o bT)
       focus
        have N:Hid ((qsX.set es.length ((qsX[es.length]).1,(p.2++[(s,(qs2.length:Int))],A9,c9))).length=qsX.length):=aA CE
        have cU:Hid (aX (qsX.set es.length ((qsX[es.length]).1,(p.2++[(s,(qs2.length:Int))],A9,c9)))=aX qsX):=aA (by
         unfold aX;rw[Cy];refine C3 fun j=>?_;rw[Dq];by_cases bm:es.length=j
         ·subst bm;rw[Az rfl,Az (by simpa using Z),BO,AH Z];rfl
         ·rw[AJ bm])
        have aw:Hid (tK (qsX.set es.length ((qsX[es.length]).1,(p.2++[(s,(qs2.length:Int))],A9,c9))) es):=aA (ap.o.set _);have ax:Hid ((p.2++[(s,(qs2.length:Int))]).length<=i+1):=aA (by have:=F.o;rw[AZ,BC];omega);rw[<-N.o];generalize qsX.set es.length ((qsX[es.length]).1,(p.2++[(s,(qs2.length:Int))],A9,c9))=qs9 at *;clear a1 J M e9 f9 l9 e0 bT af;go_roundw
        case rel=>exact⟨i+1,qs9,cd,ν,by rw[N.o];exact U.o,by rw[N.o];omega,aA (by rw[H.o,HE.o,cU.o];exact cG.o),aw,aA (by rw[H.o,HE.o,N.o];exact bl.o),aA (by rw[H.o,HE.o];exact ax.o),dw,dv,dx⟩
        case measure=>simp[intOf];omega
       focus
        have N:Hid ((qs2.set es.length ((qs2[es.length]).1,(p.2++[(s,fz)],A9,c9))).length=qs2.length):=aA CE
        have cU:Hid (aX (qs2.set es.length ((qs2[es.length]).1,(p.2++[(s,fz)],A9,c9)))=aX qs2):=aA (by
         unfold aX;rw[Cy];refine C3 fun j=>?_;rw[Dq];by_cases bm:es.length=j
         ·subst bm;rw[Az rfl,Az (by simpa using Z),BO,AH Z];rfl
         ·rw[AJ bm])
        have aw:Hid (tK (qs2.set es.length ((qs2[es.length]).1,(p.2++[(s,fz)],A9,c9))) es):=aA (ap.o.set _);have ax:Hid ((p.2++[(s,fz)]).length<=i+1):=aA (by have:=F.o;rw[AZ,BC];omega);rw[<-N.o];generalize qs2.set es.length ((qs2[es.length]).1,(p.2++[(s,fz)],A9,c9))=qs9 at *;clear a1 J M e9 f9 l9 e0 bT af;go_roundw
        case rel=>exact⟨i+1,qs9,cd,ν,by rw[N.o];exact U.o,by rw[N.o];omega,aA (by rw[H.o,HE.o,cU.o];exact cG.o),aw,aA (by rw[H.o,HE.o,N.o];exact bl.o),aA (by rw[H.o,HE.o];exact ax.o),dw,dv,dx⟩
        case measure=>simp[intOf];omega
     ·obtain rfl:i=nn:=ω
      have dy:(Au.syms G).take i=Au.syms G:=Cq (by rw[Au.lE];have:=di.o;omega);rw[dy,<-dQ.o]at l E F;have HA:=aA (E.o.st dk.o dh.o);have dz:(qs2[es.length]'ak).2.1=(Au.one G ks es.length).2:=E.o.a.2.1;have ee:Hid (yf qs2 (es++[(Au.one G ks es.length).2])):=aA (by rw[<-dz];exact ab.o.o ak);have dA:Hid ((Au.one G ks es.length).1.length=qs2.length):=aA (by rw[<-l.o];unfold aX;rw[Bh]);have eA:¬((i:Nat):Int)<((i:Nat):Int):=ω
      have eB:(qs2.length:Int)<=1000:=by have:=D.o;omega
      clear dz dy bv hi;by_cases ag:300<(Au.one G ks es.length).1.length
      ·have bn:=aA (Au.jO HR.o (by rw[<-b6.o,db.o,Az ag]));have ef:(300:Int)<((qs2.length:Nat):Int):=by rw[<-dA.o];omega
       clear ag ak ai c6;generalize qs2.length=nq at *;go_wp2
       go_ret2
       exact sN.nil bn.o r.o.below
      ·have cV:Hid (Au.run G (302-(es++[(Au.one G ks es.length).2]).length) (Au.one G ks es.length).1 (es++[(Au.one G ks es.length).2])=Au.ku G):=aA (by rw[<-b6.o,db.o,AJ ag]);have ef:((qs2.length:Nat):Int)<=(300:Int):=by rw[<-dA.o];omega
       have eg:(Au.one G ks es.length).1.length<=300:=ω
       have eh:Hid ((es++[(Au.one G ks es.length).2]).length=es.length+1):=aA σ;have ei:Hid ((es++[(Au.one G ks es.length).2]).length<=(Au.one G ks es.length).1.length):=aA dc.o.le;clear ag;go_wp2;go_roundw
       case rel =>
        exact⟨_,_,_,_,⟨(Au.one G ks es.length).1,es++[(Au.one G ks es.length).2],by rw[eh.o];go_num,eg,ei.o,dc,cV,qs2,l,ee,HA⟩,rfl,rfl,rfl,rfl⟩
       case measure=>simp[intOf];omega
   ·have dB:es.length=ks.length:=ω
    have bn:=aA (Au.jy HR.o (by rw[<-b6.o];exact Au.kh dB bp));have bX:=HE.o.zip ω;rw[bq.o]at bX;have dC:=aA (pd.rd V.o (Af _) (Af _));rw[bX]at dC;obtain⟨A9,c9,ej,br,bu,_⟩:=aK.form V.o.1 oX;injection ej with cW cY cZ;subst cZ;have dD:Hid ((Au.kv G).length=qs.length):=aA (by rw[bn.o.2,<-bX,Bh]);have ek:=aA br;have el:=aA (show co<=9223372036854775807 by unfold maxLen at bu;omega);have eC:¬((es.length:Nat):Int)<((qs.length:Nat):Int):=ω
    clear bX br bu ai dB c6 bp b7 cW cY;generalize es.length=ne at *;generalize qs.length=nq at *;go_wp2
    go_ret2
    refine⟨Ao,co,?_,by rw[dD.o];exact ek.o,el.o,by rw[bn.o.2];exact dC.o,HW.o.below⟩;rw[dD.o,bn.o.1];rfl
theorem Oe (v:Value) (G:Gm.Gr) (wP:Nat) (w:World) (hg:aT w w.heap.size v G) (hf:Gm.Fit G) (cq:wP<=65535) :
  Calls prog 7 #[v,.int .u16 wP] w fun e w'=>e=.returned (.bool true)/\β w w':=by
 have F:=aA (fun(x:World) (h:β w x)=>hg.below h (Af _));have bz:=aA (fun(x:World)=>OR x);have TG:=aA (fun(x:World) (h:β w x)=>P7 v G w.heap.size x (F.o x h) h.size);have TB:=aA (fun(x:World) (h:β w x)=>KS v G w.heap.size x (F.o x h) hf h.size);have TA:=aA (fun(x:World) (h:β w x)=>OA v G w.heap.size x (F.o x h) hf h.size);have TR:=aA (fun(vt:Value) (BT:Nat) (rs:List (List Tb.Ce)) (gs:List (List Int)) (x:World) (h:β w x) (ht:tS x BT vt rs gs) (hB:BT<=x.heap.size)=>Oy v G w.heap.size BT vt rs gs x (F.o x h) hf h.size ht hB);obtain⟨A0,c0,A1,c1,A2,c2,rfl,_⟩:=hg;have bD:=aA (aZ.start 26 w #[.slice A0 G.ts.length c0,.slice A1 G.ns.length c1,.slice A2 G.rs.length c2,.int .i64 G.st]);have bM:(0:Int)<=(wP:Int):=ω
 have bT:(wP:Int)<=65535:=ω
 clear hf F
 go_enter func7,ntmps7
 go_wp2_with fail
 refine(bz.o _).mono ?_;rintro _ w1 ⟨rfl,a5⟩;have j:=aA (bD.o.on a5);have x0:=j.o.c 0 _ rfl;have x1:=j.o.c 1 _ rfl;have x2:=j.o.c 2 _ rfl;have x3:=j.o.c 3 _ rfl;clear a5;cases af:Gm.um G with
 | true =>
  rw[af]at TG;go_wp2_with fail
  refine(TG.o _ j.o.below).mono ?_;rintro _ w2 ⟨rfl,H⟩;have f:=aA (j.o.on H);clear H;go_wp2;go_ret
  exact⟨rfl,f.o.below⟩
 | false =>
  rw[af]at TG;go_upto_region 5 with fail
  refine(TG.o _ j.o.below).mono ?_;rintro _ w2 ⟨rfl,H⟩;have f:=aA (j.o.on H);clear x0 x1 x2 x3 H TG;have x0:=f.o.c 0 _ rfl;have x1:=f.o.c 1 _ rfl;have x2:=f.o.c 2 _ rfl;have x3:=f.o.c 3 _ rfl;rcases Tb.tZ G with⟨hE,bX,b0,b1⟩|⟨hE,hb,p,hk⟩
  rotate_left
  ·have HL:=aA (Tb.uC hb hk);have a6:=aA (Tb.zg hb hk);have ap:=aA (Gm.fq.1 (Gm.gx hb));have HE:=aA hE;clear af hb hk hE;go_wp2_with fail
   refine(TB.o w2 f.o.below).mono ?_;rintro _ w3 ⟨vt,AC,cC,rfl,a9,cu,cv,-,ag⟩;rw[HE.o];have ba:=aA a9;have ah:=aA (f.o.on ag);have b3:=((Gm.fK G.ts).1 ap.o.t).1;have b5:=((Gm.fF G).1 ap.o.n).2.1;obtain⟨AA,cA,AG,cG,rfl,cw,cx,cy,cz,bb,bc⟩:=a9;have bd:=aA bb;have bf:=aA bc;clear x0 x1 x2 x3 ag TB bb bc;have TR:=aA (TR.o (.agg #[.slice AA (Tb.gI G).length cA,.slice AG (Tb.ic G).length cG]) w3.heap.size (Tb.gI G) (Tb.ic G));rw[a6.o]at TR;have ab:=aA HL.o.al;have ad:=aA HL.o.gl;have b6:=aA HL.o.ne;have b7:=aA HL.o.le;have bg:=aA HL.o.el;have aq:=aA HL.o.ra;have ac:=aA HL.o.rg;have bh:=aA HL.o.sh;have bi:=aA HL.o.go;clear HL a6 ap;generalize Tb.gI G=rs at *;generalize Tb.ic G=gs at *;obtain⟨w4,ai⟩:=χ (w3.alloc (.cells #[.slice AA rs.length cA,.slice AG gs.length cG] 33))
   have b4:β w3 w4:=by rw[ai];exact(AB _ _).alloc (Af _) _
   have bj:Hid (w4.heap[w3.heap.size]?=some (.cells #[.slice AA rs.length cA,.slice AG gs.length cG] 33 (0,0))):=aA (by rw[ai];exact AI w3 _);have l:=aA (ah.o.on b4);have ar:=aA b4;clear b4;go_upto_region 6 with fail
   rw[<-ai];clear ai;have x0:=l.o.c 0 _ rfl;have x1:=l.o.c 1 _ rfl;have x2:=l.o.c 2 _ rfl;have x3:=l.o.c 3 _ rfl;go_wp2_with fail
   refine(TA.o w4 l.o.below).mono ?_;rintro _ w5 ⟨A,c,rfl,_,_,bk,aj⟩;rw[HE.o];have bl:=aA bk;have m:=aA (l.o.on aj);have I:=aA (aC aj bj.o);have ak:=aA (ar.o.trans (aj.mono ar.o.size));have au:Hid (w3.heap.size<w5.heap.size):=aA (Ad.1 I.o).1;clear x0 x1 x2 x3 bk aj TA HE bj l ar;generalize Au.kv G=ss at *;have b9:0<ss.length:=b6.o;have cE:ss.length<=300:=b7.o;have cI:(0:Int)<(ss.length:Int):=ω
   have cJ:((ss.length:Int)==0)=false:=by rw[Bc];omega
   have cK:(ss.length:Int)<=300:=ω
   have cL:((ss.length:Int) != (rs.length:Int))=false:=by rw[ab.o];simp
   obtain⟨q,hq⟩:∃q,q=wP % ss.length:=⟨_,rfl⟩
   have bm:q<ss.length:=by rw[hq];exact Nat.mod_lt _ b9
   have ca:Int.tmod (wP:Int) (ss.length:Int)=(q:Int):=by rw[Int.tmod_eq_emod_of_nonneg ω,hq,Int.natCast_emod]
   have cb:(wP:Int) % (ss.length:Int)=(q:Int):=by rw[<-ca,Int.tmod_eq_emod_of_nonneg ω]
   have cM:(q:Int)<(ss.length:Int):=ω
   clear hq;have x0:=m.o.c 0 _ rfl;have x1:=m.o.c 1 _ rfl;have x2:=m.o.c 2 _ rfl;have x3:=m.o.c 3 _ rfl;have f0:=AF w5 _ 0 _ _ _ I.o;have f1:=AF w5 _ 1 _ _ _ I.o;have l1:w3.heap.size<w5.heap.size:=au.o
   have ae:=aA (TR.o w5 m.o.below (ba.o.below ak.o (Af _)) ak.o.size ⟨by have:=ab.o;omega,by have:=ad.o;omega⟩ (fun r hr=>by
    obtain⟨i,hi,rfl⟩:=BG hr;rw[aq.o i hi];omega) (fun r hr=>by
    obtain⟨i,hi,rfl⟩:=BG hr;rw[ac.o i hi];omega))
   clear TR ba;go_wp2_with fail
   refine ae.o.mono ?_;rintro _ w6 ⟨rfl,B⟩;have bn:=aA (m.o.on B);have J:=aA (aC B I.o);have am:=aA (ak.o.trans (B.mono ak.o.size));have bo:=aA (bl.o.below B (Af _));have aa:=aA B.size;have av:Hid (w3.heap.size<w6.heap.size):=aA (Ad.1 J.o).1;clear x0 x1 x2 x3 f0 f1 l1 B I m ae bl;have f0:=AF w6 _ 0 _ _ _ J.o;have f1:=AF w6 _ 1 _ _ _ J.o;have l1:w3.heap.size<w6.heap.size:=av.o;have aw:q<rs.length:=by rw[ab.o];exact bm
   have ax:q<gs.length:=by rw[ad.o];exact bm
   obtain⟨gA,oA,rfl,ay,bp⟩:=bd.o ω;obtain⟨gG,oG,rfl,az,bq⟩:=bf.o ω;obtain⟨Ar,cr,kA,_,_,br⟩:=bp q aw;obtain⟨Ag,cg,kG,_,_,bs⟩:=bq q ax;have bu:=aA (fun(y:World) (h:β w3 y)=>(h.cell (p:=⟨gA,oA+q,none⟩) ay).trans kA);have bv:=aA (fun(y:World) (h:β w3 y)=>(h.cell (p:=⟨gG,oG+q,none⟩) az).trans kG);have cc:=aA ay;have a0:=aA az;have cd:=aq.o q aw;have ce:=ac.o q ax;have cf:=aA (bh.o q aw);have ch:=aA (bi.o q ax);rw[cd]at bu;rw[ce]at bv;have ci:=aA br;have a1:=aA bs;have cj:(q:Int)<(rs.length:Int):=ω
   have ck:(q:Int)<(gs.length:Int):=ω
   clear kA kG ay az bp bq br bs bh bi aq ac bd bf;generalize rs[q]=row at *;generalize gs[q]=got at *;have cl:((Tb.np G).length=0↔Tb.np G=[]):=List.length_eq_zero_iff;have cm:=aA cl;generalize Tb.np G=cs at *;have cN:decide ((q:Int)<0)=false:=AU ω;go_wp2;go_loopw [11] (fun vk wr=>∃k:Nat,k<=G.ts.length/\vk=.int .i64 k/\Hid (β w6 wr)) (fun vk _=>G.ts.length-(intOf vk).toNat)
   case atStart=>exact⟨0,Bb _,rfl,aA (AB _ _)⟩
   case round =>
    obtain⟨k,hk,rfl,HW⟩:=hrel;rename World=>wr;have s:=aA (bn.o.on HW.o);clear f0 f1 l1;have x0:=s.o.c 0 _ rfl;by_cases g:k<G.ts.length
    ·have a2:(k:Int)<(G.ts.length:Int):=ω
     have C:=aA (am.o.trans (HW.o.mono am.o.size));have M:=aA (KW ss A c w5.heap.size q k wr (bo.o.below HW.o aa.o) (Ah aa.o HW.o.size) ω bg.o);obtain⟨h1,h2⟩:=cf.o k g ω;go_wp2_with fail
     refine M.o.mono ?_;rintro _ w7 ⟨rfl,u⟩;have d:=aA (C.o.trans (u.mono C.o.size));have z:=aA (HW.o.trans (u.mono HW.o.size));clear u x0 s M;obtain⟨gr,or,rfl,b,D⟩:=ci.o ω;have c0x:=(d.o.cell (p:=⟨gr,or+k*2,none⟩) b).trans (D k ω 0 _ rfl);have c1x:=(d.o.cell (p:=⟨gr,or+k*2+1,none⟩) b).trans (D k ω 1 _ rfl);have k0:=bu.o w7 d.o;have E:=aA (aC z.o J.o);have f0:=AF w7 _ 0 _ _ _ E.o;have l1:w3.heap.size<w7.heap.size:=(Ad.1 E.o).1;have l2:gA<w7.heap.size:=Aj cc.o d.o.size;have l3:gr<w7.heap.size:=Aj b d.o.size;have cO:(k:Int)<((G.ts.length+1:Nat):Int):=ω
     generalize (row[k]'ω)=x at *;obtain⟨xa,xb⟩:=x;simp only at h1 h2 c0x c1x;have cn:=aA h1;have co:=aA h2;generalize Au.iE ss q [(k:Int)]=o at *;obtain⟨w8,ao⟩:=χ (w7.alloc (.cells #[.int .i64 xa,.int .i64 xb] 63))
     have b8:β w7 w8:=by rw[ao];exact(AB _ _).alloc (Af _) _
     have e8:w8.heap[w7.heap.size]?=some (.cells #[.int .i64 xa,.int .i64 xb] 63 (0,0)):=by rw[ao];exact AI w7 _
     have a3:=aA e8;have a4:=aA (z.o.trans (b8.mono z.o.size));clear b8 e8 D b h1 h2;go_upto_region 17 with fail
     rw[<-ao];clear ao c0x c1x k0 f0 l1 l2 l3 E C d;have y0:=AF w8 _ 0 _ _ _ a3.o;have y1:=AF w8 _ 1 _ _ _ a3.o;have l1:w7.heap.size<w8.heap.size:=(Ad.1 a3.o).1;by_cases hx:xa=1
     ·have e1:=cn.o hx;subst hx e1;have cP:(xb != xb)=false:=σ
      by_cases bw:cs.length=0
      ·have bx:((cs.length:Int)==0)=true:=by rw[bw];rfl
       go_wp2;go_roundw
       case rel=>exact⟨k+1,g,ω⟩
       case measure=>simp[intOf];omega
      ·have bx:((cs.length:Int)==0)=false:=by rw[Bc];omega
       go_wp2;go_roundw
       case rel=>exact⟨k+1,g,ν,a4⟩
       case measure=>simp[intOf];omega
     ·have cQ:(xa==1)=false:=by rw[Bc];exact hx
      cases o with
      | none =>
       go_wp2;go_roundw
       case rel=>exact⟨k+1,g,ν,a4⟩
       case measure=>simp[intOf];omega
      | some t =>
       have bw:cs.length≠0:=fun h=>hx (co.o rfl (cm.o.1 h));have bx:((cs.length:Int)==0)=false:=by rw[Bc];omega
       go_wp2;go_roundw
       case rel=>exact⟨k+1,g,ν,a4⟩
       case measure=>simp[intOf];omega
    ·obtain rfl:k=G.ts.length:=ω
     have cp:¬((G.ts.length:Nat):Int)<((G.ts.length:Nat):Int):=ω
     clear g hk;go_wp2;go_loopw [15] (fun vk wr=>∃k:Nat,k<=G.ns.length/\vk=.int .i64 k/\Hid (β w6 wr)) (fun vk _=>G.ns.length-(intOf vk).toNat)
     case atStart=>exact⟨0,Bb _,rfl,HW⟩
     case round =>
      clear HW s x0;obtain⟨k,hk,rfl,HW⟩:=hrel;rename World=>wr;have s:=aA (bn.o.on HW.o);have x1:=s.o.c 1 _ rfl;by_cases g:k<G.ns.length
      ·have a2:(k:Int)<(G.ns.length:Int):=ω
       have cR:IntKind.i64.wrap (-1-(k:Int)) = -1-(k:Int):=BV _ ω;have C:=aA (am.o.trans (HW.o.mono am.o.size));have M:=aA (KW ss A c w5.heap.size q (-1-(k:Int)) wr (bo.o.below HW.o aa.o) (Ah aa.o HW.o.size) ω bg.o);have h1:=ch.o k ω;go_wp2_with fail
       refine M.o.mono ?_;rintro _ w7 ⟨rfl,u⟩;have d:=aA (C.o.trans (u.mono C.o.size));have z:=aA (HW.o.trans (u.mono HW.o.size));clear u x1 s M;obtain⟨gr,or,rfl,b,D⟩:=a1.o ω;have c0x:=(d.o.cell (p:=⟨gr,or+k*1+0,none⟩) b).trans (D k ω 0 _ rfl);rw[h1,CB,DS]at c0x;have k0:=bv.o w7 d.o;have E:=aA (aC z.o J.o);have f1:=AF w7 _ 1 _ _ _ E.o;have l1:w3.heap.size<w7.heap.size:=(Ad.1 E.o).1;have l2:gG<w7.heap.size:=Aj a0.o d.o.size;have l3:gr<w7.heap.size:=Aj b d.o.size;clear D b h1;generalize Au.iE ss q [-1-(k:Int)]=o at *;cases o with
       | none =>
        have e0:(none:Option Int).getD (-1) = -1:=rfl;rw[e0]at c0x;go_wp2;go_roundw
        case rel=>exact⟨k+1,g,ν,z⟩
        case measure=>simp[intOf];omega
       | some t =>
        have e0:(some t:Option Int).getD (-1)=t:=rfl;have cS:(t != t)=false:=σ
        rw[e0]at c0x;go_wp2;go_roundw
        case rel=>exact⟨k+1,g,ν,z⟩
        case measure=>simp[intOf];omega
      ·obtain rfl:k=G.ns.length:=ω
       have cp:¬((G.ns.length:Nat):Int)<((G.ns.length:Nat):Int):=ω
       clear g hk;go_wp2;go_ret
       exact⟨rfl,s.o.below⟩
  ·have HE:=aA hE;clear af hE bX b0 b1;go_wp2_with fail
   refine(TB.o w2 f.o.below).mono ?_;rintro _ w3 ⟨vt,AC,cC,rfl,⟨AA,cA,AG,cG,rfl,-⟩,-,-,-,ag⟩;have ah:=aA (f.o.on ag);have cT:(Au.jo G != 0)=true:=by simpa using HE.o
   have b4:=ah.o.below.alloc ah.o.below.size (.cells #[.slice AA (Tb.gI G).length cA,.slice AG (Tb.ic G).length cG] 33);generalize Au.jo G=er at *;go_wp2;go_ret
   exact⟨rfl,b4⟩
end Go.Proofs.YtjjbaehamplnaaaGreat
namespace Go.Proofs.YtjjbaehamplnaaaGreat.RowKit
open Go.ChangeShapes Go.WideShapes Go.ChangeAt Go.RowKit
theorem own:ownKnob prog.godebug=none:=κ
theorem laidOut:laidOutB prog=true:=κ
end Go.Proofs.YtjjbaehamplnaaaGreat.RowKit
