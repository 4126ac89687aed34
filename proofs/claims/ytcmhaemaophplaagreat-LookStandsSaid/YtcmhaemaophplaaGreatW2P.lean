/- Part of the proofs over this program: RefReduce, RfBuild, RlSt. -/
import Derived.Test.YtcmhaemaophplaaGreatW2O
set_option linter.all false
set_option maxRecDepth 100000
set_option maxHeartbeats 40000000
variable {A:Option Go.Addr} {G:Go.Proofs.YtcmhaemaophplaaGreat.Gm.Gr} {cs:Array Go.Value} {es:List (List (Int×Int))} {fr:Nat×Nat} {g i:Nat} {s:Int}
namespace Go.Proofs.YtcmhaemaophplaaGreat
open Go.RowKit
theorem zen (v:Value) (G:Gm.Gr) (B:Nat) (w:World) (hg:aR w B v G) (hf:Gm.Fit G) (hB:B<=w.heap.size) :
  Calls Tryz.prog 36 #[v] w (zaI G w):=by
 have H1:=aA (fun(x:World) (h:Below w.heap.size w x)=>zaw v G B x (hg.below h hB) hf (Am hB h.size));have H2:=aA (fun(x:World) (h:Below w.heap.size w x)=>za2 v G B x (hg.below h hB) hf (Am hB h.size));have H3:=aA (fun(x:World) (h:Below w.heap.size w x)=>zcy v G B x (hg.below h hB) hf (Am hB h.size));have eT:=fun w=>zcY w;obtain⟨AT,cT,AN,cN,AR,cR,rfl,_,⟨eU,eV⟩,_,hT,hN,hR⟩:=hg;have da:=aA (fun(y:World) (h:Below w.heap.size w y)=>hR.keep fun g o hg=>h.cell (p:=⟨g,o,none⟩) (Ag hg hB));have dY:=aA (fun(y:World) (h:Below w.heap.size w y)=>hN.keep fun g o hg=>h.cell (p:=⟨g,o,none⟩) (Ag hg hB));have dZ:=aA (fun(y:World) (h:Below w.heap.size w y)=>hT.keep fun g o hg=>h.cell (p:=⟨g,o,none⟩) (Ag hg hB));have HB:=aA hB;have db:=aA hf;obtain⟨w1,av⟩:∃y,y=(w.alloc (.cells #[.slice AT G.ts.length cT,.slice AN G.ns.length cN,.slice AR G.rs.length cR,.int .i64 G.st] 26)).alloc (.cells #[.slice none 0 0,.slice none 0 0,.slice none 0 0,.int .i64 0] 26):=⟨_,rfl⟩
 have dc:w1.heap.size=w.heap.size+2:=by rw[av];simp
 have bo:Hid (Below w.heap.size w w1):=aA (by rw[av];exact((AB _ w).alloc (Af _) _).alloc (by simp) _);have aw:Hid (w1.heap[w.heap.size]?=some (.cells #[.slice AT G.ts.length cT,.slice AN G.ns.length cN,.slice AR G.rs.length cR,.int .i64 G.st] 26 (0,0))):=aA (by rw[av,Bu _ _ _ (by simp)];exact AE w _);have d3:Hid (w1.heap[w.heap.size+1]?=some (.cells #[.slice none 0 0,.slice none 0 0,.slice none 0 0,.int .i64 0] 26 (0,0))):=aA (by rw[av];have:=AE (w.alloc (.cells #[.slice AT G.ts.length cT,.slice AN G.ns.length cN,.slice AR G.rs.length cR,.int .i64 G.st] 26)) (.cells #[.slice none 0 0,.slice none 0 0,.slice none 0 0,.int .i64 0] 26);simpa using this);have bp:=aA dc;have HQ:=aA (fun(y:World) (h:Below w1.heap.size w1 y)=>(h.block w.heap.size (by omega)).trans aw.o);have HZ:=aA (fun(y:World) (h:Below w1.heap.size w1 y)=>(h.block (w.heap.size+1) (by omega)).trans d3.o);have ax:=aA (fun(y:World) (h:Below w1.heap.size w1 y)=>bo.o.trans (h.mono (by omega)));have c0:=aT aw.o;have c1:=aU aw.o;have c2:=aZ aw.o;have c3:=bG aw.o;have eW:w.heap.size<w1.heap.size:=by omega
 clear hf dc hT hN hR hB;cases q:Gm.right G
 ·rw[q]at H1;have HE:=aA (Gm.rdE_no q);clear q H2 H3
  go_enter Tryz.func36,Tryz.ntmps36
  go_upto_region 1 with fail
  rw[<-av];clear av;go_wp2_with fail
  refine(H1.o _ bo.o).mono ?_;rintro _ w2 ⟨rfl,O⟩;have g0:=aT (HZ.o w2 O);have g1:=aU (HZ.o w2 O);have g2:=aZ (HZ.o w2 O);have g3:=bG (HZ.o w2 O);have e0:=AH w2 _ 0 _ _ (HZ.o w2 O);have e1:=AH w2 _ 1 _ _ (HZ.o w2 O);have e2:=AH w2 _ 2 _ _ (HZ.o w2 O);have e3:=AH w2 _ 3 _ _ (HZ.o w2 O);have lz:=(Ad.1 (HZ.o w2 O)).1;have ay:=aA (fun u1 u2 u3 u4=>((((ax.o w2 O).setCell (p:=⟨w.heap.size+1,0,none⟩) (by simp only;omega) u1).setCell (p:=⟨w.heap.size+1,1,none⟩) (by simp only;omega) u2).setCell (p:=⟨w.heap.size+1,2,none⟩) (by simp only;omega) u3).setCell (p:=⟨w.heap.size+1,3,none⟩) (by simp only;omega) u4);clear c0 c1 c2 c3 O H1;go_wp2;refine Cj (v:=.tuple #[.agg #[.slice none 0 0,.slice none 0 0,.slice none 0 0,.int .i64 0],.slice none 0 0,.int .i64 1]) (by simp[results,Tryz.results36,go_sem,g0,g1,g2,g3]) rfl ?_;exact zaI.no HE.o (by decide) (ay.o _ _ _ _)
 ·have de:=aA q;have N:=aA (Gm.right_ok.1 q);have H2:=aA (fun x h=>(show Calls _ _ _ _ (zgz _ _) from(H2.o x h).mono fun e w' k=>k.1 q));have H3:=aA (fun x h=>(show Calls _ _ _ _ (zgz _ _) from(H3.o x h).mono fun e w' k=>k.1 q));rw[q]at H1;clear q;have a4:=aA (fun x hx=>Gm.use_rcB N.o (x:=x) hx);have bz:Hid (G.ns.length<=40):=aA (by have:=(Gm.nons_iff G).1 N.o.n;omega);have cr:Hid (G.ts.length<=24):=aA (by have:=N.o.t;unfold Gm.terms at this;rw[AV]at this;exact Co this.1);have aq:Hid (G.rs.length<=40):=aA N.o.r40;obtain⟨T,hT⟩:∃x,x=Gm.gn true G.rs G.ns.length:=⟨_,rfl⟩
  have cd:Hid (T.length=G.ns.length):=aA (by rw[hT,Gm.gn_len]);rw[<-hT]at H2 a4;obtain⟨R,cs⟩:∃x,x=Gm.rc G:=⟨_,rfl⟩
  have df:Hid (R.length=G.ns.length):=aA (by rw[cs,Gm.rc_len]);rw[<-cs]at H3 a4;have d4:=N.o.s0;have cu:=N.o.s1;obtain⟨m,hm⟩:∃m:Nat,G.st=(m:Int):=⟨G.st.toNat,by omega⟩
  obtain⟨tb,cv⟩:∃b,b=T.getD m false:=⟨_,rfl⟩
  have ce:Hid (tb=Gm.tr (Gm.Gn true G.rs G.st)):=aA (by rw[cv,hT,Gm.gn_at _ _ _ _ (by omega),hm]);have cw:=aA cv;have HM:=aA hm;have cz:m<G.ns.length:=by omega
  have eX:(m:Int)<(G.ns.length:Int):=by omega
  have eY:=bz.o;have dg:(G.ns.length:Int)<=9223372036854775807:=by omega
  have dh:(G.rs.length:Int)<=9223372036854775807:=by have:=aq.o;omega
  clear hT d4 cu hm cv cs
  go_enter Tryz.func36,Tryz.ntmps36
  go_upto_region 1 with fail
  rw[<-av];clear av;go_upto_region 3 with fail
  refine(H1.o _ bo.o).mono ?_;rintro _ w2 ⟨rfl,O⟩;have U:=aA O;clear O c0 c1 c2 c3 H1;go_upto_region 3 with fail
  go_cut [5,6] (fun v5 v6 wx=>∃gp gr,v5=.slice (some ⟨gp,0,none⟩) G.ns.length G.ns.length/\v6=.slice (some ⟨gr,0,none⟩) G.ns.length G.ns.length/\UBO wx gp T/\UBO wx gr R/\Below w1.heap.size w1 wx)
  case first =>
   have q0:=fun y:Calm.On w2.heap.size w2=>aT (HQ.o y.1 (U.o.trans (y.2.mono U.o.size)));have q1:=fun y:Calm.On w2.heap.size w2=>aU (HQ.o y.1 (U.o.trans (y.2.mono U.o.size)));have q2:=fun y:Calm.On w2.heap.size w2=>aZ (HQ.o y.1 (U.o.trans (y.2.mono U.o.size)));have q3:=fun y:Calm.On w2.heap.size w2=>bG (HQ.o y.1 (U.o.trans (y.2.mono U.o.size)));have bD:Hid (Below w2.heap.size w2 w2.drew):=aA (aB (AB _ _) 1);refine CalmN.region_tree (fun x=>∃y:Calm.On w2.heap.size w2,x=y.1) (.one [0,2] 1 (.one [] 3 (.fin [4,5]))) (by kernel_rfl) (by kernel_rfl) (fun _ _ d _ _ h=>by cases d <;> exact h) ⟨⟨w2.drew,bD.o⟩,rfl⟩ ?_;simp only[CalmN.wpT,CalmN.wpSt,CalmN.pickOps,Aw,Ah,Aj];repeat (go_big_quiet_step (fail))
   refine Aq ?_;clear q0 q1 q2 q3;obtain⟨wd,al⟩:∃y,y=w2.drew:=⟨_,rfl⟩
   rw[<-al]at bD ⊢;clear al;intro KK C;rw[Az (by rfl)];go_wp2_with fail
   refine(H2.o wd (ax.o _ (U.o.trans (bD.o.mono U.o.size)))).mono ?_;rintro _ w3 ⟨ga,rfl,eZ,di,d5⟩;rw[cd.o];have f:Below w2.heap.size w2 w3:=bD.o.trans (d5.mono bD.o.size);have cA:=aA (U.o.trans (f.mono U.o.size));go_wp2_with fail
   refine C _ _ ⟨⟨w3,f⟩,rfl⟩ _ (fun _ h=>h) ⟨⟨w3,f⟩,rfl⟩ ?_;refine Aq ?_;intro KK C;rw[Az (by rfl)];go_wp2_with fail
   refine(H3.o w3 (ax.o _ cA.o)).mono ?_;rintro _ w4 ⟨gb,rfl,e4,d6,cB⟩;rw[df.o];have bM:Below w2.heap.size w2 w4:=f.trans (cB.mono f.size);go_wp2_with fail
   refine C _ _ ⟨⟨w4,bM⟩,rfl⟩ _ (fun _ h=>h) ⟨⟨w4,bM⟩,rfl⟩ ?_;repeat (go_big_quiet_step (fail))
   refine Aq ?_;go_wp2_with fail
   go_meet
   case rel=>exact⟨ga,gb,rfl,rfl,di.below cB di.lt,d6,cA.o.trans (cB.mono cA.o.size)⟩
  case rest =>
   obtain⟨gp,gr,rfl,rfl,cf,dj,cC⟩:=hcut;have dk:=aA cf;have dl:=aA dj;have F:=aA cC;have q3:=bG (HQ.o wc cC);rw[HM.o]at q3;have km:=cf.cell m (by rw[cd.o];exact cz);rw[<-cw.o]at km;have lq:=Bi q3;have lp:=cf.lt;clear cf dj cC H2 H3 U;cases hp:Gm.tr (Gm.Gn true G.rs G.st)
   ·have HE:=aA (Gm.rdE_empty de.o hp);obtain rfl:tb=false:=ce.o.trans hp;have g0:=aT (HZ.o wc F.o);have g1:=aU (HZ.o wc F.o);have g2:=aZ (HZ.o wc F.o);have g3:=bG (HZ.o wc F.o);have e0:=AH wc _ 0 _ _ (HZ.o wc F.o);have e1:=AH wc _ 1 _ _ (HZ.o wc F.o);have e2:=AH wc _ 2 _ _ (HZ.o wc F.o);have e3:=AH wc _ 3 _ _ (HZ.o wc F.o);have lz:=(Ad.1 (HZ.o wc F.o)).1;have ay:=aA (fun u1 u2 u3 u4=>((((ax.o wc F.o).setCell (p:=⟨w.heap.size+1,0,none⟩) (by simp only;omega) u1).setCell (p:=⟨w.heap.size+1,1,none⟩) (by simp only;omega) u2).setCell (p:=⟨w.heap.size+1,2,none⟩) (by simp only;omega) u3).setCell (p:=⟨w.heap.size+1,3,none⟩) (by simp only;omega) u4);clear hp ce cw;go_wp2;refine Cj (v:=.tuple #[.agg #[.slice none 0 0,.slice none 0 0,.slice none 0 0,.int .i64 0],.slice none 0 0,.int .i64 9]) (by simp[results,Tryz.results36,go_sem,g0,g1,g2,g3]) rfl ?_;exact zaI.no HE.o (by decide) (ay.o _ _ _ _)
   ·have HE:=aA (Gm.rdE_ok de.o hp);have e5:=aA (Gm.tr_iff.1 hp);obtain rfl:tb=true:=ce.o.trans hp;clear hp ce cw;have br:=aA (fun(y:World) (h:Below wc.heap.size wc y)=>HQ.o y (F.o.trans (h.mono F.o.size)));have e6:=aA (fun(y:World) (h:Below wc.heap.size wc y)=>ax.o y (F.o.trans (h.mono F.o.size)));have c0:=aT (HQ.o wc F.o);go_upto_region 7 with(at_builtin;refine zfA rfl (.tmp 33) (.tmp 35) _ rfl Tryz.underlying22 wc.heap.size _ [] rfl (zaV wc) B G.ts.length cT AT G.ts rfl rfl (dZ.o _ ((ax.o _ F.o).alloc (ax.o _ F.o).size _)) (by have:=cr.o;simp;omega) (by simp) ?_;intro v2 w5 az a5;have dm:=aA az;have cg:=aA (((AB wc.heap.size wc).alloc (Af _) (.cells #[] 81)).grown a5 (by simp) (fun k e=>(aM (zaV wc) e).1));obtain⟨A2,c2,rfl,_,_⟩:=aN az;clear az a5)
    obtain⟨w6,bT⟩:∃y,y=w5.alloc (.cells #[.slice A2 G.ts.length c2,.slice none 0 0,.slice none 0 0,.int .i64 0] 26):=⟨_,rfl⟩
    have bX:Hid (Below wc.heap.size wc w6):=aA (by rw[bT];exact cg.o.alloc cg.o.size _);have bY:Hid (bE w6 wc.heap.size (.slice A2 G.ts.length c2) G.ts):=aA (by rw[bT];exact Dc dm.o _);have dn:Hid (w6.heap[w5.heap.size]?=some (.cells #[.slice A2 G.ts.length c2,.slice none 0 0,.slice none 0 0,.int .i64 0] 26 (0,0))):=aA (by rw[bT];exact AE w5 _);rw[<-bT];clear bT dm c0 q3 km lq;have c1:=aU (br.o w6 bX.o);have l6:=Bi c1;go_upto_region 8 with(at_make;refine zex rfl (.tmp 40) (.tmp 40) _ rfl Tryz.underlying38 G.ns.length _ _ rfl rfl rfl rfl (by omega) ?_;intro w7 dp ch cD)
    have cE:Hid (RdS wc w7 w5.heap.size w6.heap.size #[.slice A2 G.ts.length c2,.slice none 0 0,.slice none 0 0,.int .i64 0] (.slice A2 G.ts.length c2) (.slice none 0 0) (.slice none 0 0) G.ts [] [] (List.replicate G.ns.length 0)):=aA
     ⟨aC ch dn.o,Ba bY.o (aL ch .none) (zat _),bI.nil _ _,a7.nil _ _ _,dp,bX.o.trans (ch.mono bX.o.size),cg.o.size,bX.o.size⟩
    obtain⟨vT,cF⟩:∃v,v=Value.slice A2 G.ts.length c2:=⟨_,rfl⟩
    obtain⟨H,hH⟩:∃x,x=w5.heap.size:=⟨_,rfl⟩
    obtain⟨gA,cG⟩:∃x,x=w6.heap.size:=⟨_,rfl⟩
    rw[<-cF,<-hH,<-cG]at cE;rw[<-cF,<-hH,<-cG];clear cF hH cG dp ch c1 l6 cD bY dn bX cg;go_wp2;go_loopw [9] (fun vk wr=>∃(k:Nat),k<=G.ns.length/\vk=.int .i64 k/\Hid (RdS wc wr H gA #[vT,.slice none 0 0,.slice none 0 0,.int .i64 0] vT (.slice none 0 0) (.slice none 0 0) G.ts [] [] (List.replicate k (-1)++List.replicate (G.ns.length-k) 0))) (fun vk _=>G.ns.length-(intOf vk).toNat)
    case atStart=>exact⟨0,AU _,rfl,by simpa using cE⟩
    case round =>
     clear cE;obtain⟨k,hk,rfl,HS⟩:=hrel;by_cases hlt:k<G.ns.length
     ·have ka:=HS.o.a.cell k (by simp;omega);have fa:=HS.o.a.frozen k;have la:=HS.o.a.lt;have dq:=aA (HS.o.setA k (-1));rw[Gm.fill_to hlt]at dq;go_wp2;go_roundw
      case rel=>exact⟨k+1,hlt,by go_num,dq⟩
      case measure=>simp[intOf];omega
     ·obtain rfl:k=G.ns.length:=by omega
      rw[Di,D5,CP,<-Gm.toL_nil]at HS;go_wp2;go_loopw [10,11] (fun v10 v11 wr=>∃(i:Nat) (vN:Value),i<=G.rs.length/\v11=.int .i64 i/\Hid (RdS wc wr H gA #[vT,vN,.slice none 0 0,.int .i64 0] vT vN (.slice none 0 0) G.ts (Gm.nmL G (Gm.oR G i)) [] (Gm.toL G.ns.length (Gm.oR G i)))/\Hid (aS wr (gA+1) v10 (Gm.kl G i))) (fun _ v11 _=>G.rs.length-(intOf v11).toNat)
      case atStart=>exact⟨0,_,AU _,rfl,HS,aA (aS.nil _ _)⟩
      case round =>
       clear HS hlt;obtain⟨i,vN,hi,rfl,HS,HK⟩:=hrel;by_cases hlt:i<G.rs.length
       ·obtain⟨g,o,rfl,d7,hc⟩:=da.o w1 bo.o (by omega);obtain⟨k0,⟨A',c',k1,_,_,bZ⟩,k2⟩:=hc i hlt;have a6:g<w1.heap.size:=by have:=HB.o;have:=bp.o;omega
        have am:=aA (fun(y:World) (h:Below wc.heap.size wc y)=>F.o.trans (h.mono F.o.size));have k0:=((am.o wr HS.o.w).cell (p:=⟨g,o+i*3,none⟩) a6).trans k0;have k1:=((am.o wr HS.o.w).cell (p:=⟨g,o+i*3+1,none⟩) a6).trans k1;have k2:=((am.o wr HS.o.w).cell (p:=⟨g,o+i*3+2,none⟩) a6).trans k2;have ac:G.rs[i]∈G.rs:=AC hlt;have e:=db.o.r _ ac;have a9:=N.o.lin _ ac;have cH:=(Gm.rule_in (N.o.rr _ ac)).1;have bs:=aA (Gm.kl_next hlt);have ba:=aA (Gm.oR_next hlt);have dr:=aA (a4.o _ ac);have d8:=aA (Gm.oR_len N.o i);have ci:=aA (Am (Gm.kl_len G i) hi);have b3:=aA (fun(y:World) (h:Below wc.heap.size wc y)=>zdd G.rs[i].r T true A' (some ⟨gp,0,none⟩) c' G.ns.length B wc.heap.size y (bZ.keep fun g o hg=>(am.o y h).cell (p:=⟨g,o,none⟩) (by have:=HB.o;have:=bp.o;simp only;omega)) e.2.2 (fun z hz h0=>by rw[cd.o];exact N.o.sin _ ac z hz h0) ((dk.o.rd0 dk.o.lt).below h (Af _)) (by omega));rw[cd.o]at b3;generalize G.rs[i]=x at *;obtain⟨l,r,pz⟩:=x;simp only at k0 k1 k2 b3 a9 cH ba;obtain⟨ml,rfl⟩:∃m:Nat,l=(m:Int):=⟨l.toNat,by omega⟩
        have cI:=a9.2;have J:ml<G.ns.length:=by omega
        have ds:Hid (Gm.rcB T R ⟨ml,r,pz⟩=(R.getD ml false&&Gm.allB true T r)):=aA (by simp[Gm.rcB]);have bu:=aA (dr.o.symm.trans ds.o);generalize Gm.use G ⟨(ml:Int),r,pz⟩=ub at *;have q2:=aZ (br.o wr HS.o.w);have lq:=Bi q2;have lg:=Bi k0;have kr:=(HS.o.w.cell (p:=⟨gr,ml,none⟩) dl.o.lt).trans (dl.o.cell ml (by rw[df.o];exact J));have lr:=Bi kr;have V:=aA (HS.o.alloc (.cells #[.int .i64 ml,.slice A' r.length c',.int .i64 pz] 48));have bb:=aA (HK.o.alloc (.cells #[.int .i64 ml,.slice A' r.length c',.int .i64 pz] 48));have ar:=aA (AE wr (.cells #[.int .i64 ml,.slice A' r.length c',.int .i64 pz] 48));clear hc bZ e ac a9 dr ds;generalize R.getD ml false=rb at *;cases rb
        ·obtain rfl:ub=false:=bu.o;have HX:Hid (Gm.kl G (i+1)=Gm.kl G i):=aA (bs.o.trans (AG (by simp)));have a0:Hid (Gm.oR G (i+1)=Gm.oR G i):=aA (ba.o.trans (AG (by simp)));clear bs ba bu;go_wp2;go_roundw
         case rel=>exact⟨i+1,vN,hlt,by go_num,by rw[a0.o];exact V,by rw[HX.o];exact bb⟩
         case measure=>simp[intOf];omega
        ·have cJ:=aA (b3.o _ V.o.w);generalize Gm.allB true T r=ab at *;cases ab
         ·obtain rfl:ub=false:=bu.o;have HX:Hid (Gm.kl G (i+1)=Gm.kl G i):=aA (bs.o.trans (AG (by simp)));have a0:Hid (Gm.oR G (i+1)=Gm.oR G i):=aA (ba.o.trans (AG (by simp)));clear bs ba bu b3;go_wp2_with fail
          refine cJ.o.mono ?_;rintro _ w8 ⟨rfl,ao⟩;subst ao;go_wp2;go_roundw
          case rel=>exact⟨i+1,vN,hlt,by go_num,by rw[a0.o];exact V,by rw[HX.o];exact bb⟩
          case measure=>simp[intOf];omega
         ·obtain rfl:ub=true:=bu.o;have HX:Hid (Gm.kl G (i+1)=Gm.kl G i++[(i:Int)]):=aA (bs.o.trans (Az rfl));have au:=aA (ba.o.trans (Az rfl));have dt:Hid (gA<wr.heap.size):=aA HS.o.a.lt;clear bs ba bu b3;go_upto_region 18 with fail
          refine cJ.o.mono ?_;rintro _ w8 ⟨rfl,ao⟩;subst ao;go_upto_region 18 with fail
          obtain⟨w8,ao⟩:∃y,y=wr.alloc (.cells #[.int .i64 ml,.slice A' r.length c',.int .i64 pz] 48):=⟨_,rfl⟩
          have d9:Hid (w8.heap.size=wr.heap.size+1):=aA (by rw[ao];simp);rw[<-ao]at V bb ar ⊢;clear ao k0 k1 k2 q2 lq lg kr lr cJ;go_upto_region 19 with(at_builtin;refine za4 rfl (.tmp 76) (.tmp 78) _ rfl Tryz.underlying38 (gA+1) _ _ rfl (bb.o.alloc _) _ 1 i rfl (CZ _ _ _ 0) (by have:=ci.o;have:=aq.o;omega) (by have:=dt.o;have:=d9.o;simp;omega) ?_;intro v' w9 du cL;have I:=aA ((V.o.alloc _).other (bb.o.alloc _) (by omega) cL);have bv:=aA du;have cj:=aA (zac (aC ((AB _ _).alloc (Af _) _) ar.o) (bb.o.alloc _) (by decide) cL);clear du cL)
          clear V bb ar;have d0:=aT cj.o;have ld:=(Ad.1 cj.o).1;have kt:=I.o.a.cell ml (by rw[Gm.toL_len];exact J);rw[Gm.toL_at J]at kt;have lt9:=I.o.a.lt;by_cases bc:(ml:Int)∈Gm.oR G i
          ·have a0:=aA (au.o.trans (Az bc));have hq:decide (Gm.pos (Gm.oR G i) ml<0)=false:=AO (fun h=>Gm.pos_neg.1 h bc);generalize Gm.pos (Gm.oR G i) ml=pq at *;clear bc au;go_wp2;go_roundw
           case rel=>exact⟨i+1,vN,hlt,by go_num,by rw[a0.o];exact I,by rw[HX.o];exact bv⟩
           case measure=>simp[intOf];omega
          ·have a0:=aA (au.o.trans (AG bc));have hq:decide (Gm.pos (Gm.oR G i) ml<0)=true:=AL (Gm.pos_neg.2 bc);have ck:=aA bc;obtain⟨A9,c9,rfl,_,_⟩:=aN I.o.nn;have cM:(Gm.nmL G (Gm.oR G i)).length=(Gm.oR G i).length:=by simp[Gm.nmL]
           have dv:Hid (Gm.nmL G (Gm.oR G (i+1))=Gm.nmL G (Gm.oR G i)++[G.ns.getD ml []]):=aA (by rw[a0.o];simp[Gm.nmL]);have j1:=aU I.o.h;have lh:=Bi j1;have fa:=I.o.a.frozen ml
           have A:Hid (RdS wc (w9.setCell ⟨gA,ml,none⟩ (.int .i64 (Gm.nmL G (Gm.oR G i)).length)) H gA #[vT,.slice A9 (Gm.nmL G (Gm.oR G i)).length c9,.slice none 0 0,.int .i64 0] vT (.slice A9 (Gm.nmL G (Gm.oR G i)).length c9) (.slice none 0 0) G.ts (Gm.nmL G (Gm.oR G i)) [] (Gm.toL G.ns.length (Gm.oR G (i+1)))):=aA (by
            have q:=I.o.setA ml ((Gm.nmL G (Gm.oR G i)).length:Int);rw[cM]at q;rw[a0.o,<-Gm.toL_snoc ck.o];rw[cM];exact q)
           have X:=aA (bv.o.far (aF (AM w9 (some gA)) ml (.int .i64 (Gm.nmL G (Gm.oR G i)).length)) (by omega));have Z:=aA ((AP w9 ⟨gA,ml,none⟩ (.int .i64 (Gm.nmL G (Gm.oR G i)).length) wr.heap.size (by have:=dt.o;simp only;omega)).trans cj.o);generalize Gm.pos (Gm.oR G i) ml=pq at *;clear bc au cM;go_upto_region 21 with fail
           obtain⟨wz,dw⟩:∃y,y=w9.setCell ⟨gA,ml,none⟩ (.int .i64 (Gm.nmL G (Gm.oR G i)).length):=⟨_,rfl⟩
           rw[<-dw]at A X Z ⊢;clear dw I bv cj d0 ld kt lt9 j1 lh fa;obtain⟨gN,oN,rfl,e7,dx⟩:=dY.o w1 bo.o (by omega);have kN:=dx ml J;rw[show G.ns[ml]=G.ns.getD ml [] by rw[Ap,AF J];rfl]at kN;obtain⟨nm,dy⟩:∃s,s=G.ns.getD ml []:=⟨_,rfl⟩
           rw[<-dy]at kN dv;clear dy;have ea:gN<w1.heap.size:=by have:=HB.o;have:=bp.o;omega
           have a1:=aA (fun(y:World) (h:Below wc.heap.size wz y)=>A.o.w.trans h);have bN:=fun y:On9 wc.heap.size wr.heap.size wz=>((am.o y.1 (a1.o y.1 y.2.1)).cell (p:=⟨gN,oN+ml,none⟩) ea).trans kN;have bq:=fun y:On9 wc.heap.size wr.heap.size wz=>aU (br.o y.1 (a1.o y.1 y.2.1));have bd:=fun y:On9 wc.heap.size wr.heap.size wz=>aT (y.2.2.trans Z.o);have b4:=aA A.o.drew;have dz:Hid (aS wz.drew (gA+1) v' (Gm.kl G i++[(i:Int)])):=aA (X.o.drewN 1);have bf:Hid (Below wc.heap.size wz wz.drew/\wz.drew.heap[wr.heap.size]?=wz.heap[wr.heap.size]?):=aA ⟨aB (AB _ _) 1,rfl⟩;refine CalmN.region_tree (fun x=>∃y:On9 wc.heap.size wr.heap.size wz,x=y.1) (.two [0,2,3,4,5,6,7] 1 (.one [] 8 (.one [] 9 (.one [10] 11 (.fin [])))) 8 (.one [] 1 (.one [] 9 (.one [10] 11 (.fin []))))) (by kernel_rfl) (by kernel_rfl) (fun _ _ d _ _ h=>by cases d <;> exact h) ⟨⟨wz.drew,bf.o⟩,rfl⟩ ?_;simp only[CalmN.wpT,CalmN.wpSt,CalmN.pickOps,Aw,Ah,Aj];repeat (go_big_quiet_step (fail))
           refine Aq ?_;clear bN bq bd kN dx;obtain⟨w8',ao⟩:∃y,y=wz.drew:=⟨_,rfl⟩
           rw[<-ao]at b4 dz bf ⊢;clear ao A X;have I:=aA (b4.o.alloc (.cells #[.string (K.str nm)] 9));have bv:=aA (dz.o.alloc (.cells #[.string (K.str nm)] 9));have bw:Hid (Below wc.heap.size wz (w8'.alloc (.cells #[.string (K.str nm)] 9))/\(w8'.alloc (.cells #[.string (K.str nm)] 9)).heap[wr.heap.size]?=wz.heap[wr.heap.size]?):=aA ⟨bf.o.1.alloc b4.o.w.size _,(Bu w8' _ _ (Ad.1 (bf.o.2.trans Z.o)).1).trans bf.o.2⟩;have eb:Hid ((w8'.alloc (.cells #[.string (K.str nm)] 9)).cell? ⟨w8'.heap.size,0,none⟩=some (.string (K.str nm))):=aA (CZ _ _ _ 0);have n8:=AD w8' _ 1 _ _ _ b4.o.h;have n9:=AD _ _ 1 _ _ _ I.o.h;have lh8:=(Ad.1 b4.o.h).1;have lh9:=(Ad.1 I.o.h).1;refine⟨?_,?_⟩
           focus
            intro KK C;rw[Az (by rfl)];go_wp2_with fail
            refine C _ _ ⟨⟨_,bf.o⟩,rfl⟩ _ (fun _ h=>h) ⟨⟨_,bf.o⟩,rfl⟩ ?_
           rotate_left
           focus
            intro KK C;rw[Az (by rfl)];go_wp2_with fail
            refine C _ _ ⟨⟨_,bw.o⟩,rfl⟩ _ (fun _ h=>h) ⟨⟨_,bw.o⟩,rfl⟩ ?_
           all_goals
            refine Aq ?_;intro KK C;rw[Az (by rfl)];go_wp2_with fail
            refine C _ _ ⟨⟨_,bw.o⟩,rfl⟩ _ (fun _ h=>h) ⟨⟨_,bw.o⟩,rfl⟩ ?_;refine Aq ?_;intro KK C;rw[Az (by rfl)];refine zka (.tmp 94) (.tmp 101) _ rfl Tryz.underlying23 wc.heap.size _ _ rfl I.o.nn w8'.heap.size 1 _ rfl eb.o (by have:=d8.o;have:=bz.o;unfold Gm.nmL;rw[Bd];omega) I.o.w.size ?_;intro v2' w10 bg ae;have A:=aA (I.o.putN bg ae);have X:Hid (aS w10 (gA+1) v' (Gm.kl G i++[(i:Int)])):=aA (Ba bv.o ae (zai bv.o I.o.nn (by decide)));have af:Hid (Below wc.heap.size wz w10/\w10.heap[wr.heap.size]?=wz.heap[wr.heap.size]?):=aA ⟨bw.o.1.grown ae I.o.w.size (fun k e=>(aM I.o.nn e).1),(zac (bw.o.2.trans Z.o) I.o.nn (by decide) ae).trans Z.o.symm⟩;obtain⟨A10,c10,rfl,_,_⟩:=aN bg;clear bg ae;obtain⟨n10,b5⟩:∃n,n=(Gm.nmL G (Gm.oR G i)++[nm]).length:=⟨_,rfl⟩
            rw[<-b5]at A ⊢;clear b5;refine C _ _ ⟨⟨w10,af.o⟩,rfl⟩ _ (fun _ h=>h) ⟨⟨w10,af.o⟩,rfl⟩ ?_
            go_frame
            repeat (go_big_quiet_step (fail))
            refine Aq ?_;intro KK C;rw[Az (by rfl)];have j1:=AD w10 _ 1 _ _ _ A.o.h;have f1:=AH w10 _ 1 _ _ A.o.h;have lh:=(Ad.1 A.o.h).1;have b6:=aA (A.o.setH 1 (.slice A10 n10 c10));have cO:Hid (aS (w10.setCell ⟨H,1,none⟩ (.slice A10 n10 c10)) (gA+1) v' (Gm.kl G i++[(i:Int)])):=aA (Ba X.o (aF (AM w10 (some H)) 1 _) (aO X.o A.o.h (fun cur e=>by injection e with _ e;cases e)));have dA:wr.heap.size≠H:=fun e=>by have h1:=af.o.2.trans Z.o;rw[e,A.o.h]at h1;injection h1 with h1;injection h1 with _ h1;cases h1
            have b7:Hid (Below wc.heap.size wz (w10.setCell ⟨H,1,none⟩ (.slice A10 n10 c10))/\(w10.setCell ⟨H,1,none⟩ (.slice A10 n10 c10)).heap[wr.heap.size]?=wz.heap[wr.heap.size]?):=aA ⟨af.o.1.setCell (p:=⟨H,1,none⟩) A.o.hH _,(AP w10 ⟨H,1,none⟩ _ wr.heap.size dA).trans af.o.2⟩;clear dA;go_wp2_with fail
            refine C _ _ ⟨⟨_,b7.o⟩,rfl⟩ _ (fun _ h=>h) ⟨⟨_,b7.o⟩,rfl⟩ ?_;clear j1 f1 lh;refine Aq ?_;go_wp2;go_roundw
            case rel=>exact⟨i+1,_,hlt,by go_num,by rw[<-dv.o]at b6;exact b6,by rw[HX.o];exact cO⟩
            case measure=>simp[intOf];omega
       ·obtain rfl:i=G.rs.length:=by omega
        rw[Gm.oR_all]at HS;obtain⟨AK,cK,ec,_,_,_⟩:=HK.o.form;subst ec;obtain⟨ks,cl⟩:∃ks,ks=Gm.kl G G.rs.length:=⟨_,rfl⟩
        rw[<-cl]at HK ⊢;have cP:=aA cl;have ci:Hid (ks.length=(Gm.krs G).length):=aA (by rw[cl];exact Gm.kl_krs G);have dB:(ks.length:Int)<=9223372036854775807:=by have:=ci.o;have:=Gm.krs_len G;have:=aq.o;omega
        clear cl hlt;have q2:=aZ (br.o wr HS.o.w);have lq:=Bi q2;go_wp2;go_loopw [13] (fun vk wr=>∃(k:Nat) (vR:Value),k<=ks.length/\vk=.int .i64 k/\Hid (RdS wc wr H gA #[vT,vN,vR,.int .i64 0] vT vN vR G.ts (Gm.nmL G (Gm.olds G)) (((Gm.krs G).take k).map (Gm.re (Gm.olds G))) (Gm.toL G.ns.length (Gm.olds G)))/\Hid (aS wr (gA+1) (.slice AK ks.length cK) ks)) (fun vk _=>ks.length-(intOf vk).toNat)
        case atStart=>exact⟨0,_,AU _,rfl,HS,HK⟩
        case round =>
         clear HS HK q2 lq;obtain⟨k,vR,hk,rfl,HS,HK⟩:=hrel;obtain⟨ws,ed⟩:∃y:World,y=wr:=⟨_,rfl⟩
         subst ed;have am:=aA (fun(y:World) (h:Below wc.heap.size wc y)=>F.o.trans (h.mono F.o.size));by_cases hlt:k<ks.length
         ·obtain⟨gk,ok,rfl,e8,dC⟩:=HK.o.rdOf (by omega);have kk:=dC k hlt;rw[L.gd_lt hlt]at kk;have lk:=Bi kk;obtain⟨i,dD,hi,hkk,dE⟩:=Gm.kl_at (G:=G) (k:=k) (by rw[<-cP.o];exact hlt);have b8:ks[k]=(i:Int):=by simp only[cP.o];exact dD
          rw[b8]at kk;have dF:=aA (Gm.krs_next hkk);have dG:(Gm.krs G)[k]∈Gm.krs G:=AC hkk;rw[dE]at dF dG;have ac:G.rs[i]∈G.rs:=AC hi;have e:=db.o.r _ ac;have a9:=N.o.lin _ ac;have dH:=aA (N.o.sin _ ac);have cH:=(Gm.rule_in (N.o.rr _ ac)).1;obtain⟨g,o,rfl,d7,hc⟩:=da.o w1 bo.o (by omega);obtain⟨k0,⟨A',c',k1,_,_,bZ⟩,k2⟩:=hc i hi;have a6:g<w1.heap.size:=by have:=HB.o;have:=bp.o;omega
          have dI:=aA (fun(y:World) (h:Below wc.heap.size wc y)=>bZ.keep fun g o hg=>(am.o y h).cell (p:=⟨g,o,none⟩) (by have:=HB.o;have:=bp.o;simp only;omega));have ee:Hid (((Gm.krs G).take k).length<=40):=aA (by rw[Bb];have:=Gm.krs_len G;have:=aq.o;omega);have ck:=aA e.2.2;generalize G.rs[i]=x at *;obtain⟨l,r,pz⟩:=x;simp only at k0 k1 k2 dI dH cH a9 ck;obtain⟨ml,rfl⟩:∃m:Nat,l=(m:Int):=⟨l.toNat,by omega⟩
          have cI:=a9.2;have J:ml<G.ns.length:=by omega
          have e9:(r.length:Int)<=9223372036854775807:=by omega
          have fc:(i:Int)<(G.rs.length:Int):=by omega
          have dJ:Hid (Gm.re (Gm.olds G) ⟨ml,r,pz⟩=⟨Gm.pos (Gm.olds G) ml,r.map (Gm.re1 (Gm.olds G)),pz⟩):=aA rfl;have ef:=aA (fun(i:Nat) (hi:i<G.ns.length)=>Gm.toL_in N.o (Gm.olds G) (Gm.olds_le N.o) G.ns.length i hi);go_upto_region 25 with fail
          have a1:=aA (fun(y:World) (h:Below ws.heap.size ws y)=>HS.o.w.trans (h.mono HS.o.w.size));have b0:=fun y:Calm.On ws.heap.size ws=>((am.o y.1 (a1.o y.1 y.2)).cell (p:=⟨g,o+i*3,none⟩) a6).trans k0;have b1:=fun y:Calm.On ws.heap.size ws=>((am.o y.1 (a1.o y.1 y.2)).cell (p:=⟨g,o+i*3+1,none⟩) a6).trans k1;have b2:=fun y:Calm.On ws.heap.size ws=>((am.o y.1 (a1.o y.1 y.2)).cell (p:=⟨g,o+i*3+2,none⟩) a6).trans k2;have bk:=fun y:Calm.On ws.heap.size ws=>(y.2.cell (p:=⟨gk,ok+k,none⟩) lk).trans kk;have bq:=fun y:Calm.On ws.heap.size ws=>aZ (br.o y.1 (a1.o y.1 y.2));have ag:Hid (Below ws.heap.size ws ws.drew):=aA (aB (AB _ _) 1);clear kk dC hc bZ hkk dE dD b8 dG ac e a9 k0 k1 k2;refine CalmN.region_tree (fun x=>∃y:Calm.On ws.heap.size ws,x=y.1) (.one [0,1,2,3,4,5,6,7] 8 (.one [] 9 (.fin []))) (by kernel_rfl) (by kernel_rfl) (fun _ _ d _ _ h=>by cases d <;> exact h) ⟨⟨ws.drew,ag.o⟩,rfl⟩ ?_;simp only[CalmN.wpT,CalmN.wpSt,CalmN.pickOps,Aw,Ah,Aj];repeat (go_big_quiet_step (fail))
          refine Aq ?_;clear b0 b1 b2 bk bq;obtain⟨wd,al⟩:∃y,y=ws.drew:=⟨_,rfl⟩
          have a2:Hid (wd.heap.size=ws.heap.size):=aA (by rw[al];rfl);rw[<-al]at ag ⊢;clear al;have ah:=ag.o.alloc ag.o.size (.cells #[.int .i64 0,.slice none 0 0,.int .i64 0] 48);intro KK C;rw[Az (by rfl)];go_wp2_with fail
          refine C _ _ ⟨⟨_,ah⟩,rfl⟩ _ (fun _ h=>h) ⟨⟨_,ah⟩,rfl⟩ ?_;refine Aq ?_;have hx:=AE wd (.cells #[.int .i64 0,.slice none 0 0,.int .i64 0] 48);obtain⟨D,hD⟩:∃D,D=wd.heap.size:=⟨_,rfl⟩
          have bh:Hid (ws.heap.size<=D):=aA (by have:=a2.o;omega);rw[<-hD]at hx ⊢;obtain⟨wa,b9⟩:∃y,y=wd.alloc (.cells #[.int .i64 0,.slice none 0 0,.int .i64 0] 48):=⟨_,rfl⟩
          rw[<-b9]at hx ah ⊢;clear b9 C hD a2;have ai:=AW wa D 0 _ _ (.int .i64 ml) hx;have aj:=AW _ D 1 _ _ (.slice A' r.length c') ai;have M:=AW _ D 2 _ _ (.int .i64 pz) aj;have f:=((ah.setCell (p:=⟨D,0,none⟩) bh.o (.int .i64 ml)).setCell (p:=⟨D,1,none⟩) bh.o (.slice A' r.length c')).setCell (p:=⟨D,2,none⟩) bh.o (.int .i64 pz);have d0:=AD wa _ 0 _ _ _ hx;have d1:=AD wa _ 1 _ _ _ hx;have d2:=AD wa _ 2 _ _ _ hx;have f0:=AH wa _ 0 _ _ hx;have f1:=AH wa _ 1 _ _ hx;have f2:=AH wa _ 2 _ _ hx;have ld:=(Ad.1 hx).1;clear ai aj ah hx;intro KK C;rw[Az (by rfl)];go_wp2_with fail
          obtain⟨we,dK⟩:∃y,y=((wa.setCell ⟨D,0,none⟩ (.int .i64 ml)).setCell ⟨D,1,none⟩ (.slice A' r.length c')).setCell ⟨D,2,none⟩ (.int .i64 pz):=⟨_,rfl⟩
          rw[<-dK]at M f ⊢;refine C _ _ ⟨⟨we,f⟩,rfl⟩ _ (fun _ h=>h) ⟨⟨we,f⟩,rfl⟩ ?_;have ar:Hid (we.heap[D]?=some (.cells #[.int .i64 ml,.slice A' r.length c',.int .i64 pz] 48 (0,0))):=aA M;have cm:=aA f;clear d0 d1 d2 f0 f1 f2 ld M f dK C ag;refine Aq ?_;go_upto_region 26 with fail
          have eg:=(Ad.1 ar.o).1;have b0:=fun y:Calm.On we.heap.size we=>aT (aC y.2 ar.o);have b2:=fun y:Calm.On we.heap.size we=>aZ (aC y.2 ar.o);obtain⟨tl,cQ⟩:∃z,z=Gm.pos (Gm.olds G) (ml:Int):=⟨_,rfl⟩
          have kt:=(cm.o.cell (p:=⟨gA,ml,none⟩) HS.o.a.lt).trans (HS.o.a.cell ml (by rw[Gm.toL_len];exact J));rw[Gm.toL_at J,<-cQ]at kt;rw[<-cQ]at dJ;clear cQ;have bt:=fun y:Calm.On we.heap.size we=>(y.2.cell (p:=⟨gA,ml,none⟩) (Bi kt)).trans kt;have ag:Hid (Below we.heap.size we we.drew):=aA (aB (AB _ _) 1);refine CalmN.region_tree (fun x=>∃y:Calm.On we.heap.size we,x=y.1) (.one [0,1,2,3,4,5,6,7] 8 (.one [] 9 (.fin []))) (by kernel_rfl) (by kernel_rfl) (fun _ _ d _ _ h=>by cases d <;> exact h) ⟨⟨we.drew,ag.o⟩,rfl⟩ ?_;simp only[CalmN.wpT,CalmN.wpSt,CalmN.pickOps,Aw,Ah,Aj];repeat (go_big_quiet_step (fail))
          refine Aq ?_;clear b0 b2 bt kt;obtain⟨wd2,al⟩:∃y,y=we.drew:=⟨_,rfl⟩
          have a2:Hid (wd2.heap.size=we.heap.size):=aA (by rw[al];rfl);rw[<-al]at ag ⊢;clear al;have ah:=ag.o.alloc ag.o.size (.cells #[.int .i64 0,.slice none 0 0,.int .i64 0] 48);intro KK C;rw[Az (by rfl)];go_wp2_with fail
          refine C _ _ ⟨⟨_,ah⟩,rfl⟩ _ (fun _ h=>h) ⟨⟨_,ah⟩,rfl⟩ ?_;refine Aq ?_;have hx:=AE wd2 (.cells #[.int .i64 0,.slice none 0 0,.int .i64 0] 48);obtain⟨E,hE⟩:∃E,E=wd2.heap.size:=⟨_,rfl⟩
          have a3:Hid (we.heap.size<=E/\D<E):=aA (by have:=a2.o;omega);rw[<-hE]at hx ⊢;obtain⟨wa2,b9⟩:∃y,y=wd2.alloc (.cells #[.int .i64 0,.slice none 0 0,.int .i64 0] 48):=⟨_,rfl⟩
          rw[<-b9]at hx ah ⊢;clear b9 C hE a2;have ai:=AW wa2 E 0 _ _ (.int .i64 tl) hx;have aj:=AW _ E 1 _ _ (.slice none 0 0) ai;have M:=AW _ E 2 _ _ (.int .i64 pz) aj;have f:=((ah.setCell (p:=⟨E,0,none⟩) a3.o.1 (.int .i64 tl)).setCell (p:=⟨E,1,none⟩) a3.o.1 (.slice none 0 0)).setCell (p:=⟨E,2,none⟩) a3.o.1 (.int .i64 pz);have d0:=AD wa2 _ 0 _ _ _ hx;have d1:=AD wa2 _ 1 _ _ _ hx;have d2:=AD wa2 _ 2 _ _ _ hx;have f0:=AH wa2 _ 0 _ _ hx;have f1:=AH wa2 _ 1 _ _ hx;have f2:=AH wa2 _ 2 _ _ hx;have ld:=(Ad.1 hx).1;clear ai aj ah hx;intro KK C;rw[Az (by rfl)];go_wp2_with fail
          obtain⟨wf,dL⟩:∃y,y=((wa2.setCell ⟨E,0,none⟩ (.int .i64 tl)).setCell ⟨E,1,none⟩ (.slice none 0 0)).setCell ⟨E,2,none⟩ (.int .i64 pz):=⟨_,rfl⟩
          rw[<-dL]at M f ⊢;refine C _ _ ⟨⟨wf,f⟩,rfl⟩ _ (fun _ h=>h) ⟨⟨wf,f⟩,rfl⟩ ?_;have aw:Hid (wf.heap[E]?=some (.cells #[.int .i64 tl,.slice none 0 0,.int .i64 pz] 48 (0,0))):=aA M;have dM:=aA (aC f ar.o);have ay:=aA (cm.o.trans (f.mono cm.o.size));have eh:Hid (E<wf.heap.size):=aA (Ad.1 M).1;clear d0 d1 d2 f0 f1 f2 ld M f dL C ag ar cm eg;refine Aq ?_;go_wp2;go_loopw [16] (fun vj wr=>∃(j:Nat) (vx:Value),j<=r.length/\vj=.int .i64 j/\Hid (Below ws.heap.size ws wr)/\Hid (wr.heap[D]?=some (.cells #[.int .i64 ml,.slice A' r.length c',.int .i64 pz] 48 (0,0)))/\Hid (wr.heap[E]?=some (.cells #[.int .i64 tl,vx,.int .i64 pz] 48 (0,0)))/\Hid (aS wr (E+1) vx ((r.take j).map (Gm.re1 (Gm.olds G))))) (fun vj _=>r.length-(intOf vj).toNat)
          case atStart=>exact⟨0,_,AU _,rfl,ay,dM,aw,aA (aS.nil _ _)⟩
          case round =>
           clear ay dM aw eh;obtain⟨j,vx,hj,rfl,bi,cS,ap,bj⟩:=hrel;obtain⟨Ax,cx,ei,_,_,_⟩:=bj.o.form;subst ei;have d1:=aU cS.o;have ld:=Bi d1;have fd:=(Ad.1 ap.o).1;by_cases aa:j<r.length
           ·obtain⟨g5,o5,rfl,a5,dN⟩:=dI.o wr (a1.o wr bi.o) (by omega);have k5:=dN j aa;rw[L.gd_lt aa]at k5;have l5:=Bi k5;have cU:=dH.o _ (AC aa);have cV:=ck.o _ (AC aa);have HT:Hid ((r.take (j+1)).map (Gm.re1 (Gm.olds G))=(r.take j).map (Gm.re1 (Gm.olds G))++[Gm.re1 (Gm.olds G) r[j]]):=aA (by rw[AI aa,Bf,ED]);have ej:Hid (((r.take j).map (Gm.re1 (Gm.olds G))).length<=1000):=aA (by rw[Bd,Bb];omega);have fe:=aA (fun u=>bi.o.setCell (p:=⟨E,1,none⟩) (by have:=a3.o;have:=bh.o;simp only;omega) u);have ek:D≠E:=by have:=a3.o;omega
            have el:Hid (∀k,E+1<=k->ws.heap.size<=k):=aA (fun k h=>by have:=a3.o.2;have:=bh.o;omega);unfold Gm.In at cV;generalize r[j]=z at *;obtain⟨lx,bl⟩:∃n,n=((r.take j).map (Gm.re1 (Gm.olds G))).length:=⟨_,rfl⟩
            rw[<-bl]at ap bj;have dO:=aA bl;have e1:=aU ap.o;clear dN bl;by_cases hz:z<0
            focus
             obtain⟨q,hq⟩:∃q:Nat,-1-z=(q:Int):=⟨(-1-z).toNat,by omega⟩
             have em:=cU hz;rw[hq]at em;have eo:=ef.o q (by omega);have kt:=(bi.o.cell (p:=⟨gA,q,none⟩) HS.o.a.lt).trans (HS.o.a.cell q (by rw[Gm.toL_len];omega));have lt5:=Bi kt;have bm:Hid (Gm.re1 (Gm.olds G) z = -1-(Gm.toL G.ns.length (Gm.olds G)).getD q 0):=aA (by unfold Gm.re1;rw[Az hz,hq,Gm.toL_at (by omega)]);generalize (Gm.toL G.ns.length (Gm.olds G)).getD q 0=tq at *;have ep:IntKind.i64.wrap (-1-z)=(q:Int):=by rw[B5 _ (by omega)];exact hq
             have a2:decide (z<0)=true:=AL hz;obtain⟨u,hu⟩:∃u,u = -1-tq:=⟨_,rfl⟩
             have er:IntKind.i64.wrap (-1-tq)=u:=by rw[hu];exact B5 _ (by omega)
             rw[<-hu]at bm;rw[bm.o]at HT;clear hz hq cV cU eo hu bm
            rotate_left
            focus
             have bm:Hid (Gm.re1 (Gm.olds G) z=z):=aA (by unfold Gm.re1;rw[AG hz]);have a2:decide (z<0)=false:=AO hz;obtain⟨u,hu⟩:∃u,u=z:=⟨_,rfl⟩
             rw[<-hu]at bm k5 a2;rw[<-hu,bm.o]at HT;clear hz cV cU hu bm
            all_goals
             have es:Hid (∀y:World,(wr.alloc (.cells #[.int .i64 u] 3)).grownBy y (Value.slice Ax lx cx).ownBlock->y.heap[D]?=some (.cells #[.int .i64 ml,.slice (some ⟨g5,o5,none⟩) r.length c',.int .i64 pz] 48 (0,0))/\y.heap[E]?=some (.cells #[.int .i64 tl,.slice Ax lx cx,.int .i64 pz] 48 (0,0))/\Below ws.heap.size ws y):=aA (by
              have cW:aS (wr.alloc (.cells #[.int .i64 u] 3)) (E+1) (.slice Ax lx cx) ((r.take j).map (Gm.re1 (Gm.olds G))):=bj.o.alloc _;have et:(wr.alloc (.cells #[.int .i64 u] 3)).heap[D]?=some (.cells #[.int .i64 ml,.slice (some ⟨g5,o5,none⟩) r.length c',.int .i64 pz] 48 (0,0)):=(Bu wr _ D (Ad.1 cS.o).1).trans cS.o;have eu:(wr.alloc (.cells #[.int .i64 u] 3)).heap[E]?=some (.cells #[.int .i64 tl,.slice Ax lx cx,.int .i64 pz] 48 (0,0)):=(Bu wr _ E (Ad.1 ap.o).1).trans ap.o;have dP:Below ws.heap.size ws (wr.alloc (.cells #[.int .i64 u] 3)):=bi.o.alloc bi.o.size _;intro y h;have cX:=Bn cW;exact⟨zac et cW (by decide) h,zac eu cW (by decide) h,dP.grown h dP.size (fun k e=>el.o k (cX k e).1)⟩)
             have ev:Hid (aS (wr.alloc (.cells #[.int .i64 u] 3)) (E+1) (.slice Ax lx cx) ((r.take j).map (Gm.re1 (Gm.olds G)))):=aA (bj.o.alloc _);have ew:Hid (E+1<=(wr.alloc (.cells #[.int .i64 u] 3)).heap.size):=aA (by simp;omega);have ex:Hid (ws.heap.size<=E):=aA (by have:=a3.o;have:=bh.o;omega);have ey:Hid (E<E+1):=aA (Nat.lt_succ_self E);have ez:Hid (((r.take j).map (Gm.re1 (Gm.olds G))).length<=1000000000000):=aA (by have:=ej.o;omega);go_wp2_with (at_builtin;(go_loud (refine za4 rfl (.tmp 147) (.tmp 149) _ rfl Tryz.underlying38 (E+1) _ _ rfl ev.o _ 1 u rfl (CZ _ _ _ 0) ez.o ew.o ?_));intro v6 w6 cn dQ;rw[<-HT.o]at cn;obtain⟨dR,dS,dT⟩:=es.o w6 dQ;have eA:=aA dR;have co:=aA dS;have eB:=aA dT;have bY:=aA cn;obtain⟨A6,c6,eC,_,_,_⟩:=cn.form;subst eC;obtain⟨n6,ca⟩:∃n,n=((r.take (j+1)).map (Gm.re1 (Gm.olds G))).length:=⟨_,rfl⟩;rw[<-ca]at bY ⊢;have e1':w6.cell? ⟨E,1,none⟩=some (.slice Ax lx cx):=(AD w6 _ 1 _ _ _ co.o).trans rfl;have f1':=AH w6 _ 1 _ _ co.o;have l1':=(Ad.1 co.o).1;have eD:=aA (eB.o.setCell (p:=⟨E,1,none⟩) ex.o (.slice A6 n6 c6));have eE:=aA ((AP w6 ⟨E,1,none⟩ (.slice A6 n6 c6) D ek).trans eA.o);have eF:=aA (AW w6 E 1 _ _ (.slice A6 n6 c6) co.o);have eG:Hid (aS (w6.setCell ⟨E,1,none⟩ (.slice A6 n6 c6)) (E+1) (.slice A6 n6 c6) ((r.take (j+1)).map (Gm.re1 (Gm.olds G)))):=aA (bY.o.far (aF (AM w6 (some E)) 1 _) ey.o);clear cn dQ ca dR dS dT)
             go_roundw
             case rel=>exact⟨j+1,_,aa,by go_num,eD,eE,eF,eG⟩
             case measure=>simp[intOf];omega
           ·obtain rfl:j=r.length:=by omega
            rw[Bk]at bj ap;have cp:=aA (HS.o.below bi.o);have eH:=aA (HK.o.below bi.o (Af _));have eI:=zao cp.o.r;obtain⟨AR5,cR5,rfl,_,_⟩:=eI;obtain⟨lR,dU⟩:∃n,n=(((Gm.krs G).take k).map (Gm.re (Gm.olds G))).length:=⟨_,rfl⟩
            obtain⟨lx,bl⟩:∃n,n=(r.map (Gm.re1 (Gm.olds G))).length:=⟨_,rfl⟩
            rw[<-dU]at cp;rw[<-bl]at ap bj;have dO:=aA bl;have j2:=aZ cp.o.h;have lh:=Bi j2;have e0:=aT ap.o;have e1:=aU ap.o;have e2:=aZ ap.o;obtain⟨Ay,cy,hy,ry1,ry2,cb⟩:=bj.o.row (B:=wc.heap.size) (by have:=a3.o;have:=bh.o;have:=HS.o.w.size;omega);injection hy with eJ eK eL;subst eJ eL;have cq:=aA (cp.o.alloc (.cells #[.int .i64 tl,.slice Ax lx cx,.int .i64 pz] 48));have dV:=aA (eH.o.alloc (.cells #[.int .i64 tl,.slice Ax lx cx,.int .i64 pz] 48));have cY:=aA ((cb.grown (DK wr (.cells #[.int .i64 tl,.slice Ax lx cx,.int .i64 pz] 48) none) (fun g e=>by cases e)).more (show wr.heap.size<=(wr.alloc (.cells #[.int .i64 tl,.slice Ax lx cx,.int .i64 pz] 48)).heap.size by simp))
            have eM:Hid (∀j u,(rlC (⟨tl,r.map (Gm.re1 (Gm.olds G)),pz⟩,Ax,cx))[j]?=some u->(wr.alloc (.cells #[.int .i64 tl,.slice Ax lx cx,.int .i64 pz] 48)).cell? ⟨wr.heap.size,j,none⟩=some u):=aA (fun j u hj=>by
             have h:=zaj wr [.int .i64 tl,.slice Ax lx cx,.int .i64 pz] 48 j;rw[dO.o]at h ⊢;exact h.trans hj)
            have cc:=aA (B4 ry1 ry2);have cZ:Hid ((((Gm.krs G).take k).map (Gm.re (Gm.olds G))).length<=1000000):=aA (by rw[Bd];have:=ee.o;omega);clear dU bl eK ry1 ry2 cb;go_wp2_with (at_builtin;(go_loud (refine zjt rfl (.tmp 153) (.tmp 155) _ rfl Tryz.underlying24 wc.heap.size _ (.slice AR5 lR cR5) _ rfl cq.o.r _ _ (⟨tl,r.map (Gm.re1 (Gm.olds G)),pz⟩,Ax,cx) rfl eM.o ⟨cc.o.1,cc.o.2,cY.o⟩ cZ.o cq.o.w.size (Af _) ?_));intro v5 w5 az a5;rw[<-dJ.o,<-dF.o]at az;have bx:=aA (cq.o.putR az a5);have dW:Hid (aS w5 (gA+1) (.slice (some ⟨gk,ok,none⟩) ks.length cK) ks):=aA (by obtain⟨qs,_,h2,_⟩:=id cq.o.r;exact Ba dV.o a5 (zai dV.o h2 (by decide)));obtain⟨A6,c6,rfl,_,_⟩:=zao az;obtain⟨n6,ca⟩:∃n,n=(((Gm.krs G).take (k+1)).map (Gm.re (Gm.olds G))).length:=⟨_,rfl⟩;rw[<-ca]at bx ⊢;have j2':=AD w5 _ 2 _ _ _ bx.o.h;have f2':=AH w5 _ 2 _ _ bx.o.h;have lh':=(Ad.1 bx.o.h).1;have eN:=aA (bx.o.setH 2 (.slice A6 n6 c6));have eO:Hid (aS (w5.setCell ⟨H,2,none⟩ (.slice A6 n6 c6)) (gA+1) (.slice (some ⟨gk,ok,none⟩) ks.length cK) ks):=aA (Ba dW.o (aF (AM w5 (some H)) 2 _) (aO dW.o bx.o.h (fun cur e=>by injection e with _ e;cases e)));clear az a5 ca)
            go_roundw
            case rel=>exact⟨k+1,_,hlt,by go_num,eN,eO⟩
            case measure=>simp[intOf];omega
         ·obtain rfl:k=ks.length:=by omega
          rw[ci.o,Bk]at HS;obtain⟨AT5,cT5,rfl,_,_⟩:=aN HS.o.t;obtain⟨AN5,cN5,rfl,_,_⟩:=aN HS.o.nn;obtain⟨AR5,cR5,rfl,_,_⟩:=zao HS.o.r;have HP:Hid ((Gm.toL G.ns.length (Gm.olds G)).getD m 0=Gm.pos (Gm.olds G) G.st):=aA (by rw[Gm.toL_at cz,<-HM.o]);have q3:=bG (br.o ws HS.o.w);rw[HM.o]at q3;have km:=HS.o.a.cell m (by rw[Gm.toL_len];exact cz);rw[HP.o]at km;have la:=HS.o.a.lt;have lq:=Bi q3;have j3:=AD ws _ 3 _ _ _ HS.o.h;have f3:=AH ws _ 3 _ _ HS.o.h;have lh:=(Ad.1 HS.o.h).1;obtain⟨pp,c4⟩:∃z,z=Gm.pos (Gm.olds G) G.st:=⟨_,rfl⟩
          rw[<-c4]at km;have eP:=aA c4;have ad:=aA (HS.o.setH 3 (.int .i64 pp));have c5:Hid (aS (ws.setCell ⟨H,3,none⟩ (.int .i64 pp)) (gA+1) (.slice AK ks.length cK) ks):=aA (Ba HK.o (aF (AM ws (some H)) 3 _) (aO HK.o HS.o.h (fun cur e=>by injection e with _ e;cases e)));obtain⟨wy,c7⟩:∃y,y=ws.setCell ⟨H,3,none⟩ (.int .i64 pp):=⟨_,rfl⟩
          rw[<-c7]at ad c5;clear c4 HP;go_upto_region 36 with fail
          rw[<-c7];clear c7 q3 km la lq j3 f3 lh;have j0:=aT ad.o.h;have j1:=aU ad.o.h;have j2:=aZ ad.o.h;have j3:=bG ad.o.h;have lh:=(Ad.1 ad.o.h).1;have ak:=F.o.trans (ad.o.w.mono F.o.size);have g0:=aT (HZ.o wy ak);have g1:=aU (HZ.o wy ak);have g2:=aZ (HZ.o wy ak);have g3:=bG (HZ.o wy ak);have e0:=AH wy _ 0 _ _ (HZ.o wy ak);have e1:=AH wy _ 1 _ _ (HZ.o wy ak);have e2:=AH wy _ 2 _ _ (HZ.o wy ak);have e3:=AH wy _ 3 _ _ (HZ.o wy ak);have lz:=(Ad.1 (HZ.o wy ak)).1;have ay:=aA (fun u1 u2 u3 u4=>((((ax.o wy ak).setCell (p:=⟨w.heap.size+1,0,none⟩) (by simp only;omega) u1).setCell (p:=⟨w.heap.size+1,1,none⟩) (by simp only;omega) u2).setCell (p:=⟨w.heap.size+1,2,none⟩) (by simp only;omega) u3).setCell (p:=⟨w.heap.size+1,3,none⟩) (by simp only;omega) u4);have c8:=aF (aF (aF (aF (AM wy (some (w.heap.size+1))) 0 (.slice AT5 G.ts.length cT5)) 1 (.slice AN5 (Gm.nmL G (Gm.olds G)).length cN5)) 2 (.slice AR5 ((Gm.krs G).map (Gm.re (Gm.olds G))).length cR5)) 3 (.int .i64 pp);have eQ:w.heap.size+1<wc.heap.size:=by have:=F.o.size;have:=bp.o;omega
          have dX:Gm.reduce G=⟨G.ts,Gm.nmL G (Gm.olds G),(Gm.krs G).map (Gm.re (Gm.olds G)),pp⟩:=by rw[eP.o];rfl
          have eR:=aA ((show zcE wy wc.heap.size (.agg #[.slice AT5 G.ts.length cT5,.slice AN5 (Gm.nmL G (Gm.olds G)).length cN5,.slice AR5 ((Gm.krs G).map (Gm.re (Gm.olds G))).length cR5,.int .i64 pp]) (Gm.reduce G) from by rw[dX];exact⟨_,_,_,rfl,ad.o.t,ad.o.nn,ad.o.r⟩).grown c8 (fun g e=>by injection e with e;omega));have eS:=aA (c5.o.far c8 (by have:=ad.o.hA;omega));generalize Gm.nmL G (Gm.olds G)=nms at *;generalize (Gm.krs G).map (Gm.re (Gm.olds G))=rls at *;clear c8 dX eQ ak HS ad HK c5;go_wp2;refine Cj (v:=.tuple #[.agg #[.slice AT5 G.ts.length cT5,.slice AN5 nms.length cN5,.slice AR5 rls.length cR5,.int .i64 pp],.slice AK ks.length cK,.int .i64 0]) (by simp[results,Tryz.results36,go_sem,g0,g1,g2,g3]) rfl ?_;exact zaI.ok HE.o cP.o eR.o.rd eS.o.rdOf (ay.o _ _ _ _)
theorem zhf (v:Value) (G:Gm.Gr) (B:Nat) (w:World) (hg:aR w B v G) (hf:Gm.Fit G) (hB:B<=w.heap.size) :
  Calls Tryz.prog 18 #[v] w fun e w'=>e=.returned (.bool (Gm.isB G))/\Below w.heap.size w w':=by
 have H1:=aA (fun(x:World) (h:Below w.heap.size w x)=>zen v G B x (hg.below h hB) hf (Am hB h.size));have H2:=aA (fun(x:World) (h:Below w.heap.size w x) (u:Value) (B':Nat) (hu:aR x B' u (Gm.rdG G)) (ag:B'<=x.heap.size)=>zg3 v u G (Gm.rdG G) B B' x (hg.below h hB) hu hf (Gm.rdG_fit hf) (Am hB h.size) ag);have ah:=Gm.rdE_in G;have HI:Hid (Gm.isB G=(decide (Gm.rdE G=0)&&Gm.same G (Gm.rdG G))):=aA rfl;obtain⟨AT,cT,AN,cN,AR,cR,rfl,_⟩:=hg;have aa:=aA (One.start w #[.slice AT G.ts.length cT,.slice AN G.ns.length cN,.slice AR G.rs.length cR,.int .i64 G.st]);unfold zaI at H1;generalize Gm.rdL G=L at *;generalize Gm.rdE G=er at *;generalize Gm.rdG G=RG at *;clear hf;by_cases he:er=0
 ·have HX:Hid (Gm.isB G=Gm.same G RG):=aA (by rw[HI.o,AL he];rfl);subst he;clear ah HI
  go_enter Tryz.func18,Tryz.ntmps18
  go_wp2_with fail
  refine(H1.o _ aa.o.below).mono ?_;rintro _ w2 ⟨g,A,c,rfl,ab,ad,d⟩;have ac:=aA (aa.o.on d);have ai:=aA ab;obtain⟨A0,d0,A1,d1,A2,d2,rfl,_⟩:=ab;have ae:=aA (One.start w2 #[.slice A0 RG.ts.length d0,.slice A1 RG.ns.length d1,.slice A2 RG.rs.length d2,.int .i64 RG.st]);have b:=aA (ac.o.on ae.o.below);have x0:=b.o.c 0 _ rfl;have x1:=b.o.c 1 _ rfl;have x2:=b.o.c 2 _ rfl;have x3:=b.o.c 3 _ rfl;have ak:w.heap.size<w2.heap.size:=ac.o.size;clear ad d;go_wp2_with fail
  refine(H2.o _ b.o.below _ w2.heap.size (ai.o.below ae.o.below (Af _)) ae.o.below.size).mono ?_;rintro _ w4 ⟨rfl,af⟩;have aj:=aA (b.o.on af);clear af x0 x1 x2 x3;go_wp2;go_ret
  exact⟨by rw[HX.o];rfl,aj.o.below⟩
 ·have HX:Hid (Gm.isB G=false):=aA (by rw[HI.o,AO he];rfl);have al:(er==0)=false:=by simpa using he
  clear HI H2
  go_enter Tryz.func18,Tryz.ntmps18
  go_wp2_with fail
  refine(H1.o _ aa.o.below).mono ?_;rintro _ w2 ⟨g,A,c,rfl,ab,ad,d⟩;have ac:=aA (aa.o.on d);obtain⟨A0,d0,A1,d1,A2,d2,rfl,_⟩:=ab;clear ad d;go_wp2;go_ret
  exact⟨by rw[HX.o];rfl,(ac.o.alloc _).below⟩
def EdO (qs:List QS) (es:List (List (Int×Int))):Prop:=(∀j (h:j<qs.length) (h2:j<es.length),(qs[j]).2.1=es[j])/\∀j (h:j<qs.length),es.length<=j->(qs[j]).2=([],none,0)
def EdI (qs:List QS) (es:List (List (Int×Int))):Prop:=(∀j (h:j<qs.length) (h2:j<es.length),(qs[j]).2.1=es[j])/\∀j (h:j<qs.length),es.length<j->(qs[j]).2=([],none,0)
theorem EdO.in {qs:List QS} (h:EdO qs es):EdI qs es:=⟨h.1,fun j hj hl=>h.2 j hj (by omega)⟩
theorem EdI.snoc {qs:List QS} (h:EdI qs es) (hn:es.length<qs.length) (k:List Au.It) (A:Option Addr) (c:Nat):EdI (qs++[bF k A c]) es:=by
 refine⟨fun j hj h2=>?_,fun j hj hl=>?_⟩
 ·have b:j<qs.length:=by omega
  rw[Ci b];exact h.1 j b h2
 ·by_cases b:j<qs.length
  ·rw[Ci b];exact h.2 j b hl
  ·obtain rfl:j=qs.length:=by rw[AQ,BB]at hj;omega
   rw[CV (Af _)];simp[bF]
theorem EdI.set {qs:List QS} (h:EdI qs es) (y:QS):EdI (qs.set es.length y) es:=by
 refine⟨fun j hj h2=>?_,fun j hj hl=>?_⟩
 ·rw[Cu]at hj;rw[Ex (by omega)];exact h.1 j hj h2
 ·rw[Cu]at hj;rw[Ex (by omega)];exact h.2 j hj hl
theorem EdI.o {qs:List QS} (h:EdI qs es) (hn:es.length<qs.length):EdO qs (es++[(qs[es.length]).2.1]):=by
 refine⟨fun j hj h2=>?_,fun j hj hl=>?_⟩
 ·by_cases aa:j<es.length
  ·rw[Ci aa];exact h.1 j hj aa
  ·obtain rfl:j=es.length:=by rw[AQ,BB]at h2;omega
   rw[CV (Af _)];simp
 ·rw[AQ,BB]at hl;exact h.2 j hj (by omega)
theorem EdO.zip {qs:List QS} (h:EdO qs es) (hn:es.length=qs.length):qs.map zjI=(aV qs).zip es:=by
 refine Cr (by simp[aV,hn]) fun j h1 h2=>?_;have hj:j<qs.length:=by simpa using h1
 rw[Cs,List.getElem_zip];unfold aV;rw[Cs,<-h.1 j hj (by omega)];rfl
theorem zjn {cl:List Au.It} {p:List (List Au.It)×List (Int×Int)} {qs:List QS} (hp:aV qs=p.1) (aa:Au.mv G cl s≠[]):Au.edge G cl p s=if Au.fnd (aV qs) (Au.mv G cl s)<0 then(p.1++[Au.mv G cl s],p.2++[(s,(qs.length:Int))]) else(p.1,p.2++[(s,Au.fnd (aV qs) (Au.mv G cl s))]):=by
 unfold Au.edge;rw[AG aa,hp];have e:p.1.length=qs.length:=by rw[<-hp];unfold aV;rw[Bd]
 by_cases h:Au.fnd p.1 (Au.mv G cl s)<0
 ·rw[AG (by omega),Az h,e]
 ·rw[Az (by omega),AG h]
theorem zf5 {k:List Au.It} {nm c:Nat} (h:k.length=nm):∀(j:Nat) (u:Value),(stC (bF k A c))[j]?=some u->(#[.slice A nm c,.slice none 0 0]:Array Value)[j]?=some u:=fun j u hu=>by
 subst h
 match j,hu with
 | 0,hu=>exact hu
 | 1,hu=>exact hu
 | j+2,hu=>simp[stC]at hu
theorem zdN (v:Value) (G:Gm.Gr) (B:Nat) (w:World) (hg:aR w B v G) (hf:Gm.Fit G) (hB:B<=w.heap.size) :
  Calls Tryz.prog 19 #[v] w (zgy G w):=by
 have bp:=aA (fun y (h:Below w.heap.size w y)=>zhf v G B y (hg.below h hB) hf (Am hB h.size));have HG:=aA hg;have HF:=aA hf;have a2:=aA hB;obtain⟨AT,cT,AN,cN,AR,cR,rfl,⟨eg,eh⟩,⟨ei,ej⟩,_⟩:=hg;have C:=aA (aY.start 26 w #[.slice AT G.ts.length cT,.slice AN G.ns.length cN,.slice AR G.rs.length cR,.int .i64 G.st]);have g0:=C.o.c 0 _ rfl;have g1:=C.o.c 1 _ rfl;have g2:=C.o.c 2 _ rfl;have g3:=C.o.c 3 _ rfl;clear hf hB;cases hr:Gm.isB G
 ·have HQ:=aA (Au.bld_no hr);rw[hr]at bp;clear hr
  go_enter Tryz.func19,Tryz.ntmps19
  go_wp2_with fail
  refine(bp.o _ C.o.below).mono ?_;rintro _ w2 ⟨rfl,hb⟩;have HB:=aA (C.o.on hb);clear hb g0 g1 g2 g3;go_wp2
  go_ret2
  exact zgy.nil HQ.o HB.o.below
 ·have HR:=aA hr;have O:=aA (Gm.right_ok.1 (Gm.isB_right hr));rw[hr]at bp;have U:=(Gm.terms_iff G.ts).1 O.o.t;have a3:=(Gm.nons_iff G).1 O.o.n;have ek:(G.ts.length:Int)<=24:=by omega
  have el:(G.ns.length:Int)<=16:=by omega
  have dy:Hid (G.ts.length<=24/\G.ns.length<=16):=aA (by omega);clear hr U a3
  go_enter Tryz.func19,Tryz.ntmps19
  go_wp2_with fail
  refine(bp.o _ C.o.below).mono ?_;rintro _ w2 ⟨rfl,hb⟩;have HB:=aA (C.o.on hb);clear hb g0 g1 g2 g3;obtain⟨w3,a4⟩:∃y,y=w2.alloc (.cells #[.int .i64 (-1),.int .i64 0] 60):=⟨_,rfl⟩
  have bZ:w3.heap.size=w2.heap.size+1:=by rw[a4];simp
  have b3:Below w2.heap.size w2 w3:=by rw[a4];exact(AB _ _).alloc (Af _) _
  have c3:w3.heap[w2.heap.size]?=some (.cells #[.int .i64 (-1),.int .i64 0] 60 (0,0)):=by rw[a4];exact AE w2 _
  obtain⟨w4,a5⟩:∃y,y=w3.alloc (.cells #[.slice (some ⟨w2.heap.size,0,none⟩) 1 1,.slice none 0 0] 56):=⟨_,rfl⟩
  have dz:w4.heap.size=w2.heap.size+2:=by rw[a5];simp[bZ]
  have b4:Below w3.heap.size w3 w4:=by rw[a5];exact(AB _ _).alloc (Af _) _
  have c4:w4.heap[w2.heap.size+1]?=some (.cells #[.slice (some ⟨w2.heap.size,0,none⟩) 1 1,.slice none 0 0] 56 (0,0)):=by rw[a5,<-bZ];exact AE w3 _
  have dA:=HB.o.size;have dB:=aA ((HB.o.on b3).on (b4))
  have a6:Hid (zaZ w4 (w.heap.size+1) w4.heap.size w4.heap.size (.slice (some ⟨w2.heap.size+1,0,none⟩) 1 1) [bF [(-1,0)] (some ⟨w2.heap.size,0,none⟩) 1]):=aA ⟨⟨by simp[stC],.inr ⟨w2.heap.size+1,1,_,rfl,by omega,c4,Af _,by unfold maxLen;omega,by simp,by simp[stC,bF,qpC]⟩⟩,fun q hq=>by
   rw[AJ.1 hq];refine⟨⟨Af _,by simp[bF],fun _=>⟨w2.heap.size,_,rfl,by omega,by omega,aC b4 c3,fun i hi j u hu=>?_⟩⟩,⟨AU _,AU _,bJ.nil _ _ _ _ _⟩⟩
   have:i=0:=by simp[bF]at hi;omega
   subst this
   match j,hu with
   | 0,hu=>exact hu
   | 1,hu=>exact hu
   | j+2,hu=>simp[bF,prF]at hu⟩
  clear b3 c3 b4 c4 dA;go_upto_region 4 with fail
  rw[<-a4,<-a5];clear a4 a5 dz bZ;have dC:Hid (Au.Inv G [[(-1,0)]] []):=aA (Au.Inv.start G);have b0:Hid (Au.run G (302-([]:List (List (Int×Int))).length) [[(-1,0)]] []=Au.bld G):=aA rfl;have b1:Hid (aV [bF [((-1:Int),(0:Int))] (some ⟨w2.heap.size,0,none⟩) 1]=[[(-1,0)]]):=aA rfl
  have dD:Hid (EdO [bF [((-1:Int),(0:Int))] (some ⟨w2.heap.size,0,none⟩) 1] []):=aA ⟨fun j _ h=>absurd h (CQ _),fun j hj _=>by
   have:j=0:=by simp at hj;omega
   subst this;rfl⟩
  generalize [bF [((-1:Int),(0:Int))] (some ⟨w2.heap.size,0,none⟩) 1]=qs0 at *;obtain⟨bs,cQ⟩:∃bs,bs=w2.heap.size+1:=⟨_,rfl⟩
  rw[<-cQ]at a6;rw[<-cQ];go_wp2;go_loopw [4,5] (fun vo vi wr=>∃(ks:List (List Au.It)) (es:List (List (Int×Int))) (qs:List QS),vi=.int .i64 (es.length:Nat)/\ks.length<=300/\es.length<=ks.length/\Hid (Au.Inv G ks es)/\Hid (Au.run G (302-es.length) ks es=Au.bld G)/\Hid (aV qs=ks)/\Hid (EdO qs es)/\Hid (zaZ wr (w.heap.size+1) wr.heap.size wr.heap.size vo qs)/\Hid (aY 26 w #[.slice AT G.ts.length cT,.slice AN G.ns.length cN,.slice AR G.rs.length cR,.int .i64 G.st] wr)) (fun _ vi _=>301-(intOf vi).toNat)
  case atStart=>exact⟨[[(-1,0)]],[],qs0,rfl,by simp,by simp,dC,b0,b1,dD,a6,dB⟩
  case round =>
   obtain⟨ks,es,qs,rfl,bq,cU,HI,b2,br,HE,V,HW⟩:=hrel;have b5:qs.length=ks.length:=by rw[<-br.o];unfold aV;rw[Bd]
   obtain⟨Ao,co,rfl,_,_,_⟩:=aJ.form V.o.1 zad;by_cases ai:es.length<ks.length
   ·have ay:es.length<qs.length:=by omega
    have dE:=aA b5;clear b5;have dF:((es.length:Nat):Int)<((qs.length:Nat):Int):=by omega
    obtain⟨gS,cS,he,bu,bv,em⟩:=aJ.addr V.o.1 (by omega);injection he with dG dH dI;subst dG;clear dH dI;have k0:wr.cell? ⟨gS,es.length*2,none⟩=some (.slice (qs[es.length]).1.2.1 (qs[es.length]).1.1.length (qs[es.length]).1.2.2):=aJ.cellAt V.o.1 zad es.length 0 ay _ rfl;have cV:=aJ.lt V.o.1
    have b6:ks.getD es.length []=(qs[es.length]).1.1:=by
     rw[<-br.o];unfold aV;rw[Ap,BH,AF ay];rfl
    have b7:(qs[es.length]).1.1∈ks:=by
     rw[<-b6,Ap,AF ai];exact AC ai
    have cW:=HI.o.it _ b7;have hQ:=V.o.2 _ (AC ay);have dJ:=aA (fun(y:World) (h:Below wr.heap.size wr y)=>zcO _ G B (qs[es.length]).1.1 (qs[es.length]).1.2.1 (qs[es.length]).1.2.2 wr.heap.size y (HG.o.below (HW.o.on h).below a2.o) HF.o O.o (Am a2.o (HW.o.on h).below.size) (hQ.1.2.2.rd.below h (Af _)) h.size cW.2 (Am (Au.kernel_le O.o O.o.r40 HI.o b7) (by omega)));have dK:Hid (Au.one G ks es.length=Au.edges G (Au.clo G (qs[es.length]).1.1) (ks,[]) (Au.syms G)):=aA (by unfold Au.one;rw[b6]);have cY:=aA (Au.run_step (G:=G) ai bq);have cZ:=aA (HI.o.step ai);have dL:Hid (∀x∈Au.clo G (qs[es.length]).1.1,Au.isI G x=true):=aA (fun x hx=>Au.clo_is hx);have dM:=aA (Au.clo_srt G (qs[es.length]).1.1);have c5:Hid ((Au.clo G (qs[es.length]).1.1).length<=287):=aA (Au.clo_le2 O.o O.o.r40 _);have dN:Hid ((qs[es.length]).2=([],none,0)):=aA (HE.o.2 _ ay (Af _));generalize (qs[es.length]).1.1=k at *;generalize (qs[es.length]).1.2.1=Ak at *;generalize (qs[es.length]).1.2.2=ck at *;clear b6 b7 cW hQ bu bv;have z0:∀z:Calm.On wr.heap.size wr,z.1.cell? ⟨w.heap.size,0,none⟩=some (.slice AT G.ts.length cT):=fun z=>(HW.o.on z.2).c 0 _ rfl;have z1:∀z:Calm.On wr.heap.size wr,z.1.cell? ⟨w.heap.size,1,none⟩=some (.slice AN G.ns.length cN):=fun z=>(HW.o.on z.2).c 1 _ rfl;have z2:∀z:Calm.On wr.heap.size wr,z.1.cell? ⟨w.heap.size,2,none⟩=some (.slice AR G.rs.length cR):=fun z=>(HW.o.on z.2).c 2 _ rfl;have z3:∀z:Calm.On wr.heap.size wr,z.1.cell? ⟨w.heap.size,3,none⟩=some (.int .i64 G.st):=fun z=>(HW.o.on z.2).c 3 _ rfl;have q0:∀z:Calm.On wr.heap.size wr,z.1.cell? ⟨gS,es.length*2,none⟩=some (.slice Ak k.length ck):=fun z=>(z.2.cell (p:=⟨gS,es.length*2,none⟩) cV).trans k0;have C:=zam wr;clear k0 cV;go_wp2_with fail
    refine CalmN.region_tree (fun x=>∃z:Calm.On wr.heap.size wr,x=z.1) (.one [0,1,2,3,4,5] 6 (.fin [7])) (by kernel_rfl) (by kernel_rfl) (fun _ _ d _ _ h=>by cases d <;> exact h) C.o ?_;simp only[CalmN.wpT,CalmN.wpSt,CalmN.pickOps,Aw,Ah,Aj];repeat (go_big_quiet_step (fail))
    refine Aq ?_;intro KK c6;rw[Az (by rfl)];go_wp2_with fail
    refine(dJ.o wr.drew (aB (AB _ _) 1)).mono ?_;rintro _ w6 ⟨v6,rfl,b8,X⟩;have X:Below wr.heap.size wr w6:=(aB (AB _ wr) 1).trans X;have b9:=zbk X;obtain⟨Ac,cc,rfl,_,_,_⟩:=aJ.form b8 aG;have dO:=aA (aJ.rowP b8);have c7:=aA (HW.o.on X);have aj:=V.o.below X;have dP:=aA (OwnSa.of (n:=es.length) (w:=w6) (base:=w.heap.size+1) (NE:=w6.heap.size) ⟨aj.1,fun q hq=>(aj.2 q hq).more X.size X.size⟩ ay dN.o);have dQ:=aA (HE.o.in);have da:Hid (w.heap.size+1<=w6.heap.size):=aA c7.o.size;generalize Au.clo G k=cl at *;clear b8 X aj z0 z1 z2 z3 q0;have dR:(cl.length:Int)<=287:=by have:=c5.o;omega
    obtain⟨nn,a3⟩:∃nn,nn=G.ts.length+G.ns.length:=⟨_,rfl⟩
    have db:=aA a3;have D:Hid (nn<=40):=aA (by have:=dy.o;omega);have eo:IntKind.i64.wrap ((G.ts.length:Int)+(G.ns.length:Int))=((nn:Nat):Int):=by rw[B5 _ (by omega),a3];omega
    have dc:((nn:Nat):Int)<=40:=by have:=D.o;omega
    clear a3;have ep:=aA ai;have er:=aA bq;go_wp2_with fail
    refine c6 _ _ b9.o _ (fun _ h=>h) b9.o ?_;clear c6 b9 C;repeat (go_big_quiet_step (fail))
    refine Aq ?_;go_wp2;go_loopw [4,7] (fun vo vi wy=>∃(i:Nat) (qs2:List QS),i<=nn/\vi=.int .i64 i/\es.length<qs2.length/\qs2.length<=300+i/\Hid (aV qs2=(Au.edges G cl (ks,[]) ((Au.syms G).take i)).1)/\Hid (EdI qs2 es)/\Hid (OwnSa wy (w.heap.size+1) w6.heap.size es.length vo qs2 (Au.edges G cl (ks,[]) ((Au.syms G).take i)).2)/\Hid ((Au.edges G cl (ks,[]) ((Au.syms G).take i)).2.length<=i)/\Hid (bJ 60 wy 0 wy.heap.size Ac cl)/\Hid (aY 26 w #[.slice AT G.ts.length cT,.slice AN G.ns.length cN,.slice AR G.rs.length cR,.int .i64 G.st] wy)/\Hid (w6.heap.size<=wy.heap.size)) (fun _ vi _=>nn-(intOf vi).toNat)
    case atStart=>exact⟨0,qs,AU _,rfl,ay,by have:=dE.o;omega,br,dQ,dP,aA (by simp[Au.edges]),aA (dO.o.less (AU _)),c7,aA (Af _)⟩
    case round =>
     obtain⟨i,qs2,hi,rfl,ak,bw,l,ab,E,F,a9,r,de⟩:=hrel;rename World=>wy;obtain⟨A2,c2,rfl,_,_,_⟩:=aJ.form E.o.o zad;have x0:=r.o.c 0 _ rfl;have x1:=r.o.c 1 _ rfl;have x2:=r.o.c 2 _ rfl;have x3:=r.o.c 3 _ rfl;by_cases ca:i<nn
     ·have df:=aA (fun(y:World) (h:Below wy.heap.size wy y)=>zem _ G B i y (HG.o.below (r.o.on h).below a2.o) (by have:=D.o;omega) (by omega));obtain⟨s,hs⟩:∃s,s=(if(i:Int)<G.ts.length then(i:Int) else -1-((i:Int)-G.ts.length)):=⟨_,rfl⟩
      have cb:=Au.syms_at (G:=G) (i:=i) (by have:=db.o;omega);rw[<-hs]at df cb
      have H:Hid (Au.edges G cl (ks,[]) ((Au.syms G).take (i+1))=Au.edge G cl (Au.edges G cl (ks,[]) ((Au.syms G).take i)) s):=aA (by
       obtain⟨hl,e⟩:=AZ.1 cb;rw[AI hl,e,Au.edges_snoc])
      have dS:=aA (fun(y:World) (h:Below wy.heap.size wy y)=>zfZ _ G B cl Ac cc wy.heap.size s y (HG.o.below (r.o.on h).below a2.o) HF.o O.o (Am a2.o (r.o.on h).below.size) (a9.o.rd.below h (Af _)) h.size dL.o dM.o (by have:=c5.o;omega));have et:=aA (Au.mv_le G cl s);have dg:Hid ((Au.edges G cl (ks,[]) ((Au.syms G).take i)).2.length<=1000):=aA (by have:=F.o;have:=D.o;omega);have dT:((i:Nat):Int)<((nn:Nat):Int):=by omega
      clear hs cb;generalize Au.edges G cl (ks,[]) ((Au.syms G).take i)=p at *;go_wp2_with fail
      refine(df.o wy (AB _ _)).mono ?_;rintro _ w7 ⟨rfl,az⟩;have bx:=aA az;have y0:=(r.o.on az).c 0 _ rfl;have y1:=(r.o.on az).c 1 _ rfl;have y2:=(r.o.on az).c 2 _ rfl;have y3:=(r.o.on az).c 3 _ rfl;clear az x0 x1 x2 x3;go_wp2_with fail
      refine(dS.o w7 bx.o).mono ?_;rintro _ w8 ⟨v8,rfl,bz,cd⟩;have ba:Hid (Below wy.heap.size wy w8):=aA (bx.o.trans (cd.mono bx.o.size));obtain⟨A8,c8,rfl,ce,bD,ac⟩:=aJ.form bz aG;have cf:=aA (r.o.on ba.o);have bb:=aA (E.o.below ba.o);have al:Hid (bJ 60 w8 0 w8.heap.size Ac cl):=aA ((a9.o.keep fun g cur hg hc=>(ba.o.block g hg).trans hc).more ba.o.size);have bM:Hid (w6.heap.size<=w8.heap.size):=aA (Am de.o ba.o.size);clear y0 y1 y2 y3;by_cases a0:Au.mv G cl s=[]
      ·have HE:Hid (Au.edge G cl p s=p):=aA (by unfold Au.edge;rw[Az a0]);have dU:(((Au.mv G cl s).length:Int)==0)=true:=by rw[a0];rfl
       clear bz cd ce bD ac a0;generalize (Au.mv G cl s).length=nm at *;go_wp2;go_roundw
       case rel=>exact⟨i+1,qs2,ca,by go_num,ak,by omega,aA (by rw[H.o,HE.o];exact l.o),ab,aA (by rw[H.o,HE.o];exact bb.o),aA (by rw[H.o,HE.o];have:=F.o;omega),al,cf,bM⟩
       case measure=>simp[intOf];omega
      ·have dV:0<(Au.mv G cl s).length:=List.length_pos_iff.2 a0;have dU:(((Au.mv G cl s).length:Int)==0)=false:=by rw[AY];omega
       have dh:=aA (zjn (qs:=qs2) l.o a0);have bc:(qs2.map zjI).map (·.1)=aV qs2:=by unfold aV zjI;rw[DU];rfl
       have aa:(qs2.map zjI).length=qs2.length:=Bd _;have dW:=aA ac
       have cg:=aA (zhg (qs2.map zjI) (Au.mv G cl s) A2 A8 c2 c8 w8.heap.size w8 (bb.o.rd bM.o) ac (Af _) (by rw[aa];omega) (fun x hx=>by
        obtain⟨q,hq,rfl⟩:=Bm.1 hx;obtain⟨j,hj,rfl⟩:=Bz hq
        have:=(bb.o.k j hj)
        exact Am this.1 this.2.1))
       rw[aa,bc]at cg;have dX:Hid (ziv 60 w8 (w.heap.size+1) w8.heap.size (Au.mv G cl s,A8,c8)):=aA ⟨ce,by unfold maxLen at bD;exact Am bD (by omega),(aJ.rowP bz).less (Am r.o.size bx.o.size)⟩;clear bz cd ce bD ac a0 dV bc aa;by_cases di:Au.fnd (aV qs2) (Au.mv G cl s)<0
       focus
        have HE:=aA dh.o;rw[Az di]at HE;generalize Au.fnd (aV qs2) (Au.mv G cl s)=fz at *;generalize dj:(Au.mv G cl s).length=nm at *;have dY:=aA dj;clear dj;go_wp2_with fail
        refine cg.o.mono ?_;rintro _ wf ⟨rfl,m⟩;have ch:=aA (bb.o.below m);have dZ:=aA (cf.o.on m);have d0:=aA (dX.o.keep (N':=wf.heap.size) (fun g cur _ hc=>(m.block g (Ad.1 hc).1).trans hc) m.size);have ci:Hid (bJ 60 wf 0 wf.heap.size Ac cl):=aA ((al.o.keep fun g cur hg hc=>(m.block g hg).trans hc).more m.size);have d1:Hid (w6.heap.size<=wf.heap.size):=aA (Am bM.o m.size);clear m;obtain⟨gO,cO,d2,_,_,d3⟩:=aJ.addr ch.o.o (by omega);injection d2 with cj cm cn;subst cj;clear cm cn;have cp:=aA (ch.o.o.alloc (.cells #[.slice A8 nm c8,.slice none 0 0] 56));have cq:=aA (AE wf (.cells #[.slice A8 nm c8,.slice none 0 0] 56));have cr:=aA (ch.o.below ((AB wf.heap.size wf).alloc (Af _) (.cells #[.slice A8 nm c8,.slice none 0 0] 56)));have am:=aA (dZ.o.alloc (.cells #[.slice A8 nm c8,.slice none 0 0] 56));have cs:=aA (d0.o.keep (w':=wf.alloc (.cells #[.slice A8 nm c8,.slice none 0 0] 56)) (N':=(wf.alloc (.cells #[.slice A8 nm c8,.slice none 0 0] 56)).heap.size) (fun g cur d4 hc=>(Bu wf _ g d4).trans hc) (by simp));have cu:Hid (bJ 60 (wf.alloc (.cells #[.slice A8 nm c8,.slice none 0 0] 56)) 0 wf.heap.size Ac cl):=aA (ci.o.keep fun g cur hg hc=>(Bu wf _ g hg).trans hc);have cv:Hid (qs2.length<=1000):=aA (by have:=D.o;omega);have bd:Hid (es.length<qs2.length):=aA ak;have cw:Hid (qs2.length<=300+i):=aA bw;go_upto_region 18 with(at_builtin;refine zbK (f:=stC) rfl (.tmp 59) (.tmp 62) _ rfl Tryz.underlying49 _ 48 zjS (by decide) (by decide) (by decide) zad zgS (w.heap.size+1) _ qs2 rfl cp.o _ _ (bF (Au.mv G cl s) A8 c8) rfl (fun j u hu=>(AD _ wf.heap.size j _ _ _ cq.o).trans (zf5 dY.o j u hu)) (by have:=cv.o;omega) am.o.size ?_;intro vX wX ao A;obtain⟨AX,cX0,dk,_,_,_⟩:=aJ.form ao zad;generalize dl:(qs2++[bF (Au.mv G cl s) A8 c8]).length=lX at dk;subst dk;have bf:=aA dl;clear dl)
        have I:=aA (cr.o.snoc ao A cs.o);have cx:Hid (aY 26 w #[.slice AT G.ts.length cT,.slice AN G.ns.length cN,.slice AR G.rs.length cR,.int .i64 G.st] wX):=aA (DM am.o A am.o.size (fun k e=>(Bn cp.o k e).1));have cy:Hid (bJ 60 wX 0 wX.heap.size Ac cl):=aA ((cu.o.keep fun g cur hg hc=>aI cp.o A hc fun cur=>aH (by decide)).more (by have:=A.size;simp at this;omega));have cz:Hid (w6.heap.size<=wX.heap.size):=aA (by have:=A.size;simp at this;have:=d1.o;omega);have cA:es.length<(qs2++[bF (Au.mv G cl s) A8 c8]).length:=by have:=bd.o;rw[AQ];omega
        have ap:=aA (ab.o.snoc bd.o (Au.mv G cl s) A8 c8);have cB:Hid (aV (qs2++[bF (Au.mv G cl s) A8 c8])=p.1++[Au.mv G cl s]):=aA (by rw[<-l.o];unfold aV;rw[Bf];rfl);have cC:Hid ((qs2++[bF (Au.mv G cl s) A8 c8]).length<=300+(i+1)):=aA (by rw[AQ,BB];have:=cw.o;omega);obtain rfl:=bf.o;clear ao A bf ak bw;generalize qs2++[bF (Au.mv G cl s) A8 c8]=qsX at *;have bw:=cC.o;have U:Hid (es.length<qsX.length):=aA cA
       rotate_left
       focus
        have HE:=aA dh.o;rw[AG di]at HE;generalize Au.fnd (aV qs2) (Au.mv G cl s)=fz at *;generalize (Au.mv G cl s).length=nm at *;go_wp2_with fail
        refine cg.o.mono ?_;rintro _ wf ⟨rfl,m⟩;have I:=aA (bb.o.below m);have cx:=aA (cf.o.on m);have cy:Hid (bJ 60 wf 0 wf.heap.size Ac cl):=aA ((al.o.keep fun g cur hg hc=>(m.block g hg).trans hc).more m.size);have cz:Hid (w6.heap.size<=wf.heap.size):=aA (Am bM.o m.size);have cA:es.length<qs2.length:=ak;have ap:=ab;have cB:Hid (aV qs2=p.1):=l;clear m;have U:Hid (es.length<qs2.length):=aA cA
       rotate_left
       all_goals
        obtain⟨Z,ad,aq⟩:=I.o.a;obtain⟨Aee,cee,ah,_,_,_⟩:=aJ.form aq aG;obtain⟨gX,cX,d5,_,_,cD⟩:=aJ.addr I.o.o (by have:=U.o;omega);injection d5 with cE cF cG;subst cE;clear cF cG
       focus
        have e0:wX.cell? ⟨gX,es.length*2+1,none⟩=some (.slice Aee p.2.length cee):=by
         rw[<-ah];exact aJ.cellAt I.o.o zad es.length 1 Z _ rfl
        obtain⟨curX,b⟩:∃cur,wX.heap[gX]?=some (.cells cur 56 (0,0)):=by
         rcases I.o.o.2 with⟨e,_⟩|⟨g2,cap,cur,e,_,cH,_⟩
         ·cases e
         ·injection e with e _ _;injection e with e;injection e with e;subst e;exact⟨cur,cH⟩
        have cI:=aA ((AD wX gX (es.length*2+1) _ _ _ b).symm.trans e0);rw[ah]at aq;have ar:=aA (aq.alloc (.cells #[.int .i64 s,.int .i64 (qs2.length:Int)] 91));have bT:=aA ((Bu wX (.cells #[.int .i64 s,.int .i64 (qs2.length:Int)] 91) gX (Ad.1 b).1).trans b);have au:=aA (AE wX (.cells #[.int .i64 s,.int .i64 (qs2.length:Int)] 91));have bg:=aA (I.o.below ((AB wX.heap.size wX).alloc (Af _) (.cells #[.int .i64 s,.int .i64 (qs2.length:Int)] 91)));have av:=aA (cx.o.alloc (.cells #[.int .i64 s,.int .i64 (qs2.length:Int)] 91));have ae:Hid (w6.heap.size<=(wX.alloc (.cells #[.int .i64 s,.int .i64 (qs2.length:Int)] 91)).heap.size):=aA (by have:=cz.o;simp;omega);have bh:Hid (bJ 60 (wX.alloc (.cells #[.int .i64 s,.int .i64 (qs2.length:Int)] 91)) 0 wX.heap.size Ac cl):=aA (cy.o.keep fun g cur hg hc=>(Bu wX _ g hg).trans hc);have dm:=aA ah;have d6:=aA ad;have dn:=aA Z;have d7:((es.length:Nat):Int)<((qsX.length:Nat):Int):=by have:=U.o;omega
        clear ad aq b ah;go_wp2_with (at_builtin;refine zbK (f:=prF) rfl (.tmp 70) (.tmp 74) _ rfl Tryz.underlying54 _ 16 zhS (by decide) (by decide) (by decide) aG zaG w6.heap.size _ p.2 rfl ar.o _ _ (s,(qs2.length:Int)) rfl (zci (s,(qs2.length:Int)) _ _ au.o) (by have:=dg.o;omega) ae.o ?_;intro v9 w9 a1 J;obtain⟨A9,c9,bi,_,_,_⟩:=aJ.form a1 aG;generalize bj:(p.2++[(s,(qs2.length:Int))]).length=ln at bi;subst bi;have bk:=aA bj;clear bj;have M:=aI ar.o J bT.o (fun cur=>aH (by decide));have e9:=(AD w9 gX (es.length*2+1) _ _ _ M).trans cI.o;have f9:=AH w9 gX (es.length*2+1) _ _ M;have l9:=(Ad.1 M).1)
       rotate_left
       focus
        have e0:wf.cell? ⟨gX,es.length*2+1,none⟩=some (.slice Aee p.2.length cee):=by
         rw[<-ah];exact aJ.cellAt I.o.o zad es.length 1 Z _ rfl
        obtain⟨curX,b⟩:∃cur,wf.heap[gX]?=some (.cells cur 56 (0,0)):=by
         rcases I.o.o.2 with⟨e,_⟩|⟨g2,cap,cur,e,_,cH,_⟩
         ·cases e
         ·injection e with e _ _;injection e with e;injection e with e;subst e;exact⟨cur,cH⟩
        have cI:=aA ((AD wf gX (es.length*2+1) _ _ _ b).symm.trans e0);rw[ah]at aq;have ar:=aA (aq.alloc (.cells #[.int .i64 s,.int .i64 fz] 91));have bT:=aA ((Bu wf (.cells #[.int .i64 s,.int .i64 fz] 91) gX (Ad.1 b).1).trans b);have au:=aA (AE wf (.cells #[.int .i64 s,.int .i64 fz] 91));have bg:=aA (I.o.below ((AB wf.heap.size wf).alloc (Af _) (.cells #[.int .i64 s,.int .i64 fz] 91)));have av:=aA (cx.o.alloc (.cells #[.int .i64 s,.int .i64 fz] 91));have ae:Hid (w6.heap.size<=(wf.alloc (.cells #[.int .i64 s,.int .i64 fz] 91)).heap.size):=aA (by have:=cz.o;simp;omega);have bh:Hid (bJ 60 (wf.alloc (.cells #[.int .i64 s,.int .i64 fz] 91)) 0 wf.heap.size Ac cl):=aA (cy.o.keep fun g cur hg hc=>(Bu wf _ g hg).trans hc);have dm:=aA ah;have d6:=aA ad;have dn:=aA Z;have d7:((es.length:Nat):Int)<((qs2.length:Nat):Int):=by have:=U.o;omega
        clear ad aq b ah;go_wp2_with (at_builtin;refine zbK (f:=prF) rfl (.tmp 70) (.tmp 74) _ rfl Tryz.underlying54 _ 16 zhS (by decide) (by decide) (by decide) aG zaG w6.heap.size _ p.2 rfl ar.o _ _ (s,fz) rfl (zci (s,fz) _ _ au.o) (by have:=dg.o;omega) ae.o ?_;intro v9 w9 a1 J;obtain⟨A9,c9,bi,_,_,_⟩:=aJ.form a1 aG;generalize bj:(p.2++[(s,fz)]).length=ln at bi;subst bi;have bk:=aA bj;clear bj;have M:=aI ar.o J bT.o (fun cur=>aH (by decide));have e9:=(AD w9 gX (es.length*2+1) _ _ _ M).trans cI.o;have f9:=AH w9 gX (es.length*2+1) _ _ M;have l9:=(Ad.1 M).1)
       rotate_left
       all_goals
        have bl:=aA (bg.o.edge dn.o a1 (by rw[bk.o]) (by rw[dm.o];exact J));have bX:=J.size;have af:(w9.setCell ⟨gX,es.length*2+1,none⟩ (.slice A9 ln c9)).heap.size=w9.heap.size:=by simp
        have dp:Hid (aY 26 w #[.slice AT G.ts.length cT,.slice AN G.ns.length cN,.slice AR G.rs.length cR,.int .i64 G.st] (w9.setCell ⟨gX,es.length*2+1,none⟩ (.slice A9 ln c9))):=aA (Eh (DM av.o J av.o.size (fun k e=>Am da.o (Bn ar.o k e).1)) cD _)
        have dq:Hid (bJ 60 (w9.setCell ⟨gX,es.length*2+1,none⟩ (.slice A9 ln c9)) 0 (w9.setCell ⟨gX,es.length*2+1,none⟩ (.slice A9 ln c9)).heap.size Ac cl):=aA ((bh.o.keep fun g cur hg hc=>(AP w9 ⟨gX,es.length*2+1,none⟩ _ g (fun e=>by
         have e:g=gX:=e;rw[e,bT.o]at hc;injection hc with hc;exact aH (by decide) hc)).trans (aI ar.o J hc fun cur=>aH (by decide))).more (by rw[af];simp at bX;omega))
        have dr:Hid (w6.heap.size<=(w9.setCell ⟨gX,es.length*2+1,none⟩ (.slice A9 ln c9)).heap.size):=aA (by rw[af];exact Am ae.o bX)
       focus
        have N:Hid ((qsX.set es.length ((qsX[es.length]).1,(p.2++[(s,(qs2.length:Int))],A9,c9))).length=qsX.length):=aA Cu
        have cJ:Hid (aV (qsX.set es.length ((qsX[es.length]).1,(p.2++[(s,(qs2.length:Int))],A9,c9)))=aV qsX):=aA (by
         unfold aV;rw[Cx];refine CS fun j=>?_;rw[CT];by_cases bm:es.length=j
         ·subst bm;rw[Az rfl,Az (by simpa using Z),BH,AF Z];rfl
         ·rw[AG bm])
        have aw:Hid (EdI (qsX.set es.length ((qsX[es.length]).1,(p.2++[(s,(qs2.length:Int))],A9,c9))) es):=aA (ap.o.set _);have ax:Hid ((p.2++[(s,(qs2.length:Int))]).length<=i+1):=aA (by have:=F.o;rw[AQ,BB];omega);rw[<-N.o];generalize qsX.set es.length ((qsX[es.length]).1,(p.2++[(s,(qs2.length:Int))],A9,c9))=qs9 at *;clear a1 J M e9 f9 l9 e0 bX af;go_roundw
        case rel=>exact⟨i+1,qs9,ca,by go_num,by rw[N.o];exact U.o,by rw[N.o];omega,aA (by rw[H.o,HE.o,cJ.o];exact cB.o),aw,aA (by rw[H.o,HE.o,N.o];exact bl.o),aA (by rw[H.o,HE.o];exact ax.o),dq,dp,dr⟩
        case measure=>simp[intOf];omega
       focus
        have N:Hid ((qs2.set es.length ((qs2[es.length]).1,(p.2++[(s,fz)],A9,c9))).length=qs2.length):=aA Cu
        have cJ:Hid (aV (qs2.set es.length ((qs2[es.length]).1,(p.2++[(s,fz)],A9,c9)))=aV qs2):=aA (by
         unfold aV;rw[Cx];refine CS fun j=>?_;rw[CT];by_cases bm:es.length=j
         ·subst bm;rw[Az rfl,Az (by simpa using Z),BH,AF Z];rfl
         ·rw[AG bm])
        have aw:Hid (EdI (qs2.set es.length ((qs2[es.length]).1,(p.2++[(s,fz)],A9,c9))) es):=aA (ap.o.set _);have ax:Hid ((p.2++[(s,fz)]).length<=i+1):=aA (by have:=F.o;rw[AQ,BB];omega);rw[<-N.o];generalize qs2.set es.length ((qs2[es.length]).1,(p.2++[(s,fz)],A9,c9))=qs9 at *;clear a1 J M e9 f9 l9 e0 bX af;go_roundw
        case rel=>exact⟨i+1,qs9,ca,by go_num,by rw[N.o];exact U.o,by rw[N.o];omega,aA (by rw[H.o,HE.o,cJ.o];exact cB.o),aw,aA (by rw[H.o,HE.o,N.o];exact bl.o),aA (by rw[H.o,HE.o];exact ax.o),dq,dp,dr⟩
        case measure=>simp[intOf];omega
     ·obtain rfl:i=nn:=by omega
      have ds:(Au.syms G).take i=Au.syms G:=Cp (by rw[Au.syms_len];have:=db.o;omega);rw[ds,<-dK.o]at l E F;have HA:=aA (E.o.st de.o da.o);have dt:(qs2[es.length]'ak).2.1=(Au.one G ks es.length).2:=E.o.a.2.1;have d8:Hid (EdO qs2 (es++[(Au.one G ks es.length).2])):=aA (by rw[<-dt];exact ab.o.o ak);have du:Hid ((Au.one G ks es.length).1.length=qs2.length):=aA (by rw[<-l.o];unfold aV;rw[Bd]);have eu:¬((i:Nat):Int)<((i:Nat):Int):=by omega
      have ev:(qs2.length:Int)<=1000:=by have:=D.o;omega
      clear dt ds bw hi;by_cases ag:300<(Au.one G ks es.length).1.length
      ·have bo:=aA (Au.bld_many HR.o (by rw[<-b2.o,cY.o,Az ag]));have d9:(300:Int)<((qs2.length:Nat):Int):=by rw[<-du.o];omega
       clear ag ak ai cU;generalize qs2.length=nq at *;go_wp2
       go_ret2
       exact zgy.nil bo.o r.o.below
      ·have cK:Hid (Au.run G (302-(es++[(Au.one G ks es.length).2]).length) (Au.one G ks es.length).1 (es++[(Au.one G ks es.length).2])=Au.bld G):=aA (by rw[<-b2.o,cY.o,AG ag]);have d9:((qs2.length:Nat):Int)<=(300:Int):=by rw[<-du.o];omega
       have ea:(Au.one G ks es.length).1.length<=300:=by omega
       have eb:Hid ((es++[(Au.one G ks es.length).2]).length=es.length+1):=aA (by simp);have ec:Hid ((es++[(Au.one G ks es.length).2]).length<=(Au.one G ks es.length).1.length):=aA cZ.o.le;clear ag;go_wp2;go_roundw
       case rel =>
        exact⟨_,_,_,_,⟨(Au.one G ks es.length).1,es++[(Au.one G ks es.length).2],by rw[eb.o];go_num,ea,ec.o,cZ,cK,qs2,l,d8,HA⟩,rfl,rfl,rfl,rfl⟩
       case measure=>simp[intOf];omega
   ·have dv:es.length=ks.length:=by omega
    have bo:=aA (Au.bld_ok HR.o (by rw[<-b2.o];exact Au.run_end dv bq));have bY:=HE.o.zip (by omega);rw[br.o]at bY;have dw:=aA (zaZ.rd V.o (Af _) (Af _));rw[bY]at dw;obtain⟨A9,c9,ed,bu,bv,_⟩:=aJ.form V.o.1 zad;injection ed with cL cM cP;subst cP;have dx:Hid ((Au.bldS G).length=qs.length):=aA (by rw[bo.o.2,<-bY,Bd]);have ee:=aA bu;have ef:=aA (show co<=9223372036854775807 by unfold maxLen at bv;omega);have ew:¬((es.length:Nat):Int)<((qs.length:Nat):Int):=by omega
    clear bY bu bv ai dv cU bq b5 cL cM;generalize es.length=ne at *;generalize qs.length=nq at *;go_wp2
    go_ret2
    refine⟨Ao,co,?_,by rw[dx.o];exact ee.o,ef.o,by rw[bo.o.2];exact dw.o,HW.o.below⟩;rw[dx.o,bo.o.1];rfl
namespace Lk
open Au Gm
def cur (l:List It) (row:List Nat) (x:It) (s i:Nat):List Nat:=(zdr l row x s).take i++row.drop i
end Lk
structure KeepS (w w':World):Prop where
 size:w.heap.size<=w'.heap.size
 keep:∀(g:Nat) (cs:Array Value) (T:TypeId) (fr:Nat×Nat),w.heap[g]?=some (.cells cs T fr)->T≠44->T≠76->w'.heap[g]?=some (.cells cs T fr)
section
variable {w w' w2:World}
theorem KeepS.refl (w:World):KeepS w w:=⟨Af _,fun _ _ _ _ h _ _=>h⟩
theorem KeepS.trans (h:KeepS w w') (k:KeepS w' w2):KeepS w w2:=⟨Am h.size k.size,fun g cs T fr h1 h2 h3=>k.keep g cs T fr (h.keep g cs T fr h1 h2 h3) h2 h3⟩
theorem KeepS.below (h:Below w.heap.size w w'):KeepS w w':=⟨h.size,fun g _ _ _ h1 _ _=>(h.block g (Ad.1 h1).1).trans h1⟩
theorem KeepS.set {T:TypeId} (h:w.heap[g]?=some (.cells cs T fr)) (hT:T=44\/T=76) (u:Value):KeepS w (w.setCell ⟨g,i,none⟩ u):=⟨by simp,fun g' cs' T' fr' h1 h2 h3=>(AP w ⟨g,i,none⟩ u g' (fun e=>by
 have e:g'=g:=e;rw[e,h]at h1;injection h1 with h1;injection h1 with _ h1 _;subst h1;rcases hT with q|q
 ·exact h2 q
 ·exact h3 q)).trans h1⟩
end
section
variable {w w':World} {base gw:Nat} {g0 g1 g2 g3 av lv sv:Value} {b:Bool} {rl:List (RW Au.It)} {sl:List (RW Nat)}
end
end Go.Proofs.YtcmhaemaophplaaGreat
