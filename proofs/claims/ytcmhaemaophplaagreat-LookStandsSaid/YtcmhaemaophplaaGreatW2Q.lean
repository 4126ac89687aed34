/- Part of the proofs over this program: WalkStands16, RowKit. -/
import Derived.Test.YtcmhaemaophplaaGreatRows
import Derived.SizedLaws
import Derived.LaidMore
import Derived.Stop.Joined
import Derived.ShutString
import Derived.ChangeOld
import Derived.Test.YtcmhaemaophplaaGreatW2P
set_option linter.all false
set_option maxRecDepth 100000
set_option maxHeartbeats 40000000
variable {E:List (List (Int×Int))}
namespace Go.Proofs.YtcmhaemaophplaaGreat
open Go.RowKit
namespace Lk
open Au Gm
structure StR (G:Gr) (kr:List It) (r:List (Int×Int)):Prop where
 cl:closL G kr=clo G kr
 kl:kr.length<=287
 st:StdS G (clo G kr) r
theorem lk_str {G:Gr} {K:List (List It)} (hb:isB G=true) (hk:bld G=some (K,E)):(bldS G).length=(lkS G).length/\∀q (hq:q<(bldS G).length) (h2:q<(lkS G).length),StR G (bldS G)[q].1 (lkS G)[q]:=by
 have hs:=(bld_ok hb hk).2;obtain⟨hi,hl,h3⟩:=bld_inv hk;have hr:=isB_right hb;have ab:=right_ok.1 hr;obtain⟨h4,h5⟩:=zl4 hb hk;have hz:(bldS G).length=K.length:=by rw[hs,List.length_zip,hl,Nat.min_self]
 refine⟨by omega,fun q hq h2=>?_⟩;have aa:q<K.length:=by omega
 have e:(bldS G)[q]=(K[q],E[q]'(by omega)):=by rw[DQ hs,List.getElem_zip]
 rw[e];have ac:=(hi.it _ (AC aa)).2;refine⟨?_,kernel_le ab ab.r40 hi (AC aa),h5 q aa h2⟩;unfold closL;rw[Az hr,List.filter_eq_self.2 ac]
theorem lk_cases2 (G:Gr):(bldE G≠0/\lkS G=[]/\bldS G=[])\/(bldE G=0/\isB G=true/\∃K E,bld G=some (K,E)):=by
 cases hb:isB G with
 | false=>exact .inl ⟨by rw[(bld_no hb).1];decide,lk_no hb,(bld_no hb).2⟩
 | true =>
  cases hk:bld G with
  | none=>exact .inl ⟨by rw[(bld_many hb hk).1];decide,lk_many hb hk,(bld_many hb hk).2⟩
  | some p =>
   obtain⟨K,E⟩:=p;exact .inr ⟨(bld_ok hb hk).1,rfl,K,E,rfl⟩
theorem great_ns {G:Gr} (h:great G=false):G.ns.length<=40:=by
 unfold great at h;simp only[Bool.or_eq_false_iff,Dm]at h;omega
end Lk
theorem Lk.sets16 (A A':Option Addr) (ca cb n m:Nat) (s:List Nat) (w:World) (ab:RdZ w w.heap.size A s) (ac:RdZ w w.heap.size A' s) (aa:s.length<=9223372036854775807) (hn:n=s.length) (hm:m=s.length) :
  Calls Tryz.prog 22 #[.slice A n ca,.slice A' m cb] w fun e w'=>e=.returned (.bool true)/\∃n,w'=w.drewN n:=by
 have h:=ziH A A' ca cb (zi s) (zi s) w ab ac (by rw[zb3];exact aa) (by rw[zb3];exact aa);rw[zb3]at h;subst hn hm;exact h.mono fun e w' h=>⟨by rw[h.1,AL rfl],h.2⟩
theorem zcn (v:Value) (G:Gm.Gr) (w:World) (hg:aR w w.heap.size v G) (hf:Gm.Fit G) :
  Calls Tryz.prog 6 #[v] w fun e w'=>e=.returned (.bool true)/\Below w.heap.size w w':=by
 have O:=aA (fun(x:World) (h:Below w.heap.size w x)=>hg.below h (Af _));have cu:=aA (fun(x:World)=>zeM x);have TG:=aA (fun(x:World) (h:Below w.heap.size w x)=>zgi v G w.heap.size x (O.o x h) h.size);have TI:=aA (fun(x:World) (h:Below w.heap.size w x)=>zhf v G w.heap.size x (O.o x h) hf h.size);have TA:=aA (fun(x:World) (h:Below w.heap.size w x)=>zdp v G w.heap.size x (O.o x h) hf h.size);have TS:=aA (fun(x:World) (h:Below w.heap.size w x)=>zdN v G w.heap.size x (O.o x h) hf h.size);have TC:=aA (fun(l:List Au.It) (A:Option Addr) (c BL:Nat) (x:World) (h:Below w.heap.size w x) (hl:RdQ 2 prF x BL A l) (hB:BL<=x.heap.size) (hn:l.length<=1000)=>zep v G w.heap.size l A c BL x (O.o x h) hf h.size hl hB hn);have TN:=aA (fun(z:Au.It) (x:World) (h:Below w.heap.size w x)=>zeo v G w.heap.size z x (O.o x h) hf h.size);have TF:=aA (fun(q:Gm.right G=true) (x:World) (h:Below w.heap.size w x)=>(show Calls _ _ _ _ (zeO _ _) from(zdb v G w.heap.size x (O.o x h) hf h.size).mono fun e w' k=>k.1 q));obtain⟨A0,c0,A1,c1,A2,c2,rfl,_,_,⟨dt,du⟩,_,_,hR⟩:=hg;have cv:=aA hR;have cw:=aA (aY.start 26 w #[.slice A0 G.ts.length c0,.slice A1 G.ns.length c1,.slice A2 G.rs.length c2,.int .i64 G.st]);clear hf hR
 go_enter Tryz.func6,Tryz.ntmps6
 go_wp2_with fail
 refine(cu.o _).mono ?_;rintro _ w1 ⟨rfl,bz⟩;have D:=aA (cw.o.on bz);have x0:=D.o.c 0 _ rfl;have x1:=D.o.c 1 _ rfl;have x2:=D.o.c 2 _ rfl;have x3:=D.o.c 3 _ rfl;clear bz;cases F:Gm.great G with
 | true =>
  rw[F]at TG;go_wp2_with fail
  refine(TG.o _ D.o.below).mono ?_;rintro _ w2 ⟨rfl,I⟩;have B:=aA (D.o.on I);clear I;go_wp2;go_ret
  exact⟨rfl,B.o.below⟩
 | false =>
  rw[F]at TG;have cx:=Lk.great_ns F;have dv:(G.ns.length:Int)<=40:=by omega
  go_wp2_with fail
  refine(TG.o _ D.o.below).mono ?_;rintro _ wg ⟨rfl,bD⟩;have H:=aA (D.o.on bD);clear x0 x1 x2 x3 bD TG;have x0:=H.o.c 0 _ rfl;have x1:=H.o.c 1 _ rfl;have x2:=H.o.c 2 _ rfl;have x3:=H.o.c 3 _ rfl;cases aq:Gm.isB G with
  | false =>
   rw[aq]at TI;clear F aq;go_wp2_with fail
   refine(TI.o wg H.o.below).mono ?_;rintro _ w2 ⟨rfl,I⟩;have B:=aA (H.o.on I);clear I;go_wp2;go_ret
   exact⟨rfl,B.o.below⟩
  | true =>
  rw[aq]at TI;clear aq;go_upto_region 5 with fail
  refine(TI.o wg H.o.below).mono ?_;rintro _ w2 ⟨rfl,I⟩;have B:=aA (H.o.on I);clear x0 x1 x2 x3 I TI H D;have x0:=B.o.c 0 _ rfl;have x1:=B.o.c 1 _ rfl;have x2:=B.o.c 2 _ rfl;have x3:=B.o.c 3 _ rfl;rcases Lk.lk_cases2 G with⟨hE,hS,hT⟩|⟨hE,hb,K,E,hk⟩
  ·have dw:(Au.bldE G != 0)=true:=by rw[DZ];exact hE
   unfold zlg at TA;unfold zgy at TS;rw[hS]at TA;rw[hT]at TS;generalize Au.bldE G=er at *;have dx:(er != er)=false:=by simp
   clear hE hS hT F;go_wp2_with fail
   refine(TA.o w2 B.o.below).mono ?_;rintro _ w3 ⟨A,c,rfl,_,_,_,ag⟩;have r:=aA (B.o.on ag);have e0:([]:List (List (Int×Int))).length=0:=rfl;rw[e0];clear ag x0 x1 x2 x3 TA e0;have x0:=r.o.c 0 _ rfl;have x1:=r.o.c 1 _ rfl;have x2:=r.o.c 2 _ rfl;have x3:=r.o.c 3 _ rfl;go_wp2_with fail
   refine(TS.o w3 r.o.below).mono ?_;rintro _ w4 ⟨A4,c4,rfl,_,_,_,U⟩;have s:=aA (r.o.on U);have e0:([]:List StT).length=0:=rfl;rw[e0];clear U x0 x1 x2 x3 TS e0;have x1:=s.o.c 1 _ rfl;have l1:=s.o.size;go_upto_region 10 with(at_make;refine zdj rfl (.tmp 45) (.tmp 45) _ rfl Tryz.underlying41 G.ns.length _ _ rfl rfl rfl rfl (by omega) ?_;intro w5 ah ai ab)
   have cy:=aA (s.o.on ai);clear ah ai ab x1 l1;go_wp2;go_loopw [8] (fun vi wr=>vi=.int .i64 0/\Hid (aY 26 w #[.slice A0 G.ts.length c0,.slice A1 G.ns.length c1,.slice A2 G.rs.length c2,.int .i64 G.st] wr)) (fun vi _=>0)
   case atStart=>exact⟨rfl,cy⟩
   case round =>
    obtain⟨rfl,HQ⟩:=hrel;go_wp2;go_ret
    exact⟨rfl,HQ.o.below⟩
  ·have hr:=Gm.isB_right hb;have TF:=aA (TF.o hr);have cz:=aA hr;have ar:=aA (Gm.right_ok.1 hr);have HF:=aA (Lk.lk_fol hb hk);have bM:=aA (Lk.lk_str hb hk);have cA:=aA (fun(S:List Nat) (h:Lk.SumR G (Lk.lkS G) (Gm.flw G) (Lk.lkS G).length 0 S)=>Lk.SumR.done hb hk h);have bT:Hid ((Gm.flw G).length=G.ns.length):=aA (by rw[Gm.flw_len]);unfold zlg at TA;unfold zgy at TS;rw[hE]at TA TS;unfold zeO at TF;have bX:G.rs.length<=40:=ar.o.r40;have dy:(G.rs.length:Int)<=40:=by omega
   have dz:=HF.o.le;have b:(Au.bldS G).length=(Lk.lkS G).length:=bM.o.1;generalize Lk.lkS G=ls at *;generalize Au.bldS G=ss at *;generalize Gm.flw G=W at *;clear F hE hb hk hr;go_wp2_with fail
   refine(TA.o w2 B.o.below).mono ?_;rintro _ w3 ⟨A,c,rfl,_,_,bY,ag⟩;have cB:=aA bY;have r:=aA (B.o.on ag);clear bY ag x0 x1 x2 x3 TA;have cC:(ls.length:Int)<=300:=by omega
   have cD:(((ls.length:Nat):Int) != ((ss.length:Nat):Int))=false:=by rw[bne_eq_false_iff_eq];omega
   have x0:=r.o.c 0 _ rfl;have x1:=r.o.c 1 _ rfl;have x2:=r.o.c 2 _ rfl;have x3:=r.o.c 3 _ rfl;go_wp2_with fail
   refine(TS.o w3 r.o.below).mono ?_;rintro _ w4 ⟨A4,c4,rfl,_,_,bZ,U⟩;have cE:=aA bZ;have cF:=aA (cB.o.below U (Af _));have s:=aA (r.o.on U);have au:=aA U.size;clear bZ U x0 x1 x2 x3 TS;have x1:=s.o.c 1 _ rfl;have l1:=s.o.size;go_upto_region 10 with(at_make;refine zdj rfl (.tmp 45) (.tmp 45) _ rfl Tryz.underlying41 G.ns.length _ _ rfl rfl rfl rfl (by omega) ?_;intro w5 ah ai ab)
   obtain⟨gs,a9⟩:∃q,q=w4.heap.size:=⟨_,rfl⟩
   rw[<-a9]at ah ⊢;have b0:Hid (UBZ w5 gs (List.replicate G.ns.length 0)):=aA (by unfold UBZ;rw[zeS];exact ah);have b1:=aA ai;have b2:Hid (w4.heap.size<=gs):=aA (Nat.le_of_eq a9.symm);clear a9 ah ai ab x1 l1;go_wp2;go_loopw [8] (fun vi wr=>∃(i:Nat) (S:List Nat),i<=ss.length/\vi=.int .i64 i/\Hid (Lk.SumR G ls W i 0 S)/\Hid (UBZ wr gs S)/\Hid (Below w4.heap.size w4 wr)) (fun vi _=>ss.length-(intOf vi).toNat)
   case atStart=>exact⟨0,_,AU _,rfl,aA (Lk.SumR.start G ls W),b0,b1⟩
   case round =>
    clear b0 b1;obtain⟨i,S,hi,rfl,m,HU,HW⟩:=hrel;rename World=>wr;by_cases av:i<ss.length
    ·have cG:(i:Int)<(ss.length:Int):=by omega
     have hlt2:i<ls.length:=by omega
     have aj:=aA (bM.o.2 i av hlt2);have b3:=aA (cE.o.below HW.o (Af _));obtain⟨gA,oA,rfl,b4,b5⟩:=b3.o (by omega);obtain⟨⟨Ak,ck,k1,_,_,b6⟩,_⟩:=b5 i av;have lA:gA<wr.heap.size:=Ag b4 HW.o.size;have ba:=aA (fun(x:World) (h:Below wr.heap.size wr x)=>TC.o (ss[i]).1 Ak ck w4.heap.size x ((s.o.on (HW.o.trans (h.mono HW.o.size))).below) (b6.below (h.mono HW.o.size) (Af _)) (Am HW.o.size h.size) (by have:=aj.o.kl;omega));have dA:(((ss[i]).1).length:Int)<=287:=by have:=aj.o.kl;omega
     have f:=aA (s.o.on HW.o);clear b5 b6 b4;have z0:∀z:Calm.On wr.heap.size wr,z.1.cell? ⟨w.heap.size,0,none⟩=some (.slice A0 G.ts.length c0):=fun z=>(f.o.on z.2).c 0 _ rfl;have z1:∀z:Calm.On wr.heap.size wr,z.1.cell? ⟨w.heap.size,1,none⟩=some (.slice A1 G.ns.length c1):=fun z=>(f.o.on z.2).c 1 _ rfl;have z2:∀z:Calm.On wr.heap.size wr,z.1.cell? ⟨w.heap.size,2,none⟩=some (.slice A2 G.rs.length c2):=fun z=>(f.o.on z.2).c 2 _ rfl;have z3:∀z:Calm.On wr.heap.size wr,z.1.cell? ⟨w.heap.size,3,none⟩=some (.int .i64 G.st):=fun z=>(f.o.on z.2).c 3 _ rfl;have q0:∀z:Calm.On wr.heap.size wr,z.1.cell? ⟨gA,oA+i*2,none⟩=some (.slice Ak (ss[i]).1.length ck):=fun z=>(z.2.cell (p:=⟨gA,oA+i*2,none⟩) lA).trans k1;have ak:=zam wr;have b7:=aA aj.o.cl;have bb:=aA aj.o.st;have cH:Hid (∀y∈Au.clo G (ss[i]).1,Au.isI G y=true):=aA (fun y hy=>Au.clo_is hy);have b8:Hid ((Au.clo G (ss[i]).1).length<=287):=aA (Au.clo_le2 ar.o ar.o.r40 _);have b9:=b7.o;rw[b9]at ba;generalize Au.clo G (ss[i]).1=l at *;clear b9 b7 aj k1;generalize ((ss[i]).1).length=nk at *;go_wp2_with fail
     refine CalmN.region_tree (fun x=>∃z:Calm.On wr.heap.size wr,x=z.1) (.one [0,1,2,3,4,5] 6 (.fin [7])) (by kernel_rfl) (by kernel_rfl) (fun _ _ d _ _ h=>by cases d <;> exact h) ak.o ?_;simp only[CalmN.wpT,CalmN.wpSt,CalmN.pickOps,Aw,Ah,Aj];repeat (go_big_quiet_step (fail))
     refine Aq ?_;intro KK j;rw[Az (by rfl)];go_wp2_with fail
     refine(ba.o wr.drew (aB (AB _ _) 1)).mono ?_;rintro _ w6 ⟨v6,rfl,bc,ca⟩;have aw:Hid (Below wr.heap.size wr w6):=aA ((aB (AB _ wr) 1).trans ca);have bd:Hid (∀A c,v6=.slice A l.length c->zdz 60 2 prF w6 wr.heap.size w6.heap.size A l):=aA (fun A c e=>by subst e;exact aJ.rowG bc aG);obtain⟨A6,c6,rfl,_,_,_⟩:=aJ.form bc aG;have bd:=aA (bd.o A6 c6 rfl);have t:=zbk aw.o;have cb:=aA (HU.o.below aw.o HU.o.lt);have cI:=aA HU.o.lt;have cc:=aA (HW.o.trans (aw.o.mono HW.o.size));clear bc ca z0 z1 z2 z3 q0 ak ba b3 f;go_wp2_with fail
     refine j _ _ t.o _ (fun _ h=>h) t.o ?_;clear j;repeat (go_big_quiet_step (fail))
     refine Aq ?_;clear t HU HW aw;have dB:(l.length:Int)<=287:=by have:=b8.o;omega
     go_wp2;go_loopw [10,11] (fun va vk wk=>∃(k:Nat) (S:List Nat),k<=l.length/\vk=.int .i64 k/\va=.int .i64 (Lk.atC G l k:Nat)/\Hid (Lk.SumR G ls W i (Lk.atC G l k) S)/\Hid (UBZ wk gs S)/\Hid (Below w4.heap.size w4 wk)/\Hid (KeepS w6 wk)) (fun _ vk _=>l.length-(intOf vk).toNat)
     case atStart=>exact⟨0,S,AU _,rfl,by rw[Lk.atC_zero];rfl,by rw[Lk.atC_zero];exact m,cb,cc,aA (KeepS.refl _)⟩
     case round =>
      clear cb cc m;obtain⟨k,S,hk,rfl,rfl,m,HU,HW,HK⟩:=hrel;rename World=>wk;have ac:Hid (Lk.atC G l k<=287):=aA (Am (Lk.atC_le G l k) b8.o);have cd:((Lk.atC G l k:Nat):Int)<=287:=by have:=ac.o;omega
      have ce:=aA (cF.o.below HW.o au.o);obtain⟨gM,oM,rfl,cJ,cf⟩:=ce.o (by omega);obtain⟨Ai,ci,m0,_,_,bf⟩:=cf i hlt2;have lM:gM<wk.heap.size:=by have:=HW.o.size;have:=au.o;omega
      have cK:(((ls[i]'hlt2).length:Nat):Int)<=40:=by have:=HF.o.lr _ (AC hlt2);omega
      have cL:Hid (gM<w4.heap.size):=aA (by have:=au.o;omega);clear cf cJ ce;by_cases b:k<l.length
      ·have cM:(k:Int)<(l.length:Int):=by omega
       have cg:=cH.o _ (AC b);have J:Au.nextO G (l[k]'b)=Au.nx G (l[k]'b):=by unfold Au.nextO;rw[Az cz.o,Au.nxP_is cg]
       have bg:=aA (TN.o (l[k]'b));rw[J]at bg;have V:=aA (Lk.atC_step (G:=G) b);have al:=aA (bb.o.n k b);have M:Hid (Lk.isC G (l[k]'b)=((Au.nx G (l[k]'b)).isNone&&decide (0<=(l[k]'b).1))):=aA rfl;obtain⟨gI,cur,rfl,cN,cO,ch,bh⟩:=bd.o (by omega);have bi:=aA (HK.o.keep gI cur _ _ ch (by decide) (by decide));have cP:=aA (bh k b 0 (.int .i64 (l[k]'b).1) rfl);have cQ:=aA (bh k b 1 (.int .i64 (l[k]'b).2) rfl);have cR:Hid (gs<gI):=aA (by have:=cI.o;omega);have X:=aA b;clear bh ch cO cN J cg;generalize (l[k]'b)=x at *;clear b;have KI0:=aA (fun(z:World) (h:z.heap[gI]?=wk.heap[gI]?)=>(AD z gI (k*2+0) _ _ _ (h.trans bi.o)).trans cP.o);have KI1:=aA (fun(z:World) (h:z.heap[gI]?=wk.heap[gI]?)=>(AD z gI (k*2+1) _ _ _ (h.trans bi.o)).trans cQ.o);have LI:Hid (gI<wk.heap.size):=aA (Ad.1 bi.o).1;have f:=aA (s.o.on HW.o);have z0:∀z:Calm.On wk.heap.size wk,z.1.cell? ⟨w.heap.size,0,none⟩=some (.slice A0 G.ts.length c0):=fun z=>(f.o.on z.2).c 0 _ rfl;have z1:∀z:Calm.On wk.heap.size wk,z.1.cell? ⟨w.heap.size,1,none⟩=some (.slice A1 G.ns.length c1):=fun z=>(f.o.on z.2).c 1 _ rfl;have z2:∀z:Calm.On wk.heap.size wk,z.1.cell? ⟨w.heap.size,2,none⟩=some (.slice A2 G.rs.length c2):=fun z=>(f.o.on z.2).c 2 _ rfl;have z3:∀z:Calm.On wk.heap.size wk,z.1.cell? ⟨w.heap.size,3,none⟩=some (.int .i64 G.st):=fun z=>(f.o.on z.2).c 3 _ rfl;have q0:∀z:Calm.On wk.heap.size wk,z.1.cell? ⟨gI,k*2,none⟩=some (.int .i64 x.1):=fun z=>KI0.o z.1 (z.2.block gI LI.o);have q1:∀z:Calm.On wk.heap.size wk,z.1.cell? ⟨gI,k*2+1,none⟩=some (.int .i64 x.2):=fun z=>KI1.o z.1 (z.2.block gI LI.o);have ak:=zam wk;have cS:=aA bf;have cj:=aA m0;have bj:=aA lM;clear bf m0 lM;obtain⟨a,ha⟩:∃a,a=Lk.atC G l k:=⟨_,rfl⟩
       rw[<-ha]at m V al ac cd ⊢;clear ha;go_wp2_with fail
       refine CalmN.region_tree (fun x=>∃z:Calm.On wk.heap.size wk,x=z.1) (.one [0,1,2,3,4] 5 (.fin [6,7,8,9,10])) (by kernel_rfl) (by kernel_rfl) (fun _ _ d _ _ h=>by cases d <;> exact h) ak.o ?_;simp only[CalmN.wpT,CalmN.wpSt,CalmN.pickOps,Aw,Ah,Aj];repeat (go_big_quiet_step (fail))
       refine Aq ?_;intro KK j;rw[Az (by rfl)];go_wp2_with fail
       refine(bg.o wk.drew (aB f.o.below 1)).mono ?_;rintro _ w7 ⟨rfl,Z⟩;have C:Hid (Below wk.heap.size wk w7):=aA ((aB (AB _ wk) 1).trans Z);have t:=zbk C.o;have ax:=aA (HU.o.below C.o HU.o.lt);have am:=aA (HW.o.trans (C.o.mono HW.o.size));have bk:=aA (HK.o.trans (KeepS.below C.o));have KX0:=KI0.o w7 (C.o.block gI LI.o);have lI:gI<w7.heap.size:=Ag LI.o C.o.size;clear Z z0 z1 z2 z3 q0 q1 ak bg KI1;have KX0:w7.cell? ⟨gI,k*2,none⟩=some (.int .i64 x.1):=KX0;cases J:Au.nx G x with
       | some sy =>
        rw[J]at M;have N:Hid (Lk.atC G l (k+1)=a):=aA (by rw[V.o,M.o];rfl);clear J M V al;go_wp2_with fail
        refine j _ _ t.o _ (fun _ h=>h) t.o ?_;clear j;repeat (go_big_quiet_step (fail))
        refine Aq ?_;clear t;go_wp2;go_roundw
        case rel=>exact⟨k+1,S,X.o,by go_num,by rw[N.o],by rw[N.o];exact m,ax,am,bk⟩
        case measure=>simp[intOf];have:=X.o;omega
       | none =>
        rw[J]at M;by_cases cT:x.1<0
        ·have N:Hid (Lk.atC G l (k+1)=a):=aA (by rw[V.o,M.o,AO (by omega)];rfl);clear J M V al;go_wp2_with fail
         refine j _ _ t.o _ (fun _ h=>h) t.o ?_;clear j;repeat (go_big_quiet_step (fail))
         refine Aq ?_;clear t;go_wp2;go_roundw
         case rel=>exact⟨k+1,S,X.o,by go_num,by rw[N.o],by rw[N.o];exact m,ax,am,bk⟩
         case measure=>simp[intOf];have:=X.o;omega
        ·have bl:Lk.isC G x=true:=by rw[M.o,AL (by omega)];rfl
         have N:Hid (Lk.atC G l (k+1)=a+1):=aA (by rw[V.o,bl];rfl);obtain⟨af,cm⟩:=al.o bl;obtain⟨n,v,hn,he,cU,bm,bo⟩:=HF.o.et i hlt2 a af;have cn:x.1=(n:Int):=by rw[<-cm,he]
         obtain⟨gx,ox,rfl,cV,bp⟩:=cS.o (by omega)
         have cW:Hid (wk.cell? ⟨gx,ox+a*2,none⟩=some (.int .i64 n)):=aA (by
          have:=bp a af 0 _ rfl
          rw[he]at this;exact this)
         have cX:Hid (wk.cell? ⟨gx,ox+a*2+1,none⟩=some (.int .u32 v)):=aA (by
          have:=bp a af 1 _ rfl
          rw[he]at this;exact this)
         have ay:Hid (gx<w4.heap.size):=aA (by have:=au.o;omega);rw[cn]at KX0 KI0;have cY:=ar.o.lin _ (AC hn);obtain⟨lf,az⟩:∃lf:Nat,(G.rs[n]).l=(lf:Int):=⟨(G.rs[n]).l.toNat,by omega⟩
         have ad:lf<G.ns.length:=by omega
         rw[az,BP]at bo;have bq:=aA (m.o.step hlt2 af hn he az ad bm bo);have cZ:=aA m.o.l;have c3:=aA (m.o.u lf);obtain⟨gr,or,c5,F,co⟩:=cv.o (by omega);have c7:Hid (wk.cell? ⟨gr,or+n*3,none⟩=some (.int .i64 lf)):=aA ((f.o.below.cell (p:=⟨gr,or+n*3,none⟩) F).trans (by rw[(co n hn).1,az]));have ao:Hid (gr<w4.heap.size):=aA (by have:=s.o.below.size;omega);subst c5;have c8:(a:Int)<(((ls[i]'hlt2).length:Nat):Int):=by omega
         have c9:(n:Int)<(G.rs.length:Int):=by omega
         have dC:¬((n:Int)<0):=by omega
         have da:(lf:Int)<(G.ns.length:Int):=by omega
         have dD:¬((((ls[i]'hlt2).length:Nat):Int)<=(a:Int)):=by omega
         have db:¬((ls[i]'hlt2).length<=a):=by omega
         have dc:a<(ls[i]'hlt2).length:=af;have dE:(((n:Nat):Int) != ((n:Nat):Int))=false:=by simp
         have de:=aA bm;have br:=aA ad;clear co az cY F bp cV he cm cn cT J M V al bo cU bl af hn bm ad;go_wp2_with fail
         refine j _ _ t.o _ (fun _ h=>h) t.o ?_;clear j;repeat (go_big_quiet_step (fail))
         refine Aq ?_;clear t;have m0:=(C.o.cell (p:=⟨gM,oM+i,none⟩) bj.o).trans cj.o;have lM:gM<w7.heap.size:=Ag bj.o C.o.size;have m1:=(C.o.cell (p:=⟨gx,ox+a*2,none⟩) (Ag ay.o HW.o.size)).trans cW.o;have lx:gx<w7.heap.size:=by have:=ay.o;have:=am.o.size;omega
         generalize (ls[i]'hlt2).length=nr at *;go_upto_region 20 with fail
         go_quiet (fail)
         obtain⟨wq,bs⟩:∃y,y=w7.drewN nq:=⟨_,rfl⟩
         rw[<-bs];have a0:Hid (Below w7.heap.size w7 wq):=aA (by rw[bs];exact aB (AB _ _) _);clear bs m0 lM m1 lx KX0 lI;have aa:=aA (C.o.trans (a0.o.mono C.o.size));have ap:=aA (ax.o.below a0.o ax.o.lt);have cp:=aA (am.o.trans (a0.o.mono am.o.size));have df:=aA (bk.o.trans (KeepS.below a0.o));have dg:=aA (s.o.on cp.o);have y0:wq.cell? ⟨w.heap.size,2,none⟩=some (.slice (some ⟨gr,or,none⟩) G.rs.length c2):=dg.o.c 2 _ rfl;have y1:wq.cell? ⟨gI,k*2,none⟩=some (.int .i64 n):=KI0.o wq (aa.o.block gI LI.o);have y2:=(aa.o.cell (p:=⟨gr,or+n*3,none⟩) (Ag ao.o HW.o.size)).trans c7.o;have y3:=(aa.o.cell (p:=⟨gM,oM+i,none⟩) bj.o).trans cj.o;have y4:=(aa.o.cell (p:=⟨gx,ox+a*2+1,none⟩) (Ag ay.o HW.o.size)).trans cX.o;have q0:∀z:OnP [w.heap.size,gM,gx,gI,gr] wq,z.1.cell? ⟨w.heap.size,2,none⟩=some (.slice (some ⟨gr,or,none⟩) G.rs.length c2):=fun z=>(z.cell (by simp)).trans y0;have q1:∀z:OnP [w.heap.size,gM,gx,gI,gr] wq,z.1.cell? ⟨gI,k*2,none⟩=some (.int .i64 n):=fun z=>(z.cell (by simp)).trans y1;have q2:∀z:OnP [w.heap.size,gM,gx,gI,gr] wq,z.1.cell? ⟨gr,or+n*3,none⟩=some (.int .i64 lf):=fun z=>(z.cell (by simp)).trans y2;have q3:∀z:OnP [w.heap.size,gM,gx,gI,gr] wq,z.1.cell? ⟨gM,oM+i,none⟩=some (.slice (some ⟨gx,ox,none⟩) nr ci):=fun z=>(z.cell (by simp)).trans y3;have q4:∀z:OnP [w.heap.size,gM,gx,gI,gr] wq,z.1.cell? ⟨gx,ox+a*2+1,none⟩=some (.int .u32 v):=fun z=>(z.cell (by simp)).trans y4;clear y0 y1 y2 y3 y4;have bu:Hid (∀z:World,(∀g∈[w.heap.size,gM,gx,gI,gr],z.heap[g]?=wq.heap[g]?)->∃y:OnP [w.heap.size,gM,gx,gI,gr] wq,z=y.1):=aA (fun z h=>⟨⟨z,h⟩,rfl⟩);have ae:=aA (bu.o wq.drew (fun _ _=>rfl))
         have cq:Hid (∀g∈[w.heap.size,gM,gx,gI,gr],g≠gs):=aA (by
          have a1:=s.o.size;have a2:=b2.o;have a3:=cL.o;have a4:=ay.o;have a5:=cR.o;have a6:=ao.o;intro g hg;simp only[Br,List.not_mem_nil,or_false]at hg;rcases hg with rfl|rfl|rfl|rfl|rfl <;> omega)
         have u1:wq.drew.cell? ⟨gs,lf,none⟩=some (.int .u32 ((S.getD lf 0:Nat):Int)):=ap.o.cell lf (by rw[cZ.o];exact br.o);have fz:wq.drew.frozen? ⟨gs,lf,none⟩=false:=ap.o.frozen lf;have lz:gs<wq.drew.heap.size:=ap.o.lt;have dF:=DI (S.getD lf 0) v c3.o de.o;have dh:=aA (UBZ.set_ (w:=wq.drew) ap.o lf (S.getD lf 0 ||| v));have di:Hid (Below w4.heap.size w4 (wq.drew.setCell ⟨gs,lf,none⟩ (.int .u32 ((S.getD lf 0 ||| v:Nat):Int)))):=aA ((cp.o.trans (aB (AB _ _) 1)).setCell b2.o _);have bv:=ap.o;unfold UBZ UBU at bv;have dj:Hid (KeepS w6 (wq.drew.setCell ⟨gs,lf,none⟩ (.int .u32 ((S.getD lf 0 ||| v:Nat):Int)))):=aA ((df.o.trans (KeepS.below (aB (AB _ _) 1))).trans (KeepS.set (w:=wq.drew) bv (.inl rfl) _));have cr:=aA (bu.o (wq.drew.setCell ⟨gs,lf,none⟩ (.int .u32 ((S.getD lf 0 ||| v:Nat):Int))) (fun g hg=>AP _ _ _ _ (cq.o g hg)));clear bv cq bu;generalize S.getD lf 0=sv at *;go_upto_region 22 with fail
         refine CalmN.region_tree (fun x=>∃z:OnP [w.heap.size,gM,gx,gI,gr] wq,x=z.1) (.one [0,1,2,3,4,5,6,7,8,9,10,11,12,13,14,15,16,17,18,19,20,21,22,24,25,26,27,28,29,30,31] 23 (.one [32,33] 34 (.fin []))) (by kernel_rfl) (by kernel_rfl) (fun _ _ d _ _ h=>by cases d <;> exact h) ae.o ?_;simp only[CalmN.wpT,CalmN.wpSt,CalmN.pickOps,Aw,Ah,Aj];repeat (go_big_quiet_step (fail))
         refine Aq ?_;intro KK j;rw[Az (by rfl)];generalize wq.drew=wd at *;go_wp2_with fail
         refine j _ _ ae.o _ (fun _ h=>h) ae.o ?_;clear j;repeat (go_big_quiet_step (fail))
         refine Aq ?_;intro KK j;rw[Az (by rfl)];go_wp2_with fail
         refine j _ _ cr.o _ (fun _ h=>h) cr.o ?_;clear j q0 q1 q2 q3 q4 u1 fz lz;refine Aq ?_;generalize wd.setCell ⟨gs,lf,none⟩ (.int .u32 ((sv ||| v:Nat):Int))=we at *;go_wp2;go_roundw
         case rel=>exact⟨k+1,S.set lf (sv ||| v),X.o,by go_num,by rw[N.o];go_num,by rw[N.o];exact bq,dh,di,dj⟩
         case measure=>simp[intOf];have:=X.o;omega
      ·obtain rfl:k=l.length:=by omega
       have dk:=aA (Lk.SumR.next hlt2 (by have:=m.o;rw[bb.o.e]at this;exact this));rw[bb.o.e];have dl:¬((l.length:Nat):Int)<((l.length:Nat):Int):=by omega
       have dm:((((ls[i]'hlt2).length:Nat):Int) != (((ls[i]'hlt2).length:Nat):Int))=false:=by simp
       clear bf b hk m cd ac;generalize (ls[i]'hlt2).length=nr at *;go_wp2;go_roundw
       case rel=>exact⟨i+1,S,av,by go_num,dk,HU,HW⟩
       case measure=>simp[intOf];omega
    ·obtain rfl:i=ss.length:=by omega
     have dl:¬((ss.length:Nat):Int)<((ss.length:Nat):Int):=by omega
     have dn:=aA (cA.o S (by rw[<-b];exact m.o));have f:=aA (s.o.on HW.o);have x0:=f.o.c 0 _ rfl;have x1:=f.o.c 1 _ rfl;have x2:=f.o.c 2 _ rfl;have x3:=f.o.c 3 _ rfl;have dG:=m.o.l;clear av hi m;go_wp2_with fail
     refine(TF.o wr f.o.below).mono ?_;rintro _ w7 ⟨gF,rfl,dp,bw,Z⟩;have bx:=HU.o.below Z HU.o.lt;have dq:=aA (show Calls Tryz.prog 22 #[.slice (some ⟨gs,0,none⟩) G.ns.length G.ns.length,.slice (some ⟨gF,0,none⟩) W.length W.length] w7 _ from Lk.sets16 _ _ _ _ G.ns.length W.length W w7 (by have:=bx.rd bx.lt;rw[dn.o]at this;exact this) (bw.rd bw.lt) (by rw[bT.o];omega) bT.o.symm rfl);have dr:=aA (f.o.on Z);clear x0 x1 x2 x3 bw Z dp bx;go_wp2_with fail
     refine dq.o.mono ?_;rintro _ w8 ⟨rfl,n8,cs⟩;have ds:Hid (aY 26 w #[.slice A0 G.ts.length c0,.slice A1 G.ns.length c1,.slice A2 G.rs.length c2,.int .i64 G.st] w8):=aA (by rw[cs];exact dr.o.drewN _);clear cs;go_wp2;go_ret
     exact⟨rfl,ds.o.below⟩
end Go.Proofs.YtcmhaemaophplaaGreat
namespace Go.Proofs.YtcmhaemaophplaaGreat.RowKit
open Go.ChangeShapes Go.WideShapes Go.ChangeAt Go.RowKit
theorem own:ownKnob Tryz.prog.godebug=none:=by kernel_rfl
theorem laidOut:laidOutB Tryz.prog=true:=by kernel_rfl
end Go.Proofs.YtcmhaemaophplaaGreat.RowKit
