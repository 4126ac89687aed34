/- Part of the proofs over this program: RfBuild, RlOf, RlSame, LkFol, WalkOf16, RowKit. -/
import Derived.Deep.LoopGhost
import Derived.Test.YtcmhaemaophplaaGreatRows
import Derived.SizedLaws
import Derived.LaidMore
import Derived.Stop.Joined
import Derived.ShutString
import Derived.ChangeOld
import Derived.Test.YtcmhaemaophplaaGreatXP
set_option linter.all false
open Go.RowKit Go.Proofs.Tryz
set_option maxRecDepth 100000
set_option maxHeartbeats 40000000
variable {A:Option Go.Addr} {G:Go.Proofs.YtcmhaemaophplaaGreat.Gm.Gr} {es:List (List (Int×Int))} {s:Int}
namespace Go.Proofs.YtcmhaemaophplaaGreat
def xE (qs:List QS) (es:List (List (Int×Int))):Prop:=(∀j (h:j<qs.length) (h2:j<es.length),(qs[j]).2.1=es[j])/\∀j (h:j<qs.length),es.length<=j->(qs[j]).2=([],none,0)
def tL (qs:List QS) (es:List (List (Int×Int))):Prop:=(∀j (h:j<qs.length) (h2:j<es.length),(qs[j]).2.1=es[j])/\∀j (h:j<qs.length),es.length<j->(qs[j]).2=([],none,0)
theorem xE.in {qs:List QS} (h:xE qs es):tL qs es:=⟨h.1,fun j hj hl=>h.2 j hj (by omega)⟩
theorem tL.snoc {qs:List QS} (h:tL qs es) (hn:es.length<qs.length) (k:List Au.It) (A:Option Addr) (c:Nat):tL (qs++[bJ k A c]) es:=by
 refine⟨fun j hj h2=>?_,fun j hj hl=>?_⟩
 ·have b:j<qs.length:=by omega
  rw[B6 b];exact h.1 j b h2
 ·by_cases b:j<qs.length
  ·rw[B6 b];exact h.2 j b hl
  ·obtain rfl:j=qs.length:=by rw[AW,BA]at hj;omega
   rw[Ct (Af _)];simp[bJ]
theorem tL.set {qs:List QS} (h:tL qs es) (y:QS):tL (qs.set es.length y) es:=by
 refine⟨fun j hj h2=>?_,fun j hj hl=>?_⟩
 ·rw[BX]at hj;rw[DL (by omega)];exact h.1 j hj h2
 ·rw[BX]at hj;rw[DL (by omega)];exact h.2 j hj hl
theorem tL.o {qs:List QS} (h:tL qs es) (hn:es.length<qs.length):xE qs (es++[(qs[es.length]).2.1]):=by
 refine⟨fun j hj h2=>?_,fun j hj hl=>?_⟩
 ·by_cases aa:j<es.length
  ·rw[B6 aa];exact h.1 j hj aa
  ·obtain rfl:j=es.length:=by rw[AW,BA]at h2;omega
   rw[Ct (Af _)];simp
 ·rw[AW,BA]at hl;exact h.2 j hj (by omega)
theorem xE.zip {qs:List QS} (h:xE qs es) (hn:es.length=qs.length):qs.map yf=(aZ qs).zip es:=by
 refine Cp (by simp[aZ,hn]) fun j h1 h2=>?_;have hj:j<qs.length:=by simpa using h1
 rw[C3,List.getElem_zip];unfold aZ;rw[C3,<-h.1 j hj (by omega)];rfl
theorem PK {cl:List Au.It} {p:List (List Au.It)×List (Int×Int)} {qs:List QS} (hp:aZ qs=p.1) (aa:Au.mv G cl s≠[]):Au.jq G cl p s=if Au.ij (aZ qs) (Au.mv G cl s)<0 then(p.1++[Au.mv G cl s],p.2++[(s,(qs.length:Int))]) else(p.1,p.2++[(s,Au.ij (aZ qs) (Au.mv G cl s))]):=by
 unfold Au.jq;rw[AI aa,hp];have e:p.1.length=qs.length:=by rw[<-hp];unfold aZ;rw[Bh]
 by_cases h:Au.ij p.1 (Au.mv G cl s)<0
 ·rw[AI (by omega),AC h,e]
 ·rw[AC (by omega),AI h]
theorem Oa {k:List Au.It} {nm c:Nat} (h:k.length=nm):∀(j:Nat) (u:Value),(nX (bJ k A c))[j]?=some u->(#[.slice A nm c,.slice none 0 0]:Array Value)[j]?=some u:=fun j u hu=>by
 subst h
 match j,hu with
 | 0,hu=>exact hu
 | 1,hu=>exact hu
 | j+2,hu=>simp[nX]at hu
theorem Ng (v:Value) (G:Gm.Gr) (B:Nat) (w:World) (hg:aT w B v G) (hf:Gm.Fit G) (hB:B<=w.heap.size) :
  Calls prog 19 #[v] w (tJ G w):=by
 have bp:=aA (fun y (h:Below w.heap.size w y)=>Rs v G B y (hg.below h hB) hf (Aj hB h.size));have HG:=aA hg;have HF:=aA hf;have a2:=aA hB;obtain⟨AT,cT,AN,cN,AR,cR,rfl,⟨ej,ek⟩,⟨el,em⟩,_⟩:=hg;have C:=aA (bE.start 26 w #[.slice AT G.ts.length cT,.slice AN G.ns.length cN,.slice AR G.rs.length cR,.int .i64 G.st]);have g0:=C.o.c 0 _ rfl;have g1:=C.o.c 1 _ rfl;have g2:=C.o.c 2 _ rfl;have g3:=C.o.c 3 _ rfl;clear hf hB;cases hr:Gm.jE G
 ·have HQ:=aA (Au.kG hr);rw[hr]at bp;clear hr
  go_enter func19,ntmps19
  go_wp2_with fail
  refine(bp.o _ C.o.below).mono ?_;rintro _ w2 ⟨rfl,hb⟩;have HB:=aA (C.o.on hb);clear hb g0 g1 g2 g3;go_wp2
  go_ret2
  exact tJ.nil HQ.o HB.o.below
 ·have HR:=aA hr;have O:=aA (Gm.ft.1 (Gm.fY hr));rw[hr]at bp;have U:=(Gm.fZ G.ts).1 O.o.t;have a3:=(Gm.fG G).1 O.o.n;have eo:(G.ts.length:Int)<=24:=by omega
  have ep:(G.ns.length:Int)<=16:=by omega
  have dB:Hid (G.ts.length<=24/\G.ns.length<=16):=aA (by omega);clear hr U a3
  go_enter func19,ntmps19
  go_wp2_with fail
  refine(bp.o _ C.o.below).mono ?_;rintro _ w2 ⟨rfl,hb⟩;have HB:=aA (C.o.on hb);clear hb g0 g1 g2 g3;obtain⟨w3,a4⟩:∃y,y=w2.alloc (.cells #[.int .i64 (-1),.int .i64 0] 60):=⟨_,rfl⟩
  have b1:w3.heap.size=w2.heap.size+1:=by rw[a4];simp
  have b3:Below w2.heap.size w2 w3:=by rw[a4];exact(AB _ _).alloc (Af _) _
  have c3:w3.heap[w2.heap.size]?=some (.cells #[.int .i64 (-1),.int .i64 0] 60 (0,0)):=by rw[a4];exact AG w2 _
  obtain⟨w4,a5⟩:∃y,y=w3.alloc (.cells #[.slice (some ⟨w2.heap.size,0,none⟩) 1 1,.slice none 0 0] 56):=⟨_,rfl⟩
  have dC:w4.heap.size=w2.heap.size+2:=by rw[a5];simp[b1]
  have b4:Below w3.heap.size w3 w4:=by rw[a5];exact(AB _ _).alloc (Af _) _
  have c4:w4.heap[w2.heap.size+1]?=some (.cells #[.slice (some ⟨w2.heap.size,0,none⟩) 1 1,.slice none 0 0] 56 (0,0)):=by rw[a5,<-b1];exact AG w3 _
  have dD:=HB.o.size;have dE:=aA ((HB.o.on b3).on (b4))
  have a6:Hid (pD w4 (w.heap.size+1) w4.heap.size w4.heap.size (.slice (some ⟨w2.heap.size+1,0,none⟩) 1 1) [bJ [(-1,0)] (some ⟨w2.heap.size,0,none⟩) 1]):=aA ⟨⟨by simp[nX],.inr ⟨w2.heap.size+1,1,_,rfl,by omega,c4,Af _,by unfold maxLen;omega,by simp,by simp[nX,bJ,rG]⟩⟩,fun q hq=>by
   rw[AP.1 hq];refine⟨⟨Af _,by simp[bJ],fun _=>⟨w2.heap.size,_,rfl,by omega,by omega,aC b4 c3,fun i hi j u hu=>?_⟩⟩,⟨AV _,AV _,bP.nil _ _ _ _ _⟩⟩
   have:i=0:=by simp[bJ]at hi;omega
   subst this
   match j,hu with
   | 0,hu=>exact hu
   | 1,hu=>exact hu
   | j+2,hu=>simp[bJ,fO]at hu⟩
  clear b3 c3 b4 c4 dD;go_upto_region 4 with fail
  rw[<-a4,<-a5];clear a4 a5 dC b1;have dF:Hid (Au.Inv G [[(-1,0)]] []):=aA (Au.Inv.start G);have b2:Hid (Au.run G (302-([]:List (List (Int×Int))).length) [[(-1,0)]] []=Au.lK G):=aA rfl;have b5:Hid (aZ [bJ [((-1:Int),(0:Int))] (some ⟨w2.heap.size,0,none⟩) 1]=[[(-1,0)]]):=aA rfl
  have dG:Hid (xE [bJ [((-1:Int),(0:Int))] (some ⟨w2.heap.size,0,none⟩) 1] []):=aA ⟨fun j _ h=>absurd h (De _),fun j hj _=>by
   have:j=0:=by simp at hj;omega
   subst this;rfl⟩
  generalize [bJ [((-1:Int),(0:Int))] (some ⟨w2.heap.size,0,none⟩) 1]=qs0 at *;obtain⟨bs,cW⟩:∃bs,bs=w2.heap.size+1:=⟨_,rfl⟩
  rw[<-cW]at a6;rw[<-cW];go_wp2;go_loopw [4,5] (fun vo vi wr=>∃(ks:List (List Au.It)) (es:List (List (Int×Int))) (qs:List QS),vi=.int .i64 (es.length:Nat)/\ks.length<=300/\es.length<=ks.length/\Hid (Au.Inv G ks es)/\Hid (Au.run G (302-es.length) ks es=Au.lK G)/\Hid (aZ qs=ks)/\Hid (xE qs es)/\Hid (pD wr (w.heap.size+1) wr.heap.size wr.heap.size vo qs)/\Hid (bE 26 w #[.slice AT G.ts.length cT,.slice AN G.ns.length cN,.slice AR G.rs.length cR,.int .i64 G.st] wr)) (fun _ vi _=>301-(intOf vi).toNat)
  case atStart=>exact⟨[[(-1,0)]],[],qs0,rfl,by simp,by simp,dF,b2,b5,dG,a6,dE⟩
  case round =>
   obtain⟨ks,es,qs,rfl,bq,cY,HI,b6,br,HE,V,HW⟩:=hrel;have b7:qs.length=ks.length:=by rw[<-br.o];unfold aZ;rw[Bh]
   obtain⟨Ao,co,rfl,_,_,_⟩:=aJ.form V.o.1 pj;by_cases ai:es.length<ks.length
   ·have ay:es.length<qs.length:=by omega
    have dH:=aA b7;clear b7;have dI:((es.length:Nat):Int)<((qs.length:Nat):Int):=by omega
    obtain⟨gS,cS,he,bu,bv,er⟩:=aJ.addr V.o.1 (by omega);injection he with dJ dK dL;subst dJ;clear dK dL;have k0:wr.cell? ⟨gS,es.length*2,none⟩=some (.slice (qs[es.length]).1.2.1 (qs[es.length]).1.1.length (qs[es.length]).1.2.2):=aJ.cellAt V.o.1 pj es.length 0 ay _ rfl;have cZ:=aJ.lt V.o.1
    have b9:ks.getD es.length []=(qs[es.length]).1.1:=by
     rw[<-br.o];unfold aZ;rw[Ag,Bv,AD ay];rfl
    have ca:(qs[es.length]).1.1∈ks:=by
     rw[<-b9,Ag,AD ai];exact AE ai
    have c5:=HI.o.it _ ca;have hQ:=V.o.2 _ (AE ay);have dM:=aA (fun(y:World) (h:Below wr.heap.size wr y)=>JI _ G B (qs[es.length]).1.1 (qs[es.length]).1.2.1 (qs[es.length]).1.2.2 wr.heap.size y (HG.o.below (HW.o.on h).below a2.o) HF.o O.o (Aj a2.o (HW.o.on h).below.size) (hQ.1.2.2.rd.below h (Af _)) h.size c5.2 (Aj (Au.lQ O.o O.o.kz HI.o ca) (by omega)));have dN:Hid (Au.one G ks es.length=Au.fS G (Au.iU G (qs[es.length]).1.1) (ks,[]) (Au.syms G)):=aA (by unfold Au.one;rw[b9]);have c6:=aA (Au.qo (G:=G) ai bq);have c7:=aA (HI.o.step ai);have dO:Hid (∀x∈Au.iU G (qs[es.length]).1.1,Au.gj G x=true):=aA (fun x hx=>Au.jR hx);have dP:=aA (Au.kV G (qs[es.length]).1.1);have da:Hid ((Au.iU G (qs[es.length]).1.1).length<=287):=aA (Au.kU O.o O.o.kz _);have dQ:Hid ((qs[es.length]).2=([],none,0)):=aA (HE.o.2 _ ay (Af _));generalize (qs[es.length]).1.1=k at *;generalize (qs[es.length]).1.2.1=Ak at *;generalize (qs[es.length]).1.2.2=ck at *;clear b9 ca c5 hQ bu bv;have z0:∀z:Calm.On wr.heap.size wr,z.1.cell? ⟨w.heap.size,0,none⟩=some (.slice AT G.ts.length cT):=fun z=>(HW.o.on z.2).c 0 _ rfl;have z1:∀z:Calm.On wr.heap.size wr,z.1.cell? ⟨w.heap.size,1,none⟩=some (.slice AN G.ns.length cN):=fun z=>(HW.o.on z.2).c 1 _ rfl;have z2:∀z:Calm.On wr.heap.size wr,z.1.cell? ⟨w.heap.size,2,none⟩=some (.slice AR G.rs.length cR):=fun z=>(HW.o.on z.2).c 2 _ rfl;have z3:∀z:Calm.On wr.heap.size wr,z.1.cell? ⟨w.heap.size,3,none⟩=some (.int .i64 G.st):=fun z=>(HW.o.on z.2).c 3 _ rfl;have q0:∀z:Calm.On wr.heap.size wr,z.1.cell? ⟨gS,es.length*2,none⟩=some (.slice Ak k.length ck):=fun z=>(z.2.cell (p:=⟨gS,es.length*2,none⟩) cZ).trans k0;have C:=aW wr;clear k0 cZ;go_wp2_with fail
    refine CalmN.fk (fun x=>∃z:Calm.On wr.heap.size wr,x=z.1) (.one [0,1,2,3,4,5] 6 (.fin [7])) (by kernel_rfl) (by kernel_rfl) (fun _ _ d _ _ h=>by cases d <;> exact h) C.o ?_;simp only[CalmN.fN,CalmN.fv,CalmN.fo,Az,Am,Ap];repeat (go_big_quiet_step (fail))
    refine Aw ?_;intro KK db;rw[AC (by rfl)];go_wp2_with fail
    refine(dM.o wr.drew (aB (AB _ _) 1)).mono ?_;rintro _ w6 ⟨v6,rfl,cb,X⟩;have X:Below wr.heap.size wr w6:=(aB (AB _ wr) 1).trans X;have cd:=qP X;obtain⟨Ac,cc,rfl,_,_,_⟩:=aJ.form cb aI;have dR:=aA (aJ.rK cb);have dc:=aA (HW.o.on X);have aj:=V.o.below X;have dS:=aA (iL.of (n:=es.length) (w:=w6) (base:=w.heap.size+1) (NE:=w6.heap.size) ⟨aj.1,fun q hq=>(aj.2 q hq).more X.size X.size⟩ ay dQ.o);have dT:=aA (HE.o.in);have de:Hid (w.heap.size+1<=w6.heap.size):=aA dc.o.size;generalize Au.iU G k=cl at *;clear cb X aj z0 z1 z2 z3 q0;have dU:(cl.length:Int)<=287:=by have:=da.o;omega
    obtain⟨nn,a3⟩:∃nn,nn=G.ts.length+G.ns.length:=⟨_,rfl⟩
    have df:=aA a3;have D:Hid (nn<=40):=aA (by have:=dB.o;omega);have et:IntKind.i64.wrap ((G.ts.length:Int)+(G.ns.length:Int))=((nn:Nat):Int):=by rw[B3 _ (by omega),a3];omega
    have dg:((nn:Nat):Int)<=40:=by have:=D.o;omega
    clear a3;have eu:=aA ai;have ev:=aA bq;go_wp2_with fail
    refine db _ _ cd.o _ (fun _ h=>h) cd.o ?_;clear db cd C;repeat (go_big_quiet_step (fail))
    refine Aw ?_;go_wp2;go_loopw [4,7] (fun vo vi wy=>∃(i:Nat) (qs2:List QS),i<=nn/\vi=.int .i64 i/\es.length<qs2.length/\qs2.length<=300+i/\Hid (aZ qs2=(Au.fS G cl (ks,[]) ((Au.syms G).take i)).1)/\Hid (tL qs2 es)/\Hid (iL wy (w.heap.size+1) w6.heap.size es.length vo qs2 (Au.fS G cl (ks,[]) ((Au.syms G).take i)).2)/\Hid ((Au.fS G cl (ks,[]) ((Au.syms G).take i)).2.length<=i)/\Hid (bP 60 wy 0 wy.heap.size Ac cl)/\Hid (bE 26 w #[.slice AT G.ts.length cT,.slice AN G.ns.length cN,.slice AR G.rs.length cR,.int .i64 G.st] wy)/\Hid (w6.heap.size<=wy.heap.size)) (fun _ vi _=>nn-(intOf vi).toNat)
    case atStart=>exact⟨0,qs,AV _,rfl,ay,by have:=dH.o;omega,br,dT,dS,aA (by simp[Au.fS]),aA (dR.o.less (AV _)),dc,aA (Af _)⟩
    case round =>
     obtain⟨i,qs2,hi,rfl,ak,bw,l,ab,E,F,a9,r,dh⟩:=hrel;rename World=>wy;obtain⟨A2,c2,rfl,_,_,_⟩:=aJ.form E.o.o pj;have x0:=r.o.c 0 _ rfl;have x1:=r.o.c 1 _ rfl;have x2:=r.o.c 2 _ rfl;have x3:=r.o.c 3 _ rfl;by_cases ce:i<nn
     ·have di:=aA (fun(y:World) (h:Below wy.heap.size wy y)=>Ns _ G B i y (HG.o.below (r.o.on h).below a2.o) (by have:=D.o;omega) (by omega));obtain⟨s,hs⟩:∃s,s=(if(i:Int)<G.ts.length then(i:Int) else -1-((i:Int)-G.ts.length)):=⟨_,rfl⟩
      have cf:=Au.xc (G:=G) (i:=i) (by have:=df.o;omega);rw[<-hs]at di cf
      have H:Hid (Au.fS G cl (ks,[]) ((Au.syms G).take (i+1))=Au.jq G cl (Au.fS G cl (ks,[]) ((Au.syms G).take i)) s):=aA (by
       obtain⟨hl,e⟩:=Bc.1 cf;rw[AL hl,e,Au.mJ])
      have dV:=aA (fun(y:World) (h:Below wy.heap.size wy y)=>N5 _ G B cl Ac cc wy.heap.size s y (HG.o.below (r.o.on h).below a2.o) HF.o O.o (Aj a2.o (r.o.on h).below.size) (a9.o.rd.below h (Af _)) h.size dO.o dP.o (by have:=da.o;omega));have ew:=aA (Au.sz G cl s);have dj:Hid ((Au.fS G cl (ks,[]) ((Au.syms G).take i)).2.length<=1000):=aA (by have:=F.o;have:=D.o;omega);have dW:((i:Nat):Int)<((nn:Nat):Int):=by omega
      clear hs cf;generalize Au.fS G cl (ks,[]) ((Au.syms G).take i)=p at *;go_wp2_with fail
      refine(di.o wy (AB _ _)).mono ?_;rintro _ w7 ⟨rfl,az⟩;have bx:=aA az;have y0:=(r.o.on az).c 0 _ rfl;have y1:=(r.o.on az).c 1 _ rfl;have y2:=(r.o.on az).c 2 _ rfl;have y3:=(r.o.on az).c 3 _ rfl;clear az x0 x1 x2 x3;go_wp2_with fail
      refine(dV.o w7 bx.o).mono ?_;rintro _ w8 ⟨v8,rfl,bz,cg⟩;have ba:Hid (Below wy.heap.size wy w8):=aA (bx.o.trans (cg.mono bx.o.size));obtain⟨A8,c8,rfl,ch,bD,ac⟩:=aJ.form bz aI;have ci:=aA (r.o.on ba.o);have bb:=aA (E.o.below ba.o);have al:Hid (bP 60 w8 0 w8.heap.size Ac cl):=aA ((a9.o.fp fun g cur hg hc=>(ba.o.block g hg).trans hc).more ba.o.size);have bM:Hid (w6.heap.size<=w8.heap.size):=aA (Aj dh.o ba.o.size);clear y0 y1 y2 y3;by_cases a0:Au.mv G cl s=[]
      ·have HE:Hid (Au.jq G cl p s=p):=aA (by unfold Au.jq;rw[AC a0]);have dX:(((Au.mv G cl s).length:Int)==0)=true:=by rw[a0];rfl
       clear bz cg ch bD ac a0;generalize (Au.mv G cl s).length=nm at *;go_wp2;go_roundw
       case rel=>exact⟨i+1,qs2,ce,by go_num,ak,by omega,aA (by rw[H.o,HE.o];exact l.o),ab,aA (by rw[H.o,HE.o];exact bb.o),aA (by rw[H.o,HE.o];have:=F.o;omega),al,ci,bM⟩
       case measure=>simp[intOf];omega
      ·have dY:0<(Au.mv G cl s).length:=List.length_pos_iff.2 a0;have dX:(((Au.mv G cl s).length:Int)==0)=false:=by rw[Ba];omega
       have dk:=aA (PK (qs:=qs2) l.o a0);have bc:(qs2.map yf).map (·.1)=aZ qs2:=by unfold aZ yf;rw[Ef];rfl
       have aa:(qs2.map yf).length=qs2.length:=Bh _;have dZ:=aA ac
       have cj:=aA (Om (qs2.map yf) (Au.mv G cl s) A2 A8 c2 c8 w8.heap.size w8 (bb.o.rd bM.o) ac (Af _) (by rw[aa];omega) (fun x hx=>by
        obtain⟨q,hq,rfl⟩:=Bm.1 hx;obtain⟨j,hj,rfl⟩:=BF hq
        have:=(bb.o.k j hj)
        exact Aj this.1 this.2.1))
       rw[aa,bc]at cj;have d0:Hid (vp 60 w8 (w.heap.size+1) w8.heap.size (Au.mv G cl s,A8,c8)):=aA ⟨ch,by unfold maxLen at bD;exact Aj bD (by omega),(aJ.rK bz).less (Aj r.o.size bx.o.size)⟩;clear bz cg ch bD ac a0 dY bc aa;by_cases dl:Au.ij (aZ qs2) (Au.mv G cl s)<0
       focus
        have HE:=aA dk.o;rw[AC dl]at HE;generalize Au.ij (aZ qs2) (Au.mv G cl s)=fz at *;generalize dm:(Au.mv G cl s).length=nm at *;have d1:=aA dm;clear dm;go_wp2_with fail
        refine cj.o.mono ?_;rintro _ wf ⟨rfl,m⟩;have cm:=aA (bb.o.below m);have d2:=aA (ci.o.on m);have d3:=aA (d0.o.fp (N':=wf.heap.size) (fun g cur _ hc=>(m.block g (Ad.1 hc).1).trans hc) m.size);have cn:Hid (bP 60 wf 0 wf.heap.size Ac cl):=aA ((al.o.fp fun g cur hg hc=>(m.block g hg).trans hc).more m.size);have d4:Hid (w6.heap.size<=wf.heap.size):=aA (Aj bM.o m.size);clear m;obtain⟨gO,cO,d5,_,_,d6⟩:=aJ.addr cm.o.o (by omega);injection d5 with cp cq cr;subst cp;clear cq cr;have cs:=aA (cm.o.o.alloc (.cells #[.slice A8 nm c8,.slice none 0 0] 56));have cu:=aA (AG wf (.cells #[.slice A8 nm c8,.slice none 0 0] 56));have cv:=aA (cm.o.below ((AB wf.heap.size wf).alloc (Af _) (.cells #[.slice A8 nm c8,.slice none 0 0] 56)));have am:=aA (d2.o.alloc (.cells #[.slice A8 nm c8,.slice none 0 0] 56));have cw:=aA (d3.o.fp (w':=wf.alloc (.cells #[.slice A8 nm c8,.slice none 0 0] 56)) (N':=(wf.alloc (.cells #[.slice A8 nm c8,.slice none 0 0] 56)).heap.size) (fun g cur d7 hc=>(Bs wf _ g d7).trans hc) (by simp));have cx:Hid (bP 60 (wf.alloc (.cells #[.slice A8 nm c8,.slice none 0 0] 56)) 0 wf.heap.size Ac cl):=aA (cn.o.fp fun g cur hg hc=>(Bs wf _ g hg).trans hc);have cy:Hid (qs2.length<=1000):=aA (by have:=D.o;omega);have bd:Hid (es.length<qs2.length):=aA ak;have cz:Hid (qs2.length<=300+i):=aA bw;go_upto_region 18 with(at_builtin;refine xP (f:=nX) rfl (.tmp 59) (.tmp 62) _ rfl underlying49 _ 48 LU (by decide) (by decide) (by decide) pj Lg (w.heap.size+1) _ qs2 rfl cs.o _ _ (bJ (Au.mv G cl s) A8 c8) rfl (fun j u hu=>(AF _ wf.heap.size j _ _ _ cu.o).trans (Oa d1.o j u hu)) (by have:=cy.o;omega) am.o.size ?_;intro vX wX ao A;obtain⟨AX,cX0,dn,_,_,_⟩:=aJ.form ao pj;generalize dp:(qs2++[bJ (Au.mv G cl s) A8 c8]).length=lX at dn;subst dn;have bf:=aA dp;clear dp)
        have I:=aA (cv.o.snoc ao A cw.o);have cA:Hid (bE 26 w #[.slice AT G.ts.length cT,.slice AN G.ns.length cN,.slice AR G.rs.length cR,.int .i64 G.st] wX):=aA (DP am.o A am.o.size (fun k e=>(Bk cs.o k e).1));have cB:Hid (bP 60 wX 0 wX.heap.size Ac cl):=aA ((cx.o.fp fun g cur hg hc=>aH cs.o A hc fun cur=>aG (by decide)).more (by have:=A.size;simp at this;omega));have cC:Hid (w6.heap.size<=wX.heap.size):=aA (by have:=A.size;simp at this;have:=d4.o;omega);have cD:es.length<(qs2++[bJ (Au.mv G cl s) A8 c8]).length:=by have:=bd.o;rw[AW];omega
        have ap:=aA (ab.o.snoc bd.o (Au.mv G cl s) A8 c8);have cE:Hid (aZ (qs2++[bJ (Au.mv G cl s) A8 c8])=p.1++[Au.mv G cl s]):=aA (by rw[<-l.o];unfold aZ;rw[Bf];rfl);have cF:Hid ((qs2++[bJ (Au.mv G cl s) A8 c8]).length<=300+(i+1)):=aA (by rw[AW,BA];have:=cz.o;omega);obtain rfl:=bf.o;clear ao A bf ak bw;generalize qs2++[bJ (Au.mv G cl s) A8 c8]=qsX at *;have bw:=cF.o;have U:Hid (es.length<qsX.length):=aA cD
       rotate_left
       focus
        have HE:=aA dk.o;rw[AI dl]at HE;generalize Au.ij (aZ qs2) (Au.mv G cl s)=fz at *;generalize (Au.mv G cl s).length=nm at *;go_wp2_with fail
        refine cj.o.mono ?_;rintro _ wf ⟨rfl,m⟩;have I:=aA (bb.o.below m);have cA:=aA (ci.o.on m);have cB:Hid (bP 60 wf 0 wf.heap.size Ac cl):=aA ((al.o.fp fun g cur hg hc=>(m.block g hg).trans hc).more m.size);have cC:Hid (w6.heap.size<=wf.heap.size):=aA (Aj bM.o m.size);have cD:es.length<qs2.length:=ak;have ap:=ab;have cE:Hid (aZ qs2=p.1):=l;clear m;have U:Hid (es.length<qs2.length):=aA cD
       rotate_left
       all_goals
        obtain⟨Z,ad,aq⟩:=I.o.a;obtain⟨Aee,cee,ah,_,_,_⟩:=aJ.form aq aI;obtain⟨gX,cX,d8,_,_,cG⟩:=aJ.addr I.o.o (by have:=U.o;omega);injection d8 with cH cI cJ;subst cH;clear cI cJ
       focus
        have e0:wX.cell? ⟨gX,es.length*2+1,none⟩=some (.slice Aee p.2.length cee):=by
         rw[<-ah];exact aJ.cellAt I.o.o pj es.length 1 Z _ rfl
        obtain⟨curX,b⟩:∃cur,wX.heap[gX]?=some (.cells cur 56 (0,0)):=by
         rcases I.o.o.2 with⟨e,_⟩|⟨g2,cap,cur,e,_,cK,_⟩
         ·cases e
         ·injection e with e _ _;injection e with e;injection e with e;subst e;exact⟨cur,cK⟩
        have cL:=aA ((AF wX gX (es.length*2+1) _ _ _ b).symm.trans e0);rw[ah]at aq;have ar:=aA (aq.alloc (.cells #[.int .i64 s,.int .i64 (qs2.length:Int)] 91));have bT:=aA ((Bs wX (.cells #[.int .i64 s,.int .i64 (qs2.length:Int)] 91) gX (Ad.1 b).1).trans b);have au:=aA (AG wX (.cells #[.int .i64 s,.int .i64 (qs2.length:Int)] 91));have bg:=aA (I.o.below ((AB wX.heap.size wX).alloc (Af _) (.cells #[.int .i64 s,.int .i64 (qs2.length:Int)] 91)));have av:=aA (cA.o.alloc (.cells #[.int .i64 s,.int .i64 (qs2.length:Int)] 91));have ae:Hid (w6.heap.size<=(wX.alloc (.cells #[.int .i64 s,.int .i64 (qs2.length:Int)] 91)).heap.size):=aA (by have:=cC.o;simp;omega);have bh:Hid (bP 60 (wX.alloc (.cells #[.int .i64 s,.int .i64 (qs2.length:Int)] 91)) 0 wX.heap.size Ac cl):=aA (cB.o.fp fun g cur hg hc=>(Bs wX _ g hg).trans hc);have dq:=aA ah;have d9:=aA ad;have dr:=aA Z;have ea:((es.length:Nat):Int)<((qsX.length:Nat):Int):=by have:=U.o;omega
        clear ad aq b ah;go_wp2_with (at_builtin;refine xP (f:=fO) rfl (.tmp 70) (.tmp 74) _ rfl underlying54 _ 16 IY (by decide) (by decide) (by decide) aI sM w6.heap.size _ p.2 rfl ar.o _ _ (s,(qs2.length:Int)) rfl (Il (s,(qs2.length:Int)) _ _ au.o) (by have:=dj.o;omega) ae.o ?_;intro v9 w9 a1 J;obtain⟨A9,c9,bi,_,_,_⟩:=aJ.form a1 aI;generalize bj:(p.2++[(s,(qs2.length:Int))]).length=ln at bi;subst bi;have bk:=aA bj;clear bj;have M:=aH ar.o J bT.o (fun cur=>aG (by decide));have e9:=(AF w9 gX (es.length*2+1) _ _ _ M).trans cL.o;have f9:=AH w9 gX (es.length*2+1) _ _ M;have l9:=(Ad.1 M).1)
       rotate_left
       focus
        have e0:wf.cell? ⟨gX,es.length*2+1,none⟩=some (.slice Aee p.2.length cee):=by
         rw[<-ah];exact aJ.cellAt I.o.o pj es.length 1 Z _ rfl
        obtain⟨curX,b⟩:∃cur,wf.heap[gX]?=some (.cells cur 56 (0,0)):=by
         rcases I.o.o.2 with⟨e,_⟩|⟨g2,cap,cur,e,_,cK,_⟩
         ·cases e
         ·injection e with e _ _;injection e with e;injection e with e;subst e;exact⟨cur,cK⟩
        have cL:=aA ((AF wf gX (es.length*2+1) _ _ _ b).symm.trans e0);rw[ah]at aq;have ar:=aA (aq.alloc (.cells #[.int .i64 s,.int .i64 fz] 91));have bT:=aA ((Bs wf (.cells #[.int .i64 s,.int .i64 fz] 91) gX (Ad.1 b).1).trans b);have au:=aA (AG wf (.cells #[.int .i64 s,.int .i64 fz] 91));have bg:=aA (I.o.below ((AB wf.heap.size wf).alloc (Af _) (.cells #[.int .i64 s,.int .i64 fz] 91)));have av:=aA (cA.o.alloc (.cells #[.int .i64 s,.int .i64 fz] 91));have ae:Hid (w6.heap.size<=(wf.alloc (.cells #[.int .i64 s,.int .i64 fz] 91)).heap.size):=aA (by have:=cC.o;simp;omega);have bh:Hid (bP 60 (wf.alloc (.cells #[.int .i64 s,.int .i64 fz] 91)) 0 wf.heap.size Ac cl):=aA (cB.o.fp fun g cur hg hc=>(Bs wf _ g hg).trans hc);have dq:=aA ah;have d9:=aA ad;have dr:=aA Z;have ea:((es.length:Nat):Int)<((qs2.length:Nat):Int):=by have:=U.o;omega
        clear ad aq b ah;go_wp2_with (at_builtin;refine xP (f:=fO) rfl (.tmp 70) (.tmp 74) _ rfl underlying54 _ 16 IY (by decide) (by decide) (by decide) aI sM w6.heap.size _ p.2 rfl ar.o _ _ (s,fz) rfl (Il (s,fz) _ _ au.o) (by have:=dj.o;omega) ae.o ?_;intro v9 w9 a1 J;obtain⟨A9,c9,bi,_,_,_⟩:=aJ.form a1 aI;generalize bj:(p.2++[(s,fz)]).length=ln at bi;subst bi;have bk:=aA bj;clear bj;have M:=aH ar.o J bT.o (fun cur=>aG (by decide));have e9:=(AF w9 gX (es.length*2+1) _ _ _ M).trans cL.o;have f9:=AH w9 gX (es.length*2+1) _ _ M;have l9:=(Ad.1 M).1)
       rotate_left
       all_goals
        have bl:=aA (bg.o.jq dr.o a1 (by rw[bk.o]) (by rw[dq.o];exact J));have bX:=J.size;have af:(w9.setCell ⟨gX,es.length*2+1,none⟩ (.slice A9 ln c9)).heap.size=w9.heap.size:=by simp
        have ds:Hid (bE 26 w #[.slice AT G.ts.length cT,.slice AN G.ns.length cN,.slice AR G.rs.length cR,.int .i64 G.st] (w9.setCell ⟨gX,es.length*2+1,none⟩ (.slice A9 ln c9))):=aA (EB (DP av.o J av.o.size (fun k e=>Aj de.o (Bk ar.o k e).1)) cG _)
        have dt:Hid (bP 60 (w9.setCell ⟨gX,es.length*2+1,none⟩ (.slice A9 ln c9)) 0 (w9.setCell ⟨gX,es.length*2+1,none⟩ (.slice A9 ln c9)).heap.size Ac cl):=aA ((bh.o.fp fun g cur hg hc=>(AU w9 ⟨gX,es.length*2+1,none⟩ _ g (fun e=>by
         have e:g=gX:=e;rw[e,bT.o]at hc;injection hc with hc;exact aG (by decide) hc)).trans (aH ar.o J hc fun cur=>aG (by decide))).more (by rw[af];simp at bX;omega))
        have du:Hid (w6.heap.size<=(w9.setCell ⟨gX,es.length*2+1,none⟩ (.slice A9 ln c9)).heap.size):=aA (by rw[af];exact Aj ae.o bX)
       focus
        have N:Hid ((qsX.set es.length ((qsX[es.length]).1,(p.2++[(s,(qs2.length:Int))],A9,c9))).length=qsX.length):=aA BX
        have cM:Hid (aZ (qsX.set es.length ((qsX[es.length]).1,(p.2++[(s,(qs2.length:Int))],A9,c9)))=aZ qsX):=aA (by
         unfold aZ;rw[Cv];refine CU fun j=>?_;rw[Db];by_cases bm:es.length=j
         ·subst bm;rw[AC rfl,AC (by simpa using Z),Bv,AD Z];rfl
         ·rw[AI bm])
        have aw:Hid (tL (qsX.set es.length ((qsX[es.length]).1,(p.2++[(s,(qs2.length:Int))],A9,c9))) es):=aA (ap.o.set _);have ax:Hid ((p.2++[(s,(qs2.length:Int))]).length<=i+1):=aA (by have:=F.o;rw[AW,BA];omega);rw[<-N.o];generalize qsX.set es.length ((qsX[es.length]).1,(p.2++[(s,(qs2.length:Int))],A9,c9))=qs9 at *;clear a1 J M e9 f9 l9 e0 bX af;go_roundw
        case rel=>exact⟨i+1,qs9,ce,by go_num,by rw[N.o];exact U.o,by rw[N.o];omega,aA (by rw[H.o,HE.o,cM.o];exact cE.o),aw,aA (by rw[H.o,HE.o,N.o];exact bl.o),aA (by rw[H.o,HE.o];exact ax.o),dt,ds,du⟩
        case measure=>simp[intOf];omega
       focus
        have N:Hid ((qs2.set es.length ((qs2[es.length]).1,(p.2++[(s,fz)],A9,c9))).length=qs2.length):=aA BX
        have cM:Hid (aZ (qs2.set es.length ((qs2[es.length]).1,(p.2++[(s,fz)],A9,c9)))=aZ qs2):=aA (by
         unfold aZ;rw[Cv];refine CU fun j=>?_;rw[Db];by_cases bm:es.length=j
         ·subst bm;rw[AC rfl,AC (by simpa using Z),Bv,AD Z];rfl
         ·rw[AI bm])
        have aw:Hid (tL (qs2.set es.length ((qs2[es.length]).1,(p.2++[(s,fz)],A9,c9))) es):=aA (ap.o.set _);have ax:Hid ((p.2++[(s,fz)]).length<=i+1):=aA (by have:=F.o;rw[AW,BA];omega);rw[<-N.o];generalize qs2.set es.length ((qs2[es.length]).1,(p.2++[(s,fz)],A9,c9))=qs9 at *;clear a1 J M e9 f9 l9 e0 bX af;go_roundw
        case rel=>exact⟨i+1,qs9,ce,by go_num,by rw[N.o];exact U.o,by rw[N.o];omega,aA (by rw[H.o,HE.o,cM.o];exact cE.o),aw,aA (by rw[H.o,HE.o,N.o];exact bl.o),aA (by rw[H.o,HE.o];exact ax.o),dt,ds,du⟩
        case measure=>simp[intOf];omega
     ·obtain rfl:i=nn:=by omega
      have dv:(Au.syms G).take i=Au.syms G:=Cf (by rw[Au.ni];have:=df.o;omega);rw[dv,<-dN.o]at l E F;have HA:=aA (E.o.st dh.o de.o);have dw:(qs2[es.length]'ak).2.1=(Au.one G ks es.length).2:=E.o.a.2.1;have eb:Hid (xE qs2 (es++[(Au.one G ks es.length).2])):=aA (by rw[<-dw];exact ab.o.o ak);have dx:Hid ((Au.one G ks es.length).1.length=qs2.length):=aA (by rw[<-l.o];unfold aZ;rw[Bh]);have ex:¬((i:Nat):Int)<((i:Nat):Int):=by omega
      have ey:(qs2.length:Int)<=1000:=by have:=D.o;omega
      clear dw dv bw hi;by_cases ag:300<(Au.one G ks es.length).1.length
      ·have bo:=aA (Au.jw HR.o (by rw[<-b6.o,c6.o,AC ag]));have ec:(300:Int)<((qs2.length:Nat):Int):=by rw[<-dx.o];omega
       clear ag ak ai cY;generalize qs2.length=nq at *;go_wp2
       go_ret2
       exact tJ.nil bo.o r.o.below
      ·have cP:Hid (Au.run G (302-(es++[(Au.one G ks es.length).2]).length) (Au.one G ks es.length).1 (es++[(Au.one G ks es.length).2])=Au.lK G):=aA (by rw[<-b6.o,c6.o,AI ag]);have ec:((qs2.length:Nat):Int)<=(300:Int):=by rw[<-dx.o];omega
       have ed:(Au.one G ks es.length).1.length<=300:=by omega
       have ee:Hid ((es++[(Au.one G ks es.length).2]).length=es.length+1):=aA (by simp);have ef:Hid ((es++[(Au.one G ks es.length).2]).length<=(Au.one G ks es.length).1.length):=aA c7.o.le;clear ag;go_wp2;go_roundw
       case rel =>
        exact⟨_,_,_,_,⟨(Au.one G ks es.length).1,es++[(Au.one G ks es.length).2],by rw[ee.o];go_num,ed,ef.o,c7,cP,qs2,l,eb,HA⟩,rfl,rfl,rfl,rfl⟩
       case measure=>simp[intOf];omega
   ·have dy:es.length=ks.length:=by omega
    have bo:=aA (Au.kH HR.o (by rw[<-b6.o];exact Au.ku dy bq));have b0:=HE.o.zip (by omega);rw[br.o]at b0;have dz:=aA (pD.rd V.o (Af _) (Af _));rw[b0]at dz;obtain⟨A9,c9,eg,bu,bv,_⟩:=aJ.form V.o.1 pj;injection eg with cQ cU cV;subst cV;have dA:Hid ((Au.lL G).length=qs.length):=aA (by rw[bo.o.2,<-b0,Bh]);have eh:=aA bu;have ei:=aA (show co<=9223372036854775807 by unfold maxLen at bv;omega);have ez:¬((es.length:Nat):Int)<((qs.length:Nat):Int):=by omega
    clear b0 bu bv ai dy cY bq b7 cQ cU;generalize es.length=ne at *;generalize qs.length=nq at *;go_wp2
    go_ret2
    refine⟨Ao,co,?_,by rw[dA.o];exact eh.o,ei.o,by rw[bo.o.2];exact dz.o,HW.o.below⟩;rw[dA.o,bo.o.1];rfl
theorem Q5:(prog.info? 52).map (fun i=>(i.zero,i.size,i.bytes))=some (some (.slice none 0 0),1,24):=by kernel_rfl
theorem PD:(prog.info? 41).map (fun i=>(i.zero,i.size,i.bytes))=some (some (.slice none 0 0),1,24):=by kernel_rfl
theorem Ig {α:Type} (r:RW α) (n:Nat) (hn:r.1.length=n) (w:World) (g:Nat) (T:TypeId) (hb:w.heap[g]?=some (.cells #[.slice r.2.1 n r.2.2] T (0,0))):∀j u,(je r)[j]?=some u->w.cell? ⟨g,j,none⟩=some u:=fun j u hu=>by
 subst hn;refine(AF w g j _ _ _ hb).trans ?_
 match j,hu with
 | 0,hu=>exact hu
 | j+1,hu=>simp[je]at hu
theorem Oj (v:Value) (G:Gm.Gr) (B:Nat) (w:World) (hg:aT w B v G) (hf:Gm.Fit G) (hB:B<=w.heap.size) :
  Calls prog 11 #[v] w (yc G w):=by
 have dw:=aA (fun y (h:Below w.heap.size w y)=>Ng v G B y (hg.below h hB) hf (Aj hB h.size));have et:=aA hg;have cy:=aA hf;have cz:=aA hB;obtain⟨AT,cT,AN,cN,AR,cR,rfl,_⟩:=hg;obtain⟨w1,bh⟩:∃y,y=w.alloc (.cells #[.slice AT G.ts.length cT,.slice AN G.ns.length cN,.slice AR G.rs.length cR,.int .i64 G.st] 26):=⟨_,rfl⟩
 have bv:Hid (Below w.heap.size w w1):=aA (by rw[bh];exact(AB _ _).alloc (Af _) _);have bw:Hid (w1.heap[w.heap.size]?=some (.cells #[.slice AT G.ts.length cT,.slice AN G.ns.length cN,.slice AR G.rs.length cR,.int .i64 G.st] 26 (0,0))):=aA (by rw[bh];exact AG w _);have HS:=aA (dw.o w1 bv.o);have x0:=aS bw.o;have x1:=aX bw.o;have x2:=aY bw.o;have x3:=bI bw.o;clear hf hB dw
 have he:Gm.jE G=true/\(∃p,Au.lK G=some p)\/Au.jv G≠0/\Au.lL G=[]/\Lk.kP G=[]:=by
  cases hb:Gm.jE G with
  | false=>exact .inr ⟨by rw[(Au.kG hb).1];decide,(Au.kG hb).2,Lk.sq hb⟩
  | true =>
   cases hk:Au.lK G with
   | none=>exact .inr ⟨by rw[(Au.jw hb hk).1];decide,(Au.jw hb hk).2,Lk.oQ hb hk⟩
   | some p=>exact .inl ⟨rfl,p,rfl⟩
 rcases he with⟨hb,⟨K,E⟩,hk⟩|⟨he,hs,hl⟩
 rotate_left
 ·have HE:=aA hl;unfold tJ at HS;rw[hs]at HS;have fa:(Au.jv G != 0)=true:=by simpa using he
  have fc:Hid (Au.jv G=Au.jv G):=aA rfl;clear he hs hl
  go_enter func11,ntmps11
  go_upto_region 1 with fail
  rw[<-bh];clear bh;go_wp2_with fail
  refine HS.o.mono ?_;rintro _ w2 ⟨Aa,ca,rfl,_,_,_,bi⟩;have bj:=aA (bv.o.trans (bi.mono bv.o.size));clear bi x0 x1 x2 x3;generalize ([]:List qV).length=nz at *;go_wp2
  go_ret2
  exact yc.nil rfl HE.o bj.o
 ·have HE:=aA (BD (Au.kH hb hk) (Lk.su hb hk));have V:=aA (Au.ji hk);have hz:(K.zip E).length=K.length:=by rw[List.length_zip,V.o.2.1,Nat.min_self]
  have ad:=aA (Gm.ft.1 (Gm.fY hb));have cA:=aA hb;have eu:=aA hk;have HZ:=aA hz;unfold tJ at HS;rw[HE.o.1.1,HE.o.1.2]at HS;clear hb hk hz;have ev:=fun(A:Option Addr) (n c:Nat) w=>(EG w 76 _ _ (by kernel_rfl):(Instr.build 76 #[(0,.agg #[.slice AT G.ts.length cT,.slice AN G.ns.length cN,.slice AR G.rs.length cR,.int .i64 G.st]),(1,.slice A n c)]).run prog w=.ok (.agg #[.slice AT G.ts.length cT,.slice AN G.ns.length cN,.slice AR G.rs.length cR,.int .i64 G.st,.slice A n c,.slice none 0 0,.slice none 0 0,.bool false]) w)
  go_enter func11,ntmps11
  go_upto_region 1 with fail
  rw[<-bh];clear bh;go_wp2_with fail
  refine HS.o.mono ?_;rintro _ w2 ⟨Aa,ca,rfl,ew,ex,dx,bi⟩;have bj:=aA (bv.o.trans (bi.mono bv.o.size));have bk:=aA (aC bi bw.o);have ey:=aA dx;clear bi x0 x1 x2 x3 dx ew ex HS;have x0:=aS bk.o;have x1:=aX bk.o;have x2:=aY bk.o;have x3:=bI bk.o;have ez:Hid (w.heap.size<w2.heap.size):=aA (Ad.1 bk.o).1;rw[HZ.o];obtain⟨n,hn⟩:∃n,K.length=n:=⟨_,rfl⟩
  rw[hn];have HN:=aA hn;have fd:(n:Int)<=300:=by have:=V.o.2.2;omega
  clear hn;go_upto_region 5 with fail
  obtain⟨gw,bx⟩:∃g,g=w2.heap.size:=⟨_,rfl⟩
  obtain⟨w3,cb⟩:∃y,y=w2.alloc (.cells #[.slice AT G.ts.length cT,.slice AN G.ns.length cN,.slice AR G.rs.length cR,.int .i64 G.st,.slice Aa n ca,.slice none 0 0,.slice none 0 0,.bool false] 76):=⟨_,rfl⟩
  rw[<-cb,<-bx];have dy:Hid (iM w3 gw gw (.slice AT G.ts.length cT) (.slice AN G.ns.length cN) (.slice AR G.rs.length cR) (.int .i64 G.st) (.slice Aa n ca) (.slice none 0 0) (.slice none 0 0) false [] []):=aA ⟨by rw[cb,bx];exact AG w2 _,aJ.nil _ _,by simp,aJ.nil _ _,fun i hi=>absurd hi (by simp),fun i j hi=>absurd hi (by simp),Af _⟩;have dz:Hid (Below gw w2 w3):=aA (by rw[cb,bx];exact(AB _ _).alloc (Af _) _);have ae:Hid (w2.heap.size=gw):=aA bx.symm;have cB:w.heap.size<gw:=by have:=ez.o;omega
  have dA:=aA cB;have cC:=aA (fun y (h:Below gw w2 y)=>et.o.below (bj.o.trans (h.mono (by have:=bj.o.size;omega))) cz.o);have dB:=aA (fun y (h:Below gw w2 y)=>(show B<=y.heap.size from by have:=h.size;have:=ae.o;have:=cz.o;have:=dA.o;omega));have cD:=aA (fun y (h:Below gw w2 y)=>(h.block w.heap.size cB).trans bk.o);have dC:=aA (fun y (h:Below gw w2 y)=>(show bW y gw Aa (K.zip E) from ae.o▸ey.o.below (ae.o▸h) (Af _)));clear cb bx ev x0 x1 x2 x3 cB;go_wp2;go_loopw [7] (fun vi wr=>∃(i:Nat) (lv sv:Value) (rl:List (RW Au.It)) (sl:List (RW Nat)),i<=n/\vi=.int .i64 i/\Hid (iM wr gw gw (.slice AT G.ts.length cT) (.slice AN G.ns.length cN) (.slice AR G.rs.length cR) (.int .i64 G.st) (.slice Aa n ca) lv sv false rl sl)/\Hid (rl.map (·.1)=(Lk.fq G K).take i)/\Hid (sl.map (·.1)=Lk.j5 (rl.map (·.1)))/\Hid (Below gw w2 wr)) (fun vi _=>n-(intOf vi).toNat)
  case atStart=>exact⟨0,_,_,[],[],AV _,rfl,dy,aA (by simp),aA rfl,dz⟩
  case round =>
   clear dy dz;obtain⟨i,lv,sv,rl,sl,hi,rfl,HA,HL,cc,HB⟩:=hrel;rename World=>wr;by_cases H:i<n
   ·have dD:(K.zip E).length≠0:=by rw[HZ.o,HN.o];omega
    obtain⟨ga,oa,rfl,eA,dE⟩:=dC.o wr HB.o dD;have dF:i<(K.zip E).length:=by rw[HZ.o,HN.o];exact H
    have a0:i<K.length:=by rw[HN.o];exact H
    obtain⟨⟨A',c',k1,dG,eB,cE⟩,-⟩:=dE i dF;have dH:((K.zip E)[i]).1=K.getD i []:=by rw[List.getElem_zip,Ag,AD a0];rfl
    rw[dH]at k1 dG cE;have cF:K.getD i []∈K:=by rw[Ag,AD a0];exact AE a0
    have bz:=Au.lQ ad.o ad.o.kz V.o.1 cF
    have dI:Hid (Au.mF G (K.getD i [])=(Lk.fq G K).getD i []):=aA (by
     unfold Au.mF;rw[AC (Gm.fY cA.o),List.filter_eq_self.2 (V.o.1.it _ cF).2,Lk.ic a0])
    have eC:Hid ((Lk.fq G K).take (i+1)=(Lk.fq G K).take i++[(Lk.fq G K).getD i []]):=aA (by
     have h:i<(Lk.fq G K).length:=by rw[Lk.gQ];exact a0
     rw[AL h,Ag,AD h];rfl)
    have bD:Hid (((Lk.fq G K).getD i []).length<=287):=aA (by rw[Lk.ic a0];exact Au.kU ad.o ad.o.kz _);have bl:=aA (fun(y:World) (h:Below wr.heap.size wr y)=>Nv _ G B (K.getD i []) A' c' gw y (cC.o y (HB.o.trans (h.mono (by have:=HB.o.size;have:=ae.o;omega)))) cy.o (dB.o y (HB.o.trans (h.mono (by have:=HB.o.size;have:=ae.o;omega)))) (cE.below h (by have:=HB.o.size;have:=ae.o;omega)) (by have:=h.size;have:=HB.o.size;have:=ae.o;omega) (by omega));rw[dI.o]at bl;have hx:=cD.o wr HB.o;have z0:∀z:Calm.On wr.heap.size wr,z.1.cell? ⟨w.heap.size,0,none⟩=some (.slice AT G.ts.length cT):=fun z=>aS (aC z.2 hx);have z1:∀z:Calm.On wr.heap.size wr,z.1.cell? ⟨w.heap.size,1,none⟩=some (.slice AN G.ns.length cN):=fun z=>aX (aC z.2 hx);have z2:∀z:Calm.On wr.heap.size wr,z.1.cell? ⟨w.heap.size,2,none⟩=some (.slice AR G.rs.length cR):=fun z=>aY (aC z.2 hx);have z3:∀z:Calm.On wr.heap.size wr,z.1.cell? ⟨w.heap.size,3,none⟩=some (.int .i64 G.st):=fun z=>bI (aC z.2 hx);have z4:∀z:Calm.On wr.heap.size wr,z.1.cell? ⟨ga,oa+i*2,none⟩=some (.slice A' (K.getD i []).length c'):=fun z=>(z.2.cell (p:=⟨ga,oa+i*2,none⟩) (Cr _ _ k1)).trans k1;have a1:=aW wr;have ap:=aA H;have fe:((i:Nat):Int)<((n:Nat):Int):=by omega
    have dJ:rl.length=i:=by
     have:=congrArg List.length HL.o
     rw[Bh,Bd,Lk.gQ]at this;omega
    have dK:sl.length=i:=by
     have:=congrArg List.length cc.o
     unfold Lk.j5 at this;rw[Bh,Bh,Bh]at this;omega
    have bM:=aA (BD dJ dK);clear dD eA dE dF a0 k1 dG eB cE dH cF bz dI hx H dJ dK;generalize (K.getD i []).length=nk at *;go_wp2_with fail
    refine CalmN.fk (fun x=>∃z:Calm.On wr.heap.size wr,x=z.1) (.one [0,1,2,3,4,5] 6 (.fin [7])) (by kernel_rfl) (by kernel_rfl) (fun _ _ d _ _ h=>by cases d <;> exact h) a1.o ?_;simp only[CalmN.fN,CalmN.fv,CalmN.fo,Az,Am,Ap];repeat (go_big_quiet_step (fail))
    refine Aw ?_;intro KK C;rw[AC (by rfl)];go_wp2_with fail
    refine(bl.o wr.drew (aB (AB _ _) 1)).mono ?_;rintro _ w8 ⟨v8,rfl,a2,dL⟩;obtain⟨A8,c8,rfl,dM,dN,_⟩:=aJ.form a2 aI;have cd:Hid (Below wr.heap.size wr w8):=aA ((aB (AB _ wr) 1).trans dL);have a3:=qP cd.o;have aq:=aA (HA.o.below cd.o);have ce:=aA (HB.o.trans (cd.o.mono (by have:=HB.o.size;have:=ae.o;omega)));have dO:Hid (bO 60 2 fO w8 0 w8.heap.size (((Lk.fq G K).getD i [],A8,c8):RW Au.It)):=aA ⟨dM,by unfold maxLen at dN;simp only;omega,(aJ.uS a2 aI).less (AV _)⟩;clear a2 dL dM dN z0 z1 z2 z3 z4 a1 bl;generalize hq:(Lk.fq G K).getD i []=ls at *;have HQ:=aA hq;clear hq;obtain⟨nl,a4⟩:∃m,ls.length=m:=⟨_,rfl⟩
    rw[a4];have cf:=aA a4;have dP:(nl:Int)<=287:=by have:=bD.o;omega
    clear a4;go_wp2_with fail
    refine C _ _ a3.o _ (fun _ h=>h) a3.o ?_;clear C;repeat (go_big_quiet_step (fail))
    refine Aw ?_;clear a3;have D:Hid (Below w8.heap.size w8 (w8.alloc (.cells #[.slice A8 nl c8] 52))):=aA ((AB _ _).alloc (Af _) _);have J:=aA (AG w8 (.cells #[.slice A8 nl c8] 52));have a5:=aA (aq.o.below D.o);have bm:=aA ((dO.o.below D.o (Af _)).more D.o.size);have cG:Hid (gw<=(w8.alloc (.cells #[.slice A8 nl c8] 52)).heap.size):=aA (Aj aq.o.fC D.o.size);have dQ:Hid (Below gw w2 (w8.alloc (.cells #[.slice A8 nl c8] 52))):=aA (ce.o.trans (D.o.mono aq.o.fC));have c5:=rT aq.o.k;have l5:=(Ad.1 aq.o.k).1;go_wp2_with (at_builtin;refine xP (f:=je (α:=Au.It)) rfl (.tmp 46) (.tmp 48) _ rfl underlying73 _ 24 Q5 (by decide) (by decide) (by decide) tD Iu gw _ rl rfl a5.o.l _ _ ((ls,A8,c8):RW Au.It) rfl (Ig ((ls,A8,c8):RW Au.It) nl cf.o _ _ _ J.o) (by have:=bM.o;omega) cG.o ?_;intro v9 w9 ar O;have cg:=aH a5.o.l O a5.o.k (fun cur=>aG (by decide));have q5:=rT cg;have f5:=AH w9 _ 5 _ _ cg;have l9:=(Ad.1 cg).1;obtain⟨A9,c9,rfl,_,_,_⟩:=aJ.form ar tD;have bo:=aA (BD ar O);clear ar O cg;generalize ab:(rl++[((ls,A8,c8):RW Au.It)]).length=ln at *;have ch:=aA ab;clear ab)
    have cH:=aA (a5.o.Hl bo.o.1 bo.o.2 ((bm.o.fp fun g cur _ _ h2=>aH a5.o.l bo.o.2 h2 fun c=>aG (by decide)).more bo.o.2.size));have cI:Hid (Below gw w2 (w9.setCell ⟨gw,5,none⟩ (.slice A9 ln c9))):=aA ((dQ.o.grown bo.o.2 cG.o (fun k e=>(Bk a5.o.l k e).1)).setCell (Af _) _);clear c5 l5 q5 f5 l9 a5 bm aq dO bo ch J D cG dQ ce cd;obtain⟨wb,dR⟩:∃y,y=w9.setCell ⟨gw,5,none⟩ (.slice A9 ln c9):=⟨_,rfl⟩
    rw[<-dR]at cH cI ⊢;clear dR;have I:Hid (∀y:World,∃z:jg [] wb,y=z.1):=aA (fun y=>⟨⟨y,fun _ h=>by cases h⟩,rfl⟩);have U:=aA (show iM wb.drew gw gw _ _ _ _ _ _ _ _ _ _ from cH.o.below (aB (AB wb.heap.size wb) 1));have ci:Hid (Below gw w2 wb.drew):=aA (aB cI.o 1);refine CalmN.fk (fun x=>∃z:jg [] wb,x=z.1) (.two [0,1,2,3,5,6] 4 (.one [] 7 (.one [] 8 (.one [] 9 (.one [10,11] 12 (.fin []))))) 7 (.two [] 4 (.one [] 8 (.one [] 9 (.one [10,11] 12 (.fin [])))) 8 (.one [] 4 (.one [] 9 (.one [10,11] 12 (.fin [])))))) (by kernel_rfl) (by kernel_rfl) (fun _ _ d _ _ h=>by cases d <;> exact h) (I.o _) ?_;simp only[CalmN.fN,CalmN.fv,CalmN.fo,Az,Am,Ap];repeat (go_big_quiet_step (fail))
    refine Aw ?_;generalize wb.drew=wd at *;have c6:=xw U.o.k;have l6:=(Ad.1 U.o.k).1;obtain⟨gz,dS⟩:∃g,g=wd.heap.size:=⟨_,rfl⟩
    have af:=aA dS;clear dS cH cI;refine⟨?_,?_⟩
    focus
     intro KK C;rw[AC (by rfl)];go_wp2_with fail
     refine C _ _ (I.o _) _ (fun _ h=>h) (I.o _) ?_;clear C;refine Aw ?_;intro KK C;rw[AC (by rfl)];refine I1 (.tmp 58) (.tmp 58) _ rfl underlying41 nl rfl rfl (by omega) ?_;intro wm hu hb;rw[<-af.o]at hu hb ⊢;have cj:=aA (BD hu hb);clear hu hb;refine C _ _ (I.o _) _ (fun _ h=>h) (I.o _) ?_;clear C;refine Aw ?_;intro KK C;rw[AC (by rfl)];go_wp2_with fail
     refine C _ _ (I.o _) _ (fun _ h=>h) (I.o _) ?_
    rotate_left
    focus
     intro KK C;rw[AC (by rfl)];refine I1 (.tmp 58) (.tmp 58) _ rfl underlying41 nl rfl rfl (by omega) ?_;intro wm hu hb;rw[<-af.o]at hu hb ⊢;have cj:=aA (BD hu hb);have q6:=(hb.cell (p:=⟨gw,6,none⟩) (by rw[af.o];exact l6)).trans c6;have m6:=Ah l6 hb.size;have q6a:=((hb.alloc (by rw[af.o];exact hb.size) (.cells #[.slice (some ⟨gz,0,none⟩) nl nl] 41)).cell (p:=⟨gw,6,none⟩) (by rw[af.o];exact l6)).trans c6;clear hu hb c6 l6;refine C _ _ (I.o _) _ (fun _ h=>h) (I.o _) ?_;clear C;refine Aw ?_;refine⟨?_,?_⟩
     all_goals
      intro KK C;rw[AC (by rfl)];go_wp2_with fail
      refine C _ _ (I.o _) _ (fun _ h=>h) (I.o _) ?_;clear C;refine Aw ?_;intro KK C;rw[AC (by rfl)];go_wp2_with fail
      refine C _ _ (I.o _) _ (fun _ h=>h) (I.o _) ?_
    all_goals
     clear C;refine Aw ?_;intro KK C;rw[AC (by rfl)];have hb:=cj.o.2;have ck:Below wd.heap.size wd (wm.alloc (.cells #[.slice (some ⟨gz,0,none⟩) nl nl] 41)):=by rw[<-af.o];exact hb.alloc (by rw[af.o];exact hb.size) _
     have bp:=aA (U.o.below ck);have dT:=aA (cj.o.1.alloc (.cells #[.slice (some ⟨gz,0,none⟩) nl nl] 41));have ag:=aA (AG wm (.cells #[.slice (some ⟨gz,0,none⟩) nl nl] 41));have cJ:Hid (gw<=(wm.alloc (.cells #[.slice (some ⟨gz,0,none⟩) nl nl] 41)).heap.size):=aA (Aj U.o.fC ck.size);have dU:=aA (ci.o.trans (ck.mono U.o.fC))
     have dV:Hid (∀i (hi:i<sl.length),sl[i].2.1≠some ⟨gz,0,none⟩):=aA (fun i hi e=>by
      obtain⟨g',h1,_,_,h4⟩:=U.o.sr i hi;rw[e]at h1;injection h1 with h1;injection h1 with h1
      have:=h4.lt
      rw[<-h1,af.o]at this;exact Nat.lt_irrefl _ this)
     clear hb ck;refine GQ (f:=je (α:=Nat)) (.tmp 56) (.tmp 60) _ rfl underlying74 _ 24 PD (by decide) (by decide) (by decide) tD Iu gw sv sl rfl bp.o.s _ _ ((List.replicate nl 0,some ⟨gz,0,none⟩,nl):RW Nat) rfl (Ig ((List.replicate nl 0,some ⟨gz,0,none⟩,nl):RW Nat) nl (by simp) _ _ _ ag.o) (by have:=bM.o;omega) cJ.o ?_;intro v10 w10 a6 ah;have ai:=aH bp.o.s ah bp.o.k (fun cur=>aG (by decide));have p6:=xw ai;have f6:=AH w10 _ 6 _ _ ai;have l10:=(Ad.1 ai).1;have cK:=aA (bp.o.Hm (by simp) a6 ah (by have:=U.o.fC;rw[af.o];exact this) dT.o dV.o);have cL:Hid (Below gw w2 (w10.setCell ⟨gw,6,none⟩ v10)):=aA ((dU.o.grown ah cJ.o (fun k e=>(Bk bp.o.s k e).1)).setCell (Af _) _);obtain⟨A10,c10,rfl,_,_,_⟩:=aJ.form a6 tD;have cM:Hid ((rl++[((ls,A8,c8):RW Au.It)]).map (·.1)=(Lk.fq G K).take (i+1)):=aA (by rw[Bf,HL.o,eC.o];rfl)
     have cP:Hid ((sl++[((List.replicate nl 0,some ⟨gz,0,none⟩,nl):RW Nat)]).map (·.1)=Lk.j5 ((rl++[((ls,A8,c8):RW Au.It)]).map (·.1))):=aA (by
      unfold Lk.j5;rw[Bf,cc.o,Bf,Bf];unfold Lk.j5;simp[<-cf.o,List.map_const'])
     clear a6 ah ai bp dT ag cJ dU dV cj;generalize ab:(sl++[((List.replicate nl 0,some ⟨gz,0,none⟩,nl):RW Nat)]).length=ln at *;clear ab;refine C _ _ (I.o _) _ (fun _ h=>h) (I.o _) ?_;clear C
     go_frame
     repeat (go_big_quiet_step (fail))
     refine Aw ?_;intro KK C;rw[AC (by rfl)];go_wp2_with fail
     refine C _ _ (I.o _) _ (fun _ h=>h) (I.o _) ?_;clear C p6 f6 l10;refine Aw ?_;go_wp2;go_roundw
     case rel=>exact⟨i+1,_,_,_,_,ap.o,by go_num,cK,cM,cP,cL⟩
     case measure=>simp[intOf];have:=ap.o;omega
   ·obtain rfl:n=i:=by omega
    have au:(Lk.fq G K).take n=Lk.fq G K:=Cf (by rw[Lk.gQ,HN.o];exact Af _);rw[au]at HL;have bT:Hid (sl.map (·.1)=Lk.j5 (Lk.fq G K)):=aA (by rw[cc.o,HL.o])
    have aj:Hid (rl.length=n):=aA (by
     have:=congrArg List.length HL.o
     rw[Bh,Lk.gQ]at this;rw[this,HN.o])
    have eD:Hid (sl.length=n):=aA (by
     have:=congrArg List.length bT.o
     unfold Lk.j5 at this;rw[Bh,Bh,Lk.gQ]at this;rw[this,HN.o])
    have cm:Hid (0<n):=aA (by
     rw[<-HN.o];exact(Bc.1 V.o.1.h0).1)
    have cQ:=aA (fun(r:RW Au.It) (hr:r∈rl)=>(show r.1.length<=287 from by
     have h1:r.1∈Lk.fq G K:=by rw[<-HL.o];exact DK hr
     obtain⟨k,_,e⟩:=Bm.1 h1;rw[<-e];exact Au.kU ad.o ad.o.kz _))
    have cS:G.ts.length<=24:=((Gm.fZ G.ts).1 ad.o.t).1;have cU:=aA cS
    have dW:(2:Nat) ^ G.ts.length<4294967296:=by
     have:=BQ (n:=2) (by decide) cS
     omega
    have dX:=aA (fun(y:World) (h:Below wr.heap.size wr y)=>Ik y gw gw _ _ _ _ _ _ _ _ rl sl 0 (-1,0) (2 ^ G.ts.length) (HA.o.below h) (by rw[HL.o,bT.o];exact Lk.lD _) (by rw[aj.o];exact cm.o) dW (Lk.rO (by rw[bT.o];exact Lk.sR _)) (fun r hr=>by have:=cQ.o r hr;omega));have hx:=cD.o wr HB.o;have x0:=aS hx;have dY:=aA (fun y=>KH (G.ts.length:Int) y (by omega));have dZ:S.bit (G.ts.length:Int)=2 ^ G.ts.length:=S.kT (by omega);rw[dZ]at dY;have lx:=(Ad.1 hx).1;clear hx dZ au cS dW hi H;go_wp2_with fail
    refine(dY.o _).mono ?_;rintro _ w4 ⟨rfl,nq,d0⟩;have cV:Hid (Below wr.heap.size wr w4):=aA (by rw[d0];exact aB (AB _ _) _);have cW:=aA (dX.o w4 cV.o);have d2:lI (-1,0)=.agg #[.int .i64 (-1),.int .i64 0]:=rfl;rw[d2]at cW;clear d0 x0 lx dX d2;go_wp2_with fail
    refine cW.o.mono ?_;rintro _ w5 ⟨rfl,sl1,cn,cX,d3,eE⟩;rw[HL.o,bT.o]at cn cX;have d4:Hid (sl1.map (·.1)=Lk.pI G (Lk.fq G K)):=aA cX
    have d5:Hid (iM w5 gw gw (.slice AT G.ts.length cT) (.slice AN G.ns.length cN) (.slice AR G.rs.length cR) (.int .i64 G.st) (.slice Aa n ca) lv sv true rl sl1):=aA (by
     have h:decide (Lk.gv (Lk.fq G K) (Lk.j5 (Lk.fq G K)) 0 (-1,0) (2 ^ G.ts.length)≠Lk.j5 (Lk.fq G K))=true:=AQ (Lk.yk V.o.1);rw[h]at cn;exact cn)
    have d6:=aA ((HB.o.trans (cV.o.mono HA.o.fC)).trans d3);have ak:=aA (BD (Lk.ou.Jk (K:=K) (E:=E) V.o.1) (Lk.vU (G:=G) (Lk.fq G K) cU.o));clear cn cX d3 eE cW HA HB cV cc bT;go_wp2
    go_loopg [] (2*Lk.lO (sl1.map (·.1))+1) (fun k wr=>∃(b:Bool) (sl2:List (RW Nat)),Hid (iM wr gw gw (.slice AT G.ts.length cT) (.slice AN G.ns.length cN) (.slice AR G.rs.length cR) (.int .i64 G.st) (.slice Aa n ca) lv sv b rl sl2)/\Hid (Lk.ou G K E (sl2.map (·.1))/\Lk.jP (sl2.map (·.1)))/\Hid (b=false->∀p∈Lk.rC (Lk.fq G K),Lk.ps G (Lk.jZ K E) (Lk.fq G K) (sl2.map (·.1)) p=sl2.map (·.1))/\Hid (Below gw w2 wr)/\Hid (k=2*Lk.lO (sl2.map (·.1))+if b=true then 1 else 0))
    case atStart=>exact⟨true,sl1,d5,by rw[d4.o];exact ak,aA (by simp),d6,aA rfl⟩
    case round =>
     clear d5 d4 d6 ak;obtain⟨b,sl2,HA,ak,cY,HB,cZ⟩:=hrel;rename World=>wr;have c7:=GX HA.o.k;have l7:=(Ad.1 HA.o.k).1;cases b with
     | true =>
      have f7:=AH wr _ 7 _ _ HA.o.k;have d7:=aA (HA.o.flag false);have d8:Hid (Below gw w2 (wr.setCell ⟨gw,7,none⟩ (.bool false))):=aA (HB.o.setCell (Af _) _);obtain⟨S0,c3⟩:∃S,S=sl2.map (·.1):=⟨_,rfl⟩
      rw[<-c3]at ak cZ;have a1:=aA c3;have d9:Hid (Lk.ov G K E S0 S0):=aA ⟨ak.o.1,ak.o.2,.refl _⟩;have bm:=aA (fun l=>Lk.ov.all V.o.1 V.o.2.1 ad.o l S0 d9.o);have c4:Hid ((Lk.fq G K).length=n):=aA (by rw[Lk.gQ,HN.o]);have ea:Hid ((K.zip E).length=n):=aA (by rw[HZ.o,HN.o]);clear c3 cY HA HB;go_wp2;clear c7 l7 f7;go_loopw [9] (fun vi wy=>∃(i:Nat) (sl3:List (RW Nat)),i<=n/\vi=.int .i64 i/\Hid (iM wy gw gw (.slice AT G.ts.length cT) (.slice AN G.ns.length cN) (.slice AR G.rs.length cR) (.int .i64 G.st) (.slice Aa n ca) lv sv (decide ((Lk.iP (Lk.fq G K) i 0).foldl (Lk.ps G (Lk.jZ K E) (Lk.fq G K)) S0≠S0)) rl sl3)/\Hid (sl3.map (·.1)=(Lk.iP (Lk.fq G K) i 0).foldl (Lk.ps G (Lk.jZ K E) (Lk.fq G K)) S0)/\Hid (Below gw w2 wy)) (fun vi _=>n-(intOf vi).toNat)
      case atStart=>exact⟨0,sl2,AV _,rfl,aA (by have h:decide (S0≠S0)=false:=AM (fun k=>k rfl);show iM _ gw gw (.slice AT G.ts.length cT) (.slice AN G.ns.length cN) (.slice AR G.rs.length cR) (.int .i64 G.st) (.slice Aa n ca) lv sv (decide (S0≠S0)) rl _;rw[h];exact d7.o),aA a1.o.symm,d8⟩
      case round =>
       clear d7 d8;obtain⟨i,sl3,hi,rfl,HA,HM,HB⟩:=hrel;rename World=>wy;by_cases H:i<n
       ·have ap:=aA H;have da:rl.length=n:=aj.o;have F:i<rl.length:=by omega
        have av:Hid ((rl[i]'F).1=(Lk.fq G K).getD i []):=aA (by
         rw[<-HL.o,Ag,Bv,AD F];rfl)
        have a9:=aA F;have eF:decide (i<n)=true:=AQ H;clear H da;go_wp2;go_loopw [10] (fun vk wz=>∃(k:Nat) (sl4:List (RW Nat)),k<=((Lk.fq G K).getD i []).length/\vk=.int .i64 k/\Hid (iM wz gw gw (.slice AT G.ts.length cT) (.slice AN G.ns.length cN) (.slice AR G.rs.length cR) (.int .i64 G.st) (.slice Aa n ca) lv sv (decide ((Lk.iP (Lk.fq G K) i k).foldl (Lk.ps G (Lk.jZ K E) (Lk.fq G K)) S0≠S0)) rl sl4)/\Hid (sl4.map (·.1)=(Lk.iP (Lk.fq G K) i k).foldl (Lk.ps G (Lk.jZ K E) (Lk.fq G K)) S0)/\Hid (Below gw w2 wz)) (fun vk _=>((Lk.fq G K).getD i []).length-(intOf vk).toNat)
        case atStart=>exact⟨0,sl3,AV _,rfl,HA,HM,HB⟩
        case round =>
         clear HA HM HB;obtain⟨k,sl4,hk,rfl,HA,HM,HB⟩:=hrel;rename World=>wz;have c5:=rT HA.o.k;obtain⟨gl,cl,bX,m0,-⟩:=HA.o.items a9.o;rw[bX]at c5;rw[av.o]at m0;have ff:((i:Nat):Int)<((rl.length:Nat):Int):=by have:=a9.o;omega
         have eG:(((Lk.fq G K).getD i []).length:Int)<=287:=by have:=cQ.o _ (AE a9.o);rw[av.o]at this;omega
         have fg:=aA bX;clear bX;by_cases X:k<((Lk.fq G K).getD i []).length
         ·have M:=aA X;have eH:((k:Nat):Int)<((((Lk.fq G K).getD i []).length:Nat):Int):=by omega
          have cp:=aA (bm.o (Lk.iP (Lk.fq G K) i k));have ag:Hid ((Lk.iP (Lk.fq G K) i (k+1)).foldl (Lk.ps G (Lk.jZ K E) (Lk.fq G K)) S0=Lk.ps G (Lk.jZ K E) (Lk.fq G K) ((Lk.iP (Lk.fq G K) i k).foldl (Lk.ps G (Lk.jZ K E) (Lk.fq G K)) S0) (i,k)):=aA (by rw[Lk.rD,Dj];rfl);have b0:=Oi wz gw gw (.slice AT G.ts.length cT) (.slice AN G.ns.length cN) (.slice AR G.rs.length cR) (.int .i64 G.st) lv sv Aa ca gw _ G K E rl sl4 i k (by rw[ea.o];exact HA.o) ((cC.o wz HB.o).more (by have:=cz.o;have:=dA.o;omega)) cy.o (Af _) cA.o eu.o (dC.o wz HB.o) HL.o (by rw[HL.o,HM.o];exact cp.o.r.f) (Lk.rO (by rw[HM.o];exact cp.o.u)) a9.o (by rw[av.o];exact X);rw[ea.o,HL.o,HM.o]at b0;have b0:=aA b0;clear X;generalize ((Lk.fq G K).getD i []).length=nk at *;go_wp2_with fail
          refine b0.o.mono ?_;rintro _ w7 ⟨rfl,sl5,db,dc,eb,_⟩;rw[Lk.sA cp.o.l (Lk.sF _ _ cp.o.r.f).2,<-ag.o]at db;rw[<-ag.o]at dc;have eI:=aA db;have eJ:=aA dc;have eK:=aA (HB.o.trans eb);clear db dc eb b0 c5 m0;go_wp2;go_roundw
          case rel=>exact⟨k+1,sl5,M.o,by go_num,eI,eJ,eK⟩
          case measure=>simp[intOf];have:=M.o;omega
         ·obtain rfl:k=((Lk.fq G K).getD i []).length:=by omega
          rw[Lk.th]at HA HM;generalize ((Lk.fq G K).getD i []).length=nk at *;go_wp2;go_roundw
          case rel=>exact⟨i+1,sl4,ap.o,by go_num,HA,HM,HB⟩
          case measure=>simp[intOf];have:=ap.o;omega
       ·obtain rfl:n=i:=by omega
        have ec:Lk.iP (Lk.fq G K) n 0=Lk.rC (Lk.fq G K):=by rw[<-Lk.tg,c4.o]
        rw[ec]at HA HM;have cq:=aA (bm.o (Lk.rC (Lk.fq G K)));have eL:=aA (fun(e:(Lk.rC (Lk.fq G K)).foldl (Lk.ps G (Lk.jZ K E) (Lk.fq G K)) S0=S0)=>Lk.ou.still d9.o.r e);clear ec bm H hi;generalize (Lk.rC (Lk.fq G K)).foldl (Lk.ps G (Lk.jZ K E) (Lk.fq G K)) S0=S1 at *
        have eM:Hid (2*Lk.lO S1+(if decide (S1≠S0)=true then 1 else 0)<gk):=aA (by
         rw[cZ.o];by_cases e:S1=S0
         ·subst e;rw[AM (fun k=>k rfl)];simp
         ·rw[AQ e]
          have:=Lk.wF cq.o.l cq.o.u (fun k=>e k.symm)
          simp
          omega)
        have de:Hid (decide (S1≠S0)=false->∀p∈Lk.rC (Lk.fq G K),Lk.ps G (Lk.jZ K E) (Lk.fq G K) (sl3.map (·.1)) p=sl3.map (·.1)):=aA (fun h=>by
         have e:S1=S0:=by simpa using h
         rw[HM.o,e];exact eL.o e)
        go_wp2
        go_roundg (2*Lk.lO S1+(if decide (S1≠S0)=true then 1 else 0))
        case rel=>exact⟨decide (S1≠S0),sl3,HA,by rw[HM.o];exact aA ⟨cq.o.r,cq.o.u⟩,de,HB,by rw[HM.o];exact aA rfl⟩
        case measure=>exact eM.o
     | false =>
      have HD:=aA (ak.o.1.done (cY.o rfl))
      have df:sl2.length=n:=by
       have:=HD.o.f.1
       rw[Bh,Lk.gQ]at this;rw[this,HN.o]
      obtain⟨gl,cl,bX,-,-⟩:=HA.o.items (q:=0) (by rw[aj.o];exact cm.o);obtain⟨gs,cs,-,eN,-⟩:=HA.o.uU (q:=0) (by rw[df];exact cm.o);subst bX eN
      have dg:=aA (fun i (hi:i<n)=>(show Lk.gF G ((Lk.fq G K).getD i []) ((sl2.map (·.1)).getD i []) ((Lk.fq G K).getD i []).length=Lk.iE G K E i from by
       have:=Lk.uB HD.o V.o.1 V.o.2.1 ad.o (by rw[HN.o];exact hi)
       rw[Lk.ic (by rw[HN.o];exact hi)];exact this))
      have eO:=aA ak.o.2;have eP:=aA HD.o.f;have eQ:Hid (sl2.length=n):=aA df;obtain⟨N1,ed⟩:∃N,N=wr.heap.size:=⟨_,rfl⟩
      have dh:Hid (gw<=N1/\N1<=wr.heap.size):=aA ⟨by rw[ed];exact HA.o.fC,by omega⟩;clear ak cY cZ HD ed df;go_wp2;clear c7 l7;go_loopw [11,12] (fun vo vi wz=>∃(i:Nat) (A:Option Addr) (c:Nat) (rs:List (RW (Int×Int))),i<=n/\vo=.slice A i c/\vi=.int .i64 i/\Hid (aJ 36 1 je wz N1 (.slice A i c) rs)/\Hid (rs.map (·.1)=(List.range i).map (Lk.iE G K E))/\Hid (∀r∈rs,bO 46 2 kJ wz 0 wz.heap.size r)/\Hid (iM wz gw gw (.slice AT G.ts.length cT) (.slice AN G.ns.length cN) (.slice AR G.rs.length cR) (.int .i64 G.st) (.slice Aa n ca) (.slice (some ⟨gl,0,none⟩) rl.length cl) (.slice (some ⟨gs,0,none⟩) sl2.length cs) false rl sl2)/\Hid (Below gw w2 wz)/\Hid (N1<=wz.heap.size)) (fun _ vi _=>n-(intOf vi).toNat)
      case atStart=>exact⟨0,none,0,[],AV _,rfl,rfl,aA (aJ.nil _ _),aA rfl,aA (by simp),HA,HB,aA dh.o.2⟩
      case round =>
       clear HA HB;obtain⟨i,Ao,co,rs,hi,rfl,rfl,HO,di,aw,HA,HB,ee⟩:=hrel;rename World=>wz
       have b1:rs.length=i:=by
        have:=congrArg List.length di.o
        simpa using this
       have al:=aA b1;clear b1;by_cases H:i<n
       ·have ap:=aA H;have F:i<rl.length:=by rw[aj.o];exact H
        have Z:i<sl2.length:=by rw[eQ.o];exact H
        have a9:=aA (BD F Z)
        have av:Hid ((rl[i]'F).1=(Lk.fq G K).getD i []):=aA (by
         rw[<-HL.o,Ag,Bv,AD F];rfl)
        have ef:Hid ((sl2[i]'Z).1=(sl2.map (·.1)).getD i []):=aA (by
         rw[Ag,Bv,AD Z];rfl)
        have cr:Hid (((sl2.map (·.1)).getD i []).length=((Lk.fq G K).getD i []).length):=aA (eP.o.2 i);have ba:Hid (((Lk.fq G K).getD i []).length<=287):=aA (by have:=cQ.o _ (AE F);rw[av.o]at this;exact this);have eg:=aA (fun x (hx:x∈(Lk.fq G K).getD i [])=>Au.jR (Lk.iW hx).2);have dj:=aA (dg.o i H);have eh:=aA (eO.o i);have eF:decide (i<n)=true:=AQ H;have eR:((i:Nat):Int)<((rl.length:Nat):Int):=by omega
        have eS:((i:Nat):Int)<((sl2.length:Nat):Int):=by omega
        obtain⟨N2,cu⟩:∃N,N=wz.heap.size:=⟨_,rfl⟩
        rw[<-cu]at aw;have ax:Hid (N2<=wz.heap.size):=aA (by omega);have b2:Hid (N1<=N2):=aA (by rw[cu];exact ee.o)
        have b3:Hid ((gw<N2/\gl<N2/\gs<N2)/\(∀g,(sl2[i]'Z).2.1=some ⟨g,0,none⟩->g<N2)/\∀g o,(rl[i]'F).2.1=some ⟨g,o,none⟩->(rl[i]'F).1.length≠0->g<N2):=aA (by
         rw[cu];obtain⟨gl',cl',e,m0,bq⟩:=HA.o.items F;injection e with e _ _;injection e with e;injection e with e;subst e;obtain⟨gs',cs',g',e,s1,s2,s3,s4,_⟩:=HA.o.uU Z;injection e with e _ _;injection e with e;injection e with e;subst e;refine⟨⟨(Ad.1 HA.o.k).1,Cr _ _ m0,Cr _ _ s1⟩,fun g h=>?_,fun g o h hn=>?_⟩
         ·rw[s2]at h;injection h with h;injection h with h;subst h;exact s4.lt
         ·obtain⟨g2,o2,h2,h3,_⟩:=bq hn;rw[h]at h2;injection h2 with h2;injection h2 with h2;subst h2;exact h3)
        clear H cu;obtain⟨ls,ei⟩:∃l,l=(Lk.fq G K).getD i []:=⟨_,rfl⟩
        obtain⟨row,b4⟩:∃l,l=(sl2.map (·.1)).getD i []:=⟨_,rfl⟩
        rw[<-ei]at av cr ba eg dj;rw[<-b4]at ef cr dj eh;clear ei b4;go_wp2;go_loopw [13,14] (fun vo vk wy=>∃(k:Nat) (A:Option Addr) (c:Nat),k<=ls.length/\vo=.slice A (Lk.gF G ls row k).length c/\vk=.int .i64 k/\Hid (aJ 46 2 kJ wy N2 (.slice A (Lk.gF G ls row k).length c) (Lk.gF G ls row k))/\Hid (aJ 36 1 je wy N1 (.slice Ao i co) rs)/\Hid (∀r∈rs,bO 46 2 kJ wy 0 N2 r)/\Hid (iM wy gw gw (.slice AT G.ts.length cT) (.slice AN G.ns.length cN) (.slice AR G.rs.length cR) (.int .i64 G.st) (.slice Aa n ca) (.slice (some ⟨gl,0,none⟩) rl.length cl) (.slice (some ⟨gs,0,none⟩) sl2.length cs) false rl sl2)/\Hid (Below gw w2 wy)/\Hid (N2<=wy.heap.size)) (fun _ vk _=>ls.length-(intOf vk).toNat)
        case atStart=>exact⟨0,none,0,AV _,rfl,rfl,aA (aJ.nil _ _),HO,aw,HA,HB,ax⟩
        case round =>
         clear HO aw HA HB ee ax;obtain⟨k,A1,c1,hk,rfl,rfl,b5,HO,aw,HA,HB,ax⟩:=hrel;rename World=>wy;obtain⟨gl',cl',e,m0,bq⟩:=HA.o.items a9.o.1;injection e with e e2 e3;injection e with e;injection e with e;subst e e3;rw[av.o]at m0 bq;have c5:=rT HA.o.k;have eT:(ls.length:Int)<=287:=by have:=ba.o;omega
         by_cases X:k<ls.length
         ·obtain⟨gi,oi,dk,ej,dl⟩:=bq (by omega);have e0:=dl k X 0 (.int .i64 (ls[k]).1) rfl;have e1:=dl k X 1 (.int .i64 (ls[k]).2) rfl;rw[Dp]at e0;rw[dk]at m0;have M:=aA X;have eH:((k:Nat):Int)<((ls.length:Nat):Int):=by omega
          have ek:Hid (ls.getD k (0,0)=ls[k]):=aA (by rw[Ag,AD X];rfl);have eU:=aA (eg.o _ (AE X));have ac:=aA (Lk.mG (G:=G) ls row k);rw[ek.o]at ac;have eV:=aA (Lk.sV (G:=G) ls row k);clear dl bq ek;generalize (ls[k]'X)=x at *;clear X;have ay:Au.kD G x=Au.nx G x:=by unfold Au.kD;rw[AC (Gm.fY cA.o),Au.oT eU.o]
          have ag:=aA (fun(y:World) (hy:Below wy.heap.size wy y)=>J1 _ G B x y (cC.o y (HB.o.trans (hy.mono HA.o.fC))) cy.o (dB.o y (HB.o.trans (hy.mono HA.o.fC))));rw[ay]at ag;have hx:=cD.o wy HB.o;have z0:∀z:Calm.On wy.heap.size wy,z.1.cell? ⟨w.heap.size,0,none⟩=some (.slice AT G.ts.length cT):=fun z=>aS (aC z.2 hx);have z1:∀z:Calm.On wy.heap.size wy,z.1.cell? ⟨w.heap.size,1,none⟩=some (.slice AN G.ns.length cN):=fun z=>aX (aC z.2 hx);have z2:∀z:Calm.On wy.heap.size wy,z.1.cell? ⟨w.heap.size,2,none⟩=some (.slice AR G.rs.length cR):=fun z=>aY (aC z.2 hx);have z3:∀z:Calm.On wy.heap.size wy,z.1.cell? ⟨w.heap.size,3,none⟩=some (.int .i64 G.st):=fun z=>bI (aC z.2 hx);have z4:∀z:Calm.On wy.heap.size wy,z.1.cell? ⟨gw,5,none⟩=some (.slice (some ⟨gl,0,none⟩) rl.length cl):=fun z=>rT (aC z.2 HA.o.k);have M0:=aA (fun(y:World) (h:Below wy.heap.size wy y)=>(h.cell (p:=⟨gl,i,none⟩) (Cr _ _ m0)).trans m0);have E0:=aA (fun(y:World) (h:Below wy.heap.size wy y)=>(h.cell (p:=⟨gi,oi+k*2,none⟩) ej).trans e0);have E1:=aA (fun(y:World) (h:Below wy.heap.size wy y)=>(h.cell (p:=⟨gi,oi+k*2+1,none⟩) ej).trans e1);have z5:=fun z:Calm.On wy.heap.size wy=>M0.o z.1 z.2;have z6:=fun z:Calm.On wy.heap.size wy=>E0.o z.1 z.2;have z7:=fun z:Calm.On wy.heap.size wy=>E1.o z.1 z.2;have a1:=aW wy;clear ay hx e0 e1;go_upto_region 29 with fail
          clear c5 m0;refine CalmN.fk (fun x=>∃z:Calm.On wy.heap.size wy,x=z.1) (.one [0,1,2,3,4,5,6,7,8,9,10] 11 (.fin [12,13,14,15,16])) (by kernel_rfl) (by kernel_rfl) (fun _ _ d _ _ h=>by cases d <;> exact h) a1.o ?_;simp only[CalmN.fN,CalmN.fv,CalmN.fo,Az,Am,Ap];repeat (go_big_quiet_step (fail))
          refine Aw ?_;intro KK C;rw[AC (by rfl)];go_wp2_with fail
          refine(ag.o wy.drew (aB (AB _ _) 1)).mono ?_;rintro _ w6 ⟨rfl,el⟩;have am:Hid (Below wy.heap.size wy w6):=aA ((aB (AB _ wy) 1).trans el);have ao:=qP am.o;have br:=aA (HA.o.below am.o);have bb:=aA (b5.o.below am.o (Af _));have dm:=aA (HO.o.below am.o (Af _));have bc:=aA (fun r hr=>(aw.o r hr).below am.o ax.o);have dn:=aA (HB.o.trans (am.o.mono HA.o.fC));have dp:=aA (Aj ax.o am.o.size);have m0:=M0.o w6 am.o;have e0:=E0.o w6 am.o;have c5:=rT br.o.k;clear el z0 z1 z2 z3 z4 z5 z6 z7 a1 ag HA b5 HO aw HB ax M0 E0 E1;have cv:Lk.xI G x=((Au.nx G x).isNone&&decide (0<=x.1)):=rfl;rw[cv]at ac;cases ay:Au.nx G x with
          | some s =>
           rw[ay]at ac;have az:Hid (Lk.gF G ls row (k+1)=Lk.gF G ls row k):=aA (by rw[ac.o];simp);clear ay cv ac;go_wp2_with fail
           refine C _ _ ao.o _ (fun _ h=>h) ao.o ?_;clear C;repeat (go_big_quiet_step (fail))
           refine Aw ?_;clear ao;go_wp2;go_roundw
           case rel=>exact⟨k+1,A1,c1,M.o,by rw[az.o],by go_num,by rw[az.o];exact bb,dm,bc,br,dn,dp⟩
           case measure=>simp[intOf];have:=M.o;omega
          | none =>
           rw[ay]at ac;by_cases cw:0<=x.1
           ·have d1:decide (0<=x.1)=true:=AQ cw;have az:Hid (Lk.gF G ls row (k+1)=Lk.gF G ls row k++[(x.1,(row.getD k 0:Int))]):=aA (by rw[ac.o,d1];simp);clear ay cv ac cw;have eW:=aA (b3.o.2.2 gi oi dk (by rw[av.o];have:=M.o;omega));obtain⟨gs',cs',g,e,s1,s2,s3,s4,_,_⟩:=br.o.uU a9.o.2;injection e with e e2 e3;injection e with e;injection e with e;subst e e3;rw[ef.o]at s1 s4;have eX:=aA (b3.o.2.1 g s2);have u0:=s4.cell k (by rw[cr.o];exact M.o);have fh:((k:Nat):Int)<((row.length:Nat):Int):=by have:=cr.o;have:=M.o;omega
            have eY:Hid (∀b∈[gw,gl,gi,gs,g],b<N2):=aA (by
             intro b hb;simp only[Bu,List.not_mem_nil,or_false]at hb;rcases hb with rfl|rfl|rfl|rfl|rfl
             ·exact b3.o.1.1
             ·exact b3.o.1.2.1
             ·exact eW.o
             ·exact b3.o.1.2.2
             ·exact eX.o)
            have c6:=xw br.o.k;have z5:∀z:jg [gw,gl,gi,gs,g] w6,z.1.cell? ⟨gw,5,none⟩=some (.slice (some ⟨gl,0,none⟩) rl.length cl):=fun z=>(z.cell (by simp)).trans c5;have z6:∀z:jg [gw,gl,gi,gs,g] w6,z.1.cell? ⟨gw,6,none⟩=some (.slice (some ⟨gs,0,none⟩) sl2.length cs):=fun z=>(z.cell (by simp)).trans c6;have z7:=fun z:jg [gw,gl,gi,gs,g] w6=>(z.cell (p:=⟨gl,i,none⟩) (by simp)).trans m0;have z8:=fun z:jg [gw,gl,gi,gs,g] w6=>(z.cell (p:=⟨gi,oi+k*2,none⟩) (by simp)).trans e0;have z9:=fun z:jg [gw,gl,gi,gs,g] w6=>(z.cell (p:=⟨gs,i,none⟩) (by simp)).trans s1;have z10:=fun z:jg [gw,gl,gi,gs,g] w6=>(z.cell (p:=⟨g,k,none⟩) (by simp)).trans u0;have bs:Hid (∀z:World,(∀b<N2,z.heap[b]?=w6.heap[b]?)->∃y:jg [gw,gl,gi,gs,g] w6,z=y.1):=aA (fun z h=>⟨⟨z,fun b hb=>h b (eY.o b hb)⟩,rfl⟩);have eZ:=aA (bs.o w6.drew (fun _ _=>rfl));have fi:=eh.o k;clear dk s2 s3 s4 c6;go_wp2_with fail
            refine C _ _ ao.o _ (fun _ h=>h) ao.o ?_;clear C;repeat (go_big_quiet_step (fail))
            refine Aw ?_;clear ao;go_upto_region 31 with fail
            clear c5 m0 e0 s1 u0;refine CalmN.fk (fun x=>∃z:jg [gw,gl,gi,gs,g] w6,x=z.1) (.one [0,1,2,3,4,5,6,7,8,9,10,11,12,13,14,15,16,17,18,19,20,21,22] 23 (.one [] 24 (.fin [25]))) (by kernel_rfl) (by kernel_rfl) (fun _ _ d _ _ h=>by cases d <;> exact h) eZ.o ?_;simp only[CalmN.fN,CalmN.fv,CalmN.fo,Az,Am,Ap];repeat (go_big_quiet_step (fail))
            refine Aw ?_;clear z5 z6 z7 z8 z9 z10;have U:=aA (show iM w6.drew gw gw _ _ _ _ _ _ _ _ _ _ from br.o.below (aB (AB w6.heap.size w6) 1));have b6:Hid (aJ 46 2 kJ w6.drew N2 (.slice A1 (Lk.gF G ls row k).length c1) (Lk.gF G ls row k)):=aA (bb.o.below (aB (AB w6.heap.size w6) 1) (Af _));have dq:Hid (aJ 36 1 je w6.drew N1 (.slice Ao i co) rs):=aA (dm.o.below (aB (AB w6.heap.size w6) 1) (Af _));have b7:Hid (∀r∈rs,bO 46 2 kJ w6.drew 0 N2 r):=bc;have ci:Hid (Below gw w2 w6.drew):=aA (aB dn.o 1);have cx:Hid (N2<=w6.drew.heap.size):=dp;have bs:Hid (∀z:World,(∀b<N2,z.heap[b]?=w6.drew.heap[b]?)->∃y:jg [gw,gl,gi,gs,g] w6,z=y.1):=bs;generalize w6.drew=wd at *;generalize Lk.gF G ls row k=xs at *;have D:Hid (Below wd.heap.size wd (wd.alloc (.cells #[.int .i64 x.1,.int .u32 ((row.getD k 0:Nat):Int)] 46))):=aA ((AB _ _).alloc (Af _) _);have J:=aA (AG wd (.cells #[.int .i64 x.1,.int .u32 ((row.getD k 0:Nat):Int)] 46));have dr:=aA (bs.o (wd.alloc (.cells #[.int .i64 x.1,.int .u32 ((row.getD k 0:Nat):Int)] 46)) (fun b hb=>D.o.block b (Ah hb cx.o)));have aa:=aA (b6.o.below D.o (Af _));have bd:=aA (Aj cx.o D.o.size);intro KK C;rw[AC (by rfl)];go_wp2_with fail
            refine C _ _ dr.o _ (fun _ h=>h) dr.o ?_;clear C;refine Aw ?_;intro KK C;rw[AC (by rfl)];refine GQ (f:=kJ) (.tmp 149) (.tmp 172) _ rfl underlying36 _ 16 LW (by decide) (by decide) (by decide) xO LK N2 _ xs rfl aa.o _ _ (x.1,((row.getD k 0:Nat):Int)) rfl (Ks (x.1,((row.getD k 0:Nat):Int)) _ _ J.o) (by have:=eV.o;have:=M.o;have:=ba.o;omega) bd.o ?_;intro v8 w8 a2 bu;have bf:∀b,(Value.slice A1 xs.length c1).ownBlock=some b->N2<=b:=fun b e=>(Bk aa.o b e).1;have bg:∀b<N2,w8.heap[b]?=wd.heap[b]?:=fun b hb=>(bu.block b (Ah hb bd.o) (fun e=>by have:=bf b e.symm;omega)).trans (D.o.block b (Ah hb cx.o));have a3:=aA (bs.o w8 bg);have aq:=aA ((U.o.below D.o).grown aa.o bu (by decide) (by decide) (by decide) (by decide) (by decide));have e4:=aA (AO (dq.o.below D.o (Af _)) bu (aP (dq.o.below D.o (Af _)) aa.o (by decide)));have ds:=aA (fun r hr=>(b7.o r hr).fp fun b cur _ h1 h2=>(bg b h1).trans h2);have ce:=aA ((ci.o.trans (D.o.mono U.o.fC)).grown bu (Aj U.o.fC D.o.size) (fun b e=>by have:=bf b e;have:=dh.o;have:=b2.o;omega));have e5:=aA (Aj bd.o bu.size);obtain⟨A8,c8,rfl,_,_,_⟩:=aJ.form a2 xO;have dt:=aA a2;clear a2 bu bf bg U b6 dq b7 ci cx bs D J dr aa bd;generalize ab:(xs++[(x.1,((row.getD k 0:Nat):Int))]).length=ln at *;have ch:=aA ab;clear ab;refine C _ _ a3.o _ (fun _ h=>h) a3.o ?_;clear C a3
            go_frame
            repeat (go_big_quiet_step (fail))
            refine Aw ?_;go_wp2;go_roundw
            case rel=>exact⟨k+1,A8,c8,M.o,by rw[az.o,ch.o],by go_num,by rw[az.o,ch.o];exact dt,e4,ds,aq,ce,e5⟩
            case measure=>simp[intOf];have:=M.o;omega
           ·have d1:decide (0<=x.1)=false:=AM cw;have az:Hid (Lk.gF G ls row (k+1)=Lk.gF G ls row k):=aA (by rw[ac.o,d1];simp);clear ay cv ac cw;go_wp2_with fail
            refine C _ _ ao.o _ (fun _ h=>h) ao.o ?_;clear C;repeat (go_big_quiet_step (fail))
            refine Aw ?_;clear ao;go_wp2;go_roundw
            case rel=>exact⟨k+1,A1,c1,M.o,by rw[az.o],by go_num,by rw[az.o];exact bb,dm,bc,br,dn,dp⟩
            case measure=>simp[intOf];have:=M.o;omega
         ·obtain rfl:k=ls.length:=by omega
          rw[dj.o]at b5 ⊢;have du:Hid ((rs++[((Lk.iE G K E i,A1,c1):RW (Int×Int))]).map (·.1)=(List.range (i+1)).map (Lk.iE G K E)):=aA (by rw[Bf,di.o,CH,Bf];rfl)
          have e6:Hid (bO 46 2 kJ wy 0 wy.heap.size ((Lk.iE G K E i,A1,c1):RW (Int×Int))):=aA (by
           obtain⟨A9,c9,e9,h1,h2,_⟩:=aJ.form b5.o xO;injection e9 with e1 e2 e3;subst e1 e3;exact⟨h1,by unfold maxLen at h2;simp only;omega,(b5.o.uS xO).less (AV _)⟩)
          clear bq;generalize Lk.iE G K E i=xs at *;obtain⟨nl,a4⟩:∃m,xs.length=m:=⟨_,rfl⟩
          rw[a4];have cf:=aA a4;clear a4;have D:Hid (Below wy.heap.size wy (wy.alloc (.cells #[.slice A1 nl c1] 36))):=aA ((AB _ _).alloc (Af _) _);have J:=aA (AG wy (.cells #[.slice A1 nl c1] 36));have aa:=aA (HO.o.below D.o (Af _));have bd:Hid (N1<=(wy.alloc (.cells #[.slice A1 nl c1] 36)).heap.size):=aA (Aj b2.o (Aj ax.o D.o.size));go_wp2_with (at_builtin;refine xP (f:=je (α:=Int×Int)) rfl (.tmp 174) (.tmp 176) _ rfl underlying30 _ 24 Lz (by decide) (by decide) (by decide) tD Iu N1 _ rs rfl aa.o _ _ ((xs,A1,c1):RW (Int×Int)) rfl (Ig ((xs,A1,c1):RW (Int×Int)) nl cf.o _ _ _ J.o) (by have:=al.o;omega) bd.o ?_;intro v9 w9 ar O;have em:=(HA.o.below D.o).grown aa.o O (by decide) (by decide) (by decide) (by decide) (by decide);have eo:∀r∈rs++[((xs,A1,c1):RW (Int×Int))],bO 46 2 kJ w9 0 w9.heap.size r:=(fun r hr=>by rcases Bt.1 hr with hr|hr;exact(((aw.o r hr).more ax.o).below D.o (Af _)).more D.o.size |>.fp (fun b cur _ _ h2=>aH aa.o O h2 fun c=>aG (by decide)) |>.more O.size;rw[AP.1 hr];exact((e6.o.below D.o (Af _)).more D.o.size).fp (fun b cur _ _ h2=>aH aa.o O h2 fun c=>aG (by decide)) |>.more O.size);have ep:=(HB.o.trans (D.o.mono HA.o.fC)).grown O (Aj HA.o.fC D.o.size) (fun b e=>by have:=(Bk aa.o b e).1;have:=dh.o;omega);obtain⟨A9,c9,rfl,_,_,_⟩:=aJ.form ar tD;have ab:(rs++[((xs,A1,c1):RW (Int×Int))]).length=i+1:=(by rw[AW,BA,al.o]);rw[ab]at ar ⊢;have b9:=aA (BD ar (BD eo (BD em (BD ep (Aj bd.o O.size)))));clear ar O em eo ep ab)
          go_roundw
          case rel=>exact⟨i+1,A9,c9,_,ap.o,rfl,by go_num,aA b9.o.1,du,aA b9.o.2.1,aA b9.o.2.2.1,aA b9.o.2.2.2.1,aA b9.o.2.2.2.2⟩
          case measure=>simp[intOf];have:=ap.o;omega
       ·obtain rfl:n=i:=by omega
        have HR:Hid ((List.range n).map (Lk.iE G K E)=Lk.kP G):=aA (by rw[HE.o.2,HN.o]);have er:Hid ((Lk.kP G).length=n):=aA (by rw[<-HR.o];simp);obtain⟨gO,cO,e,dv,es,_⟩:=aJ.addr HO.o (by rw[al.o];have:=cm.o;omega);injection e with e _ e2;subst e e2
        have e7:Hid (lY 2 kJ wz wz.heap.size (some ⟨gO,0,none⟩) (Lk.kP G)):=aA (by
         rw[<-HR.o,<-di.o];refine lY.of (Bk HO.o gO rfl).2 (fun k hk=>?_) aw.o
         have:=aJ.cellAt HO.o tD k 0 hk _ rfl
         rw[DG,Dp]at this;exact this)
        have bl:Hid (n<=co/\co<=9223372036854775807):=aA ⟨by rw[al.o]at dv;exact dv,by unfold maxLen at es;omega⟩;have e8:=aA (bj.o.trans (HB.o.mono (by have:=bj.o.size;have:=ae.o;omega)));clear dv es H;go_wp2
        go_ret2
        refine⟨some ⟨gO,0,none⟩,co,?_,by rw[er.o];exact bl.o.1,bl.o.2,e7.o,e8.o⟩;rw[er.o,HE.o.1.1];rfl
theorem N4 (rows:List (List (Int×Int))) (A A':Option Addr) (c c' B:Nat) (w:World) (hs:lY 2 kJ w B A rows) (ad:lY 2 kJ w B A' rows) (hB:B<=w.heap.size) (hn:rows.length<=100000) (hl:∀r∈rows,r.length<=1000000) :
  Calls prog 12 #[.slice A rows.length c,.slice A' rows.length c'] w fun e w'=>e=.returned (.bool true)/\Below w.heap.size w w':=by
 have HS:=aA hs;have ak:=aA ad;have HB:=aA hB;have HL:=aA hl;have av:(rows.length:Int)<=100000:=by omega
 have aw:((rows.length:Int) != (rows.length:Int))=false:=by simp
 clear hs ad hB hl
 go_enter func12,ntmps12
 go_wp2;go_loopw [5] (fun vi wr=>∃i:Nat,i<=rows.length/\vi=.int .i64 i/\Hid (Below w.heap.size w wr)) (fun vi _=>rows.length-(intOf vi).toNat)
 case atStart=>exact⟨0,AV _,rfl,aA (AB _ _)⟩
 case round =>
  obtain⟨i,hi,rfl,HW⟩:=hrel;by_cases f:i<rows.length
  ·obtain⟨g,o,rfl,al,hc⟩:=HS.o (by omega);obtain⟨g',o',rfl,aa,ae⟩:=ak.o (by omega);obtain⟨A1,c1,a1,_,_,r1⟩:=hc i f;obtain⟨A2,c2,b1,_,_,r2⟩:=ae i f;have am:(i:Int)<(rows.length:Int):=by omega
   have KA:=aA (fun(y:World) (h:Below w.heap.size w y)=>(h.cell (p:=⟨g,o+i,none⟩) (Ah al HB.o)).trans a1);have KB:=aA (fun(y:World) (h:Below w.heap.size w y)=>(h.cell (p:=⟨g',o'+i,none⟩) (Ah aa HB.o)).trans b1);have ax:((rows[i]).length:Int)<=1000000:=by have:=HL.o _ (AE f);omega
   have ao:=aA r1;have ap:=aA r2;have ay:decide (i<rows.length)=true:=AQ f;have af:=aA f;clear hc ae a1 b1 r1 r2;generalize (rows[i]'f)=es at *;clear f;have az:((es.length:Int) != (es.length:Int))=false:=by simp
   have qa:∀z:Calm.On wr.heap.size wr,z.1.cell? ⟨g,o+i,none⟩=some (.slice A1 es.length c1):=fun z=>KA.o z.1 (HW.o.trans (z.2.mono HW.o.size));have qb:∀z:Calm.On wr.heap.size wr,z.1.cell? ⟨g',o'+i,none⟩=some (.slice A2 es.length c2):=fun z=>KB.o z.1 (HW.o.trans (z.2.mono HW.o.size));have ag:=aW wr;have aq:Hid (Below w.heap.size w wr.drew):=aA (aB HW.o 1);go_wp2_with fail
   refine CalmN.fk (fun x=>∃z:Calm.On wr.heap.size wr,x=z.1) (.fin [0,1,2,3,4,5,6,7,8,9,10]) (by kernel_rfl) (by kernel_rfl) (fun _ _ d _ _ h=>by cases d <;> exact h) ag.o ?_;simp only[CalmN.fN,CalmN.fo,Az,Am,Ap];repeat (go_big_quiet_step (fail))
   refine Aw ?_;clear qa qb ag;go_wp2;go_loopw [6] (fun vj wy=>∃j:Nat,j<=es.length/\vj=.int .i64 j/\Hid (Below w.heap.size w wy)) (fun vj _=>es.length-(intOf vj).toNat)
   case atStart=>exact⟨0,AV _,rfl,aq⟩
   case round =>
    obtain⟨j,hj,rfl,b⟩:=hrel;rename World=>wy;have a1:=KA.o wy b.o;by_cases k:j<es.length
    ·obtain⟨ge,oe,rfl,ah,ab⟩:=ao.o (by omega);obtain⟨gf,of,rfl,ai,ac⟩:=ap.o (by omega);have a0:(j:Int)<(es.length:Int):=by omega
     have aj:=aA k;have qa:∀z:Calm.On wy.heap.size wy,z.1.cell? ⟨g,o+i,none⟩=some (.slice (some ⟨ge,oe,none⟩) es.length c1):=fun z=>KA.o z.1 (b.o.trans (z.2.mono b.o.size));have qb:∀z:Calm.On wy.heap.size wy,z.1.cell? ⟨g',o'+i,none⟩=some (.slice (some ⟨gf,of,none⟩) es.length c2):=fun z=>KB.o z.1 (b.o.trans (z.2.mono b.o.size));have k0:∀z:Calm.On wy.heap.size wy,z.1.cell? ⟨ge,oe+j*2,none⟩=some (.int .i64 (es[j]).1):=fun z=>((b.o.trans (z.2.mono b.o.size)).cell (p:=⟨ge,oe+j*2,none⟩) (Ah ah HB.o)).trans (ab j k 0 _ rfl);have k1:∀z:Calm.On wy.heap.size wy,z.1.cell? ⟨ge,oe+j*2+1,none⟩=some (.int .u32 (es[j]).2):=fun z=>((b.o.trans (z.2.mono b.o.size)).cell (p:=⟨ge,oe+j*2+1,none⟩) (Ah ah HB.o)).trans (ab j k 1 _ rfl);have l0:∀z:Calm.On wy.heap.size wy,z.1.cell? ⟨gf,of+j*2,none⟩=some (.int .i64 (es[j]).1):=fun z=>((b.o.trans (z.2.mono b.o.size)).cell (p:=⟨gf,of+j*2,none⟩) (Ah ai HB.o)).trans (ac j k 0 _ rfl);have l1:∀z:Calm.On wy.heap.size wy,z.1.cell? ⟨gf,of+j*2+1,none⟩=some (.int .u32 (es[j]).2):=fun z=>((b.o.trans (z.2.mono b.o.size)).cell (p:=⟨gf,of+j*2+1,none⟩) (Ah ai HB.o)).trans (ac j k 1 _ rfl);have ar:=aW wy;have au:Hid (Below w.heap.size w wy.drew):=aA (aB b.o 1);clear ab ac;generalize (es[j]'k)=y at *;have a2:(y.1==y.1)=true:=by simp
     have a3:(y.2==y.2)=true:=by simp
     clear k;go_wp2_with fail
     refine CalmN.fk (fun x=>∃z:Calm.On wy.heap.size wy,x=z.1) (.fin [0,1,2,3,4,5,6,7,8,9,10,11,12,13,14]) (by kernel_rfl) (by kernel_rfl) (fun _ _ d _ _ h=>by cases d <;> exact h) ar.o ?_;simp only[CalmN.fN,CalmN.fo,Az,Am,Ap];repeat (go_big_quiet_step (fail))
     refine Aw ?_;clear k0 k1 l0 l1 qa qb a1;go_wp2;go_roundw
     case rel=>exact⟨j+1,aj.o,by go_num,au⟩
     case measure=>simp[intOf];have:=aj.o;omega
    ·obtain rfl:j=es.length:=by omega
     go_wp2;go_roundw
     case rel=>exact⟨i+1,af.o,by go_num,b⟩
     case measure=>simp[intOf];have:=af.o;omega
  ·obtain rfl:i=rows.length:=by omega
   go_wp2;go_ret
   exact⟨rfl,HW.o⟩
namespace Lk
open Au Gm Go.Mw
theorem uA (G:Gr):(jv G≠0/\kP G=[])\/(jv G=0/\jE G=true/\∃K E,lK G=some (K,E)):=by
 cases hb:jE G with
 | false=>exact .inl ⟨by rw[(kG hb).1];decide,sq hb⟩
 | true =>
  cases hk:lK G with
  | none=>exact .inl ⟨by rw[(jw hb hk).1];decide,oQ hb hk⟩
  | some p =>
   obtain⟨K,E⟩:=p;exact .inr ⟨(kH hb hk).1,rfl,K,E,rfl⟩
section
variable {G:Gr} {K:List (List It)} {E:List (List (Int×Int))}
end
end Lk
theorem Lk.ta (G:Gm.Gr):(Lk.kP G).length<=300/\∀r∈Lk.kP G,r.length<=1000000:=by
 rcases Lk.uA G with⟨_,e⟩|⟨_,hb,K,E,hk⟩
 ·rw[e];simp
 ·rw[Lk.su hb hk];refine⟨by have:=(Au.ji hk).2.2;simpa using this,fun r hr=>?_⟩;obtain⟨q,_,rfl⟩:=Bm.1 hr;have h1:=Lk.mT G K E q G.rs.length;rw[Lk.mS]at h1;have h2:=(Gm.ft.1 (Gm.fY hb)).kz;omega
theorem F8 (h:Gm.nJ G=false):G.ts.length<=1000/\G.ns.length<=1000/\G.rs.length<=1000/\∀r∈G.rs,r.r.length<=1000:=by
 unfold Gm.nJ at h;simp only[Bool.or_eq_false_iff,D9,DW]at h;obtain⟨⟨⟨h1,h2⟩,h3⟩,h4⟩:=h;refine⟨by omega,by omega,by omega,fun r hr=>?_⟩
 have:=h4 r hr
 simp only[Bi]at this;omega
theorem Ny (v:Value) (G:Gm.Gr) (w:World) (hg:aT w w.heap.size v G) (hf:Gm.Fit G) :
  Calls prog 3 #[v] w fun e w'=>e=.returned (.bool true)/\Below w.heap.size w w':=by
 have aa:=aA (fun(x:World) (h:Below w.heap.size w x)=>hg.below h (Af _));have a6:=aA hf;have a9:=aA (fun(x:World)=>NF x);have TG:=aA (fun(x:World) (h:Below w.heap.size w x)=>OL v G w.heap.size x (aa.o x h) h.size);have TC:=aA (fun(q:Gm.nJ G=false) (x:World) (h:Below w.heap.size w x)=>NZ v G w.heap.size x (aa.o x h) h.size (F8 q).1 (F8 q).2.1 (F8 q).2.2.1 (F8 q).2.2.2);have TR:=aA (fun(x:World) (h:Below w.heap.size w x)=>Oj v G w.heap.size x (aa.o x h) hf h.size);have TS:=aA (fun(u:Value) (x:World) (h:Below w.heap.size w x) (hu:aT x x.heap.size u G)=>Kn u v G G x.heap.size w.heap.size x hu (aa.o x h) hf hf (Af _) h.size);rw[Gm.lU]at TS;obtain⟨A0,c0,A1,c1,A2,c2,rfl,_⟩:=hg;have ba:=aA (bE.start 26 w #[.slice A0 G.ts.length c0,.slice A1 G.ns.length c1,.slice A2 G.rs.length c2,.int .i64 G.st]);clear hf
 go_enter func3,ntmps3
 go_wp2_with fail
 refine(a9.o _).mono ?_;rintro _ w1 ⟨rfl,ak⟩;have b:=aA (ba.o.on ak);have x0:=b.o.c 0 _ rfl;have x1:=b.o.c 1 _ rfl;have x2:=b.o.c 2 _ rfl;have x3:=b.o.c 3 _ rfl;clear ak;cases ab:Gm.nJ G with
 | true =>
  rw[ab]at TG;go_wp2_with fail
  refine(TG.o _ b.o.below).mono ?_;rintro _ w2 ⟨rfl,l⟩;have d:=aA (b.o.on l);clear l;go_wp2;go_ret
  exact⟨rfl,d.o.below⟩
 | false =>
  rw[ab]at TG;have TC:=aA (TC.o ab);go_upto_region 5 with fail
  refine(TG.o _ b.o.below).mono ?_;rintro _ w2 ⟨rfl,l⟩;have d:=aA (b.o.on l);clear x0 x1 x2 x3 l TG ab;have x0:=d.o.c 0 _ rfl;have x1:=d.o.c 1 _ rfl;have x2:=d.o.c 2 _ rfl;have x3:=d.o.c 3 _ rfl;go_wp2_with fail
  refine(TC.o w2 d.o.below).mono ?_;rintro _ w3 ⟨g3,rfl,ag,al⟩;obtain⟨B0,d0,B1,d1,B2,d2,rfl,_⟩:=id ag;have am:=aA (d.o.on al);have ao:=aA ag;clear ag al x0 x1 x2 x3 TC;go_upto_region 6 with fail
  obtain⟨gO,ah⟩:∃g,g=w3.heap.size:=⟨_,rfl⟩
  obtain⟨w4,ac⟩:∃y,y=w3.alloc (.cells #[.slice B0 G.ts.length d0,.slice B1 G.ns.length d1,.slice B2 G.rs.length d2,.int .i64 G.st] 26):=⟨_,rfl⟩
  rw[<-ac,<-ah];have ad:Hid (Below w3.heap.size w3 w4):=aA (by rw[ac];exact(AB _ _).alloc (Af _) _);have j:Hid (w4.heap[gO]?=some (.cells #[.slice B0 G.ts.length d0,.slice B1 G.ns.length d1,.slice B2 G.rs.length d2,.int .i64 G.st] 26 (0,0))):=aA (by rw[ac,ah];exact AG w3 _);have ai:=aA (ao.o.below ad.o (Af _));have ap:=aA (am.o.on ad.o);have aq:Hid (w3.heap.size<=w4.heap.size):=aA ad.o.size;clear ac ah ao am ad;have y0:=aS j.o;have y1:=aX j.o;have y2:=aY j.o;have y3:=bI j.o;have ar:=aA (GF _ G w3.heap.size w4 ai.o a6.o aq.o);go_wp2_with fail
  refine ar.o.mono ?_;rintro _ w5 ⟨A5,c5,rfl,_,_,au,m⟩;have f:=aA (ap.o.on m);have av:=aA (aC m j.o);have aw:=aA au;have ax:=aA ((ai.o.more aq.o).below m (Af _));have bb:Hid (w4.heap.size<=w5.heap.size):=aA m.size;clear y0 y1 y2 y3 au m ar j ai ap;have x0:=f.o.c 0 _ rfl;have x1:=f.o.c 1 _ rfl;have x2:=f.o.c 2 _ rfl;have x3:=f.o.c 3 _ rfl;have ay:=Lk.ta G;have az:=aA ay;clear ay;have aj:Hid (∀A A' c c' (y:World),lY 2 kJ y y.heap.size A (Lk.kP G)->lY 2 kJ y y.heap.size A' (Lk.kP G)->Calls prog 12 #[.slice A (Lk.kP G).length c,.slice A' (Lk.kP G).length c'] y fun e w'=>e=.returned (.bool true)/\Below y.heap.size y w'):=aA (fun A A' c c' y h1 h2=>N4 (Lk.kP G) A A' c c' y.heap.size y h1 h2 (Af _) (by have:=az.o.1;omega) az.o.2);have ae:=aA (TR.o w5 f.o.below);unfold yc at ae;obtain⟨n,hn⟩:∃n,(Lk.kP G).length=n:=⟨_,rfl⟩
  rw[hn]at ae aj ⊢;generalize Au.jv G=er at *;clear hn;go_wp2_with fail
  refine ae.o.mono ?_;rintro _ w6 ⟨A6,c6,rfl,_,_,a0,i⟩;have a1:=aA (f.o.on i);have a2:=aA (aC i av.o);have a3:=aA ((ax.o.more bb.o).below i (Af _));have bc:Hid (w5.heap.size<=w6.heap.size):=aA i.size;have a4:=aA (aj.o A5 A6 c5 c6 w6 ((aw.o.below i (Af _)).more i.size) a0);clear x0 x1 x2 x3 a0 i ae aj aw av ax f;have he:(er==er)=true:=by simp
  go_wp2_with fail
  refine a4.o.mono ?_;rintro _ w7 ⟨rfl,p⟩;have k:=aA (a1.o.on p);have af:=aA (aC p a2.o);have bd:=aA (((a3.o.more bc.o).below p (Af _)).more p.size);have bf:=aA (TS.o _ w7 k.o.below bd.o);have y0:=aS af.o;have y1:=aX af.o;have y2:=aY af.o;have y3:=bI af.o;have x0:=k.o.c 0 _ rfl;have x1:=k.o.c 1 _ rfl;have x2:=k.o.c 2 _ rfl;have x3:=k.o.c 3 _ rfl;clear p a4 a2 a3 a1;go_wp2_with fail
  refine bf.o.mono ?_;rintro _ w8 ⟨rfl,a5⟩;have bg:=aA (k.o.on a5);clear a5 x0 x1 x2 x3 y0 y1 y2 y3;go_wp2;go_ret
  exact⟨rfl,bg.o.below⟩
end Go.Proofs.YtcmhaemaophplaaGreat
namespace Go.Proofs.YtcmhaemaophplaaGreat.RowKit
open Go.ChangeShapes Go.WideShapes Go.ChangeAt Go.RowKit
theorem own:ownKnob prog.godebug=none:=by kernel_rfl
theorem laidOut:laidOutB prog=true:=by kernel_rfl
end Go.Proofs.YtcmhaemaophplaaGreat.RowKit
