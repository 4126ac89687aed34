/- Part of the proofs over this program: TbBuild, Alive17, RtSet, WalkSettles17, RowKit. -/
import Derived.Test.YtjjbaehamplnaaaGreatRows
import Derived.SizedLaws
import Derived.LaidMore
import Derived.Stop.Joined
import Derived.ShutString
import Derived.ChangeOld
import Derived.Test.YtjjbaehamplnaaaGreatSO
set_option linter.all false
set_option maxRecDepth 100000
set_option maxHeartbeats 40000000
variable {A:Option Go.Addr} {B:Nat} {G:Go.Proofs.YtjjbaehamplnaaaGreat.Gm.Gr} {w:Go.World}
namespace Go.Proofs.YtjjbaehamplnaaaGreat
open Go.RowKit
section
variable {t1 t2:TypeId} {w wr:World} {a b:Array Value}
theorem aY.b2 (h:aY t1 t2 w a b wr):wr.heap[w.heap.size+1]?=some (.cells b t2 (0,0)):=by
 have e:=Az (w.alloc (.cells a t1)) (.cells b t2);rw[show(w.alloc (.cells a t1)).heap.size=w.heap.size+1 by simp]at e;exact(Ee h (w.heap.size+1) (by omega)).trans e
end
def bK (B g:Nat) (w:World):Type:={x:World // Below B w x/\x.heap[g]?=w.heap[g]?}
instance (B g:Nat) (w:World):Nonempty (bK B g w):=⟨⟨w,Aq _ _,rfl⟩⟩
theorem zlH {ss:List StT} (h:zde w B A ss) (i:Nat) (hi:i<ss.length):∃g o A1 c1 A2 c2,A=some ⟨g,o,none⟩/\g<B/\w.cell? ⟨g,o+i*2,none⟩=some (.slice A1 ss[i].1.length c1)/\w.cell? ⟨g,o+i*2+1,none⟩=some (.slice A2 ss[i].2.length c2)/\RdQ 2 prF w B A1 ss[i].1/\RdQ 2 prF w B A2 ss[i].2:=by
 obtain⟨g,o,rfl,hg,hc⟩:=h (by omega);obtain⟨⟨A1,c1,k1,_,_,r1⟩,⟨A2,c2,k2,_,_,r2⟩⟩:=hc i hi;exact⟨g,o,A1,c1,A2,c2,rfl,hg,k1,k2,r1,r2⟩
theorem zfm (w:World):(Instr.build 33 #[]).run Tryz.prog w=.ok (.agg #[.slice none 0 0,.slice none 0 0]) w:=DX w 33 _ _ (by kernel_rfl)
theorem zfB (v:Value) (G:Gm.Gr) (B:Nat) (w:World) (hg:aQ w B v G) (hf:Gm.Fit G) (hB:B<=w.heap.size) :
  Calls Tryz.prog 11 #[v] w (zlg G w):=by
 have am:=aA (fun y (h:Below w.heap.size w y)=>zcR v G B y (hg.below h hB) hf (Af hB h.size));have bi:=aA (fun y (h:Below w.heap.size w y)=>zkB v G B y (hg.below h hB) hf (Af hB h.size));have a1:=aA (fun(x:World) (h:Below w.heap.size w x)=>hg.below h hB);have bX:=aA hB;obtain⟨AT,cT,AN,cN,AR,cR,rfl,_⟩:=hg;obtain⟨w1,ao⟩:∃y,y=(w.alloc (.cells #[.slice AT G.ts.length cT,.slice AN G.ns.length cN,.slice AR G.rs.length cR,.int .i64 G.st] 26)).alloc (.cells #[.slice none 0 0,.slice none 0 0] 33):=⟨_,rfl⟩
 have aa:Hid (aY 26 33 w #[.slice AT G.ts.length cT,.slice AN G.ns.length cN,.slice AR G.rs.length cR,.int .i64 G.st] #[.slice none 0 0,.slice none 0 0] w1):=aA (by rw[ao];exact aY.start _ _ _ _ _);have HS:=aA (am.o w1 aa.o.below);have x0:=aa.o.c1 0 _ rfl;have x1:=aa.o.c1 1 _ rfl;have x2:=aa.o.c1 2 _ rfl;have x3:=aa.o.c1 3 _ rfl;clear hf hB;cases hb:Gm.isB G with
 | false =>
  have HE:=aA (BJ (Au.bld_no hb) (Tb.tab_no hb));unfold zif at HS;rw[HE.o.1.1,HE.o.1.2]at HS;have dq:=zfm;clear hb bi a1
  go_enter Tryz.func11,Tryz.ntmps11
  go_upto_region 1 with fail
  rw[<-ao];clear ao;go_wp2_with fail
  refine HS.o.mono ?_;rintro _ w2 ⟨Aa,ca,rfl,_,_,_,ah⟩;have ab:=aA (aa.o.on ah);clear ah x0 x1 x2 x3;generalize ([]:List StT).length=nz at *;have y0:=ab.o.c2 0 _ rfl;have y1:=ab.o.c2 1 _ rfl;have b2:w2.heap[w.heap.size+1]?=some (.cells #[.slice none 0 0,.slice none 0 0] 33 (0,0)):=ab.o.b2;have f0:=AD _ _ 0 _ _ b2;have f1:=AD _ _ 1 _ _ b2;have ly:=(Ac.1 b2).1;have h2:=AJ _ _ 1 _ _ (.slice none 0 0) (AJ w2 _ 0 _ _ (.slice none 0 0) b2);have a9:=aA ((ab.o.below.setCell (p:=⟨w.heap.size+1,0,none⟩) (by simp) (.slice none 0 0)).setCell (p:=⟨w.heap.size+1,1,none⟩) (by simp) (.slice none 0 0));obtain⟨wf,ap⟩:∃y,y=(w2.setCell ⟨w.heap.size+1,0,none⟩ (.slice none 0 0)).setCell ⟨w.heap.size+1,1,none⟩ (.slice none 0 0):=⟨_,rfl⟩
  rw[<-ap]at h2 a9;go_wp2;rw[<-ap];clear ap;have j0:=aN h2;have j1:=aR h2;have lf:=(Ac.1 h2).1;refine BM (v:=.tuple #[.agg #[.slice none 0 0,.slice none 0 0],.slice none 0 0,.int .i64 1]) (by simp[results,Tryz.results11,go_sem,j0,j1]) rfl ?_;exact zlg.nil HE.o.1.1 HE.o.2 a9.o
 | true =>
  cases hk:Au.bld G with
  | none =>
   have HE:=aA (BJ (Au.bld_many hb hk) (Tb.tab_many hb hk));unfold zif at HS;rw[HE.o.1.1,HE.o.1.2]at HS;have dq:=zfm;clear hb hk bi a1
   go_enter Tryz.func11,Tryz.ntmps11
   go_upto_region 1 with fail
   rw[<-ao];clear ao;go_wp2_with fail
   refine HS.o.mono ?_;rintro _ w2 ⟨Aa,ca,rfl,_,_,_,ah⟩;have ab:=aA (aa.o.on ah);clear ah x0 x1 x2 x3;generalize ([]:List StT).length=nz at *;have y0:=ab.o.c2 0 _ rfl;have y1:=ab.o.c2 1 _ rfl;have b2:w2.heap[w.heap.size+1]?=some (.cells #[.slice none 0 0,.slice none 0 0] 33 (0,0)):=ab.o.b2;have f0:=AD _ _ 0 _ _ b2;have f1:=AD _ _ 1 _ _ b2;have ly:=(Ac.1 b2).1;have h2:=AJ _ _ 1 _ _ (.slice none 0 0) (AJ w2 _ 0 _ _ (.slice none 0 0) b2);have a9:=aA ((ab.o.below.setCell (p:=⟨w.heap.size+1,0,none⟩) (by simp) (.slice none 0 0)).setCell (p:=⟨w.heap.size+1,1,none⟩) (by simp) (.slice none 0 0));obtain⟨wf,ap⟩:∃y,y=(w2.setCell ⟨w.heap.size+1,0,none⟩ (.slice none 0 0)).setCell ⟨w.heap.size+1,1,none⟩ (.slice none 0 0):=⟨_,rfl⟩
   rw[<-ap]at h2 a9;go_wp2;rw[<-ap];clear ap;have j0:=aN h2;have j1:=aR h2;have lf:=(Ac.1 h2).1;refine BM (v:=.tuple #[.agg #[.slice none 0 0,.slice none 0 0],.slice none 0 0,.int .i64 5]) (by simp[results,Tryz.results11,go_sem,j0,j1]) rfl ?_;exact zlg.nil HE.o.1.1 HE.o.2 a9.o
  | some p =>
   obtain⟨K,E⟩:=p;have HE:=aA (BJ (Au.bld_ok hb hk) (BJ (Lk.lk_ok hb hk) (Tb.tab_ok hb hk)));obtain⟨hi,hE,cp⟩:=Au.bld_inv hk;have ac:=Gm.right_ok.1 (Gm.isB_right hb);have I:=((Gm.terms_iff G.ts).1 ac.t).1;have aq:=(Gm.nons_iff G).1 ac.n;have hz:(K.zip E).length=K.length:=by rw[List.length_zip,hE,Nat.min_self]
   have dr:=aA (fun q (hq:q<E.length)=>Au.edge_syms hi hq);have ds:=aA (fun k (hk:k∈K)=>Au.kernel_le ac ac.r40 hi hk);have dt:=aA (fun q (h:q<E.length)=>Au.edges_le I (by omega) hi h);have cq:=aA (fun i (hi:i<G.rs.length)=>Gm.rule_p (ac.rr _ (Ay hi)));have du:=aA (fun q=>Af (Lk.row_len G K E q) ac.r40);have dv:=aA (fun q x (h:x∈Lk.lkRow G K E q)=>Lk.row_in (K:=K) (E:=E) (q:=q) I ac.r40 h);have dw:=aA (fun n (h:n<=300)=>(show(Tb.cfP G K E n).length<=300000 from Af (Tb.cfP_len G K E I ac.r40 n) (by omega)));have ar:=aA I;have au:=aA (BJ aq.1 aq.2.1);have HZ:=aA hz;have cr:=aA hE;have bj:=aA cp
   have HL:=aA (fun y (h:Below w.heap.size w y)=>(show Calls Tryz.prog 28 _ y (fun e w'=>∃A c,e=.returned (.tuple #[.slice A K.length c,.int .i64 0])/\RdM 2 lkF w' w'.heap.size A ((List.range K.length).map (Lk.lkRow G K E))/\Below y.heap.size y w') from(bi.o y h).mono fun e w' hm=>by
    obtain⟨A,c,h1,_,_,h2,h3⟩:=hm;rw[HE.o.2.1]at h1 h2;rw[HE.o.1.1,Bb,EE]at h1;exact⟨A,c,h1,h2,h3⟩))
   unfold zif at HS;rw[HE.o.1.1,HE.o.1.2,hz]at HS;have dx:=fun w=>(DX w 77 _ _ (by kernel_rfl):(Instr.build 77 #[(0,.agg #[.slice AT G.ts.length cT,.slice AN G.ns.length cN,.slice AR G.rs.length cR,.int .i64 G.st])]).run Tryz.prog w=.ok (.agg (tbC (.slice AT G.ts.length cT) (.slice AN G.ns.length cN) (.slice AR G.rs.length cR) (.int .i64 G.st) (.slice none 0 0) (.slice none 0 0) (.slice none 0 0))) w)
   clear hb hk hi hE ac I aq hz bi cp
   go_enter Tryz.func11,Tryz.ntmps11
   go_upto_region 1 with fail
   rw[<-ao];clear ao;go_wp2_with fail
   refine HS.o.mono ?_;rintro _ w2 ⟨Aa,ca,rfl,_,_,cu,ah⟩;have av:=aA (aa.o.on ah);have cv:=aA cu;have cw:=aA (HL.o w2 av.o.below);clear ah cu x0 x1 x2 x3 HS aa HL;have x0:=av.o.c1 0 _ rfl;have x1:=av.o.c1 1 _ rfl;have x2:=av.o.c1 2 _ rfl;have x3:=av.o.c1 3 _ rfl;go_upto_region 4 with fail
   go_wp2_with fail
   refine cw.o.mono ?_;rintro _ w3 ⟨AL,cL,rfl,aw,bk⟩;have ax:=aA (av.o.on bk);have bZ:=aA ((cv.o.below bk (Ad _)).more bk.size);have bl:=aA aw;clear bk aw x0 x1 x2 x3 av cv cw;have x0:=ax.o.c1 0 _ rfl;have x1:=ax.o.c1 1 _ rfl;have x2:=ax.o.c1 2 _ rfl;have x3:=ax.o.c1 3 _ rfl;obtain⟨R,hR⟩:∃R,R=w3.heap.size:=⟨_,rfl⟩
   obtain⟨w4,bm⟩:∃y,y=w3.alloc (.cells (tbC (.slice AT G.ts.length cT) (.slice AN G.ns.length cN) (.slice AR G.rs.length cR) (.int .i64 G.st) (.slice none 0 0) (.slice none 0 0) (.slice none 0 0)) 77):=⟨_,rfl⟩
   have bn:Hid (Below R w3 w4):=aA (by rw[bm,hR];exact(Aq _ _).alloc (Ad _) _);have a2:Hid (TBd w4 R R R (.slice AT G.ts.length cT) (.slice AN G.ns.length cN) (.slice AR G.rs.length cR) (.int .i64 G.st) [] [] []):=aA (by rw[bm,hR];exact TBd.start w3 _ _ _ _);have ba:Hid (aY 26 33 w #[.slice AT G.ts.length cT,.slice AN G.ns.length cN,.slice AR G.rs.length cR,.int .i64 G.st] #[.slice none 0 0,.slice none 0 0] w4):=aA (ax.o.on (by rw[<-hR];exact bn.o));have ad:Hid (w.heap.size+2<=R):=aA (by rw[hR];exact ax.o.size);go_upto_region 6 with fail
   rw[<-bm,<-hR];rw[<-hR]at bZ bl;clear bm hR x0 x1 x2 x3 dx;obtain⟨n,hn⟩:∃n,K.length=n:=⟨_,rfl⟩
   rw[hn]at bl cr bj HZ ⊢;have HN:=aA hn;have cx:=aA (bZ.o.below bn.o (Ad _));have cy:=aA (bl.o.below bn.o (Ad _));have dM:(n:Int)<=300:=by have:=bj.o;omega
   clear hn bZ bl ax bn;have a2:Hid (TBd w4 R R w4.heap.size (.slice AT G.ts.length cT) (.slice AN G.ns.length cN) (.slice AR G.rs.length cR) (.int .i64 G.st) [] [] (Tb.cfP G K E 0)):=aA (a2.o.moreN a2.o.hN (Ad _));have cz:=aA (fun(x:World) (hx:Below R w4 x) (vs:Value) (k:List Au.It) (ed:List (Int×Int)) (hs:StV x R vs k ed) (hk:k.length<=287) (he:ed.length<=64) (V:(ed.map (·.1)).Nodup/\∀e∈ed,e.1<G.ts.length/\-1-e.1<G.ns.length)=>zd7 _ G R vs k ed x ((a1.o x (ba.o.below.trans (hx.mono (by have:=ad.o;omega)))).more (by have:=bX.o;have:=ad.o;omega)) (by have:=hx.size;have:=a2.o.lt;omega) hs ar.o (by omega) (by omega) V.1 (fun e h=>(V.2 e h).1));have cB:=aA (fun(x:World) (hx:Below R w4 x) (vs:Value) (k:List Au.It) (ed:List (Int×Int)) (hs:StV x R vs k ed) (he:ed.length<=64) (V:(ed.map (·.1)).Nodup/\∀e∈ed,e.1<G.ts.length/\-1-e.1<G.ns.length)=>zfA _ G R vs k ed x ((a1.o x (ba.o.below.trans (hx.mono (by have:=ad.o;omega)))).more (by have:=bX.o;have:=ad.o;omega)) (by have:=hx.size;have:=a2.o.lt;omega) hs au.o.1 au.o.2 (by omega) V.1 (fun e h=>⟨(V.2 e h).2,by have:=(V.2 e h).1;have:=ar.o;omega⟩));have cD:=aA (fun(x:World) (hx:Below R w4 x) (N:Nat) (rows:List (RW (Int×Int))) (gts:List (RW Int)) (cs:List C5) (q gs:Nat) (f:Int->Tb.Ce) (l:List (Int×Int)) (AL:Option Addr) (cL:Nat) (h:TBd x R R N (.slice AT G.ts.length cT) (.slice AN G.ns.length cN) (.slice AR G.rs.length cR) (.int .i64 G.st) rows gts cs) (hs:UBQ 63 prF x gs (Tb.rowT (G.ts.length+1) f)) (hl:RdQ 2 lkF x R AL l) (dy:∀x∈l,zm3 x/\0<=x.1/\x.1<G.rs.length) (dz:l.length<=40) (dN:cs.length<=300000) (aw:rows.length<=1000)=>zdj x R R N R R G _ _ _ _ rows gts cs q gs f l AL cL h ((a1.o x (ba.o.below.trans (hx.mono (by have:=ad.o;omega)))).more (by have:=bX.o;have:=ad.o;omega)) (Ad _) hs hl (Ad _) dy dz ar.o (by omega) aw cq.o);clear a1 cq;go_wp2;go_loopw [30] (fun vi wr=>∃(i:Nat) (rows:List (RW (Int×Int))) (gts:List (RW Int)),i<=n/\vi=.int .i64 i/\Hid (rows.map (·.1)=(List.range i).map (Tb.rowQ G K E))/\Hid (gts.map (·.1)=(List.range i).map (Tb.gotQ G E))/\Hid (TBd wr R R wr.heap.size (.slice AT G.ts.length cT) (.slice AN G.ns.length cN) (.slice AR G.rs.length cR) (.int .i64 G.st) rows gts (Tb.cfP G K E i))/\Hid (Below R w4 wr)) (fun vi _=>n-(intOf vi).toNat)
   case atStart=>exact⟨0,[],[],AZ _,rfl,aA rfl,aA rfl,a2,aA (Aq _ _)⟩
   case round =>
    obtain⟨i,rows,gts,hi,rfl,b0,b1,HT,HW⟩:=hrel;rename World=>wr;have aw:rows.length=i:=by have:=congrArg List.length b0.o;simpa using this
    have cE:gts.length=i:=by have:=congrArg List.length b1.o;simpa using this
    by_cases bo:i<n
    ·have b3:i<K.length:=by have:=HN.o;omega
     have bp:i<E.length:=by have:=cr.o;omega
     have cF:i<(K.zip E).length:=by have:=HZ.o;omega
     obtain⟨gA,oA,A1,c1,A2,c2,rfl,cH,k0,k1,r1,r2⟩:=zlH cx.o i cF;have ez:(K.zip E)[i]=(K[i],E[i]):=List.getElem_zip;rw[ez]at k0 k1 r1 r2;simp only at k0 k1 r1 r2;obtain⟨gL,oL,rfl,cI,cJ⟩:=cy.o (by simp;omega);obtain⟨A3,c3,m0,-,-,r3⟩:=cJ i (by simpa using bo);simp only[C3,List.getElem_range]at m0 r3;have V:=dr.o i bp;have b4:=dt.o i bp;have cK:=ds.o _ (Ay b3);have b5:K.getD i []=K[i]:=by rw[Ag,Ar b3];rfl
     have ae:E.getD i []=E[i]:=by rw[Ag,Ar bp];rfl
     have cM:Hid (Tb.rowQ G K E i=Tb.rowT (G.ts.length+1) fun t=>(Tb.act G (Tb.shift G K[i] E[i]) (Lk.lkRow G K E i) t).1):=aA (by unfold Tb.rowQ;rw[b5,ae]);have dA:Hid (Tb.gotQ G E i=Tb.rowT G.ns.length (Tb.gtP E[i])):=aA (by unfold Tb.gotQ;rw[ae]);have cO:Hid (Tb.cfP G K E (i+1)=Tb.cfP G K E i++Tb.cfA i G (Tb.shift G K[i] E[i]) (Lk.lkRow G K E i) (G.ts.length+1)):=aA (by rw[Tb.cfP_step];unfold Tb.cfQ;rw[b5,ae]);have cP:=du.o i;have cQ:=dv.o i;have cS:=dw.o i (by have:=bj.o;omega);have cU:=aA bo;have bb:Hid (rows.length<=1000/\gts.length<=1000000):=aA (by have:=bj.o;omega);have dO:(i:Int)<(n:Int):=by omega
     clear b5 ae ez cJ cF hi aw cE;generalize K[i]=k at *;generalize E[i]=ed at *;generalize Lk.lkRow G K E i=l at *;generalize Tb.cfP G K E i=cs at *;clear b3 bp bo;have k0:=(HW.o.cell (p:=⟨gA,oA+i*2,none⟩) cH).trans k0;have k1:=(HW.o.cell (p:=⟨gA,oA+i*2+1,none⟩) cH).trans k1;have lgA:gA<wr.heap.size:=Bk k0;obtain⟨wi,bq⟩:∃y,y=wr.alloc (.cells #[.slice A1 k.length c1,.slice A2 ed.length c2] 59):=⟨_,rfl⟩
     have br:Hid (Below wr.heap.size wr wi):=aA (by rw[bq];exact(Aq _ _).alloc (Ad _) _);have a3:Hid (wi.heap[wr.heap.size]?=some (.cells #[.slice A1 k.length c1,.slice A2 ed.length c2] 59 (0,0))):=aA (by rw[bq];exact Az wr _);have af:Hid (R<wr.heap.size):=aA HT.o.lt;have cV:=aA (HT.o.below br.o);have ai:=aA (HW.o.trans (br.o.mono (Cy af.o)));have aj:=aA (fun(y:World) (h:Below R w4 y)=>(show aY 26 33 w #[.slice AT G.ts.length cT,.slice AN G.ns.length cN,.slice AR G.rs.length cR,.int .i64 G.st] #[.slice none 0 0,.slice none 0 0] y from Below.trans ba.o (h.mono ad.o)));have b6:=aA (fun(y:World) (h:Below R w4 y)=>(show StV y R (.agg #[.slice A1 k.length c1,.slice A2 ed.length c2]) k ed from⟨A1,c1,A2,c2,rfl,r1.below h (Ad _),r2.below h (Ad _)⟩));have cW:=aA (fun(y:World) (h:Below R w4 y)=>(h.cell (p:=⟨gL,oL+i,none⟩) cI).trans m0);have cX:=aA (fun(y:World) (h:Below R w4 y)=>cz.o y h _ k ed (b6.o y h) cK b4 V);have cY:=aA (fun(y:World) (h:Below R w4 y)=>cB.o y h _ k ed (b6.o y h) b4 V);have cZ:=aA (fun(y:World) (h:Below R w4 y) (gs:Nat) (ht:TBd y R R wr.heap.size (.slice AT G.ts.length cT) (.slice AN G.ns.length cN) (.slice AR G.rs.length cR) (.int .i64 G.st) rows gts cs) (hs:UBQ 63 prF y gs (Tb.rowT (G.ts.length+1) (Tb.shift G k ed)))=>cD.o y h wr.heap.size rows gts cs i gs (Tb.shift G k ed) l A3 c3 ht hs (r3.below h (Ad _)) cQ cP cS bb.o.1);go_upto_region 9 with fail
     rw[<-bq];clear bq k0 k1 lgA HT HW cz cB cD cK b4 V cP cQ cS r1 r2 r3 m0 b6;have lgL:gL<R:=cI;have q0:=fun y:bK R wr.heap.size wi=>(aj.o y.1 (ai.o.trans y.2.1)).c1 0 _ rfl;have q1:=fun y:bK R wr.heap.size wi=>(aj.o y.1 (ai.o.trans y.2.1)).c1 1 _ rfl;have q2:=fun y:bK R wr.heap.size wi=>(aj.o y.1 (ai.o.trans y.2.1)).c1 2 _ rfl;have q3:=fun y:bK R wr.heap.size wi=>(aj.o y.1 (ai.o.trans y.2.1)).c1 3 _ rfl;have p0:=fun y:bK R wr.heap.size wi=>aN (y.2.2.trans a3.o);have p1:=fun y:bK R wr.heap.size wi=>aR (y.2.2.trans a3.o);have m0:=fun y:bK R wr.heap.size wi=>cW.o y.1 (ai.o.trans y.2.1);have HD:Hid (Below wi.heap.size wi wi.drew):=aA (aB (Aq _ _) 1);have X:Hid (R<=wi.heap.size/\wr.heap.size<wi.heap.size):=aA ⟨by have:=br.o.size;have:=af.o;omega,(Ac.1 a3.o).1⟩;have ak:Hid (∃y:bK R wr.heap.size wi,wi.drew=y.1):=aA ⟨⟨wi.drew,HD.o.mono X.o.1,rfl⟩,rfl⟩;refine CalmN.region_tree (fun x=>∃y:bK R wr.heap.size wi,x=y.1) (.one [0,1,2,4,5,6,7] 3 (.one [] 8 (.fin []))) (by kernel_rfl) (by kernel_rfl) (fun _ _ d _ _ h=>by cases d <;> exact h) ak.o ?_;simp only[CalmN.wpT,CalmN.wpSt,CalmN.pickOps,Am,Ah,Ai];repeat (go_big_quiet_step (fail))
     refine Aj ?_;clear q0 q1 q2 q3 p0 p1 m0 cW;generalize wi.drew=wd at *;have Z:=aA (cV.o.below HD.o);have bs:=aA (ai.o.trans (HD.o.mono X.o.1));have c0:=aA (cX.o wd bs.o);intro KK b;rw[Ap (by rfl)];go_wp2_with fail
     refine c0.o.mono ?_;rintro _ w6 ⟨g6,rfl,_,c4,b7⟩;have F:=aA (HD.o.trans (b7.mono HD.o.size));have c6:=aA (Z.o.below b7);have b8:=aA (ai.o.trans (F.o.mono X.o.1));have H:Hid (∃y:bK R wr.heap.size wi,w6=y.1):=aA ⟨⟨w6,F.o.mono X.o.1,F.o.block _ X.o.2⟩,rfl⟩;have c7:=aA (cZ.o w6 b8.o g6 c6.o c4);clear c4 b7 c0 Z bs HD cZ cX c6;go_wp2_with fail
     refine b _ _ H.o _ (fun _ h=>h) H.o ?_;clear b;refine Aj ?_;intro KK b;rw[Ap (by rfl)];go_wp2_with fail
     refine c7.o.mono ?_;rintro _ w7 ⟨rfl,⟨r,c8,b9⟩,cb,c9⟩;rw[<-cO.o]at b9;have da:=aA b9;have a4:=aA (b8.o.trans cb);have dB:=aA (c8.trans cM.o.symm);have ay:Hid (w7.heap[wr.heap.size]?=some (.cells #[.slice A1 k.length c1,.slice A2 ed.length c2] 59 (0,0))):=aA (c9.keep _ _ _ ((F.o.block _ X.o.2).trans a3.o) (by have:=af.o;omega) (by decide) (by decide) (by decide));have az:Hid (∃y:bK R wr.heap.size wi,w7=y.1):=aA ⟨⟨w7,(F.o.mono X.o.1).trans cb,ay.o.trans a3.o.symm⟩,rfl⟩;clear c8 b9 cb c9 c7 H b8 F cO cM;go_wp2_with fail
     refine b _ _ az.o _ (fun _ h=>h) az.o ?_;clear b az;refine Aj ?_;have s:Hid (R<=w7.heap.size/\wr.heap.size<w7.heap.size):=aA ⟨Cy da.o.lt,(Ac.1 ay.o).1⟩;clear cV ai br a3 ak X;go_upto_region 10 with fail
     have HD:Hid (Below w7.heap.size w7 w7.drew):=aA (aB (Aq _ _) 1);have q0:=fun y:bK R wr.heap.size w7=>(aj.o y.1 (a4.o.trans y.2.1)).c1 0 _ rfl;have q1:=fun y:bK R wr.heap.size w7=>(aj.o y.1 (a4.o.trans y.2.1)).c1 1 _ rfl;have q2:=fun y:bK R wr.heap.size w7=>(aj.o y.1 (a4.o.trans y.2.1)).c1 2 _ rfl;have q3:=fun y:bK R wr.heap.size w7=>(aj.o y.1 (a4.o.trans y.2.1)).c1 3 _ rfl;have p0:=fun y:bK R wr.heap.size w7=>aN (y.2.2.trans ay.o);have p1:=fun y:bK R wr.heap.size w7=>aR (y.2.2.trans ay.o);have a0:Hid (∀y:World,Below R w7 y->y.heap[wr.heap.size]?=w7.heap[wr.heap.size]?->∃z:bK R wr.heap.size w7,y=z.1):=aA (fun y h e=>⟨⟨y,h,e⟩,rfl⟩);have ak:=aA (a0.o w7.drew (HD.o.mono s.o.1) rfl);refine CalmN.region_tree (fun x=>∃y:bK R wr.heap.size w7,x=y.1) (.two [0,1,3,4] 2 (.one [] 5 (.one [] 6 (.one [] 7 (.one [8,9] 10 (.fin []))))) 5 (.two [] 2 (.one [] 6 (.one [] 7 (.one [8,9] 10 (.fin [])))) 6 (.one [] 2 (.one [] 7 (.one [8,9] 10 (.fin [])))))) (by kernel_rfl) (by kernel_rfl) (fun _ _ d _ _ h=>by cases d <;> exact h) ak.o ?_;simp only[CalmN.wpT,CalmN.wpSt,CalmN.pickOps,Am,Ah,Ai];repeat (go_big_quiet_step (fail))
     clear q0 q1 q2 q3 p0 p1;generalize w7.drew=wd at *;have Z:=aA (da.o.below HD.o);have bs:=aA (a4.o.trans (HD.o.mono s.o.1));have bu:=aA (cY.o wd bs.o);obtain⟨⟨vA,vG,vC,hb,hA,hG,hC⟩,bv,bw,db,dc⟩:=Z.o;obtain⟨AG,cG,rfl,_,_,_⟩:=hG.form zao;have bx:=aA hb;have bz:=aA hG;have c5d:=zgS hb;have lRd:=(Ac.1 hb).1;clear hA hG hC bv bw db dc hb cY;refine Aj ⟨?_,?_⟩
     case' refine_1 =>
      intro KK b;rw[Ap (by rfl)];go_wp2_with fail
      refine b _ _ ak.o _ (fun _ h=>h) ak.o ?_;clear b;refine Aj ?_;intro KK b;rw[Ap (by rfl)];go_wp2_with fail
      refine bu.o.mono ?_;rintro _ w9 ⟨g9,rfl,J,bc,M⟩;have ag:=aA (HD.o.trans (M.mono HD.o.size));have de:=aA (Z.o.below M);have B9:=aA (aC M bx.o);have cc:=aA (bz.o.below M (Ad _));have D:=aA (a0.o w9 (ag.o.mono s.o.1) (ag.o.block _ s.o.2));have cd:=aA bc;have df:=aA (Af (Cy Z.o.lt) J);have a5:Hid (Below w9.heap.size w9 (w9.alloc (.cells #[.slice (some ⟨g9,0,none⟩) G.ns.length G.ns.length] 51))):=aA ((Aq _ _).alloc (Ad _) _);have al:=aA (ag.o.trans (a5.o.mono ag.o.size));have C:=aA (a0.o _ (al.o.mono s.o.1) (al.o.block _ s.o.2));have BA:=aA (aC a5.o B9.o);clear J bc M Z bx bz HD bu c5d lRd;go_wp2_with fail
      refine b _ _ D.o _ (fun _ h=>h) D.o ?_;clear b;refine Aj ?_;intro KK b;rw[Ap (by rfl)];go_wp2_with fail
      refine b _ _ C.o _ (fun _ h=>h) C.o ?_;clear b;refine Aj ?_
     case' refine_2 =>
      intro KK b;rw[Ap (by rfl)];go_wp2_with fail
      refine bu.o.mono ?_;rintro _ w9 ⟨g9,rfl,J,bc,M⟩;have ag:=aA (HD.o.trans (M.mono HD.o.size));have de:=aA (Z.o.below M);have B9:=aA (aC M bx.o);have cc:=aA (bz.o.below M (Ad _));have D:=aA (a0.o w9 (ag.o.mono s.o.1) (ag.o.block _ s.o.2));have cd:=aA bc;have df:=aA (Af (Cy Z.o.lt) J);have a5:Hid (Below w9.heap.size w9 (w9.alloc (.cells #[.slice (some ⟨g9,0,none⟩) G.ns.length G.ns.length] 51))):=aA ((Aq _ _).alloc (Ad _) _);have al:=aA (ag.o.trans (a5.o.mono ag.o.size));have C:=aA (a0.o _ (al.o.mono s.o.1) (al.o.block _ s.o.2));have BA:=aA (aC a5.o B9.o);clear J bc M Z bx bz HD bu c5d lRd;go_wp2_with fail
      refine b _ _ D.o _ (fun _ h=>h) D.o ?_;clear b;refine Aj ⟨?_,?_⟩
      case' refine_1 =>
       have c59:=zgS B9.o;have l59:=(Ac.1 B9.o).1;intro KK b;rw[Ap (by rfl)];go_wp2_with fail
       refine b _ _ D.o _ (fun _ h=>h) D.o ?_;clear b;clear c59 l59;refine Aj ?_;intro KK b;rw[Ap (by rfl)];go_wp2_with fail
       refine b _ _ C.o _ (fun _ h=>h) C.o ?_;clear b;refine Aj ?_
      case' refine_2 =>
       intro KK b;rw[Ap (by rfl)];go_wp2_with fail
       refine b _ _ C.o _ (fun _ h=>h) C.o ?_;clear b;refine Aj ?_;have c5a:=zgS BA.o;have l5a:=(Ac.1 BA.o).1;intro KK b;rw[Ap (by rfl)];go_wp2_with fail
       refine b _ _ C.o _ (fun _ h=>h) C.o ?_;clear b;clear c5a l5a;refine Aj ?_
     all_goals
      intro KK b;rw[Ap (by rfl)];have bD:=aA (cc.o.below a5.o (Ad _));obtain⟨x,hx⟩:∃x:RW Int,x=(Tb.rowT G.ns.length (Tb.gtP ed),some ⟨g9,0,none⟩,G.ns.length):=⟨_,rfl⟩
      have ce:x.1=Tb.rowT G.ns.length (Tb.gtP ed):=by rw[hx]
      have dg:x.1.length=G.ns.length:=by rw[ce,Tb.rowT_len]
      have dh:Hid (bL 3 1 inF w9 R w9.heap.size x):=aA (by
       rw[hx];exact⟨by rw[Tb.rowT_len];exact Ad _,by have:=au.o;simp only;omega,cd.o.q.rowG zkL df.o cd.o.lt⟩)
      have bd:Hid (∀j u,(rwF x)[j]?=some u->(w9.alloc (.cells #[.slice (some ⟨g9,0,none⟩) G.ns.length G.ns.length] 51)).cell? ⟨w9.heap.size,j,none⟩=some u):=aA (zdn x _ dg _ _ _ (by rw[hx];exact Az w9 (.cells #[.slice (some ⟨g9,0,none⟩) G.ns.length G.ns.length] 51)));have dC:=aA (ce.trans dA.o.symm);have cf:Hid (R<=(w9.alloc (.cells #[.slice (some ⟨g9,0,none⟩) G.ns.length G.ns.length] 51)).heap.size):=aA (Af s.o.1 al.o.size);clear hx ce dg;refine zh7 (f:=rwF) (.tmp 46) (.tmp 50) _ rfl Tryz.underlying31 _ 24 zkI (by decide) (by decide) (by decide) zao zgK R _ gts rfl bD.o _ _ x rfl bd.o bb.o.2 cf.o ?_;intro v5 w5 cg bM;obtain⟨A5,c5,rfl,_,_,_⟩:=aK.form cg zao;have a6:=aA (de.o.pushG B9.o cc.o dh.o cg bM);have bT:Below R w7 w5:=(al.o.mono s.o.1).grown bM cf.o (fun k e=>(Bs bD.o k e).1);have ch:=aI bD.o bM ((al.o.block _ s.o.2).trans ay.o) fun cur=>aH (by decide);have bf:=aA (a0.o w5 bT (ch.trans ay.o.symm));have H:=aA (a0.o (w5.setCell ⟨R,5,none⟩ (.slice A5 (gts++[x]).length c5)) (bT.setCell (Ad _) _) ((AH w5 ⟨R,5,none⟩ _ _ (by have:=af.o;simp only;omega)).trans (ch.trans ay.o.symm)));have dD:=aA (a4.o.trans (bT.setCell (p:=⟨R,5,none⟩) (Ad _) (.slice A5 (gts++[x]).length c5)));have dE:=aA (a6.o.1.moreN a6.o.2.1.size (Ad _));have c5R:=zgS a6.o.2.2.2;have f5R:=AD _ R 5 _ _ a6.o.2.2.2;have l5R:=(Ac.1 a6.o.2.2.2).1;have dF:Hid ((rows++[r]).map (·.1)=(List.range (i+1)).map (Tb.rowQ G K E)):=aA (by rw[AX,b0.o,Cn,AX,Du,Du,dB.o]);have dG:Hid ((gts++[x]).map (·.1)=(List.range (i+1)).map (Tb.gotQ G E)):=aA (by rw[AX,b1.o,Cn,AX,Du,Du,dC.o]);clear cg bM bT ch a6 bD dh bd cf;refine b _ _ bf.o _ (fun _ h=>h) bf.o ?_;clear b;generalize (gts++[x]).length=ln at *
      go_frame
      repeat (go_big_quiet_step (fail))
      refine Aj ?_;intro KK b;rw[Ap (by rfl)];go_wp2_with fail
      refine b _ _ H.o _ (fun _ h=>h) H.o ?_;clear b c5R f5R l5R;refine Aj ?_;generalize w5.setCell ⟨R,5,none⟩ (.slice A5 ln c5)=wk at *;go_wp2;go_roundw
      case rel=>exact⟨i+1,rows++[r],gts++[x],cU.o,by go_num,dF,dG,dE,dD⟩
      case measure=>simp[intOf];have:=cU.o;omega
    ·obtain rfl:i=n:=by omega
     obtain⟨⟨vA,vG,vC,hb,hA,hG,hC⟩,bv,bw,db,dc⟩:=HT.o;obtain⟨AA,cA,rfl,di,ci,_⟩:=hA.form zao;obtain⟨AG,cG,rfl,dj,cj,_⟩:=hG.form zao;obtain⟨AC,cC,rfl,dk,ck,_⟩:=hC.form za0;have O:Tb.actS G=rows.map (·.1):=by rw[HE.o.2.2.1,HN.o];exact b0.o.symm
     have U:Tb.gotS G=gts.map (·.1):=by rw[HE.o.2.2.2.1,HN.o];exact b1.o.symm
     have bg:Tb.cfS G=Tb.cfP G K E i:=by rw[HE.o.2.2.2.2,HN.o]
     have dH:=aA O;have dI:=aA U;have dP:=aA bg;have cl:=aA hb;have dJ:=aA HE.o.1.1;generalize Tb.cfP G K E i=cs at *;have dl:Hid (aY 26 33 w #[.slice AT G.ts.length cT,.slice AN G.ns.length cN,.slice AR G.rs.length cR,.int .i64 G.st] #[.slice none 0 0,.slice none 0 0] wr):=aA (Below.trans ba.o (HW.o.mono ad.o));have dm:Hid (w.heap.size+1≠R):=aA (by have:=ad.o;omega);have cm:=aA dl.o.b2;have h1:=AJ _ _ 0 _ _ (.slice AA rows.length cA) cm.o;have h2:=AJ _ _ 1 _ _ (.slice AG gts.length cG) h1;have dn:wr.heap.size<=((wr.drew.setCell ⟨w.heap.size+1,0,none⟩ (.slice AA rows.length cA)).setCell ⟨w.heap.size+1,1,none⟩ (.slice AG gts.length cG)).heap.size:=(fun y:World=>(by simp:y.heap.size<=((y.setCell ⟨w.heap.size+1,0,none⟩ (.slice AA rows.length cA)).setCell ⟨w.heap.size+1,1,none⟩ (.slice AG gts.length cG)).heap.size)) wr.drew;have am:Hid (wr.drew.heap[w.heap.size+1]?=some (.cells #[.slice none 0 0,.slice none 0 0] 33 (0,0))):=aA cm.o
     have dK:Hid (∀(g:Nat) (cur:Array Value) (T:TypeId),T≠33->wr.heap[g]?=some (.cells cur T (0,0))->((wr.drew.setCell ⟨w.heap.size+1,0,none⟩ (.slice AA rows.length cA)).setCell ⟨w.heap.size+1,1,none⟩ (.slice AG gts.length cG)).heap[g]?=some (.cells cur T (0,0))):=aA (fun g cur T hT hc=>by
      have dp:g≠w.heap.size+1:=fun e=>by
       rw[e,cm.o]at hc;injection hc with hc;injection hc with _ hc _;exact hT hc.symm
      exact((AH _ ⟨w.heap.size+1,1,none⟩ _ g dp).trans (AH wr.drew ⟨w.heap.size+1,0,none⟩ _ g dp)).trans hc)
     have dL:Hid (Below w.heap.size w ((wr.drew.setCell ⟨w.heap.size+1,0,none⟩ (.slice AA rows.length cA)).setCell ⟨w.heap.size+1,1,none⟩ (.slice AG gts.length cG))):=aA (((aB dl.o.below 1).setCell (p:=⟨w.heap.size+1,0,none⟩) (by simp) _).setCell (p:=⟨w.heap.size+1,1,none⟩) (by simp) _);have cn:Hid (((wr.drew.setCell ⟨w.heap.size+1,0,none⟩ (.slice AA rows.length cA)).setCell ⟨w.heap.size+1,1,none⟩ (.slice AG gts.length cG)).heap[w.heap.size+1]?=some (.cells #[.slice AA rows.length cA,.slice AG gts.length cG] 33 (0,0))):=aA h2
     have bh:=aA (fun(wf:World) (hs:wr.heap.size<=wf.heap.size) (hk:∀(g:Nat) (cur:Array Value) (T:TypeId),T≠33->wr.heap[g]?=some (.cells cur T (0,0))->wf.heap[g]?=some (.cells cur T (0,0))) (hf:Below w.heap.size w wf)=>(show zlg G w (.returned (.tuple #[.agg #[.slice AA rows.length cA,.slice AG gts.length cG],.slice AC cs.length cC,.int .i64 0])) wf from by
      have own:∀ {m n:Nat} {T:TypeId} {v:Value} {xs:List Value},wr.ownsRow R T m v n xs->T≠33->wf.ownsRow R T m v n xs:=fun {m n T v xs} ho hT=>by
       refine⟨ho.1,?_⟩;rcases ho.2 with h1|⟨g,cap,cur,h1,h2,h3,h4⟩
       ·exact .inl h1
       ·exact .inr ⟨g,cap,cur,h1,h2,hk g _ _ hT h3,h4⟩
      have fA:aK 64 1 rwF wf R (.slice AA rows.length cA) rows:=own hA (by decide);have fG:aK 51 1 rwF wf R (.slice AG gts.length cG) gts:=own hG (by decide);have fC:aK 66 5 cfF wf R (.slice AC cs.length cC) cs:=own hC (by decide);obtain⟨AC',cC',eC,_,_,rC⟩:=fC.form za0;injection eC with eC _ _;subst eC;unfold maxLen at ci cj ck;refine⟨_,AC,cC,?_,⟨AA,cA,AG,cG,rfl,?_,ci,?_,cj,?_,?_⟩,?_,ck,?_,hf⟩
      ·rw[O,U,bg,Bb,Bb,dJ.o]
      ·rw[O,Bb];exact di
      ·rw[U,Bb];exact dj
      ·rw[O];exact aK.rdM fA (fun r hr=>(bv r hr).keep fun g cur _ _ hc=>hk g cur _ (by decide) hc) hs
      ·rw[U];exact aK.rdM fG (fun r hr=>(bw r hr).keep fun g cur _ _ hc=>hk g cur _ (by decide) hc) hs
      ·rw[bg];exact dk
      ·rw[bg];exact rC))
     have X:=aA dn;have q4:=fun y:OnP [R] wr=>y.row (j:=4) (u:=.slice AA rows.length cA) (by simp) cl.o rfl;have q5:=fun y:OnP [R] wr=>y.row (j:=5) (u:=.slice AG gts.length cG) (by simp) cl.o rfl;have q6:=fun y:OnP [R] wr=>y.row (j:=6) (u:=.slice AC cs.length cC) (by simp) cl.o rfl;have ak:Hid (∃y:OnP [R] wr,wr.drew=y.1):=aA ⟨⟨wr.drew,fun _ _=>rfl⟩,rfl⟩
     have co:Hid (∃y:OnP [R] wr,(wr.drew.setCell ⟨w.heap.size+1,0,none⟩ (.slice AA rows.length cA)).setCell ⟨w.heap.size+1,1,none⟩ (.slice AG gts.length cG)=y.1):=aA ⟨⟨_,fun g hg=>by
      rw[AF]at hg;subst hg;exact(AH _ ⟨w.heap.size+1,1,none⟩ _ _ (fun e=>dm.o e.symm)).trans (AH wr.drew ⟨w.heap.size+1,0,none⟩ _ _ (fun e=>dm.o e.symm))⟩,rfl⟩
     clear O U bg hA hG hC bv bw hb h1 h2 dn di ci dj cj dk ck bo hi aw cE cx cy;go_upto_region 12 with fail
     refine CalmN.region_tree (fun x=>∃y:OnP [R] wr,x=y.1) (.one [0,1,2,3] 4 (.fin [5,6])) (by kernel_rfl) (by kernel_rfl) (fun _ _ d _ _ h=>by cases d <;> exact h) ak.o ?_;simp only[CalmN.wpT,CalmN.wpSt,CalmN.pickOps,Am,Ah,Ai];repeat (go_big_quiet_step (fail))
     refine Aj ?_;clear q4 q5 q6;have y0:=aN am.o;have y1:=aR am.o;have f0:=AD _ _ 0 _ _ am.o;have f1:=AD _ _ 1 _ _ am.o;have ly:=(Ac.1 am.o).1;generalize wr.drew=wd at *;intro KK b;rw[Ap (by rfl)];go_wp2_with fail
     refine b _ _ co.o _ (fun _ h=>h) co.o ?_;clear b y0 y1 f0 f1 ly co;generalize (wd.setCell ⟨w.heap.size+1,0,none⟩ (.slice AA rows.length cA)).setCell ⟨w.heap.size+1,1,none⟩ (.slice AG gts.length cG)=wf at *;repeat (go_big_quiet_step (fail))
     refine Aj ?_;have j0:=aN cn.o;have j1:=aR cn.o;have lf:=(Ac.1 cn.o).1;go_wp2;refine BM (v:=.tuple #[.agg #[.slice AA rows.length cA,.slice AG gts.length cG],.slice AC cs.length cC,.int .i64 0]) (by simp[results,Tryz.results11,go_sem,j0,j1]) rfl ?_;exact bh.o wf X.o dK.o dL.o
end Go.Proofs.YtjjbaehamplnaaaGreat
namespace Go.Proofs.YtjjbaehamplnaaaGreat
open Go.RowKit
theorem zm6 (G:Gm.Gr) (v:Value) (B:Nat) (x:World) (as_:List (List Tb.Ce)) (gs:List (List Int)) (cs:List C5) (n m k:Nat) (er:Int) (ht:Tb.actS G=as_/\Tb.gotS G=gs/\Tb.cfS G=cs) (hn:as_.length=n) (hm:gs.length=m) (hk:cs.length=k) (he:Au.bldE G=er) (hg:aQ x B v G) (hf:Gm.Fit G) (hB:B<=x.heap.size) :
  Calls Tryz.prog 11 #[v] x fun e w'=>∃AA cA AG cG AC cC,e=.returned (.tuple #[.agg #[.slice AA n cA,.slice AG m cG],.slice AC k cC,.int .i64 er])/\zii w' w'.heap.size (.agg #[.slice AA n cA,.slice AG m cG]) as_ gs/\RdQ 5 cfF w' w'.heap.size AC cs/\Below x.heap.size x w' :=
 (zfB v G B x hg hf hB).mono fun e w' h=>by
  obtain⟨vt,AC,cC,h1,h2,_,_,h3,h4⟩:=h;rw[ht.1,ht.2.1]at h2;rw[ht.2.2]at h1 h3;rw[hk,he]at h1;obtain⟨AA,cA,AG,cG,rfl,h5⟩:=h2;rw[hn,hm]at h1;refine⟨AA,cA,AG,cG,AC,cC,h1,⟨AA,cA,AG,cG,by rw[hn,hm],h5⟩,h3,h4⟩
theorem zf9 (w:World):(Instr.build 26 #[]).run Tryz.prog w=.ok (.agg #[.slice none 0 0,.slice none 0 0,.slice none 0 0,.int .i64 0]) w:=DX w 26 _ _ (by kernel_rfl)
theorem zhI:Gm.Fit Gm.gr0:=⟨by simp[Gm.gr0],by simp[Gm.gr0],by simp[Gm.gr0],by unfold Gm.In;simp[Gm.gr0]⟩
theorem zeA (w:World):Calls Tryz.prog 8 #[] w fun e w'=>e=.returned (.bool true)/\Below w.heap.size w w':=by
 have T1:=aA (zcd zmu aX (by decide) (by decide) znD w w.heap.size rfl);have T2:=aA (fun(w1:World)=>zcd zmv a7 (by decide) (by decide) znE w1 w1.heap.size rfl);have U1:=(show(convert 72 72 (.slice (some ⟨w.heap.size,0,none⟩) 32 32)).run Tryz.prog (w.alloc (.cells #[.int .u8 37,.int .u8 108,.int .u8 101,.int .u8 102,.int .u8 116,.int .u8 32,.int .u8 39,.int .u8 43,.int .u8 39,.int .u8 32,.int .u8 37,.int .u8 37,.int .u8 32,.int .u8 101,.int .u8 32,.int .u8 58,.int .u8 32,.int .u8 101,.int .u8 32,.int .u8 39,.int .u8 43,.int .u8 39,.int .u8 32,.int .u8 101,.int .u8 32,.int .u8 124,.int .u8 32,.int .u8 39,.int .u8 110,.int .u8 39,.int .u8 32,.int .u8 59] 5))=.ok (.slice (some ⟨w.heap.size,0,none⟩) 32 32) (w.alloc (zbp zmu)) from ze3 w zmu 32 32)
 have V2:=aA (fun w:World=>show(convert 72 72 (.slice (some ⟨w.heap.size,0,none⟩) 16 16)).run Tryz.prog (w.alloc (.cells #[.int .u8 37,.int .u8 37,.int .u8 32,.int .u8 115,.int .u8 32,.int .u8 58,.int .u8 32,.int .u8 39,.int .u8 97,.int .u8 39,.int .u8 32,.int .u8 115,.int .u8 32,.int .u8 124,.int .u8 32,.int .u8 59] 5))=.ok (.slice (some ⟨w.heap.size,0,none⟩) 16 16) (w.alloc (zbp zmv)) from ze3 w zmv 16 16);have bc:zmu.length=32:=rfl;have bd:zmv.length=16:=rfl;rw[bc]at T1;rw[bd]at T2;clear bc bd;have bf:=aA (fun(x:World)=>zm6 Gm.gr0 (.agg #[.slice none 0 0,.slice none 0 0,.slice none 0 0,.int .i64 0]) x.heap.size x [] [] [] 0 0 0 1 tab0 rfl rfl rfl znM (zjL x _) zhI (Ad _));have b6:=fun w=>zf9 w
 go_enter Tryz.func8,Tryz.ntmps8
 go_wp2_with fail
 refine T1.o.mono ?_;rintro _ w1 ⟨⟨g,rfl,ai,aa⟩,bg⟩;have bh:=aA (fun(x:World) (h:Below w1.heap.size w1 x)=>zm6 aX g w1.heap.size x zm0 zmX _ 5 5 1 0 zm7 rfl rfl rfl zmH (ai.below h (Ad _)) aa h.size);have aj:=aA (fun(x:World) (h:Below w1.heap.size w1 x) (k t:Int)=>zbU g aX w1.heap.size k t x (ai.below h (Ad _)) aa h.size);obtain⟨AT,cT,AN,cN,AR,cR,rfl,_,_,_,_,_,_⟩:=ai;have ak:=aA bg;have i:=aA (bB.start 26 w1 #[.slice AT aX.ts.length cT,.slice AN aX.ns.length cN,.slice AR aX.rs.length cR,.int .i64 aX.st]);clear bg U1 T1 aa;obtain⟨wa,al⟩:∃y,y=w1.alloc (.cells #[.slice AT aX.ts.length cT,.slice AN aX.ns.length cN,.slice AR aX.rs.length cR,.int .i64 aX.st] 26):=⟨_,rfl⟩
 rw[<-al]at i;go_upto_region 2 with fail
 rw[<-al];clear al;have x0:=i.o.c 0 _ rfl;have x1:=i.o.c 1 _ rfl;have x2:=i.o.c 2 _ rfl;have x3:=i.o.c 3 _ rfl;go_wp2_with fail
 refine(bh.o wa i.o.below).mono ?_;rintro _ w2 ⟨A2,c2,B2,d2,C2,e2,rfl,bi,bj,bk⟩;have am:=aA (i.o.on bk);have ao:=aA (ak.o.trans (am.o.below.mono ak.o.size));have bl:=aA bi;have bm:=aA bj;clear x0 x1 x2 x3 bi bj bk bh i;have ap:=aA (bB.start 33 w2 #[.slice A2 5 c2,.slice B2 5 d2]);obtain⟨wb,aq⟩:∃y,y=w2.alloc (.cells #[.slice A2 5 c2,.slice B2 5 d2] 33):=⟨_,rfl⟩
 rw[<-aq]at ap;have U2:=V2.o wb;have T3:=aA (T2.o wb);clear V2 T2;go_upto_region 3 with fail
 rw[<-aq];clear aq;go_wp2_with fail
 refine T3.o.mono ?_;rintro _ w3 ⟨⟨g2,rfl,ar,ab⟩,bn⟩;have af:=aA (ap.o.on bn);have bo:=aA (am.o.on (af.o.below));have au:=aA (ao.o.trans (af.o.below.mono ao.o.size));clear bn U2 T3 ap am;have bp:=aA (fun(x:World) (h:Below w3.heap.size w3 x)=>zm6 a7 g2 w3.heap.size x zm1 zmY _ 4 4 0 0 zm8 rfl rfl rfl zmI (ar.below h (Ad _)) ab h.size);have bq:=aA (fun(x:World) (h:Below w3.heap.size w3 x) (BT:Nat) (vt:Value) (rs:List (List Tb.Ce)) (gs:List (List Int)) (ht:zii x BT vt rs gs) (b7:BT<=x.heap.size) (h1:rs.length<=9/\gs.length<=9) (h2:∀r∈rs,r.length<=9) (h3:∀r∈gs,r.length<=9)=>zfy g2 a7 w3.heap.size BT vt rs gs x (ar.below h (Ad _)) ab h.size ht b7 (by omega) (fun r hr=>by have:=h2 r hr;omega) (fun r hr=>by have:=h3 r hr;omega));obtain⟨ATb,cTb,ANb,cNb,ARb,cRb,rfl,_,_,_,_,_,_⟩:=ar;have j:=aA (bB.start 26 w3 #[.slice ATb a7.ts.length cTb,.slice ANb a7.ns.length cNb,.slice ARb a7.rs.length cRb,.int .i64 a7.st]);clear ab;obtain⟨wc,av⟩:∃y,y=w3.alloc (.cells #[.slice ATb a7.ts.length cTb,.slice ANb a7.ns.length cNb,.slice ARb a7.rs.length cRb,.int .i64 a7.st] 26):=⟨_,rfl⟩
 rw[<-av]at j;go_upto_region 4 with fail
 rw[<-av];clear av;have x0:=j.o.c 0 _ rfl;have x1:=j.o.c 1 _ rfl;have x2:=j.o.c 2 _ rfl;have x3:=j.o.c 3 _ rfl;go_wp2_with fail
 refine(bp.o wc j.o.below).mono ?_;rintro _ w4 ⟨A4,c4,B4,d4,C4,e4,rfl,br,_,bs⟩;have u:=aA (j.o.on bs);have bu:=aA (af.o.on u.o.below);have bv:=aA (bo.o.on u.o.below);have aw:=aA (au.o.trans (u.o.below.mono au.o.size));have bw:=aA br;clear x0 x1 x2 x3 br bs bp j af bo;have ax:=aA (bB.start 33 w4 #[.slice A4 4 c4,.slice B4 4 d4]);obtain⟨wd,ay⟩:∃y,y=w4.alloc (.cells #[.slice A4 4 c4,.slice B4 4 d4] 33):=⟨_,rfl⟩
 rw[<-ay]at ax;go_upto_region 5 with fail
 rw[<-ay];clear ay;go_wp2_with fail
 refine(bf.o wd).mono ?_;rintro _ w5 ⟨A5,c5,B5,d5,C5',e5,rfl,_,_,bx⟩;have bz:=aA (ax.o.on bx);obtain⟨we,az⟩:∃y,y=w5.alloc (.cells #[.slice A5 0 c5,.slice B5 0 d5] 33):=⟨_,rfl⟩
 have a0:Hid (bB 33 w4 #[.slice A4 4 c4,.slice B4 4 d4] we):=aA (by rw[az];exact bz.o.alloc _);go_upto_region 6 with fail
 rw[<-az];clear az bx bf b6 ax bz;have p:=aA a0.o.below;have f:=aA (u.o.on p.o);have ag:=aA (bu.o.on p.o);have b:=aA (bv.o.on p.o);have bD:=aA (aw.o.trans (p.o.mono aw.o.size));have ah:=aA (ag.o.below);have b8:=aA (bl.o.below ah.o (Ad _));have b9:=aA (bm.o.below ah.o (Ad _));have bM:=aA (bw.o.below p.o (Ad _));clear u bu bv bl bm bw ak ao au aw;obtain⟨A4',c4',B4',d4',e4',-,-,-,-,bT,bX⟩:=bM.o;injection e4' with e4';injection e4' with e4';simp only[Ex,Value.slice.injEq,and_true]at e4';obtain⟨⟨rfl,-,rfl⟩,rfl,-,rfl⟩:=e4';obtain⟨gA,oA,rfl,ca,a1⟩:=bT (by decide);obtain⟨r2,k2,m2,_,_,rr2⟩:=a1 2 (by decide);obtain⟨r0,k0,m0,_,_,rr0⟩:=a1 0 (by decide);obtain⟨g2',o2',rfl,a2,ad⟩:=rr2 (by decide);obtain⟨g0',o0',rfl,a3,ac⟩:=rr0 (by decide);obtain⟨gG,oG,rfl,cb,bZ⟩:=bX (by decide);obtain⟨q0,s0,p0,_,_,qq0⟩:=bZ 0 (by decide);obtain⟨gz,oz,rfl,cc,b0⟩:=qq0 (by decide);obtain⟨gC,oC,rfl,cd,s⟩:=b9.o (by decide);have m2:we.cell? ⟨gA,oA+2,none⟩=some (.slice (some ⟨g2',o2',none⟩) 2 k2):=m2;have m0:we.cell? ⟨gA,oA,none⟩=some (.slice (some ⟨g0',o0',none⟩) 2 k0):=m0;have p0:we.cell? ⟨gG,oG,none⟩=some (.slice (some ⟨gz,oz,none⟩) 1 s0):=p0;have i2:we.cell? ⟨g2',o2'+2,none⟩=some (.int .i64 3):=ad 1 (by decide) 0 _ rfl;have i0:we.cell? ⟨g0',o0'+2,none⟩=some (.int .i64 2):=ac 1 (by decide) 0 _ rfl;have i1:we.cell? ⟨g0',o0'+2+1,none⟩=some (.int .i64 1):=ac 1 (by decide) 1 _ rfl;have iz:we.cell? ⟨gz,oz,none⟩=some (.int .i64 2):=b0 0 (by decide) 0 _ rfl;have j0:we.cell? ⟨gC,oC,none⟩=some (.int .i64 4):=s 0 (by decide) 0 _ rfl;have j1:we.cell? ⟨gC,oC+1,none⟩=some (.int .i64 0):=s 0 (by decide) 1 _ rfl;have j2:we.cell? ⟨gC,oC+2,none⟩=some (.int .i64 1):=s 0 (by decide) 2 _ rfl;have j3:we.cell? ⟨gC,oC+3,none⟩=some (.int .i64 0):=s 0 (by decide) 3 _ rfl;have j4:we.cell? ⟨gC,oC+4,none⟩=some (.int .i64 (-1)):=s 0 (by decide) 4 _ rfl;have u0:=ag.o.c 0 _ rfl;have v0:=a0.o.c 0 _ rfl;have v1:=a0.o.c 1 _ rfl;clear a1 bZ b0 s ad ac rr2 rr0 qq0 bT bX ca a2 a3 cb cc cd;go_upto_region 8 with fail
 clear u0;have a4:=aA (bq.o we f.o.below w4.heap.size _ zm1 zmY bM.o p.o.size (by decide) (by decide) (by decide));rw[znr]at a4;have h0:=f.o.c 0 _ rfl;have h1:=f.o.c 1 _ rfl;have h2:=f.o.c 2 _ rfl;have h3:=f.o.c 3 _ rfl;go_wp2_with fail
 refine a4.o.mono ?_;rintro _ w6 ⟨rfl,b1⟩;have d:=aA b1;clear b1 m2 m0 p0 i2 i0 i1 iz j0 j1 j2 j3 j4 v0 v1 h0 h1 h2 h3 a4;have a5:=aA (bq.o w6 (f.o.on d.o).below w2.heap.size _ zm0 zmX (b8.o.below d.o ah.o.size) (Af ah.o.size d.o.size) (by decide) (by decide) (by decide));rw[zlX]at a5;have h0:=(f.o.on d.o).c 0 _ rfl;have h1:=(f.o.on d.o).c 1 _ rfl;have h2:=(f.o.on d.o).c 2 _ rfl;have h3:=(f.o.on d.o).c 3 _ rfl;have u0:=(ag.o.on d.o).c 0 _ rfl;have u1:=(ag.o.on d.o).c 1 _ rfl;go_wp2_with fail
 refine a5.o.mono ?_;rintro _ w7 ⟨rfl,b3⟩;have l:=aA (d.o.trans (b3.mono d.o.size));clear b3 h0 h1 h2 h3 u0 u1 a5 d;have a6:=aA (aj.o w7 ((b.o.on l.o).below) 0 0);rw[zlt]at a6;have h0:=(b.o.on l.o).c 0 _ rfl;have h1:=(b.o.on l.o).c 1 _ rfl;have h2:=(b.o.on l.o).c 2 _ rfl;have h3:=(b.o.on l.o).c 3 _ rfl;go_wp2_with fail
 refine a6.o.mono ?_;rintro _ w8 ⟨rfl,b4⟩;have m:=aA (l.o.trans (b4.mono l.o.size));clear b4 h0 h1 h2 h3 a6 l;have a9:=aA (aj.o w8 ((b.o.on m.o).below) 1 0);rw[zls]at a9;have h0:=(b.o.on m.o).c 0 _ rfl;have h1:=(b.o.on m.o).c 1 _ rfl;have h2:=(b.o.on m.o).c 2 _ rfl;have h3:=(b.o.on m.o).c 3 _ rfl;go_wp2_with fail
 refine a9.o.mono ?_;rintro _ w9 ⟨rfl,b5⟩;have n:=aA (m.o.trans (b5.mono m.o.size));clear b5 h0 h1 h2 h3 a9 m;have ba:=aA (aj.o w9 ((b.o.on n.o).below) 2 0);rw[zlr]at ba;have h0:=(b.o.on n.o).c 0 _ rfl;have h1:=(b.o.on n.o).c 1 _ rfl;have h2:=(b.o.on n.o).c 2 _ rfl;have h3:=(b.o.on n.o).c 3 _ rfl;go_wp2_with fail
 refine ba.o.mono ?_;rintro _ w10 ⟨rfl,ae⟩;have bb:=aA (n.o.trans (ae.mono n.o.size));clear ae h0 h1 h2 h3 ba n;go_wp2;go_ret
 exact⟨rfl,bD.o.trans (bb.o.mono bD.o.size)⟩
theorem zcX (v:Value) (G:Gm.Gr) (B:Nat) (k t:Int) (w:World) (hg:aQ w B v G) (hf:Gm.Fit G) (hB:B<=w.heap.size) (af:G.ts.length<=9223372036854775807/\G.rs.length<=9223372036854775807) :
  Calls Tryz.prog 20 #[v,.int .i64 k,.int .i64 t] w fun e w'=>e=.returned (.int .i64 (Tb.settle G k t))/\Below w.heap.size w w':=by
 have H1:=aA (fun(x:World) (h:Below w.heap.size w x)=>zfK v G B x (hg.below h hB) hf (Af hB h.size));have ag:=aA hB;obtain⟨AT,cT,AN,cN,AR,cR,rfl,_,_,_,aj,_,ak⟩:=hg;have ab:=aA aj;have ap:=aA ak;have l:=aA (bB.start 26 w #[.slice AT G.ts.length cT,.slice AN G.ns.length cN,.slice AR G.rs.length cR,.int .i64 G.st]);have x0:=l.o.c 0 _ rfl;have x1:=l.o.c 1 _ rfl;have x2:=l.o.c 2 _ rfl;have x3:=l.o.c 3 _ rfl;have s:Hid (Tb.settle G k t=if Gm.right G=true/\0<=k/\k<G.rs.length/\0<=t/\t<=G.ts.length then Tb.how G k t else 0):=aA rfl;have a1:=aA hf;have a2:=af.1;have a3:=af.2;clear aj ak hf hB af;by_cases A:Gm.right G=true/\0<=k/\k<G.rs.length/\0<=t/\t<=G.ts.length
 ·have s:=aA (s.o.trans (Ap A));rw[s.o];obtain⟨q,h0,h1,h2,h3⟩:=A;rw[q]at H1;obtain⟨i,rfl⟩:∃i:Nat,k=i:=⟨k.toNat,by omega⟩
  obtain⟨j,rfl⟩:∃j:Nat,t=j:=⟨t.toNat,by omega⟩
  have hi:i<G.rs.length:=by omega
  obtain⟨gR,oR,rfl,ah,al⟩:=ap.o (by omega);have hr:=(al i hi).2.2;have hp:=Gm.rule_p ((Gm.right_ok.1 q).rr _ (Ay hi));have e0:G.rs.getD ((i:Int)).toNat ⟨0,[],0⟩=G.rs[i]:=by rw[BG,Ag,Ar hi];rfl
  have g:Hid (Tb.how G i j=if(j:Int)=G.ts.length\/(G.rs[i]).p<0\/(G.ts.getD (G.rs[i]).p.toNat ⟨[],0,0⟩).lv=0\/(G.ts.getD j ⟨[],0,0⟩).lv=0 then 4 else if(G.ts.getD (G.rs[i]).p.toNat ⟨[],0,0⟩).lv > (G.ts.getD j ⟨[],0,0⟩).lv\/(G.ts.getD (G.rs[i]).p.toNat ⟨[],0,0⟩).lv=(G.ts.getD j ⟨[],0,0⟩).lv/\(G.ts.getD j ⟨[],0,0⟩).wy=1 then 1 else if(G.ts.getD (G.rs[i]).p.toNat ⟨[],0,0⟩).lv<(G.ts.getD j ⟨[],0,0⟩).lv\/(G.ts.getD j ⟨[],0,0⟩).wy=2 then 2 else 3):=aA (by
   unfold Tb.how;rw[e0,BG])
  have C:=aA (fun(m:Nat) (hm:m<G.ts.length)=>(show G.ts.getD m ⟨[],0,0⟩=G.ts[m] from by rw[Ag,Ar hm];rfl));have y0:=(l.o.below.cell (p:=⟨gR,oR+i*3+2,none⟩) (Ao ah ag.o)).trans hr;generalize (G.rs[i]).p=p at *;generalize Tb.how G i j=r at *;have aq:=aA ah;clear al e0 s ah
  go_enter Tryz.func20,Tryz.ntmps20
  go_wp2_with fail
  refine(H1.o _ l.o.below).mono ?_;rintro _ w2 ⟨rfl,hb⟩;have f:=aA (l.o.on hb);have HY:=aA y0;clear hb x0 x1 x2 x3 y0 H1;have x0:=f.o.c 0 _ rfl;have x2:=f.o.c 2 _ rfl;have y0:=(f.o.below.cell (p:=⟨gR,oR+i*3+2,none⟩) (Ao aq.o ag.o)).trans hr;have lR:gR<w2.heap.size:=Bk y0;by_cases hj:j=G.ts.length
  ·have HE:=aA (g.o.trans (Ap (.inl (by omega))));have am:((j:Int)==(G.ts.length:Int))=true:=by rw[BB];omega
   clear hj ab C;go_wp2;go_ret
   exact⟨aL HE.o.symm,f.o.below⟩
  ·have am:((j:Int)==(G.ts.length:Int))=false:=by rw[AV];omega
   by_cases ai:p<0
   ·have HE:=aA (g.o.trans (Ap (.inr (.inl ai))));clear hj ab C;go_wp2;go_ret
    exact⟨aL HE.o.symm,f.o.below⟩
   ·obtain⟨m,rfl⟩:∃m:Nat,p=m:=⟨p.toNat,by omega⟩
    have hm:m<G.ts.length:=by omega
    have ac:j<G.ts.length:=by omega
    obtain⟨gT,oT,rfl,ar,ad⟩:=ab.o (by omega);have aa:=Ao ar ag.o;have z1:=(f.o.below.cell (p:=⟨gT,oT+m*3+1,none⟩) aa).trans (ad m hm).2.1;have z2:=(f.o.below.cell (p:=⟨gT,oT+j*3+1,none⟩) aa).trans (ad j ac).2.1;have au:=aA ((f.o.below.cell (p:=⟨gT,oT+j*3+2,none⟩) aa).trans (ad j ac).2.2);have e1:=C.o m hm;have e2:=C.o j ac;rw[BG,e1,e2]at g;have a4:(m:Int)<(G.ts.length:Int):=by omega
    have a5:(j:Int)<(G.ts.length:Int):=by omega
    have lT:gT<w2.heap.size:=Bk z1;clear e1 e2 ad C ab;generalize (G.ts[m]).lv=a at *;generalize (G.ts[j]).lv=b at *;generalize (G.ts[j]).wy=y at *;clear hm ac;by_cases ha:a=0
    ·have HE:=aA (g.o.trans (Ap (.inr (.inr (.inl ha)))));subst ha;go_wp2;go_ret
     exact⟨aL HE.o.symm,f.o.below⟩
    ·have av:(a==0)=false:=by rw[AV];exact ha
     by_cases hb:b=0
     ·have HE:=aA (g.o.trans (Ap (.inr (.inr (.inr hb)))));subst hb;clear ha;go_wp2;go_ret
      exact⟨aL HE.o.symm,f.o.below⟩
     ·have aw:(b==0)=false:=by rw[AV];exact hb
      have g:=aA (g.o.trans (AB (fun h=>by
       rcases h with h|h|h|h
       ·omega
       ·exact ai h
       ·exact ha h
       ·exact hb h)))
      have s1:=fun x:Calm.On w2.heap.size w2=>(x.2.cell (p:=⟨gT,oT+m*3+1,none⟩) lT).trans z1;have s2:=fun x:Calm.On w2.heap.size w2=>(x.2.cell (p:=⟨gT,oT+j*3+1,none⟩) lT).trans z2;have s0:=fun x:Calm.On w2.heap.size w2=>(f.o.on x.2).c 0 _ rfl;have ax:Hid (∃z:Calm.On w2.heap.size w2,w2.drew=z.1):=zbv w2;have n:=aA (f.o.drewN 1);clear ha hb hj ai;go_upto_region 6 with fail
      refine CalmN.region_tree (fun x=>∃z:Calm.On w2.heap.size w2,x=z.1) (.fin [0,1,2,3,4,5,6,7,8,9,10,11,12,13]) (by kernel_rfl) (by kernel_rfl) (fun _ _ d _ _ h=>by cases d <;> exact h) ax.o ?_;simp only[CalmN.wpT,CalmN.pickOps,Am,Ah,Ai];repeat (go_big_quiet_step (fail))
      refine Aj ?_;clear s0 s1 s2 z1 z2 x0 x2 y0 av aw am;have z3:w2.drew.cell? ⟨gT,oT+j*3+2,none⟩=some (.int .i64 y):=au.o;have x0:w2.drew.cell? ⟨w.heap.size,0,none⟩=_:=n.o.c 0 _ rfl;have lD:gT<w2.drew.heap.size:=lT;have n:Hid (bB 26 w #[.slice (some ⟨gT,oT,none⟩) G.ts.length cT,.slice AN G.ns.length cN,.slice (some ⟨gR,oR,none⟩) G.rs.length cR,.int .i64 G.st] w2.drew):=n;generalize w2.drew=wd at *;by_cases ao:a > b
      ·have HE:=aA (g.o.trans (Ap (.inl ao)));go_wp2;go_ret
       exact⟨aL HE.o.symm,n.o.below⟩
      ·by_cases u:a=b
       ·have ay:(a==b)=true:=by rw[BB];exact u
        by_cases hy:y=1
        ·have HE:=aA (g.o.trans (Ap (.inr ⟨u,hy⟩)));subst hy;clear u;go_wp2;go_ret
         exact⟨aL HE.o.symm,n.o.below⟩
        ·have g:=aA (g.o.trans (AB (by omega)));have a6:(y==1)=false:=by rw[AV];exact hy
         by_cases ae:y=2
         ·have HE:=aA (g.o.trans (Ap (.inr ae)));subst ae;clear hy;subst u;go_wp2;go_ret
          exact⟨aL HE.o.symm,n.o.below⟩
         ·have HE:=aA (g.o.trans (AB (by omega)));have a9:(y==2)=false:=by rw[AV];exact ae
          clear hy ae;subst u;go_wp2;go_ret
          exact⟨aL HE.o.symm,n.o.below⟩
       ·have HE:=aA ((g.o.trans (AB (by omega))).trans (Ap (.inl (by omega))));have ay:(a==b)=false:=by rw[AV];exact u
        have ba:a<b:=by omega
        clear ao u;go_wp2;go_ret
        exact⟨aL HE.o.symm,n.o.below⟩
 ·have s:=aA (s.o.trans (AB A));rw[s.o];cases q:Gm.right G
  all_goals
   rw[q]at H1 A;have az:=aA A;clear q A
   go_enter Tryz.func20,Tryz.ntmps20
   go_wp2_with fail
   refine(H1.o _ l.o.below).mono ?_;rintro _ w2 ⟨rfl,hb⟩;have f:=aA (l.o.on hb);clear hb x0 x1 x2 x3;have x0:=f.o.c 0 _ rfl;have x2:=f.o.c 2 _ rfl
  ·go_wp2;go_ret
   exact⟨rfl,f.o.below⟩
  ·have a0:¬(0<=k/\k<G.rs.length/\0<=t/\t<=G.ts.length):=fun h=>az.o ⟨by trivial,h⟩;go_wp2
   all_goals
    first
     | (go_ret;exact⟨rfl,f.o.below⟩)
     | (exfalso;omega)
theorem zdJ (h:Gm.great G=false):G.ts.length<=1000/\G.ns.length<=1000/\G.rs.length<=1000/\∀r∈G.rs,r.r.length<=1000:=by
 unfold Gm.great at h;simp only[Bool.or_eq_false_iff,EA,DE]at h;obtain⟨⟨⟨h1,h2⟩,h3⟩,h4⟩:=h;refine⟨by omega,by omega,by omega,fun r hr=>?_⟩
 have:=h4 r hr
 simp only[AW]at this;omega
theorem zbs (v:Value) (G:Gm.Gr) (k t:Int) (w:World) (hg:aQ w w.heap.size v G) (hf:Gm.Fit G) :
  Calls Tryz.prog 5 #[v,.int .i64 k,.int .i64 t] w fun e w'=>e=.returned (.bool true)/\Below w.heap.size w w':=by
 have ac:=aA (fun(x:World) (h:Below w.heap.size w x)=>hg.below h (Ad _));have ah:=aA (fun(x:World)=>zeA x);have TG:=aA (fun(x:World) (h:Below w.heap.size w x)=>zf3 v G w.heap.size x (ac.o x h) h.size);have TP:=aA (fun(x:World) (h:Below w.heap.size w x)=>zbU v G w.heap.size k t x (ac.o x h) hf h.size);have TR:=aA (fun(q:Gm.great G=false) (x:World) (h:Below w.heap.size w x)=>zcX v G w.heap.size k t x (ac.o x h) hf h.size (by have:=zdJ q;omega));generalize Tb.settle G k t=r at *;obtain⟨A0,c0,A1,c1,A2,c2,rfl,_⟩:=hg;have ai:=aA (bB.start 26 w #[.slice A0 G.ts.length c0,.slice A1 G.ns.length c1,.slice A2 G.rs.length c2,.int .i64 G.st]);clear hf
 go_enter Tryz.func5,Tryz.ntmps5
 go_wp2_with fail
 refine(ah.o _).mono ?_;rintro _ w1 ⟨rfl,ae⟩;have f:=aA (ai.o.on ae);have x0:=f.o.c 0 _ rfl;have x1:=f.o.c 1 _ rfl;have x2:=f.o.c 2 _ rfl;have x3:=f.o.c 3 _ rfl;clear ae;cases aa:Gm.great G with
 | true =>
  rw[aa]at TG;go_wp2_with fail
  refine(TG.o _ f.o.below).mono ?_;rintro _ w2 ⟨rfl,g⟩;have b:=aA (f.o.on g);clear g x0 x1 x2 x3;go_wp2;go_ret
  exact⟨rfl,b.o.below⟩
 | false =>
  rw[aa]at TG;have TR:=aA (TR.o aa);go_wp2_with fail
  refine(TG.o _ f.o.below).mono ?_;rintro _ w2 ⟨rfl,g⟩;have b:=aA (f.o.on g);clear g x0 x1 x2 x3 aa;have q0:=fun y:Calm.On w2.heap.size w2=>(b.o.on y.2).c 0 _ rfl;have q1:=fun y:Calm.On w2.heap.size w2=>(b.o.on y.2).c 1 _ rfl;have q2:=fun y:Calm.On w2.heap.size w2=>(b.o.on y.2).c 2 _ rfl;have q3:=fun y:Calm.On w2.heap.size w2=>(b.o.on y.2).c 3 _ rfl;have ab:Hid (Below w2.heap.size w2 w2.drew):=aA (aB (Aq _ _) 1);go_upto_region 5 with fail
  refine CalmN.region_tree (fun x=>∃y:Calm.On w2.heap.size w2,x=y.1) (.one [0,1,2,4,5,6] 3 (.one [] 7 (.fin [8,9]))) (by kernel_rfl) (by kernel_rfl) (fun _ _ d _ _ h=>by cases d <;> exact h) ⟨⟨w2.drew,ab.o⟩,rfl⟩ ?_;simp only[CalmN.wpT,CalmN.wpSt,CalmN.pickOps,Am,Ah,Ai];repeat (go_big_quiet_step (fail))
  refine Aj ?_;clear q0 q1 q2 q3;generalize w2.drew=wd at *;have aj:=aA (b.o.on ab.o);intro KK i;rw[Ap (by rfl)];go_wp2_with fail
  refine(TP.o wd aj.o.below).mono ?_;rintro _ w3 ⟨rfl,af⟩;have j:=aA (ab.o.trans (af.mono ab.o.size));have ak:=aA (b.o.on j.o);clear af;go_wp2_with fail
  refine i _ _ ⟨⟨w3,j.o⟩,rfl⟩ _ (fun _ h=>h) ⟨⟨w3,j.o⟩,rfl⟩ ?_;clear i;refine Aj ?_;intro KK i;rw[Ap (by rfl)];go_wp2_with fail
  refine(TR.o w3 ak.o.below).mono ?_;rintro _ w4 ⟨rfl,ag⟩;have ad:=aA (j.o.trans (ag.mono j.o.size));have al:=aA (b.o.on ad.o);clear ag;go_wp2_with fail
  refine i _ _ ⟨⟨w4,ad.o⟩,rfl⟩ _ (fun _ h=>h) ⟨⟨w4,ad.o⟩,rfl⟩ ?_;clear i;have am:(r==r)=true:=by simp
  repeat (go_big_quiet_step (fail))
  refine Aj ?_;go_wp2;go_ret
  exact⟨rfl,al.o.below⟩
end Go.Proofs.YtjjbaehamplnaaaGreat
namespace Go.Proofs.YtjjbaehamplnaaaGreat.RowKit
open Go.ChangeShapes Go.WideShapes Go.ChangeAt Go.RowKit
theorem own:ownKnob Tryz.prog.godebug=none:=by kernel_rfl
theorem laidOut:laidOutB Tryz.prog=true:=by kernel_rfl
end Go.Proofs.YtjjbaehamplnaaaGreat.RowKit
