/- Part of the proofs over this program: TbBuild, Alive17, RtGreat, RtRight, WalkMay17, RowKit, TbOpen. -/
import Derived.Test.YtjjbaehamplnaaaGreatRows
import Derived.SizedLaws
import Derived.LaidMore
import Derived.Stop.Joined
import Derived.ShutString
import Derived.ChangeOld
import Derived.Test.YtjjbaehamplnaaaGreatMO
set_option linter.all false
namespace Go
def Eu:=@bne_eq_false_iff_eq
end Go
set_option maxRecDepth 100000
set_option maxHeartbeats 40000000
variable {A:Option Go.Addr} {B fuel k m:Nat} {gs:List (List Int)} {v:Go.Value} {w:Go.World}
namespace Go.Proofs.YtjjbaehamplnaaaGreat
open Go.RowKit
section
variable {t1 t2:TypeId} {w wr:World} {a b:Array Value}
theorem aW.b2 (h:aW t1 t2 w a b wr):wr.heap[w.heap.size+1]?=some (.cells b t2 (0,0)):=by
 have e:=Az (w.alloc (.cells a t1)) (.cells b t2);rw[show(w.alloc (.cells a t1)).heap.size=w.heap.size+1 by simp]at e;exact(Ei h (w.heap.size+1) (by omega)).trans e
end
def bK (B g:Nat) (w:World):Type:={x:World // Below B w x/\x.heap[g]?=w.heap[g]?}
instance (B g:Nat) (w:World):Nonempty (bK B g w):=⟨⟨w,Aq _ _,rfl⟩⟩
theorem zlP {ss:List StT} (h:zdf w B A ss) (i:Nat) (hi:i<ss.length):∃g o A1 c1 A2 c2,A=some ⟨g,o,none⟩/\g<B/\w.cell? ⟨g,o+i*2,none⟩=some (.slice A1 ss[i].1.length c1)/\w.cell? ⟨g,o+i*2+1,none⟩=some (.slice A2 ss[i].2.length c2)/\RdQ 2 prF w B A1 ss[i].1/\RdQ 2 prF w B A2 ss[i].2:=by
 obtain⟨g,o,rfl,hg,hc⟩:=h (by omega);obtain⟨⟨A1,c1,k1,_,_,r1⟩,⟨A2,c2,k2,_,_,r2⟩⟩:=hc i hi;exact⟨g,o,A1,c1,A2,c2,rfl,hg,k1,k2,r1,r2⟩
theorem zfq (w:World):(Instr.build 33 #[]).run Tryz.prog w=.ok (.agg #[.slice none 0 0,.slice none 0 0]) w:=D6 w 33 _ _ (by kernel_rfl)
theorem zfF (v:Value) (G:Gm.Gr) (B:Nat) (w:World) (hg:aQ w B v G) (hf:Gm.Fit G) (hB:B<=w.heap.size) :
  Calls Tryz.prog 11 #[v] w (zlo G w):=by
 have am:=aA (fun y (h:Below w.heap.size w y)=>zcS v G B y (hg.below h hB) hf (Ag hB h.size));have bi:=aA (fun y (h:Below w.heap.size w y)=>zkJ v G B y (hg.below h hB) hf (Ag hB h.size));have a1:=aA (fun(x:World) (h:Below w.heap.size w x)=>hg.below h hB);have bX:=aA hB;obtain⟨AT,cT,AN,cN,AR,cR,rfl,_⟩:=hg;obtain⟨w1,ao⟩:∃y,y=(w.alloc (.cells #[.slice AT G.ts.length cT,.slice AN G.ns.length cN,.slice AR G.rs.length cR,.int .i64 G.st] 26)).alloc (.cells #[.slice none 0 0,.slice none 0 0] 33):=⟨_,rfl⟩
 have aa:Hid (aW 26 33 w #[.slice AT G.ts.length cT,.slice AN G.ns.length cN,.slice AR G.rs.length cR,.int .i64 G.st] #[.slice none 0 0,.slice none 0 0] w1):=aA (by rw[ao];exact aW.start _ _ _ _ _);have HS:=aA (am.o w1 aa.o.below);have x0:=aa.o.c1 0 _ rfl;have x1:=aa.o.c1 1 _ rfl;have x2:=aa.o.c1 2 _ rfl;have x3:=aa.o.c1 3 _ rfl;clear hf hB;cases hb:Gm.isB G with
 | false =>
  have HE:=aA (BJ (Au.bld_no hb) (Tb.tab_no hb));unfold zil at HS;rw[HE.o.1.1,HE.o.1.2]at HS;have dq:=zfq;clear hb bi a1
  go_enter Tryz.func11,Tryz.ntmps11
  go_upto_region 1 with fail
  rw[<-ao];clear ao;go_wp2_with fail
  refine HS.o.mono ?_;rintro _ w2 ⟨Aa,ca,rfl,_,_,_,ah⟩;have ab:=aA (aa.o.on ah);clear ah x0 x1 x2 x3;generalize ([]:List StT).length=nz at *;have y0:=ab.o.c2 0 _ rfl;have y1:=ab.o.c2 1 _ rfl;have b2:w2.heap[w.heap.size+1]?=some (.cells #[.slice none 0 0,.slice none 0 0] 33 (0,0)):=ab.o.b2;have f0:=AD _ _ 0 _ _ b2;have f1:=AD _ _ 1 _ _ b2;have ly:=(Ac.1 b2).1;have h2:=AP _ _ 1 _ _ (.slice none 0 0) (AP w2 _ 0 _ _ (.slice none 0 0) b2);have a9:=aA ((ab.o.below.setCell (p:=⟨w.heap.size+1,0,none⟩) (by simp) (.slice none 0 0)).setCell (p:=⟨w.heap.size+1,1,none⟩) (by simp) (.slice none 0 0));obtain⟨wf,ap⟩:∃y,y=(w2.setCell ⟨w.heap.size+1,0,none⟩ (.slice none 0 0)).setCell ⟨w.heap.size+1,1,none⟩ (.slice none 0 0):=⟨_,rfl⟩
  rw[<-ap]at h2 a9;go_wp2;rw[<-ap];clear ap;have j0:=aM h2;have j1:=aR h2;have lf:=(Ac.1 h2).1;refine BM (v:=.tuple #[.agg #[.slice none 0 0,.slice none 0 0],.slice none 0 0,.int .i64 1]) (by simp[results,Tryz.results11,go_sem,j0,j1]) rfl ?_;exact zlo.nil HE.o.1.1 HE.o.2 a9.o
 | true =>
  cases hk:Au.bld G with
  | none =>
   have HE:=aA (BJ (Au.bld_many hb hk) (Tb.tab_many hb hk));unfold zil at HS;rw[HE.o.1.1,HE.o.1.2]at HS;have dq:=zfq;clear hb hk bi a1
   go_enter Tryz.func11,Tryz.ntmps11
   go_upto_region 1 with fail
   rw[<-ao];clear ao;go_wp2_with fail
   refine HS.o.mono ?_;rintro _ w2 ⟨Aa,ca,rfl,_,_,_,ah⟩;have ab:=aA (aa.o.on ah);clear ah x0 x1 x2 x3;generalize ([]:List StT).length=nz at *;have y0:=ab.o.c2 0 _ rfl;have y1:=ab.o.c2 1 _ rfl;have b2:w2.heap[w.heap.size+1]?=some (.cells #[.slice none 0 0,.slice none 0 0] 33 (0,0)):=ab.o.b2;have f0:=AD _ _ 0 _ _ b2;have f1:=AD _ _ 1 _ _ b2;have ly:=(Ac.1 b2).1;have h2:=AP _ _ 1 _ _ (.slice none 0 0) (AP w2 _ 0 _ _ (.slice none 0 0) b2);have a9:=aA ((ab.o.below.setCell (p:=⟨w.heap.size+1,0,none⟩) (by simp) (.slice none 0 0)).setCell (p:=⟨w.heap.size+1,1,none⟩) (by simp) (.slice none 0 0));obtain⟨wf,ap⟩:∃y,y=(w2.setCell ⟨w.heap.size+1,0,none⟩ (.slice none 0 0)).setCell ⟨w.heap.size+1,1,none⟩ (.slice none 0 0):=⟨_,rfl⟩
   rw[<-ap]at h2 a9;go_wp2;rw[<-ap];clear ap;have j0:=aM h2;have j1:=aR h2;have lf:=(Ac.1 h2).1;refine BM (v:=.tuple #[.agg #[.slice none 0 0,.slice none 0 0],.slice none 0 0,.int .i64 5]) (by simp[results,Tryz.results11,go_sem,j0,j1]) rfl ?_;exact zlo.nil HE.o.1.1 HE.o.2 a9.o
  | some p =>
   obtain⟨K,E⟩:=p;have HE:=aA (BJ (Au.bld_ok hb hk) (BJ (Lk.lk_ok hb hk) (Tb.tab_ok hb hk)));obtain⟨hi,hE,cp⟩:=Au.bld_inv hk;have ac:=Gm.right_ok.1 (Gm.isB_right hb);have I:=((Gm.terms_iff G.ts).1 ac.t).1;have aq:=(Gm.nons_iff G).1 ac.n;have hz:(K.zip E).length=K.length:=by rw[List.length_zip,hE,Nat.min_self]
   have dr:=aA (fun q (hq:q<E.length)=>Au.edge_syms hi hq);have ds:=aA (fun k (hk:k∈K)=>Au.kernel_le ac ac.r40 hi hk);have dt:=aA (fun q (h:q<E.length)=>Au.edges_le I (by omega) hi h);have cq:=aA (fun i (hi:i<G.rs.length)=>Gm.rule_p (ac.rr _ (Ay hi)));have du:=aA (fun q=>Ag (Lk.row_len G K E q) ac.r40);have dv:=aA (fun q x (h:x∈Lk.lkRow G K E q)=>Lk.row_in (K:=K) (E:=E) (q:=q) I ac.r40 h);have dw:=aA (fun n (h:n<=300)=>(show(Tb.cfP G K E n).length<=300000 from Ag (Tb.cfP_len G K E I ac.r40 n) (by omega)));have ar:=aA I;have au:=aA (BJ aq.1 aq.2.1);have HZ:=aA hz;have cr:=aA hE;have bj:=aA cp
   have HL:=aA (fun y (h:Below w.heap.size w y)=>(show Calls Tryz.prog 28 _ y (fun e w'=>∃A c,e=.returned (.tuple #[.slice A K.length c,.int .i64 0])/\RdM 2 lkF w' w'.heap.size A ((List.range K.length).map (Lk.lkRow G K E))/\Below y.heap.size y w') from(bi.o y h).mono fun e w' hm=>by
    obtain⟨A,c,h1,_,_,h2,h3⟩:=hm;rw[HE.o.2.1]at h1 h2;rw[HE.o.1.1,Bb,EH]at h1;exact⟨A,c,h1,h2,h3⟩))
   unfold zil at HS;rw[HE.o.1.1,HE.o.1.2,hz]at HS;have dx:=fun w=>(D6 w 77 _ _ (by kernel_rfl):(Instr.build 77 #[(0,.agg #[.slice AT G.ts.length cT,.slice AN G.ns.length cN,.slice AR G.rs.length cR,.int .i64 G.st])]).run Tryz.prog w=.ok (.agg (tbC (.slice AT G.ts.length cT) (.slice AN G.ns.length cN) (.slice AR G.rs.length cR) (.int .i64 G.st) (.slice none 0 0) (.slice none 0 0) (.slice none 0 0))) w)
   clear hb hk hi hE ac I aq hz bi cp
   go_enter Tryz.func11,Tryz.ntmps11
   go_upto_region 1 with fail
   rw[<-ao];clear ao;go_wp2_with fail
   refine HS.o.mono ?_;rintro _ w2 ⟨Aa,ca,rfl,_,_,cu,ah⟩;have av:=aA (aa.o.on ah);have cv:=aA cu;have cw:=aA (HL.o w2 av.o.below);clear ah cu x0 x1 x2 x3 HS aa HL;have x0:=av.o.c1 0 _ rfl;have x1:=av.o.c1 1 _ rfl;have x2:=av.o.c1 2 _ rfl;have x3:=av.o.c1 3 _ rfl;go_upto_region 4 with fail
   go_wp2_with fail
   refine cw.o.mono ?_;rintro _ w3 ⟨AL,cL,rfl,aw,bk⟩;have ax:=aA (av.o.on bk);have bZ:=aA ((cv.o.below bk (Ad _)).more bk.size);have bl:=aA aw;clear bk aw x0 x1 x2 x3 av cv cw;have x0:=ax.o.c1 0 _ rfl;have x1:=ax.o.c1 1 _ rfl;have x2:=ax.o.c1 2 _ rfl;have x3:=ax.o.c1 3 _ rfl;obtain⟨R,hR⟩:∃R,R=w3.heap.size:=⟨_,rfl⟩
   obtain⟨w4,bm⟩:∃y,y=w3.alloc (.cells (tbC (.slice AT G.ts.length cT) (.slice AN G.ns.length cN) (.slice AR G.rs.length cR) (.int .i64 G.st) (.slice none 0 0) (.slice none 0 0) (.slice none 0 0)) 77):=⟨_,rfl⟩
   have bn:Hid (Below R w3 w4):=aA (by rw[bm,hR];exact(Aq _ _).alloc (Ad _) _);have a2:Hid (TBd w4 R R R (.slice AT G.ts.length cT) (.slice AN G.ns.length cN) (.slice AR G.rs.length cR) (.int .i64 G.st) [] [] []):=aA (by rw[bm,hR];exact TBd.start w3 _ _ _ _);have ba:Hid (aW 26 33 w #[.slice AT G.ts.length cT,.slice AN G.ns.length cN,.slice AR G.rs.length cR,.int .i64 G.st] #[.slice none 0 0,.slice none 0 0] w4):=aA (ax.o.on (by rw[<-hR];exact bn.o));have ad:Hid (w.heap.size+2<=R):=aA (by rw[hR];exact ax.o.size);go_upto_region 6 with fail
   rw[<-bm,<-hR];rw[<-hR]at bZ bl;clear bm hR x0 x1 x2 x3 dx;obtain⟨n,hn⟩:∃n,K.length=n:=⟨_,rfl⟩
   rw[hn]at bl cr bj HZ ⊢;have HN:=aA hn;have cx:=aA (bZ.o.below bn.o (Ad _));have cy:=aA (bl.o.below bn.o (Ad _));have dM:(n:Int)<=300:=by have:=bj.o;omega
   clear hn bZ bl ax bn;have a2:Hid (TBd w4 R R w4.heap.size (.slice AT G.ts.length cT) (.slice AN G.ns.length cN) (.slice AR G.rs.length cR) (.int .i64 G.st) [] [] (Tb.cfP G K E 0)):=aA (a2.o.moreN a2.o.hN (Ad _));have cz:=aA (fun(x:World) (hx:Below R w4 x) (vs:Value) (k:List Au.It) (ed:List (Int×Int)) (hs:StV x R vs k ed) (hk:k.length<=287) (he:ed.length<=64) (V:(ed.map (·.1)).Nodup/\∀e∈ed,e.1<G.ts.length/\-1-e.1<G.ns.length)=>zea _ G R vs k ed x ((a1.o x (ba.o.below.trans (hx.mono (by have:=ad.o;omega)))).more (by have:=bX.o;have:=ad.o;omega)) (by have:=hx.size;have:=a2.o.lt;omega) hs ar.o (by omega) (by omega) V.1 (fun e h=>(V.2 e h).1));have cB:=aA (fun(x:World) (hx:Below R w4 x) (vs:Value) (k:List Au.It) (ed:List (Int×Int)) (hs:StV x R vs k ed) (he:ed.length<=64) (V:(ed.map (·.1)).Nodup/\∀e∈ed,e.1<G.ts.length/\-1-e.1<G.ns.length)=>zfE _ G R vs k ed x ((a1.o x (ba.o.below.trans (hx.mono (by have:=ad.o;omega)))).more (by have:=bX.o;have:=ad.o;omega)) (by have:=hx.size;have:=a2.o.lt;omega) hs au.o.1 au.o.2 (by omega) V.1 (fun e h=>⟨(V.2 e h).2,by have:=(V.2 e h).1;have:=ar.o;omega⟩));have cD:=aA (fun(x:World) (hx:Below R w4 x) (N:Nat) (rows:List (RW (Int×Int))) (gts:List (RW Int)) (cs:List C5) (q gs:Nat) (f:Int->Tb.Ce) (l:List (Int×Int)) (AL:Option Addr) (cL:Nat) (h:TBd x R R N (.slice AT G.ts.length cT) (.slice AN G.ns.length cN) (.slice AR G.rs.length cR) (.int .i64 G.st) rows gts cs) (hs:UBQ 63 prF x gs (Tb.rowT (G.ts.length+1) f)) (hl:RdQ 2 lkF x R AL l) (dy:∀x∈l,znb x/\0<=x.1/\x.1<G.rs.length) (dz:l.length<=40) (dN:cs.length<=300000) (aw:rows.length<=1000)=>zdk x R R N R R G _ _ _ _ rows gts cs q gs f l AL cL h ((a1.o x (ba.o.below.trans (hx.mono (by have:=ad.o;omega)))).more (by have:=bX.o;have:=ad.o;omega)) (Ad _) hs hl (Ad _) dy dz ar.o (by omega) aw cq.o);clear a1 cq;go_wp2;go_loopw [30] (fun vi wr=>∃(i:Nat) (rows:List (RW (Int×Int))) (gts:List (RW Int)),i<=n/\vi=.int .i64 i/\Hid (rows.map (·.1)=(List.range i).map (Tb.rowQ G K E))/\Hid (gts.map (·.1)=(List.range i).map (Tb.gotQ G E))/\Hid (TBd wr R R wr.heap.size (.slice AT G.ts.length cT) (.slice AN G.ns.length cN) (.slice AR G.rs.length cR) (.int .i64 G.st) rows gts (Tb.cfP G K E i))/\Hid (Below R w4 wr)) (fun vi _=>n-(intOf vi).toNat)
   case atStart=>exact⟨0,[],[],AX _,rfl,aA rfl,aA rfl,a2,aA (Aq _ _)⟩
   case round =>
    obtain⟨i,rows,gts,hi,rfl,b0,b1,HT,HW⟩:=hrel;rename World=>wr;have aw:rows.length=i:=by have:=congrArg List.length b0.o;simpa using this
    have cE:gts.length=i:=by have:=congrArg List.length b1.o;simpa using this
    by_cases bo:i<n
    ·have b3:i<K.length:=by have:=HN.o;omega
     have bp:i<E.length:=by have:=cr.o;omega
     have cF:i<(K.zip E).length:=by have:=HZ.o;omega
     obtain⟨gA,oA,A1,c1,A2,c2,rfl,cH,k0,k1,r1,r2⟩:=zlP cx.o i cF;have ez:(K.zip E)[i]=(K[i],E[i]):=List.getElem_zip;rw[ez]at k0 k1 r1 r2;simp only at k0 k1 r1 r2;obtain⟨gL,oL,rfl,cI,cJ⟩:=cy.o (by simp;omega);obtain⟨A3,c3,m0,-,-,r3⟩:=cJ i (by simpa using bo);simp only[C3,List.getElem_range]at m0 r3;have V:=dr.o i bp;have b4:=dt.o i bp;have cK:=ds.o _ (Ay b3);have b5:K.getD i []=K[i]:=by rw[Ai,Ar b3];rfl
     have ae:E.getD i []=E[i]:=by rw[Ai,Ar bp];rfl
     have cM:Hid (Tb.rowQ G K E i=Tb.rowT (G.ts.length+1) fun t=>(Tb.act G (Tb.shift G K[i] E[i]) (Lk.lkRow G K E i) t).1):=aA (by unfold Tb.rowQ;rw[b5,ae]);have dA:Hid (Tb.gotQ G E i=Tb.rowT G.ns.length (Tb.gtP E[i])):=aA (by unfold Tb.gotQ;rw[ae]);have cO:Hid (Tb.cfP G K E (i+1)=Tb.cfP G K E i++Tb.cfA i G (Tb.shift G K[i] E[i]) (Lk.lkRow G K E i) (G.ts.length+1)):=aA (by rw[Tb.cfP_step];unfold Tb.cfQ;rw[b5,ae]);have cP:=du.o i;have cQ:=dv.o i;have cS:=dw.o i (by have:=bj.o;omega);have cU:=aA bo;have bb:Hid (rows.length<=1000/\gts.length<=1000000):=aA (by have:=bj.o;omega);have dO:(i:Int)<(n:Int):=by omega
     clear b5 ae ez cJ cF hi aw cE;generalize K[i]=k at *;generalize E[i]=ed at *;generalize Lk.lkRow G K E i=l at *;generalize Tb.cfP G K E i=cs at *;clear b3 bp bo;have k0:=(HW.o.cell (p:=⟨gA,oA+i*2,none⟩) cH).trans k0;have k1:=(HW.o.cell (p:=⟨gA,oA+i*2+1,none⟩) cH).trans k1;have lgA:gA<wr.heap.size:=Bd k0;obtain⟨wi,bq⟩:∃y,y=wr.alloc (.cells #[.slice A1 k.length c1,.slice A2 ed.length c2] 59):=⟨_,rfl⟩
     have br:Hid (Below wr.heap.size wr wi):=aA (by rw[bq];exact(Aq _ _).alloc (Ad _) _);have a3:Hid (wi.heap[wr.heap.size]?=some (.cells #[.slice A1 k.length c1,.slice A2 ed.length c2] 59 (0,0))):=aA (by rw[bq];exact Az wr _);have af:Hid (R<wr.heap.size):=aA HT.o.lt;have cV:=aA (HT.o.below br.o);have ai:=aA (HW.o.trans (br.o.mono (CB af.o)));have aj:=aA (fun(y:World) (h:Below R w4 y)=>(show aW 26 33 w #[.slice AT G.ts.length cT,.slice AN G.ns.length cN,.slice AR G.rs.length cR,.int .i64 G.st] #[.slice none 0 0,.slice none 0 0] y from Below.trans ba.o (h.mono ad.o)));have b6:=aA (fun(y:World) (h:Below R w4 y)=>(show StV y R (.agg #[.slice A1 k.length c1,.slice A2 ed.length c2]) k ed from⟨A1,c1,A2,c2,rfl,r1.below h (Ad _),r2.below h (Ad _)⟩));have cW:=aA (fun(y:World) (h:Below R w4 y)=>(h.cell (p:=⟨gL,oL+i,none⟩) cI).trans m0);have cX:=aA (fun(y:World) (h:Below R w4 y)=>cz.o y h _ k ed (b6.o y h) cK b4 V);have cY:=aA (fun(y:World) (h:Below R w4 y)=>cB.o y h _ k ed (b6.o y h) b4 V);have cZ:=aA (fun(y:World) (h:Below R w4 y) (gs:Nat) (ht:TBd y R R wr.heap.size (.slice AT G.ts.length cT) (.slice AN G.ns.length cN) (.slice AR G.rs.length cR) (.int .i64 G.st) rows gts cs) (hs:UBQ 63 prF y gs (Tb.rowT (G.ts.length+1) (Tb.shift G k ed)))=>cD.o y h wr.heap.size rows gts cs i gs (Tb.shift G k ed) l A3 c3 ht hs (r3.below h (Ad _)) cQ cP cS bb.o.1);go_upto_region 9 with fail
     rw[<-bq];clear bq k0 k1 lgA HT HW cz cB cD cK b4 V cP cQ cS r1 r2 r3 m0 b6;have lgL:gL<R:=cI;have q0:=fun y:bK R wr.heap.size wi=>(aj.o y.1 (ai.o.trans y.2.1)).c1 0 _ rfl;have q1:=fun y:bK R wr.heap.size wi=>(aj.o y.1 (ai.o.trans y.2.1)).c1 1 _ rfl;have q2:=fun y:bK R wr.heap.size wi=>(aj.o y.1 (ai.o.trans y.2.1)).c1 2 _ rfl;have q3:=fun y:bK R wr.heap.size wi=>(aj.o y.1 (ai.o.trans y.2.1)).c1 3 _ rfl;have p0:=fun y:bK R wr.heap.size wi=>aM (y.2.2.trans a3.o);have p1:=fun y:bK R wr.heap.size wi=>aR (y.2.2.trans a3.o);have m0:=fun y:bK R wr.heap.size wi=>cW.o y.1 (ai.o.trans y.2.1);have HD:Hid (Below wi.heap.size wi wi.drew):=aA (aB (Aq _ _) 1);have X:Hid (R<=wi.heap.size/\wr.heap.size<wi.heap.size):=aA ⟨by have:=br.o.size;have:=af.o;omega,(Ac.1 a3.o).1⟩;have ak:Hid (∃y:bK R wr.heap.size wi,wi.drew=y.1):=aA ⟨⟨wi.drew,HD.o.mono X.o.1,rfl⟩,rfl⟩;refine CalmN.region_tree (fun x=>∃y:bK R wr.heap.size wi,x=y.1) (.one [0,1,2,4,5,6,7] 3 (.one [] 8 (.fin []))) (by kernel_rfl) (by kernel_rfl) (fun _ _ d _ _ h=>by cases d <;> exact h) ak.o ?_;simp only[CalmN.wpT,CalmN.wpSt,CalmN.pickOps,Am,Af,Ah];repeat (go_big_quiet_step (fail))
     refine Aj ?_;clear q0 q1 q2 q3 p0 p1 m0 cW;generalize wi.drew=wd at *;have Z:=aA (cV.o.below HD.o);have bs:=aA (ai.o.trans (HD.o.mono X.o.1));have c0:=aA (cX.o wd bs.o);intro KK b;rw[Ap (by rfl)];go_wp2_with fail
     refine c0.o.mono ?_;rintro _ w6 ⟨g6,rfl,_,c4,b7⟩;have F:=aA (HD.o.trans (b7.mono HD.o.size));have c6:=aA (Z.o.below b7);have b8:=aA (ai.o.trans (F.o.mono X.o.1));have H:Hid (∃y:bK R wr.heap.size wi,w6=y.1):=aA ⟨⟨w6,F.o.mono X.o.1,F.o.block _ X.o.2⟩,rfl⟩;have c7:=aA (cZ.o w6 b8.o g6 c6.o c4);clear c4 b7 c0 Z bs HD cZ cX c6;go_wp2_with fail
     refine b _ _ H.o _ (fun _ h=>h) H.o ?_;clear b;refine Aj ?_;intro KK b;rw[Ap (by rfl)];go_wp2_with fail
     refine c7.o.mono ?_;rintro _ w7 ⟨rfl,⟨r,c8,b9⟩,cb,c9⟩;rw[<-cO.o]at b9;have da:=aA b9;have a4:=aA (b8.o.trans cb);have dB:=aA (c8.trans cM.o.symm);have ay:Hid (w7.heap[wr.heap.size]?=some (.cells #[.slice A1 k.length c1,.slice A2 ed.length c2] 59 (0,0))):=aA (c9.keep _ _ _ ((F.o.block _ X.o.2).trans a3.o) (by have:=af.o;omega) (by decide) (by decide) (by decide));have az:Hid (∃y:bK R wr.heap.size wi,w7=y.1):=aA ⟨⟨w7,(F.o.mono X.o.1).trans cb,ay.o.trans a3.o.symm⟩,rfl⟩;clear c8 b9 cb c9 c7 H b8 F cO cM;go_wp2_with fail
     refine b _ _ az.o _ (fun _ h=>h) az.o ?_;clear b az;refine Aj ?_;have s:Hid (R<=w7.heap.size/\wr.heap.size<w7.heap.size):=aA ⟨CB da.o.lt,(Ac.1 ay.o).1⟩;clear cV ai br a3 ak X;go_upto_region 10 with fail
     have HD:Hid (Below w7.heap.size w7 w7.drew):=aA (aB (Aq _ _) 1);have q0:=fun y:bK R wr.heap.size w7=>(aj.o y.1 (a4.o.trans y.2.1)).c1 0 _ rfl;have q1:=fun y:bK R wr.heap.size w7=>(aj.o y.1 (a4.o.trans y.2.1)).c1 1 _ rfl;have q2:=fun y:bK R wr.heap.size w7=>(aj.o y.1 (a4.o.trans y.2.1)).c1 2 _ rfl;have q3:=fun y:bK R wr.heap.size w7=>(aj.o y.1 (a4.o.trans y.2.1)).c1 3 _ rfl;have p0:=fun y:bK R wr.heap.size w7=>aM (y.2.2.trans ay.o);have p1:=fun y:bK R wr.heap.size w7=>aR (y.2.2.trans ay.o);have a0:Hid (∀y:World,Below R w7 y->y.heap[wr.heap.size]?=w7.heap[wr.heap.size]?->∃z:bK R wr.heap.size w7,y=z.1):=aA (fun y h e=>⟨⟨y,h,e⟩,rfl⟩);have ak:=aA (a0.o w7.drew (HD.o.mono s.o.1) rfl);refine CalmN.region_tree (fun x=>∃y:bK R wr.heap.size w7,x=y.1) (.two [0,1,3,4] 2 (.one [] 5 (.one [] 6 (.one [] 7 (.one [8,9] 10 (.fin []))))) 5 (.two [] 2 (.one [] 6 (.one [] 7 (.one [8,9] 10 (.fin [])))) 6 (.one [] 2 (.one [] 7 (.one [8,9] 10 (.fin [])))))) (by kernel_rfl) (by kernel_rfl) (fun _ _ d _ _ h=>by cases d <;> exact h) ak.o ?_;simp only[CalmN.wpT,CalmN.wpSt,CalmN.pickOps,Am,Af,Ah];repeat (go_big_quiet_step (fail))
     clear q0 q1 q2 q3 p0 p1;generalize w7.drew=wd at *;have Z:=aA (da.o.below HD.o);have bs:=aA (a4.o.trans (HD.o.mono s.o.1));have bu:=aA (cY.o wd bs.o);obtain⟨⟨vA,vG,vC,hb,hA,hG,hC⟩,bv,bw,db,dc⟩:=Z.o;obtain⟨AG,cG,rfl,_,_,_⟩:=hG.form zao;have bx:=aA hb;have bz:=aA hG;have c5d:=zgW hb;have lRd:=(Ac.1 hb).1;clear hA hG hC bv bw db dc hb cY;refine Aj ⟨?_,?_⟩
     case' refine_1 =>
      intro KK b;rw[Ap (by rfl)];go_wp2_with fail
      refine b _ _ ak.o _ (fun _ h=>h) ak.o ?_;clear b;refine Aj ?_;intro KK b;rw[Ap (by rfl)];go_wp2_with fail
      refine bu.o.mono ?_;rintro _ w9 ⟨g9,rfl,J,bc,M⟩;have ag:=aA (HD.o.trans (M.mono HD.o.size));have de:=aA (Z.o.below M);have B9:=aA (aC M bx.o);have cc:=aA (bz.o.below M (Ad _));have D:=aA (a0.o w9 (ag.o.mono s.o.1) (ag.o.block _ s.o.2));have cd:=aA bc;have df:=aA (Ag (CB Z.o.lt) J);have a5:Hid (Below w9.heap.size w9 (w9.alloc (.cells #[.slice (some ⟨g9,0,none⟩) G.ns.length G.ns.length] 51))):=aA ((Aq _ _).alloc (Ad _) _);have al:=aA (ag.o.trans (a5.o.mono ag.o.size));have C:=aA (a0.o _ (al.o.mono s.o.1) (al.o.block _ s.o.2));have BA:=aA (aC a5.o B9.o);clear J bc M Z bx bz HD bu c5d lRd;go_wp2_with fail
      refine b _ _ D.o _ (fun _ h=>h) D.o ?_;clear b;refine Aj ?_;intro KK b;rw[Ap (by rfl)];go_wp2_with fail
      refine b _ _ C.o _ (fun _ h=>h) C.o ?_;clear b;refine Aj ?_
     case' refine_2 =>
      intro KK b;rw[Ap (by rfl)];go_wp2_with fail
      refine bu.o.mono ?_;rintro _ w9 ⟨g9,rfl,J,bc,M⟩;have ag:=aA (HD.o.trans (M.mono HD.o.size));have de:=aA (Z.o.below M);have B9:=aA (aC M bx.o);have cc:=aA (bz.o.below M (Ad _));have D:=aA (a0.o w9 (ag.o.mono s.o.1) (ag.o.block _ s.o.2));have cd:=aA bc;have df:=aA (Ag (CB Z.o.lt) J);have a5:Hid (Below w9.heap.size w9 (w9.alloc (.cells #[.slice (some ⟨g9,0,none⟩) G.ns.length G.ns.length] 51))):=aA ((Aq _ _).alloc (Ad _) _);have al:=aA (ag.o.trans (a5.o.mono ag.o.size));have C:=aA (a0.o _ (al.o.mono s.o.1) (al.o.block _ s.o.2));have BA:=aA (aC a5.o B9.o);clear J bc M Z bx bz HD bu c5d lRd;go_wp2_with fail
      refine b _ _ D.o _ (fun _ h=>h) D.o ?_;clear b;refine Aj ⟨?_,?_⟩
      case' refine_1 =>
       have c59:=zgW B9.o;have l59:=(Ac.1 B9.o).1;intro KK b;rw[Ap (by rfl)];go_wp2_with fail
       refine b _ _ D.o _ (fun _ h=>h) D.o ?_;clear b;clear c59 l59;refine Aj ?_;intro KK b;rw[Ap (by rfl)];go_wp2_with fail
       refine b _ _ C.o _ (fun _ h=>h) C.o ?_;clear b;refine Aj ?_
      case' refine_2 =>
       intro KK b;rw[Ap (by rfl)];go_wp2_with fail
       refine b _ _ C.o _ (fun _ h=>h) C.o ?_;clear b;refine Aj ?_;have c5a:=zgW BA.o;have l5a:=(Ac.1 BA.o).1;intro KK b;rw[Ap (by rfl)];go_wp2_with fail
       refine b _ _ C.o _ (fun _ h=>h) C.o ?_;clear b;clear c5a l5a;refine Aj ?_
     all_goals
      intro KK b;rw[Ap (by rfl)];have bD:=aA (cc.o.below a5.o (Ad _));obtain⟨x,hx⟩:∃x:RW Int,x=(Tb.rowT G.ns.length (Tb.gtP ed),some ⟨g9,0,none⟩,G.ns.length):=⟨_,rfl⟩
      have ce:x.1=Tb.rowT G.ns.length (Tb.gtP ed):=by rw[hx]
      have dg:x.1.length=G.ns.length:=by rw[ce,Tb.rowT_len]
      have dh:Hid (bL 3 1 inF w9 R w9.heap.size x):=aA (by
       rw[hx];exact⟨by rw[Tb.rowT_len];exact Ad _,by have:=au.o;simp only;omega,cd.o.q.rowG zkT df.o cd.o.lt⟩)
      have bd:Hid (∀j u,(rwF x)[j]?=some u->(w9.alloc (.cells #[.slice (some ⟨g9,0,none⟩) G.ns.length G.ns.length] 51)).cell? ⟨w9.heap.size,j,none⟩=some u):=aA (zdo x _ dg _ _ _ (by rw[hx];exact Az w9 (.cells #[.slice (some ⟨g9,0,none⟩) G.ns.length G.ns.length] 51)));have dC:=aA (ce.trans dA.o.symm);have cf:Hid (R<=(w9.alloc (.cells #[.slice (some ⟨g9,0,none⟩) G.ns.length G.ns.length] 51)).heap.size):=aA (Ag s.o.1 al.o.size);clear hx ce dg;refine zic (f:=rwF) (.tmp 46) (.tmp 50) _ rfl Tryz.underlying31 _ 24 zkQ (by decide) (by decide) (by decide) zao zgO R _ gts rfl bD.o _ _ x rfl bd.o bb.o.2 cf.o ?_;intro v5 w5 cg bM;obtain⟨A5,c5,rfl,_,_,_⟩:=aK.form cg zao;have a6:=aA (de.o.pushG B9.o cc.o dh.o cg bM);have bT:Below R w7 w5:=(al.o.mono s.o.1).grown bM cf.o (fun k e=>(Bs bD.o k e).1);have ch:=aI bD.o bM ((al.o.block _ s.o.2).trans ay.o) fun cur=>aH (by decide);have bf:=aA (a0.o w5 bT (ch.trans ay.o.symm));have H:=aA (a0.o (w5.setCell ⟨R,5,none⟩ (.slice A5 (gts++[x]).length c5)) (bT.setCell (Ad _) _) ((AH w5 ⟨R,5,none⟩ _ _ (by have:=af.o;simp only;omega)).trans (ch.trans ay.o.symm)));have dD:=aA (a4.o.trans (bT.setCell (p:=⟨R,5,none⟩) (Ad _) (.slice A5 (gts++[x]).length c5)));have dE:=aA (a6.o.1.moreN a6.o.2.1.size (Ad _));have c5R:=zgW a6.o.2.2.2;have f5R:=AD _ R 5 _ _ a6.o.2.2.2;have l5R:=(Ac.1 a6.o.2.2.2).1;have dF:Hid ((rows++[r]).map (·.1)=(List.range (i+1)).map (Tb.rowQ G K E)):=aA (by rw[AW,b0.o,Cp,AW,Dy,Dy,dB.o]);have dG:Hid ((gts++[x]).map (·.1)=(List.range (i+1)).map (Tb.gotQ G E)):=aA (by rw[AW,b1.o,Cp,AW,Dy,Dy,dC.o]);clear cg bM bT ch a6 bD dh bd cf;refine b _ _ bf.o _ (fun _ h=>h) bf.o ?_;clear b;generalize (gts++[x]).length=ln at *
      go_frame
      repeat (go_big_quiet_step (fail))
      refine Aj ?_;intro KK b;rw[Ap (by rfl)];go_wp2_with fail
      refine b _ _ H.o _ (fun _ h=>h) H.o ?_;clear b c5R f5R l5R;refine Aj ?_;generalize w5.setCell ⟨R,5,none⟩ (.slice A5 ln c5)=wk at *;go_wp2;go_roundw
      case rel=>exact⟨i+1,rows++[r],gts++[x],cU.o,by go_num,dF,dG,dE,dD⟩
      case measure=>simp[intOf];have:=cU.o;omega
    ·obtain rfl:i=n:=by omega
     obtain⟨⟨vA,vG,vC,hb,hA,hG,hC⟩,bv,bw,db,dc⟩:=HT.o;obtain⟨AA,cA,rfl,di,ci,_⟩:=hA.form zao;obtain⟨AG,cG,rfl,dj,cj,_⟩:=hG.form zao;obtain⟨AC,cC,rfl,dk,ck,_⟩:=hC.form za1;have O:Tb.actS G=rows.map (·.1):=by rw[HE.o.2.2.1,HN.o];exact b0.o.symm
     have U:Tb.gotS G=gts.map (·.1):=by rw[HE.o.2.2.2.1,HN.o];exact b1.o.symm
     have bg:Tb.cfS G=Tb.cfP G K E i:=by rw[HE.o.2.2.2.2,HN.o]
     have dH:=aA O;have dI:=aA U;have dP:=aA bg;have cl:=aA hb;have dJ:=aA HE.o.1.1;generalize Tb.cfP G K E i=cs at *;have dl:Hid (aW 26 33 w #[.slice AT G.ts.length cT,.slice AN G.ns.length cN,.slice AR G.rs.length cR,.int .i64 G.st] #[.slice none 0 0,.slice none 0 0] wr):=aA (Below.trans ba.o (HW.o.mono ad.o));have dm:Hid (w.heap.size+1≠R):=aA (by have:=ad.o;omega);have cm:=aA dl.o.b2;have h1:=AP _ _ 0 _ _ (.slice AA rows.length cA) cm.o;have h2:=AP _ _ 1 _ _ (.slice AG gts.length cG) h1;have dn:wr.heap.size<=((wr.drew.setCell ⟨w.heap.size+1,0,none⟩ (.slice AA rows.length cA)).setCell ⟨w.heap.size+1,1,none⟩ (.slice AG gts.length cG)).heap.size:=(fun y:World=>(by simp:y.heap.size<=((y.setCell ⟨w.heap.size+1,0,none⟩ (.slice AA rows.length cA)).setCell ⟨w.heap.size+1,1,none⟩ (.slice AG gts.length cG)).heap.size)) wr.drew;have am:Hid (wr.drew.heap[w.heap.size+1]?=some (.cells #[.slice none 0 0,.slice none 0 0] 33 (0,0))):=aA cm.o
     have dK:Hid (∀(g:Nat) (cur:Array Value) (T:TypeId),T≠33->wr.heap[g]?=some (.cells cur T (0,0))->((wr.drew.setCell ⟨w.heap.size+1,0,none⟩ (.slice AA rows.length cA)).setCell ⟨w.heap.size+1,1,none⟩ (.slice AG gts.length cG)).heap[g]?=some (.cells cur T (0,0))):=aA (fun g cur T hT hc=>by
      have dp:g≠w.heap.size+1:=fun e=>by
       rw[e,cm.o]at hc;injection hc with hc;injection hc with _ hc _;exact hT hc.symm
      exact((AH _ ⟨w.heap.size+1,1,none⟩ _ g dp).trans (AH wr.drew ⟨w.heap.size+1,0,none⟩ _ g dp)).trans hc)
     have dL:Hid (Below w.heap.size w ((wr.drew.setCell ⟨w.heap.size+1,0,none⟩ (.slice AA rows.length cA)).setCell ⟨w.heap.size+1,1,none⟩ (.slice AG gts.length cG))):=aA (((aB dl.o.below 1).setCell (p:=⟨w.heap.size+1,0,none⟩) (by simp) _).setCell (p:=⟨w.heap.size+1,1,none⟩) (by simp) _);have cn:Hid (((wr.drew.setCell ⟨w.heap.size+1,0,none⟩ (.slice AA rows.length cA)).setCell ⟨w.heap.size+1,1,none⟩ (.slice AG gts.length cG)).heap[w.heap.size+1]?=some (.cells #[.slice AA rows.length cA,.slice AG gts.length cG] 33 (0,0))):=aA h2
     have bh:=aA (fun(wf:World) (hs:wr.heap.size<=wf.heap.size) (hk:∀(g:Nat) (cur:Array Value) (T:TypeId),T≠33->wr.heap[g]?=some (.cells cur T (0,0))->wf.heap[g]?=some (.cells cur T (0,0))) (hf:Below w.heap.size w wf)=>(show zlo G w (.returned (.tuple #[.agg #[.slice AA rows.length cA,.slice AG gts.length cG],.slice AC cs.length cC,.int .i64 0])) wf from by
      have own:∀ {m n:Nat} {T:TypeId} {v:Value} {xs:List Value},wr.ownsRow R T m v n xs->T≠33->wf.ownsRow R T m v n xs:=fun {m n T v xs} ho hT=>by
       refine⟨ho.1,?_⟩;rcases ho.2 with h1|⟨g,cap,cur,h1,h2,h3,h4⟩
       ·exact .inl h1
       ·exact .inr ⟨g,cap,cur,h1,h2,hk g _ _ hT h3,h4⟩
      have fA:aK 64 1 rwF wf R (.slice AA rows.length cA) rows:=own hA (by decide);have fG:aK 51 1 rwF wf R (.slice AG gts.length cG) gts:=own hG (by decide);have fC:aK 66 5 cfF wf R (.slice AC cs.length cC) cs:=own hC (by decide);obtain⟨AC',cC',eC,_,_,rC⟩:=fC.form za1;injection eC with eC _ _;subst eC;unfold maxLen at ci cj ck;refine⟨_,AC,cC,?_,⟨AA,cA,AG,cG,rfl,?_,ci,?_,cj,?_,?_⟩,?_,ck,?_,hf⟩
      ·rw[O,U,bg,Bb,Bb,dJ.o]
      ·rw[O,Bb];exact di
      ·rw[U,Bb];exact dj
      ·rw[O];exact aK.rdM fA (fun r hr=>(bv r hr).keep fun g cur _ _ hc=>hk g cur _ (by decide) hc) hs
      ·rw[U];exact aK.rdM fG (fun r hr=>(bw r hr).keep fun g cur _ _ hc=>hk g cur _ (by decide) hc) hs
      ·rw[bg];exact dk
      ·rw[bg];exact rC))
     have X:=aA dn;have q4:=fun y:OnP [R] wr=>y.row (j:=4) (u:=.slice AA rows.length cA) (by simp) cl.o rfl;have q5:=fun y:OnP [R] wr=>y.row (j:=5) (u:=.slice AG gts.length cG) (by simp) cl.o rfl;have q6:=fun y:OnP [R] wr=>y.row (j:=6) (u:=.slice AC cs.length cC) (by simp) cl.o rfl;have ak:Hid (∃y:OnP [R] wr,wr.drew=y.1):=aA ⟨⟨wr.drew,fun _ _=>rfl⟩,rfl⟩
     have co:Hid (∃y:OnP [R] wr,(wr.drew.setCell ⟨w.heap.size+1,0,none⟩ (.slice AA rows.length cA)).setCell ⟨w.heap.size+1,1,none⟩ (.slice AG gts.length cG)=y.1):=aA ⟨⟨_,fun g hg=>by
      rw[AF]at hg;subst hg;exact(AH _ ⟨w.heap.size+1,1,none⟩ _ _ (fun e=>dm.o e.symm)).trans (AH wr.drew ⟨w.heap.size+1,0,none⟩ _ _ (fun e=>dm.o e.symm))⟩,rfl⟩
     clear O U bg hA hG hC bv bw hb h1 h2 dn di ci dj cj dk ck bo hi aw cE cx cy;go_upto_region 12 with fail
     refine CalmN.region_tree (fun x=>∃y:OnP [R] wr,x=y.1) (.one [0,1,2,3] 4 (.fin [5,6])) (by kernel_rfl) (by kernel_rfl) (fun _ _ d _ _ h=>by cases d <;> exact h) ak.o ?_;simp only[CalmN.wpT,CalmN.wpSt,CalmN.pickOps,Am,Af,Ah];repeat (go_big_quiet_step (fail))
     refine Aj ?_;clear q4 q5 q6;have y0:=aM am.o;have y1:=aR am.o;have f0:=AD _ _ 0 _ _ am.o;have f1:=AD _ _ 1 _ _ am.o;have ly:=(Ac.1 am.o).1;generalize wr.drew=wd at *;intro KK b;rw[Ap (by rfl)];go_wp2_with fail
     refine b _ _ co.o _ (fun _ h=>h) co.o ?_;clear b y0 y1 f0 f1 ly co;generalize (wd.setCell ⟨w.heap.size+1,0,none⟩ (.slice AA rows.length cA)).setCell ⟨w.heap.size+1,1,none⟩ (.slice AG gts.length cG)=wf at *;repeat (go_big_quiet_step (fail))
     refine Aj ?_;have j0:=aM cn.o;have j1:=aR cn.o;have lf:=(Ac.1 cn.o).1;go_wp2;refine BM (v:=.tuple #[.agg #[.slice AA rows.length cA,.slice AG gts.length cG],.slice AC cs.length cC,.int .i64 0]) (by simp[results,Tryz.results11,go_sem,j0,j1]) rfl ?_;exact bh.o wf X.o dK.o dL.o
end Go.Proofs.YtjjbaehamplnaaaGreat
namespace Go.Proofs.YtjjbaehamplnaaaGreat
open Go.RowKit
theorem zne (G:Gm.Gr) (v:Value) (B:Nat) (x:World) (as_:List (List Tb.Ce)) (gs:List (List Int)) (cs:List C5) (n m k:Nat) (er:Int) (ht:Tb.actS G=as_/\Tb.gotS G=gs/\Tb.cfS G=cs) (hn:as_.length=n) (hm:gs.length=m) (hk:cs.length=k) (he:Au.bldE G=er) (hg:aQ x B v G) (hf:Gm.Fit G) (hB:B<=x.heap.size) :
  Calls Tryz.prog 11 #[v] x fun e w'=>∃AA cA AG cG AC cC,e=.returned (.tuple #[.agg #[.slice AA n cA,.slice AG m cG],.slice AC k cC,.int .i64 er])/\zfx w' w'.heap.size (.agg #[.slice AA n cA,.slice AG m cG]) as_ gs/\RdQ 5 cfF w' w'.heap.size AC cs/\Below x.heap.size x w' :=
 (zfF v G B x hg hf hB).mono fun e w' h=>by
  obtain⟨vt,AC,cC,h1,h2,_,_,h3,h4⟩:=h;rw[ht.1,ht.2.1]at h2;rw[ht.2.2]at h1 h3;rw[hk,he]at h1;obtain⟨AA,cA,AG,cG,rfl,h5⟩:=h2;rw[hn,hm]at h1;refine⟨AA,cA,AG,cG,AC,cC,h1,⟨AA,cA,AG,cG,by rw[hn,hm],h5⟩,h3,h4⟩
theorem zgd (w:World):(Instr.build 26 #[]).run Tryz.prog w=.ok (.agg #[.slice none 0 0,.slice none 0 0,.slice none 0 0,.int .i64 0]) w:=D6 w 26 _ _ (by kernel_rfl)
theorem zhN:Gm.Fit Gm.gr0:=⟨by simp[Gm.gr0],by simp[Gm.gr0],by simp[Gm.gr0],by unfold Gm.In;simp[Gm.gr0]⟩
theorem zeD (w:World):Calls Tryz.prog 8 #[] w fun e w'=>e=.returned (.bool true)/\Below w.heap.size w w':=by
 have T1:=aA (zcd zmC aY (by decide) (by decide) znL w w.heap.size rfl);have T2:=aA (fun(w1:World)=>zcd zmD a7 (by decide) (by decide) znM w1 w1.heap.size rfl);have U1:=(show(convert 72 72 (.slice (some ⟨w.heap.size,0,none⟩) 32 32)).run Tryz.prog (w.alloc (.cells #[.int .u8 37,.int .u8 108,.int .u8 101,.int .u8 102,.int .u8 116,.int .u8 32,.int .u8 39,.int .u8 43,.int .u8 39,.int .u8 32,.int .u8 37,.int .u8 37,.int .u8 32,.int .u8 101,.int .u8 32,.int .u8 58,.int .u8 32,.int .u8 101,.int .u8 32,.int .u8 39,.int .u8 43,.int .u8 39,.int .u8 32,.int .u8 101,.int .u8 32,.int .u8 124,.int .u8 32,.int .u8 39,.int .u8 110,.int .u8 39,.int .u8 32,.int .u8 59] 5))=.ok (.slice (some ⟨w.heap.size,0,none⟩) 32 32) (w.alloc (zbq zmC)) from ze7 w zmC 32 32)
 have V2:=aA (fun w:World=>show(convert 72 72 (.slice (some ⟨w.heap.size,0,none⟩) 16 16)).run Tryz.prog (w.alloc (.cells #[.int .u8 37,.int .u8 37,.int .u8 32,.int .u8 115,.int .u8 32,.int .u8 58,.int .u8 32,.int .u8 39,.int .u8 97,.int .u8 39,.int .u8 32,.int .u8 115,.int .u8 32,.int .u8 124,.int .u8 32,.int .u8 59] 5))=.ok (.slice (some ⟨w.heap.size,0,none⟩) 16 16) (w.alloc (zbq zmD)) from ze7 w zmD 16 16);have bc:zmC.length=32:=rfl;have bd:zmD.length=16:=rfl;rw[bc]at T1;rw[bd]at T2;clear bc bd;have bf:=aA (fun(x:World)=>zne Gm.gr0 (.agg #[.slice none 0 0,.slice none 0 0,.slice none 0 0,.int .i64 0]) x.heap.size x [] [] [] 0 0 0 1 tab0 rfl rfl rfl znU (zjT x _) zhN (Ad _));have b6:=fun w=>zgd w
 go_enter Tryz.func8,Tryz.ntmps8
 go_wp2_with fail
 refine T1.o.mono ?_;rintro _ w1 ⟨⟨g,rfl,ai,aa⟩,bg⟩;have bh:=aA (fun(x:World) (h:Below w1.heap.size w1 x)=>zne aY g w1.heap.size x zm8 zm5 _ 5 5 1 0 znf rfl rfl rfl zmP (ai.below h (Ad _)) aa h.size);have aj:=aA (fun(x:World) (h:Below w1.heap.size w1 x) (k t:Int)=>zeb g aY w1.heap.size k t x (ai.below h (Ad _)) aa h.size);obtain⟨AT,cT,AN,cN,AR,cR,rfl,_,_,_,_,_,_⟩:=ai;have ak:=aA bg;have i:=aA (bA.start 26 w1 #[.slice AT aY.ts.length cT,.slice AN aY.ns.length cN,.slice AR aY.rs.length cR,.int .i64 aY.st]);clear bg U1 T1 aa;obtain⟨wa,al⟩:∃y,y=w1.alloc (.cells #[.slice AT aY.ts.length cT,.slice AN aY.ns.length cN,.slice AR aY.rs.length cR,.int .i64 aY.st] 26):=⟨_,rfl⟩
 rw[<-al]at i;go_upto_region 2 with fail
 rw[<-al];clear al;have x0:=i.o.c 0 _ rfl;have x1:=i.o.c 1 _ rfl;have x2:=i.o.c 2 _ rfl;have x3:=i.o.c 3 _ rfl;go_wp2_with fail
 refine(bh.o wa i.o.below).mono ?_;rintro _ w2 ⟨A2,c2,B2,d2,C2,e2,rfl,bi,bj,bk⟩;have am:=aA (i.o.on bk);have ao:=aA (ak.o.trans (am.o.below.mono ak.o.size));have bl:=aA bi;have bm:=aA bj;clear x0 x1 x2 x3 bi bj bk bh i;have ap:=aA (bA.start 33 w2 #[.slice A2 5 c2,.slice B2 5 d2]);obtain⟨wb,aq⟩:∃y,y=w2.alloc (.cells #[.slice A2 5 c2,.slice B2 5 d2] 33):=⟨_,rfl⟩
 rw[<-aq]at ap;have U2:=V2.o wb;have T3:=aA (T2.o wb);clear V2 T2;go_upto_region 3 with fail
 rw[<-aq];clear aq;go_wp2_with fail
 refine T3.o.mono ?_;rintro _ w3 ⟨⟨g2,rfl,ar,ab⟩,bn⟩;have af:=aA (ap.o.on bn);have bo:=aA (am.o.on (af.o.below));have au:=aA (ao.o.trans (af.o.below.mono ao.o.size));clear bn U2 T3 ap am;have bp:=aA (fun(x:World) (h:Below w3.heap.size w3 x)=>zne a7 g2 w3.heap.size x zm9 zm6 _ 4 4 0 0 zng rfl rfl rfl zmQ (ar.below h (Ad _)) ab h.size);have bq:=aA (fun(x:World) (h:Below w3.heap.size w3 x) (BT:Nat) (vt:Value) (rs:List (List Tb.Ce)) (gs:List (List Int)) (ht:zfx x BT vt rs gs) (b7:BT<=x.heap.size) (h1:rs.length<=9/\gs.length<=9) (h2:∀r∈rs,r.length<=9) (h3:∀r∈gs,r.length<=9)=>zcu g2 a7 w3.heap.size BT vt rs gs x (ar.below h (Ad _)) ab h.size ht b7 (by omega) (fun r hr=>by have:=h2 r hr;omega) (fun r hr=>by have:=h3 r hr;omega));obtain⟨ATb,cTb,ANb,cNb,ARb,cRb,rfl,_,_,_,_,_,_⟩:=ar;have j:=aA (bA.start 26 w3 #[.slice ATb a7.ts.length cTb,.slice ANb a7.ns.length cNb,.slice ARb a7.rs.length cRb,.int .i64 a7.st]);clear ab;obtain⟨wc,av⟩:∃y,y=w3.alloc (.cells #[.slice ATb a7.ts.length cTb,.slice ANb a7.ns.length cNb,.slice ARb a7.rs.length cRb,.int .i64 a7.st] 26):=⟨_,rfl⟩
 rw[<-av]at j;go_upto_region 4 with fail
 rw[<-av];clear av;have x0:=j.o.c 0 _ rfl;have x1:=j.o.c 1 _ rfl;have x2:=j.o.c 2 _ rfl;have x3:=j.o.c 3 _ rfl;go_wp2_with fail
 refine(bp.o wc j.o.below).mono ?_;rintro _ w4 ⟨A4,c4,B4,d4,C4,e4,rfl,br,_,bs⟩;have u:=aA (j.o.on bs);have bu:=aA (af.o.on u.o.below);have bv:=aA (bo.o.on u.o.below);have aw:=aA (au.o.trans (u.o.below.mono au.o.size));have bw:=aA br;clear x0 x1 x2 x3 br bs bp j af bo;have ax:=aA (bA.start 33 w4 #[.slice A4 4 c4,.slice B4 4 d4]);obtain⟨wd,ay⟩:∃y,y=w4.alloc (.cells #[.slice A4 4 c4,.slice B4 4 d4] 33):=⟨_,rfl⟩
 rw[<-ay]at ax;go_upto_region 5 with fail
 rw[<-ay];clear ay;go_wp2_with fail
 refine(bf.o wd).mono ?_;rintro _ w5 ⟨A5,c5,B5,d5,C5',e5,rfl,_,_,bx⟩;have bz:=aA (ax.o.on bx);obtain⟨we,az⟩:∃y,y=w5.alloc (.cells #[.slice A5 0 c5,.slice B5 0 d5] 33):=⟨_,rfl⟩
 have a0:Hid (bA 33 w4 #[.slice A4 4 c4,.slice B4 4 d4] we):=aA (by rw[az];exact bz.o.alloc _);go_upto_region 6 with fail
 rw[<-az];clear az bx bf b6 ax bz;have p:=aA a0.o.below;have f:=aA (u.o.on p.o);have ag:=aA (bu.o.on p.o);have b:=aA (bv.o.on p.o);have bD:=aA (aw.o.trans (p.o.mono aw.o.size));have ah:=aA (ag.o.below);have b8:=aA (bl.o.below ah.o (Ad _));have b9:=aA (bm.o.below ah.o (Ad _));have bM:=aA (bw.o.below p.o (Ad _));clear u bu bv bl bm bw ak ao au aw;obtain⟨A4',c4',B4',d4',e4',-,-,-,-,bT,bX⟩:=bM.o;injection e4' with e4';injection e4' with e4';simp only[EB,Value.slice.injEq,and_true]at e4';obtain⟨⟨rfl,-,rfl⟩,rfl,-,rfl⟩:=e4';obtain⟨gA,oA,rfl,ca,a1⟩:=bT (by decide);obtain⟨r2,k2,m2,_,_,rr2⟩:=a1 2 (by decide);obtain⟨r0,k0,m0,_,_,rr0⟩:=a1 0 (by decide);obtain⟨g2',o2',rfl,a2,ad⟩:=rr2 (by decide);obtain⟨g0',o0',rfl,a3,ac⟩:=rr0 (by decide);obtain⟨gG,oG,rfl,cb,bZ⟩:=bX (by decide);obtain⟨q0,s0,p0,_,_,qq0⟩:=bZ 0 (by decide);obtain⟨gz,oz,rfl,cc,b0⟩:=qq0 (by decide);obtain⟨gC,oC,rfl,cd,s⟩:=b9.o (by decide);have m2:we.cell? ⟨gA,oA+2,none⟩=some (.slice (some ⟨g2',o2',none⟩) 2 k2):=m2;have m0:we.cell? ⟨gA,oA,none⟩=some (.slice (some ⟨g0',o0',none⟩) 2 k0):=m0;have p0:we.cell? ⟨gG,oG,none⟩=some (.slice (some ⟨gz,oz,none⟩) 1 s0):=p0;have i2:we.cell? ⟨g2',o2'+2,none⟩=some (.int .i64 3):=ad 1 (by decide) 0 _ rfl;have i0:we.cell? ⟨g0',o0'+2,none⟩=some (.int .i64 2):=ac 1 (by decide) 0 _ rfl;have i1:we.cell? ⟨g0',o0'+2+1,none⟩=some (.int .i64 1):=ac 1 (by decide) 1 _ rfl;have iz:we.cell? ⟨gz,oz,none⟩=some (.int .i64 2):=b0 0 (by decide) 0 _ rfl;have j0:we.cell? ⟨gC,oC,none⟩=some (.int .i64 4):=s 0 (by decide) 0 _ rfl;have j1:we.cell? ⟨gC,oC+1,none⟩=some (.int .i64 0):=s 0 (by decide) 1 _ rfl;have j2:we.cell? ⟨gC,oC+2,none⟩=some (.int .i64 1):=s 0 (by decide) 2 _ rfl;have j3:we.cell? ⟨gC,oC+3,none⟩=some (.int .i64 0):=s 0 (by decide) 3 _ rfl;have j4:we.cell? ⟨gC,oC+4,none⟩=some (.int .i64 (-1)):=s 0 (by decide) 4 _ rfl;have u0:=ag.o.c 0 _ rfl;have v0:=a0.o.c 0 _ rfl;have v1:=a0.o.c 1 _ rfl;clear a1 bZ b0 s ad ac rr2 rr0 qq0 bT bX ca a2 a3 cb cc cd;go_upto_region 8 with fail
 clear u0;have a4:=aA (bq.o we f.o.below w4.heap.size _ zm9 zm6 bM.o p.o.size (by decide) (by decide) (by decide));rw[znz]at a4;have h0:=f.o.c 0 _ rfl;have h1:=f.o.c 1 _ rfl;have h2:=f.o.c 2 _ rfl;have h3:=f.o.c 3 _ rfl;go_wp2_with fail
 refine a4.o.mono ?_;rintro _ w6 ⟨rfl,b1⟩;have d:=aA b1;clear b1 m2 m0 p0 i2 i0 i1 iz j0 j1 j2 j3 j4 v0 v1 h0 h1 h2 h3 a4;have a5:=aA (bq.o w6 (f.o.on d.o).below w2.heap.size _ zm8 zm5 (b8.o.below d.o ah.o.size) (Ag ah.o.size d.o.size) (by decide) (by decide) (by decide));rw[zl5]at a5;have h0:=(f.o.on d.o).c 0 _ rfl;have h1:=(f.o.on d.o).c 1 _ rfl;have h2:=(f.o.on d.o).c 2 _ rfl;have h3:=(f.o.on d.o).c 3 _ rfl;have u0:=(ag.o.on d.o).c 0 _ rfl;have u1:=(ag.o.on d.o).c 1 _ rfl;go_wp2_with fail
 refine a5.o.mono ?_;rintro _ w7 ⟨rfl,b3⟩;have l:=aA (d.o.trans (b3.mono d.o.size));clear b3 h0 h1 h2 h3 u0 u1 a5 d;have a6:=aA (aj.o w7 ((b.o.on l.o).below) 0 0);rw[zlB]at a6;have h0:=(b.o.on l.o).c 0 _ rfl;have h1:=(b.o.on l.o).c 1 _ rfl;have h2:=(b.o.on l.o).c 2 _ rfl;have h3:=(b.o.on l.o).c 3 _ rfl;go_wp2_with fail
 refine a6.o.mono ?_;rintro _ w8 ⟨rfl,b4⟩;have m:=aA (l.o.trans (b4.mono l.o.size));clear b4 h0 h1 h2 h3 a6 l;have a9:=aA (aj.o w8 ((b.o.on m.o).below) 1 0);rw[zlA]at a9;have h0:=(b.o.on m.o).c 0 _ rfl;have h1:=(b.o.on m.o).c 1 _ rfl;have h2:=(b.o.on m.o).c 2 _ rfl;have h3:=(b.o.on m.o).c 3 _ rfl;go_wp2_with fail
 refine a9.o.mono ?_;rintro _ w9 ⟨rfl,b5⟩;have n:=aA (m.o.trans (b5.mono m.o.size));clear b5 h0 h1 h2 h3 a9 m;have ba:=aA (aj.o w9 ((b.o.on n.o).below) 2 0);rw[zlz]at ba;have h0:=(b.o.on n.o).c 0 _ rfl;have h1:=(b.o.on n.o).c 1 _ rfl;have h2:=(b.o.on n.o).c 2 _ rfl;have h3:=(b.o.on n.o).c 3 _ rfl;go_wp2_with fail
 refine ba.o.mono ?_;rintro _ w10 ⟨rfl,ae⟩;have bb:=aA (n.o.trans (ae.mono n.o.size));clear ae h0 h1 h2 h3 ba n;go_wp2;go_ret
 exact⟨rfl,bD.o.trans (bb.o.mono bD.o.size)⟩
namespace Tb
def great (rs:List (List Ce)) (gs:List (List Int)):Bool:=decide (310<rs.length)||decide (310<gs.length)||rs.any (fun r=>decide (50<r.length))||gs.any (fun r=>decide (50<r.length))
theorem great_no {rs:List (List Ce)} (h:great rs gs=false):rs.length<=310/\gs.length<=310/\(∀r∈rs,r.length<=50)/\∀r∈gs,r.length<=50:=by
 unfold great at h;simp only[Bool.or_eq_false_iff,ED,DI,AV]at h;obtain⟨⟨⟨h1,h2⟩,h3⟩,h4⟩:=h;exact⟨by omega,by omega,fun r hr=>by have:=h3 r hr;omega,fun r hr=>by have:=h4 r hr;omega⟩
theorem any_stepL {α:Type} {l:List (List α)} (h:k<l.length) (h1:(l.take k).any (fun r=>decide (50<r.length))=false) (h2:¬50<l[k].length):(l.take (k+1)).any (fun r=>decide (50<r.length))=false:=by
 rw[AO h,List.any_append,h1];simp;omega
theorem any_inL {α:Type} {l:List (List α)} (h:k<l.length) (h2:50<l[k].length):l.any (fun r=>decide (50<r.length))=true:=DS.2 ⟨_,Ay h,by simpa using h2⟩
end Tb
theorem zdx (vt:Value) (rs:List (List Tb.Ce)) (gs:List (List Int)) (B:Nat) (w:World) (ht:zfx w B vt rs gs) (hB:B<=w.heap.size) (al:rs.length<=9223372036854775807/\gs.length<=9223372036854775807) (ae:∀r∈rs,r.length<=9223372036854775807) (af:∀r∈gs,r.length<=9223372036854775807) :
  Calls Tryz.prog 16 #[vt] w fun e w'=>e=.returned (.bool (Tb.great rs gs))/\Below w.heap.size w w':=by
 have ag:=aA hB;have ah:=aA ae;have am:=aA af;have ao:(rs.length:Int)<=9223372036854775807:=by omega
 have au:(gs.length:Int)<=9223372036854775807:=by omega
 obtain⟨AA,cA,AG,cG,rfl,_,_,_,_,ai,aj⟩:=ht;have ak:=aA ai;have ap:=aA aj;have d:Hid (Tb.great rs gs=(decide (310<rs.length)||decide (310<gs.length)||rs.any (fun r=>decide (50<r.length))||gs.any (fun r=>decide (50<r.length)))):=aA rfl;generalize Tb.great rs gs=res at *;obtain⟨w1,f⟩:∃y,y=w.alloc (.cells #[.slice AA rs.length cA,.slice AG gs.length cG] 33):=⟨_,rfl⟩
 have g:Hid (bA 33 w #[.slice AA rs.length cA,.slice AG gs.length cG] w1):=aA (by rw[f];exact bA.start _ _ _);have y0:=g.o.c 0 _ rfl;have y1:=g.o.c 1 _ rfl;clear ai aj hB ae af al;by_cases h1:310<rs.length
 ·have HE:Hid (res=true):=aA (by rw[d.o,AJ h1];rfl)
  go_enter Tryz.func16,Tryz.ntmps16
  go_upto_region 1 with fail
  rw[<-f];clear f;go_wp2;go_ret
  exact⟨aD HE.o.symm,g.o.below⟩
 ·by_cases h2:310<gs.length
  ·have HE:Hid (res=true):=aA (by rw[d.o,AJ h2,EG];rfl)
   go_enter Tryz.func16,Tryz.ntmps16
   go_upto_region 1 with fail
   rw[<-f];clear f;go_wp2;go_ret
   exact⟨aD HE.o.symm,g.o.below⟩
  ·have d:Hid (res=(rs.any (fun r=>decide (50<r.length))||gs.any (fun r=>decide (50<r.length)))):=aA (by rw[d.o,AM h1,AM h2];rfl)
   go_enter Tryz.func16,Tryz.ntmps16
   go_upto_region 1 with fail
   rw[<-f];clear f;go_wp2;clear y0 y1 h1 h2;go_loopw [3] (fun vi wr=>∃i:Nat,i<=rs.length/\vi=.int .i64 i/\Hid ((rs.take i).any (fun r=>decide (50<r.length))=false)/\Hid (bA 33 w #[.slice AA rs.length cA,.slice AG gs.length cG] wr)) (fun vi _=>rs.length-(intOf vi).toNat)
   case atStart=>exact⟨0,AX _,rfl,aA (by simp),g⟩
   case round =>
    clear g;obtain⟨i,hi,rfl,HA,HW⟩:=hrel;rename World=>wr;have y0:=HW.o.c 0 _ rfl;by_cases b:i<rs.length
    ·obtain⟨gA,oA,rfl,aa,j⟩:=ak.o (by omega);obtain⟨A1,c1,k1,-,-,-⟩:=j i b;have k1:=(HW.o.below.cell (p:=⟨gA,oA+i,none⟩) (Ao aa ag.o)).trans k1;have ab:=aA (fun h=>Tb.any_stepL b HA.o h);have ac:=aA (fun h=>Tb.any_inL b h);have aq:=ah.o _ (Ay b);have k:=aA b;have ar:(i:Int)<(rs.length:Int):=by omega
     have lk:=Bd k1;clear j hi;generalize rs[i].length=ln at *;clear b;have ad:(ln:Int)<=9223372036854775807:=by omega
     by_cases hb:50<ln
     ·have HE:Hid (res=true):=aA (by rw[d.o,ac.o hb];rfl);go_wp2;go_ret
      exact⟨aD HE.o.symm,HW.o.below⟩
     ·have HX:=aA (ab.o hb);go_wp2;go_roundw
      case rel=>exact⟨i+1,k.o,by go_num,HX,HW⟩
      case measure=>simp[intOf];have:=k.o;omega
    ·obtain rfl:i=rs.length:=by omega
     rw[Bo]at HA;have d:Hid (res=gs.any (fun r=>decide (50<r.length))):=aA (by rw[d.o,HA.o,EN]);clear ak ah HA ao b hi;go_wp2;clear y0;go_loopw [4] (fun vi wr=>∃i:Nat,i<=gs.length/\vi=.int .i64 i/\Hid ((gs.take i).any (fun r=>decide (50<r.length))=false)/\Hid (bA 33 w #[.slice AA rs.length cA,.slice AG gs.length cG] wr)) (fun vi _=>gs.length-(intOf vi).toNat)
     case atStart=>exact⟨0,AX _,rfl,aA (by simp),HW⟩
     case round =>
      clear HW;obtain⟨i,hi,rfl,HA,HW⟩:=hrel;rename World=>wz;have y1:=HW.o.c 1 _ rfl;by_cases b:i<gs.length
      ·obtain⟨gA,oA,rfl,aa,j⟩:=ap.o (by omega);obtain⟨A1,c1,k1,-,-,-⟩:=j i b;have k1:=(HW.o.below.cell (p:=⟨gA,oA+i,none⟩) (Ao aa ag.o)).trans k1;have ab:=aA (fun h=>Tb.any_stepL b HA.o h);have ac:=aA (fun h=>Tb.any_inL b h);have aq:=am.o _ (Ay b);have k:=aA b;have ar:(i:Int)<(gs.length:Int):=by omega
       have lk:=Bd k1;clear j hi;generalize gs[i].length=ln at *;clear b;have ad:(ln:Int)<=9223372036854775807:=by omega
       by_cases hb:50<ln
       ·have HE:Hid (res=true):=aA (by rw[d.o,ac.o hb]);go_wp2;go_ret
        exact⟨aD HE.o.symm,HW.o.below⟩
       ·have HX:=aA (ab.o hb);go_wp2;go_roundw
        case rel=>exact⟨i+1,k.o,by go_num,HX,HW⟩
        case measure=>simp[intOf];have:=k.o;omega
      ·obtain rfl:i=gs.length:=by omega
       rw[Bo]at HA;have HE:Hid (res=false):=aA (by rw[d.o,HA.o]);clear b hi;go_wp2;go_ret
       exact⟨aD HE.o.symm,HW.o.below⟩
theorem Tb.toOk_eq (n:Nat) (z:Int):Tb.toOk n z=(decide (-1<=z)&&decide (z<n)):=by
 unfold Tb.toOk;rw[Bn];simp only[CI,AQ,BH,AV];omega
theorem zdW {α:Type} {l:List α} {p:α->Bool} (h:k<l.length) (h1:(l.take k).all p=true) (h2:p l[k]=true):(l.take (k+1)).all p=true:=by
 rw[AO h,List.all_append,h1];simp[h2]
theorem zif {α:Type} {l:List α} {p:α->Bool} (h:k<l.length) (h2:p l[k]=false):l.all p=false:=by
 rw[DH];exact⟨_,Ay h,by rw[h2];decide⟩
theorem zg7 (v:Value) (G:Gm.Gr) (B:Nat) (AA AG:Option Addr) (n m cA cG:Nat) (x:Tb.Ce) (w:World) (hg:aQ w B v G) :
  Calls Tryz.prog 39 #[v,.agg #[.slice AA n cA,.slice AG m cG],.agg #[.int .i64 x.1,.int .i64 x.2]] w fun e w'=>e=.returned (.bool (Tb.ceOk G n x))/\Below w.heap.size w w':=by
 obtain⟨AT,cT,AN,cN,AR,cR,rfl,_⟩:=hg;have aa:=aA (aW.start 26 33 w #[.slice AT G.ts.length cT,.slice AN G.ns.length cN,.slice AR G.rs.length cR,.int .i64 G.st] #[.slice AA n cA,.slice AG m cG]);have f:=aA (bA.start 63 ((w.alloc (.cells #[.slice AT G.ts.length cT,.slice AN G.ns.length cN,.slice AR G.rs.length cR,.int .i64 G.st] 26)).alloc (.cells #[.slice AA n cA,.slice AG m cG] 33)) #[.int .i64 x.1,.int .i64 x.2]);have d:=aA (aa.o.on f.o.below);have x2:=d.o.c1 2 _ rfl;have t0:=d.o.c2 0 _ rfl;have y0:=f.o.c 0 _ rfl;have y1:=f.o.c 1 _ rfl;have e2:((w.alloc (.cells #[.slice AT G.ts.length cT,.slice AN G.ns.length cN,.slice AR G.rs.length cR,.int .i64 G.st] 26)).alloc (.cells #[.slice AA n cA,.slice AG m cG] 33)).heap.size=w.heap.size+2:=by simp
 rw[e2]at y0 y1;have HC:Hid (Tb.ceOk G n x=if x.1=0\/x.1=3 then x.2==0 else if x.1=1 then decide (0<=x.2)&&decide (x.2<n) else if x.1=2 then decide (0<=x.2)&&decide (x.2<G.rs.length) else false):=aA rfl;generalize Tb.ceOk G n x=r at *;obtain⟨a,b⟩:=x;simp only at HC x2 y0 y1 t0 f d ⊢;clear f aa e2;by_cases h0:a=0
 ·have HE:=aA (HC.o.trans (Ap (.inl h0)));subst h0;clear HC
  go_enter Tryz.func39,Tryz.ntmps39
  go_wp2
  all_goals
   go_ret
   exact⟨aD HE.o.symm,d.o.below⟩
 ·by_cases h3:a=3
  ·have HE:=aA (HC.o.trans (Ap (.inr h3)));subst h3;clear HC
   go_enter Tryz.func39,Tryz.ntmps39
   go_wp2
   all_goals
    go_ret
    exact⟨aD HE.o.symm,d.o.below⟩
  ·have HC:=aA (HC.o.trans (AB (by omega)));by_cases h1:a=1
   ·have HE:=aA (HC.o.trans (Ap h1));subst h1;clear h0 h3;by_cases hb:0<=b
    ·have HE:Hid (r=decide (b<n)):=aA (by rw[HE.o,AJ hb,Cj]);clear HC
     go_enter Tryz.func39,Tryz.ntmps39
     go_wp2
     all_goals
      go_ret
      exact⟨aD HE.o.symm,d.o.below⟩
    ·have HE:Hid (r=false):=aA (by rw[HE.o,AM hb,C9]);clear HC
     go_enter Tryz.func39,Tryz.ntmps39
     go_wp2
     all_goals
      go_ret
      exact⟨aD HE.o.symm,d.o.below⟩
   ·have HC:=aA (HC.o.trans (AB h1));by_cases h2:a=2
    ·have HE:=aA (HC.o.trans (Ap h2));subst h2;clear h0 h3 h1;by_cases hb:0<=b
     ·have HE:Hid (r=decide (b<G.rs.length)):=aA (by rw[HE.o,AJ hb,Cj]);clear HC
      go_enter Tryz.func39,Tryz.ntmps39
      go_wp2
      all_goals
       go_ret
       exact⟨aD HE.o.symm,d.o.below⟩
     ·have HE:Hid (r=false):=aA (by rw[HE.o,AM hb,C9]);clear HC
      go_enter Tryz.func39,Tryz.ntmps39
      go_wp2
      all_goals
       go_ret
       exact⟨aD HE.o.symm,d.o.below⟩
    ·have HE:=aA (HC.o.trans (AB h2));have b0:(a==0)=false:=by simpa using h0
     have b1:(a==1)=false:=by simpa using h1
     have b2:(a==2)=false:=by simpa using h2
     have b3:(a==3)=false:=by simpa using h3
     clear h0 h1 h2 h3;clear HC
     go_enter Tryz.func39,Tryz.ntmps39
     go_wp2
     all_goals
      go_ret
      exact⟨aD HE.o.symm,d.o.below⟩
theorem zdw (v:Value) (G:Gm.Gr) (B BT:Nat) (vt:Value) (rs:List (List Tb.Ce)) (gs:List (List Int)) (w:World) (hg:aQ w B v G) (hf:Gm.Fit G) (hB:B<=w.heap.size) (ht:zfx w BT vt rs gs) (ax:BT<=w.heap.size) (bi:rs.length<=310/\gs.length<=310) (ay:∀r∈rs,r.length<=50) (az:∀r∈gs,r.length<=50) :
  Calls Tryz.prog 18 #[v,vt] w fun e w'=>e=.returned (.bool (Tb.may G rs gs))/\Below w.heap.size w w':=by
 have H1:=aA (fun(x:World) (h:Below w.heap.size w x)=>zfO v G B x (hg.below h hB) hf (Ag hB h.size));have bZ:=aA hB;have ac:=aA ax;have a0:=aA ay;have a1:=aA az;have bj:(rs.length:Int)<=310:=by omega
 have bk:(gs.length:Int)<=310:=by omega
 obtain⟨AA,cA,AG,cG,rfl,_,_,_,_,a2,a3⟩:=ht;have a4:=aA a2;have a5:=aA a3;have ak:=aA (fun(x:World) (h:Below w.heap.size w x) (n m:Nat) (y:Tb.Ce)=>zg7 v G B AA AG n m cA cG y x (hg.below h hB));obtain⟨AT,cT,AN,cN,AR,cR,rfl,_⟩:=hg;obtain⟨w1,C⟩:∃y,y=(w.alloc (.cells #[.slice AT G.ts.length cT,.slice AN G.ns.length cN,.slice AR G.rs.length cR,.int .i64 G.st] 26)).alloc (.cells #[.slice AA rs.length cA,.slice AG gs.length cG] 33):=⟨_,rfl⟩
 have j:Hid (aW 26 33 w #[.slice AT G.ts.length cT,.slice AN G.ns.length cN,.slice AR G.rs.length cR,.int .i64 G.st] #[.slice AA rs.length cA,.slice AG gs.length cG] w1):=aA (by rw[C];exact aW.start _ _ _ _ _);have x0:=j.o.c1 0 _ rfl;have x1:=j.o.c1 1 _ rfl;have x2:=j.o.c1 2 _ rfl;have x3:=j.o.c1 3 _ rfl;have y0:=j.o.c2 0 _ rfl;have s:=aA (H1.o w1 j.o.below);clear a2 a3 hf hB ax bi ay az H1;by_cases D:Gm.right G=true/\rs.length=gs.length/\1<=rs.length/\rs.length<=300
 ·have ad:=aA (Tb.may_in D);rw[ad.o];obtain⟨q,ae,al,am⟩:=D;rw[q]at s;have bl:G.ts.length<=24/\G.ns.length<=16:=⟨((Gm.terms_iff G.ts).1 (Gm.right_ok.1 q).t).1,((Gm.nons_iff G).1 (Gm.right_ok.1 q).n).2.1⟩
  have b0:(G.ts.length:Int)<=24:=by omega
  have b1:(G.ns.length:Int)<=16:=by omega
  have bm:=aA ae;have HQ:=aA (BJ al am);obtain⟨n,hn⟩:∃n,rs.length=n:=⟨_,rfl⟩
  rw[<-ae]at j;rw[hn]at j HQ ad y0;have HN:=aA hn;have al:=HQ.o.1;have am:=HQ.o.2;have bn:((n:Int) != (n:Int))=false:=by simp
  have bo:(1:Int)<=(n:Int):=by omega
  have b3:(n:Int)<=300:=by omega
  rw[hn];clear q bk bj hn bl
  go_enter Tryz.func18,Tryz.ntmps18
  go_upto_region 1 with fail
  rw[<-ae,HN.o]at C ⊢;rw[<-C];clear C ae;go_wp2_with fail
  refine s.o.mono ?_;rintro _ w2 ⟨rfl,hb⟩;have l:=aA (j.o.on hb);clear hb x0 x1 x2 x3 y0;have y0:=l.o.c2 0 _ rfl;have y1:=l.o.c2 1 _ rfl;go_wp2;clear y0 y1 bn bo al am s j;go_loopw [5] (fun vi wr=>∃i:Nat,i<=n/\vi=.int .i64 i/\Hid ((List.range i).all (Tb.rwOk G rs gs)=true)/\Hid (aW 26 33 w #[.slice AT G.ts.length cT,.slice AN G.ns.length cN,.slice AR G.rs.length cR,.int .i64 G.st] #[.slice AA n cA,.slice AG n cG] wr)) (fun vi _=>n-(intOf vi).toNat)
  case atStart=>exact⟨0,AX _,rfl,aA rfl,l⟩
  case round =>
   clear l;obtain⟨i,hi,rfl,HA,HW⟩:=hrel;rename World=>wr;have y0:=HW.o.c2 0 _ rfl;by_cases ao:i<n
   ·have af:i<rs.length:=by have:=HN.o;omega
    have ag:i<gs.length:=by have:=bm.o;omega
    obtain⟨gA,oA,rfl,bp,a6⟩:=a4.o (by omega);obtain⟨A1,c1,k1,-,-,r1⟩:=a6 i af;obtain⟨gG,oG,rfl,bq,a9⟩:=a5.o (by omega);obtain⟨A2,c2,k2,-,-,r2⟩:=a9 i ag;have e1:rs.getD i []=rs[i]:=by rw[Ai,Ar af];rfl
    have e2:gs.getD i []=gs[i]:=by rw[Ai,Ar ag];rfl
    have u:Hid (Tb.rwOk G rs gs i=((decide (rs[i].length=G.ts.length+1)&&rs[i].all (Tb.ceOk G n))&&(decide (gs[i].length=G.ns.length)&&gs[i].all (Tb.toOk n)))):=aA (by unfold Tb.rwOk Tb.arOk Tb.grOk;rw[e1,e2,HN.o]);have br:=aA (Tb.all_step (Tb.rwOk G rs gs) i);have ah:=aA (fun h=>Tb.all_not (p:=Tb.rwOk G rs gs) ao h);have b4:=a0.o _ (Ay af);have b5:=a1.o _ (Ay ag);have ba:=aA ao;have bb:=aA r1;have bs:=aA r2;have b6:(i:Int)<(n:Int):=by omega
    have s:=aA (fun(y:World) (h:Below w.heap.size w y)=>(h.cell (p:=⟨gA,oA+i,none⟩) (Ao bp ac.o)).trans k1);have ap:=aA (fun(y:World) (h:Below w.heap.size w y)=>(h.cell (p:=⟨gG,oG+i,none⟩) (Ao bq ac.o)).trans k2);clear e1 e2 a6 a9 r1 r2 k1 k2;generalize rs[i]=ra at *;generalize gs[i]=rg at *;clear af ag ao;have bu:(ra.length:Int)<=50:=by omega
    have bv:(rg.length:Int)<=50:=by omega
    have q0:=fun y:Calm.On wr.heap.size wr=>(HW.o.on y.2).c1 0 _ rfl;have q1:=fun y:Calm.On wr.heap.size wr=>(HW.o.on y.2).c1 1 _ rfl;have p0:=fun y:Calm.On wr.heap.size wr=>(HW.o.on y.2).c2 0 _ rfl;have p1:=fun y:Calm.On wr.heap.size wr=>(HW.o.on y.2).c2 1 _ rfl;have m1:=fun y:Calm.On wr.heap.size wr=>s.o y.1 (HW.o.on y.2).below;have m2:=fun y:Calm.On wr.heap.size wr=>ap.o y.1 (HW.o.on y.2).below;have ai:Hid (aW 26 33 w #[.slice AT G.ts.length cT,.slice AN G.ns.length cN,.slice AR G.rs.length cR,.int .i64 G.st] #[.slice (some ⟨gA,oA,none⟩) n cA,.slice (some ⟨gG,oG,none⟩) n cG] wr.drew):=aA (HW.o.drewN 1);have A:Hid (∃z:Calm.On wr.heap.size wr,wr.drew=z.1):=zbf wr;have aq:IntKind.i64.wrap ((G.ts.length:Int)+1)=(G.ts.length:Int)+1:=Cr _ (by omega);by_cases f:ra.length=G.ts.length+1/\rg.length=G.ns.length
    ·have u:Hid (Tb.rwOk G rs gs i=(ra.all (Tb.ceOk G n)&&rg.all (Tb.toOk n))):=aA (by rw[u.o,AJ f.1,AJ f.2,Cj,Cj]);have h1:((ra.length:Int) != (G.ts.length:Int)+1)=false:=by rw[Eu];omega
     have h2:((rg.length:Int) != (G.ns.length:Int))=false:=by rw[Eu];omega
     clear f;go_upto_region 6 with fail
     refine CalmN.region_tree (fun x=>∃z:Calm.On wr.heap.size wr,x=z.1) (.fin [0,1,2,3,4,5,6,7,8,9,10,11,12,13,14,15,16,17,18,19,20,21,22]) (by kernel_rfl) (by kernel_rfl) (fun _ _ d _ _ h=>by cases d <;> exact h) A.o ?_;simp only[CalmN.wpT,CalmN.pickOps,Am,Af,Ah];repeat (go_big_quiet_step (fail))
     refine Aj ?_;clear q0 q1 p0 p1 m1 m2 h1 h2 y0 HW aq;generalize wr.drew=wd at *;go_wp2;go_loopw [6] (fun vk wz=>∃k:Nat,k<=ra.length/\vk=.int .i64 k/\Hid ((ra.take k).all (Tb.ceOk G n)=true)/\Hid (aW 26 33 w #[.slice AT G.ts.length cT,.slice AN G.ns.length cN,.slice AR G.rs.length cR,.int .i64 G.st] #[.slice (some ⟨gA,oA,none⟩) n cA,.slice (some ⟨gG,oG,none⟩) n cG] wz)) (fun vk _=>ra.length-(intOf vk).toNat)
     case atStart=>exact⟨0,AX _,rfl,aA (by simp),ai⟩
     case round =>
      clear ai A;obtain⟨k,hk,rfl,HC,HZ⟩:=hrel;rename World=>wz;have y0:=HZ.o.c2 0 _ rfl;have m1:=s.o wz HZ.o.below;have lA:gA<wz.heap.size:=Bd m1;by_cases g:k<ra.length
      ·obtain⟨gr,gro,rfl,F,E⟩:=bb.o (by omega);have aa:=Ao F ac.o;have n0:=fun y:Calm.On wz.heap.size wz=>((HZ.o.on y.2).below.cell (p:=⟨gr,gro+k*2+0,none⟩) aa).trans (E k g 0 (.int .i64 (ra[k]).1) rfl);have n1:=fun y:Calm.On wz.heap.size wz=>((HZ.o.on y.2).below.cell (p:=⟨gr,gro+k*2+1,none⟩) aa).trans (E k g 1 (.int .i64 (ra[k]).2) rfl);simp only[Cd]at n0;have ar:=aA (fun h=>zdW (p:=Tb.ceOk G n) g HC.o h);have aj:=aA (fun h=>zif (p:=Tb.ceOk G n) g h);have H:=aA g;have bw:(k:Int)<(ra.length:Int):=by omega
       have bx:=aA (fun(y:World) (h:Below w.heap.size w y)=>ak.o y h n n ra[k]);clear E F;generalize ra[k]=x at *;generalize Tb.ceOk G n x=b at *;clear g;have g0:=fun y:Calm.On wz.heap.size wz=>(HZ.o.on y.2).c1 0 _ rfl;have g1:=fun y:Calm.On wz.heap.size wz=>(HZ.o.on y.2).c1 1 _ rfl;have g2:=fun y:Calm.On wz.heap.size wz=>(HZ.o.on y.2).c1 2 _ rfl;have g3:=fun y:Calm.On wz.heap.size wz=>(HZ.o.on y.2).c1 3 _ rfl;have p0:=fun y:Calm.On wz.heap.size wz=>(HZ.o.on y.2).c2 0 _ rfl;have p1:=fun y:Calm.On wz.heap.size wz=>(HZ.o.on y.2).c2 1 _ rfl;have n2:=fun y:Calm.On wz.heap.size wz=>s.o y.1 (HZ.o.on y.2).below;have HD:Hid (Below wz.heap.size wz wz.drew):=aA (aB (Aq _ _) 1);go_upto_region 11 with fail
       refine CalmN.region_tree (fun x=>∃y:Calm.On wz.heap.size wz,x=y.1) (.one [0,1,2,3,4,5,6,7,8,9] 10 (.fin [11])) (by kernel_rfl) (by kernel_rfl) (fun _ _ d _ _ h=>by cases d <;> exact h) ⟨⟨wz.drew,HD.o⟩,rfl⟩ ?_;simp only[CalmN.wpT,CalmN.wpSt,CalmN.pickOps,Am,Af,Ah];repeat (go_big_quiet_step (fail))
       refine Aj ?_;clear n0 n1 n2 g0 g1 g2 g3 p0 p1 y0 m1 lA;generalize wz.drew=we at *;have I:=aA (HZ.o.on HD.o);intro KK bc;rw[Ap (by rfl)];go_wp2_with fail
       refine(bx.o we I.o.below).mono ?_;rintro _ w3 ⟨rfl,bd⟩;have au:=aA (HD.o.trans (bd.mono HD.o.size));have bf:=aA (HZ.o.on au.o);clear bd;go_wp2_with fail
       refine bc _ _ ⟨⟨w3,au.o⟩,rfl⟩ _ (fun _ h=>h) ⟨⟨w3,au.o⟩,rfl⟩ ?_;clear bc;cases b
       ·have HF:=aA (ah.o (by rw[u.o,aj.o rfl];rfl));repeat (go_big_quiet_step (fail))
        refine Aj ?_;go_wp2;go_ret
        exact⟨aD HF.o.symm,bf.o.below⟩
       ·have HX:=aA (ar.o rfl);repeat (go_big_quiet_step (fail))
        refine Aj ?_;go_wp2;go_roundw
        case rel=>exact⟨k+1,H.o,by go_num,HX,bf⟩
        case measure=>simp[intOf];have:=H.o;omega
      ·obtain rfl:k=ra.length:=by omega
       rw[Bo]at HC;have u:Hid (Tb.rwOk G rs gs i=rg.all (Tb.toOk n)):=aA (by rw[u.o,HC.o,Cj]);clear HC g hk bb ak;go_wp2;clear y0 m1 lA;go_loopw [7] (fun vk wz=>∃k:Nat,k<=rg.length/\vk=.int .i64 k/\Hid ((rg.take k).all (Tb.toOk n)=true)/\Hid (aW 26 33 w #[.slice AT G.ts.length cT,.slice AN G.ns.length cN,.slice AR G.rs.length cR,.int .i64 G.st] #[.slice (some ⟨gA,oA,none⟩) n cA,.slice (some ⟨gG,oG,none⟩) n cG] wz)) (fun vk _=>rg.length-(intOf vk).toNat)
       case atStart=>exact⟨0,AX _,rfl,aA (by simp),HZ⟩
       case round =>
        clear HZ;obtain⟨k,hk,rfl,HC,HZ⟩:=hrel;rename World=>wx;have y1:=HZ.o.c2 1 _ rfl;have m2:=ap.o wx HZ.o.below;have lG:gG<wx.heap.size:=Bd m2;by_cases g:k<rg.length
        ·obtain⟨gr,gro,rfl,F,E⟩:=bs.o (by omega);have aa:=Ao F ac.o;have n0:=fun y:Calm.On wx.heap.size wx=>((HZ.o.on y.2).below.cell (p:=⟨gr,gro+k*1+0,none⟩) aa).trans (E k g 0 (.int .i64 rg[k]) rfl);simp only[Cd,Dd]at n0;have ar:=aA (fun h=>zdW (p:=Tb.toOk n) g HC.o h);have aj:=aA (fun h=>zif (p:=Tb.toOk n) g h);have H:=aA g;have bw:(k:Int)<(rg.length:Int):=by omega
         have av:=aA (Tb.toOk_eq n rg[k]);clear E F;generalize rg[k]=z at *;generalize Tb.toOk n z=b at *;clear g;have p0:=fun y:Calm.On wx.heap.size wx=>(HZ.o.on y.2).c2 0 _ rfl;have p1:=fun y:Calm.On wx.heap.size wx=>(HZ.o.on y.2).c2 1 _ rfl;have n2:=fun y:Calm.On wx.heap.size wx=>ap.o y.1 (HZ.o.on y.2).below;have I:=aA (HZ.o.drewN 1);have A:Hid (∃z:Calm.On wx.heap.size wx,wx.drew=z.1):=zbf wx;go_upto_region 16 with fail
         by_cases aw:z < -1
         ·have HF:=aA (ah.o (by rw[u.o,aj.o (by rw[av.o,AM (by omega)];rfl)]));have bg:decide (z < -1)=true:=AJ aw;refine CalmN.region_tree (fun x=>∃z:Calm.On wx.heap.size wx,x=z.1) (.fin [0,1,2,3,4,5,6,7,8,9,10,11,12,13,14,15,16,17,18,19,20,21,22]) (by kernel_rfl) (by kernel_rfl) (fun _ _ d _ _ h=>by cases d <;> exact h) A.o ?_;simp only[CalmN.wpT,CalmN.pickOps,Am,Af,Ah];repeat (go_big_quiet_step (fail))
          refine Aj ?_;clear p0 p1 n0 n2;go_wp2;go_ret
          exact⟨aD HF.o.symm,I.o.below⟩
         ·by_cases bh:z<n
          ·have HX:=aA (ar.o (by rw[av.o,AJ bh,AJ (by omega)];rfl));have bg:decide (z < -1)=false:=AM aw;have bz:decide ((n:Int)<=z)=false:=AM (by omega);refine CalmN.region_tree (fun x=>∃z:Calm.On wx.heap.size wx,x=z.1) (.fin [0,1,2,3,4,5,6,7,8,9,10,11,12,13,14,15,16,17,18,19,20,21,22]) (by kernel_rfl) (by kernel_rfl) (fun _ _ d _ _ h=>by cases d <;> exact h) A.o ?_;simp only[CalmN.wpT,CalmN.pickOps,Am,Af,Ah];repeat (go_big_quiet_step (fail))
           refine Aj ?_;clear p0 p1 n0 n2;go_wp2;go_roundw
           case rel=>exact⟨k+1,H.o,by go_num,HX,I⟩
           case measure=>simp[intOf];have:=H.o;omega
          ·have HF:=aA (ah.o (by rw[u.o,aj.o (by rw[av.o,AM bh,Bool.and_false])]));have bg:decide (z < -1)=false:=AM aw;have bz:decide ((n:Int)<=z)=true:=AJ (by omega);refine CalmN.region_tree (fun x=>∃z:Calm.On wx.heap.size wx,x=z.1) (.fin [0,1,2,3,4,5,6,7,8,9,10,11,12,13,14,15,16,17,18,19,20,21,22]) (by kernel_rfl) (by kernel_rfl) (fun _ _ d _ _ h=>by cases d <;> exact h) A.o ?_;simp only[CalmN.wpT,CalmN.pickOps,Am,Af,Ah];repeat (go_big_quiet_step (fail))
           refine Aj ?_;clear p0 p1 n0 n2;go_wp2;go_ret
           exact⟨aD HF.o.symm,I.o.below⟩
        ·obtain rfl:k=rg.length:=by omega
         rw[Bo]at HC;have HX:Hid ((List.range (i+1)).all (Tb.rwOk G rs gs)=true):=aA (by rw[br.o,HA.o,u.o,HC.o];rfl);go_wp2;go_roundw
         case rel=>exact⟨i+1,ba.o,by go_num,HX,HZ⟩
         case measure=>simp[intOf];have:=ba.o;omega
    ·have HF:=aA (ah.o (by
      rw[u.o];by_cases q1:ra.length=G.ts.length+1
      ·rw[AM (fun q=>f ⟨q1,q⟩:¬rg.length=G.ns.length),C9,Bool.and_false]
      ·rw[AM q1,C9,C9]))
     go_upto_region 6 with fail
     by_cases h1:ra.length=G.ts.length+1
     ·have bD:((ra.length:Int) != (G.ts.length:Int)+1)=false:=by rw[Eu];omega
      have b7:((rg.length:Int) != (G.ns.length:Int))=true:=by rw[Du];intro q;exact f ⟨h1,by omega⟩
      clear f h1;refine CalmN.region_tree (fun x=>∃z:Calm.On wr.heap.size wr,x=z.1) (.fin [0,1,2,3,4,5,6,7,8,9,10,11,12,13,14,15,16,17,18,19,20,21,22]) (by kernel_rfl) (by kernel_rfl) (fun _ _ d _ _ h=>by cases d <;> exact h) A.o ?_;simp only[CalmN.wpT,CalmN.pickOps,Am,Af,Ah];repeat (go_big_quiet_step (fail))
      refine Aj ?_;clear q0 q1 p0 p1 m1 m2;go_wp2;go_ret
      exact⟨aD HF.o.symm,ai.o.below⟩
     ·have bD:((ra.length:Int) != (G.ts.length:Int)+1)=true:=by rw[Du];omega
      clear f h1;refine CalmN.region_tree (fun x=>∃z:Calm.On wr.heap.size wr,x=z.1) (.fin [0,1,2,3,4,5,6,7,8,9,10,11,12,13,14,15,16,17,18,19,20,21,22]) (by kernel_rfl) (by kernel_rfl) (fun _ _ d _ _ h=>by cases d <;> exact h) A.o ?_;simp only[CalmN.wpT,CalmN.pickOps,Am,Af,Ah];repeat (go_big_quiet_step (fail))
      refine Aj ?_;clear q0 q1 p0 p1 m1 m2;go_wp2;go_ret
      exact⟨aD HF.o.symm,ai.o.below⟩
   ·obtain rfl:i=n:=by omega
    go_wp2;go_ret
    exact⟨aD HA.o.symm,HW.o.below⟩
 ·have ad:=aA (Tb.may_no D);rw[ad.o];clear ak a4 a5 a0 a1;cases q:Gm.right G
  all_goals
   rw[q]at s D;have bM:=aA D;clear q D
   go_enter Tryz.func18,Tryz.ntmps18
   go_upto_region 1 with fail
   rw[<-C];clear C;go_wp2_with fail
   refine s.o.mono ?_;rintro _ w2 ⟨rfl,hb⟩;have l:=aA (j.o.on hb);clear hb x0 x1 x2 x3 y0;have y0:=l.o.c2 0 _ rfl;have y1:=l.o.c2 1 _ rfl
  ·go_wp2;go_ret
   exact⟨rfl,l.o.below⟩
  ·have ab:¬(rs.length=gs.length/\1<=rs.length/\rs.length<=300):=fun h=>bM.o ⟨by trivial,h⟩;by_cases hq:rs.length=gs.length
   ·have bT:((gs.length:Int) != (rs.length:Int))=false:=by rw[Eu];omega
    have bX:¬(1<=rs.length/\rs.length<=300):=fun h=>ab ⟨hq,h⟩;clear ab hq;go_wp2
    all_goals
     first
      | (go_ret;exact⟨rfl,l.o.below⟩)
      | (exfalso;omega)
   ·have bT:((gs.length:Int) != (rs.length:Int))=true:=by rw[Du];omega
    clear ab hq;go_wp2
    all_goals
     go_ret
     exact⟨rfl,l.o.below⟩
theorem zcU (v vt:Value) (G:Gm.Gr) (rs:List (List Tb.Ce)) (gs:List (List Int)) (w:World) (hg:aQ w w.heap.size v G) (hf:Gm.Fit G) (ht:zfx w w.heap.size vt rs gs) (hl:(rs.length<=9223372036854775807/\gs.length<=9223372036854775807)/\(∀r∈rs,r.length<=9223372036854775807)/\∀r∈gs,r.length<=9223372036854775807) :
  Calls Tryz.prog 4 #[v,vt] w fun e w'=>e=.returned (.bool true)/\Below w.heap.size w w':=by
 have aa:=aA (fun(x:World) (h:Below w.heap.size w x)=>hg.below h (Ad _));have ab:=aA (fun(x:World) (h:Below w.heap.size w x)=>ht.below h (Ad _));have aj:=aA (fun(x:World)=>zeD x);have TG:=aA (fun(x:World) (h:Below w.heap.size w x)=>zf7 v G w.heap.size x (aa.o x h) h.size);have TT:=aA (fun(x:World) (h:Below w.heap.size w x)=>zdx vt rs gs w.heap.size x (ab.o x h) h.size hl.1 hl.2.1 hl.2.2);have TP:=aA (fun(x:World) (h:Below w.heap.size w x)=>zcu v G w.heap.size w.heap.size vt rs gs x (aa.o x h) hf h.size (ab.o x h) h.size hl.1 hl.2.1 hl.2.2);have TR:=aA (fun(q:Tb.great rs gs=false) (x:World) (h:Below w.heap.size w x)=>zdw v G w.heap.size w.heap.size vt rs gs x (aa.o x h) hf h.size (ab.o x h) h.size ⟨(Tb.great_no q).1,(Tb.great_no q).2.1⟩ (Tb.great_no q).2.2.1 (Tb.great_no q).2.2.2);generalize Tb.may G rs gs=r at *;obtain⟨A0,c0,A1,c1,A2,c2,rfl,_⟩:=hg;obtain⟨AA,cA,AG,cG,rfl,_⟩:=ht;have ak:=aA (aW.start 26 33 w #[.slice A0 G.ts.length c0,.slice A1 G.ns.length c1,.slice A2 G.rs.length c2,.int .i64 G.st] #[.slice AA rs.length cA,.slice AG gs.length cG]);clear hf hl aa ab
 go_enter Tryz.func4,Tryz.ntmps4
 go_wp2_with fail
 refine(aj.o _).mono ?_;rintro _ w1 ⟨rfl,ag⟩;have f:=aA (ak.o.on ag);have x0:=f.o.c1 0 _ rfl;have x1:=f.o.c1 1 _ rfl;have x2:=f.o.c1 2 _ rfl;have x3:=f.o.c1 3 _ rfl;clear ag;cases ae:Gm.great G with
 | true =>
  rw[ae]at TG;go_wp2_with fail
  refine(TG.o _ f.o.below).mono ?_;rintro _ w2 ⟨rfl,i⟩;have g:=aA (f.o.on i);clear i x0 x1 x2 x3;go_wp2;go_ret
  exact⟨rfl,g.o.below⟩
 | false =>
  rw[ae]at TG;go_wp2_with fail
  refine(TG.o _ f.o.below).mono ?_;rintro _ w2 ⟨rfl,i⟩;have g:=aA (f.o.on i);clear i x0 x1 x2 x3 ae;have y0:=g.o.c2 0 _ rfl;have y1:=g.o.c2 1 _ rfl;cases ac:Tb.great rs gs with
  | true =>
   rw[ac]at TT;go_wp2_with fail
   refine(TT.o _ g.o.below).mono ?_;rintro _ w3 ⟨rfl,j⟩;have b:=aA (g.o.on j);clear j y0 y1;go_wp2;go_ret
   exact⟨rfl,b.o.below⟩
  | false =>
   rw[ac]at TT;have TR:=aA (TR.o ac);go_wp2_with fail
   refine(TT.o _ g.o.below).mono ?_;rintro _ w3 ⟨rfl,j⟩;have b:=aA (g.o.on j);clear j y0 y1 ac;have q0:=fun y:Calm.On w3.heap.size w3=>(b.o.on y.2).c1 0 _ rfl;have q1:=fun y:Calm.On w3.heap.size w3=>(b.o.on y.2).c1 1 _ rfl;have q2:=fun y:Calm.On w3.heap.size w3=>(b.o.on y.2).c1 2 _ rfl;have q3:=fun y:Calm.On w3.heap.size w3=>(b.o.on y.2).c1 3 _ rfl;have p0:=fun y:Calm.On w3.heap.size w3=>(b.o.on y.2).c2 0 _ rfl;have p1:=fun y:Calm.On w3.heap.size w3=>(b.o.on y.2).c2 1 _ rfl;have ad:Hid (Below w3.heap.size w3 w3.drew):=aA (aB (Aq _ _) 1);go_upto_region 5 with fail
   refine CalmN.region_tree (fun x=>∃y:Calm.On w3.heap.size w3,x=y.1) (.one [0,1,3,4] 2 (.one [] 5 (.fin [6,7]))) (by kernel_rfl) (by kernel_rfl) (fun _ _ d _ _ h=>by cases d <;> exact h) ⟨⟨w3.drew,ad.o⟩,rfl⟩ ?_;simp only[CalmN.wpT,CalmN.wpSt,CalmN.pickOps,Am,Af,Ah];repeat (go_big_quiet_step (fail))
   refine Aj ?_;clear q0 q1 q2 q3 p0 p1;generalize w3.drew=wd at *;have al:=aA (b.o.on ad.o);intro KK k;rw[Ap (by rfl)];go_wp2_with fail
   refine(TP.o wd al.o.below).mono ?_;rintro _ w4 ⟨rfl,ah⟩;have l:=aA (ad.o.trans (ah.mono ad.o.size));have am:=aA (b.o.on l.o);clear ah;go_wp2_with fail
   refine k _ _ ⟨⟨w4,l.o⟩,rfl⟩ _ (fun _ h=>h) ⟨⟨w4,l.o⟩,rfl⟩ ?_;clear k;refine Aj ?_;intro KK k;rw[Ap (by rfl)];go_wp2_with fail
   refine(TR.o w4 am.o.below).mono ?_;rintro _ w5 ⟨rfl,ai⟩;have af:=aA (l.o.trans (ai.mono l.o.size));have ao:=aA (b.o.on af.o);clear ai;go_wp2_with fail
   refine k _ _ ⟨⟨w5,af.o⟩,rfl⟩ _ (fun _ h=>h) ⟨⟨w5,af.o⟩,rfl⟩ ?_;clear k;have ap:(r==r)=true:=by simp
   repeat (go_big_quiet_step (fail))
   refine Aj ?_;go_wp2;go_ret
   exact⟨rfl,ao.o.below⟩
end Go.Proofs.YtjjbaehamplnaaaGreat
namespace Go.Proofs.YtjjbaehamplnaaaGreat.RowKit
open Go.ChangeShapes Go.WideShapes Go.ChangeAt Go.RowKit
theorem own:ownKnob Tryz.prog.godebug=none:=by kernel_rfl
theorem laidOut:laidOutB Tryz.prog=true:=by kernel_rfl
end Go.Proofs.YtjjbaehamplnaaaGreat.RowKit
namespace Go.Proofs.YtjjbaehamplnaaaGreat
open Go.ChangeShapes Go.WideShapes Go.Deep Go.RowKit Go.Joins
section
variable {H:Type} {enc:TypeId×Value->H} {P:Program} {w:World} {base:Nat} {spare:Nat->Bool} {held:Bool}
theorem zdD {t e:TypeId} {cs:List Value} {x:DataW H×List MemPlace} (ht:P.underlying t=some (.slice e)) (hC:P.cellsOf e=1) (h:DataW.trod enc P w base spare held fuel t cs=some x) :
  cs=[.slice none 0 0] \/
  ∃(a:Addr) (len cap:Nat),cs=[.slice (some a) len cap]/\len<=cap/\cap<=maxLen /\
   ∀i,i<len->∃(v:Value) (y:DataW H×List MemPlace) (n:Nat),w.cell? (a.add i)=some v/\DataW.trod enc P w base spare held n e [v]=some y:=by
 rcases open_slice ht h with h0|⟨a,len,cap,m,n,D,Pl,aa,hb,hl,hm,ab,hx,hi⟩
 ·exact .inl h0.1
 ·refine .inr ⟨a,len,cap,aa,hl,hm,fun i ag=>?_⟩;obtain⟨cs',hc,ac⟩:=hi i (by rw[ab];split <;> omega);rw[hC,Dd]at hc;obtain⟨ad,ae,af⟩:=World.cells?_some hc;have h0:=af 0 (by omega)
  match cs',ae,h0 with
  | [v],_,h0 =>
   refine⟨v,_,n,?_,ac⟩;rw[show a.add i=(a.add i).add 0 by rw[Go.Deep.add_add,Cd]];exact h0
theorem zeX {α:Type} {f:α->List Value} {t e:TypeId} {cs:List Value} {x:DataW H×List MemPlace} (ht:P.underlying t=some (.slice e)) (hC:P.cellsOf e=1) (aa:∀(n:Nat) (cs:List Value) (x:DataW H×List MemPlace),DataW.trod enc P w base spare held n e cs=some x->∃A n c xs,cs=[.slice A n c]/\n=xs.length/\n<=c/\c<=9223372036854775807/\RdQ m f w w.heap.size A xs) (h:DataW.trod enc P w base spare held fuel t cs=some x) :
  ∃A n c rs,cs=[.slice A n c]/\n=rs.length/\n<=c/\c<=9223372036854775807/\RdM m f w w.heap.size A rs/\∀r∈rs,r.length<=9223372036854775807:=by
 rcases zdD ht hC h with rfl|⟨a,len,cap,rfl,hl,hm,hi⟩
 ·exact⟨none,0,0,[],rfl,rfl,Ad _,by omega,RdM.nil _ _ _,fun x hx=>by simp at hx⟩
 ·have hp:∀i,i<len->∃t:List α,(∃A' c',w.cell? (a.add i)=some (.slice A' t.length c')/\t.length<=c'/\c'<=9223372036854775807/\RdQ m f w w.heap.size A' t):=fun i ad=>by
   obtain⟨v,y,n,c0,t0⟩:=hi i ad;obtain⟨A,na,ca,xs,e0,ae,la,ma,ra⟩:=aa _ _ _ t0;injection e0 with e0;subst e0 ae;exact⟨xs,A,ca,c0,la,ma,ra⟩
  obtain⟨ts,af,ab⟩:=zbx len _ hp;refine⟨some a,len,cap,ts,rfl,af.symm,hl,by unfold maxLen at hm;omega,fun hn=>?_,fun x hx=>?_⟩
  ·obtain⟨A0,c0,ac,_⟩:=ab 0 (by omega);have ha:=zap ac rfl;refine⟨a.block,a.off,congrArg some ha,?_,fun i hi=>?_⟩
   ·have:=Bd ac
    simpa[Addr.add] using this
   ·obtain⟨A1,c1,k1,k2⟩:=ab i hi;rw[ha,add_plain]at k1;exact⟨A1,c1,k1,k2⟩
  ·obtain⟨i,hi,rfl⟩:=BB hx;obtain⟨_,_,_,h1,h2,_⟩:=ab i hi;omega
theorem ziW {t e:TypeId} (ht:P.underlying t=some (.slice e)) (he:P.underlying e=some (.int .i64)) (hC:P.cellsOf e=1) (fuel:Nat) (cs:List Value) (x:DataW H×List MemPlace) (h:DataW.trod enc P w base spare held fuel t cs=some x) :
  ∃A n c xs,cs=[.slice A n c]/\n=xs.length/\n<=c/\c<=9223372036854775807/\RdQ 1 inF w w.heap.size A xs:=by
 rcases zdD ht hC h with rfl|⟨a,len,cap,rfl,hl,hm,hi⟩
 ·exact⟨none,0,0,[],rfl,rfl,Ad _,by omega,fun h=>absurd rfl h⟩
 ·have hp:∀i,i<len->∃t:Int,w.cell? (a.add i)=some (.int .i64 t):=fun i ab=>by
   obtain⟨v,y,n,c0,t0⟩:=hi i ab;obtain⟨z0,e0,_,_⟩:=Dw he t0;injection e0 with e0;subst e0;exact⟨z0,c0⟩
  obtain⟨ts,ac,aa⟩:=zbx len _ hp;refine⟨some a,len,cap,ts,rfl,ac.symm,hl,by unfold maxLen at hm;omega,fun hn=>?_⟩;have ha:=zap (aa 0 (by omega)) rfl;refine⟨a.block,a.off,congrArg some ha,?_,fun i hi j u hu=>?_⟩
  ·have:=Bd (aa 0 (by omega))
   simpa[Addr.add] using this
  ·have k1:=aa i hi;rw[ha,add_plain]at k1
   match j,hu with
   | 0,hu=>simp[inF]at hu;subst hu;rw[Dd,Cd];exact k1
   | j+1,hu=>simp[inF]at hu
theorem ziT {r:Reach} {b0:Nat} {t e1 e2 e3 e4:TypeId} {f0 f1 x0 x1:Field} {d:DataW H} {p:List MemPlace} (hs:P.underlying t=some (.struct #[f0,f1])) (aa:oneCellFields P #[f0,f1]=true) (hC:P.cellsOf t=2) (h0:P.underlying f0.type=some (.slice e1)) (ab:P.underlying e1=some (.slice e2)) (ac:P.underlying e2=some (.struct #[x0,x1])) (ad:oneCellFields P #[x0,x1]=true) (ae:P.cellsOf e2=2) (af:P.underlying x0.type=some (.int .i64)) (ag:P.underlying x1.type=some (.int .i64)) (h1:P.underlying f1.type=some (.slice e3)) (ah:P.underlying e3=some (.slice e4)) (ai:P.underlying e4=some (.int .i64)) (aj:P.cellsOf e1=1) (ak:P.cellsOf e3=1) (al:P.cellsOf e4=1) (hv:Value.okWide P w r b0 t v) (h:DataW.Trod enc P w base spare held t v d p) :
  ∃rs gs,zfx w w.heap.size v rs gs/\(rs.length<=9223372036854775807/\gs.length<=9223372036854775807)/\(∀r∈rs,r.length<=9223372036854775807)/\∀r∈gs,r.length<=9223372036854775807:=by
 obtain⟨v0,v1,y0',y1',n,rfl,_,_,k0,k1⟩:=open_agg2 hs aa hC hv h
 obtain⟨AA,nA,cA,rs,eA,am,lA,mA,rA,wA⟩:=zeX h0 aj (fun n cs x hh=>by
  obtain⟨A,n,c,xs,q1,q2,q3,q4,q5,_⟩:=ziV ab ac ad ae af ag hh;exact⟨A,n,c,xs,q1,q2,q3,q4,q5⟩) k0
 obtain⟨AG,nG,cG,gs,eG,ao,lG,mG,rG,wG⟩:=zeX h1 ak (ziW ah ai al) k1;injection eA with eA;injection eG with eG;subst eA eG am ao;exact⟨rs,gs,⟨AA,cA,AG,cG,rfl,lA,mA,lG,mG,rA,rG⟩,⟨by omega,by omega⟩,wA,wG⟩
end
end Go.Proofs.YtjjbaehamplnaaaGreat
