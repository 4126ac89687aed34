/- Part of the proofs over this program: TbCell, SetW2, LkRules, TbAct, TbTab, TbRight, Alive17T. -/
import Derived.Lib.Tables
import Derived.Lib.BitFns
import Derived.Lib.TrailingZeros
import Derived.Lib.LaidTab
import Derived.Test.YtjjbaehamplnaaaGreatMN
set_option linter.all false
set_option maxRecDepth 100000
set_option maxHeartbeats 40000000
variable {A:Option Go.Addr} {B N N' base i k m n:Nat} {E:List (List (Int×Int))} {G:Go.Proofs.YtjjbaehamplnaaaGreat.Gm.Gr} {gs:List (List Int)} {l r:List Int} {t:Int} {v:Go.Value} {w:Go.World} {xs:List Go.Value}
namespace Go.Proofs.YtjjbaehamplnaaaGreat
open Go.RowKit
namespace Tb
def cfs (q:Int) (l:List Cf):List C5:=l.map fun c=>(q,c.1,c.2.1,c.2.2.1,c.2.2.2)
theorem cell_nil (G:Gm.Gr) (x:Ce) (t:Int):cell G x t []=(x,[]):=rfl
theorem cell_red (G:Gm.Gr) (x:Ce) (t k:Int) (r:List Int) (h:x.1=0):cell G x t (k::r)=((2,k),r.map fun j=>(t,5,j,k)):=by
 unfold cell;simp only;rw[Ap h]
theorem cell_both (G:Gm.Gr) (x:Ce) (t k:Int) (r:List Int) (h:x.1≠0):cell G x t (k::r)=(if how G k t=1 then(2,k) else if how G k t=3 then(0,0) else x,(r.map fun j=>(t,5,j,k))++[(t,how G k t,k,-1)]):=by
 unfold cell;simp only;rw[AB h]
def ord (q t k:Int) (r:List Int):List C5:=r.map fun j=>(q,t,5,j,k)
theorem ord_step {q k:Int} (h:i<r.length) (cs:List C5):cs++ord q t k (r.take (i+1))=(cs++ord q t k (r.take i))++[(q,t,5,r[i],k)]:=by
 unfold ord;rw[AO h,AW,BW];rfl
theorem cfs_ord (q t k:Int) (r:List Int):cfs q (r.map fun j=>(t,5,j,k))=ord q t k r:=by
 unfold cfs ord;rw[DV];rfl
theorem cfs_app (q:Int) (a b:List Cf):cfs q (a++b)=cfs q a++cfs q b:=AW
end Tb
theorem zjr (w:World):(Instr.build 63 #[]).run Tryz.prog w=.ok (.agg #[.int .i64 0,.int .i64 0]) w:=D6 w 63 _ _ (by kernel_rfl)
theorem zgx (w:World) (base R N B kb:Nat) (G:Gm.Gr) (g0 g1 g2 g3:Value) (rows:List (RW (Int×Int))) (gts:List (RW Int)) (cs:List C5) (q t:Nat) (sh:Int×Int) (ks:List Int) (A:Option Addr) (c:Nat) (h:TBd w base R N g0 g1 g2 g3 rows gts cs) (hg:aQ w B (.agg #[g0,g1,g2,g3]) G) (hB:B<=base) (ho:aS w kb (.slice A ks.length c) ks) (aj:ks.length<=40) (bl:cs.length<=900000) (ak:∀k∈ks,0<=k/\k<G.rs.length) (ht:t<=G.ts.length) (hp:∀i (hi:i<G.rs.length),(G.rs[i]).p<G.ts.length) :
  Calls Tryz.prog 59 #[.pointer (some ⟨R,0,none⟩),.int .i64 q,.int .i64 t,.agg #[.int .i64 sh.1,.int .i64 sh.2],.slice A ks.length c] w fun e w'=>e=.returned (.agg #[.int .i64 (Tb.cell G sh t ks).1.1,.int .i64 (Tb.cell G sh t ks).1.2])/\TBd w' base R N g0 g1 g2 g3 rows gts (cs++Tb.cfs q (Tb.cell G sh t ks).2)/\KeepC R w w'/\Below base w w':=by
 have l:=aA h.base_le;have I:=aA h.hN;have bz:=aA h.lt;have bb:=aA bl;have ay:=aA (fun(x:World) (hx:Below base w x) (k:Nat) (hk:k<G.rs.length)=>zeJ (.agg #[g0,g1,g2,g3]) G B k t x (hg.below hx hB) (Ag hB (Ag l.o hx.size)) hk ht (hp k hk));obtain⟨s0,s1⟩:=sh;simp only;obtain⟨w1,C⟩:∃y,y=(w.alloc (.cells #[.int .i64 s0,.int .i64 s1] 63)).alloc (.cells #[.int .i64 0,.int .i64 0] 63):=⟨_,rfl⟩
 have az:Hid (aW 63 63 w #[.int .i64 s0,.int .i64 s1] #[.int .i64 0,.int .i64 0] w1):=aA (by rw[C];exact aW.start _ _ _ _ _);have U:Hid (Below w.heap.size w w1):=aA az.o.below;have J:Hid (w1.heap[w.heap.size]?=some (.cells #[.int .i64 s0,.int .i64 s1] 63 (0,0))):=aA (by rw[C];exact aC ((Aq _ _).alloc (Ad _) _) (Az w _))
 have u:Hid (w1.heap[w.heap.size+1]?=some (.cells #[.int .i64 0,.int .i64 0] 63 (0,0))):=aA (by
  have:=Az (w.alloc (.cells #[.int .i64 s0,.int .i64 s1] 63)) (.cells #[.int .i64 0,.int .i64 0] 63)
  rw[C]
  simpa using this)
 have V:=aA (h.below U.o);have X:=aA (ho.below U.o (Ad _));have al:Hid (KeepC R w w1):=aA (.below U.o);have aa:Hid (Below base w w1):=aA (U.o.mono l.o);clear h hg ho U
 match ks,aj,ak,X with
 | [],_,_,_ =>
  have HF:=aA (V.o.fin al.o aa.o u.o (by omega) I.o l.o (.int .i64 s0) (.int .i64 s1));have x0:=aM J.o;have x1:=aR J.o;have y0:=aM u.o;have y1:=aR u.o;have f0:=AD w1 _ 0 _ _ u.o;have f1:=AD w1 _ 1 _ _ u.o;have ly:=(Ac.1 u.o).1;have lx:w.heap.size<w1.heap.size:=by omega
  have e0:([]:List Int).length=0:=rfl;rw[e0];clear e0 V al aa J u az ay
  go_enter Tryz.func59,Tryz.ntmps59
  go_upto_region 1 with fail
  rw[<-C];clear C;obtain⟨wf,d⟩:∃y,y=(w1.setCell ⟨w.heap.size+1,0,none⟩ (.int .i64 s0)).setCell ⟨w.heap.size+1,1,none⟩ (.int .i64 s1):=⟨_,rfl⟩
  rw[<-d]at HF;go_wp2;rw[<-d];clear d;have j0:=aM HF.o.2.2.2;have j1:=aR HF.o.2.2.2;have lf:=(Ac.1 HF.o.2.2.2).1;refine BM (v:=.agg #[.int .i64 s0,.int .i64 s1]) (by simp[results,Tryz.results59,go_sem,j0,j1]) rfl ?_;exact⟨rfl,by rw[Tb.cell_nil];unfold Tb.cfs;rw[CU,Co];exact HF.o.1,HF.o.2.1,HF.o.2.2.1⟩
 | k::r,aj,ak,X =>
  have hk:=ak k Bf;obtain⟨kn,rfl⟩:∃kn:Nat,k=kn:=⟨k.toNat,by omega⟩
  have bm:=aA (fun x hx=>ay.o x hx kn (by omega));have ab:Hid (r.length<=40):=aA (by rw[Bt]at aj;omega);obtain⟨gk,ck,ek,_,_,_⟩:=X.o.addr (by simp);injection ek with ek1 _ ek3;subst ek1 ek3;obtain⟨n,hn⟩:∃n,r.length=n:=⟨_,rfl⟩
  have am:((kn:Int)::r).length=n+1:=by rw[Bt,hn]
  have ao:Hid (aS w1 kb (.slice (some ⟨gk,0,none⟩) (n+1) c) ((kn:Int)::r)):=aA (by have:=X.o;rw[am]at this;exact this);rw[am];have HN:=aA hn;have bD:(n:Int)<=40:=by have:=ab.o;omega
  have k0:=ao.o.cellAt am.symm 0 (by simp);rw[show((kn:Int)::r).getD 0 0=(kn:Int) from rfl]at k0;have S1:=fun y:World=>zaR y (some ⟨gk,0,none⟩) c (n+1) 1 (by omega);have lk:=(Ac.1 J.o).1
  have bn:n+1<=c:=by
   obtain⟨_,_,e,h1,_⟩:=ao.o.form;injection e with _ _ e;omega
  obtain⟨D,hD⟩:∃D,D=dropA (some ⟨gk,0,none⟩) c 1:=⟨_,rfl⟩
  have S1:∀y:World,(Instr.sliceAt 51 (.slice (some ⟨gk,0,none⟩) (n+1) c) (some (.int .i64 1)) none none).run Tryz.prog y=.ok (.slice D n (c-1)) y:=fun y=>by rw[hD];exact zaR y (some ⟨gk,0,none⟩) c (n+1) 1 (by omega)
  have HD:Hid (0<n->D=some ⟨gk,1,none⟩):=aA (fun h0=>by rw[hD];unfold dropA;rw[AB (by omega)];simp[Addr.add]);have lgk:gk<w1.heap.size:=Bd k0;have bo:((n:Int)+1==0)=false:=by rw[AY];omega
  have bc:Hid (TBd w1 base R N g0 g1 g2 g3 rows gts (cs++Tb.ord q t kn (r.take 0))):=aA (by rw[Ej];unfold Tb.ord;rw[CU,Co];exact V.o);have bp:Hid (∀i,(Tb.ord q t kn (r.take i)).length<=40):=aA (fun i=>by unfold Tb.ord;rw[Bb,Bc];have:=ab.o;omega);obtain⟨⟨vA0,vG0,vC0,bd,_,_,_⟩,_,_,_,_⟩:=V.o;have a0:=aA bd;clear hD ak aj am bn hk ay az V X bd
  go_enter Tryz.func59,Tryz.ntmps59
  go_upto_region 1 with fail
  rw[<-C];clear C;go_wp2;clear S1 k0 lgk bo;go_loopw [26] (fun vi wr=>∃i:Nat,i<=n/\vi=.int .i64 i/\Hid (TBd wr base R N g0 g1 g2 g3 rows gts (cs++Tb.ord q t kn (r.take i)))/\Hid (KeepC R w1 wr)/\Hid (Below base w wr)) (fun vi _=>n-(intOf vi).toNat)
  case atStart=>exact⟨0,AX _,rfl,bc,aA (.refl _ _),aa⟩
  case round =>
   clear bc;obtain⟨i,hi,rfl,HT,HK,HW⟩:=hrel;rename World=>wr;obtain⟨⟨vA,vG,vC,hb,hA,hG,hC⟩,ap,aq,hR,ar⟩:=HT.o;by_cases bf:i<n
   ·obtain rfl:=HD.o (by omega);have a1:i<r.length:=by have:=HN.o;omega
    have bg:aS wr kb (.slice (some ⟨gk,0,none⟩) (n+1) c) ((kn:Int)::r):=HK.o.own_row a0.o ao.o (by decide) (by decide);have kz:=bg.cellAt (by rw[Bt,HN.o]) (1+i) (by rw[Bt];omega);rw[show((kn:Int)::r).getD (1+i) 0=r[i] by rw[Nat.add_comm,List.getD_cons_succ,L.gd_lt a1]]at kz;have bq:=aA (Tb.ord_step (q:=q) (t:=t) (k:=kn) a1 cs);have br:=aA (bp.o i);have bh:=aA bf;have bM:(i:Int)<(n:Int):=by omega
    have lgk:=Bd kz;clear bg;generalize r[i]=z at *;clear a1;have Z:(cs++Tb.ord q t kn (r.take i)).length<=1000000:=by rw[AU];have:=br.o;have:=bb.o;omega
    have a2:=aA Z;clear Z;generalize cs++Tb.ord q t kn (r.take i)=xs at *;obtain⟨AC,cC,rfl,_,_,_⟩:=hC.form za1;have c6:=zjG hb;have fR:=AD _ R 6 _ _ hb;have lR:=(Ac.1 hb).1;have E:Hid (Below wr.heap.size wr (wr.alloc (.cells #[.int .i64 (q:Int),.int .i64 (t:Int),.int .i64 5,.int .i64 z,.int .i64 (kn:Int)] 66))):=aA ((Aq _ _).alloc (Ad _) _);have ad:=aA (hC.below E.o (Ad _));have m:=aA (Az wr (.cells #[.int .i64 (q:Int),.int .i64 (t:Int),.int .i64 5,.int .i64 z,.int .i64 (kn:Int)] 66));have ae:Hid (base<=(wr.alloc (.cells #[.int .i64 (q:Int),.int .i64 (t:Int),.int .i64 5,.int .i64 z,.int .i64 (kn:Int)] 66)).heap.size):=aA (Ag (Ag l.o HW.o.size) E.o.size);have af:=aA (fun(v5:Value) (w5:World) (h1:aK 66 5 cfF w5 base v5 (xs++[(((q:Int),(t:Int),5,z,(kn:Int)):C5)])) (h2:(wr.alloc (.cells #[.int .i64 (q:Int),.int .i64 (t:Int),.int .i64 5,.int .i64 z,.int .i64 (kn:Int)] 66)).grownBy w5 (Value.slice AC xs.length cC).ownBlock)=>HT.o.push hb hC h1 h2);clear hA hG hC ap aq hR ar hb;go_wp2_with (at_builtin;refine zch (f:=cfF) rfl (.tmp 34) (.tmp 40) _ rfl Tryz.underlying34 _ 40 zjP (by decide) (by decide) (by decide) za1 zh4 base _ xs rfl ad.o _ _ (((q:Int),(t:Int),5,z,(kn:Int)):C5) rfl (zfp (((q:Int),(t:Int),5,z,(kn:Int)):C5) _ _ m.o) a2.o ae.o ?_;intro v5 w5 F ag;obtain⟨A5,c5,rfl,_,_,_⟩:=aK.form F za1;have g:=aA (af.o _ _ F ag);have c5R:=zjG g.o.2.2.2;have f5R:=AD _ R 6 _ _ g.o.2.2.2;have l5R:=(Ac.1 g.o.2.2.2).1;clear ag F af c6 fR lR E ad m ae;generalize (xs++[(((q:Int),(t:Int),5,z,(kn:Int)):C5)]).length=ln at *)
    have bi:=aA g.o.1;rw[<-bq.o]at bi;have bs:=aA (HK.o.trans g.o.2.1);have bu:=aA (HW.o.trans g.o.2.2.1);clear g c5R f5R l5R kz lgk;go_roundw
    case rel=>exact⟨i+1,bh.o,by go_num,bi,bs,bu⟩
    case measure=>simp[intOf];have:=bh.o;omega
   ·obtain rfl:i=n:=by omega
    have HT:Hid (TBd wr base R N g0 g1 g2 g3 rows gts (cs++Tb.ord q t kn r)):=aA (by have:=HT.o;rw[Cb (by have:=HN.o;omega)]at this;exact this);clear hA hG hC ap aq hR ar hb HD ao lk bf hi;obtain⟨wz,au⟩:∃y,y=wr.alloc (.cells #[.int .i64 2,.int .i64 (kn:Int)] 63):=⟨_,rfl⟩
    have a3:Hid (Below wr.heap.size wr wz):=aA (by rw[au];exact(Aq _ _).alloc (Ad _) _);have ah:Hid (wz.heap[wr.heap.size]?=some (.cells #[.int .i64 2,.int .i64 (kn:Int)] 63 (0,0))):=aA (by rw[au];exact Az wr _);have av:=aA (HT.o.below a3.o);have ac:=aA (HK.o.trans (.below a3.o));have a4:=aA (al.o.trans ac.o);have ai:=aA (HW.o.trans (a3.o.mono (Ag l.o HW.o.size)));have aw:=aA (ac.o.row a0.o J.o (by decide) (by decide));have a5:=aA (ac.o.row a0.o u.o (by decide) (by decide));have x0:=aM aw.o;have lx:=(Ac.1 aw.o).1;go_upto_region 10 with fail
    rw[<-au];clear au;clear HT HK HW al aa J u;by_cases hs:s0=0
    ·have HE:=aA (Tb.cell_red G (s0,s1) t kn r hs);subst hs;have H:=av;have M:=a4;have O:=ai;have b:=a5;have z0:=aM ah.o;have z1:=aR ah.o;have lz:=(Ac.1 ah.o).1;go_upto_region 11 with fail
     have HF:=aA (H.o.fin M.o O.o b.o (by omega) I.o l.o (.int .i64 2) (.int .i64 (kn:Int)));have y0:=aM b.o;have y1:=aR b.o;have f0:=AD _ _ 0 _ _ b.o;have f1:=AD _ _ 1 _ _ b.o;have ly:=(Ac.1 b.o).1;obtain⟨wf,d⟩:∃y,y=(wz.setCell ⟨w.heap.size+1,0,none⟩ (.int .i64 2)).setCell ⟨w.heap.size+1,1,none⟩ (.int .i64 (kn:Int)):=⟨_,rfl⟩
     rw[<-d]at HF;go_wp2;rw[<-d];clear d;have j0:=aM HF.o.2.2.2;have j1:=aR HF.o.2.2.2;have lf:=(Ac.1 HF.o.2.2.2).1;refine BM (v:=.agg #[.int .i64 2,.int .i64 (kn:Int)]) (by simp[results,Tryz.results59,go_sem,j0,j1]) rfl ?_;exact⟨by rw[HE.o],by rw[HE.o,Tb.cfs_ord];exact HF.o.1,HF.o.2.1,HF.o.2.2.1⟩
    ·have HE:=aA (Tb.cell_both G (s0,s1) t kn r hs);have bv:(s0==0)=false:=by rw[AY];exact hs
     have bw:=aA (Tb.how_in G kn t);have bx:=aA (bm.o wz ai.o);generalize Tb.how G kn t=hw at *;obtain⟨⟨vA,vG,vC,hb,_,_,_⟩,_,_,_,_⟩:=av.o;have b0:=aM hb;have b1:=aR hb;have b2:=bF hb;have b3:=bQ hb;have lR:=(Ac.1 hb).1;have a6:=aA hb;clear hb hs;go_upto_region 12 with fail
     clear bv x0 lx;go_wp2_with fail
     refine bx.o.mono ?_;rintro _ w4 ⟨rfl,ax⟩;have HT:=aA (av.o.below ax);have bj:Hid (KeepC R wz w4):=aA (.below ax);have HW:=aA (ai.o.trans (ax.mono (Ag l.o ai.o.size)));clear b0 b1 b2 b3 lR ax;obtain⟨⟨vA,vG,vC,hb,hA,hG,hC⟩,ap,aq,hR,ar⟩:=HT.o;have Z:(cs++Tb.ord q t kn r).length<=1000000:=by rw[AU];unfold Tb.ord;rw[Bb];have:=ab.o;have:=bb.o;omega
     have a2:=aA Z;clear Z;have bk:Hid (∀hw:Int,(cs++Tb.ord q t kn r)++[((q:Int),(t:Int),hw,(kn:Int),(-1:Int))]=cs++Tb.cfs q ((r.map fun j=>((t:Int),5,j,(kn:Int)))++[((t:Int),hw,(kn:Int),-1)])):=aA (fun hw=>by rw[Tb.cfs_app,Tb.cfs_ord,BW];rfl);generalize cs++Tb.ord q t kn r=xs at *;obtain⟨AC,cC,rfl,_,_,_⟩:=hC.form za1;have c6:=zjG hb;have fR:=AD _ R 6 _ _ hb;have lR:=(Ac.1 hb).1;have E:Hid (Below w4.heap.size w4 (w4.alloc (.cells #[.int .i64 (q:Int),.int .i64 (t:Int),.int .i64 hw,.int .i64 (kn:Int),.int .i64 (-1)] 66))):=aA ((Aq _ _).alloc (Ad _) _);have ad:=aA (hC.below E.o (Ad _));have m:=aA (Az w4 (.cells #[.int .i64 (q:Int),.int .i64 (t:Int),.int .i64 hw,.int .i64 (kn:Int),.int .i64 (-1)] 66));have ae:Hid (base<=(w4.alloc (.cells #[.int .i64 (q:Int),.int .i64 (t:Int),.int .i64 hw,.int .i64 (kn:Int),.int .i64 (-1)] 66)).heap.size):=aA (Ag (Ag l.o HW.o.size) E.o.size);have af:=aA (fun(v5:Value) (w5:World) (h1:aK 66 5 cfF w5 base v5 (xs++[(((q:Int),(t:Int),hw,(kn:Int),-1):C5)])) (h2:(w4.alloc (.cells #[.int .i64 (q:Int),.int .i64 (t:Int),.int .i64 hw,.int .i64 (kn:Int),.int .i64 (-1)] 66)).grownBy w5 (Value.slice AC xs.length cC).ownBlock)=>HT.o.push hb hC h1 h2);clear hA hG hC ap aq hR ar hb;go_upto_region 14 with(at_builtin;refine zch (f:=cfF) rfl (.tmp 62) (.tmp 68) _ rfl Tryz.underlying34 _ 40 zjP (by decide) (by decide) (by decide) za1 zh4 base _ xs rfl ad.o _ _ (((q:Int),(t:Int),hw,(kn:Int),-1):C5) rfl (zfp (((q:Int),(t:Int),hw,(kn:Int),-1):C5) _ _ m.o) a2.o ae.o ?_;intro v5 w5 F ag;obtain⟨A5,c5,rfl,_,_,_⟩:=aK.form F za1;have g:=aA (af.o _ _ F ag);have c5R:=zjG g.o.2.2.2;have f5R:=AD _ R 6 _ _ g.o.2.2.2;have l5R:=(Ac.1 g.o.2.2.2).1;clear ag F af c6 fR lR E ad m ae;generalize (xs++[(((q:Int),(t:Int),hw,(kn:Int),-1):C5)]).length=ln at *)
     have H:=aA g.o.1;rw[bk.o hw]at H;have s:=aA (bj.o.trans g.o.2.1);have M:=aA (a4.o.trans s.o);have O:=aA (HW.o.trans g.o.2.2.1);have b:=aA (s.o.row a6.o a5.o (by decide) (by decide));have a9:=aA (s.o.row a6.o aw.o (by decide) (by decide));have ba:=aA (s.o.row a6.o ah.o (by decide) (by decide));have bT:=zjr;clear g bk HT HW s bj av a4 ai a5 aw ah;clear c5R f5R l5R;generalize w5.setCell ⟨R,6,none⟩ (.slice A5 ln c5)=wx at *;have x0:=aM a9.o;have x1:=aR a9.o;have lx:=(Ac.1 a9.o).1;have z0:=aM ba.o;have z1:=aR ba.o;have lz:=(Ac.1 ba.o).1;rcases bw.o with rfl|rfl|rfl|rfl
     ·have HF:=aA (H.o.fin M.o O.o b.o (by omega) I.o l.o (.int .i64 2) (.int .i64 (kn:Int)));have y0:=aM b.o;have y1:=aR b.o;have f0:=AD _ _ 0 _ _ b.o;have f1:=AD _ _ 1 _ _ b.o;have ly:=(Ac.1 b.o).1;obtain⟨wf,d⟩:∃y,y=(wx.setCell ⟨w.heap.size+1,0,none⟩ (.int .i64 2)).setCell ⟨w.heap.size+1,1,none⟩ (.int .i64 (kn:Int)):=⟨_,rfl⟩
      rw[<-d]at HF;go_wp2;rw[<-d];clear d;have j0:=aM HF.o.2.2.2;have j1:=aR HF.o.2.2.2;have lf:=(Ac.1 HF.o.2.2.2).1;refine BM (v:=.agg #[.int .i64 2,.int .i64 (kn:Int)]) (by simp[results,Tryz.results59,go_sem,j0,j1]) rfl ?_;exact⟨by rw[HE.o];rfl,by rw[HE.o];exact HF.o.1,HF.o.2.1,HF.o.2.2.1⟩
     ·have HF:=aA (H.o.fin M.o O.o b.o (by omega) I.o l.o (.int .i64 s0) (.int .i64 s1));have y0:=aM b.o;have y1:=aR b.o;have f0:=AD _ _ 0 _ _ b.o;have f1:=AD _ _ 1 _ _ b.o;have ly:=(Ac.1 b.o).1;obtain⟨wf,d⟩:∃y,y=(wx.setCell ⟨w.heap.size+1,0,none⟩ (.int .i64 s0)).setCell ⟨w.heap.size+1,1,none⟩ (.int .i64 s1):=⟨_,rfl⟩
      rw[<-d]at HF;go_wp2;rw[<-d];clear d;have j0:=aM HF.o.2.2.2;have j1:=aR HF.o.2.2.2;have lf:=(Ac.1 HF.o.2.2.2).1;refine BM (v:=.agg #[.int .i64 s0,.int .i64 s1]) (by simp[results,Tryz.results59,go_sem,j0,j1]) rfl ?_;exact⟨by rw[HE.o];rfl,by rw[HE.o];exact HF.o.1,HF.o.2.1,HF.o.2.2.1⟩
     ·have HF:=aA (H.o.fin M.o O.o b.o (by omega) I.o l.o (.int .i64 0) (.int .i64 0));have y0:=aM b.o;have y1:=aR b.o;have f0:=AD _ _ 0 _ _ b.o;have f1:=AD _ _ 1 _ _ b.o;have ly:=(Ac.1 b.o).1;obtain⟨wf,d⟩:∃y,y=(wx.setCell ⟨w.heap.size+1,0,none⟩ (.int .i64 0)).setCell ⟨w.heap.size+1,1,none⟩ (.int .i64 0):=⟨_,rfl⟩
      rw[<-d]at HF;go_wp2;rw[<-d];clear d;have j0:=aM HF.o.2.2.2;have j1:=aR HF.o.2.2.2;have lf:=(Ac.1 HF.o.2.2.2).1;refine BM (v:=.agg #[.int .i64 0,.int .i64 0]) (by simp[results,Tryz.results59,go_sem,j0,j1]) rfl ?_;exact⟨by rw[HE.o];rfl,by rw[HE.o];exact HF.o.1,HF.o.2.1,HF.o.2.2.1⟩
     ·have HF:=aA (H.o.fin M.o O.o b.o (by omega) I.o l.o (.int .i64 s0) (.int .i64 s1));have y0:=aM b.o;have y1:=aR b.o;have f0:=AD _ _ 0 _ _ b.o;have f1:=AD _ _ 1 _ _ b.o;have ly:=(Ac.1 b.o).1;obtain⟨wf,d⟩:∃y,y=(wx.setCell ⟨w.heap.size+1,0,none⟩ (.int .i64 s0)).setCell ⟨w.heap.size+1,1,none⟩ (.int .i64 s1):=⟨_,rfl⟩
      rw[<-d]at HF;go_wp2;rw[<-d];clear d;have j0:=aM HF.o.2.2.2;have j1:=aR HF.o.2.2.2;have lf:=(Ac.1 HF.o.2.2.2).1;refine BM (v:=.agg #[.int .i64 s0,.int .i64 s1]) (by simp[results,Tryz.results59,go_sem,j0,j1]) rfl ?_;exact⟨by rw[HE.o];rfl,by rw[HE.o];exact HF.o.1,HF.o.2.1,HF.o.2.2.1⟩
namespace S
def has (s:Nat) (n:Int):Bool:=decide (0<=n/\n<=31)&&s.testBit n.toNat
theorem and_bit (s:Nat) (n:Int):(s &&& bit n != 0)=has s n:=by
 unfold has bit;split
 ·rename_i h
  cases hb:s.testBit n.toNat
  ·have e:s &&& 2 ^ n.toNat=0:=by
    apply CM;intro i;rw[DG,Ck,CV];by_cases hi:n.toNat=i
    ·rw[<-hi,hb];rfl
    ·simp[hi]
   rw[e];simp
  ·have e:s &&& 2 ^ n.toNat≠0:=by
    intro e
    have:=congrArg (fun z=>Nat.testBit z n.toNat) e
    simp only[DG,Ck,hb,CV]at this;simp at this
   simp[h,e]
 ·rename_i h;simp[h]
end S
namespace Lk
def rl (l:List (Int×Int)) (n:Int):List Int:=(l.filter fun x=>S.has x.2.toNat n).map (·.1)
theorem rl_step {l:List (Int×Int)} {n:Int} (h:i<l.length):rl (l.take (i+1)) n=rl (l.take i) n++if S.has (l[i]).2.toNat n=true then [(l[i]).1] else []:=by
 unfold rl;rw[AO h,CF,AW]
 congr 1
 rw[Cy];split <;> rfl
theorem rl_len (l:List (Int×Int)) (n:Int):(rl l n).length<=l.length:=by
 unfold rl;rw[Bb];exact Ct _ _
end Lk
def znb (x:Int×Int):Prop:=Gm.In x.1/\0<=x.2/\x.2<4294967296
theorem zfZ (l:List (Int×Int)) (n:Int) (A:Option Addr) (c B:Nat) (w:World) (hr:RdQ 2 lkF w B A l) (hB:B<=w.heap.size) (ak:∀x∈l,znb x) (aa:l.length<=100000) :
  Calls Tryz.prog 60 #[.slice A l.length c,.int .i64 n] w fun e w'=>∃u,e=.returned u/\aS w' w.heap.size u (Lk.rl l n)/\Below w.heap.size w w':=by
 have HR:=aA hr;have HB:=aA hB;have ay:=aA ak;have ac:=aA aa;have a9:(l.length:Int)<=100000:=by omega
 have az:Hid (aS w w.heap.size (.slice none 0 0) (Lk.rl (l.take 0) n)):=aA (aS.nil _ _);clear hr hB ak aa
 go_enter Tryz.func60,Tryz.ntmps60
 go_wp2;go_loopw [10,5] (fun vi vu wr=>∃i:Nat,i<=l.length/\vi=.int .i64 i/\Hid (aS wr w.heap.size vu (Lk.rl (l.take i) n))/\Hid (Below w.heap.size w wr)) (fun vi _ _=>l.length-(intOf vi).toNat)
 case atStart=>exact⟨0,AX _,rfl,az,aA (Aq _ _)⟩
 case round =>
  obtain⟨i,hi,rfl,HO,HW⟩:=hrel;rename World=>wr;obtain⟨Au,cu,rfl,_,_,_⟩:=aS.form HO.o;by_cases d:i<l.length
  ·obtain⟨g,o,rfl,a0,hc⟩:=HR.o (by omega);have al:g<w.heap.size:=Ao a0 HB.o;have k0:=(HW.o.cell (p:=⟨g,o+i*2+0,none⟩) al).trans (hc i d 0 (.int .i64 (l[i]).1) rfl);have k1:=(HW.o.cell (p:=⟨g,o+i*2+1,none⟩) al).trans (hc i d 1 (.int .u32 (l[i]).2) rfl);rw[Cd]at k0;have hx:=ay.o _ (Ay d);have b:=aA (Lk.rl_step (n:=n) d);have ad:=aA (Ag (Lk.rl_len (l.take i) n) (by rw[Bc];omega:(l.take i).length<=l.length));have am:=aA d;have ba:((i:Nat):Int)<((l.length:Nat):Int):=by omega
   have ae:0<=(l[i]).2/\(l[i]).2<4294967296:=hx.2;clear hx;clear hc;generalize (l[i]).2=zi at *;obtain⟨z,rfl⟩:∃z:Nat,zi=(z:Int):=⟨zi.toNat,by have:=ae.1;omega⟩
   have a1:z<4294967296:=by have:=ae.2;omega
   rw[BZ]at b;clear ae;generalize (l[i]).1=r at *;obtain⟨wi,ab⟩:∃y,y=wr.alloc (.cells #[.int .i64 r,.int .u32 (z:Int)] 109):=⟨_,rfl⟩
   have ao:Hid (Below wr.heap.size wr wi):=aA (by rw[ab];exact(Aq _ _).alloc (Ad _) _);have ap:Hid (wi.heap[wr.heap.size]?=some (.cells #[.int .i64 r,.int .u32 (z:Int)] 109 (0,0))):=aA (by rw[ab];exact Az wr _);have y1:=aR ap.o;have aq:=aA (HW.o.trans (ao.o.mono HW.o.size));have a2:=aA (HO.o.below ao.o (Ad _));have e:=u32_and_nat z (S.bit n) a1 (S.bit_lt n)
   have ar:(((z &&& S.bit n:Nat):Int) != 0)=S.has z n:=by
    rw[<-S.and_bit,Bn,Du,Du];omega
   go_upto_region 5 with fail
   rw[<-ab];clear ab k0 k1;go_quiet ((go_at_call 99;exact Dc (zcb _ _)))
   obtain⟨wq,af⟩:∃y,y=wi.drewN nq:=⟨_,rfl⟩
   rw[<-af];have ag:Hid (Below wi.heap.size wi wq):=aA (by rw[af];exact aB (Aq _ _) _);clear af y1;have ah:=aA (aq.o.trans (ag.o.mono aq.o.size));have au:=aA (a2.o.below ag.o (Ad _));cases hh:S.has z n
   ·rw[hh]at b;have ai:Hid (Lk.rl (l.take (i+1)) n=Lk.rl (l.take i) n):=aA (by rw[b.o];simp);rw[hh]at ar;clear hh b;go_wp2;go_roundw
    case rel=>exact⟨i+1,am.o,by go_num,by rw[ai.o];exact au,ah⟩
    case measure=>simp[intOf];omega
   ·rw[hh]at b;have ai:Hid (Lk.rl (l.take (i+1)) n=Lk.rl (l.take i) n++[r]):=aA (by rw[b.o];simp);rw[hh]at ar;clear hh b;have y0:=aM (aC ag.o ap.o);have a3:Hid (Below wq.heap.size wq (wq.alloc (.cells #[.int .i64 r] 3))):=aA ((Aq _ _).alloc (Ad _) _);have av:=aA (au.o.alloc (.cells #[.int .i64 r] 3));have a4:Hid ((wq.alloc (.cells #[.int .i64 r] 3)).cell? ⟨wq.heap.size,0,none⟩=some (.int .i64 r)):=aA (Aw _ _ 0 _ _ _ (Az wq _));have aj:=aA (ah.o.trans (a3.o.mono ah.o.size));generalize Lk.rl (l.take i) n=xs at *;go_wp2_with (at_builtin;refine zbA rfl (.tmp 20) (.tmp 23) _ rfl Tryz.underlying51 w.heap.size _ xs rfl av.o _ _ r rfl a4.o (by have:=ad.o;have:=ac.o;omega) aj.o.size ?_;intro v5 w5 aw ax;have a5:=aA aw;have a6:=aA (aj.o.grown ax aj.o.size (fun k e=>(Bs av.o k e).1));clear aw ax)
    go_roundw
    case rel=>exact⟨i+1,am.o,by go_num,by rw[ai.o];exact a5,a6⟩
    case measure=>simp[intOf];omega
  ·obtain rfl:i=l.length:=by omega
   rw[Bo]at HO ⊢;go_wp2;go_ret
   refine⟨_,?_,HO.o,HW.o⟩;rfl
namespace Tb
theorem zjp (G:Gm.Gr) (x:Ce) (t:Int) (ks:List Int):(cell G x t ks).2.length<=ks.length:=by
 cases ks with
 | nil=>exact Ad _
 | cons k r =>
  unfold cell;simp only;split <;> simp
def act (G:Gm.Gr) (f:Int->Ce) (l:List (Int×Int)) (t:Int):Ce×List Cf:=cell G (f t) t (Lk.rl l t)
def cfA (q:Int) (G:Gm.Gr) (f:Int->Ce) (l:List (Int×Int)) (n:Nat):List C5:=(List.range n).flatMap fun t:Nat=>cfs q (act G f l (t:Int)).2
theorem cfA_zero (q:Int) (G:Gm.Gr) (f:Int->Ce) (l:List (Int×Int)):cfA q G f l 0=[]:=rfl
theorem cfA_step (q:Int) (G:Gm.Gr) (f:Int->Ce) (l:List (Int×Int)) (n:Nat):cfA q G f l (n+1)=cfA q G f l n++cfs q (act G f l (n:Int)).2:=by
 unfold cfA;rw[Cp,BX,Cc]
theorem cfA_len (q:Int) (G:Gm.Gr) (f:Int->Ce) (l:List (Int×Int)) (h:l.length<=40) (n:Nat):(cfA q G f l n).length<=n*40:=by
 induction n with
 | zero=>simp[cfA]
 | succ n ih =>
  rw[cfA_step,AU];have h1:=zjp G (f (n:Int)) n (Lk.rl l n);have h2:=Lk.rl_len l (n:Int);unfold cfs act;rw[Bb];omega
def rowP (G:Gm.Gr) (f:Int->Ce) (l:List (Int×Int)) (n i:Nat):List Ce:=rowT n fun t=>if t<(i:Int) then(act G f l t).1 else(0,0)
theorem rowP_zero (G:Gm.Gr) (f:Int->Ce) (l:List (Int×Int)) (n:Nat):rowP G f l n 0=List.replicate n (0,0):=rowT_rep _ fun t=>AB (by omega)
theorem rowP_all (G:Gm.Gr) (f:Int->Ce) (l:List (Int×Int)) (n:Nat):rowP G f l n n=rowT n fun t=>(act G f l t).1:=rowT_eq fun t ht=>by rw[Ap (by omega)]
theorem rowP_set (G:Gm.Gr) (f:Int->Ce) (l:List (Int×Int)) (n i:Nat):(rowP G f l n i).set i (act G f l i).1=rowP G f l n (i+1):=rowT_set (by rw[Ap (by omega)]) fun t ht=>by
 by_cases h:t<i
 ·rw[Ap (by omega),Ap (by omega)]
 ·rw[AB (by omega),AB (by omega)]
theorem rowP_len (G:Gm.Gr) (f:Int->Ce) (l:List (Int×Int)) (n i:Nat):(rowP G f l n i).length=n:=rowT_len _ _
end Tb
theorem zlI {l:List (Int×Int)} {n k:Int} (h:k∈Lk.rl l n):∃x∈l,x.1=k:=by
 unfold Lk.rl at h;obtain⟨x,hx,e⟩:=Bi.1 h;exact⟨x,(B7.1 hx).1,e⟩
structure KeepB (R:Nat) (w w':World):Prop where
 size:w.heap.size<=w'.heap.size
 keep:∀(g:Nat) (cs:Array Value) (T:TypeId),w.heap[g]?=some (.cells cs T (0,0))->g≠R->T≠66->T≠64->T≠51->w'.heap[g]?=some (.cells cs T (0,0))
section
variable {R:Nat} {w w' w2:World}
theorem KeepB.trans (h:KeepB R w w') (k:KeepB R w' w2):KeepB R w w2:=⟨Ag h.size k.size,fun g o T h1 h2 h3 h4 h5=>k.keep g o T (h.keep g o T h1 h2 h3 h4 h5) h2 h3 h4 h5⟩
theorem KeepC.toB (h:KeepC R w w'):KeepB R w w':=⟨h.size,fun _ _ _ h1 h2 h3 _ _=>h.cells h1 h2 h3⟩
theorem KeepB.refl (R:Nat) (w:World):KeepB R w w:=(KeepC.refl R w).toB
theorem KeepB.own {T:TypeId} (hT:T=64\/T=51) (h:w.ownsRow base T m v n xs) (hg:w.grownBy w' v.ownBlock):KeepB R w w':=⟨hg.size,fun _ _ _ h1 _ _ h4 h5=>aI h hg h1 fun cur=>aH (by rcases hT with rfl|rfl <;> assumption)⟩
theorem KeepB.set (i:Nat) (u:Value):KeepB R w (w.setCell ⟨R,i,none⟩ u):=(KeepC.set i u).toB
end
section
variable {w w' w5:World} {base R N:Nat} {g0 g1 g2 g3:Value} {rows:List (RW (Int×Int))} {gts:List (RW Int)} {cs:List C5}
theorem TBd.moreN (h:TBd w base R N g0 g1 g2 g3 rows gts cs) (h1:N<=N') (h2:N'<=w.heap.size):TBd w base R N' g0 g1 g2 g3 rows gts cs :=
 ⟨h.b,fun r hr=>(h.ra r hr).more h1,fun r hr=>(h.rg r hr).more h1,h.hR,h2⟩
theorem TBd.pushA (h:TBd w base R N g0 g1 g2 g3 rows gts cs) {vA vG vC:Value} (hb:w.heap[R]?=some (.cells (tbC g0 g1 g2 g3 vA vG vC) 77 (0,0))) (hA:aK 64 1 rwF w base vA rows) {a5:Array Value} {x:RW (Int×Int)} {v5:Value} (hx:bL 63 2 prF w base w.heap.size x) (ho:aK 64 1 rwF w5 base v5 (rows++[x])) (hg:(w.alloc (.cells a5 64)).grownBy w5 vA.ownBlock) :
  TBd (w5.setCell ⟨R,4,none⟩ v5) base R w.heap.size g0 g1 g2 g3 (rows++[x]) gts cs/\KeepB R w (w5.setCell ⟨R,4,none⟩ v5)/\Below base w (w5.setCell ⟨R,4,none⟩ v5)/\w5.heap[R]?=some (.cells (tbC g0 g1 g2 g3 vA vG vC) 77 (0,0)):=by
 have ac:=h.base_le;obtain⟨⟨vA',vG',vC',h1,h2,h3,h4⟩,h5,h6,h7,h8⟩:=h;rw[hb]at h1;injection h1 with h1;injection h1 with h1 _ _;injection h1 with h1;simp only[EB,and_true,true_and]at h1;obtain⟨rfl,rfl,rfl⟩:=h1;have b:Below w.heap.size w (w.alloc (.cells a5 64)):=(Aq _ _).alloc (Ad _) _;have aa:=hA.below b (Ad _);have b5:=aI aa hg (aC b hb) fun cur=>aH (by decide)
 have kk:∀(g:Nat) (cur:Array Value) (T:TypeId),T≠64->T≠77->w.heap[g]?=some (.cells cur T (0,0))->(w5.setCell ⟨R,4,none⟩ v5).heap[g]?=some (.cells cur T (0,0)):=fun g cur T hT ab hc=>by
  have c5:=aI aa hg (aC b hc) fun cur=>aH hT;refine(AH w5 ⟨R,4,none⟩ v5 g fun e=>?_).trans c5;have e:g=R:=e;rw[e,hb]at hc;injection hc with hc;injection hc with _ hc _;exact ab hc.symm
 have own:∀ {m n:Nat} {T:TypeId} {v:Value} {xs:List Value},w.ownsRow base T m v n xs->T≠64->T≠77->(w5.setCell ⟨R,4,none⟩ v5).ownsRow base T m v n xs:=fun {m n T v xs} ho hT ab=>by
  refine⟨ho.1,?_⟩;rcases ho.2 with h1|⟨g,cap,cur,h1,h2,h3,h4⟩
  ·exact .inl h1
  ·exact .inr ⟨g,cap,cur,h1,h2,kk g _ _ hT ab h3,h4⟩
 have k6:KeepB R w (w5.setCell ⟨R,4,none⟩ v5):=(((KeepC.below b).toB).trans (.own (.inl rfl) aa hg)).trans (.set 4 v5);refine⟨⟨⟨_,_,_,AP w5 R 4 _ _ v5 b5,?_,own h3 (by decide) (by decide),own h4 (by decide) (by decide)⟩,fun r hr=>?_,fun r hr=>((h6 r hr).keep fun g cur _ _ hc=>kk g cur _ (by decide) (by decide) hc).more h8,h7,k6.size⟩,k6,?_,b5⟩
 ·exact AZ ho (aF (AI _ _) 4 _) (zaf ho b5 fun cur=>aH (by decide))
 ·rcases Bj.1 hr with hr|hr
  ·exact((h5 r hr).keep fun g cur _ _ hc=>kk g cur _ (by decide) (by decide) hc).more h8
  ·rw[AF.1 hr];exact hx.keep fun g cur _ _ hc=>kk g cur _ (by decide) (by decide) hc
 ·exact(((b.mono ac).grown hg (Ag ac b.size) (fun k e=>(Bs aa k e).1)).setCell h7 v5)
theorem TBd.pushG (h:TBd w base R N g0 g1 g2 g3 rows gts cs) {vA vG vC:Value} (hb:w.heap[R]?=some (.cells (tbC g0 g1 g2 g3 vA vG vC) 77 (0,0))) (hA:aK 51 1 rwF w base vG gts) {a5:Array Value} {x:RW Int} {v5:Value} (hx:bL 3 1 inF w base w.heap.size x) (ho:aK 51 1 rwF w5 base v5 (gts++[x])) (hg:(w.alloc (.cells a5 51)).grownBy w5 vG.ownBlock) :
  TBd (w5.setCell ⟨R,5,none⟩ v5) base R w.heap.size g0 g1 g2 g3 rows (gts++[x]) cs/\KeepB R w (w5.setCell ⟨R,5,none⟩ v5)/\Below base w (w5.setCell ⟨R,5,none⟩ v5)/\w5.heap[R]?=some (.cells (tbC g0 g1 g2 g3 vA vG vC) 77 (0,0)):=by
 have ac:=h.base_le;obtain⟨⟨vA',vG',vC',h1,h2,h3,h4⟩,h5,h6,h7,h8⟩:=h;rw[hb]at h1;injection h1 with h1;injection h1 with h1 _ _;injection h1 with h1;simp only[EB,and_true,true_and]at h1;obtain⟨rfl,rfl,rfl⟩:=h1;have b:Below w.heap.size w (w.alloc (.cells a5 51)):=(Aq _ _).alloc (Ad _) _;have aa:=hA.below b (Ad _);have b5:=aI aa hg (aC b hb) fun cur=>aH (by decide)
 have kk:∀(g:Nat) (cur:Array Value) (T:TypeId),T≠51->T≠77->w.heap[g]?=some (.cells cur T (0,0))->(w5.setCell ⟨R,5,none⟩ v5).heap[g]?=some (.cells cur T (0,0)):=fun g cur T hT ab hc=>by
  have c5:=aI aa hg (aC b hc) fun cur=>aH hT;refine(AH w5 ⟨R,5,none⟩ v5 g fun e=>?_).trans c5;have e:g=R:=e;rw[e,hb]at hc;injection hc with hc;injection hc with _ hc _;exact ab hc.symm
 have own:∀ {m n:Nat} {T:TypeId} {v:Value} {xs:List Value},w.ownsRow base T m v n xs->T≠51->T≠77->(w5.setCell ⟨R,5,none⟩ v5).ownsRow base T m v n xs:=fun {m n T v xs} ho hT ab=>by
  refine⟨ho.1,?_⟩;rcases ho.2 with h1|⟨g,cap,cur,h1,h2,h3,h4⟩
  ·exact .inl h1
  ·exact .inr ⟨g,cap,cur,h1,h2,kk g _ _ hT ab h3,h4⟩
 have k6:KeepB R w (w5.setCell ⟨R,5,none⟩ v5):=(((KeepC.below b).toB).trans (.own (.inr rfl) aa hg)).trans (.set 5 v5);refine⟨⟨⟨_,_,_,AP w5 R 5 _ _ v5 b5,own h2 (by decide) (by decide),?_,own h4 (by decide) (by decide)⟩,fun r hr=>((h5 r hr).keep fun g cur _ _ hc=>kk g cur _ (by decide) (by decide) hc).more h8,fun r hr=>?_,h7,k6.size⟩,k6,?_,b5⟩
 ·exact AZ ho (aF (AI _ _) 5 _) (zaf ho b5 fun cur=>aH (by decide))
 ·rcases Bj.1 hr with hr|hr
  ·exact((h6 r hr).keep fun g cur _ _ hc=>kk g cur _ (by decide) (by decide) hc).more h8
  ·rw[AF.1 hr];exact hx.keep fun g cur _ _ hc=>kk g cur _ (by decide) (by decide) hc
 ·exact(((b.mono ac).grown hg (Ag ac b.size) (fun k e=>(Bs aa k e).1)).setCell h7 v5)
end
theorem zkS:(Tryz.prog.info? 64).map (fun i=>(i.zero,i.size,i.bytes))=some (some (.slice none 0 0),1,24):=by kernel_rfl
theorem zkQ:(Tryz.prog.info? 51).map (fun i=>(i.zero,i.size,i.bytes))=some (some (.slice none 0 0),1,24):=by kernel_rfl
theorem zdo {α:Type} (r:RW α) (n:Nat) (hn:r.1.length=n) (w:World) (g:Nat) (T:TypeId) (hb:w.heap[g]?=some (.cells #[.slice r.2.1 n r.2.2] T (0,0))):∀j u,(rwF r)[j]?=some u->w.cell? ⟨g,j,none⟩=some u:=fun j u hu=>by
 refine(Aw w g j _ _ _ hb).trans ?_
 match j,hu with
 | 0,hu=>rw[<-hn];exact hu
 | j+1,hu=>simp[rwF]at hu
theorem zdk (w:World) (base R N B BL:Nat) (G:Gm.Gr) (g0 g1 g2 g3:Value) (rows:List (RW (Int×Int))) (gts:List (RW Int)) (cs:List C5) (q gs:Nat) (f:Int->Tb.Ce) (l:List (Int×Int)) (AL:Option Addr) (cL:Nat) (h:TBd w base R N g0 g1 g2 g3 rows gts cs) (hg:aQ w B (.agg #[g0,g1,g2,g3]) G) (hB:B<=base) (hs:UBQ 63 prF w gs (Tb.rowT (G.ts.length+1) f)) (hl:RdQ 2 lkF w BL AL l) (a3:BL<=base) (ar:∀x∈l,znb x/\0<=x.1/\x.1<G.rs.length) (a4:l.length<=40) (hT:G.ts.length<=24) (ag:cs.length<=800000) (b5:rows.length<=1000) (hp:∀i (hi:i<G.rs.length),(G.rs[i]).p<G.ts.length) :
  Calls Tryz.prog 29 #[.pointer (some ⟨R,0,none⟩),.int .i64 q,.slice (some ⟨gs,0,none⟩) (G.ts.length+1) (G.ts.length+1),.slice AL l.length cL] w fun e w'=>e=.returned (.tuple #[])/\(∃r:RW (Int×Int),r.1=Tb.rowT (G.ts.length+1) (fun t=>(Tb.act G f l t).1)/\TBd w' base R w'.heap.size g0 g1 g2 g3 (rows++[r]) gts (cs++Tb.cfA q G f l (G.ts.length+1)))/\Below base w w'/\KeepB R w w':=by
 have b:=aA h.base_le;have a5:=aA h.hN;have b6:=aA h.lt;have a6:=aA h;obtain⟨⟨vA0,vG0,vC0,a9,_,_,_⟩,_,_,cp,_⟩:=h;have b7:=aA a9;have ba:=aA hs;have cq:=aA ag;have b8:=aA (fun(x:World) (hx:Below base w x) (i:Nat)=>zfZ l (i:Int) AL cL BL x (hl.below hx a3) (Ag a3 (Ag b.o hx.size)) (fun y hy=>(ar y hy).1) (by omega));have bb:=aA (fun(x:World) (hx:Below base w x) (cs:List C5) (i kb:Nat) (sh:Int×Int) (A:Option Addr) (c:Nat) (hi:i<G.ts.length+1) (h:TBd x base R N g0 g1 g2 g3 rows gts cs) (ho:aS x kb (.slice A (Lk.rl l (i:Int)).length c) (Lk.rl l (i:Int))) (ag:cs.length<=900000)=>zgx x base R N B kb G g0 g1 g2 g3 rows gts cs q i sh (Lk.rl l (i:Int)) A c h (hg.below hx hB) hB ho (Ag (Lk.rl_len l (i:Int)) a4) ag (fun k hk=>by obtain⟨y,hy,rfl⟩:=zlI hk;exact(ar y hy).2) (by omega) hp)
 have bc:=aA (fun(i:Nat) (hi:i<G.ts.length+1)=>(show(cs++Tb.cfA q G f l i).length<=900000 from by
  rw[AU]
  have:=Tb.cfA_len q G f l a4 i
  omega))
 have b9:=hT;have au:=aA b5;clear hg hs hl ar a9 ag hp;obtain⟨n,hn⟩:∃n,n=G.ts.length+1:=⟨_,rfl⟩
 rw[<-hn]at ba bb bc ⊢;have bd:n<=1000000:=by omega
 have cr:(n:Int)<=25:=by omega
 clear hn hT b9
 go_enter Tryz.func29,Tryz.ntmps29
 go_upto_region 1 with(at_make;refine zb8 (m:=2) (f:=prF) rfl (.tmp 12) (.tmp 12) _ rfl Tryz.underlying64 _ 16 zjQ (by decide) (by decide) (by decide) ((0,0):Int×Int) rfl n rfl rfl bd ?_;intro w2 bf ah)
 have bg:Hid (UBQ 63 prF w2 w.heap.size (Tb.rowP G f l n 0)):=aA (by rw[Tb.rowP_zero];exact bf);have bh:Hid (TBd w2 base R N g0 g1 g2 g3 rows gts (cs++Tb.cfA q G f l 0)):=aA (by rw[Tb.cfA_zero,Co];exact a6.o.below ah);have bi:Hid (KeepC R w w2):=aA (.below ah);have bj:=aA (ah.mono b.o);clear bf ah bd a6;go_wp2;go_loopw [16] (fun vi wr=>∃i:Nat,i<=n/\vi=.int .i64 i/\Hid (TBd wr base R N g0 g1 g2 g3 rows gts (cs++Tb.cfA q G f l i))/\Hid (UBQ 63 prF wr w.heap.size (Tb.rowP G f l n i))/\Hid (KeepC R w wr)/\Hid (Below base w wr)) (fun vi _=>n-(intOf vi).toNat)
 case atStart=>exact⟨0,AX _,rfl,bh,bg,bi,bj⟩
 case round =>
  clear bh bg bi bj;obtain⟨i,hi,rfl,HT,HU,HK,HW⟩:=hrel;rename World=>wr;by_cases E:i<n
  ·have C:i<(Tb.rowT n f).length:=by rw[Tb.rowT_len];exact E
   have ai:UBQ 63 prF wr gs (Tb.rowT n f):=HK.o.row b7.o ba.o (by decide) (by decide);have k0:=ai.cell (m:=2) aJ i 0 C (.int .i64 (f i).1) (by rw[Tb.rowT_at];rfl);have k1:=ai.cell (m:=2) aJ i 1 C (.int .i64 (f i).2) (by rw[Tb.rowT_at];rfl);rw[Cd]at k0;have lgs:=ai.lt;have ca:=aA (Tb.cfA_step q G f l i);have cb:=aA (Tb.rowP_set G f l n i);have cd:=aA (bc.o i E);have ce:Hid (Tb.act G f l (i:Int)=Tb.cell G (f i) i (Lk.rl l i)):=aA rfl;have av:=aA E;have cu:(i:Int)<(n:Int):=by omega
   have bk:=aA (fun(x:World) (hx:Below base w x) (cs:List C5) (kb:Nat) (sh:Int×Int) (A:Option Addr) (c:Nat)=>bb.o x hx cs i kb sh A c E);have bl:=aA (fun(x:World) (hx:Below base w x)=>b8.o x hx i);clear C ai E hi;generalize f (i:Int)=sh at *;obtain⟨wi,aj⟩:∃y,y=wr.alloc (.cells #[.int .i64 sh.1,.int .i64 sh.2] 63):=⟨_,rfl⟩
   have ak:Hid (Below wr.heap.size wr wi):=aA (by rw[aj];exact(Aq _ _).alloc (Ad _) _);have F:Hid (wi.heap[wr.heap.size]?=some (.cells #[.int .i64 sh.1,.int .i64 sh.2] 63 (0,0))):=aA (by rw[aj];exact Az wr _);have bm:=aA (HT.o.below ak.o);have cf:=aA (HU.o.below ak.o HU.o.lt);have cg:=aA (HK.o.trans (.below ak.o));have bn:=aA (HW.o.trans (ak.o.mono (Ag b.o HW.o.size)));have ch:Hid (wr.heap.size≠R):=aA (by have:=HK.o.size;have:=b6.o;omega);have bo:Hid (w.heap.size<wr.heap.size):=aA HU.o.lt;go_upto_region 4 with fail
   rw[<-aj];clear aj k0 k1 lgs HT HU HK HW;have q0:=fun y:OnP [wr.heap.size] wi=>y.row (j:=0) (u:=.int .i64 sh.1) (by simp) F.o rfl;have q1:=fun y:OnP [wr.heap.size] wi=>y.row (j:=1) (u:=.int .i64 sh.2) (by simp) F.o rfl;have al:Hid (∀y:World,y.heap[wr.heap.size]?=wi.heap[wr.heap.size]?->∃z:OnP [wr.heap.size] wi,y=z.1):=aA (fun y e=>⟨⟨y,fun g hg=>by rw[AF]at hg;subst hg;exact e⟩,rfl⟩);have ci:=aA (al.o wi.drew rfl);refine CalmN.region_tree (fun x=>∃y:OnP [wr.heap.size] wi,x=y.1) (.one [0,1,2,3,4,5,6,7] 8 (.one [] 9 (.one [10] 11 (.fin [])))) (by kernel_rfl) (by kernel_rfl) (fun _ _ d _ _ h=>by cases d <;> exact h) ci.o ?_;simp only[CalmN.wpT,CalmN.wpSt,CalmN.pickOps,Am,Af,Ah];repeat (go_big_quiet_step (fail))
   refine Aj ?_;clear q0 q1;have HD:Hid (Below wi.heap.size wi wi.drew):=aA (aB (Aq _ _) 1);generalize wi.drew=wd at *;have bp:=aA (bm.o.below HD.o);have am:=aA (bn.o.trans (HD.o.mono (Ag b.o bn.o.size)));have ao:=aA (bl.o wd am.o);intro KK v;rw[Ap (by rfl)];go_wp2_with fail
   refine ao.o.mono ?_;rintro _ w6 ⟨u6,rfl,aw,ap⟩;obtain⟨A6,c6,rfl,_,_,_⟩:=aS.form aw;have bq:=aA (bp.o.below ap);have ax:=aA (am.o.trans (ap.mono (Ag b.o am.o.size)));have ab:=aA (HD.o.trans (ap.mono HD.o.size));have br:=aA aw;have ad:=aA (al.o w6 (ab.o.block _ (Ac.1 F.o).1));have bs:=aA (bk.o w6 ax.o _ _ sh A6 c6 bq.o br.o cd.o);clear ap aw ao bp am HD bl bk;generalize Lk.rl l (i:Int)=ks at *;go_wp2_with fail
   refine v _ _ ad.o _ (fun _ h=>h) ad.o ?_;clear v;repeat (go_big_quiet_step (fail))
   refine Aj ?_;intro KK v;rw[Ap (by rfl)];go_wp2_with fail
   refine bs.o.mono ?_;rintro _ w7 ⟨rfl,aq,bu,bv⟩;rw[<-ce.o]at aq ⊢;rw[BW,<-ca.o]at aq;have bw:=aA aq;have aa:KeepC R wi w7:=(KeepC.below ab.o).trans bu;have bx:=aA (cg.o.trans aa);have bz:=aA (ax.o.trans bv);have ay:=aA (aa.cells F.o ch.o (by decide));have ae:=aA (al.o w7 (ay.o.trans F.o.symm))
   have s:Hid (UBQ 63 prF w7 w.heap.size (Tb.rowP G f l n i)):=aA (by
    obtain⟨⟨vA,vG,vC,hb,_⟩,_⟩:=bm.o;exact aa.row hb cf.o (by decide) (by decide))
   clear aq bu bv aa bs ad bq ax br ab;generalize Tb.act G f l (i:Int)=ac at *;go_wp2_with fail
   refine v _ _ ae.o _ (fun _ h=>h) ae.o ?_;clear v;repeat (go_big_quiet_step (fail))
   refine Aj ?_;intro KK v;rw[Ap (by rfl)];have C:i<(Tb.rowP G f l n i).length:=by rw[Tb.rowP_len];exact av.o
   have s0:=s.o.cell (m:=2) aJ i 0 C _ rfl;rw[Cd]at s0;have s1:=s.o.cell (m:=2) aJ i 1 C _ rfl;have f0:=s.o.frozen (i*2);have f1:=s.o.frozen (i*2+1);have ls:=s.o.lt;have az:=aA (s.o.set2 aJ i ac.1 (.int .i64 ac.1.1) (.int .i64 ac.1.2) rfl);rw[cb.o]at az;have h8:=AP w7 w.heap.size (i*2) _ _ (.int .i64 ac.1.1) s.o;have bD:=aA ((bw.o.setCe s.o a5.o (i:=i*2) (.int .i64 ac.1.1)).setCe h8 a5.o (i:=i*2+1) (.int .i64 ac.1.2));have bM:=aA ((bx.o.setNew (p:=w.heap.size) (i:=i*2) (Ad _) (.int .i64 ac.1.1)).setNew (p:=w.heap.size) (i:=i*2+1) (Ad _) (.int .i64 ac.1.2));have bT:=aA ((bz.o.setCell (p:=⟨w.heap.size,i*2,none⟩) b.o (.int .i64 ac.1.1)).setCell (p:=⟨w.heap.size,i*2+1,none⟩) b.o (.int .i64 ac.1.2));have a0:=aA (al.o ((w7.setCell ⟨w.heap.size,i*2,none⟩ (.int .i64 ac.1.1)).setCell ⟨w.heap.size,i*2+1,none⟩ (.int .i64 ac.1.2)) (((AH _ ⟨w.heap.size,i*2+1,none⟩ _ wr.heap.size (by have:=bo.o;simp only;omega)).trans (AH w7 ⟨w.heap.size,i*2,none⟩ _ wr.heap.size (by have:=bo.o;simp only;omega))).trans (ay.o.trans F.o.symm)));generalize (Tb.rowP G f l n i)[i]=cc at s0 s1;clear C h8 s bw bx bz ay ae;go_wp2_with fail
   refine v _ _ a0.o _ (fun _ h=>h) a0.o ?_;clear v s0 s1 f0 f1 ls;refine Aj ?_;obtain⟨wk,bX⟩:∃y,y=(w7.setCell ⟨w.heap.size,i*2,none⟩ (.int .i64 ac.1.1)).setCell ⟨w.heap.size,i*2+1,none⟩ (.int .i64 ac.1.2):=⟨_,rfl⟩
   rw[<-bX]at az bD bM bT ⊢;clear bX a0;go_wp2;go_roundw
   case rel=>exact⟨i+1,av.o,by go_num,bD,az,bM,bT⟩
   case measure=>simp[intOf];have:=av.o;omega
  ·obtain rfl:i=n:=by omega
   rw[Tb.rowP_all]at HU;obtain⟨⟨vA,vG,vC,hb,hA,hG,hC⟩,cj,ck,hR,cl⟩:=HT.o;obtain⟨AA,cA,rfl,_,_,_⟩:=hA.form zao;have c4:=zdZ hb;have fR:=AD _ R 4 _ _ hb;have lR:=(Ac.1 hb).1;obtain⟨x,hx⟩:∃x:RW (Int×Int),x=(Tb.rowT i (fun t=>(Tb.act G f l t).1),some ⟨w.heap.size,0,none⟩,i):=⟨_,rfl⟩
   have cm:Hid (bL 63 2 prF wr base wr.heap.size x):=aA (by
    rw[hx];exact⟨by rw[Tb.rowT_len];exact Ad _,by simp only;omega,HU.o.rowG aJ b.o HU.o.lt⟩)
   have cn:Hid (x.1=Tb.rowT i (fun t=>(Tb.act G f l t).1)):=aA (by rw[hx]);have co:Hid (x.1.length=i):=aA (by rw[hx,Tb.rowT_len]);have bZ:Hid (x.2.1=some ⟨w.heap.size,0,none⟩/\x.2.2=i):=aA (by rw[hx];exact⟨rfl,rfl⟩);have a1:Hid (Below wr.heap.size wr (wr.alloc (.cells #[.slice (some ⟨w.heap.size,0,none⟩) i i] 64))):=aA ((Aq _ _).alloc (Ad _) _);have b0:=aA (hA.below a1.o (Ad _));have af:Hid (∀j u,(rwF x)[j]?=some u->(wr.alloc (.cells #[.slice (some ⟨w.heap.size,0,none⟩) i i] 64)).cell? ⟨wr.heap.size,j,none⟩=some u):=aA (zdo x i co.o _ _ _ (by rw[bZ.o.1,bZ.o.2];exact Az wr (.cells #[.slice (some ⟨w.heap.size,0,none⟩) i i] 64)));have b1:Hid (base<=(wr.alloc (.cells #[.slice (some ⟨w.heap.size,0,none⟩) i i] 64)).heap.size):=aA (Ag (Ag b.o HW.o.size) a1.o.size);have b3:=aA (fun(v5:Value) (w5:World) (h1:aK 64 1 rwF w5 base v5 (rows++[x])) (h2:(wr.alloc (.cells #[.slice (some ⟨w.heap.size,0,none⟩) i i] 64)).grownBy w5 (Value.slice AA rows.length cA).ownBlock)=>HT.o.pushA hb hA cm.o h1 h2);have ao:Hid (rows.length<=1000000):=aA (by have:=au.o;omega);clear hA hG hC cj ck hR cl hb hx E hi;go_wp2_with (at_builtin;refine zch (f:=rwF) rfl (.tmp 38) (.tmp 40) _ rfl Tryz.underlying30 _ 24 zkS (by decide) (by decide) (by decide) zao zgO base _ rows rfl b0.o _ _ x rfl af.o ao.o b1.o ?_;intro v5 w5 a2 b4;obtain⟨A5,c5,rfl,_,_,_⟩:=aK.form a2 zao;have D:=aA (b3.o _ _ a2 b4);have c5R:=zdZ D.o.2.2.2;have f5R:=AD _ R 4 _ _ D.o.2.2.2;have l5R:=(Ac.1 D.o.2.2.2).1;clear b4 a2 b3 c4 fR lR a1 b0 af b1;generalize (rows++[x]).length=ln at *)
   go_end0
   refine⟨rfl,⟨x,cn.o,D.o.1.moreN ?_ (Ad _)⟩,HW.o.trans D.o.2.2.1,HK.o.toB.trans D.o.2.1⟩;exact D.o.2.1.size
end Go.Proofs.YtjjbaehamplnaaaGreat
namespace Go.Proofs.YtjjbaehamplnaaaGreat
open Go.RowKit
theorem Lk.row_in {K:List (List Au.It)} {q:Nat} (ht:G.ts.length<=24) (hr:G.rs.length<=40) {x:Int×Int} (h:x∈Lk.lkRow G K E q):znb x/\0<=x.1/\x.1<G.rs.length:=by
 unfold Lk.lkRow at h;obtain⟨k,hk,e⟩:=List.mem_filterMap.1 h;have hk:=BF.1 hk;unfold Lk.lkAt at e;split at e
 ·obtain rfl:=DE e
  have:=Lk.laN_lt (G:=G) (E:=E) ht q (Lk.en G k)
  exact⟨⟨by unfold Gm.In;simp only;omega,by simp only;omega,by simp only;omega⟩,by simp only;omega,by simp only;omega⟩
 ·cases e
theorem Lk.row_len (G:Gm.Gr) (K:List (List Au.It)) (E:List (List (Int×Int))) (q:Nat):(Lk.lkRow G K E q).length<=G.rs.length:=by
 rw[<-Lk.lkPart_all];exact Lk.lkPart_len _ _ _ _ _
theorem Au.edge_syms {K:List (List Au.It)} (h:Au.Inv G K E) {q:Nat} (hq:q<E.length):(E[q].map (·.1)).Nodup/\∀e∈E[q],e.1<G.ts.length/\-1-e.1<G.ns.length:=by
 have e:=(h.ed q hq).1;refine⟨by rw[e];exact(Au.syms_nodup G).filter _,fun x hx=>?_⟩;have hm:x.1∈E[q].map (·.1):=Bi.2 ⟨x,hx,rfl⟩;rw[e]at hm;exact Gm.has_iff.1 (Au.syms_mem.1 (B7.1 hm).1)
namespace Tb
section
variable (G:Gm.Gr) (K:List (List Au.It)) (E:List (List (Int×Int)))
noncomputable def rowQ (q:Nat):List Ce:=rowT (G.ts.length+1) fun t=>(act G (shift G (K.getD q []) (E.getD q [])) (Lk.lkRow G K E q) t).1
def gotQ (q:Nat):List Int:=rowT G.ns.length (gtP (E.getD q []))
noncomputable def cfQ (q:Nat):List C5:=cfA q G (shift G (K.getD q []) (E.getD q [])) (Lk.lkRow G K E q) (G.ts.length+1)
noncomputable def cfP (n:Nat):List C5:=(List.range n).flatMap (cfQ G K E)
theorem cfP_step (n:Nat):cfP G K E (n+1)=cfP G K E n++cfQ G K E n:=by
 unfold cfP;rw[Cp,BX,Cc]
theorem cfP_len (hT:G.ts.length<=24) (hR:G.rs.length<=40) (n:Nat):(cfP G K E n).length<=n*1000:=by
 induction n with
 | zero=>simp[cfP]
 | succ n ih =>
  rw[cfP_step,AU];have h1:=cfA_len n G (shift G (K.getD n []) (E.getD n [])) (Lk.lkRow G K E n) (Ag (Lk.row_len G K E n) hR) (G.ts.length+1);unfold cfQ;omega
end
noncomputable def actS (G:Gm.Gr):List (List Ce):=if Gm.isB G=true then(match Au.bld G with|some p=>(List.range p.1.length).map (rowQ G p.1 p.2)|none=>[]) else []
noncomputable def gotS (G:Gm.Gr):List (List Int):=if Gm.isB G=true then(match Au.bld G with|some p=>(List.range p.1.length).map (gotQ G p.2)|none=>[]) else []
noncomputable def cfS (G:Gm.Gr):List C5:=if Gm.isB G=true then(match Au.bld G with|some p=>cfP G p.1 p.2 p.1.length|none=>[]) else []
theorem tab_no (h:Gm.isB G=false):actS G=[]/\gotS G=[]/\cfS G=[]:=by unfold actS gotS cfS;rw[h];exact⟨rfl,rfl,rfl⟩
theorem tab_many (h:Gm.isB G=true) (k:Au.bld G=none):actS G=[]/\gotS G=[]/\cfS G=[]:=by unfold actS gotS cfS;rw[h,k];exact⟨rfl,rfl,rfl⟩
theorem tab_ok {K:List (List Au.It)} (h:Gm.isB G=true) (k:Au.bld G=some (K,E)):actS G=(List.range K.length).map (rowQ G K E)/\gotS G=(List.range K.length).map (gotQ G E)/\cfS G=cfP G K E K.length:=by unfold actS gotS cfS;rw[h,k];exact⟨rfl,rfl,rfl⟩
end Tb
theorem aK.rdM {α:Type} {f:α->List Value} {T T2:TypeId} {c:Nat} {rs:List (RW α)} (h:aK T 1 rwF w base (.slice A n c) rs) (hr:∀r∈rs,bL T2 m f w base N r) (hN:N<=w.heap.size):RdM m f w w.heap.size A (rs.map (·.1)):=by
 obtain⟨A',c',e,_,_,hq⟩:=h.form zao;injection e with e1 _ _;subst e1;intro hn;rw[Bb]at hn;obtain⟨g,o,rfl,hg,hc⟩:=hq hn;refine⟨g,o,rfl,hg,fun i hi=>?_⟩;rw[Bb]at hi;have h1:=hc i hi 0 _ rfl;have h2:=(hr _ (Ay hi)).more hN;simp only[C3];refine⟨rs[i].2.1,rs[i].2.2,?_,h2.1,h2.2.1,h2.2.2.rd⟩;rw[Dd,Cd]at h1;exact h1
def zfx (w:World) (B:Nat) (v:Value) (as_:List (List Tb.Ce)) (gs:List (List Int)):Prop :=
 ∃AA cA AG cG,v=.agg #[.slice AA as_.length cA,.slice AG gs.length cG]/\as_.length<=cA/\cA<=9223372036854775807/\gs.length<=cG/\cG<=9223372036854775807/\RdM 2 prF w B AA as_/\RdM 1 inF w B AG gs
theorem zfx.below {w w':World} {B B':Nat} {v:Value} {as_:List (List Tb.Ce)} {gs:List (List Int)} (h:zfx w B v as_ gs) (hb:Below B' w w') (hB:B<=B'):zfx w' B v as_ gs:=by
 obtain⟨AA,cA,AG,cG,e,h1,h2,h3,h4,h5,h6⟩:=h;exact⟨AA,cA,AG,cG,e,h1,h2,h3,h4,h5.below hb hB,h6.below hb hB⟩
theorem zfx.more {w:World} {B B':Nat} {v:Value} {as_:List (List Tb.Ce)} {gs:List (List Int)} (h:zfx w B v as_ gs) (hB:B<=B'):zfx w B' v as_ gs:=by
 obtain⟨AA,cA,AG,cG,e,h1,h2,h3,h4,h5,h6⟩:=h;exact⟨AA,cA,AG,cG,e,h1,h2,h3,h4,h5.more hB,h6.more hB⟩
def zlo (G:Gm.Gr) (w:World) (e:Ending) (w':World):Prop :=
 ∃v AC cC,e=.returned (.tuple #[v,.slice AC (Tb.cfS G).length cC,.int .i64 (Au.bldE G)])/\zfx w' w'.heap.size v (Tb.actS G) (Tb.gotS G)/\(Tb.cfS G).length<=cC/\cC<=9223372036854775807/\RdQ 5 cfF w' w'.heap.size AC (Tb.cfS G)/\Below w.heap.size w w'
theorem zlo.nil {G:Gm.Gr} {w w':World} {er:Int} (h:Au.bldE G=er) (h2:Tb.actS G=[]/\Tb.gotS G=[]/\Tb.cfS G=[]) (hb:Below w.heap.size w w'):zlo G w (.returned (.tuple #[.agg #[.slice none 0 0,.slice none 0 0],.slice none 0 0,.int .i64 er])) w':=by
 obtain⟨h2,h3,h4⟩:=h2;refine⟨_,none,0,?_,⟨none,0,none,0,rfl,?_⟩,?_,by omega,?_,hb⟩
 ·rw[h,h2,h3,h4];rfl
 ·rw[h2,h3];exact⟨Ad _,by omega,Ad _,by omega,RdM.nil _ _ _,RdM.nil _ _ _⟩
 ·rw[h4];exact Ad _
 ·rw[h4];exact fun h=>absurd rfl h
theorem TBd.start (w:World) (g0 g1 g2 g3:Value):TBd (w.alloc (.cells (tbC g0 g1 g2 g3 (.slice none 0 0) (.slice none 0 0) (.slice none 0 0)) 77)) w.heap.size w.heap.size w.heap.size g0 g1 g2 g3 [] [] [] :=
 ⟨⟨_,_,_,Az w _,aK.nil _ _,aK.nil _ _,aK.nil _ _⟩,by simp,by simp,Ad _,by simp⟩
end Go.Proofs.YtjjbaehamplnaaaGreat
namespace Go.Proofs.YtjjbaehamplnaaaGreat
open Go.RowKit
namespace Tb
def ceOk (G:Gm.Gr) (n:Nat) (x:Ce):Bool:=if x.1=0\/x.1=3 then x.2==0 else if x.1=1 then decide (0<=x.2)&&decide (x.2<n) else if x.1=2 then decide (0<=x.2)&&decide (x.2<G.rs.length) else false
def toOk (n:Nat) (z:Int):Bool:=z == -1||(decide (0<=z)&&decide (z<n))
def arOk (G:Gm.Gr) (n:Nat) (r:List Ce):Bool:=decide (r.length=G.ts.length+1)&&r.all (ceOk G n)
def grOk (G:Gm.Gr) (n:Nat) (r:List Int):Bool:=decide (r.length=G.ns.length)&&r.all (toOk n)
end Tb
theorem zgy (v:Value) (G:Gm.Gr) (B n:Nat) (x:Tb.Ce) (w:World) (hg:aQ w B v G) :
  Calls Tryz.prog 71 #[v,.int .i64 n,.agg #[.int .i64 x.1,.int .i64 x.2]] w fun e w'=>e=.returned (.bool (Tb.ceOk G n x))/\Below w.heap.size w w':=by
 have HX:=aA (fun m w=>zaL x.2 m w);obtain⟨AT,cT,AN,cN,AR,cR,rfl,_⟩:=hg;have d:=aA (aW.start 26 63 w #[.slice AT G.ts.length cT,.slice AN G.ns.length cN,.slice AR G.rs.length cR,.int .i64 G.st] #[.int .i64 x.1,.int .i64 x.2]);have x2:=d.o.c1 2 _ rfl;have y0:=d.o.c2 0 _ rfl;have y1:=d.o.c2 1 _ rfl;have HC:Hid (Tb.ceOk G n x=if x.1=0\/x.1=3 then x.2==0 else if x.1=1 then decide (0<=x.2)&&decide (x.2<n) else if x.1=2 then decide (0<=x.2)&&decide (x.2<G.rs.length) else false):=aA rfl;generalize Tb.ceOk G n x=r at *;obtain⟨a,b⟩:=x;simp only at HC HX x2 y0 y1 d ⊢;by_cases h0:a=0
 ·have HE:=aA (HC.o.trans (Ap (.inl h0)));subst h0
  go_enter Tryz.func71,Tryz.ntmps71
  go_wp2;go_ret
  exact⟨aD HE.o.symm,d.o.below⟩
 ·by_cases h3:a=3
  ·have HE:=aA (HC.o.trans (Ap (.inr h3)));subst h3
   go_enter Tryz.func71,Tryz.ntmps71
   go_wp2;go_ret
   exact⟨aD HE.o.symm,d.o.below⟩
  ·have HC:=aA (HC.o.trans (AB (by omega)));by_cases h1:a=1
   ·have HE:=aA (HC.o.trans (Ap h1));subst h1;clear h0 h3
    go_enter Tryz.func71,Tryz.ntmps71
    go_wp2_with fail
    refine(HX.o _ _).mono ?_;rintro _ _ ⟨rfl,rfl⟩;go_wp2;go_ret
    exact⟨aD HE.o.symm,d.o.below⟩
   ·have HC:=aA (HC.o.trans (AB h1));by_cases h2:a=2
    ·have HE:=aA (HC.o.trans (Ap h2));subst h2;clear h0 h3 h1
     go_enter Tryz.func71,Tryz.ntmps71
     go_wp2_with fail
     refine(HX.o _ _).mono ?_;rintro _ _ ⟨rfl,rfl⟩;go_wp2;go_ret
     exact⟨aD HE.o.symm,d.o.below⟩
    ·have HE:=aA (HC.o.trans (AB h2));have b0:(a==0)=false:=by simpa using h0
     have b1:(a==1)=false:=by simpa using h1
     have b2:(a==2)=false:=by simpa using h2
     have b3:(a==3)=false:=by simpa using h3
     clear h0 h1 h2 h3
     go_enter Tryz.func71,Tryz.ntmps71
     go_wp2;go_ret
     exact⟨aD HE.o.symm,d.o.below⟩
theorem zie {l:List Tb.Ce} {p:Tb.Ce->Bool} (h:k<l.length):(l.take (k+1)).any p=((l.take k).any p||p l[k]):=by
 rw[AO h,List.any_append];simp
theorem zeu (fb:Nat) (c1 c2:Value) (hE:∀args w,Sem.run Tryz.prog (callFunc fb args) w=.ok (.enter fb args) w) (l:List Tb.Ce) (p:Tb.Ce->Bool) (A:Option Addr) (c B:Nat) (w:World) (hr:RdQ 2 prF w B A l) (hB:B<=w.heap.size) (hl:l.length<=9223372036854775807) (hp:∀y z,Below w.heap.size w y->z∈l->Calls Tryz.prog fb #[.agg #[.int .i64 z.1,.int .i64 z.2],c1,c2] y fun e w'=>e=.returned (.bool (p z))/\Below y.heap.size y w') :
  Calls Tryz.prog 106 #[.slice A l.length c,.func (Fn.func fb) #[] #[c1,c2]] w fun e w'=>(∃k:Int,e=.returned (.int .i64 k)/\decide (0<=k)=l.any p)/\Below w.heap.size w w':=by
 have HR:=aA hr;have HB:=aA hB;have HP:=aA hp;have ad:(l.length:Int)<=9223372036854775807:=by omega
 clear hr hp hB hl
 go_enter Tryz.func106,Tryz.ntmps106
 go_wp2;go_loopw [8] (fun vi wr=>∃k:Nat,k<=l.length/\vi=.int .i64 k/\Hid ((l.take k).any p=false)/\Hid (Below w.heap.size w wr)) (fun vi _=>l.length-(intOf vi).toNat)
 case atStart=>exact⟨0,AX _,rfl,aA (by simp),aA (Aq _ _)⟩
 case round =>
  obtain⟨k,hk,rfl,HK,HW⟩:=hrel;by_cases b:k<l.length
  ·obtain⟨g,o,rfl,ac,hc⟩:=HR.o (by omega);have k0:=(HW.o.cell (p:=⟨g,o+k*2+0,none⟩) (Ao ac HB.o)).trans (hc k b 0 (.int .i64 (l[k]).1) rfl);have k1:=(HW.o.cell (p:=⟨g,o+k*2+1,none⟩) (Ao ac HB.o)).trans (hc k b 1 (.int .i64 (l[k]).2) rfl);rw[Cd]at k0;have aa:=aA (HP.o wr _ HW.o (Ay b));have HN:=aA (zie (p:=p) b);have HY:=aA (fun h:p l[k]=true=>(DS.2 ⟨_,Ay b,h⟩:l.any p=true));clear hc;generalize l[k]=z at *;cases hz:p z
   ·rw[hz]at aa HN;have HX:=aA (HN.o.trans (by rw[HK.o]));clear hz HN HY;go_wp2_with fail
    refine aa.o.mono ?_;rintro _ w2 ⟨rfl,hb⟩;have ab:=aA (HW.o.trans (hb.mono HW.o.size));clear hb k0 k1;go_wp2;go_roundw
    case rel=>exact⟨k+1,b,by go_num,HX,ab⟩
    case measure=>simp[intOf];omega
   ·rw[hz]at aa;have HX:=aA (HY.o hz);clear hz HN HY;go_wp2_with fail
    refine aa.o.mono ?_;rintro _ w2 ⟨rfl,hb⟩;have ab:=aA (HW.o.trans (hb.mono HW.o.size));clear hb k0 k1;go_wp2;go_ret
    exact⟨⟨_,rfl,by rw[HX.o,AJ (by omega)]⟩,ab.o⟩
  ·obtain rfl:k=l.length:=by omega
   rw[Bo]at HK;go_wp2;go_ret
   exact⟨⟨_,rfl,by rw[HK.o];rfl⟩,HW.o⟩
theorem zcq (fb:Nat) (c1 c2:Value) (hE:∀args w,Sem.run Tryz.prog (callFunc fb args) w=.ok (.enter fb args) w) (l:List Tb.Ce) (p:Tb.Ce->Bool) (A:Option Addr) (c B:Nat) (w:World) (hr:RdQ 2 prF w B A l) (hB:B<=w.heap.size) (hl:l.length<=9223372036854775807) (hp:∀y z,Below w.heap.size w y->z∈l->Calls Tryz.prog fb #[.agg #[.int .i64 z.1,.int .i64 z.2],c1,c2] y fun e w'=>e=.returned (.bool (p z))/\Below y.heap.size y w') :
  Calls Tryz.prog 69 #[.slice A l.length c,.func (Fn.func fb) #[] #[c1,c2]] w fun e w'=>e=.returned (.bool (l.any p))/\Below w.heap.size w w':=by
 have H:=aA (zeu fb c1 c2 hE l p A c B w hr hB hl hp);clear hr hB hl hp
 go_enter Tryz.func69,Tryz.ntmps69
 go_wp2_with fail
 refine H.o.mono ?_;rintro _ w2 ⟨⟨k,rfl,hk⟩,hb⟩;have HK:=aA hk;have HB:=aA hb;clear hk hb;go_wp2;go_ret
 exact⟨aD HK.o,HB.o⟩
theorem zgz (G:Gm.Gr) (B n:Nat) (z:Tb.Ce) (a:Array Value) (w y:World) (hg:aQ y B (.agg a) G) (hB:B<=y.heap.size) (ho:aW 26 3 w a #[.int .i64 n] y) :
  Calls Tryz.prog 70 #[.agg #[.int .i64 z.1,.int .i64 z.2],.pointer (some ⟨w.heap.size,0,none⟩),.pointer (some ⟨w.heap.size+1,0,none⟩)] y fun e w'=>e=.returned (.bool (!Tb.ceOk G n z))/\Below y.heap.size y w':=by
 have b:=aA (bA.start 63 y #[.int .i64 z.1,.int .i64 z.2]);have H:=aA (zgy (.agg a) G B n z _ (hg.below b.o.below hB));obtain⟨AT,cT,AN,cN,AR,cR,hv,_⟩:=hg;injection hv with hv;subst hv;have q0:=(ho.on b.o.below).c1 0 _ rfl;have q1:=(ho.on b.o.below).c1 1 _ rfl;have q2:=(ho.on b.o.below).c1 2 _ rfl;have q3:=(ho.on b.o.below).c1 3 _ rfl;have q4:=(ho.on b.o.below).c2 0 _ rfl;have z0:=b.o.c 0 _ rfl;have z1:=b.o.c 1 _ rfl;have hs:w.heap.size+2<=y.heap.size:=ho.size;clear ho
 go_enter Tryz.func70,Tryz.ntmps70
 go_wp2_with fail
 refine H.o.mono ?_;rintro _ w2 ⟨rfl,hb⟩;have HB:=aA (b.o.on hb);clear hb z0 z1 q0 q1 q2 q3 q4;go_wp2;go_ret
 exact⟨rfl,HB.o.below⟩
theorem zgv (n gb:Nat) (z:Int) (w:World) (hb:w.cell? ⟨gb,0,none⟩=some (.int .i64 n)) :
  Calls Tryz.prog 73 #[.int .i64 z,.pointer (some ⟨gb,0,none⟩)] w fun e w'=>e=.returned (.bool (!Tb.toOk n z))/\Below w.heap.size w w':=by
 have HX:=aA (fun w=>zaL z n w);have HC:Hid (Tb.toOk n z=(z == -1||(decide (0<=z)&&decide (z<n)))):=aA rfl;have lb:=Bd hb;generalize Tb.toOk n z=r at *;by_cases h1:z = -1
 ·have HE:Hid (r=true):=aA (by rw[HC.o,h1];rfl);subst h1
  go_enter Tryz.func73,Tryz.ntmps73
  go_wp2;go_ret
  exact⟨aD (by rw[HE.o];rfl),Aq _ _⟩
 ·have b1:(z == -1)=false:=by simpa using h1
  have b2:(z != -1)=true:=by simpa using h1
  have HE:Hid (r=(decide (0<=z)&&decide (z<n))):=aA (by rw[HC.o,b1];rfl);clear h1
  go_enter Tryz.func73,Tryz.ntmps73
  go_wp2_with fail
  refine(HX.o _).mono ?_;rintro _ _ ⟨rfl,rfl⟩;go_wp2;go_ret
  exact⟨aD (by rw[HE.o,Bool.not_and]),Aq _ _⟩
theorem zgA (v:Value) (G:Gm.Gr) (B BR n:Nat) (r:List Tb.Ce) (A:Option Addr) (c:Nat) (w:World) (hg:aQ w B v G) (hB:B<=w.heap.size) (hr:RdQ 2 prF w BR A r) (aa:BR<=w.heap.size) (hl:r.length<=9223372036854775807) (hT:G.ts.length<=24) :
  Calls Tryz.prog 36 #[v,.int .i64 n,.slice A r.length c] w fun e w'=>e=.returned (.bool (Tb.arOk G n r))/\Below w.heap.size w w':=by
 have ac:=aA (fun(x:World) (h:Below w.heap.size w x)=>hg.below h hB);have ad:=aA hB;obtain⟨AT,cT,AN,cN,AR,cR,rfl,_⟩:=hg;have b:=aA (aW.start 26 3 w #[.slice AT G.ts.length cT,.slice AN G.ns.length cN,.slice AR G.rs.length cR,.int .i64 G.st] #[.int .i64 n]);have x0:=b.o.c1 0 _ rfl;have ag:(G.ts.length:Int)<=24:=by omega
 have ah:(r.length:Int)<=9223372036854775807:=by omega
 have HF:=aA (zcq 70 (.pointer (some ⟨w.heap.size,0,none⟩)) (.pointer (some ⟨w.heap.size+1,0,none⟩)) (zaI Tryz.func70 (by kernel_rfl) (by kernel_rfl)) r (fun z=>!Tb.ceOk G n z) A c BR _ (hr.below b.o.below aa) (Ag aa b.o.below.size) hl
  (fun y z hy _=>zgz G B n z _ w y (ac.o y (b.o.below.trans (hy.mono (by have:=b.o.size;omega)))) (Ag ad.o (Ag b.o.below.size hy.size)) (b.o.on hy)))
 have ab:r.any (fun z=>!Tb.ceOk G n z) = !r.all (Tb.ceOk G n):=by rw[EE];simp
 rw[ab]at HF;have HC:Hid (Tb.arOk G n r=(decide (r.length=G.ts.length+1)&&r.all (Tb.ceOk G n))):=aA rfl;generalize r.all (Tb.ceOk G n)=bb at *;generalize Tb.arOk G n r=res at *;clear hr aa hl hB ab hT;by_cases h:r.length=G.ts.length+1
 ·have HE:Hid (res=bb):=aA (by rw[HC.o,AJ h,Cj]);have ae:((r.length:Int)==(G.ts.length:Int)+1)=true:=by rw[BH];omega
  clear h;generalize r.length=rn at *
  go_enter Tryz.func36,Tryz.ntmps36
  go_wp2_with fail
  refine HF.o.mono ?_;rintro _ w2 ⟨rfl,hb⟩;have af:=aA (b.o.on hb);clear hb x0;go_wp2;go_ret
  exact⟨aD HE.o.symm,af.o.below⟩
 ·have HE:Hid (res=false):=aA (by rw[HC.o,AM h,C9]);have ae:((r.length:Int)==(G.ts.length:Int)+1)=false:=by rw[AY];omega
  clear h;generalize r.length=rn at *
  go_enter Tryz.func36,Tryz.ntmps36
  go_wp2;go_ret
  exact⟨aD HE.o.symm,b.o.below⟩
theorem RdQ.toI (h:RdQ 1 inF w B A l):RdI w B A l:=fun hn=>by
 obtain⟨g,o,rfl,hg,hc⟩:=h hn;refine⟨g,o,rfl,hg,fun j hj=>?_⟩
 have:=hc j hj 0 _ rfl
 rw[Dd,Cd]at this;rw[L.gd_lt hj];exact this
theorem zgw (v:Value) (G:Gm.Gr) (B BR n:Nat) (r:List Int) (A:Option Addr) (c:Nat) (w:World) (hg:aQ w B v G) (hr:RdI w BR A r) (aa:BR<=w.heap.size) (hl:r.length<=9223372036854775807) :
  Calls Tryz.prog 37 #[v,.int .i64 n,.slice A r.length c] w fun e w'=>e=.returned (.bool (Tb.grOk G n r))/\Below w.heap.size w w':=by
 obtain⟨AT,cT,AN,cN,AR,cR,rfl,_⟩:=hg;have b:=aA (aW.start 26 3 w #[.slice AT G.ts.length cT,.slice AN G.ns.length cN,.slice AR G.rs.length cR,.int .i64 G.st] #[.int .i64 n]);have x1:=b.o.c1 1 _ rfl
 have HF:=aA (zaX 73 (.pointer (some ⟨w.heap.size+1,0,none⟩)) (zaI Tryz.func73 (by kernel_rfl) (by kernel_rfl)) r (fun z=>!Tb.toOk n z) A c BR _ (hr.below b.o.below aa) (Ag aa b.o.below.size) hl
  (fun y z hy _=>zgv n (w.heap.size+1) z y ((b.o.on hy).c2 0 _ rfl)))
 have ab:r.any (fun z=>!Tb.toOk n z) = !r.all (Tb.toOk n):=by rw[EE];simp
 rw[ab]at HF;have HC:Hid (Tb.grOk G n r=(decide (r.length=G.ns.length)&&r.all (Tb.toOk n))):=aA rfl;generalize r.all (Tb.toOk n)=bb at *;generalize Tb.grOk G n r=res at *;clear hr aa hl ab;by_cases h:r.length=G.ns.length
 ·have HE:Hid (res=bb):=aA (by rw[HC.o,AJ h,Cj]);have ac:((r.length:Int)==(G.ns.length:Int))=true:=by rw[BH];omega
  clear h;generalize r.length=rn at *
  go_enter Tryz.func37,Tryz.ntmps37
  go_wp2_with fail
  refine HF.o.mono ?_;rintro _ w2 ⟨rfl,hb⟩;have ad:=aA (b.o.on hb);clear hb x1;go_wp2;go_ret
  exact⟨aD HE.o.symm,ad.o.below⟩
 ·have HE:Hid (res=false):=aA (by rw[HC.o,AM h,C9]);have ac:((r.length:Int)==(G.ns.length:Int))=false:=by rw[AY];omega
  clear h;generalize r.length=rn at *
  go_enter Tryz.func37,Tryz.ntmps37
  go_wp2;go_ret
  exact⟨aD HE.o.symm,b.o.below⟩
namespace Tb
def rwOk (G:Gm.Gr) (rs:List (List Ce)) (gs:List (List Int)) (i:Nat):Bool:=arOk G rs.length (rs.getD i [])&&grOk G rs.length (gs.getD i [])
def may (G:Gm.Gr) (rs:List (List Ce)) (gs:List (List Int)):Bool:=Gm.right G&&decide (rs.length=gs.length)&&decide (1<=rs.length)&&decide (rs.length<=300)&&(List.range rs.length).all (rwOk G rs gs)
theorem may_no {rs:List (List Ce)} (h:¬(Gm.right G=true/\rs.length=gs.length/\1<=rs.length/\rs.length<=300)):may G rs gs=false:=by
 unfold may;cases hq:(Gm.right G&&decide (rs.length=gs.length)&&decide (1<=rs.length)&&decide (rs.length<=300))
 ·rw[C9]
 ·simp only[AQ,AV]at hq;exact absurd ⟨hq.1.1.1,hq.1.1.2,hq.1.2,hq.2⟩ h
theorem may_in {rs:List (List Ce)} (h:Gm.right G=true/\rs.length=gs.length/\1<=rs.length/\rs.length<=300):may G rs gs=(List.range rs.length).all (rwOk G rs gs):=by
 unfold may;rw[h.1,AJ h.2.1,AJ h.2.2.1,AJ h.2.2.2];rfl
theorem all_step (p:Nat->Bool) (i:Nat):(List.range (i+1)).all p=((List.range i).all p&&p i):=by
 rw[Cp,List.all_append];simp
theorem all_not {p:Nat->Bool} (hi:i<n) (h:p i=false):(List.range n).all p=false:=by
 rw[DH];exact⟨i,BF.2 hi,by rw[h];decide⟩
end Tb
theorem zcu (v:Value) (G:Gm.Gr) (B BT:Nat) (vt:Value) (rs:List (List Tb.Ce)) (gs:List (List Int)) (w:World) (hg:aQ w B v G) (hf:Gm.Fit G) (hB:B<=w.heap.size) (ht:zfx w BT vt rs gs) (k:BT<=w.heap.size) (a3:rs.length<=9223372036854775807/\gs.length<=9223372036854775807) (ae:∀r∈rs,r.length<=9223372036854775807) (af:∀r∈gs,r.length<=9223372036854775807) :
  Calls Tryz.prog 17 #[v,vt] w fun e w'=>e=.returned (.bool (Tb.may G rs gs))/\Below w.heap.size w w':=by
 have H1:=aA (fun(x:World) (h:Below w.heap.size w x)=>zaq v G B x (hg.below h hB) hf (Ag hB h.size));have a4:=aA hg;have bp:=aA hB;have ao:=aA k;have a5:=aA ae;have a6:=aA af;have a9:(rs.length:Int)<=9223372036854775807:=by omega
 have bb:(gs.length:Int)<=9223372036854775807:=by omega
 obtain⟨AA,cA,AG,cG,rfl,_,_,_,_,ap,aq⟩:=ht;have ar:=aA ap;have au:=aA aq;have s:=aA (fun(q:Gm.right G=true) (x:World) (h:Below w.heap.size w x) (r:List Tb.Ce) (A:Option Addr) (c:Nat) (hr:RdQ 2 prF w BT A r) (ag:r∈rs)=>zgA v G B BT rs.length r A c x (hg.below h hB) (Ag hB h.size) (hr.below h k) (Ag k h.size) (ae r ag) ((Gm.terms_iff G.ts).1 (Gm.right_ok.1 q).t).1);have ah:=aA (fun(x:World) (h:Below w.heap.size w x) (r:List Int) (A:Option Addr) (c:Nat) (hr:RdQ 1 inF w BT A r) (ag:r∈gs)=>zgw v G B BT rs.length r A c x (hg.below h hB) (hr.below h k).toI (Ag k h.size) (af r ag));obtain⟨AT,cT,AN,cN,AR,cR,rfl,_⟩:=hg;obtain⟨w1,l⟩:∃y,y=(w.alloc (.cells #[.slice AT G.ts.length cT,.slice AN G.ns.length cN,.slice AR G.rs.length cR,.int .i64 G.st] 26)).alloc (.cells #[.slice AA rs.length cA,.slice AG gs.length cG] 33):=⟨_,rfl⟩
 have b:Hid (aW 26 33 w #[.slice AT G.ts.length cT,.slice AN G.ns.length cN,.slice AR G.rs.length cR,.int .i64 G.st] #[.slice AA rs.length cA,.slice AG gs.length cG] w1):=aA (by rw[l];exact aW.start _ _ _ _ _);have x0:=b.o.c1 0 _ rfl;have x1:=b.o.c1 1 _ rfl;have x2:=b.o.c1 2 _ rfl;have x3:=b.o.c1 3 _ rfl;have y0:=b.o.c2 0 _ rfl;have u:=aA (H1.o w1 b.o.below);clear ap aq hf hB k a3 ae af H1 a4;by_cases m:Gm.right G=true/\rs.length=gs.length/\1<=rs.length/\rs.length<=300
 ·have aa:=aA (Tb.may_in m);rw[aa.o];obtain⟨q,ab,ai,aj⟩:=m;have s:=aA (s.o q);rw[q]at u;have bc:=aA ab;have HQ:=aA (BJ ai aj);obtain⟨n,hn⟩:∃n,rs.length=n:=⟨_,rfl⟩
  rw[<-ab]at b;rw[hn]at b s ah HQ aa y0;have HN:=aA hn;have ai:=HQ.o.1;have aj:=HQ.o.2;have bd:((n:Int) != (n:Int))=false:=by simp
  have bf:(1:Int)<=(n:Int):=by omega
  have bq:(n:Int)<=300:=by omega
  rw[hn];clear q bb a9 hn
  go_enter Tryz.func17,Tryz.ntmps17
  go_upto_region 1 with fail
  rw[<-ab,HN.o]at l ⊢;rw[<-l];clear l ab;go_wp2_with fail
  refine u.o.mono ?_;rintro _ w2 ⟨rfl,hb⟩;have j:=aA (b.o.on hb);clear hb x0 x1 x2 x3 y0;have y1:=j.o.c2 1 _ rfl;go_wp2;clear y1 bd bf ai aj u b;go_loopw [29] (fun vi wr=>∃i:Nat,i<=n/\vi=.int .i64 i/\Hid ((List.range i).all (Tb.rwOk G rs gs)=true)/\Hid (aW 26 33 w #[.slice AT G.ts.length cT,.slice AN G.ns.length cN,.slice AR G.rs.length cR,.int .i64 G.st] #[.slice AA n cA,.slice AG n cG] wr)) (fun vi _=>n-(intOf vi).toNat)
  case atStart=>exact⟨0,AX _,rfl,aA rfl,j⟩
  case round =>
   clear j;obtain⟨i,hi,rfl,HA,HW⟩:=hrel;rename World=>wr;by_cases ak:i<n
   ·have ac:i<rs.length:=by have:=HN.o;omega
    have ad:i<gs.length:=by have:=bc.o;omega
    obtain⟨gA,oA,rfl,bh,av⟩:=ar.o (by omega);obtain⟨A1,c1,k1,-,-,r1⟩:=av i ac;obtain⟨gG,oG,rfl,bi,aw⟩:=au.o (by omega);obtain⟨A2,c2,k2,-,-,r2⟩:=aw i ad;have e1:rs.getD i []=rs[i]:=by rw[Ai,Ar ac];rfl
    have e2:gs.getD i []=gs[i]:=by rw[Ai,Ar ad];rfl
    have al:Hid (Tb.rwOk G rs gs i=(Tb.arOk G n rs[i]&&Tb.grOk G n gs[i])):=aA (by unfold Tb.rwOk;rw[e1,e2,HN.o]);have bj:=aA (fun(x:World) (h:Below w.heap.size w x)=>s.o x h _ A1 c1 r1 (Ay ac));have bk:=aA (fun(x:World) (h:Below w.heap.size w x)=>ah.o x h _ A2 c2 r2 (Ay ad));have bl:=aA (Tb.all_step (Tb.rwOk G rs gs) i);have ax:=aA (fun h=>Tb.all_not (p:=Tb.rwOk G rs gs) ak h);have ay:=aA ak;have br:(i:Int)<(n:Int):=by omega
    clear e1 e2 av aw r1 r2;generalize rs[i]=ra at *;generalize gs[i]=rg at *;generalize Tb.arOk G n ra=ba at *;generalize Tb.grOk G n rg=bg at *;clear ac ad ak;have q0:=fun y:Calm.On wr.heap.size wr=>(HW.o.on y.2).c1 0 _ rfl;have q1:=fun y:Calm.On wr.heap.size wr=>(HW.o.on y.2).c1 1 _ rfl;have q2:=fun y:Calm.On wr.heap.size wr=>(HW.o.on y.2).c1 2 _ rfl;have q3:=fun y:Calm.On wr.heap.size wr=>(HW.o.on y.2).c1 3 _ rfl;have p0:=fun y:Calm.On wr.heap.size wr=>(HW.o.on y.2).c2 0 _ rfl;have p1:=fun y:Calm.On wr.heap.size wr=>(HW.o.on y.2).c2 1 _ rfl;have m1:=fun y:Calm.On wr.heap.size wr=>((HW.o.on y.2).below.cell (p:=⟨gA,oA+i,none⟩) (Ao bh ao.o)).trans k1;have m2:=fun y:Calm.On wr.heap.size wr=>((HW.o.on y.2).below.cell (p:=⟨gG,oG+i,none⟩) (Ao bi ao.o)).trans k2;have HD:Hid (Below wr.heap.size wr wr.drew):=aA (aB (Aq _ _) 1);go_upto_region 7 with fail
    refine CalmN.region_tree (fun x=>∃y:Calm.On wr.heap.size wr,x=y.1) (.one [0,1,2,3,4,5,6] 7 (.one [8,9,10,11,12,13,14,15,16] 17 (.fin [18,19]))) (by kernel_rfl) (by kernel_rfl) (fun _ _ d _ _ h=>by cases d <;> exact h) ⟨⟨wr.drew,HD.o⟩,rfl⟩ ?_;simp only[CalmN.wpT,CalmN.wpSt,CalmN.pickOps,Am,Af,Ah];repeat (go_big_quiet_step (fail))
    refine Aj ?_;generalize wr.drew=wd at *;have bm:=aA (HW.o.on HD.o);intro KK f;rw[Ap (by rfl)];clear k1 k2;go_wp2_with fail
    refine(bj.o wd bm.o.below).mono ?_;rintro _ w3 ⟨rfl,az⟩;have g:=aA (HD.o.trans (az.mono HD.o.size));have a0:=aA (HW.o.on g.o);clear az;cases ba
    ·have HF:=aA (ax.o (by rw[al.o];rfl));go_wp2_with fail
     refine f _ _ ⟨⟨w3,g.o⟩,rfl⟩ _ (fun _ h=>h) ⟨⟨w3,g.o⟩,rfl⟩ ?_;clear f;repeat (go_big_quiet_step (fail))
     refine Aj ?_;intro KK f;rw[zfa (by rfl)];refine f _ _ ⟨⟨w3,g.o⟩,rfl⟩ _ (fun _ h=>h) ⟨⟨w3,g.o⟩,rfl⟩ ?_;clear f
     go_frame
     repeat (go_big_quiet_step (fail))
     refine Aj ?_;clear q0 q1 q2 q3 p0 p1 m1 m2;go_wp2;go_ret
     exact⟨aD HF.o.symm,a0.o.below⟩
    ·go_wp2_with fail
     refine f _ _ ⟨⟨w3,g.o⟩,rfl⟩ _ (fun _ h=>h) ⟨⟨w3,g.o⟩,rfl⟩ ?_;clear f;repeat (go_big_quiet_step (fail))
     refine Aj ?_;intro KK f;rw[Ap (by rfl)];clear q0 q1 q2 q3 p0 p1 m1 m2;go_wp2_with fail
     refine(bk.o w3 a0.o.below).mono ?_;rintro _ w4 ⟨rfl,a1⟩;have am:=aA (g.o.trans (a1.mono g.o.size));have a2:=aA (HW.o.on am.o);clear a1;go_wp2_with fail
     refine f _ _ ⟨⟨w4,am.o⟩,rfl⟩ _ (fun _ h=>h) ⟨⟨w4,am.o⟩,rfl⟩ ?_;clear f;cases bg
     ·have HF:=aA (ax.o (by rw[al.o];rfl));repeat (go_big_quiet_step (fail))
      refine Aj ?_;go_wp2;go_ret
      exact⟨aD HF.o.symm,a2.o.below⟩
     ·have HX:Hid ((List.range (i+1)).all (Tb.rwOk G rs gs)=true):=aA (by rw[bl.o,HA.o,al.o];rfl);repeat (go_big_quiet_step (fail))
      refine Aj ?_;go_wp2;go_roundw
      case rel=>exact⟨i+1,ay.o,by go_num,HX,a2⟩
      case measure=>simp[intOf];have:=ay.o;omega
   ·obtain rfl:i=n:=by omega
    go_wp2;go_ret
    exact⟨aD HA.o.symm,HW.o.below⟩
 ·have aa:=aA (Tb.may_no m);rw[aa.o];clear s ah ar au a5 a6;cases q:Gm.right G
  all_goals
   rw[q]at u m;have bn:=aA m;clear q m
   go_enter Tryz.func17,Tryz.ntmps17
   go_upto_region 1 with fail
   rw[<-l];clear l;go_wp2_with fail
   refine u.o.mono ?_;rintro _ w2 ⟨rfl,hb⟩;have j:=aA (b.o.on hb);clear hb x0 x1 x2 x3 y0;have y1:=j.o.c2 1 _ rfl
  ·go_wp2;go_ret
   exact⟨rfl,j.o.below⟩
  ·have bo:¬(rs.length=gs.length/\1<=rs.length/\rs.length<=300):=fun h=>bn.o ⟨by trivial,h⟩;go_wp2
   all_goals
    first
     | (go_ret;exact⟨rfl,j.o.below⟩)
     | (exfalso;omega)
namespace Tb
theorem tab_c {K:List (List Au.It)} {L:List (List (Int×Int))} (h:Gm.isB G=true) (k:Au.bld G=some (K,E)) (hl:Lk.lkS G=L) :
  actS G=(List.range K.length).map (fun q=>rowT (G.ts.length+1) fun t=>(act G (shift G (K.getD q []) (E.getD q [])) (L.getD q []) t).1)/\gotS G=(List.range K.length).map (gotQ G E)/\cfS G=(List.range K.length).flatMap fun q:Nat=>cfA q G (shift G (K.getD q []) (E.getD q [])) (L.getD q []) (G.ts.length+1):=by
 have e:∀q,q<K.length->Lk.lkRow G K E q=L.getD q []:=fun q hq=>by
  rw[<-hl,Lk.lk_ok h k,Ai,BC,List.getElem?_range hq];rfl
 obtain⟨h1,h2,h3⟩:=tab_ok h k;refine⟨h1.trans (DQ fun q hq=>?_),h2,h3.trans ?_⟩
 ·unfold rowQ;rw[e q (BF.1 hq)]
 ·unfold cfP;rw[List.flatMap_def,List.flatMap_def]
  congr 1
  refine DQ fun q hq=>?_;unfold cfQ;rw[e q (BF.1 hq)]
end Tb
theorem nu15:Gm.gn false a7.rs a7.ns.length=[true]:=by
 rw[<-Gm.grow_gn (Gm.right_ok.1 zbe).lin];decide +kernel
theorem znP:Gm.fst a7=[1]:=by
 unfold Gm.fst;rw[nu15];decide +kernel
def ls15:List (List Au.It):=[[(-1,0),(0,0),(1,0)],[(0,0),(0,1),(1,0)],[(-1,1)],[(0,2)]]
theorem zlF:Lk.rowsL a7 znG=ls15:=by
 unfold Lk.rowsL znG ls15;rw[Bp,Bp,Bp,Bp,CU];rw[(Au.clo_c (G:=a7) (l:=[(-1,0)]) (by decide +kernel) (by decide +kernel)),(Au.clo_c (G:=a7) (l:=[(0,1)]) (by decide +kernel) (by decide +kernel)),(Au.clo_c (G:=a7) (l:=[(-1,1)]) (by decide +kernel) (by decide +kernel)),(Au.clo_c (G:=a7) (l:=[(0,2)]) (by decide +kernel) (by decide +kernel))];decide +kernel
def lk15:List (List (Int×Int)):=[[(1,2)],[(1,2)],[],[(0,2)]]
theorem znD:Lk.lkS a7=lk15 :=
 (Lk.lkS_c2 zkN zk5 (Gm.right_ok.1 zbe) zlF nu15 znP 1 (S:=[[2,2,2],[2,2,2],[2],[2]]) (by decide +kernel) (by decide +kernel)).trans (by decide +kernel)
def zm9:List (List Tb.Ce):=[[(1,1),(2,1)],[(1,1),(2,1)],[(0,0),(3,0)],[(0,0),(2,0)]]
def zm6:List (List Int):=[[2],[3],[-1],[-1]]
theorem zng:Tb.actS a7=zm9/\Tb.gotS a7=zm6/\Tb.cfS a7=[]:=by
 obtain⟨h1,h2,h3⟩:=Tb.tab_c zkN zk5 znD;exact⟨h1.trans (by decide +kernel),h2.trans (by decide +kernel),h3.trans (by decide +kernel)⟩
def zmC:List Int:=[37,108,101,102,116,32,39,43,39,32,37,37,32,101,32,58,32,101,32,39,43,39,32,101,32,124,32,39,110,39,32,59]
def aY:Gm.Gr:=⟨[⟨[39,43,39],1,1⟩,⟨[39,110,39],0,0⟩],[[101]],[⟨0,[-1,0,-1],0⟩,⟨0,[1],1⟩],0⟩
theorem znL:gr9 zmC=some aY:=by kernel_rfl
theorem zbd:Gm.right aY=true:=by decide +kernel
theorem zks:Gm.gn true aY.rs aY.ns.length=[true]:=by
 rw[<-Gm.grow_gn (Gm.right_ok.1 zbd).lin];decide +kernel
theorem zno:Gm.rc aY=[true]:=by
 have h:=Gm.right_ok.1 zbd;rw[<-Gm.reach_rc h.lin h.sin h.s0 h.s1,zks];decide +kernel
theorem zlL:Gm.rdE aY=0:=Gm.rdE_ok zbd (by
 have aa:=Gm.right_ok.1 zbd;have h0:=aa.s0;have h1:=aa.s1
 have e:Gm.tr (Gm.Gn true aY.rs aY.st)=(Gm.gn true aY.rs aY.ns.length).getD aY.st.toNat false:=by
  rw[Gm.gn_at _ _ _ _ (by omega),Br h0]
 rw[e,zks];decide)
theorem znc {x:Gm.Rl} (hx:x∈aY.rs):Gm.use aY x=Gm.rcB [true] [true] x:=by
 rw[<-Gm.use_rcB (Gm.right_ok.1 zbd) hx,zks,zno]
theorem zmh:Gm.krs aY=aY.rs:=by
 have e:Gm.krs aY=aY.rs.filter (Gm.rcB [true] [true]):=List.filter_congr fun x hx=>znc hx;exact e.trans (by kernel_rfl)
theorem zlU:Gm.olds aY=[0]:=by unfold Gm.olds;rw[zmh];decide +kernel
theorem znm:Gm.reduce aY=aY:=by unfold Gm.reduce;rw[zmh,zlU];rfl
theorem zkM:Gm.isB aY=true:=by
 unfold Gm.isB Gm.rdG;rw[Ap zlL,znm,zlL,Gm.same_self];rfl
def znF:List (List Au.It):=[[(-1,0)],[(1,1)],[(-1,1),(0,1)],[(0,2)],[(0,1),(0,3)]]
def es17:List (List (Int×Int)):=[[(1,1),(-1,2)],[],[(0,3)],[(1,1),(-1,4)],[(0,3)]]
theorem zk4:Au.bld aY=some (znF,es17):=Au.bld_c (by decide +kernel)
theorem nu17:Gm.gn false aY.rs aY.ns.length=[false]:=by
 rw[<-Gm.grow_gn (Gm.right_ok.1 zbd).lin];decide +kernel
theorem znO:Gm.fst aY=[2]:=by
 unfold Gm.fst;rw[nu17];decide +kernel
def ls17:List (List Au.It):=[[(-1,0),(0,0),(1,0)],[(1,1)],[(-1,1),(0,1)],[(0,0),(0,2),(1,0)],[(0,1),(0,3)]]
theorem zlE:Lk.rowsL aY znF=ls17:=by
 unfold Lk.rowsL znF ls17;rw[Bp,Bp,Bp,Bp,Bp,CU];rw[(Au.clo_c (G:=aY) (l:=[(-1,0)]) (by decide +kernel) (by decide +kernel)),(Au.clo_c (G:=aY) (l:=[(1,1)]) (by decide +kernel) (by decide +kernel)),(Au.clo_c (G:=aY) (l:=[(-1,1),(0,1)]) (by decide +kernel) (by decide +kernel)),(Au.clo_c (G:=aY) (l:=[(0,2)]) (by decide +kernel) (by decide +kernel)),(Au.clo_c (G:=aY) (l:=[(0,1),(0,3)]) (by decide +kernel) (by decide +kernel))];decide +kernel
def lk17:List (List (Int×Int)):=[[],[(1,5)],[],[],[(0,5)]]
theorem znC:Lk.lkS aY=lk17 :=
 (Lk.lkS_c2 zkM zk4 (Gm.right_ok.1 zbd) zlE nu17 znO 3 (S:=[[4,5,5],[5],[4,5],[5,5,5],[5,5]]) (by decide +kernel) (by decide +kernel)).trans (by decide +kernel)
def zm8:List (List Tb.Ce):=[[(0,0),(1,1),(0,0)],[(2,1),(0,0),(2,1)],[(1,3),(0,0),(3,0)],[(0,0),(1,1),(0,0)],[(2,0),(0,0),(2,0)]]
def zm5:List (List Int):=[[2],[-1],[-1],[4],[-1]]
theorem znf:Tb.actS aY=zm8/\Tb.gotS aY=zm5/\Tb.cfS aY=[(4,0,1,0,-1)]:=by
 obtain⟨h1,h2,h3⟩:=Tb.tab_c zkM zk4 znC;exact⟨h1.trans (by decide +kernel),h2.trans (by decide +kernel),h3.trans (by decide +kernel)⟩
theorem zmP:Au.bldE aY=0:=(Au.bld_ok zkM zk4).1
theorem znz:Tb.may a7 zm9 zm6=true:=by decide +kernel
theorem zl5:Tb.may a7 zm8 zm5=false:=by decide +kernel
theorem zlB:Tb.settle aY 0 0=1:=by decide +kernel
theorem zlA:Tb.settle aY 1 0=4:=by decide +kernel
theorem zlz:Tb.settle aY 2 0=0:=by decide +kernel
theorem tab0:Tb.actS Gm.gr0=[]/\Tb.gotS Gm.gr0=[]/\Tb.cfS Gm.gr0=[]:=Tb.tab_no isB0
end Go.Proofs.YtjjbaehamplnaaaGreat
