/- Part of the proofs over this program: TrimKept, TrimRed, TrimReduced, Ints, CfgSame, CfgSame2. -/
import Derived.Test.YtcmhaemaophplaaGreatW2H
set_option linter.all false
namespace Go
def ED:=@List.map_singleton
def Eb:=@List.getElem_range
def C4:=@Go.World.drewN_drewN
end Go
set_option maxRecDepth 100000
set_option maxHeartbeats 40000000
variable {G:Go.Proofs.YtcmhaemaophplaaGreat.Gm.Gr} {base base' g i k n:Nat} {j:Int} {ns':List (List Int)} {r zs:List Int} {v v':Go.Value} {w w' wr:Go.World} {x:Go.Proofs.YtcmhaemaophplaaGreat.Gm.Rl} {xs:List Go.Value}
namespace Go.Proofs.YtcmhaemaophplaaGreat
open Go.RowKit
theorem Gm.use_rcB (h:Gm.Ok G) (hx:x∈G.rs):Gm.rcB (Gm.gn true G.rs G.ns.length) (Gm.rc G) x=Gm.use G x:=by
 unfold Gm.rcB Gm.use;rw[Bt,AV,Gm.tr_iff,Gm.allB_gn h.lin];have hl:=h.lin x hx;rw[Gm.rc_at G x.l.toNat (by omega),Gm.tr_iff,Bq hl.1]
noncomputable def Gm.kl (G:Gm.Gr) (i:Nat):List Int:=((List.range i).filter fun j=>(G.rs[j]?).any (Gm.use G)).map fun j:Nat=>(j:Int)
theorem Gm.kl_next (h:i<G.rs.length):Gm.kl G (i+1)=if Gm.use G G.rs[i]=true then Gm.kl G i++[(i:Int)] else Gm.kl G i:=by
 unfold Gm.kl;rw[C9,B3,Bf];have e:(G.rs[i]?).any (Gm.use G)=Gm.use G G.rs[i]:=by rw[AF h];rfl
 cases hu:Gm.use G G.rs[i]
 ·simp[e,hu]
 ·simp[e,hu]
theorem Gm.kl_len (G:Gm.Gr) (i:Nat):(Gm.kl G i).length<=i:=by
 unfold Gm.kl;rw[Bd]
 have:=B7 (fun j=>(G.rs[j]?).any (Gm.use G)) (List.range i)
 simpa using this
theorem Gm.kl_all (G:Gm.Gr):Gm.kl G G.rs.length=(Gm.kept G).map fun j:Nat=>(j:Int):=rfl
theorem zlV (c:Nat) (w:World):(binOp .eql 22 (.slice none 0 c) (.slice none 0 0)).run Tryz.prog w=.ok (.bool true) w:=by kernel_rfl
theorem zkm (ad:Addr) (n c:Nat) (w:World):(binOp .eql 22 (.slice (some ad) n c) (.slice none 0 0)).run Tryz.prog w=.ok (.bool false) w:=by kernel_rfl
theorem zih (A:Option Addr) (c B:Nat) (ts:List Gm.Tm) (w:World) (hr:zeP w B A ts) (hB:B<=w.heap.size) (hl:ts.length<=1000) :
  Calls Tryz.prog 142 #[.slice A ts.length c] w fun e w'=>∃v,e=.returned v/\bE w' w.heap.size v ts/\Below w.heap.size w w':=by
 have HR:=aA (fun o=>(show zeP (w.alloc o) w.heap.size A ts from(hr.keep fun g o' hg=>(Below.cell ((AB w.heap.size w).alloc (Af _) o) (p:=⟨g,o',none⟩) (by simp only;omega))).more hB));have HL:=aA hl;cases A with
 | none =>
  have h0:ts=[]:=by
   rcases Dj ts.length with h|h
   ·exact BC h
   ·obtain⟨g,o,e,_⟩:=hr (by omega);cases e
  subst h0;have hq:=fun w=>zlV c w;clear hr hl HR HL hB
  go_enter Tryz.func142,Tryz.ntmps142
  go_wp2;go_ret
  exact⟨_,rfl,bE.nil _ _,AB _ _⟩
 | some ad =>
  have hq:=fun w=>zkm ad ts.length c w;clear hr hl hB
  go_enter Tryz.func142,Tryz.ntmps142
  go_wp2_with (at_builtin;refine zfA rfl (.tmp 5) (.tmp 6) _ rfl Tryz.underlying22 w.heap.size _ [] rfl (zaV w) w.heap.size ts.length c (some ad) ts rfl rfl (HR.o _) (by have:=HL.o;simp;omega) (by simp) ?_;intro v2 w2 aa ab)
  go_ret
  exact⟨_,rfl,aa,((AB w.heap.size w).alloc (Af _) _).grown ab (by simp) (fun k e=>(aM (zaV w) e).1)⟩
def Gm.an1 (an:List Int) (z:Int):Int:=if z<0 then -1-an.getD (-1-z).toNat 0 else z
theorem Gm.fill_set (f:Int->Int) (h:k<r.length):((r.take k).map f++List.replicate (r.length-k) 0).set k (f r[k])=(r.take (k+1)).map f++List.replicate (r.length-(k+1)) 0:=by
 rw[Dx _ _ (by simp;omega)];rw[AI h,Bf,Ch]
 congr 1
 rw[show k-((r.take k).map f).length=0 by simp;omega,show r.length-k=(r.length-(k+1))+1 by omega,CO];rfl
theorem zcC (x:Gm.Rl) (an:List Int) (A A2:Option Addr) (c c2 B B2:Nat) (w:World) (hr:RdI w B A x.r) (h2:RdI w B2 A2 an) (hB:B<=w.heap.size) (ae:B2<=w.heap.size) (f:∀z∈x.r,Gm.In z) (hs:∀z∈x.r,z<0->-1-z<(an.length:Int)) (hx:0<=x.l/\x.l<an.length) (hl:x.r.length<=1000) (ao:∀i:Nat,i<an.length->0<=an.getD i 0/\an.getD i 0<=1000) :
  Calls Tryz.prog 143 #[.agg #[.int .i64 x.l,.slice A x.r.length c,.int .i64 x.p],.slice A2 an.length c2] w fun e w'=>∃g,e=.returned (.agg #[.int .i64 (an.getD x.l.toNat 0),.slice (some ⟨g,0,none⟩) x.r.length x.r.length,.int .i64 x.p])/\w.heap.size<=g/\UBI w' g (x.r.map (Gm.an1 an))/\Below w.heap.size w w':=by
 obtain⟨l,r,pz⟩:=x;simp only at hr f hs hx hl ⊢;obtain⟨ml,rfl⟩:∃m:Nat,l=(m:Int):=⟨l.toNat,by omega⟩
 rw[BP];obtain⟨w1,C⟩:∃y,y=(w.alloc (.cells #[.int .i64 ml,.slice A r.length c,.int .i64 pz] 48)).alloc (.cells #[.int .i64 0,.slice none 0 0,.int .i64 0] 48):=⟨_,rfl⟩
 have ap:w1.heap.size=w.heap.size+2:=by rw[C];simp
 have az:Hid (Below w.heap.size w w1):=aA (by rw[C];exact((AB _ w).alloc (Af _) _).alloc (by simp) _);have x0:w1.heap[w.heap.size]?=some (.cells #[.int .i64 ml,.slice A r.length c,.int .i64 pz] 48 (0,0)):=by rw[C,Bu _ _ _ (by simp)];exact AE w _
 have x1:w1.heap[w.heap.size+1]?=some (.cells #[.int .i64 0,.slice none 0 0,.int .i64 0] 48 (0,0)):=by rw[C];have:=AE (w.alloc (.cells #[.int .i64 ml,.slice A r.length c,.int .i64 pz] 48)) (.cells #[.int .i64 0,.slice none 0 0,.int .i64 0] 48);simpa using this
 have c1:=aU x0;have af:=aA x0;have ag:=aA x1;have n:=aA ap;have a0:w.heap.size<w1.heap.size:=by omega
 have HR:=aA (fun(y:World) (h:Below w.heap.size w y)=>hr.below h hB);have H2:=aA (fun(y:World) (h:Below w.heap.size w y)=>h2.below h ae);have HI:=aA (fun z w=>zbt z w);have HN:=aA (fun z h1 h2 w=>zbQ z h1 h2 w);have a1:=aA f;have a2:=aA hs;have a3:=aA ao;have a4:ml<an.length:=by omega
 have bi:(ml:Int)<(an.length:Int):=by omega
 have a5:=aA (B4 hB ae);have a6:(r.length:Int)<=9223372036854775807:=by omega
 clear hr h2 f hs hx hB ae ao x0 x1 ap
 go_enter Tryz.func143,Tryz.ntmps143
 go_upto_region 1 with fail
 rw[<-C];clear C;go_upto_region 2 with(at_make;refine zex rfl (.tmp 10) (.tmp 10) _ rfl Tryz.underlying38 r.length _ _ rfl rfl rfl rfl (by omega) ?_;intro w2 aq D a9)
 have ah:=aA aq;have c1:=(D.cell (p:=⟨w.heap.size,1,none⟩) (by simp only;omega)).trans c1;have ba:w.heap.size<w2.heap.size:=by omega
 have ar:=aA (az.o.trans (D.mono (by have:=n.o;omega)));have af:=aA ((D.block w.heap.size a0).trans af.o);have ag:=aA ((D.block (w.heap.size+1) (by have:=n.o;omega)).trans ag.o);clear aq D;go_wp2;go_loopw [15] (fun vk wr=>∃k:Nat,k<=r.length/\vk=.int .i64 k/\Hid (UBI wr w1.heap.size ((r.take k).map (Gm.an1 an)++List.replicate (r.length-k) 0))/\Hid (w2.grownBy wr (some w1.heap.size))) (fun vk _=>r.length-(intOf vk).toNat)
 case atStart=>exact⟨0,AU _,rfl,by simpa using ah,aA (AM _ _)⟩
 case round =>
  obtain⟨k,hk,rfl,HU,HW⟩:=hrel;have E:=aA (zaa ar.o HW.o (by have:=n.o;omega) ar.o.size);by_cases s:k<r.length
  ·obtain⟨g,o,rfl,bj,hc⟩:=HR.o wr E.o (by omega);have k0:=hc k s;rw[L.gd_lt s]at k0;have bl:=Bi k0;have f:=a1.o _ (AC s);have ai:=a2.o _ (AC s);have aa:=aA (Gm.fill_set (Gm.an1 an) s);have bm:=HU.o.lt;have bo:=HU.o.frozen k;have bp:=HU.o.cell k (by simp;omega);have bq:=HU;generalize r[k]=z at *;unfold Gm.In at f;have ab:=aA (fun w=>HI.o z w);have aj:=aA (fun w=>HN.o z f.1 f.2 w);have au:=aA (fun u=>HU.o.set_ k u);have av:=aA (fun u=>aF HW.o k (Value.int .i64 u));clear hc;by_cases hz:z<0
   ·have bb:=ai hz;obtain⟨j,hj⟩:∃j:Nat,-1-z=(j:Int):=⟨(-1-z).toNat,by omega⟩
    rw[hj]at bb;have ak:Hid (Gm.an1 an z = -1-an.getD j 0):=aA (by unfold Gm.an1;rw[Az hz,hj];simp);obtain⟨g2,o2,rfl,bc,F⟩:=H2.o wr E.o (by omega);have k2:=F j (by omega);have hq:=a3.o j (by omega);have br:j<an.length:=by omega
    have bd:=aA (fun w=>HN.o (an.getD j 0) (by omega) (by omega) w);rw[hj]at aj;rw[AL hz]at ab;rw[ak.o]at aa;generalize an.getD j 0=qv at *;have l2:=Bi k2;clear hz hj ai F f hq;go_wp2_with fail
    refine(ab.o _).mono ?_;rintro _ w3 ⟨rfl,t⟩;subst t;go_wp2_with fail
    refine(aj.o _).mono ?_;rintro _ w3 ⟨rfl,t⟩;subst t;go_wp2_with fail
    refine(bd.o _).mono ?_;rintro _ w3 ⟨rfl,t⟩;subst t;generalize -1-qv=nv at *;go_wp2;go_roundw
    case rel=>exact⟨k+1,s,by go_num,by rw[<-aa.o];exact au.o nv,av.o nv⟩
    case measure=>simp[intOf];omega
   ·have ak:Hid (Gm.an1 an z=z):=aA (by unfold Gm.an1;rw[AG hz]);rw[AO hz]at ab;rw[ak.o]at aa;clear hz ai f aj;go_wp2_with fail
    refine(ab.o _).mono ?_;rintro _ w3 ⟨rfl,t⟩;subst t;go_wp2;go_roundw
    case rel=>exact⟨k+1,s,by go_num,by rw[<-aa.o];exact au.o z,av.o z⟩
    case measure=>simp[intOf];omega
  ·obtain rfl:k=r.length:=by omega
   have ah:Hid (UBI wr w1.heap.size (r.map (Gm.an1 an))):=aA (by have:=HU.o;simpa using this);have ac:=aA ((HW.o.block w.heap.size ba (fun e=>by injection e with e;omega)).trans af.o);have bf:=aA ((HW.o.block (w.heap.size+1) (by have:=n.o;omega) (fun e=>by injection e with e;have:=n.o;omega)).trans ag.o);obtain⟨g2,o2,rfl,bc,F⟩:=H2.o wr E.o (by omega);have k2:=F ml a4;obtain⟨qv,al⟩:∃q,q=an.getD ml 0:=⟨_,rfl⟩
   rw[<-al]at k2;have HQ:=aA al;clear F HU al;go_upto_region 9 with fail
   have bs:w.heap.size≠w.heap.size+1:=by omega
   have lg2:g2<w.heap.size:=by have:=a5.o;omega
   have b0:=fun y:Calm.OnR (w.heap.size+1) wr=>aT ((y.2.block w.heap.size (Ad.1 ac.o).1 (fun e=>by injection e with e;omega)).trans ac.o);have b2:=fun y:Calm.OnR (w.heap.size+1) wr=>aZ ((y.2.block w.heap.size (Ad.1 ac.o).1 (fun e=>by injection e with e;omega)).trans ac.o);have bk:=fun y:Calm.OnR (w.heap.size+1) wr=>zaq y.2 k2 (by omega);have ad:wr.grownBy wr.drew (some (w.heap.size+1)):=zap wr _;have bg:Hid (w.heap.size+1≠w1.heap.size):=aA (by have:=n.o;omega);refine CalmN.region_tree (fun x=>∃y:Calm.OnR (w.heap.size+1) wr,x=y.1) (.one [0,1,2,3,4,5,6,7,8] 9 (.fin [])) (by kernel_rfl) (by kernel_rfl) (fun _ _ d _ _ h=>by cases d <;> exact h) ⟨⟨wr.drew,ad⟩,rfl⟩ ?_;simp only[CalmN.wpT,CalmN.wpSt,CalmN.pickOps,Aw,Ah,Aj];repeat (go_big_quiet_step (fail))
   refine Aq ?_;intro KK aw;rw[Az (by rfl)];clear b0 b2 bk;have b:=show wr.drew.heap[w.heap.size+1]?=_ from bf.o;obtain⟨wd,ax⟩:∃y,y=wr.drew:=⟨_,rfl⟩
   rw[<-ax]at ad b ⊢;have e0:=AD wd _ 0 _ _ _ b;have e1:=AD wd _ 1 _ _ _ b;have e2:=AD wd _ 2 _ _ _ b;have f0:=AH wd _ 0 _ _ b;have f1:=AH wd _ 1 _ _ b;have f2:=AH wd _ 2 _ _ b;have ld1:=(Ad.1 b).1;have bh:=aA ad;have HY:=aA b;clear ad b ax;go_wp2_with fail
   have H:=bh.o.trans (aF (aF (aF (AM wd (some (w.heap.size+1))) 0 (.int .i64 qv)) 1 (.slice (some ⟨w1.heap.size,0,none⟩) r.length r.length)) 2 (.int .i64 pz));have am:=aA H;have h0:=AW _ _ 2 _ _ (.int .i64 pz) (AW _ _ 1 _ _ (.slice (some ⟨w1.heap.size,0,none⟩) r.length r.length) (AW wd _ 0 _ _ (.int .i64 qv) HY.o));obtain⟨wf,ay⟩:∃y,y=((wd.setCell ⟨w.heap.size+1,0,none⟩ (.int .i64 qv)).setCell ⟨w.heap.size+1,1,none⟩ (.slice (some ⟨w1.heap.size,0,none⟩) r.length r.length)).setCell ⟨w.heap.size+1,2,none⟩ (.int .i64 pz):=⟨_,rfl⟩
   rw[<-ay]at H h0 am ⊢;refine aw _ _ ⟨⟨wf,H⟩,rfl⟩ (fun x=>∃y:Calm.OnR (w.heap.size+1) wr,x=y.1) (fun _ h=>h) ⟨⟨wf,H⟩,rfl⟩ ?_;have j0:=aT h0;have j1:=aU h0;have j2:=aZ h0;have lf:=(Ad.1 h0).1;clear H e0 e1 e2 f0 f1 f2 ay aw h0 ld1;refine Aq ?_;go_wp2;refine Cj (v:=.agg #[.int .i64 qv,.slice (some ⟨w1.heap.size,0,none⟩) r.length r.length,.int .i64 pz]) (by simp[results,Tryz.results143,go_sem,j0,j1,j2]) rfl ?_;exact⟨w1.heap.size,by rw[HQ.o],by have:=n.o;omega,ah.o.grown am.o (fun e=>by injection e with e;exact bg.o e.symm),zaa E.o am.o (by omega) E.o.size⟩
theorem zje (v:Value) (G:Gm.Gr) (B:Nat) (w:World) (hg:aR w B v G) (hf:Gm.Fit G) (t:Gm.Ok G) (hB:B<=w.heap.size) :
  Calls Tryz.prog 98 #[v] w fun e w'=>∃u,e=.returned u/\aS w' w.heap.size u (Gm.kl G G.rs.length)/\Below w.heap.size w w':=by
 have q:=Gm.right_ok.2 t;have ai:=aA (fun(x:World) (h:Below w.heap.size w x)=>(show Calls _ _ _ _ (zgz _ _) from(zaJ v G B x (hg.below h hB) hf (Am hB h.size)).mono fun e w' k=>k.1 q));have aj:=aA (fun(x:World) (h:Below w.heap.size w x)=>(show Calls _ _ _ _ (zgz _ _) from(zdc v G B x (hg.below h hB) hf (Am hB h.size)).mono fun e w' k=>k.1 q));clear q;obtain⟨AT,cT,AN,cN,AR,cR,rfl,_,⟨bm,bo⟩,_,_,_,hR⟩:=hg;have bb:=aA (One.start w #[.slice AT G.ts.length cT,.slice AN G.ns.length cN,.slice AR G.rs.length cR,.int .i64 G.st]);have bc:=aA hR;have HB:=aA hB;have bd:=aA hf;have ak:=aA t;have al:Hid (G.rs.length<=40):=aA t.r40;have ad:=aA (fun x hx=>Gm.use_rcB t (x:=x) hx);obtain⟨T,hT⟩:∃x,x=Gm.gn true G.rs G.ns.length:=⟨_,rfl⟩
 have am:Hid (T.length=G.ns.length):=aA (by rw[hT,Gm.gn_len]);rw[<-hT]at ai ad;obtain⟨R,ao⟩:∃x,x=Gm.rc G:=⟨_,rfl⟩
 have ax:Hid (R.length=G.ns.length):=aA (by rw[ao,Gm.rc_len]);rw[<-ao]at aj ad;have ay:(G.rs.length:Int)<=9223372036854775807:=by have:=t.r40;omega
 clear hf t hR hB hT ao
 go_enter Tryz.func98,Tryz.ntmps98
 go_upto_region 1 with fail
 obtain⟨w1,ap⟩:∃y,y=w.alloc (.cells #[.slice AT G.ts.length cT,.slice AN G.ns.length cN,.slice AR G.rs.length cR,.int .i64 G.st] 26):=⟨_,rfl⟩
 have b:Hid (One w #[.slice AT G.ts.length cT,.slice AN G.ns.length cN,.slice AR G.rs.length cR,.int .i64 G.st] w1):=aA (by rw[ap];exact One.start _ _);rw[<-ap];clear ap bb
 go_cut [3,4] (fun v3 v4 wx=>∃gp gr,v3=.slice (some ⟨gp,0,none⟩) G.ns.length G.ns.length/\v4=.slice (some ⟨gr,0,none⟩) G.ns.length G.ns.length/\UBO wx gp T/\UBO wx gr R/\One w #[.slice AT G.ts.length cT,.slice AN G.ns.length cN,.slice AR G.rs.length cR,.int .i64 G.st] wx)
 case first =>
  have q0:=fun y:Calm.On w1.heap.size w1=>(b.o.on y.2).c 0 _ rfl;have q1:=fun y:Calm.On w1.heap.size w1=>(b.o.on y.2).c 1 _ rfl;have q2:=fun y:Calm.On w1.heap.size w1=>(b.o.on y.2).c 2 _ rfl;have q3:=fun y:Calm.On w1.heap.size w1=>(b.o.on y.2).c 3 _ rfl;have E:Hid (Below w1.heap.size w1 w1.drew):=aA (aB (AB _ _) 1);refine CalmN.region_tree (fun x=>∃y:Calm.On w1.heap.size w1,x=y.1) (.one [0,2] 1 (.one [] 3 (.fin [4,5]))) (by kernel_rfl) (by kernel_rfl) (fun _ _ d _ _ h=>by cases d <;> exact h) ⟨⟨w1.drew,E.o⟩,rfl⟩ ?_;simp only[CalmN.wpT,CalmN.wpSt,CalmN.pickOps,Aw,Ah,Aj];repeat (go_big_quiet_step (fail))
  refine Aq ?_;clear q0 q1 q2 q3;have af:=aA (b.o.below.trans (E.o.mono b.o.below.size));obtain⟨wd,az⟩:∃y,y=w1.drew:=⟨_,rfl⟩
  rw[<-az]at E af ⊢;clear az;intro KK aq;rw[Az (by rfl)];go_wp2_with fail
  refine(ai.o wd af.o).mono ?_;rintro _ w3 ⟨ga,rfl,bp,a0,a1⟩;rw[am.o];have aa:Below w1.heap.size w1 w3:=E.o.trans (a1.mono E.o.size);have bf:=aA (af.o.trans (a1.mono af.o.size));go_wp2_with fail
  refine aq _ _ ⟨⟨w3,aa⟩,rfl⟩ _ (fun _ h=>h) ⟨⟨w3,aa⟩,rfl⟩ ?_;refine Aq ?_;intro KK aq;rw[Az (by rfl)];go_wp2_with fail
  refine(aj.o w3 bf.o).mono ?_;rintro _ w4 ⟨gb,rfl,bq,bg,a2⟩;rw[ax.o];have ae:Below w1.heap.size w1 w4:=aa.trans (a2.mono aa.size);go_wp2_with fail
  refine aq _ _ ⟨⟨w4,ae⟩,rfl⟩ _ (fun _ h=>h) ⟨⟨w4,ae⟩,rfl⟩ ?_;repeat (go_big_quiet_step (fail))
  refine Aq ?_;go_wp2_with fail
  go_meet
  case rel=>exact⟨ga,gb,rfl,rfl,a0.below a2 a0.lt,bg,b.o.on ae⟩
 case rest =>
  obtain⟨gp,gr,rfl,rfl,a3,a4,ac⟩:=hcut;have ag:=aA a3;have a5:=aA a4;have HW:=aA ac;have q2:=ac.c 2 _ rfl;have ld:w.heap.size<wc.heap.size:=ac.size;clear a3 a4 ac ai aj b;go_wp2;go_loopw [5,15] (fun vl vi wr=>∃i:Nat,i<=G.rs.length/\vi=.int .i64 i/\Hid (aS wr wc.heap.size vl (Gm.kl G i))/\Hid (Below wc.heap.size wc wr)) (fun _ vi _=>G.rs.length-(intOf vi).toNat)
  case atStart=>exact⟨0,AU _,rfl,aA (aS.nil _ _),aA (AB _ _)⟩
  case round =>
   obtain⟨i,hi,rfl,HO,f⟩:=hrel;by_cases hlt:i<G.rs.length
   ·obtain⟨g,o,rfl,ar,hc⟩:=bc.o (by omega);obtain⟨k0,⟨A',c',k1,_,_,a6⟩,k2⟩:=hc i hlt;have j:=aA (HW.o.below.trans (f.o.mono HW.o.below.size));have k0:=(j.o.cell (p:=⟨g,o+i*3,none⟩) (Ag ar HB.o)).trans k0;have k1:=(j.o.cell (p:=⟨g,o+i*3+1,none⟩) (Ag ar HB.o)).trans k1;have k2:=(j.o.cell (p:=⟨g,o+i*3+2,none⟩) (Ag ar HB.o)).trans k2;have br:g<wr.heap.size:=Bi k0;have A:G.rs[i]∈G.rs:=AC hlt;have e:=bd.o.r _ A;have au:=ak.o.lin _ A;have bh:=(Gm.rule_in (ak.o.rr _ A)).1;have n:=aA (Gm.kl_next hlt);have av:=aA (ad.o _ A);have F:=aA (fun(y:World) (h:Below wr.heap.size wr y)=>zaY G.rs[i] T A' (some ⟨gp,0,none⟩) c' G.ns.length y.heap.size y ((a6.keep fun g o hg=>(j.o.trans (h.mono j.o.size)).cell (p:=⟨g,o,none⟩) (Ag hg HB.o)).more (Am HB.o (j.o.trans (h.mono j.o.size)).size)) e.2.2 (fun z hz h=>by rw[am.o];exact ak.o.sin _ A z hz h) ((((ag.o.below f.o ag.o.lt).below h (Ag ag.o.lt f.o.size))).rd0 (Ag ag.o.lt (Am f.o.size h.size))) (Af _) (by omega));rw[am.o]at F;have bi:=aA (Am (Gm.kl_len G i) hi);generalize G.rs[i]=x at *;obtain⟨l,r,pz⟩:=x;simp only at k0 k1 k2 F au bh;obtain⟨m,rfl⟩:∃m:Nat,l=(m:Int):=⟨l.toNat,by omega⟩
    have bs:=au.2;have a9:Hid (Gm.rcB T R ⟨m,r,pz⟩=(R.getD m false&&Gm.allB true T r)):=aA (by simp[Gm.rcB]);have bj:=aA ((AB wr.heap.size wr).alloc (Af _) (.cells #[.int .i64 m,.slice A' r.length c',.int .i64 pz] 48));have km:=((f.o.cell (p:=⟨gr,m,none⟩) a5.o.lt).trans (a5.o.cell m (by rw[ax.o];omega)))
    have lgr:gr<wr.heap.size:=Bi km;clear hc a6 e A au;unfold Gm.use at n av;have C:=aA (av.o.symm.trans a9.o);generalize Gm.tr (Gm.Rc G _/\Gm.Al true G.rs _)=ub at *;clear av a9;have H:=aA (f.o.alloc f.o.size (.cells #[.int .i64 m,.slice A' r.length c',.int .i64 pz] 48));have aw:=aA (HO.o.alloc (.cells #[.int .i64 m,.slice A' r.length c',.int .i64 pz] 48));generalize R.getD m false=rb at *;cases rb
    ·obtain rfl:ub=false:=C.o;have HX:Hid (Gm.kl G (i+1)=Gm.kl G i):=aA (n.o.trans (AG (by simp)));clear n C;go_wp2;go_roundw
     case rel=>exact⟨i+1,hlt,by go_num,by rw[HX.o];exact aw,H⟩
     case measure=>simp[intOf];omega
    ·have ba:=aA (F.o _ bj.o);generalize Gm.allB true T r=ab at *;cases ab
     ·obtain rfl:ub=false:=C.o;have HX:Hid (Gm.kl G (i+1)=Gm.kl G i):=aA (n.o.trans (AG (by simp)));clear n C F;go_wp2_with fail
      refine ba.o.mono ?_;rintro _ w2 ⟨rfl,s⟩;have D:=aA (H.o.trans (s.mono H.o.size));have ah:=aA (aw.o.below s (Af _));clear s;go_wp2;go_roundw
      case rel=>exact⟨i+1,hlt,by go_num,by rw[HX.o];exact ah,D⟩
      case measure=>simp[intOf];omega
     ·obtain rfl:ub=true:=C.o;have HX:Hid (Gm.kl G (i+1)=Gm.kl G i++[(i:Int)]):=aA (n.o.trans (Az rfl));clear n C F;go_wp2_with fail
      refine ba.o.mono ?_;rintro _ w2 ⟨rfl,s⟩;have D:=aA (H.o.trans (s.mono H.o.size));have ah:=aA (aw.o.below s (Af _));clear s;go_wp2_with (at_builtin;refine za4 rfl (.tmp 30) (.tmp 32) _ rfl Tryz.underlying38 wc.heap.size _ _ rfl (ah.o.alloc _) _ 1 i rfl (CZ _ _ _ 0) (by have:=bi.o;have:=al.o;omega) (by have:=D.o.size;simp;omega) ?_;intro v' w3 bk bl)
      go_roundw
      case rel=>exact⟨i+1,hlt,by go_num,by rw[HX.o];exact bk,zbN (D.o.alloc D.o.size _) (ah.o.alloc _) bl (by have:=D.o.size;simp;omega)⟩
      case measure=>simp[intOf];omega
   ·obtain rfl:i=G.rs.length:=by omega
    go_wp2;go_ret
    exact⟨_,rfl,HO.o.mono HW.o.below.size,HW.o.below.trans (f.o.mono HW.o.below.size)⟩
theorem Gm.ord_snoc:∀(ls acc:List Int) (l:Int),Gm.ord acc (ls++[l])=if l∈Gm.ord acc ls then Gm.ord acc ls else Gm.ord acc ls++[l]
 | [],acc,l=>by rw[C7,Gm.ord,Gm.ord,Gm.ord]
 | x::r,acc,l=>by rw[Cn,Gm.ord,Gm.ord,Gm.ord_snoc r]
noncomputable def Gm.oK (G:Gm.Gr) (k:Nat):List Int:=Gm.ord [] (((Gm.krs G).take k).map Gm.Rl.l)
theorem Gm.oK_next (h:k<(Gm.krs G).length):Gm.oK G (k+1)=if((Gm.krs G)[k]).l∈Gm.oK G k then Gm.oK G k else Gm.oK G k++[((Gm.krs G)[k]).l]:=by
 unfold Gm.oK;rw[AI h,Bf,ED,Gm.ord_snoc]
theorem Gm.oK_all (G:Gm.Gr):Gm.oK G (Gm.krs G).length=Gm.olds G:=by unfold Gm.oK Gm.olds;rw[Bk]
theorem Gm.oK_mem (h:Gm.Ok G) (hj:j∈Gm.oK G k):0<=j/\j<G.ns.length:=by
 unfold Gm.oK at hj;rw[Gm.ord_mem]at hj;rcases hj with hj|hj
 ·simp at hj
 ·obtain⟨x,hx,rfl⟩:=Bm.1 hj;exact h.lin x (Gm.mem_krs.1 (Dl hx)).1
theorem Gm.oK_len (h:Gm.Ok G) (k:Nat):(Gm.oK G k).length<=G.ns.length:=by
 have h1:=Gm.pigeons G.ns.length ((Gm.oK G k).map (· + 1)) ?_ ?_
 ·simpa using h1.1
 ·refine BJ.2 ?_;rw[Df]
  have:(Gm.oK G k).Nodup:=Gm.ord_nodup _ _ (by simp)
  exact(BJ.1 this).imp fun h e=>h (by omega)
 ·intro x hx;obtain⟨y,hy,rfl⟩:=Bm.1 hx
  have:=Gm.oK_mem h hy
  omega
def Gm.anL (n:Nat) (o:List Int):List Int:=(List.range n).map fun j:Nat=>if(j:Int)∈o then Gm.pos o j else 0
def Gm.toL (n:Nat) (o:List Int):List Int:=(List.range n).map fun j:Nat=>Gm.pos o j
def Gm.cmL (n:Nat) (o:List Int):List Bool:=(List.range n).map fun j:Nat=>decide ((j:Int)∈o)
theorem Gm.anL_len (n:Nat) (o:List Int):(Gm.anL n o).length=n:=by simp[Gm.anL]
theorem Gm.toL_len (n:Nat) (o:List Int):(Gm.toL n o).length=n:=by simp[Gm.toL]
theorem Gm.cmL_len (n:Nat) (o:List Int):(Gm.cmL n o).length=n:=by simp[Gm.cmL]
theorem Gm.anL_at {j:Nat} (h:j<n) (o:List Int):(Gm.anL n o).getD j 0=if(j:Int)∈o then Gm.pos o j else 0:=by simp[Gm.anL,h]
theorem Gm.toL_at {j:Nat} (h:j<n) (o:List Int):(Gm.toL n o).getD j 0=Gm.pos o j:=by simp[Gm.toL,h]
theorem Gm.cmL_at {j:Nat} (h:j<n) (o:List Int):(Gm.cmL n o).getD j false=decide ((j:Int)∈o):=by simp[Gm.cmL,h]
theorem Gm.anL_nil (n:Nat):Gm.anL n []=List.replicate n 0:=by
 refine Cr (by simp[Gm.anL]) fun i h1 h2=>?_;simp[Gm.anL]
theorem Gm.toL_nil (n:Nat):Gm.toL n []=List.replicate n (-1):=by
 refine Cr (by simp[Gm.toL]) fun i h1 h2=>?_;simp[Gm.toL,Gm.pos]
theorem Gm.cmL_nil (n:Nat):Gm.cmL n []=List.replicate n false:=by
 refine Cr (by simp[Gm.cmL]) fun i h1 h2=>?_;simp[Gm.cmL]
theorem Gm.pos_no {o:List Int} {l:Int} (h:l ∉ o):Gm.pos o l = -1:=by unfold Gm.pos;rw[AG h]
theorem Gm.pos_snoc {o:List Int} {l:Int} (hj:j≠l):Gm.pos (o++[l]) j=Gm.pos o j:=by
 by_cases h:j∈o
 ·exact Gm.pos_app h
 ·rw[Gm.pos_no h,Gm.pos_no (by simp[h,hj])]
theorem Gm.pos_end {o:List Int} {l:Int} (hn:l ∉ o):Gm.pos (o++[l]) l=o.length:=Gm.pos_new (t:=[]) hn
theorem Gm.anL_snoc {l:Nat} {o:List Int} (hn:(l:Int) ∉ o):(Gm.anL n o).set l o.length=Gm.anL n (o++[(l:Int)]):=by
 refine Cr (by simp[Gm.anL]) fun i h1 h2=>?_;rw[List.getElem_set];by_cases e:l=i
 ·subst e;rw[Az rfl];simp[Gm.anL,Gm.pos_end hn]
 ·rw[AG e];have e2:¬(i:Int)=(l:Int):=by omega
  simp only[Gm.anL,Cs,Eb,Bs,AJ,e2,or_false];rw[Gm.pos_snoc e2]
theorem Gm.toL_snoc {l:Nat} {o:List Int} (hn:(l:Int) ∉ o):(Gm.toL n o).set l o.length=Gm.toL n (o++[(l:Int)]):=by
 refine Cr (by simp[Gm.toL]) fun i h1 h2=>?_;rw[List.getElem_set];by_cases e:l=i
 ·subst e;rw[Az rfl];simp[Gm.toL,Gm.pos_end hn]
 ·rw[AG e];have e2:¬(i:Int)=(l:Int):=by omega
  simp only[Gm.toL,Cs,Eb];rw[Gm.pos_snoc e2]
theorem Gm.cmL_snoc {l:Nat} {o:List Int}:(Gm.cmL n o).set l true=Gm.cmL n (o++[(l:Int)]):=by
 refine Cr (by simp[Gm.cmL]) fun i h1 h2=>?_;rw[List.getElem_set];by_cases e:l=i
 ·subst e;simp[Gm.cmL]
 ·rw[AG e];have e2:¬(i:Int)=(l:Int):=by omega
  simp[Gm.cmL,e2]
def Gm.nmL (G:Gm.Gr) (o:List Int):List (List Int):=o.map fun l=>G.ns.getD l.toNat []
structure RdS (w1 wr:World) (H gA:Nat) (cs:Array Value) (vT vN vR:Value) (ts:List Gm.Tm) (ns:List (List Int)) (rs:List Gm.Rl) (an:List Int):Prop where
 h:wr.heap[H]?=some (.cells cs 26 (0,0))
 t:bE wr w1.heap.size vT ts
 nn:bI wr w1.heap.size vN ns
 r:a7 wr w1.heap.size wr.heap.size vR rs
 a:UBI wr gA an
 w:Below w1.heap.size w1 wr
 hH:w1.heap.size<=H
 hA:w1.heap.size<=gA
section
variable {w1 wr w':World} {H gA:Nat} {cs:Array Value} {vT vN vR:Value} {ts:List Gm.Tm} {ns:List (List Int)} {rs:List Gm.Rl} {an:List Int}
theorem RdS.grown (h:RdS w1 wr H gA cs vT vN vR ts ns rs an) {row:Option Nat} (hg:wr.grownBy w' row) (ho:∀g,row=some g->g≠H/\w1.heap.size<=g/\∃cs T,wr.heap[g]?=some (.cells cs T (0,0))/\T≠81/\T≠9/\T≠3/\T≠48):RdS w1 w' H gA cs vT vN vR ts ns rs an:=by
 refine⟨(hg.block H (Ad.1 h.h).1 (fun e=>(ho H e.symm).1 rfl)).trans h.h,Ba h.t hg ?_,Ba h.nn hg ?_,(h.r.grown hg ?_).more hg.size,?_,h.w.grown hg h.w.size (fun k e=>(ho k e).2.1),h.hH,h.hA⟩
 ·rcases row with _|g
  ·exact zat _
  ·obtain⟨_,_,cs,T,h1,h2,_⟩:=ho g rfl;exact aO h.t h1 (fun cur e=>by injection e with _ e;exact h2 e)
 ·rcases row with _|g
  ·exact zat _
  ·obtain⟨_,_,cs,T,h1,_,h2,_⟩:=ho g rfl;exact aO h.nn h1 (fun cur e=>by injection e with _ e;exact h2 e)
 ·intro g e;obtain⟨_,_,cs,T,h1,_,_,h2,h3⟩:=ho g e;exact .inl ⟨aP h1 h2,aP h1 h3⟩
 ·refine h.a.grown hg fun e=>?_;obtain⟨_,_,cs,T,h1,_,_,h2,_⟩:=ho gA e.symm;exact aP h1 h2 _ h.a
theorem RdS.alloc (h:RdS w1 wr H gA cs vT vN vR ts ns rs an) (o:Obj):RdS w1 (wr.alloc o) H gA cs vT vN vR ts ns rs an:=h.grown (DK wr o .none) (fun g e=>by cases e)
theorem RdS.below (h:RdS w1 wr H gA cs vT vN vR ts ns rs an) (hb:Below wr.heap.size wr w'):RdS w1 w' H gA cs vT vN vR ts ns rs an:=h.grown (aL hb .none) (fun g e=>by cases e)
theorem RdS.drew (h:RdS w1 wr H gA cs vT vN vR ts ns rs an):RdS w1 wr.drew H gA cs vT vN vR ts ns rs an:=h.grown (zap wr .none) (fun g e=>by cases e)
theorem RdS.set (h:RdS w1 wr H gA cs vT vN vR ts ns rs an) {cs':Array Value} {T:TypeId} (hT:wr.heap[g]?=some (.cells cs' T (0,0))) (h1:T≠81) (h2:T≠9) (h3:T≠3) (h4:T≠48) (hH:g≠H) (hb:w1.heap.size<=g) (j:Nat) (u:Value):RdS w1 (wr.setCell ⟨g,j,none⟩ u) H gA cs vT vN vR ts ns rs an :=
 h.grown (aF (AM wr (some g)) j u) (fun g' e=>by injection e with e;subst e;exact⟨hH,hb,cs',T,hT,h1,h2,h3,h4⟩)
theorem RdS.setH (h:RdS w1 wr H gA cs vT vN vR ts ns rs an) (j:Nat) (u:Value):RdS w1 (wr.setCell ⟨H,j,none⟩ u) H gA (cs.setIfInBounds j u) vT vN vR ts ns rs an:=by
 have hs:wr.grownBy (wr.setCell ⟨H,j,none⟩ u) (some H):=aF (AM wr (some H)) j u;refine⟨AW wr H j _ _ u h.h,Ba h.t hs (aO h.t h.h (fun cur e=>by injection e with _ e;cases e)),Ba h.nn hs (aO h.nn h.h (fun cur e=>by injection e with _ e;cases e)),(h.r.grown hs ?_).more hs.size,h.a.grown hs ?_,h.w.grown hs h.w.size (fun k e=>by injection e with e;rw[<-e];exact h.hH),h.hH,h.hA⟩
 ·intro g e;injection e with e;subst e;exact .inl ⟨aP h.h (by decide),aP h.h (by decide)⟩
 ·intro e;injection e with e
  have:=h.a
  unfold UBI at this;rw[e,h.h]at this;injection this with this;injection this with _ this;cases this
theorem RdS.setA (h:RdS w1 wr H gA cs vT vN (.slice none 0 0) ts ns [] an) (j:Nat) (z:Int):RdS w1 (wr.setCell ⟨gA,j,none⟩ (.int .i64 z)) H gA cs vT vN (.slice none 0 0) ts ns [] (an.set j z):=by
 have hs:wr.grownBy (wr.setCell ⟨gA,j,none⟩ (.int .i64 z)) (some gA):=aF (AM wr (some gA)) j _;have ha:=h.a;unfold UBI at ha;refine⟨(hs.block H (Ad.1 h.h).1 (fun e=>?_)).trans h.h,Ba h.t hs (aO h.t ha (fun cur e=>by injection e with _ e;cases e)),Ba h.nn hs (aO h.nn ha (fun cur e=>by injection e with _ e;cases e)),a7.nil _ _ _,h.a.set_ j z,h.w.grown hs h.w.size (fun k e=>by injection e with e;rw[<-e];exact h.hA),h.hH,h.hA⟩;injection e with e;rw[<-e,h.h]at ha;injection ha with ha;injection ha with _ ha;cases ha
theorem RdS.putN (h:RdS w1 wr H gA cs vT vN vR ts ns rs an) (ho:bI w' w1.heap.size v' ns') (hg:wr.grownBy w' vN.ownBlock):RdS w1 w' H gA cs vT v' vR ts ns' rs an:=by
 have hn:=h.nn;have hh:=h.h;have ha:=h.a;unfold UBI at ha;refine⟨zac hh hn (by decide) hg,Ba h.t hg (zai h.t hn (by decide)),ho,(h.r.grown hg fun g e=>?_).more hg.size,?_,h.w.grown hg h.w.size (fun k e=>(aM hn e).1),h.hH,h.hA⟩
 ·obtain⟨_,cur,hc⟩:=aM hn e;exact .inl ⟨aP hc (by decide),aP hc (by decide)⟩
 ·exact zac ha hn (by decide) hg
theorem RdS.putR (h:RdS w1 wr H gA cs vT vN vR ts ns rs an) {rs':List Gm.Rl} (ho:a7 w' w1.heap.size w'.heap.size v' rs') (hg:wr.grownBy w' vR.ownBlock):RdS w1 w' H gA cs vT vN v' ts ns rs' an:=by
 obtain⟨qs,_,h2,_⟩:=id h.r;have hh:=h.h;have ha:=h.a;unfold UBI at ha;exact⟨zac hh h2 (by decide) hg,Ba h.t hg (zai h.t h2 (by decide)),Ba h.nn hg (zai h.nn h2 (by decide)),ho,zac ha h2 (by decide) hg,h.w.grown hg h.w.size (fun k e=>(aM h2 e).1),h.hH,h.hA⟩
theorem RdS.rd (h:RdS w1 wr H gA cs vT vN vR ts ns rs an) (z:Int):aR wr wr.heap.size (.agg #[vT,vN,vR,.int .i64 z]) ⟨ts,ns,rs,z⟩:=by
 obtain⟨AT,cT,rfl,h1,h2⟩:=zbn h.t;obtain⟨AN,cN,rfl,h3,h4⟩:=zbW h.nn;obtain⟨AR,cR,rfl,h5,h6⟩:=zbr h.r (Af _);exact⟨AT,cT,AN,cN,AR,cR,rfl,h1,h3,h5,h2,h4,h6⟩
end
theorem zka {o:Oper} {a:Act} {KK:Act->World->Prop} {Q:Exit->Act->World->Prop} (s x:Operand) (t:TypeId) (ho:o.op=.call {callee:=.builtin .append,args:=#[s,x],argTypes:=#[t,t]}) (ht:Tryz.prog.underlying t=some (.slice 9)) (base:Nat) (v:Value) (ts:List (List Int)) (hs:a.eval s=v) (ab:bI w base v ts) (g c:Nat) (y:List Int) (hx:a.eval x=.slice (some ⟨g,0,none⟩) 1 c) (hz:w.cell? ⟨g,0,none⟩=some (.string (K.str y))) (ac:ts.length<=1000000) (aa:base<=w.heap.size) (hK:∀v' w',bI w' base v' (ts++[y])->w.grownBy w' v.ownBlock->KK (a.put o.dst v') w') :
  o.wp Tryz.prog a w KK Q:=by
 obtain⟨i,hi,ad,ae,af⟩:=Cv zjU;refine EA w s x t ho base 9 i _ 1 16 ht hi ad ae af rfl (by decide) v ts.length (zll ts) hs ab ⟨g,0,none⟩ 1 c [.string (K.str y)] hx rfl ?_ ?_ (by unfold maxLen;omega) (by omega) aa fun v' w' h1 h2 _=>hK v' w' ?_ h2
 ·intro j u hj;rw[zeN,BA];rcases j with _|j
  ·simp at hj;rw[<-hj];exact hz
  ·simp at hj
 ·intro u hu;simp at hu;rcases hu with rfl;rfl
 ·unfold bI zll;rw[AQ,Bf];exact h1
end Go.Proofs.YtcmhaemaophplaaGreat
namespace Go.Proofs.YtcmhaemaophplaaGreat
open Go.RowKit
theorem Gm.an1_re (h:Gm.Ok G) (hx:x∈Gm.krs G):(⟨(Gm.anL G.ns.length (Gm.olds G)).getD x.l.toNat 0,x.r.map (Gm.an1 (Gm.anL G.ns.length (Gm.olds G))),x.p⟩:Gm.Rl)=Gm.re (Gm.olds G) x:=by
 have aa:=(Gm.mem_krs.1 hx).1;have hl:=h.lin x aa;unfold Gm.re
 congr 1
 ·rw[Gm.anL_at (by omega),Bq hl.1,Az (Gm.use_left hx)]
 ·refine List.map_congr_left fun z hz=>?_;unfold Gm.an1 Gm.re1;by_cases h0:z<0
  ·have:=h.sin x aa z hz h0
   rw[Az h0,Az h0,Gm.anL_at (by omega),Bq (by omega),Az (Gm.use_sym hx hz h0)]
  ·rw[AG h0,AG h0]
theorem Gm.kl_at (h:k<(Gm.kl G G.rs.length).length):∃i:Nat,(Gm.kl G G.rs.length)[k]=(i:Int)/\∃hi:i<G.rs.length,∃hk:k<(Gm.krs G).length,(Gm.krs G)[k]=G.rs[i]:=by
 have e:Gm.kl G G.rs.length=(Gm.kept G).map fun j:Nat=>(j:Int):=rfl;have h2:k<(Gm.kept G).length:=by rw[e,Bd]at h;exact h
 have h3:=Gm.kept_lt (AC h2);refine⟨(Gm.kept G)[k],by simp[e],h3,by rw[<-Gm.kept_len];exact h2,Gm.kept_at k h2 h3⟩
theorem Gm.kl_krs (G:Gm.Gr):(Gm.kl G G.rs.length).length=(Gm.krs G).length:=by rw[<-Gm.kept_len,Gm.kl_all,Bd]
theorem Gm.krs_len (G:Gm.Gr):(Gm.krs G).length<=G.rs.length:=B7 _ _
def zcE (w:World) (base:Nat) (v:Value) (G:Gm.Gr):Prop:=∃vT vN vR,v=.agg #[vT,vN,vR,.int .i64 G.st]/\bE w base vT G.ts/\bI w base vN G.ns/\a7 w base w.heap.size vR G.rs
theorem zcE.rd (h:zcE w base v G):aR w w.heap.size v G:=by
 obtain⟨vT,vN,vR,rfl,h1,h2,h3⟩:=h;obtain⟨AT,cT,rfl,a1,a2⟩:=zbn h1;obtain⟨AN,cN,rfl,a3,a4⟩:=zbW h2;obtain⟨AR,cR,rfl,a5,a6⟩:=zbr h3 (Af _);exact⟨AT,cT,AN,cN,AR,cR,rfl,a1,a3,a5,a2,a4,a6⟩
theorem zes {e:TypeId} {size:Nat} {row:Option Nat} (h:w.ownsRow base e size v n xs) (hg:w.grownBy w' row) (hr:∀g,row=some g->g<base):w'.ownsRow base e size v n xs :=
 Ba h hg (by
  cases hv:v.ownBlock with
  | none=>exact .inl rfl
  | some k=>exact .inr (fun e=>by have:=(aM h hv).1;have:=hr k e.symm;omega))
theorem zcE.grown {row:Option Nat} (h:zcE w base v G) (hg:w.grownBy w' row) (hr:∀g,row=some g->g<base):zcE w' base v G:=by
 obtain⟨vT,vN,vR,rfl,h1,h2,qs,a1,a2,a3,a4⟩:=h;refine⟨vT,vN,vR,rfl,zes h1 hg hr,zes h2 hg hr,qs,a1,zes a2 hg hr,fun k hk=>Ag (a3 k hk) hg.size,fun q hq=>⟨(a4 q hq).1,(a4 q hq).2.1,fun hn=>?_⟩⟩;obtain⟨g,cur,e,hb,hN,hh,hc⟩:=(a4 q hq).2.2 hn;exact⟨g,cur,e,hb,Ag hN hg.size,(hg.block g (Ad.1 hh).1 (fun e=>by have:=hr g e.symm;omega)).trans hh,hc⟩
theorem zcE.less (h:zcE w base v G) (hb:base'<=base):zcE w base' v G:=by
 obtain⟨vT,vN,vR,rfl,h1,h2,qs,a1,a2,a3,a4⟩:=h;refine⟨vT,vN,vR,rfl,za9 h1 hb,za9 h2 hb,qs,a1,za9 a2 hb,a3,fun q hq=>⟨(a4 q hq).1,(a4 q hq).2.1,fun hn=>?_⟩⟩;obtain⟨g,cur,e,aa,hN,hh⟩:=(a4 q hq).2.2 hn;exact⟨g,cur,e,Am hb aa,hN,hh⟩
theorem UBI.row (h:UBI w g zs) (hb:base<=g):zgA w base w.heap.size (some ⟨g,0,none⟩) zs:=fun _ =>
 ⟨g,_,rfl,hb,h.lt,h,fun j hj=>by simp[hj]⟩
theorem Gm.anL_ok (h:Gm.Ok G) (n i:Nat) (hi:i<n):0<=(Gm.anL n (Gm.olds G)).getD i 0/\(Gm.anL n (Gm.olds G)).getD i 0<=1000:=by
 rw[Gm.anL_at hi];split
 ·rename_i hm
  have h1:=Gm.pos_lt hm;have h2:=Gm.olds_le h;have h3:=(Gm.nons_iff G).1 h.n;omega
 ·omega
theorem Gm.krs_next (h:k<(Gm.krs G).length):((Gm.krs G).take (k+1)).map (Gm.re (Gm.olds G))=((Gm.krs G).take k).map (Gm.re (Gm.olds G))++[Gm.re (Gm.olds G) (Gm.krs G)[k]]:=by
 rw[AI h,Bf,ED]
theorem zek (v:Value) (G:Gm.Gr) (B BK:Nat) (AK:Option Addr) (cK:Nat) (w:World) (hg:aR w B v G) (hf:Gm.Fit G) (ab:Gm.Ok G) (hp:Gm.Gn true G.rs G.st) (hB:B<=w.heap.size) (hk:RdI w BK AK (Gm.kl G G.rs.length)) (b6:BK<=w.heap.size) :
  Calls Tryz.prog 99 #[v,.slice AK (Gm.kl G G.rs.length).length cK] w fun e w'=>∃g,e=.returned g/\zcE w' w.heap.size g (Gm.reduce G)/\Below w.heap.size w w':=by
 obtain⟨AT,cT,AN,cN,AR,cR,rfl,_,⟨cZ,c3⟩,_,hT,hN,hR⟩:=hg;obtain⟨w1,ac⟩:∃y,y=(w.alloc (.cells #[.slice AT G.ts.length cT,.slice AN G.ns.length cN,.slice AR G.rs.length cR,.int .i64 G.st] 26)).alloc (.cells #[.slice none 0 0,.slice none 0 0,.slice none 0 0,.int .i64 0] 26):=⟨_,rfl⟩
 have b7:w1.heap.size=w.heap.size+2:=by rw[ac];simp
 have bc:Hid (Below w.heap.size w w1):=aA (by rw[ac];exact((AB _ w).alloc (Af _) _).alloc (by simp) _);have b8:Hid (w1.heap[w.heap.size]?=some (.cells #[.slice AT G.ts.length cT,.slice AN G.ns.length cN,.slice AR G.rs.length cR,.int .i64 G.st] 26 (0,0))):=aA (by rw[ac,Bu _ _ _ (by simp)];exact AE w _);have cE:Hid (w1.heap[w.heap.size+1]?=some (.cells #[.slice none 0 0,.slice none 0 0,.slice none 0 0,.int .i64 0] 26 (0,0))):=aA (by rw[ac];have:=AE (w.alloc (.cells #[.slice AT G.ts.length cT,.slice AN G.ns.length cN,.slice AR G.rs.length cR,.int .i64 G.st] 26)) (.cells #[.slice none 0 0,.slice none 0 0,.slice none 0 0,.int .i64 0] 26);simpa using this);have ag:=aA b7;have V:=aA ab;have cF:=aA hf;have cG:=aA hp;have ah:Hid (G.ns.length<=40):=aA (by have:=(Gm.nons_iff G).1 ab.n;omega);have bd:Hid (G.ts.length<=24):=aA (by have:=ab.t;unfold Gm.terms at this;rw[AV]at this;exact Co this.1);have bf:Hid (G.rs.length<=40):=aA ab.r40;have a3:Hid ((Gm.kl G G.rs.length).length=(Gm.krs G).length):=aA (Gm.kl_krs G);have HB:=aA hB;have b9:=aA (fun(y:World) (h:Below w.heap.size w y)=>hR.keep fun g o hg=>h.cell (p:=⟨g,o,none⟩) (Ag hg hB));have cH:=aA (fun(y:World) (h:Below w.heap.size w y)=>hN.keep fun g o hg=>h.cell (p:=⟨g,o,none⟩) (Ag hg hB));have bg:=aA (fun(y:World) (h:Below w.heap.size w y)=>hk.below h b6);have ad:=aA (fun(y:World) (h:Below w1.heap.size w1 y)=>bc.o.trans (h.mono (by omega)));have ca:=aA (zih AT cT w.heap.size G.ts w1 ((hT.keep fun g o hg=>bc.o.cell (p:=⟨g,o,none⟩) (Ag hg hB)).more hB) (by omega) (by have:=bd.o;omega));have HQ:=aA (fun(y:World) (h:Below w1.heap.size w1 y)=>(h.block w.heap.size (by omega)).trans b8.o);have c0:=aT b8.o;have c4:w.heap.size<w1.heap.size:=by omega
 have cI:(G.ns.length:Int)<=9223372036854775807:=by omega
 have ai:((Gm.kl G G.rs.length).length:Int)<=9223372036854775807:=by have:=a3.o;have:=Gm.krs_len G;have:=ab.r40;omega
 have c5:=ah.o;clear hT hN hR b7 ab hf hp hB hk b6;obtain⟨ks,hL⟩:∃ks,ks=Gm.kl G G.rs.length:=⟨_,rfl⟩
 rw[<-hL]at bg a3 ai ⊢;have HL:=aA hL;clear hL
 go_enter Tryz.func99,Tryz.ntmps99
 go_upto_region 1 with fail
 rw[<-ac];clear ac;go_upto_region 2 with fail
 refine ca.o.mono ?_;rintro _ w2 ⟨v2,rfl,bi,cb⟩;obtain⟨A2,c2,rfl,_,_⟩:=aN bi;have cc:=aA bi;have a4:=aA cb;clear bi cb ca c0;go_upto_region 2 with fail
 obtain⟨w3,aj⟩:∃y,y=w2.alloc (.cells #[.slice A2 G.ts.length c2,.slice none 0 0,.slice none 0 0,.int .i64 0] 26):=⟨_,rfl⟩
 have ak:Hid (Below w1.heap.size w1 w3):=aA (by rw[aj];exact a4.o.alloc a4.o.size _);have cd:Hid (bE w3 w1.heap.size (.slice A2 G.ts.length c2) G.ts):=aA (by rw[aj];exact Dc cc.o _);have bj:Hid (w3.heap[w2.heap.size]?=some (.cells #[.slice A2 G.ts.length c2,.slice none 0 0,.slice none 0 0,.int .i64 0] 26 (0,0))):=aA (by rw[aj];exact AE w2 _);rw[<-aj];clear aj cc;have c1:=aU (HQ.o w3 ak.o);have l3:=Bi c1;go_upto_region 3 with(at_make;refine zex rfl (.tmp 19) (.tmp 19) _ rfl Tryz.underlying38 G.ns.length _ _ rfl rfl rfl rfl (by omega) ?_;intro w4 ce a5 bk)
 have al:=aA (ak.o.trans (a5.mono ak.o.size));have bl:=aA ce;have cf:Hid (bE w4 w1.heap.size (.slice A2 G.ts.length c2) G.ts):=aA (Ba cd.o (aL a5 .none) (zat _));have cg:=aA (aC a5 bj.o);have ch:Hid (w1.heap.size<=w3.heap.size):=aA ak.o.size;have ci:Hid (w2.heap.size<w3.heap.size):=aA (Ad.1 bj.o).1;clear ce a5 c1 l3 cd bj ak;have c1:=aU (HQ.o w4 al.o);have l4:=Bi c1;go_upto_region 4 with(at_make;refine zdk rfl (.tmp 23) (.tmp 23) _ rfl Tryz.underlying43 G.ns.length _ _ rfl rfl rfl rfl (by omega) ?_;intro w5 cj am bm)
 have bo:Hid (RdS w1 w5 w2.heap.size w3.heap.size #[.slice A2 G.ts.length c2,.slice none 0 0,.slice none 0 0,.int .i64 0] (.slice A2 G.ts.length c2) (.slice none 0 0) (.slice none 0 0) G.ts (Gm.nmL G (Gm.oK G 0)) [] (Gm.anL G.ns.length (Gm.oK G 0))):=aA
  ⟨aC am cg.o,Ba cf.o (aL am .none) (zat _),bI.nil _ _,a7.nil _ _ _,by rw[show Gm.oK G 0=[] from rfl,Gm.anL_nil];exact bl.o.below am bl.o.lt,al.o.trans (am.mono al.o.size),a4.o.size,ch.o⟩
 have bp:Hid (UBO w5 w4.heap.size (Gm.cmL G.ns.length (Gm.oK G 0))):=aA (by rw[show Gm.oK G 0=[] from rfl,Gm.cmL_nil];exact cj);have br:Hid (w1.heap.size<=w4.heap.size):=aA al.o.size;have ao:Hid (w2.heap.size≠w4.heap.size):=aA (by have:=ci.o;omega);obtain⟨vT,bs⟩:∃v,v=Value.slice A2 G.ts.length c2:=⟨_,rfl⟩
 obtain⟨H,hH⟩:∃x,x=w2.heap.size:=⟨_,rfl⟩
 obtain⟨gA,bu⟩:∃x,x=w3.heap.size:=⟨_,rfl⟩
 obtain⟨gC,a6⟩:∃x,x=w4.heap.size:=⟨_,rfl⟩
 rw[<-bs,<-hH,<-bu]at bo;rw[<-a6]at bp br;rw[<-hH,<-a6]at ao;rw[<-bs,<-hH,<-bu,<-a6];clear bs hH bu a6 cj am c1 l4 bk bm bl cf cg al a4 ch ci;go_wp2;go_loopw [27] (fun vk wr=>∃(k:Nat) (vN:Value),k<=ks.length/\vk=.int .i64 k/\Hid (RdS w1 wr H gA #[vT,vN,.slice none 0 0,.int .i64 0] vT vN (.slice none 0 0) G.ts (Gm.nmL G (Gm.oK G k)) [] (Gm.anL G.ns.length (Gm.oK G k)))/\Hid (UBO wr gC (Gm.cmL G.ns.length (Gm.oK G k)))) (fun vk _=>ks.length-(intOf vk).toNat)
 case atStart=>exact⟨0,_,AU _,rfl,bo,bp⟩
 case round =>
  clear bo bp;obtain⟨k,vN,hk,rfl,HS,HC⟩:=hrel;by_cases N:k<ks.length
  ·obtain⟨gk,ok,rfl,cJ,ap⟩:=bg.o wr (ad.o wr HS.o.w) (by omega);have kk:=ap k N;rw[L.gd_lt N]at kk;have lk:=Bi kk;obtain⟨i,aq,hi,hkk,ar⟩:=Gm.kl_at (G:=G) (k:=k) (by rw[<-HL.o];exact N);have O:ks[k]=(i:Int):=by simp only[HL.o];exact aq
   rw[O]at kk;have au:=aA (Gm.oK_next hkk);rw[ar]at au;obtain⟨g,o,rfl,cL,hc⟩:=b9.o wr (ad.o wr HS.o.w) (by omega);have k0:=(hc i hi).1;have lg:=Bi k0;have aw:=V.o.lin _ (AC hi);have q1:=aU (HQ.o wr HS.o.w);have q2:=aZ (HQ.o wr HS.o.w);have lq:=Bi q2;have cM:=aA (Gm.oK_len V.o k);generalize (G.rs[i]).l=l at *;obtain⟨m,rfl⟩:∃m:Nat,l=(m:Int):=⟨l.toNat,by omega⟩
   have c6:=aw.2;have ae:m<G.ns.length:=by omega
   have ck:(i:Int)<(G.rs.length:Int):=by omega
   have km:=HC.o.cell m (by rw[Gm.cmL_len];exact ae);rw[Gm.cmL_at ae]at km;have lc:=HC.o.lt;clear ap hc ar hkk aq O aw;by_cases Z:(m:Int)∈Gm.oK G k
   ·rw[AL Z]at km;have HX:=aA (au.o.trans (Az Z));clear au Z;go_wp2;go_roundw
    case rel=>exact⟨k+1,vN,N,by go_num,by rw[HX.o];exact HS,by rw[HX.o];exact HC⟩
    case measure=>simp[intOf];omega
   ·rw[AO Z]at km;have HX:=aA (au.o.trans (AG Z));have cO:=aA Z;clear au Z;have cl:Hid (Gm.nmL G (Gm.oK G (k+1))=Gm.nmL G (Gm.oK G k)++[G.ns.getD m []]):=aA (by rw[HX.o];simp[Gm.nmL]);obtain⟨A',c',rfl,_,_⟩:=aN HS.o.nn;go_upto_region 9 with fail
    clear kk lk k0 lg q1 q2 lq km lc ck;have bh:=fun y:Calm.OnB H wr=>aU (y.2.trans HS.o.h);refine CalmN.region_tree (fun x=>∃y:Calm.OnB H wr,x=y.1) (.one [0,1,2,3,4,5,6,7] 8 (.one [9] 10 (.fin []))) (by kernel_rfl) (by kernel_rfl) (fun _ _ d _ _ h=>by cases d <;> exact h) ⟨⟨wr.drew,rfl⟩,rfl⟩ ?_;simp only[CalmN.wpT,CalmN.wpSt,CalmN.pickOps,Aw,Ah,Aj];repeat (go_big_quiet_step (fail))
    refine Aq ?_;clear bh;have bv:=aA HS.o.drew;have aa:=aA (HC.o.drew);have bw:wr.drew.heap[H]?=wr.heap[H]?:=rfl;obtain⟨wd,cm⟩:∃y,y=wr.drew:=⟨_,rfl⟩
    rw[<-cm]at bv aa bw ⊢;clear cm;have kc:=aa.o.cell m (by rw[Gm.cmL_len];exact ae);have fc:=aa.o.frozen m;have lc:=aa.o.lt;have ax:(wd.setCell ⟨gC,m,none⟩ (.bool true)).heap[H]?=wr.heap[H]?:=(AP wd ⟨gC,m,none⟩ (.bool true) H ao.o).trans bw;have X:=aA (bv.o.set aa.o (by decide) (by decide) (by decide) (by decide) (fun e=>ao.o e.symm) br.o m (.bool true));have a9:Hid (UBO (wd.setCell ⟨gC,m,none⟩ (.bool true)) gC (Gm.cmL G.ns.length (Gm.oK G (k+1)))):=aA (by rw[HX.o,<-Gm.cmL_snoc];exact aa.o.set_ m true);intro KK f;rw[Az (by rfl)];go_wp2_with fail
    refine f _ _ ⟨⟨_,ax⟩,rfl⟩ _ (fun _ h=>h) ⟨⟨_,ax⟩,rfl⟩ ?_;obtain⟨w6,cn⟩:∃y,y=wd.setCell ⟨gC,m,none⟩ (.bool true):=⟨_,rfl⟩
    rw[<-cn]at X a9 ax ⊢;clear cn kc fc lc bv aa bw f;repeat (go_big_quiet_step (fail))
    refine Aq ?_;have ka:=X.o.a.cell m (by rw[Gm.anL_len];exact ae);have fa:=X.o.a.frozen m;have la:=X.o.a.lt;have co:H≠gA:=fun e=>by have h1:=X.o.h;have h2:=X.o.a;unfold UBI at h2;rw[<-e,h1]at h2;injection h2 with h2;injection h2 with _ h2;cases h2
    have cp:gC≠gA:=fun e=>by have h1:=a9.o;have h2:=X.o.a;unfold UBO at h1;unfold UBI at h2;rw[<-e,h1]at h2;injection h2 with h2;injection h2 with _ h2;cases h2
    have bx:(Gm.nmL G (Gm.oK G k)).length=(Gm.oK G k).length:=by simp[Gm.nmL]
    have bz:(w6.setCell ⟨gA,m,none⟩ (.int .i64 (Gm.nmL G (Gm.oK G k)).length)).heap[H]?=wr.heap[H]?:=(AP w6 ⟨gA,m,none⟩ _ H co).trans ax
    have ay:Hid (RdS w1 (w6.setCell ⟨gA,m,none⟩ (.int .i64 (Gm.nmL G (Gm.oK G k)).length)) H gA #[vT,.slice A' (Gm.nmL G (Gm.oK G k)).length c',.slice none 0 0,.int .i64 0] vT (.slice A' (Gm.nmL G (Gm.oK G k)).length c') (.slice none 0 0) G.ts (Gm.nmL G (Gm.oK G k)) [] (Gm.anL G.ns.length (Gm.oK G (k+1)))):=aA (by
     have q:=X.o.setA m ((Gm.nmL G (Gm.oK G k)).length:Int);rw[bx]at q;rw[HX.o,<-Gm.anL_snoc cO.o];rw[bx];exact q)
    have bD:=aA (a9.o.far (p:=⟨gA,m,none⟩) cp (.int .i64 (Gm.nmL G (Gm.oK G k)).length));clear bx co cp;intro KK f;rw[Az (by rfl)];go_wp2_with fail
    refine f _ _ ⟨⟨_,bz⟩,rfl⟩ _ (fun _ h=>h) ⟨⟨_,bz⟩,rfl⟩ ?_;obtain⟨w7,cq⟩:∃y,y=w6.setCell ⟨gA,m,none⟩ (.int .i64 (Gm.nmL G (Gm.oK G k)).length):=⟨_,rfl⟩
    rw[<-cq]at ay bD ⊢;clear cq ka fa la X a9 ax bz f;refine Aq ?_;go_upto_region 10 with fail
    obtain⟨gN,oN,rfl,c7,cr⟩:=cH.o w7 (ad.o w7 ay.o.w) (by omega);have kN:=cr m ae;rw[show G.ns[m]=G.ns.getD m [] by rw[Ap,AF ae];rfl]at kN;obtain⟨nm,cs⟩:∃s,s=G.ns.getD m []:=⟨_,rfl⟩
    rw[<-cs]at kN cl;clear cs;have af:gN<w1.heap.size:=by have:=HB.o;have:=ag.o;omega
    have bN:=fun y:Calm.On w1.heap.size w1=>(y.2.cell (p:=⟨gN,oN+m,none⟩) af).trans ((ay.o.w.cell (p:=⟨gN,oN+m,none⟩) af).symm.trans kN);have bq:=fun y:Calm.On w1.heap.size w1=>aU (HQ.o y.1 y.2);have E:=aA ay.o.drew;have cu:=aA bD.o.drew;refine CalmN.region_tree (fun x=>∃y:Calm.On w1.heap.size w1,x=y.1) (.two [0,2,3,4,5,6] 1 (.one [] 7 (.one [] 8 (.one [9] 10 (.fin [])))) 7 (.one [] 1 (.one [] 8 (.one [9] 10 (.fin []))))) (by kernel_rfl) (by kernel_rfl) (fun _ _ d _ _ h=>by cases d <;> exact h) ⟨⟨w7.drew,E.o.w⟩,rfl⟩ ?_;simp only[CalmN.wpT,CalmN.wpSt,CalmN.pickOps,Aw,Ah,Aj];repeat (go_big_quiet_step (fail))
    refine Aq ?_;clear bN bq kN cr;obtain⟨w8,az⟩:∃y,y=w7.drew:=⟨_,rfl⟩
    rw[<-az]at E cu ⊢;clear az ay bD;have F:=aA (E.o.alloc (.cells #[.string (K.str nm)] 9));have cP:=aA (cu.o.alloc (.cells #[.string (K.str nm)] 9));have cQ:Hid ((w8.alloc (.cells #[.string (K.str nm)] 9)).cell? ⟨w8.heap.size,0,none⟩=some (.string (K.str nm))):=aA (CZ _ _ _ 0);have n8:=AD w8 _ 1 _ _ _ E.o.h;have n9:=AD _ _ 1 _ _ _ F.o.h;have lh8:=(Ad.1 E.o.h).1;have lh9:=(Ad.1 F.o.h).1;refine⟨?_,?_⟩
    focus
     intro KK f;rw[Az (by rfl)];go_wp2_with fail
     refine f _ _ ⟨⟨_,E.o.w⟩,rfl⟩ _ (fun _ h=>h) ⟨⟨_,E.o.w⟩,rfl⟩ ?_
    rotate_left
    focus
     intro KK f;rw[Az (by rfl)];go_wp2_with fail
     refine f _ _ ⟨⟨_,F.o.w⟩,rfl⟩ _ (fun _ h=>h) ⟨⟨_,F.o.w⟩,rfl⟩ ?_
    all_goals
     refine Aq ?_;intro KK f;rw[Az (by rfl)];go_wp2_with fail
     refine f _ _ ⟨⟨_,F.o.w⟩,rfl⟩ _ (fun _ h=>h) ⟨⟨_,F.o.w⟩,rfl⟩ ?_;refine Aq ?_;intro KK f;rw[Az (by rfl)];refine zka (.tmp 52) (.tmp 58) _ rfl Tryz.underlying23 w1.heap.size _ _ rfl F.o.nn w8.heap.size 1 _ rfl cQ.o (by have:=cM.o;have:=ah.o;unfold Gm.nmL;rw[Bd];omega) F.o.w.size ?_;intro v' w10 A D;have b:=aA (F.o.putN A D);have bM:Hid (UBO w10 gC (Gm.cmL G.ns.length (Gm.oK G (k+1)))):=aA (zac cP.o F.o.nn (by decide) D);obtain⟨A10,c10,rfl,_,_⟩:=aN A;clear A D;obtain⟨n10,I⟩:∃n,n=(Gm.nmL G (Gm.oK G k)++[nm]).length:=⟨_,rfl⟩
     rw[<-I]at b ⊢;clear I;refine f _ _ ⟨⟨w10,b.o.w⟩,rfl⟩ _ (fun _ h=>h) ⟨⟨w10,b.o.w⟩,rfl⟩ ?_
     go_frame
     repeat (go_big_quiet_step (fail))
     refine Aq ?_;intro KK f;rw[Az (by rfl)];have j1:=AD w10 _ 1 _ _ _ b.o.h;have f1:=AH w10 _ 1 _ _ b.o.h;have lh:=(Ad.1 b.o.h).1;have C:=aA (b.o.setH 1 (.slice A10 n10 c10));have bT:=aA (UBO.far bM.o (p:=⟨H,1,none⟩) (fun e=>ao.o e.symm) (.slice A10 n10 c10));go_wp2_with fail
     refine f _ _ ⟨⟨_,C.o.w⟩,rfl⟩ _ (fun _ h=>h) ⟨⟨_,C.o.w⟩,rfl⟩ ?_;clear j1 f1 lh;refine Aq ?_;go_wp2;go_roundw
     case rel=>exact⟨k+1,_,N,by go_num,by rw[<-cl.o,HX.o]at C;rw[HX.o];exact C,bT⟩
     case measure=>simp[intOf];omega
  ·obtain rfl:k=ks.length:=by omega
   have cS:Hid (Gm.oK G ks.length=Gm.olds G):=aA (by rw[a3.o];exact Gm.oK_all G);rw[cS.o]at HS;clear HC br ao;go_wp2;go_loopw [64] (fun vk wr=>∃(k:Nat) (vR:Value),k<=ks.length/\vk=.int .i64 k/\Hid (RdS w1 wr H gA #[vT,vN,vR,.int .i64 0] vT vN vR G.ts (Gm.nmL G (Gm.olds G)) (((Gm.krs G).take k).map (Gm.re (Gm.olds G))) (Gm.anL G.ns.length (Gm.olds G)))) (fun vk _=>ks.length-(intOf vk).toNat)
   case atStart=>exact⟨0,_,AU _,rfl,HS⟩
   case round =>
    clear HS N;obtain⟨k,vR,hk,rfl,HS⟩:=hrel;by_cases N:k<ks.length
    ·obtain⟨gk,ok,rfl,cJ,ap⟩:=bg.o wr (ad.o wr HS.o.w) (by omega);have kk:=ap k N;rw[L.gd_lt N]at kk;have lk:=Bi kk;obtain⟨i,aq,hi,hkk,ar⟩:=Gm.kl_at (G:=G) (k:=k) (by rw[<-HL.o];exact N);have O:ks[k]=(i:Int):=by simp only[HL.o];exact aq
     rw[O]at kk;have bX:=aA (Gm.krs_next hkk);have bY:(Gm.krs G)[k]∈Gm.krs G:=AC hkk;rw[ar]at bX bY;have ba:=aA (Gm.an1_re V.o bY);have a0:G.rs[i]∈G.rs:=AC hi;have e:=cF.o.r _ a0;have aw:=V.o.lin _ a0;have cU:=(Gm.rule_in (V.o.rr _ a0)).1;obtain⟨g,o,rfl,cL,hc⟩:=b9.o w1 bc.o (by omega);obtain⟨k0,⟨A',c',k1,_,_,cv⟩,k2⟩:=hc i hi;have bb:=aA (fun(y:World) (h:Below w1.heap.size w1 y) (hu:UBI y gA (Gm.anL G.ns.length (Gm.olds G)))=>zcC G.rs[i] (Gm.anL G.ns.length (Gm.olds G)) A' (some ⟨gA,0,none⟩) c' G.ns.length B y.heap.size y (cv.keep fun g o hg=>h.cell (p:=⟨g,o,none⟩) (by have:=HB.o;have:=ag.o;simp only;omega)) (hu.rd0 hu.lt) (Am HB.o (ad.o y h).size) (Af _) e.2.2 (fun z hz h0=>by rw[Gm.anL_len];exact V.o.sin _ a0 z hz h0) (by rw[Gm.anL_len];exact aw) (by omega) (fun i hi=>Gm.anL_ok V.o _ i (by rwa [Gm.anL_len]at hi)));rw[Gm.anL_len]at bb;have af:g<w1.heap.size:=by have:=HB.o;have:=ag.o;omega
     have cw:Hid (((Gm.krs G).take k).length<=40):=aA (by rw[Bb];have:=Gm.krs_len G;have:=bf.o;omega);generalize G.rs[i]=x at *;obtain⟨l,r,pz⟩:=x;simp only at k0 k1 k2 bb ba cU;have ck:(i:Int)<(G.rs.length:Int):=by omega
     go_upto_region 15 with fail
     have b0:=fun y:Calm.On w1.heap.size w1=>(y.2.cell (p:=⟨g,o+i*3,none⟩) af).trans k0;have b1:=fun y:Calm.On w1.heap.size w1=>(y.2.cell (p:=⟨g,o+i*3+1,none⟩) af).trans k1;have b2:=fun y:Calm.On w1.heap.size w1=>(y.2.cell (p:=⟨g,o+i*3+2,none⟩) af).trans k2;have bq:=fun y:Calm.On w1.heap.size w1=>aZ (HQ.o y.1 y.2);have E:=aA HS.o.drew;clear kk lk ap hc cv hkk ar aq O bY a0 e aw k0 k1 k2;refine CalmN.region_tree (fun x=>∃y:Calm.On w1.heap.size w1,x=y.1) (.two [0,2,3,4,5,6,7] 1 (.one [] 8 (.one [] 9 (.one [] 10 (.one [11] 12 (.fin []))))) 8 (.two [] 1 (.one [] 9 (.one [] 10 (.one [11] 12 (.fin [])))) 9 (.one [] 1 (.one [] 10 (.one [11] 12 (.fin [])))))) (by kernel_rfl) (by kernel_rfl) (fun _ _ d _ _ h=>by cases d <;> exact h) ⟨⟨wr.drew,E.o.w⟩,rfl⟩ ?_;simp only[CalmN.wpT,CalmN.wpSt,CalmN.pickOps,Aw,Ah,Aj];repeat (go_big_quiet_step (fail))
     refine Aq ?_;clear b0 b1 b2 bq;obtain⟨w8,az⟩:∃y,y=wr.drew:=⟨_,rfl⟩
     rw[<-az]at E ⊢;clear az HS;have n8:=AD w8 _ 2 _ _ _ E.o.h;have lh8:=(Ad.1 E.o.h).1;obtain⟨av,cx⟩:∃a,a=(Gm.anL G.ns.length (Gm.olds G)).getD l.toNat 0:=⟨_,rfl⟩
     rw[<-cx]at bb ba;clear cx;refine⟨?_,?_⟩
     focus
      intro KK f;rw[Az (by rfl)];go_wp2_with fail
      refine f _ _ ⟨⟨_,E.o.w⟩,rfl⟩ _ (fun _ h=>h) ⟨⟨_,E.o.w⟩,rfl⟩ ?_;refine Aq ?_
     rotate_left
     rotate_left
     all_goals
      intro KK f;rw[Az (by rfl)];go_wp2_with fail
      refine(bb.o w8 E.o.w E.o.a).mono ?_;rintro _ w9 ⟨g9,rfl,cy,cz,cA⟩;have F:=aA (E.o.below cA);have cB:=aA cz;have cC:=aA (Am E.o.w.size cy);have n9:=AD w9 _ 2 _ _ _ F.o.h;have lh9:=(Ad.1 F.o.h).1;have J:=aA (F.o.alloc (.cells #[.int .i64 av,.slice (some ⟨g9,0,none⟩) r.length r.length,.int .i64 pz] 48));have na:=AD _ _ 2 _ _ _ J.o.h;have lha:=(Ad.1 J.o.h).1;clear cA cz cy;go_wp2_with fail
      refine f _ _ ⟨⟨w9,F.o.w⟩,rfl⟩ _ (fun _ h=>h) ⟨⟨w9,F.o.w⟩,rfl⟩ ?_;refine Aq ?_
     focus
      intro KK f;rw[Az (by rfl)];go_wp2_with fail
      refine f _ _ ⟨⟨_,J.o.w⟩,rfl⟩ _ (fun _ h=>h) ⟨⟨_,J.o.w⟩,rfl⟩ ?_;refine Aq ?_;intro KK f;rw[Az (by rfl)];have U:=(cB.o.alloc (.cells #[.int .i64 av,.slice (some ⟨g9,0,none⟩) r.length r.length,.int .i64 pz] 48)).row cC.o
      have a1:∀j u,(rlC (⟨av,r.map (Gm.an1 (Gm.anL G.ns.length (Gm.olds G))),pz⟩,some ⟨g9,0,none⟩,r.length))[j]?=some u->(w9.alloc (.cells #[.int .i64 av,.slice (some ⟨g9,0,none⟩) r.length r.length,.int .i64 pz] 48)).cell? ⟨w9.heap.size,j,none⟩=some u:=fun j u hj=>by
       have h:=zaj w9 [.int .i64 av,.slice (some ⟨g9,0,none⟩) r.length r.length,.int .i64 pz] 48 j;refine h.trans ?_
       simpa[rlC] using hj
      refine zeL (.tmp 69) (.tmp 77) _ rfl Tryz.underlying24 w1.heap.size _ _ _ rfl J.o.r w9.heap.size 1 (⟨av,r.map (Gm.an1 (Gm.anL G.ns.length (Gm.olds G))),pz⟩,some ⟨g9,0,none⟩,r.length) rfl a1 ⟨by simp,by simp only;omega,U⟩ (by have:=cw.o;rw[Bd];omega) J.o.w.size (Af _) ?_;intro v' w10 A D;rw[ba.o,<-bX.o]at A;have b:=aA (J.o.putR A D);obtain⟨A10,c10,rfl,_,_⟩:=zao A;clear A D;obtain⟨n10,I⟩:∃n,n=(((Gm.krs G).take (k+1)).map (Gm.re (Gm.olds G))).length:=⟨_,rfl⟩
      rw[<-I]at b ⊢;clear I a1 U;refine f _ _ ⟨⟨w10,b.o.w⟩,rfl⟩ _ (fun _ h=>h) ⟨⟨w10,b.o.w⟩,rfl⟩ ?_
      go_frame
      repeat (go_big_quiet_step (fail))
      refine Aq ?_;intro KK f;rw[Az (by rfl)];have j2:=AD w10 _ 2 _ _ _ b.o.h;have f2:=AH w10 _ 2 _ _ b.o.h;have lh:=(Ad.1 b.o.h).1;have C:=aA (b.o.setH 2 (.slice A10 n10 c10));go_wp2_with fail
      refine f _ _ ⟨⟨_,C.o.w⟩,rfl⟩ _ (fun _ h=>h) ⟨⟨_,C.o.w⟩,rfl⟩ ?_;clear j2 f2 lh;refine Aq ?_;go_wp2;go_roundw
      case rel=>exact⟨k+1,_,N,by go_num,C⟩
      case measure=>simp[intOf];omega
     focus
      refine⟨?_,?_⟩
      focus
       intro KK f;rw[Az (by rfl)];go_wp2_with fail
       refine f _ _ ⟨⟨_,F.o.w⟩,rfl⟩ _ (fun _ h=>h) ⟨⟨_,F.o.w⟩,rfl⟩ ?_
      rotate_left
      focus
       intro KK f;rw[Az (by rfl)];go_wp2_with fail
       refine f _ _ ⟨⟨_,J.o.w⟩,rfl⟩ _ (fun _ h=>h) ⟨⟨_,J.o.w⟩,rfl⟩ ?_
      all_goals
       refine Aq ?_;intro KK f;rw[Az (by rfl)];go_wp2_with fail
       refine f _ _ ⟨⟨_,J.o.w⟩,rfl⟩ _ (fun _ h=>h) ⟨⟨_,J.o.w⟩,rfl⟩ ?_;refine Aq ?_;intro KK f;rw[Az (by rfl)];have U:=(cB.o.alloc (.cells #[.int .i64 av,.slice (some ⟨g9,0,none⟩) r.length r.length,.int .i64 pz] 48)).row cC.o
       have a1:∀j u,(rlC (⟨av,r.map (Gm.an1 (Gm.anL G.ns.length (Gm.olds G))),pz⟩,some ⟨g9,0,none⟩,r.length))[j]?=some u->(w9.alloc (.cells #[.int .i64 av,.slice (some ⟨g9,0,none⟩) r.length r.length,.int .i64 pz] 48)).cell? ⟨w9.heap.size,j,none⟩=some u:=fun j u hj=>by
        have h:=zaj w9 [.int .i64 av,.slice (some ⟨g9,0,none⟩) r.length r.length,.int .i64 pz] 48 j;refine h.trans ?_
        simpa[rlC] using hj
       refine zeL (.tmp 69) (.tmp 77) _ rfl Tryz.underlying24 w1.heap.size _ _ _ rfl J.o.r w9.heap.size 1 (⟨av,r.map (Gm.an1 (Gm.anL G.ns.length (Gm.olds G))),pz⟩,some ⟨g9,0,none⟩,r.length) rfl a1 ⟨by simp,by simp only;omega,U⟩ (by have:=cw.o;rw[Bd];omega) J.o.w.size (Af _) ?_;intro v' w10 A D;rw[ba.o,<-bX.o]at A;have b:=aA (J.o.putR A D);obtain⟨A10,c10,rfl,_,_⟩:=zao A;clear A D;obtain⟨n10,I⟩:∃n,n=(((Gm.krs G).take (k+1)).map (Gm.re (Gm.olds G))).length:=⟨_,rfl⟩
       rw[<-I]at b ⊢;clear I a1 U;refine f _ _ ⟨⟨w10,b.o.w⟩,rfl⟩ _ (fun _ h=>h) ⟨⟨w10,b.o.w⟩,rfl⟩ ?_
       go_frame
       repeat (go_big_quiet_step (fail))
       refine Aq ?_;intro KK f;rw[Az (by rfl)];have j2:=AD w10 _ 2 _ _ _ b.o.h;have f2:=AH w10 _ 2 _ _ b.o.h;have lh:=(Ad.1 b.o.h).1;have C:=aA (b.o.setH 2 (.slice A10 n10 c10));go_wp2_with fail
       refine f _ _ ⟨⟨_,C.o.w⟩,rfl⟩ _ (fun _ h=>h) ⟨⟨_,C.o.w⟩,rfl⟩ ?_;clear j2 f2 lh;refine Aq ?_;go_wp2;go_roundw
       case rel=>exact⟨k+1,_,N,by go_num,C⟩
       case measure=>simp[intOf];omega
    ·obtain rfl:k=ks.length:=by omega
     rw[a3.o,Bk]at HS;obtain⟨AT5,cT5,rfl,_,_⟩:=aN HS.o.t;obtain⟨AN5,cN5,rfl,_,_⟩:=aN HS.o.nn;obtain⟨AR5,cR5,rfl,_,_⟩:=zao HS.o.r;have cV:=V.o.s0;have bZ:=V.o.s1;obtain⟨m,hm⟩:∃m:Nat,G.st=(m:Int):=⟨G.st.toNat,by omega⟩
     have HP:Hid ((Gm.anL G.ns.length (Gm.olds G)).getD m 0=Gm.pos (Gm.olds G) G.st):=aA (by rw[Gm.anL_at (by omega),<-hm,Az (Gm.st_in cG.o)]);have q3:=bG (HQ.o wr HS.o.w);rw[hm]at q3;rw[hm]at bZ;have km:=HS.o.a.cell m (by rw[Gm.anL_len];omega);rw[HP.o]at km;have la:=HS.o.a.lt;have lq:=Bi q3;have j3:=AD wr _ 3 _ _ _ HS.o.h;have f3:=AH wr _ 3 _ _ HS.o.h;have lh:=(Ad.1 HS.o.h).1;obtain⟨pp,b3⟩:∃z,z=Gm.pos (Gm.olds G) G.st:=⟨_,rfl⟩
     rw[<-b3]at km;have cW:=aA b3;have M:=aA (HS.o.setH 3 (.int .i64 pp));obtain⟨wy,b4⟩:∃y,y=wr.setCell ⟨H,3,none⟩ (.int .i64 pp):=⟨_,rfl⟩
     rw[<-b4]at M;clear b3 hm cV HP;go_upto_region 18 with fail
     rw[<-b4];clear b4 q3 km la lq j3 f3 lh;have j0:=aT M.o.h;have j1:=aU M.o.h;have j2:=aZ M.o.h;have j3:=bG M.o.h;have lh:=(Ad.1 M.o.h).1;have hz:=(M.o.w.block (w.heap.size+1) (by have:=ag.o;omega)).trans cE.o;have g0:=aT hz;have g1:=aU hz;have g2:=aZ hz;have g3:=bG hz;have e0:=AH wy _ 0 _ _ hz;have e1:=AH wy _ 1 _ _ hz;have e2:=AH wy _ 2 _ _ hz;have e3:=AH wy _ 3 _ _ hz;have lz:=(Ad.1 hz).1;have a2:w.heap.size<=w1.heap.size:=by have:=ag.o;omega
     have cD:Hid (Gx wy w.heap.size (.slice AT5 G.ts.length cT5) (.slice AN5 (Gm.nmL G (Gm.olds G)).length cN5) (.slice AR5 ((Gm.krs G).map (Gm.re (Gm.olds G))).length cR5) G.ts (Gm.nmL G (Gm.olds G)) ((Gm.krs G).map (Gm.re (Gm.olds G)))):=aA ⟨⟨_,HQ.o wy M.o.w⟩,⟨_,hz⟩,za9 M.o.t a2,za9 M.o.nn a2,by
      obtain⟨qs,h1,h2,h3,h4⟩:=M.o.r
      exact⟨qs,h1,za9 h2 a2,h3,fun q hq=>⟨(h4 q hq).1,(h4 q hq).2.1,fun hn=>by
       obtain⟨g,cur,e,hb,hN,hh⟩:=(h4 q hq).2.2 hn;exact⟨g,cur,e,Am a2 hb,hN,hh⟩⟩⟩⟩
     have b5:=aA (fun u1 u2 u3 u4=>(((cD.o.set (w.heap.size+1) 0 u1 (.inr rfl)).set (w.heap.size+1) 1 u2 (.inr rfl)).set (w.heap.size+1) 2 u3 (.inr rfl)).set (w.heap.size+1) 3 u4 (.inr rfl));have cX:=aA (fun u1 u2 u3 u4=>((((ad.o wy M.o.w).setCell (p:=⟨w.heap.size+1,0,none⟩) (by simp only;omega) u1).setCell (p:=⟨w.heap.size+1,1,none⟩) (by simp only;omega) u2).setCell (p:=⟨w.heap.size+1,2,none⟩) (by simp only;omega) u3).setCell (p:=⟨w.heap.size+1,3,none⟩) (by simp only;omega) u4);have cY:Hid (Gm.reduce G=⟨G.ts,Gm.nmL G (Gm.olds G),(Gm.krs G).map (Gm.re (Gm.olds G)),pp⟩):=aA (by rw[cW.o];rfl);generalize Gm.nmL G (Gm.olds G)=nms at *;generalize (Gm.krs G).map (Gm.re (Gm.olds G))=rls at *;clear cD hz a2 HS M;go_wp2;refine Cj (v:=.agg #[.slice AT5 G.ts.length cT5,.slice AN5 nms.length cN5,.slice AR5 rls.length cR5,.int .i64 pp]) (by simp[results,Tryz.results99,go_sem,g0,g1,g2,g3]) rfl ?_;exact⟨_,rfl,by rw[cY.o];exact⟨_,_,_,rfl,(b5.o _ _ _ _).t,(b5.o _ _ _ _).nn,(b5.o _ _ _ _).r⟩,cX.o _ _ _ _⟩
theorem zfl (A A':Option Addr) (ca cb:Nat) (xs ys:List Int) (w:World) (ab:RdI w w.heap.size A xs) (ac:RdI w w.heap.size A' ys) (ag:xs.length<=9223372036854775807) (ad:ys.length<=9223372036854775807) :
  Calls Tryz.prog 14 #[.slice A xs.length ca,.slice A' ys.length cb] w fun e w'=>e=.returned (.bool (decide (xs=ys)))/\∃n,w'=w.drewN n:=by
 by_cases hl:xs.length=ys.length
 ·have HL:=aA hl;rw[<-hl];have ae:((xs.length:Int) != (xs.length:Int))=false:=by simp
  clear hl ad
  go_enter Tryz.func14,Tryz.ntmps14
  go_wp2;go_loopw [5] (fun vi wr=>∃(k q:Nat),k<=xs.length/\vi=.int .i64 k/\xs.take k=ys.take k/\wr=w.drewN q) (fun vi _=>xs.length-(intOf vi).toNat)
  case atStart=>exact⟨0,0,AU _,rfl,rfl,rfl⟩
  case round =>
   obtain⟨k,q,hk,rfl,ht,d⟩:=hrel;have HT:=aA ht;have HW:=aA d;by_cases aa:k<xs.length
   ·obtain⟨ga,oa,rfl,_,ha⟩:=ab (by omega);obtain⟨gb,ob,rfl,_,hb⟩:=ac (by have:=HL.o;omega);have ca':wr.cell? ⟨ga,oa+k,none⟩=some (.int .i64 (xs.getD k 0)):=by rw[d];exact ha k aa
    have cb':wr.cell? ⟨gb,ob+k,none⟩=some (.int .i64 (ys.getD k 0)):=by rw[d];exact hb k (by have:=HL.o;omega)
    have k0:(0:Int)<=(k:Int):=by omega
    have k1:(k:Int)<(xs.length:Int):=by omega
    clear ha hb ht d ab ac;by_cases b:xs.getD k 0=ys.getD k 0
    ·have HN:Hid (xs.take (k+1)=ys.take (k+1)):=by
      show xs.take (k+1)=ys.take (k+1)
      rw[L.take_snoc xs k aa,L.take_snoc ys k (by have:=HL.o;omega),HT.o,b]
     rw[<-b]at cb';generalize xs.getD k 0=x at *;have af:(x != x)=false:=by simp
     clear b;go_wp2_with fail
     go_quiet (fail)
     go_wp2;go_roundw
     case rel=>exact⟨k+1,_,aa,by go_num,HN.o,by rw[HW.o];exact C4 _ _ _⟩
     case measure=>simp[intOf];omega
    ·have HN:Hid (decide (xs=ys)=false):=by
      show decide (xs=ys)=false
      rw[Dm];rintro rfl;exact b rfl
     generalize xs.getD k 0=x at *;generalize ys.getD k 0=y at *;have af:(x != y)=true:=by simpa using b
     clear b;go_wp2_with fail
     go_quiet (fail)
     go_wp2;go_ret
     exact⟨aE HN.o.symm,_,by rw[HW.o,C4]⟩
   ·obtain rfl:k=xs.length:=by omega
    have HE:Hid (decide (xs=ys)=true):=by
     show decide (xs=ys)=true
     rw[BZ];have h:=HT.o
     rwa [Bk,HL.o,Bk]at h
    clear ht;subst d;go_wp2;go_ret
    exact⟨aE HE.o.symm,_,rfl⟩
 ·have HE:Hid (decide (xs=ys)=false):=by
   show decide (xs=ys)=false
   rw[Dm];rintro rfl;exact hl rfl
  have ae:((xs.length:Int) != (ys.length:Int))=true:=by simp;omega
  go_enter Tryz.func14,Tryz.ntmps14
  go_wp2;go_ret
  exact⟨aE HE.o.symm,0,rfl⟩
noncomputable def eqb {α:Type} (a b:α):Bool:=@decide (a=b) (Classical.propDecidable _)
theorem zae {α:Type} {a b:α} (h:a=b):eqb a b=true:=by unfold eqb;exact @AL _ (Classical.propDecidable _) h
theorem zau {α:Type} {a b:α} (h:¬a=b):eqb a b=false:=by unfold eqb;exact @AO _ (Classical.propDecidable _) h
theorem zgL (s s':ByteArray) (a a' b b':Int) (w:World):(Op.equalIn 10000 81 (.agg #[.string s,.int .i64 a,.int .i64 b]) (.agg #[.string s',.int .i64 a',.int .i64 b'])).run Tryz.prog w=.ok ((s.toList==s'.toList)&&(a==a')&&(b==b')) w:=by
 have u3:=Tryz.underlying3;have a3:=Tryz.isAgg3;have z3:=Tryz.sizeOf3;have u9:=Tryz.underlying9;have a9:=Tryz.isAgg9;have z9:=Tryz.sizeOf9;have hS:Tryz.prog.underlying 81=some (.struct (Tryz.prog.fieldsOf 81)):=by kernel_rfl
 rw[show(10000:Nat)=9999+1 from rfl,run_equalIn_agg w 9999 81 _ _ hS (by kernel_rfl)];simp only[Program.fieldsOf,Tryz.underlying81]
 go_simp
 by_cases h0:s.toList=s'.toList <;> by_cases h1:a=a' <;> by_cases h2:b=b' <;> simp[h0,h1,h2]
theorem zgK {x y:Gm.Tm} (hx:K.Tx x.nm) (hy:K.Tx y.nm):(((K.str x.nm).toList==(K.str y.nm).toList)&&(x.lv==y.lv)&&(x.wy==y.wy))=eqb x y:=by
 rw[K.eqB hx hy];by_cases h:x=y
 ·subst h;rw[zae rfl];simp
 ·rw[zau h];rw[CY,CY];by_cases h1:x.nm=y.nm
  ·by_cases h2:x.lv=y.lv
   ·by_cases h3:x.wy=y.wy
    ·exact absurd (by cases x;cases y;simp_all) h
    ·exact .inr (by simpa using h3)
   ·exact .inl (.inr (by simpa using h2))
  ·exact .inl (.inl (by simpa using h1))
def aX {α:Type} (xs ys:List α) (k:Nat):Prop:=xs.take k=ys.take k
theorem aX.zero {α:Type} (xs ys:List α):aX xs ys 0:=rfl
theorem aX.next {α:Type} {xs ys:List α} (h:aX xs ys k) (h1:k<xs.length) (h2:k<ys.length) (e:xs[k]=ys[k]):aX xs ys (k+1):=by
 unfold aX at *;rw[AI h1,AI h2,h,e]
theorem aX.all {α:Type} {xs ys:List α} (h:aX xs ys k) (hk:k=xs.length) (hl:xs.length=ys.length):eqb xs ys=true:=by
 unfold aX at h;rw[hk,Bk,hl,Bk]at h;exact zae h
theorem zbm {α:Type} {xs ys:List α} (h1:k<xs.length) (h2:k<ys.length) (e:¬xs[k]=ys[k]):eqb xs ys=false:=zau fun h=>e (by subst h;rfl)
theorem zas {α:Type} {xs ys:List α} (h:¬xs.length=ys.length):eqb xs ys=false:=zau fun e=>h (by rw[e])
theorem zh7 (A A':Option Addr) (ca cb B B':Nat) (xs ys:List (List Int)) (w:World) (ab:RdN w B A xs) (ac:RdN w B' A' ys) (hx:∀x∈xs,K.Tx x) (hy:∀y∈ys,K.Tx y) (af:xs.length<=9223372036854775807) :
  Calls Tryz.prog 101 #[.slice A xs.length ca,.slice A' ys.length cb] w fun e w'=>e=.returned (.bool (eqb xs ys))/\∃n,w'=w.drewN n:=by
 by_cases hl:xs.length=ys.length
 ·have HL:=aA hl;rw[<-hl];have ae:((xs.length:Int) != (xs.length:Int))=false:=by simp
  have HA:=aA ab;have ad:=aA ac;have HX:=aA hx;have HY:=aA hy;clear hx hy;clear hl ab ac
  go_enter Tryz.func101,Tryz.ntmps101
  go_wp2;go_loopw [13] (fun vi wr=>∃(k q:Nat),k<=xs.length/\vi=.int .i64 k/\aX xs ys k/\wr=w.drewN q) (fun vi _=>xs.length-(intOf vi).toNat)
  case atStart=>exact⟨0,0,AU _,rfl,aX.zero _ _,rfl⟩
  case round =>
   obtain⟨k,q,hk,rfl,ht,d⟩:=hrel;have HT:=aA ht;have HW:=aA d;clear ht;by_cases hlt:k<xs.length
   ·have aa:k<ys.length:=by have:=HL.o;omega
    obtain⟨ga,oa,rfl,_,ha⟩:=HA.o (by omega);obtain⟨gb,ob,rfl,_,hb⟩:=ad.o (by omega);have ca':wr.cell? ⟨ga,oa+k,none⟩=some (.string (K.str xs[k])):=by rw[d];exact ha k hlt
    have cb':wr.cell? ⟨gb,ob+k,none⟩=some (.string (K.str ys[k])):=by rw[d];exact hb k aa
    have E:((K.str xs[k]).toList==(K.str ys[k]).toList)=eqb xs[k] ys[k]:=by
     rw[K.eqB (HX.o _ (AC hlt)) (HY.o _ (AC aa))];by_cases h:xs[k]=ys[k]
     ·rw[zae h];simpa using h
     ·rw[zau h];simpa using h
    have E':((K.str xs[k]).toList != (K.str ys[k]).toList) = !eqb xs[k] ys[k]:=by rw[bne,E]
    have k0:(0:Int)<=(k:Int):=by omega
    have k1:(k:Int)<(xs.length:Int):=by omega
    clear ha hb d HA ad;by_cases b:xs[k]=ys[k]
    ·have HN:Hid (aX xs ys (k+1)):=aA (HT.o.next hlt aa b);rw[zae b]at E E';clear b;generalize K.str xs[k]=x at *;generalize K.str ys[k]=y at *;rw[Bool.not_true]at E';go_wp2_with fail
     go_quiet (fail)
     go_wp2;go_roundw
     case rel=>exact⟨k+1,_,hlt,by go_num,HN.o,by rw[HW.o];exact C4 _ _ _⟩
     case measure=>simp[intOf];omega
    ·have HN:Hid (eqb xs ys=false):=aA (zbm hlt aa b);rw[zau b]at E E';clear b;generalize K.str xs[k]=x at *;generalize K.str ys[k]=y at *;rw[Bool.not_false]at E';go_wp2_with fail
     go_quiet (fail)
     go_wp2;go_ret
     exact⟨aE HN.o.symm,_,by rw[HW.o,C4]⟩
   ·obtain rfl:k=xs.length:=by omega
    have HE:=aA (HT.o.all rfl HL.o);subst d;go_wp2;go_ret
    exact⟨aE HE.o.symm,_,rfl⟩
 ·have HE:=aA (zas hl);have ae:((xs.length:Int) != (ys.length:Int))=true:=by simp;omega
  clear hl
  go_enter Tryz.func101,Tryz.ntmps101
  go_wp2;go_ret
  exact⟨aE HE.o.symm,0,rfl⟩
theorem zgm (A A':Option Addr) (ca cb B B':Nat) (xs ys:List Int) (w:World) (ab:RdI w B A xs) (ac:RdI w B' A' ys) (af:xs.length<=9223372036854775807) :
  Calls Tryz.prog 144 #[.slice A xs.length ca,.slice A' ys.length cb] w fun e w'=>e=.returned (.bool (eqb xs ys))/\∃n,w'=w.drewN n:=by
 by_cases hl:xs.length=ys.length
 ·have HL:=aA hl;rw[<-hl];have ae:((xs.length:Int) != (xs.length:Int))=false:=by simp
  have HA:=aA ab;have ad:=aA ac;clear hl ab ac
  go_enter Tryz.func144,Tryz.ntmps144
  go_wp2;go_loopw [13] (fun vi wr=>∃(k q:Nat),k<=xs.length/\vi=.int .i64 k/\aX xs ys k/\wr=w.drewN q) (fun vi _=>xs.length-(intOf vi).toNat)
  case atStart=>exact⟨0,0,AU _,rfl,aX.zero _ _,rfl⟩
  case round =>
   obtain⟨k,q,hk,rfl,ht,d⟩:=hrel;have HT:=aA ht;have HW:=aA d;clear ht;by_cases hlt:k<xs.length
   ·have aa:k<ys.length:=by have:=HL.o;omega
    obtain⟨ga,oa,rfl,_,ha⟩:=HA.o (by omega);obtain⟨gb,ob,rfl,_,hb⟩:=ad.o (by omega);have ca':wr.cell? ⟨ga,oa+k,none⟩=some (.int .i64 xs[k]):=by rw[d,<-L.gd_lt hlt];exact ha k hlt
    have cb':wr.cell? ⟨gb,ob+k,none⟩=some (.int .i64 ys[k]):=by rw[d,<-L.gd_lt aa];exact hb k aa
    have E:(xs[k]==ys[k])=eqb xs[k] ys[k]:=by
     by_cases h:xs[k]=ys[k]
     ·rw[zae h];simpa using h
     ·rw[zau h];simpa using h
    have E':(xs[k] != ys[k]) = !eqb xs[k] ys[k]:=by rw[bne,E]
    have k0:(0:Int)<=(k:Int):=by omega
    have k1:(k:Int)<(xs.length:Int):=by omega
    clear ha hb d HA ad;by_cases b:xs[k]=ys[k]
    ·have HN:Hid (aX xs ys (k+1)):=aA (HT.o.next hlt aa b);rw[zae b]at E E';clear b;generalize xs[k]=x at *;generalize ys[k]=y at *;rw[Bool.not_true]at E';go_wp2_with fail
     go_quiet (fail)
     go_wp2;go_roundw
     case rel=>exact⟨k+1,_,hlt,by go_num,HN.o,by rw[HW.o];exact C4 _ _ _⟩
     case measure=>simp[intOf];omega
    ·have HN:Hid (eqb xs ys=false):=aA (zbm hlt aa b);rw[zau b]at E E';clear b;generalize xs[k]=x at *;generalize ys[k]=y at *;rw[Bool.not_false]at E';go_wp2_with fail
     go_quiet (fail)
     go_wp2;go_ret
     exact⟨aE HN.o.symm,_,by rw[HW.o,C4]⟩
   ·obtain rfl:k=xs.length:=by omega
    have HE:=aA (HT.o.all rfl HL.o);subst d;go_wp2;go_ret
    exact⟨aE HE.o.symm,_,rfl⟩
 ·have HE:=aA (zas hl);have ae:((xs.length:Int) != (ys.length:Int))=true:=by simp;omega
  clear hl
  go_enter Tryz.func144,Tryz.ntmps144
  go_wp2;go_ret
  exact⟨aE HE.o.symm,0,rfl⟩
theorem zh6 (A A':Option Addr) (ca cb B B':Nat) (xs ys:List Gm.Tm) (w:World) (aa:zeP w B A xs) (ab:zeP w B' A' ys) (hx:∀x∈xs,K.Tx x.nm) (hy:∀y∈ys,K.Tx y.nm) (ae:xs.length<=9223372036854775807) :
  Calls Tryz.prog 100 #[.slice A xs.length ca,.slice A' ys.length cb] w fun e w'=>e=.returned (.bool (eqb xs ys))/\∃n,w'=w.drewN n:=by
 by_cases hl:xs.length=ys.length
 ·have HL:=aA hl;rw[<-hl];have ad:((xs.length:Int) != (xs.length:Int))=false:=by simp
  have HA:=aA aa;have ac:=aA ab;have HX:=aA hx;have HY:=aA hy;clear hx hy;clear hl aa ab
  go_enter Tryz.func100,Tryz.ntmps100
  go_wp2;go_loopw [13] (fun vi wr=>∃(k q:Nat),k<=xs.length/\vi=.int .i64 k/\aX xs ys k/\wr=w.drewN q) (fun vi _=>xs.length-(intOf vi).toNat)
  case atStart=>exact⟨0,0,AU _,rfl,aX.zero _ _,rfl⟩
  case round =>
   obtain⟨k,q,hk,rfl,ht,d⟩:=hrel;have HT:=aA ht;have HW:=aA d;clear ht;by_cases hlt:k<xs.length
   ·have b:k<ys.length:=by have:=HL.o;omega
    obtain⟨ga,oa,rfl,_,ha⟩:=HA.o (by omega);obtain⟨gb,ob,rfl,_,hb⟩:=ac.o (by omega);have ca0:wr.cell? ⟨ga,oa+k*3,none⟩=some (.string (K.str xs[k].nm)):=by rw[d];exact(ha k hlt).1
    have ca1:wr.cell? ⟨ga,oa+k*3+1,none⟩=some (.int .i64 xs[k].lv):=by rw[d];exact(ha k hlt).2.1
    have ca2:wr.cell? ⟨ga,oa+k*3+2,none⟩=some (.int .i64 xs[k].wy):=by rw[d];exact(ha k hlt).2.2
    have cb0:wr.cell? ⟨gb,ob+k*3,none⟩=some (.string (K.str ys[k].nm)):=by rw[d];exact(hb k b).1
    have cb1:wr.cell? ⟨gb,ob+k*3+1,none⟩=some (.int .i64 ys[k].lv):=by rw[d];exact(hb k b).2.1
    have cb2:wr.cell? ⟨gb,ob+k*3+2,none⟩=some (.int .i64 ys[k].wy):=by rw[d];exact(hb k b).2.2
    have E0:=zgK (HX.o _ (AC hlt)) (HY.o _ (AC b));have E:=fun w=>zgL (K.str xs[k].nm) (K.str ys[k].nm) xs[k].lv ys[k].lv xs[k].wy ys[k].wy w;rw[E0]at E;clear E0;have k0:(0:Int)<=(k:Int):=by omega
    have k1:(k:Int)<(xs.length:Int):=by omega
    clear ha hb d HA ac;by_cases f:xs[k]=ys[k]
    ·have HN:Hid (aX xs ys (k+1)):=aA (HT.o.next hlt b f);rw[zae f]at E;clear f;generalize K.str xs[k].nm=x0 at *;generalize K.str ys[k].nm=y0 at *;generalize xs[k].lv=x1 at *;generalize ys[k].lv=y1 at *;generalize xs[k].wy=x2 at *;generalize ys[k].wy=y2 at *;go_wp2_with fail
     go_quiet (fail)
     go_wp2;go_roundw
     case rel=>exact⟨k+1,_,hlt,by go_num,HN.o,by rw[HW.o];exact C4 _ _ _⟩
     case measure=>simp[intOf];omega
    ·have HN:Hid (eqb xs ys=false):=aA (zbm hlt b f);rw[zau f]at E;clear f;generalize K.str xs[k].nm=x0 at *;generalize K.str ys[k].nm=y0 at *;generalize xs[k].lv=x1 at *;generalize ys[k].lv=y1 at *;generalize xs[k].wy=x2 at *;generalize ys[k].wy=y2 at *;go_wp2_with fail
     go_quiet (fail)
     go_wp2;go_ret
     exact⟨aE HN.o.symm,_,by rw[HW.o,C4]⟩
   ·obtain rfl:k=xs.length:=by omega
    have HE:=aA (HT.o.all rfl HL.o);subst d;go_wp2;go_ret
    exact⟨aE HE.o.symm,_,rfl⟩
 ·have HE:=aA (zas hl);have ad:((xs.length:Int) != (ys.length:Int))=true:=by simp;omega
  clear hl
  go_enter Tryz.func100,Tryz.ntmps100
  go_wp2;go_ret
  exact⟨aE HE.o.symm,0,rfl⟩
def rlV (x:Gm.Rl) (A:Option Addr) (c:Nat):Value:=.agg #[.int .i64 x.l,.slice A x.r.length c,.int .i64 x.p]
theorem zkt (x y:Gm.Rl):(eqb x.l y.l&&eqb x.r y.r&&eqb x.p y.p)=eqb x y:=by
 by_cases h:x=y
 ·subst h;rw[zae rfl,zae rfl,zae rfl,zae rfl];rfl
 ·rw[zau h];rw[CY,CY];by_cases h1:x.l=y.l
  ·by_cases h2:x.r=y.r
   ·by_cases h3:x.p=y.p
    ·exact absurd (by cases x;cases y;simp_all) h
    ·exact .inr (zau h3)
   ·exact .inl (.inr (zau h2))
  ·exact .inl (.inl (zau h1))
theorem zeD (a b:Int):(a==b)=eqb a b:=by
 by_cases h:a=b
 ·rw[zae h];simpa using h
 ·rw[zau h];simpa using h
theorem zbO (h:∃n,w'=w.drewN n):Below w.heap.size w w':=by
 obtain⟨n,rfl⟩:=h;exact aB (AB _ _) n
theorem zdF (x y:Gm.Rl) (A A':Option Addr) (c c' B B':Nat) (w:World) (aa:RdI w B A x.r) (ab:RdI w B' A' y.r) (hB:B<=w.heap.size) (ad:B'<=w.heap.size) (ac:x.r.length<=9223372036854775807) :
  Calls Tryz.prog 103 #[rlV x A c,rlV y A' c'] w fun e w'=>e=.returned (.bool (eqb x y))/\Below w.heap.size w w':=by
 have b:=aA (fun o=>((AB w.heap.size w).alloc (Af _) o));have HE:=aA (fun(z:World) (h:Below w.heap.size w z)=>zgm A A' c c' B B' x.r y.r z (aa.keep fun g o hg=>h.cell (p:=⟨g,o,none⟩) (Ag hg hB)) (ab.keep fun g o hg=>h.cell (p:=⟨g,o,none⟩) (Ag hg ad)) ac);rw[<-zkt];have e1:=zeD x.l y.l;have e2:=zeD x.p y.p;unfold rlV;clear aa ab ac;generalize x.l=xl at *;generalize y.l=yl at *;generalize x.p=xp at *;generalize y.p=yp at *;cases q1:eqb xl yl
 ·rw[q1]at e1;clear q1 e2
  go_enter Tryz.func103,Tryz.ntmps103
  go_wp2;go_ret
  exact⟨rfl,(b.o _).alloc (by simp) _⟩
 ·rw[q1]at e1;clear q1;cases q2:eqb x.r y.r
  ·rw[q2]at HE;clear q2 e2
   go_enter Tryz.func103,Tryz.ntmps103
   go_wp2_with fail
   refine(HE.o _ ((b.o _).alloc (by simp) _)).mono ?_;rintro _ w2 ⟨rfl,hd⟩;have HD:=aA ((((b.o _).alloc (by simp) _)).trans ((zbO hd).mono (by simp;omega)));clear hd;go_wp2;go_ret
   exact⟨rfl,HD.o⟩
  ·rw[q2]at HE;clear q2;generalize eqb xp yp=b2 at *
   go_enter Tryz.func103,Tryz.ntmps103
   go_wp2_with fail
   refine(HE.o _ ((b.o _).alloc (by simp) _)).mono ?_;rintro _ w2 ⟨rfl,n,rfl⟩;go_wp2;go_ret
   exact⟨aE (by simp),aB ((b.o _).alloc (by simp) _) _⟩
theorem zjm (A A':Option Addr) (ca cb B B':Nat) (xs ys:List Gm.Rl) (w:World) (af:zec w B A xs) (ag:zec w B' A' ys) (hB:B<=w.heap.size) (ah:B'<=w.heap.size) (ar:xs.length<=9223372036854775807) :
  Calls Tryz.prog 102 #[.slice A xs.length ca,.slice A' ys.length cb,.func (Fn.func 103) #[] #[]] w fun e w'=>e=.returned (.bool (eqb xs ys))/\Below w.heap.size w w':=by
 have ai:=aA (AB w.heap.size w);by_cases hl:xs.length=ys.length
 ·have HL:=aA hl;rw[<-hl];have am:((xs.length:Int) != (xs.length:Int))=false:=by simp
  have HA:=aA af;have aj:=aA ag;clear hl af ag
  go_enter Tryz.func102,Tryz.ntmps102
  go_wp2;go_loopw [17] (fun vi wr=>∃(k:Nat),k<=xs.length/\vi=.int .i64 k/\aX xs ys k/\Below w.heap.size w wr) (fun vi _=>xs.length-(intOf vi).toNat)
  case atStart=>exact⟨0,AU _,rfl,aX.zero _ _,ai.o⟩
  case round =>
   obtain⟨k,hk,rfl,ht,hb⟩:=hrel;have HT:=aA ht;have HB:=aA hb;clear ht;by_cases hlt:k<xs.length
   ·have aa:k<ys.length:=by have:=HL.o;omega
    obtain⟨ga,oa,rfl,au,ha⟩:=HA.o (by omega);obtain⟨gb,ob,rfl,av,ak⟩:=aj.o (by omega);obtain⟨a0,⟨Aa,cca,a1,_,_,ra⟩,a2⟩:=ha k hlt;obtain⟨b0,⟨Ab,ccb,b1,_,_,rb⟩,b2⟩:=ak k aa;have ad:xs[k].r.length<=9223372036854775807:=by omega
    have HS:=aA (fun(z:World) (h:Below w.heap.size w z)=>zdF xs[k] ys[k] Aa Ab cca ccb B B' z (ra.keep fun g o hg=>h.cell (p:=⟨g,o,none⟩) (Ag hg hB)) (rb.keep fun g o hg=>h.cell (p:=⟨g,o,none⟩) (Ag hg ah)) (Am hB h.size) (Am ah h.size) ad);have ab:ga<w.heap.size:=by omega
    have ac:gb<w.heap.size:=by omega
    have aw:=hb.size;have a0:=(hb.cell (p:=⟨ga,oa+k*3,none⟩) ab).trans a0;have a1:=(hb.cell (p:=⟨ga,oa+k*3+1,none⟩) ab).trans a1;have a2:=(hb.cell (p:=⟨ga,oa+k*3+2,none⟩) ab).trans a2;have b0:=(hb.cell (p:=⟨gb,ob+k*3,none⟩) ac).trans b0;have b1:=(hb.cell (p:=⟨gb,ob+k*3+1,none⟩) ac).trans b1;have b2:=(hb.cell (p:=⟨gb,ob+k*3+2,none⟩) ac).trans b2;have ao:ga<wr.heap.size:=by omega
    have ap:gb<wr.heap.size:=by omega
    have b:=aA (fun(o1 o2:Obj)=>(hb.alloc hb.size o1).alloc (by have:=hb.size;simp;omega) o2);have al:=aA hlt;have aq:=aA aa;unfold rlV at HS;clear ha ak hb HA aj ra rb;generalize qx:xs[k]=x at *;generalize qy:ys[k]=y at *;have QX:=aA qx;have QY:=aA qy;clear qx qy;by_cases d:x=y
    ·have HN:Hid (aX xs ys (k+1)):=aA (HT.o.next hlt aa (QX.o.trans (d.trans QY.o.symm)));rw[zae d]at HS;clear d ad;go_wp2_with fail
     refine(HS.o _ (b.o _ _)).mono ?_;rintro _ w2 ⟨rfl,f⟩;have ae:=aA ((b.o _ _).trans (f.mono (b.o _ _).size));clear f;go_wp2;go_roundw
     case rel=>exact⟨k+1,al.o,by go_num,HN.o,ae.o⟩
     case measure=>have:=al.o;simp[intOf];omega
    ·have HN:Hid (eqb xs ys=false):=aA (zbm hlt aa (fun e=>d (QX.o.symm.trans (e.trans QY.o))));rw[zau d]at HS;clear d ad;go_wp2_with fail
     refine(HS.o _ (b.o _ _)).mono ?_;rintro _ w2 ⟨rfl,f⟩;have ae:=aA ((b.o _ _).trans (f.mono (b.o _ _).size));clear f;go_wp2;go_ret
     exact⟨aE HN.o.symm,ae.o⟩
   ·obtain rfl:k=xs.length:=by omega
    have HE:=aA (HT.o.all rfl HL.o);clear hb;go_wp2;go_ret
    exact⟨aE HE.o.symm,HB.o⟩
 ·have HE:=aA (zas hl);have am:((xs.length:Int) != (ys.length:Int))=true:=by simp;omega
  clear hl
  go_enter Tryz.func102,Tryz.ntmps102
  go_wp2;go_ret
  exact⟨aE HE.o.symm,ai.o⟩
noncomputable def Gm.same (G H:Gm.Gr):Bool:=eqb G.ts H.ts&&eqb G.ns H.ns&&eqb G.rs H.rs&&eqb G.st H.st
theorem Gm.same_self (G:Gm.Gr):Gm.same G G=true:=by
 unfold Gm.same;rw[zae rfl,zae rfl,zae rfl,zae rfl];rfl
theorem zbw (w:World) (o o':Obj) (n:Nat):(((w.alloc o).alloc o').drewN n).heap[w.heap.size]?=some o:=by
 show((w.alloc o).alloc o').heap[w.heap.size]?=some o
 rw[Bu _ _ _ (by simp)];exact AE w o
theorem zbv (w:World) (o o':Obj) (n:Nat):(((w.alloc o).alloc o').drewN n).heap[w.heap.size+1]?=some o':=by
 have:=AE (w.alloc o) o'
 simpa[World.drewN] using this
theorem zhY (v u:Value) (G H:Gm.Gr) (B B':Nat) (w:World) (hg:aR w B v G) (hh:aR w B' u H) (fg:Gm.Fit G) (fh:Gm.Fit H) (hB:B<=w.heap.size) (d:B'<=w.heap.size) :
  Calls Tryz.prog 70 #[v,u] w fun e w'=>e=.returned (.bool (Gm.same G H))/\Below w.heap.size w w':=by
 have b:=aA (fun o o'=>((AB w.heap.size w).alloc (Af _) o).alloc (by simp) o');obtain⟨AT,cT,AN,cN,AR,cR,rfl,⟨aa,ab⟩,⟨ac,ad⟩,⟨ae,af⟩,ht,hn,hr⟩:=hg;obtain⟨BT,dT,BN,dN,BR,dR,rfl,_,_,_,gt,gn,gr⟩:=hh;have H1:=aA (fun(x:World) (h:Below w.heap.size w x)=>zh6 AT BT cT dT B B' G.ts H.ts x (ht.keep fun g o hg=>h.cell (p:=⟨g,o,none⟩) (Ag hg hB)) (gt.keep fun g o hg=>h.cell (p:=⟨g,o,none⟩) (Ag hg d)) (fun x hx=>(fg.t x hx).1) (fun x hx=>(fh.t x hx).1) (by omega));have H2:=aA (fun(x:World) (h:Below w.heap.size w x)=>zh7 AN BN cN dN B B' G.ns H.ns x (hn.keep fun g o hg=>h.cell (p:=⟨g,o,none⟩) (Ag hg hB)) (gn.keep fun g o hg=>h.cell (p:=⟨g,o,none⟩) (Ag hg d)) (fun x hx=>fg.n x hx) (fun x hx=>fh.n x hx) (by omega));have H3:=aA (fun(x:World) (h:Below w.heap.size w x)=>zjm AR BR cR dR B B' G.rs H.rs x (hr.keep fun g o hg=>h.cell (p:=⟨g,o,none⟩) (Ag hg hB)) (gr.keep fun g o hg=>h.cell (p:=⟨g,o,none⟩) (Ag hg d)) (Am hB h.size) (Am d h.size) (by omega));have e4:=zeD G.st H.st;unfold Gm.same;clear ht hn hr gt gn gr aa ab ac ad ae af fg fh hB d;generalize G.st=st at *;generalize H.st=st' at *;cases q1:eqb G.ts H.ts
 ·rw[q1]at H1;clear q1 e4 H2 H3
  go_enter Tryz.func70,Tryz.ntmps70
  go_wp2_with fail
  refine(H1.o _ (b.o _ _)).mono ?_;rintro _ w2 ⟨rfl,hd⟩;have HD:=aA ((b.o _ _).trans ((zbO hd).mono (by simp;omega)));clear hd;go_wp2;go_ret
  exact⟨rfl,HD.o⟩
 ·rw[q1]at H1;clear q1;cases q2:eqb G.ns H.ns
  ·rw[q2]at H2;clear q2 e4 H3
   go_enter Tryz.func70,Tryz.ntmps70
   go_wp2_with fail
   refine(H1.o _ (b.o _ _)).mono ?_;rintro _ w2 ⟨rfl,n1,rfl⟩;go_wp2_with fail
   refine(H2.o _ (aB (b.o _ _) _)).mono ?_;rintro _ w3 ⟨rfl,n2,rfl⟩;go_wp2;go_ret
   exact⟨rfl,aB (b.o _ _) _⟩
  ·rw[q2]at H2;clear q2;cases q3:eqb G.rs H.rs
   focus
    rw[q3]at H3;clear q3 e4
   rotate_left
   focus
    rw[q3]at H3;clear q3;generalize eqb st st'=b4 at *
   rotate_left
   all_goals
    go_enter Tryz.func70,Tryz.ntmps70
    go_wp2_with fail
    refine(H1.o _ (b.o _ _)).mono ?_;rintro _ w2 ⟨rfl,n1,rfl⟩;go_wp2_with fail
    refine(H2.o _ (aB (b.o _ _) _)).mono ?_;rintro _ w3 ⟨rfl,n2,rfl⟩;go_wp2_with fail
    refine(H3.o _ (aB (b.o _ _) _)).mono ?_;rintro _ w4 ⟨rfl,hb⟩;have HD:=aA ((aB (b.o _ _) _).trans (hb.mono (by simp[World.drewN];omega)))
   focus
    clear hb;go_wp2;go_ret
    exact⟨rfl,HD.o⟩
   focus
    have b0:=(hb.block w.heap.size (by simp[World.drewN];omega)).trans (zbw w _ _ _);have b1:=(hb.block (w.heap.size+1) (by simp[World.drewN])).trans (zbv w _ _ _);have z0:w.heap.size<w4.heap.size:=(Ad.1 b0).1;have z1:w.heap.size+1<w4.heap.size:=(Ad.1 b1).1;have c0:=AD w4 _ 3 _ _ _ b0;have c1:=AD w4 _ 3 _ _ _ b1;clear hb b0 b1;go_wp2;go_ret
    exact⟨aE (by simp),HD.o⟩
def Two (w:World) (a b:Array Value) (wr:World):Prop:=Below (w.heap.size+2) ((w.alloc (.cells a 26)).alloc (.cells b 26)) wr
theorem Two.start (w:World) (a b:Array Value):Two w a b ((w.alloc (.cells a 26)).alloc (.cells b 26)):=AB _ _
theorem Two.size {a b:Array Value} (h:Two w a b wr):w.heap.size+2<=wr.heap.size:=by have:=Below.size h;simpa using this
theorem Two.below {a b:Array Value} (h:Two w a b wr):Below w.heap.size w wr:=(((AB w.heap.size w).alloc (Af _) _).alloc (by simp) _).trans (Below.mono h (by omega))
theorem Two.on {wt:World} {a b:Array Value} (h:Two w a b wr) (k:Below wr.heap.size wr wt):Two w a b wt:=Below.trans h (k.mono h.size)
theorem Two.drewN {a b:Array Value} (h:Two w a b wr) (n:Nat):Two w a b (wr.drewN n):=aB h n
theorem Two.drew {a b:Array Value} (h:Two w a b wr):Two w a b wr.drew:=aB h 1
theorem Two.alloc {a b:Array Value} (h:Two w a b wr) (o:Obj):Two w a b (wr.alloc o):=Below.alloc h h.size o
theorem Two.c0 {a b:Array Value} (h:Two w a b wr) (j:Nat) (u:Value) (hj:a[j]?=some u):wr.cell? ⟨w.heap.size,j,none⟩=some u:=by
 have b0:=(DV h w.heap.size (by omega)).trans (zbw w _ _ 0);exact(AD wr _ j _ _ _ b0).trans hj
theorem Two.c1 {a b:Array Value} (h:Two w a b wr) (j:Nat) (u:Value) (hj:b[j]?=some u):wr.cell? ⟨w.heap.size+1,j,none⟩=some u:=by
 have b0:=(DV h (w.heap.size+1) (by omega)).trans (zbv w _ _ 0);exact(AD wr _ j _ _ _ b0).trans hj
theorem zg3 (v u:Value) (G H:Gm.Gr) (B B':Nat) (w:World) (hg:aR w B v G) (hh:aR w B' u H) (fg:Gm.Fit G) (fh:Gm.Fit H) (hB:B<=w.heap.size) (m:B'<=w.heap.size) :
  Calls Tryz.prog 13 #[v,u] w fun e w'=>e=.returned (.bool (Gm.same G H))/\Below w.heap.size w w':=by
 have M:=aA (fun o o'=>((AB w.heap.size w).alloc (Af _) o).alloc (by simp) o');obtain⟨AT,cT,AN,cN,AR,cR,rfl,⟨aa,ab⟩,⟨ac,ad⟩,⟨ae,af⟩,ht,hn,hr⟩:=hg;obtain⟨BT,dT,BN,dN,BR,dR,rfl,_,_,_,gt,gn,gr⟩:=hh;by_cases h1:G.ts.length=H.ts.length
 case neg =>
  have HE:Hid (Gm.same G H=false):=aA (by unfold Gm.same;rw[zas h1];rfl);have ag:((G.ts.length:Int) != (H.ts.length:Int))=true:=by simp;omega
  rw[HE.o];clear ht hn hr gt gn gr aa ab ac ad ae af fg fh hB m h1
  go_enter Tryz.func13,Tryz.ntmps13
  go_wp2;go_ret
  exact⟨rfl,M.o _ _⟩
 by_cases h2:G.ns.length=H.ns.length
 case neg =>
  have HE:Hid (Gm.same G H=false):=aA (by unfold Gm.same;rw[zas h2];simp);have ag:((G.ts.length:Int) != (H.ts.length:Int))=false:=by simp;omega
  have aj:((G.ns.length:Int) != (H.ns.length:Int))=true:=by simp;omega
  rw[HE.o];clear ht hn hr gt gn gr aa ab ac ad ae af fg fh hB m h1 h2
  go_enter Tryz.func13,Tryz.ntmps13
  go_wp2;go_ret
  exact⟨rfl,M.o _ _⟩
 by_cases h3:G.rs.length=H.rs.length
 case neg =>
  have HE:Hid (Gm.same G H=false):=aA (by unfold Gm.same;rw[zas h3];simp);have ag:((G.ts.length:Int) != (H.ts.length:Int))=false:=by simp;omega
  have aj:((G.ns.length:Int) != (H.ns.length:Int))=false:=by simp;omega
  have ao:((G.rs.length:Int) != (H.rs.length:Int))=true:=by simp;omega
  rw[HE.o];clear ht hn hr gt gn gr aa ab ac ad ae af fg fh hB m h1 h2 h3
  go_enter Tryz.func13,Tryz.ntmps13
  go_wp2;go_ret
  exact⟨rfl,M.o _ _⟩
 by_cases h4:G.st=H.st
 case neg =>
  have HE:Hid (Gm.same G H=false):=aA (by unfold Gm.same;rw[zau h4];simp);have ag:((G.ts.length:Int) != (H.ts.length:Int))=false:=by simp;omega
  have aj:((G.ns.length:Int) != (H.ns.length:Int))=false:=by simp;omega
  have ao:((G.rs.length:Int) != (H.rs.length:Int))=false:=by simp;omega
  have ay:(G.st != H.st)=true:=by simpa using h4
  rw[HE.o];clear ht hn hr gt gn gr aa ab ac ad ae af fg fh hB m h1 h2 h3 h4
  go_enter Tryz.func13,Tryz.ntmps13
  go_wp2;go_ret
  exact⟨rfl,M.o _ _⟩
 have ag:((G.ts.length:Int) != (H.ts.length:Int))=false:=by simp;omega
 have aj:((G.ns.length:Int) != (H.ns.length:Int))=false:=by simp;omega
 have ao:((G.rs.length:Int) != (H.rs.length:Int))=false:=by simp;omega
 have ay:(G.st != H.st)=false:=by simpa using h4
 have ak:Hid (Gm.same G H=(eqb G.ts H.ts&&eqb G.ns H.ns&&eqb G.rs H.rs)):=aA (by unfold Gm.same;rw[zae h4];simp);have HT:=aA ht;have HN:=aA hn;have HR:=aA hr;have GT:=aA gt;have GN:=aA gn;have GR:=aA gr;have FT:=aA (fun i (h:i<G.ts.length)=>(fg.t _ (AC h)).1);have FT':=aA (fun i (h:i<H.ts.length)=>(fh.t _ (AC h)).1);have FN:=aA (fun i (h:i<G.ns.length)=>fg.n _ (AC h));have FN':=aA (fun i (h:i<H.ns.length)=>fh.n _ (AC h));have L1:=aA h1;have L2:=aA h2;have L3:=aA h3;have ap:=Two.start w #[.slice AT G.ts.length cT,.slice AN G.ns.length cN,.slice AR G.rs.length cR,.int .i64 G.st] #[.slice BT H.ts.length dT,.slice BN H.ns.length dN,.slice BR H.rs.length dR,.int .i64 H.st];have az:=aA ap;clear ht hn hr gt gn gr fg fh h1 h2 h3 h4 M ap
 go_enter Tryz.func13,Tryz.ntmps13
 go_wp2;go_loopw [5] (fun vi wr=>∃(k:Nat),k<=G.ts.length/\vi=.int .i64 k/\aX G.ts H.ts k/\Two w #[.slice AT G.ts.length cT,.slice AN G.ns.length cN,.slice AR G.rs.length cR,.int .i64 G.st] #[.slice BT H.ts.length dT,.slice BN H.ns.length dN,.slice BR H.rs.length dR,.int .i64 H.st] wr) (fun vi _=>G.ts.length-(intOf vi).toNat)
 case atStart=>exact⟨0,AU _,rfl,aX.zero _ _,az.o⟩
 case round =>
  obtain⟨k,hk,rfl,ha,hb⟩:=hrel;have HA:=aA ha;have HB:=aA hb;have q00:=hb.c0 0 _ rfl;have q10:=hb.c1 0 _ rfl;have q01:=hb.c0 1 _ rfl;have hz:=hb.size;have f:=hb.below;clear ha hb;by_cases hlt:k<G.ts.length
  ·have b:k<H.ts.length:=by have:=L1.o;omega
   clear q01;obtain⟨ga,oa,rfl,C,ca⟩:=HT.o (by omega);obtain⟨gb,ob,rfl,D,cb⟩:=GT.o (by omega);have a0:=(f.cell (p:=⟨ga,oa+k*3,none⟩) (Ag C hB)).trans (ca k hlt).1;have a1:=(f.cell (p:=⟨ga,oa+k*3+1,none⟩) (Ag C hB)).trans (ca k hlt).2.1;have a2:=(f.cell (p:=⟨ga,oa+k*3+2,none⟩) (Ag C hB)).trans (ca k hlt).2.2;have b0:=(f.cell (p:=⟨gb,ob+k*3,none⟩) (Ag D m)).trans (cb k b).1;have b1:=(f.cell (p:=⟨gb,ob+k*3+1,none⟩) (Ag D m)).trans (cb k b).2.1;have b2:=(f.cell (p:=⟨gb,ob+k*3+2,none⟩) (Ag D m)).trans (cb k b).2.2;have aq:=zgK (FT.o k hlt) (FT'.o k b);have E:=fun w=>zgL (K.str G.ts[k].nm) (K.str H.ts[k].nm) G.ts[k].lv H.ts[k].lv G.ts[k].wy H.ts[k].wy w;rw[aq]at E;have s:ga<wr.heap.size:=by omega
   have A:gb<wr.heap.size:=by omega
   have kk0:(0:Int)<=(k:Int):=by omega
   have kk1:(k:Int)<(G.ts.length:Int):=by omega
   have kk2:(k:Int)<(H.ts.length:Int):=by omega
   clear aq ca cb f HT GT FT FT';by_cases q:G.ts[k]=H.ts[k]
   ·have HX:Hid (aX G.ts H.ts (k+1)):=aA (HA.o.next hlt b q);rw[zae q]at E;clear q;generalize K.str G.ts[k].nm=x0 at *;generalize K.str H.ts[k].nm=y0 at *;generalize G.ts[k].lv=x1 at *;generalize H.ts[k].lv=y1 at *;generalize G.ts[k].wy=x2 at *;generalize H.ts[k].wy=y2 at *;go_wp2_with fail
    go_quiet (fail)
    go_wp2;go_roundw
    case rel=>exact⟨k+1,hlt,by go_num,HX.o,HB.o.drewN _⟩
    case measure=>simp[intOf];omega
   ·have HX:Hid (Gm.same G H=false):=aA (by rw[ak.o,zbm hlt b q];rfl);rw[zau q]at E;clear q;generalize K.str G.ts[k].nm=x0 at *;generalize K.str H.ts[k].nm=y0 at *;generalize G.ts[k].lv=x1 at *;generalize H.ts[k].lv=y1 at *;generalize G.ts[k].wy=x2 at *;generalize H.ts[k].wy=y2 at *;go_wp2_with fail
    go_quiet (fail)
    go_wp2;go_ret
    exact⟨aE HX.o.symm,(HB.o.drewN _).below⟩
  ·obtain rfl:k=G.ts.length:=by omega
   have al:Hid (Gm.same G H=(eqb G.ns H.ns&&eqb G.rs H.rs)):=aA (by rw[ak.o,HA.o.all rfl L1.o];rfl);clear f ak hk;go_wp2;go_loopw [6] (fun vi wr=>∃(k:Nat),k<=G.ns.length/\vi=.int .i64 k/\aX G.ns H.ns k/\Two w #[.slice AT G.ts.length cT,.slice AN G.ns.length cN,.slice AR G.rs.length cR,.int .i64 G.st] #[.slice BT H.ts.length dT,.slice BN H.ns.length dN,.slice BR H.rs.length dR,.int .i64 H.st] wr) (fun vi _=>G.ns.length-(intOf vi).toNat)
   case atStart=>exact⟨0,AU _,rfl,aX.zero _ _,HB.o⟩
   case round =>
    clear q00 q10 q01 hz HB;obtain⟨k,hk,rfl,ha,hb⟩:=hrel;have ar:=aA ha;have HB:=aA hb;have q01:=hb.c0 1 _ rfl;have q11:=hb.c1 1 _ rfl;have q02:=hb.c0 2 _ rfl;have hz:=hb.size;have f:=hb.below;clear ha hb;by_cases hlt:k<G.ns.length
    ·have b:k<H.ns.length:=by have:=L2.o;omega
     clear q02;obtain⟨ga,oa,rfl,C,ca⟩:=HN.o (by omega);obtain⟨gb,ob,rfl,D,cb⟩:=GN.o (by omega);have a0:=(f.cell (p:=⟨ga,oa+k,none⟩) (Ag C hB)).trans (ca k hlt);have b0:=(f.cell (p:=⟨gb,ob+k,none⟩) (Ag D m)).trans (cb k b);have E:=K.eqB (FN.o k hlt) (FN'.o k b);have s:ga<wr.heap.size:=by omega
     have A:gb<wr.heap.size:=by omega
     have kk0:(0:Int)<=(k:Int):=by omega
     have kk1:(k:Int)<(G.ns.length:Int):=by omega
     have kk2:(k:Int)<(H.ns.length:Int):=by omega
     clear ca cb f HN GN FN FN';by_cases q:G.ns[k]=H.ns[k]
     ·have HX:Hid (aX G.ns H.ns (k+1)):=aA (ar.o.next hlt b q);rw[AL q]at E;have E':((K.str G.ns[k]).toList != (K.str H.ns[k]).toList)=false:=by rw[bne,E];rfl
      clear q;generalize K.str G.ns[k]=x0 at *;generalize K.str H.ns[k]=y0 at *;go_wp2_with fail
      go_quiet (fail)
      go_wp2;go_roundw
      case rel=>exact⟨k+1,hlt,by go_num,HX.o,HB.o.drewN _⟩
      case measure=>simp[intOf];omega
     ·have HX:Hid (Gm.same G H=false):=aA (by rw[al.o,zbm hlt b q];rfl);rw[AO q]at E;have E':((K.str G.ns[k]).toList != (K.str H.ns[k]).toList)=true:=by rw[bne,E];rfl
      clear q;generalize K.str G.ns[k]=x0 at *;generalize K.str H.ns[k]=y0 at *;go_wp2_with fail
      go_quiet (fail)
      go_wp2;go_ret
      exact⟨aE HX.o.symm,(HB.o.drewN _).below⟩
    ·obtain rfl:k=G.ns.length:=by omega
     have ah:Hid (Gm.same G H=eqb G.rs H.rs):=aA (by rw[al.o,ar.o.all rfl L2.o];rfl);clear f al hk;go_wp2;go_loopw [7] (fun vi wr=>∃(k:Nat),k<=G.rs.length/\vi=.int .i64 k/\aX G.rs H.rs k/\Two w #[.slice AT G.ts.length cT,.slice AN G.ns.length cN,.slice AR G.rs.length cR,.int .i64 G.st] #[.slice BT H.ts.length dT,.slice BN H.ns.length dN,.slice BR H.rs.length dR,.int .i64 H.st] wr) (fun vi _=>G.rs.length-(intOf vi).toNat)
     case atStart=>exact⟨0,AU _,rfl,aX.zero _ _,HB.o⟩
     case round =>
      clear q01 q11 q02 hz HB;obtain⟨k,hk,rfl,ha,hb⟩:=hrel;have au:=aA ha;have HB:=aA hb;have q02:=hb.c0 2 _ rfl;have q12:=hb.c1 2 _ rfl;have hz:=hb.size;have f:=hb.below;clear ha hb;by_cases hlt:k<G.rs.length
      ·have b:k<H.rs.length:=by have:=L3.o;omega
       obtain⟨ga,oa,rfl,C,ca⟩:=HR.o (by omega);obtain⟨gb,ob,rfl,D,cb⟩:=GR.o (by omega);obtain⟨a0,⟨Aa,cca,a1,_,_,ra⟩,a2⟩:=ca k hlt;obtain⟨b0,⟨Ab,ccb,b1,_,_,rb⟩,b2⟩:=cb k b;have a3:G.rs[k].r.length<=9223372036854775807:=by omega
       have am:H.rs[k].r.length<=9223372036854775807:=by omega
       have a0:=(f.cell (p:=⟨ga,oa+k*3,none⟩) (Ag C hB)).trans a0;have a1:=(f.cell (p:=⟨ga,oa+k*3+1,none⟩) (Ag C hB)).trans a1;have a2:=(f.cell (p:=⟨ga,oa+k*3+2,none⟩) (Ag C hB)).trans a2;have b0:=(f.cell (p:=⟨gb,ob+k*3,none⟩) (Ag D m)).trans b0;have b1:=(f.cell (p:=⟨gb,ob+k*3+1,none⟩) (Ag D m)).trans b1;have b2:=(f.cell (p:=⟨gb,ob+k*3+2,none⟩) (Ag D m)).trans b2;have HS:=aA (fun(z:World) (h:Below w.heap.size w z)=>zfl Aa Ab cca ccb G.rs[k].r H.rs[k].r z ((ra.keep fun g o hg=>h.cell (p:=⟨g,o,none⟩) (Ag hg hB)).more (Am hB h.size)) ((rb.keep fun g o hg=>h.cell (p:=⟨g,o,none⟩) (Ag hg m)).more (Am m h.size)) a3 am);have s:ga<wr.heap.size:=by omega
       have A:gb<wr.heap.size:=by omega
       have kk0:(0:Int)<=(k:Int):=by omega
       have kk1:(k:Int)<(G.rs.length:Int):=by omega
       have kk2:(k:Int)<(H.rs.length:Int):=by omega
       have x8:=aA (f);have CL:=aA (fun(y:Calm.On wr.heap.size wr) (g j:Nat) (u:Value) (hg:g<wr.heap.size) (h:wr.cell? ⟨g,j,none⟩=some u)=>(y.2.cell (p:=⟨g,j,none⟩) hg).trans h);have R0:=fun y:Calm.On wr.heap.size wr=>CL.o y _ _ _ (by omega) q02;have R1:=fun y:Calm.On wr.heap.size wr=>CL.o y _ _ _ (by omega) q12;have A0:=fun y:Calm.On wr.heap.size wr=>CL.o y _ _ _ s a0;have A1:=fun y:Calm.On wr.heap.size wr=>CL.o y _ _ _ s a1;have A2:=fun y:Calm.On wr.heap.size wr=>CL.o y _ _ _ s a2;have B0:=fun y:Calm.On wr.heap.size wr=>CL.o y _ _ _ A b0;have B1:=fun y:Calm.On wr.heap.size wr=>CL.o y _ _ _ A b1;have B2:=fun y:Calm.On wr.heap.size wr=>CL.o y _ _ _ A b2;have N:=aA (fun o o':Obj=>aB (((AB wr.heap.size wr).alloc (Af _) o).alloc (by simp) o') 1);have av:=aA (fun o:Obj=>(aB (AB wr.heap.size wr) 1).alloc (Af _) o);have aw:=aA (fun o o':Obj=>((aB (AB wr.heap.size wr) 1).alloc (Af _) o).alloc (by simp) o');go_wp2_with fail
       refine Calm.region_tree (fun x=>∃y:Calm.On wr.heap.size wr,x=y.1) (.two [0,1,2,3,4,5,6,7,8,9] 10 (.one [] 11 (.one [] 12 (.one [] 13 (.fin [])))) 11 (.one [] 10 (.one [] 12 (.one [] 13 (.fin []))))) (by kernel_rfl) (by kernel_rfl) (fun _ _ d _ _ h=>by cases d <;> exact h) ⟨⟨wr.drew,aB (AB _ _) 1⟩,rfl⟩ ?_;clear q02 q12 a0 a1 a2 b0 b1 b2;simp only[Calm.wpT,Calm.wpSt,Calm.pickOps,Aw,Ah,Aj];repeat (go_big_quiet_step (fail))
       refine Aq ?_;clear R0 R1 A0 A1 A2 B0 B1 B2;refine⟨?_,?_⟩
       all_goals
        intro KK F;rw[Az (by rfl)];go_wp2_with fail
        refine F _ _ ⟨⟨_,av.o _⟩,rfl⟩ _ (fun _ h=>h) ⟨⟨_,av.o _⟩,rfl⟩ ?_;refine Aq ?_;intro KK F;rw[Az (by rfl)];go_wp2_with fail
        refine F _ _ ⟨⟨_,aw.o _ _⟩,rfl⟩ _ (fun _ h=>h) ⟨⟨_,aw.o _ _⟩,rfl⟩ ?_;refine Aq ?_;intro KK F;rw[Az (by rfl)];go_wp2_with fail
        refine F _ _ ⟨⟨_,N.o _ _⟩,rfl⟩ _ (fun _ h=>h) ⟨⟨_,N.o _ _⟩,rfl⟩ ?_;refine Aq ?_;intro KK F;rw[Az (by rfl)];go_wp2_with fail
        refine F _ _ ⟨⟨_,N.o _ _⟩,rfl⟩ _ (fun _ h=>h) ⟨⟨_,N.o _ _⟩,rfl⟩ ?_;refine Aq ?_;have ai:=aA (fun o o':Obj=>(HB.o.on (N.o o o')));have ax:=aA (fun(o o':Obj) (n:Nat)=>(HB.o.on (aB (((AB wr.heap.size wr).alloc (Af _) o).alloc (by simp) o') n)));clear F;generalize qx:G.rs[k]=x at *;generalize qy:H.rs[k]=y at *;have QX:=aA qx;have QY:=aA qy;clear qx qy;by_cases I:x.l=y.l
        case neg =>
         have HX:Hid (Gm.same G H=false):=aA (by rw[ah.o,zbm hlt b (fun e=>I (by rw[<-QX.o,<-QY.o];exact congrArg Gm.Rl.l e))]);have e1:(x.l != y.l)=true:=by simpa using I
         clear I;go_wp2_with fail
         go_ret
         exact⟨aE HX.o.symm,(ai.o _ _).below⟩
        have e1:(x.l != y.l)=false:=by simpa using I
        by_cases J:x.p=y.p
        case neg =>
         have HX:Hid (Gm.same G H=false):=aA (by rw[ah.o,zbm hlt b (fun e=>J (by rw[<-QX.o,<-QY.o];exact congrArg Gm.Rl.p e))]);have e2:(x.p != y.p)=true:=by simpa using J
         clear I J;go_wp2_with fail
         go_ret
         exact⟨aE HX.o.symm,(ai.o _ _).below⟩
        have e2:(x.p != y.p)=false:=by simpa using J
        by_cases O:x.r=y.r
        ·have HX:Hid (aX G.rs H.rs (k+1)):=aA (au.o.next hlt b (QX.o.trans (Eq.trans (by cases x;cases y;simp_all) QY.o.symm)));rw[AL O]at HS;clear I J O;go_wp2_with fail
         refine(HS.o _ (ai.o _ _).below).mono ?_;rintro _ w6 ⟨rfl,n6,rfl⟩;go_wp2;go_roundw
         case rel=>exact⟨k+1,hlt,by go_num,HX.o,ax.o _ _ _⟩
         case measure=>simp[intOf];omega
        ·have HX:Hid (Gm.same G H=false):=aA (by rw[ah.o,zbm hlt b (fun e=>O (by rw[<-QX.o,<-QY.o];exact congrArg Gm.Rl.r e))]);rw[AO O]at HS;clear I J O;go_wp2_with fail
         refine(HS.o _ (ai.o _ _).below).mono ?_;rintro _ w6 ⟨rfl,n6,rfl⟩;go_wp2;go_ret
         exact⟨aE HX.o.symm,(ax.o _ _ _).below⟩
      ·obtain rfl:k=G.rs.length:=by omega
       have HX:Hid (Gm.same G H=true):=aA (by rw[ah.o,au.o.all rfl L3.o]);go_wp2;go_ret
       exact⟨aE HX.o.symm,HB.o.below⟩
end Go.Proofs.YtcmhaemaophplaaGreat
