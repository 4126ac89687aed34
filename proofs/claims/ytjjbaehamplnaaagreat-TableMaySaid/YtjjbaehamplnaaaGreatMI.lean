/- Part of the proofs over this program: Build9, Rcopy, Rcopy2, TrimKept, TrimRed, TrimReduced, CfgSame, CfgSame2. -/
import Derived.Test.YtjjbaehamplnaaaGreatMH
set_option linter.all false
namespace Go
def Cd:=@Nat.add_zero
def Dy:=@List.map_singleton
def DQ:=@List.map_congr_left
def DL:=@Go.World.drewN_drewN
end Go
set_option maxRecDepth 100000
set_option maxHeartbeats 40000000
variable {G:Go.Proofs.YtjjbaehamplnaaaGreat.Gm.Gr} {base base' g i k n:Nat} {ds:List Go.Proofs.YtjjbaehamplnaaaGreat.Y.Dcl} {j:Int} {ns ns':List (List Int)} {ops:Array Go.Oper} {r zs:List Int} {rs:List Go.Proofs.YtjjbaehamplnaaaGreat.Gm.Rl} {ts ts':List Go.Proofs.YtjjbaehamplnaaaGreat.Gm.Tm} {v v' vN vT:Go.Value} {w w':Go.World} {xs:List Go.Value}
namespace Go.Proofs.YtjjbaehamplnaaaGreat
open Go.RowKit
structure Ez (ds:List Y.Dcl) (ps:List Y.Prd):Prop where
 k:zlq ds
 d:∀d∈ds,(∀x∈d.ns,K.Tx x.t/\Gm.named x.t=true)/\d.ns.length<=1000000
 l:∀p∈ps,K.Tx p.l.t/\T.isName p.l.t=true
 r:∀p∈ps,(∀x∈p.r,znX x)/\PrOk p/\p.r.length<=1000
 dl:ds.length<=1000
 pl:ps.length<=1000
 pn:0<ps.length
theorem zeA {ps:List Y.Prd} (hk:zlq ds) (h:Gm.build ds ps=.ok G):∃S ns q,Gm.decls ⟨[],[],none,0⟩ ds=.ok S/\Gm.lefts S.ts [] ps=.ok ns/\Gm.prods ns S.ts [] ps=.ok q/\G=⟨q.1,ns,q.2,0⟩:=by
 unfold Gm.build at h;obtain⟨S,h1,h⟩:=Gm.R.bind_eq h;obtain⟨ns,h2,h⟩:=Gm.R.bind_eq h;obtain⟨q,h3,h⟩:=Gm.R.bind_eq h;have hs:S.st=none:=zcK ds hk h1;rw[hs]at h;injection h with h;exact⟨S,ns,q,h1,h2,h3,h.symm⟩
theorem zei {ps:List Y.Prd} (h:i<ps.length):Gm.prods ns ts rs (ps.drop i)=(Gm.prod1 ns ts rs ps[i]).bind fun q=>Gm.prods ns q.1 q.2 (ps.drop (i+1)):=by
 rw[Bx h,Gm.prods]
theorem zh6 (w:World):(Instr.build 155 #[]).run Tryz.prog w=.ok (.agg (wC (.slice none 0 0) (.slice none 0 0) (.slice none 0 0) 0)) w:=D6 w 155 _ _ (by kernel_rfl)
theorem zg8 {rs':List Gm.Rl} {pr:Y.Prd} (h:Gm.prod1 ns ts rs pr=.ok (ts',rs')) (hl:rs.length<=40):rs'.length<=40:=by
 obtain⟨aa,tz,az,pz,_,q⟩:=zb1 h;rcases q with⟨_,_,rfl⟩|⟨x,z,_,_,rfl⟩ <;> simp <;> omega
def GrW (w:World) (v:Value) (G:Gm.Gr):Prop:=∃B N R cs vT vN vR,v=.agg #[vT,vN,vR,.int .i64 G.st]/\WRaw w B N R cs vT vN vR G.ts G.ns G.rs/\N<=w.heap.size
theorem GrW.rd {w:World} {v:Value} {G:Gm.Gr} (h:GrW w v G):aQ w w.heap.size v G:=by
 obtain⟨B,N,R,cs,vT,vN,vR,rfl,h,hN⟩:=h;exact h.rd hN G.st
theorem zk6 (w:World) (A1 A2:Option Addr) (n1 n2 c1 c2:Nat) (wb:World) (h:wb=((w.alloc (.cells #[.slice A1 n1 c1,.slice A2 n2 c2] 114)).alloc (.cells #[.slice none 0 0,.slice none 0 0,.slice none 0 0,.int .i64 0] 26)).alloc (.cells (wC (.slice none 0 0) (.slice none 0 0) (.slice none 0 0) 0) 155)) :
  Below w.heap.size w wb/\wb.heap.size=w.heap.size+3/\wb.heap[w.heap.size]?=some (.cells #[.slice A1 n1 c1,.slice A2 n2 c2] 114 (0,0))/\wb.heap[w.heap.size+1]?=some (.cells #[.slice none 0 0,.slice none 0 0,.slice none 0 0,.int .i64 0] 26 (0,0))/\Wk wb w.heap.size (w.heap.size+3) (w.heap.size+1+1) [] [] [] 0:=by
 obtain⟨o0,h0⟩:∃o,o=Obj.cells #[.slice A1 n1 c1,.slice A2 n2 c2] 114:=⟨_,rfl⟩
 obtain⟨o1,h1⟩:∃o,o=Obj.cells #[.slice none 0 0,.slice none 0 0,.slice none 0 0,.int .i64 0] 26:=⟨_,rfl⟩
 obtain⟨o2,h2⟩:∃o,o=Obj.cells (wC (.slice none 0 0) (.slice none 0 0) (.slice none 0 0) 0) 155:=⟨_,rfl⟩
 rw[<-h0,<-h1,<-h2]at h;subst h;have s1:(w.alloc o0).heap.size=w.heap.size+1:=by simp
 have s2:((w.alloc o0).alloc o1).heap.size=w.heap.size+1+1:=by simp
 refine⟨(((Aq _ w).alloc (Ad _) o0).alloc (by omega) o1).alloc (by omega) o2,by simp,?_,?_,.slice none 0 0,.slice none 0 0,.slice none 0 0,?_,aX.nil _ _,bJ.nil _ _,bB.nil _ _ _,by omega⟩
 ·rw[BI _ _ _ (by omega),BI _ _ _ (by omega),h0];exact Az w _
 ·rw[BI _ _ _ (by omega),<-s1,h1];exact Az _ _
 ·rw[<-s2,h2];exact Az _ _
theorem zmL (L:List Int) (ds:List Y.Dcl) (ps:List Y.Prd) (A1 A2:Option Addr) (c1 c2:Nat) (G:Gm.Gr) (w:World) (hd:zli L w w.heap.size A1 ds) (hp:zlh L w w.heap.size A2 ps) (hz:Ez ds ps) (hb:Gm.build ds ps=.ok G) :
  Calls Tryz.prog 54 #[.agg #[.slice A1 ds.length c1,.slice A2 ps.length c2]] w fun e w'=>(∃g,e=.returned (.tuple #[g,.complex .f64 0 0,.int .i64 0])/\GrW w' g G/\Gm.Fit G)/\Below w.heap.size w w':=by
 obtain⟨S,ns,⟨tz,rz⟩,h1,h2,h3,hG⟩:=zeA hz.k hb;have ax:=fun w=>zh6 w;unfold wC at ax;have ay:=aA hd;have ai:=aA hp;have HZ:=aA hz;have H1:=aA h1;have H2:=aA h2;have H3:=aA h3;have HG:=aA hG;have bl:Hid (0<ps.length):=aA hz.pn;clear hd hp hz hb h1 h2 h3 hG
 go_enter Tryz.func54,Tryz.ntmps54
 go_wp2_with fail
 obtain⟨wb,ae⟩:∃x,x=((w.alloc (.cells #[.slice A1 ds.length c1,.slice A2 ps.length c2] 114)).alloc (.cells #[.slice none 0 0,.slice none 0 0,.slice none 0 0,.int .i64 0] 26)).alloc (.cells (wC (.slice none 0 0) (.slice none 0 0) (.slice none 0 0) 0) 155):=⟨_,rfl⟩
 have bm:=zk6 w A1 A2 ds.length ps.length c1 c2 wb ae;unfold wC at ae;rw[<-ae];obtain⟨b1,b2,b3,b4,b5⟩:=bm;have z:=aA b1;have aj:=aA b3;have az:=aA b4;have ak:=aA b5;have s:Hid (w.heap.size<=wb.heap.size/\w.heap.size+3<=wb.heap.size):=aA (by omega);clear ae b1 b2 b3 b4 b5 ax;obtain⟨n,hn⟩:∃n,n=w.heap.size:=⟨_,rfl⟩
 have bn:=aA hn;rw[<-hn]at ay ai z aj az ak s ⊢;clear hn;obtain⟨R,hR⟩:∃R,R=n+1+1:=⟨_,rfl⟩
 rw[<-hR]at ak ⊢;have b8:=aA hR;clear hR;have bo:Hid (Gm.Fit ⟨[],[],[],0⟩):=aA ⟨by simp,by simp,by simp,by unfold Gm.In;simp⟩;have HC:=aA (zmG L n (n+3) R [] [] ds ⟨[],[],none,0⟩ S A1 c1 wb ak.o ⟨bo.o,by simp,by simp⟩ HZ.o.k HZ.o.d (ay.o.keep z.o) s.o.2 s.o.1 rfl HZ.o.dl H1.o);refine HC.o.mono ?_;rintro _ w2 ⟨rfl,⟨a0,a1⟩,a2,al⟩;have a3:=aA a0;have am:=aA a1;have u:=aA a2;have a4:=aA (KpT.a al);have ab:=aA (al _ _ _ aj.o (by decide) (by decide));have s1:=aR ab.o;have aa:=(Ac.1 ab.o).1;have a5:=aA (zma L n (n+3) R S.ts [] ps [] ns S.lv A2 c2 w2 a3.o am.o.f HZ.o.l ((ai.o.keep z.o).keep u.o) (Ag s.o.2 u.o.size) (Ag s.o.1 u.o.size) (by simp) HZ.o.pl H2.o);clear a0 a1 a2 al HC;go_wp2_with fail
 refine a5.o.mono ?_;rintro _ w3 ⟨rfl,⟨a6,a9,ba⟩,ao,bb⟩;have bp:Hid (Wk w3 n w3.heap.size R S.ts ns [] S.lv):=aA (a6.more (Ag s.o.2 (Ag u.o.size ao.size)));have bq:=aA a9;have br:=aA (u.o.trans ao);have bs:=aA (a4.o.trans bb);have bu:=aA ba;have bv:=aA am.o.h;clear a6 a9 ao bb a5 s1 ba aa a3 u a4 ab am;go_wp2;go_loopw [6] (fun vi wr=>∃(i:Nat) (ts:List Gm.Tm) (rs:List Gm.Rl),i<=ps.length/\vi=.int .i64 i/\Hid (Gm.prods ns ts rs (ps.drop i)=.ok (tz,rz))/\Hid (Wk wr n wr.heap.size R ts ns rs S.lv)/\Hid (Gm.Fit ⟨ts,ns,rs,0⟩)/\Hid (ts.length<=24)/\Hid (rs.length<=40)/\Hid (Below n wb wr)/\Hid (KpA wb wr)) (fun vi _=>ps.length-(intOf vi).toNat)
 case atStart=>exact⟨0,S.ts,[],AX _,rfl,H3,bp,bq,bv,aA (by simp),br,bs⟩
 case round =>
  obtain⟨i,ts,rs,hi,rfl,HE,HW,HF,HT,bc,af,ap⟩:=hrel;have ag:=aA (ap.o _ _ _ aj.o (by decide) (by decide) (by decide) (by decide));have s1:=aR ag.o;have aa:=(Ac.1 ag.o).1;obtain⟨vTr,vNr,vRr,aq⟩:=HW.o;have f10:=(aq.at 10).1;have bw:=aq.lt;simp only[wC,Am,Af,Ah]at f10;clear aq;have b9:=af.o.size;have ca:=HZ.o.pl;have ar:n<=wr.heap.size:=by have:=s.o;omega
  by_cases A:i<ps.length
  ·have bx:=aA ((ai.o.keep z.o).keep af.o);obtain⟨g,o,rfl,cb,hc⟩:=bx.o (by omega);obtain⟨k0,k1,⟨A',c',k2,bd⟩,k3,k4⟩:=hc i A;have cc:g<wr.heap.size:=by have:=s.o;omega
   have hE:=HE.o;rw[zei A]at hE;obtain⟨⟨t2,r2⟩,au,av⟩:=Gm.R.bind_eq hE;simp only at av;have bz:=aA av;obtain⟨z1,z2,z3⟩:=HZ.o.r _ (Ay A);have HC:=aA (znv L n R ts t2 ns rs r2 S.lv ps[i] A' c' wr HW.o HF.o bd (HZ.o.l _ (Ay A)).1 z1 z2 (by have:=s.o;omega) HT.o bu.o bc.o z3 au);have bD:=aA (zg8 au bc.o);unfold zb3 at HC;clear hc bd hE av au z1 z2 z3;generalize ps[i]=p at *;generalize rfX L p.l=X0 at *;generalize rfY L p.l=Y0 at *;generalize K.str p.l.t=s0 at *;generalize soX L p.p=X1 at *;generalize soY L p.p=Y1 at *;generalize soS p.p=s1 at *;go_wp2_with fail
   refine HC.o.mono ?_;rintro _ w4 ⟨rfl,⟨bf,bg,bh⟩,bi,bj⟩;have H4:=aA (BJ bf (BJ bg (BJ bh (BJ (af.o.trans bi) (ap.o.trans bj)))));clear bf bg bh bi bj HC;go_wp2;go_roundw
   case rel=>exact⟨i+1,t2,r2,A,by go_num,bz,aA H4.o.1,aA H4.o.2.1,aA H4.o.2.2.1,bD,aA H4.o.2.2.2.1,aA H4.o.2.2.2.2⟩
   case measure=>simp[intOf];omega
  ·obtain rfl:i=ps.length:=by omega
   have hE:=HE.o;rw[DT,Gm.prods]at hE;injection hE with hE;injection hE with e1 e2;subst e1;subst e2;have e0:((ps.length:Int)==0)=false:=AY.2 (by have:=bl.o;omega);go_wp2_with fail
   have f7:=fun y:Calm.On wr.heap.size wr=>(show y.1.cell? ⟨R,7,none⟩=some (.bool false) by obtain⟨a,b,c,h⟩:=HW.o.below y.2;exact(h.at 7).1)
   refine CalmN.region_tree (fun x=>∃y:Calm.On wr.heap.size wr,x=y.1) (.one [0,1,2,3,4,5,6,7,8,9,10,11,12,13] 14 (.fin [15,16])) (by kernel_rfl) (by kernel_rfl) (fun _ _ d _ _ h=>by cases d <;> exact h) ⟨⟨wr.drew,aB (Aq _ _) 1⟩,rfl⟩ ?_;simp only[CalmN.wpT,CalmN.wpSt,CalmN.pickOps,Am,Af,Ah];repeat (go_big_quiet_step (fail))
   refine Aj ?_;intro KK2 ac;rw[AB (by exact(fun h=>absurd (show false=true from h) (by decide)))];refine ac _ _ ⟨⟨wr.drew,aB (Aq _ _) 1⟩,rfl⟩ _ (fun _ h=>h) ⟨⟨wr.drew,aB (Aq _ _) 1⟩,rfl⟩ ?_;simp only[Act.put,Eo,Dv,D4];repeat (go_big_quiet_step (fail))
   refine Aj ?_;clear f7 s1 aa f10 bw ac;obtain⟨wz,ah⟩:∃x,x=wr.drew:=⟨_,rfl⟩
   rw[<-ah];have B:Below wr.heap.size wr wz:=by rw[ah];exact aB (Aq _ _) 1
   have bM:=aA (HW.o.below B);have bk:wz.heap.size=wr.heap.size:=by rw[ah];rfl
   have bT:=aA ((z.o.trans af.o).trans (B.mono ar));have ad:=aA ((B.block _ (Ac.1 ag.o).1).trans ag.o);have aw:=ap.o _ _ _ az.o (by decide) (by decide) (by decide) (by decide);have j:=aA ((B.block _ (Ac.1 aw).1).trans aw);clear ah aw B;have s1:=aR ad.o;have aa:=(Ac.1 ad.o).1;obtain⟨vTz,vNz,vRz,m⟩:=bM.o;obtain⟨⟨AT,cT,rfl⟩,⟨AN,cN,rfl⟩,⟨AR,cR,rfl⟩⟩:=zas m;have bX:=aA m;have b0:=(m.at 0).1;have b1:=(m.at 1).1;have b2:=(m.at 2).1;have b3:=(m.at 3).1;have b7:=(m.at 7).1;have b10:=(m.at 10).1;have cd:=m.lt;simp only[wC,Am,Af,Ah]at b0 b1 b2 b3 b7 b10;have g0:=aM j.o;have g1:=aR j.o;have g2:=bF j.o;have g3:=bQ j.o;have f0:=AD wz _ 0 _ _ j.o;have f1:=AD wz _ 1 _ _ j.o;have f2:=AD wz _ 2 _ _ j.o;have f3:=AD wz _ 3 _ _ j.o;have ce:=(Ac.1 j.o).1;have bZ:Hid (Off9 wz wz.heap.size (some (n+1))):=aA ⟨fun g e=>by injection e with e;subst e;exact⟨_,_,j.o,by decide,by decide,by decide,.inl ⟨by decide,by decide⟩⟩⟩;have b6:=aA (fun u0 u1 u2 u3=>(bX.o.more (N':=wz.heap.size) (by rw[bk];exact Ad _)).grown (aF (aF (aF (aF (AI wz (some (n+1))) 0 u0) 1 u1) 2 u2) 3 u3) bZ.o);clear m bk;go_wp2;refine BM (v:=.tuple #[.agg #[.slice AT ts.length cT,.slice AN ns.length cN,.slice AR rs.length cR,.int .i64 0],.complex .f64 0 0,.int .i64 0]) (by simp[results,Tryz.results54,go_sem,g0,g1,g2,g3]) rfl ?_;rw[HG.o];refine⟨⟨_,rfl,⟨_,_,_,_,_,_,_,rfl,b6.o _ _ _ _,by simp⟩,HF.o⟩,?_⟩;rw[<-bn.o];exact(((bT.o.setCell (by simp only;omega) _).setCell (by simp only;omega) _).setCell (by simp only;omega) _).setCell (by simp only;omega) _
theorem zjv {rest:List Oper} {o:Oper} {a:Act} {Q:Exit->Act->World->Prop} (af:o.guard=none) (s x:Operand) (t:TypeId) (ho:o.op=.call {callee:=.builtin .append,args:=#[s,x],argTypes:=#[t,t]}) (ht:Tryz.prog.underlying t=some (.slice 85)) (base:Nat) (v:Value) (xs:List Gm.Tm) (hs:a.eval s=v) (aa:aX w base v xs) (B m c:Nat) (A:Option Addr) (zs:List Gm.Tm) (hx:a.eval x=.slice A m c) (hm:m=zs.length) (hr:zeE w B A zs) (aj:xs.length+zs.length<=1000000) (ab:base<=w.heap.size) (hK:∀v' w',aX w' base v' (xs++zs)->w.grownBy w' v.ownBlock->wpList Tryz.prog ops Q rest (a.put o.dst v') w') :
  wpList Tryz.prog ops Q (o::rest) a w:=by
 obtain⟨i,hi,ak,al,am⟩:=CD zjM;subst hm;rcases A with _|ad
 ·have hz:zs=[]:=by
   rcases Dh zs.length with h0|h0
   ·exact Bv h0
   ·obtain⟨g,o',h,_⟩:=hr (by omega);cases h
  subst hz;have ac:=zar (P:=Tryz.prog) w base t o.type 85 i 3 ht hi v xs.length _ aa c;refine wpList_plain af fun K ao=>?_;unfold Oper.wp;simp[execOp,ho,resolve,invoke,builtin,hs,hx,ac,Result.andThen];exact ao _ _ (hK v w (by simpa using aa) (AI _ _))
 ·refine Dm w af s x t ho base 85 i _ 3 32 ht hi ak al am rfl (by decide) v xs.length (zd8 xs) hs aa ad zs.length c (zd8 zs) hx (zdh tmC (fun _=>rfl) zs) ?_ ?_ (by unfold maxLen;omega) (by omega) ab fun v' w' h1 h2 _=>hK v' w' ?_ h2
  ·intro j u hj;have ap:j<zs.length*3:=by have:=(Ba.1 hj).1;rw[<-zdh tmC (fun _=>rfl) zs];exact this
   obtain⟨g,o',h,_,hc⟩:=hr (by omega)
   replace h:=DE h
   subst h;have e:((⟨g,o',none⟩:Addr).add j)=⟨g,o'+j,none⟩:=by unfold Addr.add;by_cases h0:j=0 <;> simp[h0]
   rw[e];have ag:j / 3<zs.length:=by omega
   have ah:j % 3<3:=Nat.mod_lt _ (by decide);have ai:j=j / 3*3+j % 3:=by omega
   have hk:=zbj tmC (fun _=>rfl) zs (j / 3) (j % 3) ag ah;rw[<-ai]at hk;have ae:(tmC zs[j / 3])[j % 3]?=some u:=hk.symm.trans hj;obtain⟨k0,k1,k2⟩:=hc (j / 3) ag;rw[ai];generalize j % 3=q at *
   match q,ah with
   | 0,_=>rw[Cd,k0];exact ae
   | 1,_=>rw[<-Nat.add_assoc,k1];exact ae
   | 2,_=>rw[<-Nat.add_assoc,k2];exact ae
  ·intro u hu;unfold zd8 at hu;obtain⟨y,_,hy⟩:=CK.1 hu;simp[tmC]at hy;rcases hy with rfl|rfl|rfl <;> rfl
  ·unfold aX zd8;rw[AU,BX];exact h1
theorem zb5 (w:World):aX (w.alloc (.cells #[] 85)) w.heap.size (.slice (some ⟨w.heap.size,0,none⟩) 0 0) []:=by
 have:=World.ownsRow_made (base:=w.heap.size) (e:=85) (size:=3) w #[] 0 (Ad _) (by unfold maxLen;omega) rfl
 exact this
section
variable {w0 wr w':World} {n:Nat} {cs:Array Value} {vT vN v:Value} {ts:List Gm.Tm} {ns:List (List Int)} {rs:List Gm.Rl}
end
theorem za7 {e:TypeId} {size:Nat} (h:w.ownsRow base e size v n xs) (hb:base'<=base):w.ownsRow base' e size v n xs:=by
 refine⟨h.1,?_⟩;rcases h.2 with h0|⟨g,cap,cur,e,aa,hr⟩
 ·exact .inl h0
 ·exact .inr ⟨g,cap,cur,e,by omega,hr⟩
structure Gx (w:World) (n:Nat) (vT vN v:Value) (ts:List Gm.Tm) (ns:List (List Int)) (rs:List Gm.Rl):Prop where
 a:∃cs,w.heap[n]?=some (.cells cs 26 (0,0))
 b:∃cs,w.heap[n+1]?=some (.cells cs 26 (0,0))
 t:aX w n vT ts
 nn:bJ w n vN ns
 r:bB w n w.heap.size v rs
theorem Gx.set (h:Gx w n vT vN v ts ns rs) (g j:Nat) (u:Value) (hg:g=n\/g=n+1):Gx (w.setCell ⟨g,j,none⟩ u) n vT vN v ts ns rs:=by
 have hc:∃cs,w.heap[g]?=some (.cells cs 26 (0,0)):=by rcases hg with rfl|rfl;exact h.a;exact h.b
 obtain⟨cs,hc⟩:=hc;have hs:w.grownBy (w.setCell ⟨g,j,none⟩ u) (some g):=aF (AI _ _) j u
 have key:∀m:Nat,(∃cs,w.heap[m]?=some (.cells cs 26 (0,0)))->∃cs,(w.setCell ⟨g,j,none⟩ u).heap[m]?=some (.cells cs 26 (0,0)):=fun m ⟨c2,h2⟩=>by
  by_cases e:m=g
  ·subst e;exact⟨_,AP w m j _ _ u h2⟩
  ·exact⟨c2,(AH w ⟨g,j,none⟩ u m (by simp only;omega)).trans h2⟩
 refine⟨key n h.a,key (n+1) h.b,AZ h.t hs (aN h.t hc (fun cur e=>by injection e with _ e;cases e)),AZ h.nn hs (aN h.nn hc (fun cur e=>by injection e with _ e;cases e)),(h.r.grown hs (fun g' e=>?_)).more hs.size⟩;injection e with e;subst e;exact .inl ⟨aO hc (by decide),aO hc (by decide)⟩
theorem Gx.rd (h:Gx w n vT vN v ts ns rs) (z:Int):aQ w w.heap.size (.agg #[vT,vN,v,.int .i64 z]) ⟨ts,ns,rs,z⟩:=by
 obtain⟨AT,cT,rfl,h1,h2⟩:=zbh h.t;obtain⟨AN,cN,rfl,h3,h4⟩:=zbM h.nn;obtain⟨AR,cR,rfl,h5,h6⟩:=zbm h.r (Ad _);exact⟨AT,cT,AN,cN,AR,cR,rfl,h1,h3,h5,h2,h4,h6⟩
end Go.Proofs.YtjjbaehamplnaaaGreat
namespace Go.Proofs.YtjjbaehamplnaaaGreat
open Go.RowKit
theorem Gm.use_rcB (h:Gm.Ok G) {x:Gm.Rl} (hx:x∈G.rs):Gm.rcB (Gm.gn true G.rs G.ns.length) (Gm.rc G) x=Gm.use G x:=by
 unfold Gm.rcB Gm.use;rw[Bn,AQ,Gm.tr_iff,Gm.allB_gn h.lin];have hl:=h.lin x hx;rw[Gm.rc_at G x.l.toNat (by omega),Gm.tr_iff,Br hl.1]
noncomputable def Gm.kl (G:Gm.Gr) (i:Nat):List Int:=((List.range i).filter fun j=>(G.rs[j]?).any (Gm.use G)).map fun j:Nat=>(j:Int)
theorem Gm.kl_next (h:i<G.rs.length):Gm.kl G (i+1)=if Gm.use G G.rs[i]=true then Gm.kl G i++[(i:Int)] else Gm.kl G i:=by
 unfold Gm.kl;rw[Cp,CF,AW];have e:(G.rs[i]?).any (Gm.use G)=Gm.use G G.rs[i]:=by rw[Ar h];rfl
 cases hu:Gm.use G G.rs[i]
 ·simp[e,hu]
 ·simp[e,hu]
theorem Gm.kl_len (G:Gm.Gr) (i:Nat):(Gm.kl G i).length<=i:=by
 unfold Gm.kl;rw[Bb]
 have:=Ct (fun j=>(G.rs[j]?).any (Gm.use G)) (List.range i)
 simpa using this
theorem Gm.kl_all (G:Gm.Gr):Gm.kl G G.rs.length=(Gm.kept G).map fun j:Nat=>(j:Int):=rfl
theorem zlY (c:Nat) (w:World):(binOp .eql 22 (.slice none 0 c) (.slice none 0 0)).run Tryz.prog w=.ok (.bool true) w:=by kernel_rfl
theorem zki (ad:Addr) (n c:Nat) (w:World):(binOp .eql 22 (.slice (some ad) n c) (.slice none 0 0)).run Tryz.prog w=.ok (.bool false) w:=by kernel_rfl
theorem zh3 (A:Option Addr) (c B:Nat) (ts:List Gm.Tm) (w:World) (hr:zeE w B A ts) (hB:B<=w.heap.size) (hl:ts.length<=1000) :
  Calls Tryz.prog 180 #[.slice A ts.length c] w fun e w'=>∃v,e=.returned v/\aX w' w.heap.size v ts/\Below w.heap.size w w':=by
 have HR:=aA (fun o=>(show zeE (w.alloc o) w.heap.size A ts from(hr.keep fun g o' hg=>(Below.cell ((Aq w.heap.size w).alloc (Ad _) o) (p:=⟨g,o',none⟩) (by simp only;omega))).more hB));have HL:=aA hl;cases A with
 | none =>
  have h0:ts=[]:=by
   rcases Dh ts.length with h|h
   ·exact Bv h
   ·obtain⟨g,o,e,_⟩:=hr (by omega);cases e
  subst h0;have hq:=fun w=>zlY c w;clear hr hl HR HL hB
  go_enter Tryz.func180,Tryz.ntmps180
  go_wp2;go_ret
  exact⟨_,rfl,aX.nil _ _,Aq _ _⟩
 | some ad =>
  have hq:=fun w=>zki ad ts.length c w;clear hr hl hB
  go_enter Tryz.func180,Tryz.ntmps180
  go_wp2_with (at_builtin;refine zjv rfl (.tmp 5) (.tmp 6) _ rfl Tryz.underlying22 w.heap.size _ [] rfl (zb5 w) w.heap.size ts.length c (some ad) ts rfl rfl (HR.o _) (by have:=HL.o;simp;omega) (by simp) ?_;intro v2 w2 aa ab)
  go_ret
  exact⟨_,rfl,aa,((Aq w.heap.size w).alloc (Ad _) _).grown ab (by simp) (fun k e=>(zac (zb5 w) e).1)⟩
def Gm.an1 (an:List Int) (z:Int):Int:=if z<0 then -1-an.getD (-1-z).toNat 0 else z
theorem Gm.fill_set (f:Int->Int) (h:k<r.length):((r.take k).map f++List.replicate (r.length-k) 0).set k (f r[k])=(r.take (k+1)).map f++List.replicate (r.length-(k+1)) 0:=by
 rw[CY _ _ (by simp;omega)];rw[AO h,AW,BW]
 congr 1
 rw[show k-((r.take k).map f).length=0 by simp;omega,show r.length-k=(r.length-(k+1))+1 by omega,CQ];rfl
theorem zcm (x:Gm.Rl) (an:List Int) (A A2:Option Addr) (c c2 B B2:Nat) (w:World) (hr:RdI w B A x.r) (h2:RdI w B2 A2 an) (hB:B<=w.heap.size) (ae:B2<=w.heap.size) (f:∀z∈x.r,Gm.In z) (hs:∀z∈x.r,z<0->-1-z<(an.length:Int)) (hx:0<=x.l/\x.l<an.length) (hl:x.r.length<=1000) (ao:∀i:Nat,i<an.length->0<=an.getD i 0/\an.getD i 0<=1000) :
  Calls Tryz.prog 181 #[.agg #[.int .i64 x.l,.slice A x.r.length c,.int .i64 x.p],.slice A2 an.length c2] w fun e w'=>∃g,e=.returned (.agg #[.int .i64 (an.getD x.l.toNat 0),.slice (some ⟨g,0,none⟩) x.r.length x.r.length,.int .i64 x.p])/\w.heap.size<=g/\UBI w' g (x.r.map (Gm.an1 an))/\Below w.heap.size w w':=by
 obtain⟨l,r,pz⟩:=x;simp only at hr f hs hx hl ⊢;obtain⟨ml,rfl⟩:∃m:Nat,l=(m:Int):=⟨l.toNat,by omega⟩
 rw[BZ];obtain⟨w1,C⟩:∃y,y=(w.alloc (.cells #[.int .i64 ml,.slice A r.length c,.int .i64 pz] 74)).alloc (.cells #[.int .i64 0,.slice none 0 0,.int .i64 0] 74):=⟨_,rfl⟩
 have ap:w1.heap.size=w.heap.size+2:=by rw[C];simp
 have az:Hid (Below w.heap.size w w1):=aA (by rw[C];exact((Aq _ w).alloc (Ad _) _).alloc (by simp) _);have x0:w1.heap[w.heap.size]?=some (.cells #[.int .i64 ml,.slice A r.length c,.int .i64 pz] 74 (0,0)):=by rw[C,BI _ _ _ (by simp)];exact Az w _
 have x1:w1.heap[w.heap.size+1]?=some (.cells #[.int .i64 0,.slice none 0 0,.int .i64 0] 74 (0,0)):=by rw[C];have:=Az (w.alloc (.cells #[.int .i64 ml,.slice A r.length c,.int .i64 pz] 74)) (.cells #[.int .i64 0,.slice none 0 0,.int .i64 0] 74);simpa using this
 have c1:=aR x0;have af:=aA x0;have ag:=aA x1;have n:=aA ap;have a0:w.heap.size<w1.heap.size:=by omega
 have HR:=aA (fun(y:World) (h:Below w.heap.size w y)=>hr.below h hB);have H2:=aA (fun(y:World) (h:Below w.heap.size w y)=>h2.below h ae);have HI:=aA (fun z w=>zbo z w);have HN:=aA (fun z h1 h2 w=>zbH z h1 h2 w);have a1:=aA f;have a2:=aA hs;have a3:=aA ao;have a4:ml<an.length:=by omega
 have bi:(ml:Int)<(an.length:Int):=by omega
 have a5:=aA (BJ hB ae);have a6:(r.length:Int)<=9223372036854775807:=by omega
 clear hr h2 f hs hx hB ae ao x0 x1 ap
 go_enter Tryz.func181,Tryz.ntmps181
 go_upto_region 1 with fail
 rw[<-C];clear C;go_upto_region 2 with(at_make;refine zem rfl (.tmp 10) (.tmp 10) _ rfl Tryz.underlying51 r.length _ _ rfl rfl rfl rfl (by omega) ?_;intro w2 aq D a9)
 have ah:=aA aq;have c1:=(D.cell (p:=⟨w.heap.size,1,none⟩) (by simp only;omega)).trans c1;have ba:w.heap.size<w2.heap.size:=by omega
 have ar:=aA (az.o.trans (D.mono (by have:=n.o;omega)));have af:=aA ((D.block w.heap.size a0).trans af.o);have ag:=aA ((D.block (w.heap.size+1) (by have:=n.o;omega)).trans ag.o);clear aq D;go_wp2;go_loopw [15] (fun vk wr=>∃k:Nat,k<=r.length/\vk=.int .i64 k/\Hid (UBI wr w1.heap.size ((r.take k).map (Gm.an1 an)++List.replicate (r.length-k) 0))/\Hid (w2.grownBy wr (some w1.heap.size))) (fun vk _=>r.length-(intOf vk).toNat)
 case atStart=>exact⟨0,AX _,rfl,by simpa using ah,aA (AI _ _)⟩
 case round =>
  obtain⟨k,hk,rfl,HU,HW⟩:=hrel;have E:=aA (zaa ar.o HW.o (by have:=n.o;omega) ar.o.size);by_cases s:k<r.length
  ·obtain⟨g,o,rfl,bj,hc⟩:=HR.o wr E.o (by omega);have k0:=hc k s;rw[L.gd_lt s]at k0;have bl:=Bd k0;have f:=a1.o _ (Ay s);have ai:=a2.o _ (Ay s);have aa:=aA (Gm.fill_set (Gm.an1 an) s);have bm:=HU.o.lt;have bn:=HU.o.frozen k;have bo:=HU.o.cell k (by simp;omega);have bp:=HU;generalize r[k]=z at *;unfold Gm.In at f;have ab:=aA (fun w=>HI.o z w);have aj:=aA (fun w=>HN.o z f.1 f.2 w);have au:=aA (fun u=>HU.o.set_ k u);have av:=aA (fun u=>aF HW.o k (Value.int .i64 u));clear hc;by_cases hz:z<0
   ·have bb:=ai hz;obtain⟨j,hj⟩:∃j:Nat,-1-z=(j:Int):=⟨(-1-z).toNat,by omega⟩
    rw[hj]at bb;have ak:Hid (Gm.an1 an z = -1-an.getD j 0):=aA (by unfold Gm.an1;rw[Ap hz,hj];simp);obtain⟨g2,o2,rfl,bc,F⟩:=H2.o wr E.o (by omega);have k2:=F j (by omega);have hq:=a3.o j (by omega);have bq:j<an.length:=by omega
    have bd:=aA (fun w=>HN.o (an.getD j 0) (by omega) (by omega) w);rw[hj]at aj;rw[AJ hz]at ab;rw[ak.o]at aa;generalize an.getD j 0=qv at *;have l2:=Bd k2;clear hz hj ai F f hq;go_wp2_with fail
    refine(ab.o _).mono ?_;rintro _ w3 ⟨rfl,t⟩;subst t;go_wp2_with fail
    refine(aj.o _).mono ?_;rintro _ w3 ⟨rfl,t⟩;subst t;go_wp2_with fail
    refine(bd.o _).mono ?_;rintro _ w3 ⟨rfl,t⟩;subst t;generalize -1-qv=nv at *;go_wp2;go_roundw
    case rel=>exact⟨k+1,s,by go_num,by rw[<-aa.o];exact au.o nv,av.o nv⟩
    case measure=>simp[intOf];omega
   ·have ak:Hid (Gm.an1 an z=z):=aA (by unfold Gm.an1;rw[AB hz]);rw[AM hz]at ab;rw[ak.o]at aa;clear hz ai f aj;go_wp2_with fail
    refine(ab.o _).mono ?_;rintro _ w3 ⟨rfl,t⟩;subst t;go_wp2;go_roundw
    case rel=>exact⟨k+1,s,by go_num,by rw[<-aa.o];exact au.o z,av.o z⟩
    case measure=>simp[intOf];omega
  ·obtain rfl:k=r.length:=by omega
   have ah:Hid (UBI wr w1.heap.size (r.map (Gm.an1 an))):=aA (by have:=HU.o;simpa using this);have ac:=aA ((HW.o.block w.heap.size ba (fun e=>by injection e with e;omega)).trans af.o);have bf:=aA ((HW.o.block (w.heap.size+1) (by have:=n.o;omega) (fun e=>by injection e with e;have:=n.o;omega)).trans ag.o);obtain⟨g2,o2,rfl,bc,F⟩:=H2.o wr E.o (by omega);have k2:=F ml a4;obtain⟨qv,al⟩:∃q,q=an.getD ml 0:=⟨_,rfl⟩
   rw[<-al]at k2;have HQ:=aA al;clear F HU al;go_upto_region 9 with fail
   have br:w.heap.size≠w.heap.size+1:=by omega
   have lg2:g2<w.heap.size:=by have:=a5.o;omega
   have b0:=fun y:Calm.OnR (w.heap.size+1) wr=>aM ((y.2.block w.heap.size (Ac.1 ac.o).1 (fun e=>by injection e with e;omega)).trans ac.o);have b2:=fun y:Calm.OnR (w.heap.size+1) wr=>bF ((y.2.block w.heap.size (Ac.1 ac.o).1 (fun e=>by injection e with e;omega)).trans ac.o);have bk:=fun y:Calm.OnR (w.heap.size+1) wr=>zaz y.2 k2 (by omega);have ad:wr.grownBy wr.drew (some (w.heap.size+1)):=zad wr _;have bg:Hid (w.heap.size+1≠w1.heap.size):=aA (by have:=n.o;omega);refine CalmN.region_tree (fun x=>∃y:Calm.OnR (w.heap.size+1) wr,x=y.1) (.one [0,1,2,3,4,5,6,7,8] 9 (.fin [])) (by kernel_rfl) (by kernel_rfl) (fun _ _ d _ _ h=>by cases d <;> exact h) ⟨⟨wr.drew,ad⟩,rfl⟩ ?_;simp only[CalmN.wpT,CalmN.wpSt,CalmN.pickOps,Am,Af,Ah];repeat (go_big_quiet_step (fail))
   refine Aj ?_;intro KK aw;rw[Ap (by rfl)];clear b0 b2 bk;have b:=show wr.drew.heap[w.heap.size+1]?=_ from bf.o;obtain⟨wd,ax⟩:∃y,y=wr.drew:=⟨_,rfl⟩
   rw[<-ax]at ad b ⊢;have e0:=Aw wd _ 0 _ _ _ b;have e1:=Aw wd _ 1 _ _ _ b;have e2:=Aw wd _ 2 _ _ _ b;have f0:=AD wd _ 0 _ _ b;have f1:=AD wd _ 1 _ _ b;have f2:=AD wd _ 2 _ _ b;have ld1:=(Ac.1 b).1;have bh:=aA ad;have HY:=aA b;clear ad b ax;go_wp2_with fail
   have H:=bh.o.trans (aF (aF (aF (AI wd (some (w.heap.size+1))) 0 (.int .i64 qv)) 1 (.slice (some ⟨w1.heap.size,0,none⟩) r.length r.length)) 2 (.int .i64 pz));have am:=aA H;have h0:=AP _ _ 2 _ _ (.int .i64 pz) (AP _ _ 1 _ _ (.slice (some ⟨w1.heap.size,0,none⟩) r.length r.length) (AP wd _ 0 _ _ (.int .i64 qv) HY.o));obtain⟨wf,ay⟩:∃y,y=((wd.setCell ⟨w.heap.size+1,0,none⟩ (.int .i64 qv)).setCell ⟨w.heap.size+1,1,none⟩ (.slice (some ⟨w1.heap.size,0,none⟩) r.length r.length)).setCell ⟨w.heap.size+1,2,none⟩ (.int .i64 pz):=⟨_,rfl⟩
   rw[<-ay]at H h0 am ⊢;refine aw _ _ ⟨⟨wf,H⟩,rfl⟩ (fun x=>∃y:Calm.OnR (w.heap.size+1) wr,x=y.1) (fun _ h=>h) ⟨⟨wf,H⟩,rfl⟩ ?_;have j0:=aM h0;have j1:=aR h0;have j2:=bF h0;have lf:=(Ac.1 h0).1;clear H e0 e1 e2 f0 f1 f2 ay aw h0 ld1;refine Aj ?_;go_wp2;refine BM (v:=.agg #[.int .i64 qv,.slice (some ⟨w1.heap.size,0,none⟩) r.length r.length,.int .i64 pz]) (by simp[results,Tryz.results181,go_sem,j0,j1,j2]) rfl ?_;exact⟨w1.heap.size,by rw[HQ.o],by have:=n.o;omega,ah.o.grown am.o (fun e=>by injection e with e;exact bg.o e.symm),zaa E.o am.o (by omega) E.o.size⟩
theorem zjc (v:Value) (G:Gm.Gr) (B:Nat) (w:World) (hg:aQ w B v G) (hf:Gm.Fit G) (t:Gm.Ok G) (hB:B<=w.heap.size) :
  Calls Tryz.prog 132 #[v] w fun e w'=>∃u,e=.returned u/\aS w' w.heap.size u (Gm.kl G G.rs.length)/\Below w.heap.size w w':=by
 have q:=Gm.right_ok.2 t;have ai:=aA (fun(x:World) (h:Below w.heap.size w x)=>(show Calls _ _ _ _ (zlf _ _) from(zaJ v G B x (hg.below h hB) hf (Ag hB h.size)).mono fun e w' k=>k.1 q));have aj:=aA (fun(x:World) (h:Below w.heap.size w x)=>(show Calls _ _ _ _ (zlf _ _) from(zcY v G B x (hg.below h hB) hf (Ag hB h.size)).mono fun e w' k=>k.1 q));clear q;obtain⟨AT,cT,AN,cN,AR,cR,rfl,_,⟨bm,bn⟩,_,_,_,hR⟩:=hg;have bb:=aA (One.start w #[.slice AT G.ts.length cT,.slice AN G.ns.length cN,.slice AR G.rs.length cR,.int .i64 G.st]);have bc:=aA hR;have HB:=aA hB;have bd:=aA hf;have ak:=aA t;have al:Hid (G.rs.length<=40):=aA t.r40;have ad:=aA (fun x hx=>Gm.use_rcB t (x:=x) hx);obtain⟨T,hT⟩:∃x,x=Gm.gn true G.rs G.ns.length:=⟨_,rfl⟩
 have am:Hid (T.length=G.ns.length):=aA (by rw[hT,Gm.gn_len]);rw[<-hT]at ai ad;obtain⟨R,ao⟩:∃x,x=Gm.rc G:=⟨_,rfl⟩
 have ax:Hid (R.length=G.ns.length):=aA (by rw[ao,Gm.rc_len]);rw[<-ao]at aj ad;have ay:(G.rs.length:Int)<=9223372036854775807:=by have:=t.r40;omega
 clear hf t hR hB hT ao
 go_enter Tryz.func132,Tryz.ntmps132
 go_upto_region 1 with fail
 obtain⟨w1,ap⟩:∃y,y=w.alloc (.cells #[.slice AT G.ts.length cT,.slice AN G.ns.length cN,.slice AR G.rs.length cR,.int .i64 G.st] 26):=⟨_,rfl⟩
 have b:Hid (One w #[.slice AT G.ts.length cT,.slice AN G.ns.length cN,.slice AR G.rs.length cR,.int .i64 G.st] w1):=aA (by rw[ap];exact One.start _ _);rw[<-ap];clear ap bb
 go_cut [3,4] (fun v3 v4 wx=>∃gp gr,v3=.slice (some ⟨gp,0,none⟩) G.ns.length G.ns.length/\v4=.slice (some ⟨gr,0,none⟩) G.ns.length G.ns.length/\UBO wx gp T/\UBO wx gr R/\One w #[.slice AT G.ts.length cT,.slice AN G.ns.length cN,.slice AR G.rs.length cR,.int .i64 G.st] wx)
 case first =>
  have q0:=fun y:Calm.On w1.heap.size w1=>(b.o.on y.2).c 0 _ rfl;have q1:=fun y:Calm.On w1.heap.size w1=>(b.o.on y.2).c 1 _ rfl;have q2:=fun y:Calm.On w1.heap.size w1=>(b.o.on y.2).c 2 _ rfl;have q3:=fun y:Calm.On w1.heap.size w1=>(b.o.on y.2).c 3 _ rfl;have E:Hid (Below w1.heap.size w1 w1.drew):=aA (aB (Aq _ _) 1);refine CalmN.region_tree (fun x=>∃y:Calm.On w1.heap.size w1,x=y.1) (.one [0,2] 1 (.one [] 3 (.fin [4,5]))) (by kernel_rfl) (by kernel_rfl) (fun _ _ d _ _ h=>by cases d <;> exact h) ⟨⟨w1.drew,E.o⟩,rfl⟩ ?_;simp only[CalmN.wpT,CalmN.wpSt,CalmN.pickOps,Am,Af,Ah];repeat (go_big_quiet_step (fail))
  refine Aj ?_;clear q0 q1 q2 q3;have af:=aA (b.o.below.trans (E.o.mono b.o.below.size));obtain⟨wd,az⟩:∃y,y=w1.drew:=⟨_,rfl⟩
  rw[<-az]at E af ⊢;clear az;intro KK aq;rw[Ap (by rfl)];go_wp2_with fail
  refine(ai.o wd af.o).mono ?_;rintro _ w3 ⟨ga,rfl,bo,a0,a1⟩;rw[am.o];have aa:Below w1.heap.size w1 w3:=E.o.trans (a1.mono E.o.size);have bf:=aA (af.o.trans (a1.mono af.o.size));go_wp2_with fail
  refine aq _ _ ⟨⟨w3,aa⟩,rfl⟩ _ (fun _ h=>h) ⟨⟨w3,aa⟩,rfl⟩ ?_;refine Aj ?_;intro KK aq;rw[Ap (by rfl)];go_wp2_with fail
  refine(aj.o w3 bf.o).mono ?_;rintro _ w4 ⟨gb,rfl,bp,bg,a2⟩;rw[ax.o];have ae:Below w1.heap.size w1 w4:=aa.trans (a2.mono aa.size);go_wp2_with fail
  refine aq _ _ ⟨⟨w4,ae⟩,rfl⟩ _ (fun _ h=>h) ⟨⟨w4,ae⟩,rfl⟩ ?_;repeat (go_big_quiet_step (fail))
  refine Aj ?_;go_wp2_with fail
  go_meet
  case rel=>exact⟨ga,gb,rfl,rfl,a0.below a2 a0.lt,bg,b.o.on ae⟩
 case rest =>
  obtain⟨gp,gr,rfl,rfl,a3,a4,ac⟩:=hcut;have ag:=aA a3;have a5:=aA a4;have HW:=aA ac;have q2:=ac.c 2 _ rfl;have ld:w.heap.size<wc.heap.size:=ac.size;clear a3 a4 ac ai aj b;go_wp2;go_loopw [5,15] (fun vl vi wr=>∃i:Nat,i<=G.rs.length/\vi=.int .i64 i/\Hid (aS wr wc.heap.size vl (Gm.kl G i))/\Hid (Below wc.heap.size wc wr)) (fun _ vi _=>G.rs.length-(intOf vi).toNat)
  case atStart=>exact⟨0,AX _,rfl,aA (aS.nil _ _),aA (Aq _ _)⟩
  case round =>
   obtain⟨i,hi,rfl,HO,f⟩:=hrel;by_cases hlt:i<G.rs.length
   ·obtain⟨g,o,rfl,ar,hc⟩:=bc.o (by omega);obtain⟨k0,⟨A',c',k1,_,_,a6⟩,k2⟩:=hc i hlt;have j:=aA (HW.o.below.trans (f.o.mono HW.o.below.size));have k0:=(j.o.cell (p:=⟨g,o+i*3,none⟩) (Ao ar HB.o)).trans k0;have k1:=(j.o.cell (p:=⟨g,o+i*3+1,none⟩) (Ao ar HB.o)).trans k1;have k2:=(j.o.cell (p:=⟨g,o+i*3+2,none⟩) (Ao ar HB.o)).trans k2;have bq:g<wr.heap.size:=Bd k0;have A:G.rs[i]∈G.rs:=Ay hlt;have e:=bd.o.r _ A;have au:=ak.o.lin _ A;have bh:=(Gm.rule_in (ak.o.rr _ A)).1;have n:=aA (Gm.kl_next hlt);have av:=aA (ad.o _ A);have F:=aA (fun(y:World) (h:Below wr.heap.size wr y)=>zaW G.rs[i] T A' (some ⟨gp,0,none⟩) c' G.ns.length y.heap.size y ((a6.keep fun g o hg=>(j.o.trans (h.mono j.o.size)).cell (p:=⟨g,o,none⟩) (Ao hg HB.o)).more (Ag HB.o (j.o.trans (h.mono j.o.size)).size)) e.2.2 (fun z hz h=>by rw[am.o];exact ak.o.sin _ A z hz h) ((((ag.o.below f.o ag.o.lt).below h (Ao ag.o.lt f.o.size))).rd0 (Ao ag.o.lt (Ag f.o.size h.size))) (Ad _) (by omega));rw[am.o]at F;have bi:=aA (Ag (Gm.kl_len G i) hi);generalize G.rs[i]=x at *;obtain⟨l,r,pz⟩:=x;simp only at k0 k1 k2 F au bh;obtain⟨m,rfl⟩:∃m:Nat,l=(m:Int):=⟨l.toNat,by omega⟩
    have br:=au.2;have a9:Hid (Gm.rcB T R ⟨m,r,pz⟩=(R.getD m false&&Gm.allB true T r)):=aA (by simp[Gm.rcB]);have bj:=aA ((Aq wr.heap.size wr).alloc (Ad _) (.cells #[.int .i64 m,.slice A' r.length c',.int .i64 pz] 74));have km:=((f.o.cell (p:=⟨gr,m,none⟩) a5.o.lt).trans (a5.o.cell m (by rw[ax.o];omega)))
    have lgr:gr<wr.heap.size:=Bd km;clear hc a6 e A au;unfold Gm.use at n av;have C:=aA (av.o.symm.trans a9.o);generalize Gm.tr (Gm.Rc G _/\Gm.Al true G.rs _)=ub at *;clear av a9;have H:=aA (f.o.alloc f.o.size (.cells #[.int .i64 m,.slice A' r.length c',.int .i64 pz] 74));have aw:=aA (HO.o.alloc (.cells #[.int .i64 m,.slice A' r.length c',.int .i64 pz] 74));generalize R.getD m false=rb at *;cases rb
    ·obtain rfl:ub=false:=C.o;have HX:Hid (Gm.kl G (i+1)=Gm.kl G i):=aA (n.o.trans (AB (by simp)));clear n C;go_wp2;go_roundw
     case rel=>exact⟨i+1,hlt,by go_num,by rw[HX.o];exact aw,H⟩
     case measure=>simp[intOf];omega
    ·have ba:=aA (F.o _ bj.o);generalize Gm.allB true T r=ab at *;cases ab
     ·obtain rfl:ub=false:=C.o;have HX:Hid (Gm.kl G (i+1)=Gm.kl G i):=aA (n.o.trans (AB (by simp)));clear n C F;go_wp2_with fail
      refine ba.o.mono ?_;rintro _ w2 ⟨rfl,s⟩;have D:=aA (H.o.trans (s.mono H.o.size));have ah:=aA (aw.o.below s (Ad _));clear s;go_wp2;go_roundw
      case rel=>exact⟨i+1,hlt,by go_num,by rw[HX.o];exact ah,D⟩
      case measure=>simp[intOf];omega
     ·obtain rfl:ub=true:=C.o;have HX:Hid (Gm.kl G (i+1)=Gm.kl G i++[(i:Int)]):=aA (n.o.trans (Ap rfl));clear n C F;go_wp2_with fail
      refine ba.o.mono ?_;rintro _ w2 ⟨rfl,s⟩;have D:=aA (H.o.trans (s.mono H.o.size));have ah:=aA (aw.o.below s (Ad _));clear s;go_wp2_with (at_builtin;refine zbA rfl (.tmp 30) (.tmp 32) _ rfl Tryz.underlying51 wc.heap.size _ _ rfl (ah.o.alloc _) _ 1 i rfl (Dz _ _ _ 0) (by have:=bi.o;have:=al.o;omega) (by have:=D.o.size;simp;omega) ?_;intro v' w3 bk bl)
      go_roundw
      case rel=>exact⟨i+1,hlt,by go_num,by rw[HX.o];exact bk,zbF (D.o.alloc D.o.size _) (ah.o.alloc _) bl (by have:=D.o.size;simp;omega)⟩
      case measure=>simp[intOf];omega
   ·obtain rfl:i=G.rs.length:=by omega
    go_wp2;go_ret
    exact⟨_,rfl,HO.o.mono HW.o.below.size,HW.o.below.trans (f.o.mono HW.o.below.size)⟩
theorem Gm.ord_snoc:∀(ls acc:List Int) (l:Int),Gm.ord acc (ls++[l])=if l∈Gm.ord acc ls then Gm.ord acc ls else Gm.ord acc ls++[l]
 | [],acc,l=>by rw[De,Gm.ord,Gm.ord,Gm.ord]
 | x::r,acc,l=>by rw[Cx,Gm.ord,Gm.ord,Gm.ord_snoc r]
noncomputable def Gm.oK (G:Gm.Gr) (k:Nat):List Int:=Gm.ord [] (((Gm.krs G).take k).map Gm.Rl.l)
theorem Gm.oK_next (h:k<(Gm.krs G).length):Gm.oK G (k+1)=if((Gm.krs G)[k]).l∈Gm.oK G k then Gm.oK G k else Gm.oK G k++[((Gm.krs G)[k]).l]:=by
 unfold Gm.oK;rw[AO h,AW,Dy,Gm.ord_snoc]
theorem Gm.oK_all (G:Gm.Gr):Gm.oK G (Gm.krs G).length=Gm.olds G:=by unfold Gm.oK Gm.olds;rw[Bo]
theorem Gm.oK_mem (h:Gm.Ok G) (hj:j∈Gm.oK G k):0<=j/\j<G.ns.length:=by
 unfold Gm.oK at hj;rw[Gm.ord_mem]at hj;rcases hj with hj|hj
 ·simp at hj
 ·obtain⟨x,hx,rfl⟩:=Bi.1 hj;exact h.lin x (Gm.mem_krs.1 (List.mem_of_mem_take hx)).1
theorem Gm.oK_len (h:Gm.Ok G) (k:Nat):(Gm.oK G k).length<=G.ns.length:=by
 have h1:=Gm.pigeons G.ns.length ((Gm.oK G k).map (· + 1)) ?_ ?_
 ·simpa using h1.1
 ·refine BU.2 ?_;rw[Da]
  have:(Gm.oK G k).Nodup:=Gm.ord_nodup _ _ (by simp)
  exact(BU.1 this).imp fun h e=>h (by omega)
 ·intro x hx;obtain⟨y,hy,rfl⟩:=Bi.1 hx
  have:=Gm.oK_mem h hy
  omega
def Gm.anL (n:Nat) (o:List Int):List Int:=(List.range n).map fun j:Nat=>if(j:Int)∈o then Gm.pos o j else 0
def Gm.cmL (n:Nat) (o:List Int):List Bool:=(List.range n).map fun j:Nat=>decide ((j:Int)∈o)
theorem Gm.anL_len (n:Nat) (o:List Int):(Gm.anL n o).length=n:=by simp[Gm.anL]
theorem Gm.cmL_len (n:Nat) (o:List Int):(Gm.cmL n o).length=n:=by simp[Gm.cmL]
theorem Gm.anL_at {j:Nat} (h:j<n) (o:List Int):(Gm.anL n o).getD j 0=if(j:Int)∈o then Gm.pos o j else 0:=by simp[Gm.anL,h]
theorem Gm.cmL_at {j:Nat} (h:j<n) (o:List Int):(Gm.cmL n o).getD j false=decide ((j:Int)∈o):=by simp[Gm.cmL,h]
theorem Gm.anL_nil (n:Nat):Gm.anL n []=List.replicate n 0:=by
 refine CJ (by simp[Gm.anL]) fun i h1 h2=>?_;simp[Gm.anL]
theorem Gm.cmL_nil (n:Nat):Gm.cmL n []=List.replicate n false:=by
 refine CJ (by simp[Gm.cmL]) fun i h1 h2=>?_;simp[Gm.cmL]
theorem Gm.pos_no {o:List Int} {l:Int} (h:l ∉ o):Gm.pos o l = -1:=by unfold Gm.pos;rw[AB h]
theorem Gm.pos_snoc {o:List Int} {l:Int} (hj:j≠l):Gm.pos (o++[l]) j=Gm.pos o j:=by
 by_cases h:j∈o
 ·exact Gm.pos_app h
 ·rw[Gm.pos_no h,Gm.pos_no (by simp[h,hj])]
theorem Gm.pos_end {o:List Int} {l:Int} (hn:l ∉ o):Gm.pos (o++[l]) l=o.length:=Gm.pos_new (t:=[]) hn
theorem Gm.anL_snoc {l:Nat} {o:List Int} (hn:(l:Int) ∉ o):(Gm.anL n o).set l o.length=Gm.anL n (o++[(l:Int)]):=by
 refine CJ (by simp[Gm.anL]) fun i h1 h2=>?_;rw[List.getElem_set];by_cases e:l=i
 ·subst e;rw[Ap rfl];simp[Gm.anL,Gm.pos_end hn]
 ·rw[AB e];have e2:¬(i:Int)=(l:Int):=by omega
  simp only[Gm.anL,C3,List.getElem_range,Bj,AF,e2,or_false];rw[Gm.pos_snoc e2]
theorem Gm.cmL_snoc {l:Nat} {o:List Int}:(Gm.cmL n o).set l true=Gm.cmL n (o++[(l:Int)]):=by
 refine CJ (by simp[Gm.cmL]) fun i h1 h2=>?_;rw[List.getElem_set];by_cases e:l=i
 ·subst e;simp[Gm.cmL]
 ·rw[AB e];have e2:¬(i:Int)=(l:Int):=by omega
  simp[Gm.cmL,e2]
def Gm.nmL (G:Gm.Gr) (o:List Int):List (List Int):=o.map fun l=>G.ns.getD l.toNat []
structure RdS (w1 wr:World) (H gA:Nat) (cs:Array Value) (vT vN vR:Value) (ts:List Gm.Tm) (ns:List (List Int)) (rs:List Gm.Rl) (an:List Int):Prop where
 h:wr.heap[H]?=some (.cells cs 26 (0,0))
 t:aX wr w1.heap.size vT ts
 nn:bJ wr w1.heap.size vN ns
 r:bB wr w1.heap.size wr.heap.size vR rs
 a:UBI wr gA an
 w:Below w1.heap.size w1 wr
 hH:w1.heap.size<=H
 hA:w1.heap.size<=gA
section
variable {w1 wr w':World} {H gA:Nat} {cs:Array Value} {vT vN vR:Value} {ts:List Gm.Tm} {ns:List (List Int)} {rs:List Gm.Rl} {an:List Int}
theorem RdS.grown (h:RdS w1 wr H gA cs vT vN vR ts ns rs an) {row:Option Nat} (hg:wr.grownBy w' row) (ho:∀g,row=some g->g≠H/\w1.heap.size<=g/\∃cs T,wr.heap[g]?=some (.cells cs T (0,0))/\T≠85/\T≠9/\T≠3/\T≠74):RdS w1 w' H gA cs vT vN vR ts ns rs an:=by
 refine⟨(hg.block H (Ac.1 h.h).1 (fun e=>(ho H e.symm).1 rfl)).trans h.h,AZ h.t hg ?_,AZ h.nn hg ?_,(h.r.grown hg ?_).more hg.size,?_,h.w.grown hg h.w.size (fun k e=>(ho k e).2.1),h.hH,h.hA⟩
 ·rcases row with _|g
  ·exact zax _
  ·obtain⟨_,_,cs,T,h1,h2,_⟩:=ho g rfl;exact aN h.t h1 (fun cur e=>by injection e with _ e;exact h2 e)
 ·rcases row with _|g
  ·exact zax _
  ·obtain⟨_,_,cs,T,h1,_,h2,_⟩:=ho g rfl;exact aN h.nn h1 (fun cur e=>by injection e with _ e;exact h2 e)
 ·intro g e;obtain⟨_,_,cs,T,h1,_,_,h2,h3⟩:=ho g e;exact .inl ⟨aO h1 h2,aO h1 h3⟩
 ·refine h.a.grown hg fun e=>?_;obtain⟨_,_,cs,T,h1,_,_,h2,_⟩:=ho gA e.symm;exact aO h1 h2 _ h.a
theorem RdS.alloc (h:RdS w1 wr H gA cs vT vN vR ts ns rs an) (o:Obj):RdS w1 (wr.alloc o) H gA cs vT vN vR ts ns rs an:=h.grown (DP wr o .none) (fun g e=>by cases e)
theorem RdS.below (h:RdS w1 wr H gA cs vT vN vR ts ns rs an) (hb:Below wr.heap.size wr w'):RdS w1 w' H gA cs vT vN vR ts ns rs an:=h.grown (zab hb .none) (fun g e=>by cases e)
theorem RdS.drew (h:RdS w1 wr H gA cs vT vN vR ts ns rs an):RdS w1 wr.drew H gA cs vT vN vR ts ns rs an:=h.grown (zad wr .none) (fun g e=>by cases e)
theorem RdS.set (h:RdS w1 wr H gA cs vT vN vR ts ns rs an) {cs':Array Value} {T:TypeId} (hT:wr.heap[g]?=some (.cells cs' T (0,0))) (h1:T≠85) (h2:T≠9) (h3:T≠3) (h4:T≠74) (hH:g≠H) (hb:w1.heap.size<=g) (j:Nat) (u:Value):RdS w1 (wr.setCell ⟨g,j,none⟩ u) H gA cs vT vN vR ts ns rs an :=
 h.grown (aF (AI wr (some g)) j u) (fun g' e=>by injection e with e;subst e;exact⟨hH,hb,cs',T,hT,h1,h2,h3,h4⟩)
theorem RdS.setH (h:RdS w1 wr H gA cs vT vN vR ts ns rs an) (j:Nat) (u:Value):RdS w1 (wr.setCell ⟨H,j,none⟩ u) H gA (cs.setIfInBounds j u) vT vN vR ts ns rs an:=by
 have hs:wr.grownBy (wr.setCell ⟨H,j,none⟩ u) (some H):=aF (AI wr (some H)) j u;refine⟨AP wr H j _ _ u h.h,AZ h.t hs (aN h.t h.h (fun cur e=>by injection e with _ e;cases e)),AZ h.nn hs (aN h.nn h.h (fun cur e=>by injection e with _ e;cases e)),(h.r.grown hs ?_).more hs.size,h.a.grown hs ?_,h.w.grown hs h.w.size (fun k e=>by injection e with e;rw[<-e];exact h.hH),h.hH,h.hA⟩
 ·intro g e;injection e with e;subst e;exact .inl ⟨aO h.h (by decide),aO h.h (by decide)⟩
 ·intro e;injection e with e
  have:=h.a
  unfold UBI at this;rw[e,h.h]at this;injection this with this;injection this with _ this;cases this
theorem RdS.setA (h:RdS w1 wr H gA cs vT vN (.slice none 0 0) ts ns [] an) (j:Nat) (z:Int):RdS w1 (wr.setCell ⟨gA,j,none⟩ (.int .i64 z)) H gA cs vT vN (.slice none 0 0) ts ns [] (an.set j z):=by
 have hs:wr.grownBy (wr.setCell ⟨gA,j,none⟩ (.int .i64 z)) (some gA):=aF (AI wr (some gA)) j _;have ha:=h.a;unfold UBI at ha;refine⟨(hs.block H (Ac.1 h.h).1 (fun e=>?_)).trans h.h,AZ h.t hs (aN h.t ha (fun cur e=>by injection e with _ e;cases e)),AZ h.nn hs (aN h.nn ha (fun cur e=>by injection e with _ e;cases e)),bB.nil _ _ _,h.a.set_ j z,h.w.grown hs h.w.size (fun k e=>by injection e with e;rw[<-e];exact h.hA),h.hH,h.hA⟩;injection e with e;rw[<-e,h.h]at ha;injection ha with ha;injection ha with _ ha;cases ha
theorem RdS.putN (h:RdS w1 wr H gA cs vT vN vR ts ns rs an) (ho:bJ w' w1.heap.size v' ns') (hg:wr.grownBy w' vN.ownBlock):RdS w1 w' H gA cs vT v' vR ts ns' rs an:=by
 have hn:=h.nn;have hh:=h.h;have ha:=h.a;unfold UBI at ha;refine⟨zak hh hn (by decide) hg,AZ h.t hg (zav h.t hn (by decide)),ho,(h.r.grown hg fun g e=>?_).more hg.size,?_,h.w.grown hg h.w.size (fun k e=>(zac hn e).1),h.hH,h.hA⟩
 ·obtain⟨_,cur,hc⟩:=zac hn e;exact .inl ⟨aO hc (by decide),aO hc (by decide)⟩
 ·exact zak ha hn (by decide) hg
theorem RdS.putR (h:RdS w1 wr H gA cs vT vN vR ts ns rs an) {rs':List Gm.Rl} (ho:bB w' w1.heap.size w'.heap.size v' rs') (hg:wr.grownBy w' vR.ownBlock):RdS w1 w' H gA cs vT vN v' ts ns rs' an:=by
 obtain⟨qs,_,h2,_⟩:=id h.r;have hh:=h.h;have ha:=h.a;unfold UBI at ha;exact⟨zak hh h2 (by decide) hg,AZ h.t hg (zav h.t h2 (by decide)),AZ h.nn hg (zav h.nn h2 (by decide)),ho,zak ha h2 (by decide) hg,h.w.grown hg h.w.size (fun k e=>(zac h2 e).1),h.hH,h.hA⟩
theorem RdS.rd (h:RdS w1 wr H gA cs vT vN vR ts ns rs an) (z:Int):aQ wr wr.heap.size (.agg #[vT,vN,vR,.int .i64 z]) ⟨ts,ns,rs,z⟩:=by
 obtain⟨AT,cT,rfl,h1,h2⟩:=zbh h.t;obtain⟨AN,cN,rfl,h3,h4⟩:=zbM h.nn;obtain⟨AR,cR,rfl,h5,h6⟩:=zbm h.r (Ad _);exact⟨AT,cT,AN,cN,AR,cR,rfl,h1,h3,h5,h2,h4,h6⟩
end
theorem zmU {o:Oper} {a:Act} {KK:Act->World->Prop} {Q:Exit->Act->World->Prop} (s x:Operand) (t:TypeId) (ho:o.op=.call {callee:=.builtin .append,args:=#[s,x],argTypes:=#[t,t]}) (ht:Tryz.prog.underlying t=some (.slice 9)) (base:Nat) (v:Value) (ts:List (List Int)) (hs:a.eval s=v) (ab:bJ w base v ts) (g c:Nat) (y:List Int) (hx:a.eval x=.slice (some ⟨g,0,none⟩) 1 c) (hz:w.cell? ⟨g,0,none⟩=some (.string (K.str y))) (ac:ts.length<=1000000) (aa:base<=w.heap.size) (hK:∀v' w',bJ w' base v' (ts++[y])->w.grownBy w' v.ownBlock->KK (a.put o.dst v') w') :
  o.wp Tryz.prog a w KK Q:=by
 obtain⟨i,hi,ad,ae,af⟩:=CD zjN;refine D5 w s x t ho base 9 i _ 1 16 ht hi ad ae af rfl (by decide) v ts.length (zlm ts) hs ab ⟨g,0,none⟩ 1 c [.string (K.str y)] hx rfl ?_ ?_ (by unfold maxLen;omega) (by omega) aa fun v' w' h1 h2 _=>hK v' w' ?_ h2
 ·intro j u hj;rw[zd1,Bu];rcases j with _|j
  ·simp at hj;rw[<-hj];exact hz
  ·simp at hj
 ·intro u hu;simp at hu;rcases hu with rfl;rfl
 ·unfold bJ zlm;rw[AU,AW];exact h1
end Go.Proofs.YtjjbaehamplnaaaGreat
namespace Go.Proofs.YtjjbaehamplnaaaGreat
open Go.RowKit
theorem Gm.an1_re (h:Gm.Ok G) {x:Gm.Rl} (hx:x∈Gm.krs G):(⟨(Gm.anL G.ns.length (Gm.olds G)).getD x.l.toNat 0,x.r.map (Gm.an1 (Gm.anL G.ns.length (Gm.olds G))),x.p⟩:Gm.Rl)=Gm.re (Gm.olds G) x:=by
 have aa:=(Gm.mem_krs.1 hx).1;have hl:=h.lin x aa;unfold Gm.re
 congr 1
 ·rw[Gm.anL_at (by omega),Br hl.1,Ap (Gm.use_left hx)]
 ·refine DQ fun z hz=>?_;unfold Gm.an1 Gm.re1;by_cases h0:z<0
  ·have:=h.sin x aa z hz h0
   rw[Ap h0,Ap h0,Gm.anL_at (by omega),Br (by omega),Ap (Gm.use_sym hx hz h0)]
  ·rw[AB h0,AB h0]
theorem Gm.kl_at (h:k<(Gm.kl G G.rs.length).length):∃i:Nat,(Gm.kl G G.rs.length)[k]=(i:Int)/\∃hi:i<G.rs.length,∃hk:k<(Gm.krs G).length,(Gm.krs G)[k]=G.rs[i]:=by
 have e:Gm.kl G G.rs.length=(Gm.kept G).map fun j:Nat=>(j:Int):=rfl;have h2:k<(Gm.kept G).length:=by rw[e,Bb]at h;exact h
 have h3:=Gm.kept_lt (Ay h2);refine⟨(Gm.kept G)[k],by simp[e],h3,by rw[<-Gm.kept_len];exact h2,Gm.kept_at k h2 h3⟩
theorem Gm.kl_krs (G:Gm.Gr):(Gm.kl G G.rs.length).length=(Gm.krs G).length:=by rw[<-Gm.kept_len,Gm.kl_all,Bb]
theorem Gm.krs_len (G:Gm.Gr):(Gm.krs G).length<=G.rs.length:=Ct _ _
def zdg (w:World) (base:Nat) (v:Value) (G:Gm.Gr):Prop:=∃vT vN vR,v=.agg #[vT,vN,vR,.int .i64 G.st]/\aX w base vT G.ts/\bJ w base vN G.ns/\bB w base w.heap.size vR G.rs
theorem zdg.rd (h:zdg w base v G):aQ w w.heap.size v G:=by
 obtain⟨vT,vN,vR,rfl,h1,h2,h3⟩:=h;obtain⟨AT,cT,rfl,a1,a2⟩:=zbh h1;obtain⟨AN,cN,rfl,a3,a4⟩:=zbM h2;obtain⟨AR,cR,rfl,a5,a6⟩:=zbm h3 (Ad _);exact⟨AT,cT,AN,cN,AR,cR,rfl,a1,a3,a5,a2,a4,a6⟩
theorem zej {e:TypeId} {size:Nat} {row:Option Nat} (h:w.ownsRow base e size v n xs) (hg:w.grownBy w' row) (hr:∀g,row=some g->g<base):w'.ownsRow base e size v n xs :=
 AZ h hg (by
  cases hv:v.ownBlock with
  | none=>exact .inl rfl
  | some k=>exact .inr (fun e=>by have:=(zac h hv).1;have:=hr k e.symm;omega))
theorem zdg.grown {row:Option Nat} (h:zdg w base v G) (hg:w.grownBy w' row) (hr:∀g,row=some g->g<base):zdg w' base v G:=by
 obtain⟨vT,vN,vR,rfl,h1,h2,qs,a1,a2,a3,a4⟩:=h;refine⟨vT,vN,vR,rfl,zej h1 hg hr,zej h2 hg hr,qs,a1,zej a2 hg hr,fun k hk=>Ao (a3 k hk) hg.size,fun q hq=>⟨(a4 q hq).1,(a4 q hq).2.1,fun hn=>?_⟩⟩;obtain⟨g,cur,e,hb,hN,hh,hc⟩:=(a4 q hq).2.2 hn;exact⟨g,cur,e,hb,Ao hN hg.size,(hg.block g (Ac.1 hh).1 (fun e=>by have:=hr g e.symm;omega)).trans hh,hc⟩
theorem zdg.less (h:zdg w base v G) (hb:base'<=base):zdg w base' v G:=by
 obtain⟨vT,vN,vR,rfl,h1,h2,qs,a1,a2,a3,a4⟩:=h;refine⟨vT,vN,vR,rfl,za7 h1 hb,za7 h2 hb,qs,a1,za7 a2 hb,a3,fun q hq=>⟨(a4 q hq).1,(a4 q hq).2.1,fun hn=>?_⟩⟩;obtain⟨g,cur,e,aa,hN,hh⟩:=(a4 q hq).2.2 hn;exact⟨g,cur,e,Ag hb aa,hN,hh⟩
theorem UBI.row (h:UBI w g zs) (hb:base<=g):zgj w base w.heap.size (some ⟨g,0,none⟩) zs:=fun _ =>
 ⟨g,_,rfl,hb,h.lt,h,fun j hj=>by simp[hj]⟩
theorem Gm.anL_ok (h:Gm.Ok G) (n i:Nat) (hi:i<n):0<=(Gm.anL n (Gm.olds G)).getD i 0/\(Gm.anL n (Gm.olds G)).getD i 0<=1000:=by
 rw[Gm.anL_at hi];split
 ·rename_i hm
  have h1:=Gm.pos_lt hm;have h2:=Gm.olds_le h;have h3:=(Gm.nons_iff G).1 h.n;omega
 ·omega
theorem Gm.krs_next (h:k<(Gm.krs G).length):((Gm.krs G).take (k+1)).map (Gm.re (Gm.olds G))=((Gm.krs G).take k).map (Gm.re (Gm.olds G))++[Gm.re (Gm.olds G) (Gm.krs G)[k]]:=by
 rw[AO h,AW,Dy]
theorem zef (v:Value) (G:Gm.Gr) (B BK:Nat) (AK:Option Addr) (cK:Nat) (w:World) (hg:aQ w B v G) (hf:Gm.Fit G) (ab:Gm.Ok G) (hp:Gm.Gn true G.rs G.st) (hB:B<=w.heap.size) (hk:RdI w BK AK (Gm.kl G G.rs.length)) (b6:BK<=w.heap.size) :
  Calls Tryz.prog 133 #[v,.slice AK (Gm.kl G G.rs.length).length cK] w fun e w'=>∃g,e=.returned g/\zdg w' w.heap.size g (Gm.reduce G)/\Below w.heap.size w w':=by
 obtain⟨AT,cT,AN,cN,AR,cR,rfl,_,⟨cZ,c3⟩,_,hT,hN,hR⟩:=hg;obtain⟨w1,ac⟩:∃y,y=(w.alloc (.cells #[.slice AT G.ts.length cT,.slice AN G.ns.length cN,.slice AR G.rs.length cR,.int .i64 G.st] 26)).alloc (.cells #[.slice none 0 0,.slice none 0 0,.slice none 0 0,.int .i64 0] 26):=⟨_,rfl⟩
 have b7:w1.heap.size=w.heap.size+2:=by rw[ac];simp
 have bc:Hid (Below w.heap.size w w1):=aA (by rw[ac];exact((Aq _ w).alloc (Ad _) _).alloc (by simp) _);have b8:Hid (w1.heap[w.heap.size]?=some (.cells #[.slice AT G.ts.length cT,.slice AN G.ns.length cN,.slice AR G.rs.length cR,.int .i64 G.st] 26 (0,0))):=aA (by rw[ac,BI _ _ _ (by simp)];exact Az w _);have cE:Hid (w1.heap[w.heap.size+1]?=some (.cells #[.slice none 0 0,.slice none 0 0,.slice none 0 0,.int .i64 0] 26 (0,0))):=aA (by rw[ac];have:=Az (w.alloc (.cells #[.slice AT G.ts.length cT,.slice AN G.ns.length cN,.slice AR G.rs.length cR,.int .i64 G.st] 26)) (.cells #[.slice none 0 0,.slice none 0 0,.slice none 0 0,.int .i64 0] 26);simpa using this);have ag:=aA b7;have V:=aA ab;have cF:=aA hf;have cG:=aA hp;have ah:Hid (G.ns.length<=40):=aA (by have:=(Gm.nons_iff G).1 ab.n;omega);have bd:Hid (G.ts.length<=24):=aA (by have:=ab.t;unfold Gm.terms at this;rw[AQ]at this;exact Cq this.1);have bf:Hid (G.rs.length<=40):=aA ab.r40;have a3:Hid ((Gm.kl G G.rs.length).length=(Gm.krs G).length):=aA (Gm.kl_krs G);have HB:=aA hB;have b9:=aA (fun(y:World) (h:Below w.heap.size w y)=>hR.keep fun g o hg=>h.cell (p:=⟨g,o,none⟩) (Ao hg hB));have cH:=aA (fun(y:World) (h:Below w.heap.size w y)=>hN.keep fun g o hg=>h.cell (p:=⟨g,o,none⟩) (Ao hg hB));have bg:=aA (fun(y:World) (h:Below w.heap.size w y)=>hk.below h b6);have ad:=aA (fun(y:World) (h:Below w1.heap.size w1 y)=>bc.o.trans (h.mono (by omega)));have ca:=aA (zh3 AT cT w.heap.size G.ts w1 ((hT.keep fun g o hg=>bc.o.cell (p:=⟨g,o,none⟩) (Ao hg hB)).more hB) (by omega) (by have:=bd.o;omega));have HQ:=aA (fun(y:World) (h:Below w1.heap.size w1 y)=>(h.block w.heap.size (by omega)).trans b8.o);have c0:=aM b8.o;have c4:w.heap.size<w1.heap.size:=by omega
 have cI:(G.ns.length:Int)<=9223372036854775807:=by omega
 have ai:((Gm.kl G G.rs.length).length:Int)<=9223372036854775807:=by have:=a3.o;have:=Gm.krs_len G;have:=ab.r40;omega
 have c5:=ah.o;clear hT hN hR b7 ab hf hp hB hk b6;obtain⟨ks,hL⟩:∃ks,ks=Gm.kl G G.rs.length:=⟨_,rfl⟩
 rw[<-hL]at bg a3 ai ⊢;have HL:=aA hL;clear hL
 go_enter Tryz.func133,Tryz.ntmps133
 go_upto_region 1 with fail
 rw[<-ac];clear ac;go_upto_region 2 with fail
 refine ca.o.mono ?_;rintro _ w2 ⟨v2,rfl,bi,cb⟩;obtain⟨A2,c2,rfl,_,_⟩:=aL bi;have cc:=aA bi;have a4:=aA cb;clear bi cb ca c0;go_upto_region 2 with fail
 obtain⟨w3,aj⟩:∃y,y=w2.alloc (.cells #[.slice A2 G.ts.length c2,.slice none 0 0,.slice none 0 0,.int .i64 0] 26):=⟨_,rfl⟩
 have ak:Hid (Below w1.heap.size w1 w3):=aA (by rw[aj];exact a4.o.alloc a4.o.size _);have cd:Hid (aX w3 w1.heap.size (.slice A2 G.ts.length c2) G.ts):=aA (by rw[aj];exact Db cc.o _);have bj:Hid (w3.heap[w2.heap.size]?=some (.cells #[.slice A2 G.ts.length c2,.slice none 0 0,.slice none 0 0,.int .i64 0] 26 (0,0))):=aA (by rw[aj];exact Az w2 _);rw[<-aj];clear aj cc;have c1:=aR (HQ.o w3 ak.o);have l3:=Bd c1;go_upto_region 3 with(at_make;refine zem rfl (.tmp 19) (.tmp 19) _ rfl Tryz.underlying51 G.ns.length _ _ rfl rfl rfl rfl (by omega) ?_;intro w4 ce a5 bk)
 have al:=aA (ak.o.trans (a5.mono ak.o.size));have bl:=aA ce;have cf:Hid (aX w4 w1.heap.size (.slice A2 G.ts.length c2) G.ts):=aA (AZ cd.o (zab a5 .none) (zax _));have cg:=aA (aC a5 bj.o);have ch:Hid (w1.heap.size<=w3.heap.size):=aA ak.o.size;have ci:Hid (w2.heap.size<w3.heap.size):=aA (Ac.1 bj.o).1;clear ce a5 c1 l3 cd bj ak;have c1:=aR (HQ.o w4 al.o);have l4:=Bd c1;go_upto_region 4 with(at_make;refine zhp rfl (.tmp 23) (.tmp 23) _ rfl Tryz.underlying188 G.ns.length _ _ rfl rfl rfl rfl (by omega) ?_;intro w5 cj am bm)
 have bn:Hid (RdS w1 w5 w2.heap.size w3.heap.size #[.slice A2 G.ts.length c2,.slice none 0 0,.slice none 0 0,.int .i64 0] (.slice A2 G.ts.length c2) (.slice none 0 0) (.slice none 0 0) G.ts (Gm.nmL G (Gm.oK G 0)) [] (Gm.anL G.ns.length (Gm.oK G 0))):=aA
  ⟨aC am cg.o,AZ cf.o (zab am .none) (zax _),bJ.nil _ _,bB.nil _ _ _,by rw[show Gm.oK G 0=[] from rfl,Gm.anL_nil];exact bl.o.below am bl.o.lt,al.o.trans (am.mono al.o.size),a4.o.size,ch.o⟩
 have bo:Hid (UBO w5 w4.heap.size (Gm.cmL G.ns.length (Gm.oK G 0))):=aA (by rw[show Gm.oK G 0=[] from rfl,Gm.cmL_nil];exact cj);have bp:Hid (w1.heap.size<=w4.heap.size):=aA al.o.size;have ao:Hid (w2.heap.size≠w4.heap.size):=aA (by have:=ci.o;omega);obtain⟨vT,br⟩:∃v,v=Value.slice A2 G.ts.length c2:=⟨_,rfl⟩
 obtain⟨H,hH⟩:∃x,x=w2.heap.size:=⟨_,rfl⟩
 obtain⟨gA,bs⟩:∃x,x=w3.heap.size:=⟨_,rfl⟩
 obtain⟨gC,a6⟩:∃x,x=w4.heap.size:=⟨_,rfl⟩
 rw[<-br,<-hH,<-bs]at bn;rw[<-a6]at bo bp;rw[<-hH,<-a6]at ao;rw[<-br,<-hH,<-bs,<-a6];clear br hH bs a6 cj am c1 l4 bk bm bl cf cg al a4 ch ci;go_wp2;go_loopw [27] (fun vk wr=>∃(k:Nat) (vN:Value),k<=ks.length/\vk=.int .i64 k/\Hid (RdS w1 wr H gA #[vT,vN,.slice none 0 0,.int .i64 0] vT vN (.slice none 0 0) G.ts (Gm.nmL G (Gm.oK G k)) [] (Gm.anL G.ns.length (Gm.oK G k)))/\Hid (UBO wr gC (Gm.cmL G.ns.length (Gm.oK G k)))) (fun vk _=>ks.length-(intOf vk).toNat)
 case atStart=>exact⟨0,_,AX _,rfl,bn,bo⟩
 case round =>
  clear bn bo;obtain⟨k,vN,hk,rfl,HS,HC⟩:=hrel;by_cases N:k<ks.length
  ·obtain⟨gk,ok,rfl,cJ,ap⟩:=bg.o wr (ad.o wr HS.o.w) (by omega);have kk:=ap k N;rw[L.gd_lt N]at kk;have lk:=Bd kk;obtain⟨i,aq,hi,hkk,ar⟩:=Gm.kl_at (G:=G) (k:=k) (by rw[<-HL.o];exact N);have O:ks[k]=(i:Int):=by simp only[HL.o];exact aq
   rw[O]at kk;have au:=aA (Gm.oK_next hkk);rw[ar]at au;obtain⟨g,o,rfl,cL,hc⟩:=b9.o wr (ad.o wr HS.o.w) (by omega);have k0:=(hc i hi).1;have lg:=Bd k0;have aw:=V.o.lin _ (Ay hi);have q1:=aR (HQ.o wr HS.o.w);have q2:=bF (HQ.o wr HS.o.w);have lq:=Bd q2;have cM:=aA (Gm.oK_len V.o k);generalize (G.rs[i]).l=l at *;obtain⟨m,rfl⟩:∃m:Nat,l=(m:Int):=⟨l.toNat,by omega⟩
   have c6:=aw.2;have ae:m<G.ns.length:=by omega
   have ck:(i:Int)<(G.rs.length:Int):=by omega
   have km:=HC.o.cell m (by rw[Gm.cmL_len];exact ae);rw[Gm.cmL_at ae]at km;have lc:=HC.o.lt;clear ap hc ar hkk aq O aw;by_cases Z:(m:Int)∈Gm.oK G k
   ·rw[AJ Z]at km;have HX:=aA (au.o.trans (Ap Z));clear au Z;go_wp2;go_roundw
    case rel=>exact⟨k+1,vN,N,by go_num,by rw[HX.o];exact HS,by rw[HX.o];exact HC⟩
    case measure=>simp[intOf];omega
   ·rw[AM Z]at km;have HX:=aA (au.o.trans (AB Z));have cO:=aA Z;clear au Z;have cl:Hid (Gm.nmL G (Gm.oK G (k+1))=Gm.nmL G (Gm.oK G k)++[G.ns.getD m []]):=aA (by rw[HX.o];simp[Gm.nmL]);obtain⟨A',c',rfl,_,_⟩:=aL HS.o.nn;go_upto_region 9 with fail
    clear kk lk k0 lg q1 q2 lq km lc ck;have bh:=fun y:Calm.OnB H wr=>aR (y.2.trans HS.o.h);refine CalmN.region_tree (fun x=>∃y:Calm.OnB H wr,x=y.1) (.one [0,1,2,3,4,5,6,7] 8 (.one [9] 10 (.fin []))) (by kernel_rfl) (by kernel_rfl) (fun _ _ d _ _ h=>by cases d <;> exact h) ⟨⟨wr.drew,rfl⟩,rfl⟩ ?_;simp only[CalmN.wpT,CalmN.wpSt,CalmN.pickOps,Am,Af,Ah];repeat (go_big_quiet_step (fail))
    refine Aj ?_;clear bh;have bu:=aA HS.o.drew;have aa:=aA (HC.o.drew);have bv:wr.drew.heap[H]?=wr.heap[H]?:=rfl;obtain⟨wd,cm⟩:∃y,y=wr.drew:=⟨_,rfl⟩
    rw[<-cm]at bu aa bv ⊢;clear cm;have kc:=aa.o.cell m (by rw[Gm.cmL_len];exact ae);have fc:=aa.o.frozen m;have lc:=aa.o.lt;have ax:(wd.setCell ⟨gC,m,none⟩ (.bool true)).heap[H]?=wr.heap[H]?:=(AH wd ⟨gC,m,none⟩ (.bool true) H ao.o).trans bv;have X:=aA (bu.o.set aa.o (by decide) (by decide) (by decide) (by decide) (fun e=>ao.o e.symm) bp.o m (.bool true));have a9:Hid (UBO (wd.setCell ⟨gC,m,none⟩ (.bool true)) gC (Gm.cmL G.ns.length (Gm.oK G (k+1)))):=aA (by rw[HX.o,<-Gm.cmL_snoc];exact aa.o.set_ m true);intro KK f;rw[Ap (by rfl)];go_wp2_with fail
    refine f _ _ ⟨⟨_,ax⟩,rfl⟩ _ (fun _ h=>h) ⟨⟨_,ax⟩,rfl⟩ ?_;obtain⟨w6,cn⟩:∃y,y=wd.setCell ⟨gC,m,none⟩ (.bool true):=⟨_,rfl⟩
    rw[<-cn]at X a9 ax ⊢;clear cn kc fc lc bu aa bv f;repeat (go_big_quiet_step (fail))
    refine Aj ?_;have ka:=X.o.a.cell m (by rw[Gm.anL_len];exact ae);have fa:=X.o.a.frozen m;have la:=X.o.a.lt;have co:H≠gA:=fun e=>by have h1:=X.o.h;have h2:=X.o.a;unfold UBI at h2;rw[<-e,h1]at h2;injection h2 with h2;injection h2 with _ h2;cases h2
    have cp:gC≠gA:=fun e=>by have h1:=a9.o;have h2:=X.o.a;unfold UBO at h1;unfold UBI at h2;rw[<-e,h1]at h2;injection h2 with h2;injection h2 with _ h2;cases h2
    have bw:(Gm.nmL G (Gm.oK G k)).length=(Gm.oK G k).length:=by simp[Gm.nmL]
    have bx:(w6.setCell ⟨gA,m,none⟩ (.int .i64 (Gm.nmL G (Gm.oK G k)).length)).heap[H]?=wr.heap[H]?:=(AH w6 ⟨gA,m,none⟩ _ H co).trans ax
    have ay:Hid (RdS w1 (w6.setCell ⟨gA,m,none⟩ (.int .i64 (Gm.nmL G (Gm.oK G k)).length)) H gA #[vT,.slice A' (Gm.nmL G (Gm.oK G k)).length c',.slice none 0 0,.int .i64 0] vT (.slice A' (Gm.nmL G (Gm.oK G k)).length c') (.slice none 0 0) G.ts (Gm.nmL G (Gm.oK G k)) [] (Gm.anL G.ns.length (Gm.oK G (k+1)))):=aA (by
     have q:=X.o.setA m ((Gm.nmL G (Gm.oK G k)).length:Int);rw[bw]at q;rw[HX.o,<-Gm.anL_snoc cO.o];rw[bw];exact q)
    have bz:=aA (a9.o.far (p:=⟨gA,m,none⟩) cp (.int .i64 (Gm.nmL G (Gm.oK G k)).length));clear bw co cp;intro KK f;rw[Ap (by rfl)];go_wp2_with fail
    refine f _ _ ⟨⟨_,bx⟩,rfl⟩ _ (fun _ h=>h) ⟨⟨_,bx⟩,rfl⟩ ?_;obtain⟨w7,cq⟩:∃y,y=w6.setCell ⟨gA,m,none⟩ (.int .i64 (Gm.nmL G (Gm.oK G k)).length):=⟨_,rfl⟩
    rw[<-cq]at ay bz ⊢;clear cq ka fa la X a9 ax bx f;refine Aj ?_;go_upto_region 10 with fail
    obtain⟨gN,oN,rfl,c7,cr⟩:=cH.o w7 (ad.o w7 ay.o.w) (by omega);have kN:=cr m ae;rw[show G.ns[m]=G.ns.getD m [] by rw[Ai,Ar ae];rfl]at kN;obtain⟨nm,cs⟩:∃s,s=G.ns.getD m []:=⟨_,rfl⟩
    rw[<-cs]at kN cl;clear cs;have af:gN<w1.heap.size:=by have:=HB.o;have:=ag.o;omega
    have bN:=fun y:Calm.On w1.heap.size w1=>(y.2.cell (p:=⟨gN,oN+m,none⟩) af).trans ((ay.o.w.cell (p:=⟨gN,oN+m,none⟩) af).symm.trans kN);have bq:=fun y:Calm.On w1.heap.size w1=>aR (HQ.o y.1 y.2);have E:=aA ay.o.drew;have cu:=aA bz.o.drew;refine CalmN.region_tree (fun x=>∃y:Calm.On w1.heap.size w1,x=y.1) (.two [0,2,3,4,5,6] 1 (.one [] 7 (.one [] 8 (.one [9] 10 (.fin [])))) 7 (.one [] 1 (.one [] 8 (.one [9] 10 (.fin []))))) (by kernel_rfl) (by kernel_rfl) (fun _ _ d _ _ h=>by cases d <;> exact h) ⟨⟨w7.drew,E.o.w⟩,rfl⟩ ?_;simp only[CalmN.wpT,CalmN.wpSt,CalmN.pickOps,Am,Af,Ah];repeat (go_big_quiet_step (fail))
    refine Aj ?_;clear bN bq kN cr;obtain⟨w8,az⟩:∃y,y=w7.drew:=⟨_,rfl⟩
    rw[<-az]at E cu ⊢;clear az ay bz;have F:=aA (E.o.alloc (.cells #[.string (K.str nm)] 9));have cP:=aA (cu.o.alloc (.cells #[.string (K.str nm)] 9));have cQ:Hid ((w8.alloc (.cells #[.string (K.str nm)] 9)).cell? ⟨w8.heap.size,0,none⟩=some (.string (K.str nm))):=aA (Dz _ _ _ 0);have n8:=Aw w8 _ 1 _ _ _ E.o.h;have n9:=Aw _ _ 1 _ _ _ F.o.h;have lh8:=(Ac.1 E.o.h).1;have lh9:=(Ac.1 F.o.h).1;refine⟨?_,?_⟩
    focus
     intro KK f;rw[Ap (by rfl)];go_wp2_with fail
     refine f _ _ ⟨⟨_,E.o.w⟩,rfl⟩ _ (fun _ h=>h) ⟨⟨_,E.o.w⟩,rfl⟩ ?_
    rotate_left
    focus
     intro KK f;rw[Ap (by rfl)];go_wp2_with fail
     refine f _ _ ⟨⟨_,F.o.w⟩,rfl⟩ _ (fun _ h=>h) ⟨⟨_,F.o.w⟩,rfl⟩ ?_
    all_goals
     refine Aj ?_;intro KK f;rw[Ap (by rfl)];go_wp2_with fail
     refine f _ _ ⟨⟨_,F.o.w⟩,rfl⟩ _ (fun _ h=>h) ⟨⟨_,F.o.w⟩,rfl⟩ ?_;refine Aj ?_;intro KK f;rw[Ap (by rfl)];refine zmU (.tmp 52) (.tmp 58) _ rfl Tryz.underlying23 w1.heap.size _ _ rfl F.o.nn w8.heap.size 1 _ rfl cQ.o (by have:=cM.o;have:=ah.o;unfold Gm.nmL;rw[Bb];omega) F.o.w.size ?_;intro v' w10 A D;have b:=aA (F.o.putN A D);have bD:Hid (UBO w10 gC (Gm.cmL G.ns.length (Gm.oK G (k+1)))):=aA (zak cP.o F.o.nn (by decide) D);obtain⟨A10,c10,rfl,_,_⟩:=aL A;clear A D;obtain⟨n10,I⟩:∃n,n=(Gm.nmL G (Gm.oK G k)++[nm]).length:=⟨_,rfl⟩
     rw[<-I]at b ⊢;clear I;refine f _ _ ⟨⟨w10,b.o.w⟩,rfl⟩ _ (fun _ h=>h) ⟨⟨w10,b.o.w⟩,rfl⟩ ?_
     go_frame
     repeat (go_big_quiet_step (fail))
     refine Aj ?_;intro KK f;rw[Ap (by rfl)];have j1:=Aw w10 _ 1 _ _ _ b.o.h;have f1:=AD w10 _ 1 _ _ b.o.h;have lh:=(Ac.1 b.o.h).1;have C:=aA (b.o.setH 1 (.slice A10 n10 c10));have bM:=aA (UBO.far bD.o (p:=⟨H,1,none⟩) (fun e=>ao.o e.symm) (.slice A10 n10 c10));go_wp2_with fail
     refine f _ _ ⟨⟨_,C.o.w⟩,rfl⟩ _ (fun _ h=>h) ⟨⟨_,C.o.w⟩,rfl⟩ ?_;clear j1 f1 lh;refine Aj ?_;go_wp2;go_roundw
     case rel=>exact⟨k+1,_,N,by go_num,by rw[<-cl.o,HX.o]at C;rw[HX.o];exact C,bM⟩
     case measure=>simp[intOf];omega
  ·obtain rfl:k=ks.length:=by omega
   have cS:Hid (Gm.oK G ks.length=Gm.olds G):=aA (by rw[a3.o];exact Gm.oK_all G);rw[cS.o]at HS;clear HC bp ao;go_wp2;go_loopw [64] (fun vk wr=>∃(k:Nat) (vR:Value),k<=ks.length/\vk=.int .i64 k/\Hid (RdS w1 wr H gA #[vT,vN,vR,.int .i64 0] vT vN vR G.ts (Gm.nmL G (Gm.olds G)) (((Gm.krs G).take k).map (Gm.re (Gm.olds G))) (Gm.anL G.ns.length (Gm.olds G)))) (fun vk _=>ks.length-(intOf vk).toNat)
   case atStart=>exact⟨0,_,AX _,rfl,HS⟩
   case round =>
    clear HS N;obtain⟨k,vR,hk,rfl,HS⟩:=hrel;by_cases N:k<ks.length
    ·obtain⟨gk,ok,rfl,cJ,ap⟩:=bg.o wr (ad.o wr HS.o.w) (by omega);have kk:=ap k N;rw[L.gd_lt N]at kk;have lk:=Bd kk;obtain⟨i,aq,hi,hkk,ar⟩:=Gm.kl_at (G:=G) (k:=k) (by rw[<-HL.o];exact N);have O:ks[k]=(i:Int):=by simp only[HL.o];exact aq
     rw[O]at kk;have bT:=aA (Gm.krs_next hkk);have bX:(Gm.krs G)[k]∈Gm.krs G:=Ay hkk;rw[ar]at bT bX;have ba:=aA (Gm.an1_re V.o bX);have a0:G.rs[i]∈G.rs:=Ay hi;have e:=cF.o.r _ a0;have aw:=V.o.lin _ a0;have cU:=(Gm.rule_in (V.o.rr _ a0)).1;obtain⟨g,o,rfl,cL,hc⟩:=b9.o w1 bc.o (by omega);obtain⟨k0,⟨A',c',k1,_,_,cv⟩,k2⟩:=hc i hi;have bb:=aA (fun(y:World) (h:Below w1.heap.size w1 y) (hu:UBI y gA (Gm.anL G.ns.length (Gm.olds G)))=>zcm G.rs[i] (Gm.anL G.ns.length (Gm.olds G)) A' (some ⟨gA,0,none⟩) c' G.ns.length B y.heap.size y (cv.keep fun g o hg=>h.cell (p:=⟨g,o,none⟩) (by have:=HB.o;have:=ag.o;simp only;omega)) (hu.rd0 hu.lt) (Ag HB.o (ad.o y h).size) (Ad _) e.2.2 (fun z hz h0=>by rw[Gm.anL_len];exact V.o.sin _ a0 z hz h0) (by rw[Gm.anL_len];exact aw) (by omega) (fun i hi=>Gm.anL_ok V.o _ i (by rwa [Gm.anL_len]at hi)));rw[Gm.anL_len]at bb;have af:g<w1.heap.size:=by have:=HB.o;have:=ag.o;omega
     have cw:Hid (((Gm.krs G).take k).length<=40):=aA (by rw[Bc];have:=Gm.krs_len G;have:=bf.o;omega);generalize G.rs[i]=x at *;obtain⟨l,r,pz⟩:=x;simp only at k0 k1 k2 bb ba cU;have ck:(i:Int)<(G.rs.length:Int):=by omega
     go_upto_region 15 with fail
     have b0:=fun y:Calm.On w1.heap.size w1=>(y.2.cell (p:=⟨g,o+i*3,none⟩) af).trans k0;have b1:=fun y:Calm.On w1.heap.size w1=>(y.2.cell (p:=⟨g,o+i*3+1,none⟩) af).trans k1;have b2:=fun y:Calm.On w1.heap.size w1=>(y.2.cell (p:=⟨g,o+i*3+2,none⟩) af).trans k2;have bq:=fun y:Calm.On w1.heap.size w1=>bF (HQ.o y.1 y.2);have E:=aA HS.o.drew;clear kk lk ap hc cv hkk ar aq O bX a0 e aw k0 k1 k2;refine CalmN.region_tree (fun x=>∃y:Calm.On w1.heap.size w1,x=y.1) (.two [0,2,3,4,5,6,7] 1 (.one [] 8 (.one [] 9 (.one [] 10 (.one [11] 12 (.fin []))))) 8 (.two [] 1 (.one [] 9 (.one [] 10 (.one [11] 12 (.fin [])))) 9 (.one [] 1 (.one [] 10 (.one [11] 12 (.fin [])))))) (by kernel_rfl) (by kernel_rfl) (fun _ _ d _ _ h=>by cases d <;> exact h) ⟨⟨wr.drew,E.o.w⟩,rfl⟩ ?_;simp only[CalmN.wpT,CalmN.wpSt,CalmN.pickOps,Am,Af,Ah];repeat (go_big_quiet_step (fail))
     refine Aj ?_;clear b0 b1 b2 bq;obtain⟨w8,az⟩:∃y,y=wr.drew:=⟨_,rfl⟩
     rw[<-az]at E ⊢;clear az HS;have n8:=Aw w8 _ 2 _ _ _ E.o.h;have lh8:=(Ac.1 E.o.h).1;obtain⟨av,cx⟩:∃a,a=(Gm.anL G.ns.length (Gm.olds G)).getD l.toNat 0:=⟨_,rfl⟩
     rw[<-cx]at bb ba;clear cx;refine⟨?_,?_⟩
     focus
      intro KK f;rw[Ap (by rfl)];go_wp2_with fail
      refine f _ _ ⟨⟨_,E.o.w⟩,rfl⟩ _ (fun _ h=>h) ⟨⟨_,E.o.w⟩,rfl⟩ ?_;refine Aj ?_
     rotate_left
     rotate_left
     all_goals
      intro KK f;rw[Ap (by rfl)];go_wp2_with fail
      refine(bb.o w8 E.o.w E.o.a).mono ?_;rintro _ w9 ⟨g9,rfl,cy,cz,cA⟩;have F:=aA (E.o.below cA);have cB:=aA cz;have cC:=aA (Ag E.o.w.size cy);have n9:=Aw w9 _ 2 _ _ _ F.o.h;have lh9:=(Ac.1 F.o.h).1;have J:=aA (F.o.alloc (.cells #[.int .i64 av,.slice (some ⟨g9,0,none⟩) r.length r.length,.int .i64 pz] 74));have na:=Aw _ _ 2 _ _ _ J.o.h;have lha:=(Ac.1 J.o.h).1;clear cA cz cy;go_wp2_with fail
      refine f _ _ ⟨⟨w9,F.o.w⟩,rfl⟩ _ (fun _ h=>h) ⟨⟨w9,F.o.w⟩,rfl⟩ ?_;refine Aj ?_
     focus
      intro KK f;rw[Ap (by rfl)];go_wp2_with fail
      refine f _ _ ⟨⟨_,J.o.w⟩,rfl⟩ _ (fun _ h=>h) ⟨⟨_,J.o.w⟩,rfl⟩ ?_;refine Aj ?_;intro KK f;rw[Ap (by rfl)];have U:=(cB.o.alloc (.cells #[.int .i64 av,.slice (some ⟨g9,0,none⟩) r.length r.length,.int .i64 pz] 74)).row cC.o
      have a1:∀j u,(rlC (⟨av,r.map (Gm.an1 (Gm.anL G.ns.length (Gm.olds G))),pz⟩,some ⟨g9,0,none⟩,r.length))[j]?=some u->(w9.alloc (.cells #[.int .i64 av,.slice (some ⟨g9,0,none⟩) r.length r.length,.int .i64 pz] 74)).cell? ⟨w9.heap.size,j,none⟩=some u:=fun j u hj=>by
       have h:=zah w9 [.int .i64 av,.slice (some ⟨g9,0,none⟩) r.length r.length,.int .i64 pz] 74 j;refine h.trans ?_
       simpa[rlC] using hj
      refine zeC (.tmp 69) (.tmp 77) _ rfl Tryz.underlying24 w1.heap.size _ _ _ rfl J.o.r w9.heap.size 1 (⟨av,r.map (Gm.an1 (Gm.anL G.ns.length (Gm.olds G))),pz⟩,some ⟨g9,0,none⟩,r.length) rfl a1 ⟨by simp,by simp only;omega,U⟩ (by have:=cw.o;rw[Bb];omega) J.o.w.size (Ad _) ?_;intro v' w10 A D;rw[ba.o,<-bT.o]at A;have b:=aA (J.o.putR A D);obtain⟨A10,c10,rfl,_,_⟩:=zaN A;clear A D;obtain⟨n10,I⟩:∃n,n=(((Gm.krs G).take (k+1)).map (Gm.re (Gm.olds G))).length:=⟨_,rfl⟩
      rw[<-I]at b ⊢;clear I a1 U;refine f _ _ ⟨⟨w10,b.o.w⟩,rfl⟩ _ (fun _ h=>h) ⟨⟨w10,b.o.w⟩,rfl⟩ ?_
      go_frame
      repeat (go_big_quiet_step (fail))
      refine Aj ?_;intro KK f;rw[Ap (by rfl)];have j2:=Aw w10 _ 2 _ _ _ b.o.h;have f2:=AD w10 _ 2 _ _ b.o.h;have lh:=(Ac.1 b.o.h).1;have C:=aA (b.o.setH 2 (.slice A10 n10 c10));go_wp2_with fail
      refine f _ _ ⟨⟨_,C.o.w⟩,rfl⟩ _ (fun _ h=>h) ⟨⟨_,C.o.w⟩,rfl⟩ ?_;clear j2 f2 lh;refine Aj ?_;go_wp2;go_roundw
      case rel=>exact⟨k+1,_,N,by go_num,C⟩
      case measure=>simp[intOf];omega
     focus
      refine⟨?_,?_⟩
      focus
       intro KK f;rw[Ap (by rfl)];go_wp2_with fail
       refine f _ _ ⟨⟨_,F.o.w⟩,rfl⟩ _ (fun _ h=>h) ⟨⟨_,F.o.w⟩,rfl⟩ ?_
      rotate_left
      focus
       intro KK f;rw[Ap (by rfl)];go_wp2_with fail
       refine f _ _ ⟨⟨_,J.o.w⟩,rfl⟩ _ (fun _ h=>h) ⟨⟨_,J.o.w⟩,rfl⟩ ?_
      all_goals
       refine Aj ?_;intro KK f;rw[Ap (by rfl)];go_wp2_with fail
       refine f _ _ ⟨⟨_,J.o.w⟩,rfl⟩ _ (fun _ h=>h) ⟨⟨_,J.o.w⟩,rfl⟩ ?_;refine Aj ?_;intro KK f;rw[Ap (by rfl)];have U:=(cB.o.alloc (.cells #[.int .i64 av,.slice (some ⟨g9,0,none⟩) r.length r.length,.int .i64 pz] 74)).row cC.o
       have a1:∀j u,(rlC (⟨av,r.map (Gm.an1 (Gm.anL G.ns.length (Gm.olds G))),pz⟩,some ⟨g9,0,none⟩,r.length))[j]?=some u->(w9.alloc (.cells #[.int .i64 av,.slice (some ⟨g9,0,none⟩) r.length r.length,.int .i64 pz] 74)).cell? ⟨w9.heap.size,j,none⟩=some u:=fun j u hj=>by
        have h:=zah w9 [.int .i64 av,.slice (some ⟨g9,0,none⟩) r.length r.length,.int .i64 pz] 74 j;refine h.trans ?_
        simpa[rlC] using hj
       refine zeC (.tmp 69) (.tmp 77) _ rfl Tryz.underlying24 w1.heap.size _ _ _ rfl J.o.r w9.heap.size 1 (⟨av,r.map (Gm.an1 (Gm.anL G.ns.length (Gm.olds G))),pz⟩,some ⟨g9,0,none⟩,r.length) rfl a1 ⟨by simp,by simp only;omega,U⟩ (by have:=cw.o;rw[Bb];omega) J.o.w.size (Ad _) ?_;intro v' w10 A D;rw[ba.o,<-bT.o]at A;have b:=aA (J.o.putR A D);obtain⟨A10,c10,rfl,_,_⟩:=zaN A;clear A D;obtain⟨n10,I⟩:∃n,n=(((Gm.krs G).take (k+1)).map (Gm.re (Gm.olds G))).length:=⟨_,rfl⟩
       rw[<-I]at b ⊢;clear I a1 U;refine f _ _ ⟨⟨w10,b.o.w⟩,rfl⟩ _ (fun _ h=>h) ⟨⟨w10,b.o.w⟩,rfl⟩ ?_
       go_frame
       repeat (go_big_quiet_step (fail))
       refine Aj ?_;intro KK f;rw[Ap (by rfl)];have j2:=Aw w10 _ 2 _ _ _ b.o.h;have f2:=AD w10 _ 2 _ _ b.o.h;have lh:=(Ac.1 b.o.h).1;have C:=aA (b.o.setH 2 (.slice A10 n10 c10));go_wp2_with fail
       refine f _ _ ⟨⟨_,C.o.w⟩,rfl⟩ _ (fun _ h=>h) ⟨⟨_,C.o.w⟩,rfl⟩ ?_;clear j2 f2 lh;refine Aj ?_;go_wp2;go_roundw
       case rel=>exact⟨k+1,_,N,by go_num,C⟩
       case measure=>simp[intOf];omega
    ·obtain rfl:k=ks.length:=by omega
     rw[a3.o,Bo]at HS;obtain⟨AT5,cT5,rfl,_,_⟩:=aL HS.o.t;obtain⟨AN5,cN5,rfl,_,_⟩:=aL HS.o.nn;obtain⟨AR5,cR5,rfl,_,_⟩:=zaN HS.o.r;have cV:=V.o.s0;have bZ:=V.o.s1;obtain⟨m,hm⟩:∃m:Nat,G.st=(m:Int):=⟨G.st.toNat,by omega⟩
     have HP:Hid ((Gm.anL G.ns.length (Gm.olds G)).getD m 0=Gm.pos (Gm.olds G) G.st):=aA (by rw[Gm.anL_at (by omega),<-hm,Ap (Gm.st_in cG.o)]);have q3:=bQ (HQ.o wr HS.o.w);rw[hm]at q3;rw[hm]at bZ;have km:=HS.o.a.cell m (by rw[Gm.anL_len];omega);rw[HP.o]at km;have la:=HS.o.a.lt;have lq:=Bd q3;have j3:=Aw wr _ 3 _ _ _ HS.o.h;have f3:=AD wr _ 3 _ _ HS.o.h;have lh:=(Ac.1 HS.o.h).1;obtain⟨pp,b3⟩:∃z,z=Gm.pos (Gm.olds G) G.st:=⟨_,rfl⟩
     rw[<-b3]at km;have cW:=aA b3;have M:=aA (HS.o.setH 3 (.int .i64 pp));obtain⟨wy,b4⟩:∃y,y=wr.setCell ⟨H,3,none⟩ (.int .i64 pp):=⟨_,rfl⟩
     rw[<-b4]at M;clear b3 hm cV HP;go_upto_region 18 with fail
     rw[<-b4];clear b4 q3 km la lq j3 f3 lh;have j0:=aM M.o.h;have j1:=aR M.o.h;have j2:=bF M.o.h;have j3:=bQ M.o.h;have lh:=(Ac.1 M.o.h).1;have hz:=(M.o.w.block (w.heap.size+1) (by have:=ag.o;omega)).trans cE.o;have g0:=aM hz;have g1:=aR hz;have g2:=bF hz;have g3:=bQ hz;have e0:=AD wy _ 0 _ _ hz;have e1:=AD wy _ 1 _ _ hz;have e2:=AD wy _ 2 _ _ hz;have e3:=AD wy _ 3 _ _ hz;have lz:=(Ac.1 hz).1;have a2:w.heap.size<=w1.heap.size:=by have:=ag.o;omega
     have cD:Hid (Gx wy w.heap.size (.slice AT5 G.ts.length cT5) (.slice AN5 (Gm.nmL G (Gm.olds G)).length cN5) (.slice AR5 ((Gm.krs G).map (Gm.re (Gm.olds G))).length cR5) G.ts (Gm.nmL G (Gm.olds G)) ((Gm.krs G).map (Gm.re (Gm.olds G)))):=aA ⟨⟨_,HQ.o wy M.o.w⟩,⟨_,hz⟩,za7 M.o.t a2,za7 M.o.nn a2,by
      obtain⟨qs,h1,h2,h3,h4⟩:=M.o.r
      exact⟨qs,h1,za7 h2 a2,h3,fun q hq=>⟨(h4 q hq).1,(h4 q hq).2.1,fun hn=>by
       obtain⟨g,cur,e,hb,hN,hh⟩:=(h4 q hq).2.2 hn;exact⟨g,cur,e,Ag a2 hb,hN,hh⟩⟩⟩⟩
     have b5:=aA (fun u1 u2 u3 u4=>(((cD.o.set (w.heap.size+1) 0 u1 (.inr rfl)).set (w.heap.size+1) 1 u2 (.inr rfl)).set (w.heap.size+1) 2 u3 (.inr rfl)).set (w.heap.size+1) 3 u4 (.inr rfl));have cX:=aA (fun u1 u2 u3 u4=>((((ad.o wy M.o.w).setCell (p:=⟨w.heap.size+1,0,none⟩) (by simp only;omega) u1).setCell (p:=⟨w.heap.size+1,1,none⟩) (by simp only;omega) u2).setCell (p:=⟨w.heap.size+1,2,none⟩) (by simp only;omega) u3).setCell (p:=⟨w.heap.size+1,3,none⟩) (by simp only;omega) u4);have cY:Hid (Gm.reduce G=⟨G.ts,Gm.nmL G (Gm.olds G),(Gm.krs G).map (Gm.re (Gm.olds G)),pp⟩):=aA (by rw[cW.o];rfl);generalize Gm.nmL G (Gm.olds G)=nms at *;generalize (Gm.krs G).map (Gm.re (Gm.olds G))=rls at *;clear cD hz a2 HS M;go_wp2;refine BM (v:=.agg #[.slice AT5 G.ts.length cT5,.slice AN5 nms.length cN5,.slice AR5 rls.length cR5,.int .i64 pp]) (by simp[results,Tryz.results133,go_sem,g0,g1,g2,g3]) rfl ?_;exact⟨_,rfl,by rw[cY.o];exact⟨_,_,_,rfl,(b5.o _ _ _ _).t,(b5.o _ _ _ _).nn,(b5.o _ _ _ _).r⟩,cX.o _ _ _ _⟩
noncomputable def eqb {α:Type} (a b:α):Bool:=@decide (a=b) (Classical.propDecidable _)
theorem zai {α:Type} {a b:α} (h:a=b):eqb a b=true:=by unfold eqb;exact @AJ _ (Classical.propDecidable _) h
theorem zaD {α:Type} {a b:α} (h:¬a=b):eqb a b=false:=by unfold eqb;exact @AM _ (Classical.propDecidable _) h
theorem zkd (s s':ByteArray) (a a' b b':Int) (w:World):(Op.equalIn 10000 85 (.agg #[.string s,.int .i64 a,.int .i64 b]) (.agg #[.string s',.int .i64 a',.int .i64 b'])).run Tryz.prog w=.ok ((s.toList==s'.toList)&&(a==a')&&(b==b')) w:=by
 have u3:=Tryz.underlying3;have a3:=Tryz.isAgg3;have z3:=Tryz.sizeOf3;have u9:=Tryz.underlying9;have a9:=Tryz.isAgg9;have z9:=Tryz.sizeOf9;have hS:Tryz.prog.underlying 85=some (.struct (Tryz.prog.fieldsOf 85)):=by kernel_rfl
 rw[show(10000:Nat)=9999+1 from rfl,run_equalIn_agg w 9999 85 _ _ hS (by kernel_rfl)];simp only[Program.fieldsOf,Tryz.underlying85]
 go_simp
 by_cases h0:s.toList=s'.toList <;> by_cases h1:a=a' <;> by_cases h2:b=b' <;> simp[h0,h1,h2]
theorem zkc {x y:Gm.Tm} (hx:K.Tx x.nm) (hy:K.Tx y.nm):(((K.str x.nm).toList==(K.str y.nm).toList)&&(x.lv==y.lv)&&(x.wy==y.wy))=eqb x y:=by
 rw[K.eqB hx hy];by_cases h:x=y
 ·subst h;rw[zai rfl];simp
 ·rw[zaD h];rw[CG,CG];by_cases h1:x.nm=y.nm
  ·by_cases h2:x.lv=y.lv
   ·by_cases h3:x.wy=y.wy
    ·exact absurd (by cases x;cases y;simp_all) h
    ·exact .inr (by simpa using h3)
   ·exact .inl (.inr (by simpa using h2))
  ·exact .inl (.inl (by simpa using h1))
def bE {α:Type} (xs ys:List α) (k:Nat):Prop:=xs.take k=ys.take k
theorem bE.zero {α:Type} (xs ys:List α):bE xs ys 0:=rfl
theorem bE.next {α:Type} {xs ys:List α} (h:bE xs ys k) (h1:k<xs.length) (h2:k<ys.length) (e:xs[k]=ys[k]):bE xs ys (k+1):=by
 unfold bE at *;rw[AO h1,AO h2,h,e]
theorem bE.all {α:Type} {xs ys:List α} (h:bE xs ys k) (hk:k=xs.length) (hl:xs.length=ys.length):eqb xs ys=true:=by
 unfold bE at h;rw[hk,Bo,hl,Bo]at h;exact zai h
theorem zeI {α:Type} {xs ys:List α} (h1:k<xs.length) (h2:k<ys.length) (e:¬xs[k]=ys[k]):eqb xs ys=false:=zaD fun h=>e (by subst h;rfl)
theorem za2 {α:Type} {xs ys:List α} (h:¬xs.length=ys.length):eqb xs ys=false:=zaD fun e=>h (by rw[e])
theorem zhU (A A':Option Addr) (ca cb B B':Nat) (xs ys:List (List Int)) (w:World) (ab:RdN w B A xs) (ac:RdN w B' A' ys) (hx:∀x∈xs,K.Tx x) (hy:∀y∈ys,K.Tx y) (af:xs.length<=9223372036854775807) :
  Calls Tryz.prog 135 #[.slice A xs.length ca,.slice A' ys.length cb] w fun e w'=>e=.returned (.bool (eqb xs ys))/\∃n,w'=w.drewN n:=by
 by_cases hl:xs.length=ys.length
 ·have HL:=aA hl;rw[<-hl];have ae:((xs.length:Int) != (xs.length:Int))=false:=by simp
  have HA:=aA ab;have ad:=aA ac;have HX:=aA hx;have HY:=aA hy;clear hx hy;clear hl ab ac
  go_enter Tryz.func135,Tryz.ntmps135
  go_wp2;go_loopw [13] (fun vi wr=>∃(k q:Nat),k<=xs.length/\vi=.int .i64 k/\bE xs ys k/\wr=w.drewN q) (fun vi _=>xs.length-(intOf vi).toNat)
  case atStart=>exact⟨0,0,AX _,rfl,bE.zero _ _,rfl⟩
  case round =>
   obtain⟨k,q,hk,rfl,ht,d⟩:=hrel;have HT:=aA ht;have HW:=aA d;clear ht;by_cases hlt:k<xs.length
   ·have aa:k<ys.length:=by have:=HL.o;omega
    obtain⟨ga,oa,rfl,_,ha⟩:=HA.o (by omega);obtain⟨gb,ob,rfl,_,hb⟩:=ad.o (by omega);have ca':wr.cell? ⟨ga,oa+k,none⟩=some (.string (K.str xs[k])):=by rw[d];exact ha k hlt
    have cb':wr.cell? ⟨gb,ob+k,none⟩=some (.string (K.str ys[k])):=by rw[d];exact hb k aa
    have E:((K.str xs[k]).toList==(K.str ys[k]).toList)=eqb xs[k] ys[k]:=by
     rw[K.eqB (HX.o _ (Ay hlt)) (HY.o _ (Ay aa))];by_cases h:xs[k]=ys[k]
     ·rw[zai h];simpa using h
     ·rw[zaD h];simpa using h
    have E':((K.str xs[k]).toList != (K.str ys[k]).toList) = !eqb xs[k] ys[k]:=by rw[bne,E]
    have k0:(0:Int)<=(k:Int):=by omega
    have k1:(k:Int)<(xs.length:Int):=by omega
    clear ha hb d HA ad;by_cases b:xs[k]=ys[k]
    ·have HN:Hid (bE xs ys (k+1)):=aA (HT.o.next hlt aa b);rw[zai b]at E E';clear b;generalize K.str xs[k]=x at *;generalize K.str ys[k]=y at *;rw[Bool.not_true]at E';go_wp2_with fail
     go_quiet (fail)
     go_wp2;go_roundw
     case rel=>exact⟨k+1,_,hlt,by go_num,HN.o,by rw[HW.o];exact DL _ _ _⟩
     case measure=>simp[intOf];omega
    ·have HN:Hid (eqb xs ys=false):=aA (zeI hlt aa b);rw[zaD b]at E E';clear b;generalize K.str xs[k]=x at *;generalize K.str ys[k]=y at *;rw[Bool.not_false]at E';go_wp2_with fail
     go_quiet (fail)
     go_wp2;go_ret
     exact⟨aD HN.o.symm,_,by rw[HW.o,DL]⟩
   ·obtain rfl:k=xs.length:=by omega
    have HE:=aA (HT.o.all rfl HL.o);subst d;go_wp2;go_ret
    exact⟨aD HE.o.symm,_,rfl⟩
 ·have HE:=aA (za2 hl);have ae:((xs.length:Int) != (ys.length:Int))=true:=by simp;omega
  clear hl
  go_enter Tryz.func135,Tryz.ntmps135
  go_wp2;go_ret
  exact⟨aD HE.o.symm,0,rfl⟩
theorem zf9 (A A':Option Addr) (ca cb B B':Nat) (xs ys:List Int) (w:World) (ab:RdI w B A xs) (ac:RdI w B' A' ys) (af:xs.length<=9223372036854775807) :
  Calls Tryz.prog 182 #[.slice A xs.length ca,.slice A' ys.length cb] w fun e w'=>e=.returned (.bool (eqb xs ys))/\∃n,w'=w.drewN n:=by
 by_cases hl:xs.length=ys.length
 ·have HL:=aA hl;rw[<-hl];have ae:((xs.length:Int) != (xs.length:Int))=false:=by simp
  have HA:=aA ab;have ad:=aA ac;clear hl ab ac
  go_enter Tryz.func182,Tryz.ntmps182
  go_wp2;go_loopw [13] (fun vi wr=>∃(k q:Nat),k<=xs.length/\vi=.int .i64 k/\bE xs ys k/\wr=w.drewN q) (fun vi _=>xs.length-(intOf vi).toNat)
  case atStart=>exact⟨0,0,AX _,rfl,bE.zero _ _,rfl⟩
  case round =>
   obtain⟨k,q,hk,rfl,ht,d⟩:=hrel;have HT:=aA ht;have HW:=aA d;clear ht;by_cases hlt:k<xs.length
   ·have aa:k<ys.length:=by have:=HL.o;omega
    obtain⟨ga,oa,rfl,_,ha⟩:=HA.o (by omega);obtain⟨gb,ob,rfl,_,hb⟩:=ad.o (by omega);have ca':wr.cell? ⟨ga,oa+k,none⟩=some (.int .i64 xs[k]):=by rw[d,<-L.gd_lt hlt];exact ha k hlt
    have cb':wr.cell? ⟨gb,ob+k,none⟩=some (.int .i64 ys[k]):=by rw[d,<-L.gd_lt aa];exact hb k aa
    have E:(xs[k]==ys[k])=eqb xs[k] ys[k]:=by
     by_cases h:xs[k]=ys[k]
     ·rw[zai h];simpa using h
     ·rw[zaD h];simpa using h
    have E':(xs[k] != ys[k]) = !eqb xs[k] ys[k]:=by rw[bne,E]
    have k0:(0:Int)<=(k:Int):=by omega
    have k1:(k:Int)<(xs.length:Int):=by omega
    clear ha hb d HA ad;by_cases b:xs[k]=ys[k]
    ·have HN:Hid (bE xs ys (k+1)):=aA (HT.o.next hlt aa b);rw[zai b]at E E';clear b;generalize xs[k]=x at *;generalize ys[k]=y at *;rw[Bool.not_true]at E';go_wp2_with fail
     go_quiet (fail)
     go_wp2;go_roundw
     case rel=>exact⟨k+1,_,hlt,by go_num,HN.o,by rw[HW.o];exact DL _ _ _⟩
     case measure=>simp[intOf];omega
    ·have HN:Hid (eqb xs ys=false):=aA (zeI hlt aa b);rw[zaD b]at E E';clear b;generalize xs[k]=x at *;generalize ys[k]=y at *;rw[Bool.not_false]at E';go_wp2_with fail
     go_quiet (fail)
     go_wp2;go_ret
     exact⟨aD HN.o.symm,_,by rw[HW.o,DL]⟩
   ·obtain rfl:k=xs.length:=by omega
    have HE:=aA (HT.o.all rfl HL.o);subst d;go_wp2;go_ret
    exact⟨aD HE.o.symm,_,rfl⟩
 ·have HE:=aA (za2 hl);have ae:((xs.length:Int) != (ys.length:Int))=true:=by simp;omega
  clear hl
  go_enter Tryz.func182,Tryz.ntmps182
  go_wp2;go_ret
  exact⟨aD HE.o.symm,0,rfl⟩
theorem zhT (A A':Option Addr) (ca cb B B':Nat) (xs ys:List Gm.Tm) (w:World) (aa:zeE w B A xs) (ab:zeE w B' A' ys) (hx:∀x∈xs,K.Tx x.nm) (hy:∀y∈ys,K.Tx y.nm) (ae:xs.length<=9223372036854775807) :
  Calls Tryz.prog 134 #[.slice A xs.length ca,.slice A' ys.length cb] w fun e w'=>e=.returned (.bool (eqb xs ys))/\∃n,w'=w.drewN n:=by
 by_cases hl:xs.length=ys.length
 ·have HL:=aA hl;rw[<-hl];have ad:((xs.length:Int) != (xs.length:Int))=false:=by simp
  have HA:=aA aa;have ac:=aA ab;have HX:=aA hx;have HY:=aA hy;clear hx hy;clear hl aa ab
  go_enter Tryz.func134,Tryz.ntmps134
  go_wp2;go_loopw [13] (fun vi wr=>∃(k q:Nat),k<=xs.length/\vi=.int .i64 k/\bE xs ys k/\wr=w.drewN q) (fun vi _=>xs.length-(intOf vi).toNat)
  case atStart=>exact⟨0,0,AX _,rfl,bE.zero _ _,rfl⟩
  case round =>
   obtain⟨k,q,hk,rfl,ht,d⟩:=hrel;have HT:=aA ht;have HW:=aA d;clear ht;by_cases hlt:k<xs.length
   ·have b:k<ys.length:=by have:=HL.o;omega
    obtain⟨ga,oa,rfl,_,ha⟩:=HA.o (by omega);obtain⟨gb,ob,rfl,_,hb⟩:=ac.o (by omega);have ca0:wr.cell? ⟨ga,oa+k*3,none⟩=some (.string (K.str xs[k].nm)):=by rw[d];exact(ha k hlt).1
    have ca1:wr.cell? ⟨ga,oa+k*3+1,none⟩=some (.int .i64 xs[k].lv):=by rw[d];exact(ha k hlt).2.1
    have ca2:wr.cell? ⟨ga,oa+k*3+2,none⟩=some (.int .i64 xs[k].wy):=by rw[d];exact(ha k hlt).2.2
    have cb0:wr.cell? ⟨gb,ob+k*3,none⟩=some (.string (K.str ys[k].nm)):=by rw[d];exact(hb k b).1
    have cb1:wr.cell? ⟨gb,ob+k*3+1,none⟩=some (.int .i64 ys[k].lv):=by rw[d];exact(hb k b).2.1
    have cb2:wr.cell? ⟨gb,ob+k*3+2,none⟩=some (.int .i64 ys[k].wy):=by rw[d];exact(hb k b).2.2
    have E0:=zkc (HX.o _ (Ay hlt)) (HY.o _ (Ay b));have E:=fun w=>zkd (K.str xs[k].nm) (K.str ys[k].nm) xs[k].lv ys[k].lv xs[k].wy ys[k].wy w;rw[E0]at E;clear E0;have k0:(0:Int)<=(k:Int):=by omega
    have k1:(k:Int)<(xs.length:Int):=by omega
    clear ha hb d HA ac;by_cases f:xs[k]=ys[k]
    ·have HN:Hid (bE xs ys (k+1)):=aA (HT.o.next hlt b f);rw[zai f]at E;clear f;generalize K.str xs[k].nm=x0 at *;generalize K.str ys[k].nm=y0 at *;generalize xs[k].lv=x1 at *;generalize ys[k].lv=y1 at *;generalize xs[k].wy=x2 at *;generalize ys[k].wy=y2 at *;go_wp2_with fail
     go_quiet (fail)
     go_wp2;go_roundw
     case rel=>exact⟨k+1,_,hlt,by go_num,HN.o,by rw[HW.o];exact DL _ _ _⟩
     case measure=>simp[intOf];omega
    ·have HN:Hid (eqb xs ys=false):=aA (zeI hlt b f);rw[zaD f]at E;clear f;generalize K.str xs[k].nm=x0 at *;generalize K.str ys[k].nm=y0 at *;generalize xs[k].lv=x1 at *;generalize ys[k].lv=y1 at *;generalize xs[k].wy=x2 at *;generalize ys[k].wy=y2 at *;go_wp2_with fail
     go_quiet (fail)
     go_wp2;go_ret
     exact⟨aD HN.o.symm,_,by rw[HW.o,DL]⟩
   ·obtain rfl:k=xs.length:=by omega
    have HE:=aA (HT.o.all rfl HL.o);subst d;go_wp2;go_ret
    exact⟨aD HE.o.symm,_,rfl⟩
 ·have HE:=aA (za2 hl);have ad:((xs.length:Int) != (ys.length:Int))=true:=by simp;omega
  clear hl
  go_enter Tryz.func134,Tryz.ntmps134
  go_wp2;go_ret
  exact⟨aD HE.o.symm,0,rfl⟩
def rlV (x:Gm.Rl) (A:Option Addr) (c:Nat):Value:=.agg #[.int .i64 x.l,.slice A x.r.length c,.int .i64 x.p]
theorem zko (x y:Gm.Rl):(eqb x.l y.l&&eqb x.r y.r&&eqb x.p y.p)=eqb x y:=by
 by_cases h:x=y
 ·subst h;rw[zai rfl,zai rfl,zai rfl,zai rfl];rfl
 ·rw[zaD h];rw[CG,CG];by_cases h1:x.l=y.l
  ·by_cases h2:x.r=y.r
   ·by_cases h3:x.p=y.p
    ·exact absurd (by cases x;cases y;simp_all) h
    ·exact .inr (zaD h3)
   ·exact .inl (.inr (zaD h2))
  ·exact .inl (.inl (zaD h1))
theorem zes (a b:Int):(a==b)=eqb a b:=by
 by_cases h:a=b
 ·rw[zai h];simpa using h
 ·rw[zaD h];simpa using h
theorem zbG (h:∃n,w'=w.drewN n):Below w.heap.size w w':=by
 obtain⟨n,rfl⟩:=h;exact aB (Aq _ _) n
theorem zdn (x y:Gm.Rl) (A A':Option Addr) (c c' B B':Nat) (w:World) (aa:RdI w B A x.r) (ab:RdI w B' A' y.r) (hB:B<=w.heap.size) (ad:B'<=w.heap.size) (ac:x.r.length<=9223372036854775807) :
  Calls Tryz.prog 137 #[rlV x A c,rlV y A' c'] w fun e w'=>e=.returned (.bool (eqb x y))/\Below w.heap.size w w':=by
 have b:=aA (fun o=>((Aq w.heap.size w).alloc (Ad _) o));have HE:=aA (fun(z:World) (h:Below w.heap.size w z)=>zf9 A A' c c' B B' x.r y.r z (aa.keep fun g o hg=>h.cell (p:=⟨g,o,none⟩) (Ao hg hB)) (ab.keep fun g o hg=>h.cell (p:=⟨g,o,none⟩) (Ao hg ad)) ac);rw[<-zko];have e1:=zes x.l y.l;have e2:=zes x.p y.p;unfold rlV;clear aa ab ac;generalize x.l=xl at *;generalize y.l=yl at *;generalize x.p=xp at *;generalize y.p=yp at *;cases q1:eqb xl yl
 ·rw[q1]at e1;clear q1 e2
  go_enter Tryz.func137,Tryz.ntmps137
  go_wp2;go_ret
  exact⟨rfl,(b.o _).alloc (by simp) _⟩
 ·rw[q1]at e1;clear q1;cases q2:eqb x.r y.r
  ·rw[q2]at HE;clear q2 e2
   go_enter Tryz.func137,Tryz.ntmps137
   go_wp2_with fail
   refine(HE.o _ ((b.o _).alloc (by simp) _)).mono ?_;rintro _ w2 ⟨rfl,hd⟩;have HD:=aA ((((b.o _).alloc (by simp) _)).trans ((zbG hd).mono (by simp;omega)));clear hd;go_wp2;go_ret
   exact⟨rfl,HD.o⟩
  ·rw[q2]at HE;clear q2;generalize eqb xp yp=b2 at *
   go_enter Tryz.func137,Tryz.ntmps137
   go_wp2_with fail
   refine(HE.o _ ((b.o _).alloc (by simp) _)).mono ?_;rintro _ w2 ⟨rfl,n,rfl⟩;go_wp2;go_ret
   exact⟨aD (by simp),aB ((b.o _).alloc (by simp) _) _⟩
theorem zjk (A A':Option Addr) (ca cb B B':Nat) (xs ys:List Gm.Rl) (w:World) (af:zd3 w B A xs) (ag:zd3 w B' A' ys) (hB:B<=w.heap.size) (ah:B'<=w.heap.size) (ar:xs.length<=9223372036854775807) :
  Calls Tryz.prog 136 #[.slice A xs.length ca,.slice A' ys.length cb,.func (Fn.func 137) #[] #[]] w fun e w'=>e=.returned (.bool (eqb xs ys))/\Below w.heap.size w w':=by
 have ai:=aA (Aq w.heap.size w);by_cases hl:xs.length=ys.length
 ·have HL:=aA hl;rw[<-hl];have am:((xs.length:Int) != (xs.length:Int))=false:=by simp
  have HA:=aA af;have aj:=aA ag;clear hl af ag
  go_enter Tryz.func136,Tryz.ntmps136
  go_wp2;go_loopw [17] (fun vi wr=>∃(k:Nat),k<=xs.length/\vi=.int .i64 k/\bE xs ys k/\Below w.heap.size w wr) (fun vi _=>xs.length-(intOf vi).toNat)
  case atStart=>exact⟨0,AX _,rfl,bE.zero _ _,ai.o⟩
  case round =>
   obtain⟨k,hk,rfl,ht,hb⟩:=hrel;have HT:=aA ht;have HB:=aA hb;clear ht;by_cases hlt:k<xs.length
   ·have aa:k<ys.length:=by have:=HL.o;omega
    obtain⟨ga,oa,rfl,au,ha⟩:=HA.o (by omega);obtain⟨gb,ob,rfl,av,ak⟩:=aj.o (by omega);obtain⟨a0,⟨Aa,cca,a1,_,_,ra⟩,a2⟩:=ha k hlt;obtain⟨b0,⟨Ab,ccb,b1,_,_,rb⟩,b2⟩:=ak k aa;have ad:xs[k].r.length<=9223372036854775807:=by omega
    have HS:=aA (fun(z:World) (h:Below w.heap.size w z)=>zdn xs[k] ys[k] Aa Ab cca ccb B B' z (ra.keep fun g o hg=>h.cell (p:=⟨g,o,none⟩) (Ao hg hB)) (rb.keep fun g o hg=>h.cell (p:=⟨g,o,none⟩) (Ao hg ah)) (Ag hB h.size) (Ag ah h.size) ad);have ab:ga<w.heap.size:=by omega
    have ac:gb<w.heap.size:=by omega
    have aw:=hb.size;have a0:=(hb.cell (p:=⟨ga,oa+k*3,none⟩) ab).trans a0;have a1:=(hb.cell (p:=⟨ga,oa+k*3+1,none⟩) ab).trans a1;have a2:=(hb.cell (p:=⟨ga,oa+k*3+2,none⟩) ab).trans a2;have b0:=(hb.cell (p:=⟨gb,ob+k*3,none⟩) ac).trans b0;have b1:=(hb.cell (p:=⟨gb,ob+k*3+1,none⟩) ac).trans b1;have b2:=(hb.cell (p:=⟨gb,ob+k*3+2,none⟩) ac).trans b2;have ao:ga<wr.heap.size:=by omega
    have ap:gb<wr.heap.size:=by omega
    have b:=aA (fun(o1 o2:Obj)=>(hb.alloc hb.size o1).alloc (by have:=hb.size;simp;omega) o2);have al:=aA hlt;have aq:=aA aa;unfold rlV at HS;clear ha ak hb HA aj ra rb;generalize qx:xs[k]=x at *;generalize qy:ys[k]=y at *;have QX:=aA qx;have QY:=aA qy;clear qx qy;by_cases d:x=y
    ·have HN:Hid (bE xs ys (k+1)):=aA (HT.o.next hlt aa (QX.o.trans (d.trans QY.o.symm)));rw[zai d]at HS;clear d ad;go_wp2_with fail
     refine(HS.o _ (b.o _ _)).mono ?_;rintro _ w2 ⟨rfl,f⟩;have ae:=aA ((b.o _ _).trans (f.mono (b.o _ _).size));clear f;go_wp2;go_roundw
     case rel=>exact⟨k+1,al.o,by go_num,HN.o,ae.o⟩
     case measure=>have:=al.o;simp[intOf];omega
    ·have HN:Hid (eqb xs ys=false):=aA (zeI hlt aa (fun e=>d (QX.o.symm.trans (e.trans QY.o))));rw[zaD d]at HS;clear d ad;go_wp2_with fail
     refine(HS.o _ (b.o _ _)).mono ?_;rintro _ w2 ⟨rfl,f⟩;have ae:=aA ((b.o _ _).trans (f.mono (b.o _ _).size));clear f;go_wp2;go_ret
     exact⟨aD HN.o.symm,ae.o⟩
   ·obtain rfl:k=xs.length:=by omega
    have HE:=aA (HT.o.all rfl HL.o);clear hb;go_wp2;go_ret
    exact⟨aD HE.o.symm,HB.o⟩
 ·have HE:=aA (za2 hl);have am:((xs.length:Int) != (ys.length:Int))=true:=by simp;omega
  clear hl
  go_enter Tryz.func136,Tryz.ntmps136
  go_wp2;go_ret
  exact⟨aD HE.o.symm,ai.o⟩
noncomputable def Gm.same (G H:Gm.Gr):Bool:=eqb G.ts H.ts&&eqb G.ns H.ns&&eqb G.rs H.rs&&eqb G.st H.st
theorem Gm.same_self (G:Gm.Gr):Gm.same G G=true:=by
 unfold Gm.same;rw[zai rfl,zai rfl,zai rfl,zai rfl];rfl
theorem zc8 (w:World) (o o':Obj) (n:Nat):(((w.alloc o).alloc o').drewN n).heap[w.heap.size]?=some o:=by
 show((w.alloc o).alloc o').heap[w.heap.size]?=some o
 rw[BI _ _ _ (by simp)];exact Az w o
theorem zc7 (w:World) (o o':Obj) (n:Nat):(((w.alloc o).alloc o').drewN n).heap[w.heap.size+1]?=some o':=by
 have:=Az (w.alloc o) o'
 simpa[World.drewN] using this
theorem zhL (v u:Value) (G H:Gm.Gr) (B B':Nat) (w:World) (hg:aQ w B v G) (hh:aQ w B' u H) (fg:Gm.Fit G) (fh:Gm.Fit H) (hB:B<=w.heap.size) (d:B'<=w.heap.size) :
  Calls Tryz.prog 92 #[v,u] w fun e w'=>e=.returned (.bool (Gm.same G H))/\Below w.heap.size w w':=by
 have b:=aA (fun o o'=>((Aq w.heap.size w).alloc (Ad _) o).alloc (by simp) o');obtain⟨AT,cT,AN,cN,AR,cR,rfl,⟨aa,ab⟩,⟨ac,ad⟩,⟨ae,af⟩,ht,hn,hr⟩:=hg;obtain⟨BT,dT,BN,dN,BR,dR,rfl,_,_,_,gt,gn,gr⟩:=hh;have H1:=aA (fun(x:World) (h:Below w.heap.size w x)=>zhT AT BT cT dT B B' G.ts H.ts x (ht.keep fun g o hg=>h.cell (p:=⟨g,o,none⟩) (Ao hg hB)) (gt.keep fun g o hg=>h.cell (p:=⟨g,o,none⟩) (Ao hg d)) (fun x hx=>(fg.t x hx).1) (fun x hx=>(fh.t x hx).1) (by omega));have H2:=aA (fun(x:World) (h:Below w.heap.size w x)=>zhU AN BN cN dN B B' G.ns H.ns x (hn.keep fun g o hg=>h.cell (p:=⟨g,o,none⟩) (Ao hg hB)) (gn.keep fun g o hg=>h.cell (p:=⟨g,o,none⟩) (Ao hg d)) (fun x hx=>fg.n x hx) (fun x hx=>fh.n x hx) (by omega));have H3:=aA (fun(x:World) (h:Below w.heap.size w x)=>zjk AR BR cR dR B B' G.rs H.rs x (hr.keep fun g o hg=>h.cell (p:=⟨g,o,none⟩) (Ao hg hB)) (gr.keep fun g o hg=>h.cell (p:=⟨g,o,none⟩) (Ao hg d)) (Ag hB h.size) (Ag d h.size) (by omega));have e4:=zes G.st H.st;unfold Gm.same;clear ht hn hr gt gn gr aa ab ac ad ae af fg fh hB d;generalize G.st=st at *;generalize H.st=st' at *;cases q1:eqb G.ts H.ts
 ·rw[q1]at H1;clear q1 e4 H2 H3
  go_enter Tryz.func92,Tryz.ntmps92
  go_wp2_with fail
  refine(H1.o _ (b.o _ _)).mono ?_;rintro _ w2 ⟨rfl,hd⟩;have HD:=aA ((b.o _ _).trans ((zbG hd).mono (by simp;omega)));clear hd;go_wp2;go_ret
  exact⟨rfl,HD.o⟩
 ·rw[q1]at H1;clear q1;cases q2:eqb G.ns H.ns
  ·rw[q2]at H2;clear q2 e4 H3
   go_enter Tryz.func92,Tryz.ntmps92
   go_wp2_with fail
   refine(H1.o _ (b.o _ _)).mono ?_;rintro _ w2 ⟨rfl,n1,rfl⟩;go_wp2_with fail
   refine(H2.o _ (aB (b.o _ _) _)).mono ?_;rintro _ w3 ⟨rfl,n2,rfl⟩;go_wp2;go_ret
   exact⟨rfl,aB (b.o _ _) _⟩
  ·rw[q2]at H2;clear q2;cases q3:eqb G.rs H.rs
   focus
    rw[q3]at H3;clear q3 e4
   rotate_left
   focus
    rw[q3]at H3;clear q3;generalize eqb st st'=b4 at *
   rotate_left
   all_goals
    go_enter Tryz.func92,Tryz.ntmps92
    go_wp2_with fail
    refine(H1.o _ (b.o _ _)).mono ?_;rintro _ w2 ⟨rfl,n1,rfl⟩;go_wp2_with fail
    refine(H2.o _ (aB (b.o _ _) _)).mono ?_;rintro _ w3 ⟨rfl,n2,rfl⟩;go_wp2_with fail
    refine(H3.o _ (aB (b.o _ _) _)).mono ?_;rintro _ w4 ⟨rfl,hb⟩;have HD:=aA ((aB (b.o _ _) _).trans (hb.mono (by simp[World.drewN];omega)))
   focus
    clear hb;go_wp2;go_ret
    exact⟨rfl,HD.o⟩
   focus
    have b0:=(hb.block w.heap.size (by simp[World.drewN];omega)).trans (zc8 w _ _ _);have b1:=(hb.block (w.heap.size+1) (by simp[World.drewN])).trans (zc7 w _ _ _);have z0:w.heap.size<w4.heap.size:=(Ac.1 b0).1;have z1:w.heap.size+1<w4.heap.size:=(Ac.1 b1).1;have c0:=Aw w4 _ 3 _ _ _ b0;have c1:=Aw w4 _ 3 _ _ _ b1;clear hb b0 b1;go_wp2;go_ret
    exact⟨aD (by simp),HD.o⟩
end Go.Proofs.YtjjbaehamplnaaaGreat
