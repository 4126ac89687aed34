/- Part of the proofs over this program: LkPass, LkGrow, AuMv, AuEdge, AuBuild, LkEnds. -/
import Derived.Test.YtjjbaehamplnaaaGreatHL
set_option linter.all false
namespace Go
def EY:=@List.cons.injEq
end Go
open Go.RowKit Go.Proofs.Tryz
set_option maxRecDepth 100000
set_option maxHeartbeats 40000000
namespace Go.Proofs.YtjjbaehamplnaaaGreat
variable {A:Option Go.Addr} {D M NE b base g i m n:Nat} {E es:List (List (Int×Int))} {G:Gm.Gr} {j s:Int} {p:Go.Addr} {u v v':Go.Value} {w w':Go.World} {xs:List Go.Value}
theorem NQ {y:World} {T:Nat} {tl:List ((Int×Int)×Value)} (h:Mw.fw qG y T tl) (x:Int×Int) (hx:Gm.In x.1/\Gm.In x.2) (hj:Mw.fH tl x=some (.int .i64 j)) :
  (Instr.lookup 171 (.map (some T)) (.agg #[.int .i64 x.1,.int .i64 x.2]) false).run prog y=.ok (.int .i64 j) y:=by
 have:=Mw.gP (E:=qG) h GK (t:=171) underlying171 (z:=.int .i64 0) κ (x:=x) hx false
 rw[hj]at this;exact this
structure IV (G:Gm.Gr) (K:List (List Au.It)) (E:List (List (Int×Int))) (tl:List ((Int×Int)×Value)):Prop where
 hi:Au.Inv G K E
 hE:E.length=K.length
 yk:Gm.Ok G
 hp:∀x∈G.rs,Gm.Al true G.rs x.r
 ht:G.ts.length<=24
 hn:G.ns.length<=40
 hK:K.length<=300
 tw:∀i s j,Au.Ed E i s j->Mw.fH tl ((i:Int),s)=some (.int .i64 (j:Int))
abbrev yV (G:Gm.Gr) (w:World) (base R gc T M D:Nat) (AT AN AR At:Option Addr) (cT cN cR ct:Nat) (tl:List ((Int×Int)×Value)) (MM DD:Lk.MP) (st:List (Int×Int)):Prop :=
 iD w base R gc T M D (.slice AT G.ts.length cT) (.slice AN G.ns.length cN) (.slice AR G.rs.length cR) (.int .i64 G.st) (.slice At (Lk.fO G).length ct) tl MM DD st
theorem cF.uw {R gc T:Nat} {g0 g1 g2 g3 tv:Value} {tl:List ((Int×Int)×Value)} {MM DD:Lk.MP} {st:List (Int×Int)} {At:Option Addr} (h:cF w At G) (k:fE gc M D w w') (hs:iD w base R gc T M D g0 g1 g2 g3 tv tl MM DD st):cF w' At G:=by
 obtain⟨v,h1,h2⟩:=hs.v;refine h.fp k.size fun g cur ty ab hc=>?_;have aa:ty≠227/\ty≠176:=by rcases ab with rfl|rfl <;> exact⟨δ,δ⟩
 refine k.row hc (fun e=>?_) (fun e=>?_) (fun e=>?_) (fun e=>?_)
 ·rw[e,h1]at hc;injection hc with hc;injection hc with _ hc _;exact aa.1 hc.symm
 ·rw[e]at hc;exact hs.m.is.fD hc
 ·rw[e]at hc;exact hs.d.is.fD hc
 ·rw[Fz (show w.cell? ⟨gc,0,none⟩=some v from AF w gc 0 _ _ _ h1)]at e;rcases qn h2 hc (fun cur e=>by injection e with _ e _;exact aa.2 e) with q|q
  ·rw[q]at e;cases e
  ·exact q e
def VB (G:Gm.Gr) (K:List (List Au.It)) (E:List (List (Int×Int))) (base R gc T M D:Nat) (g0 g1 g2 g3 tv:Value) (tl:List ((Int×Int)×Value)) (MM DD:Lk.MP) (st:List (Int×Int)) (w w':World):Prop :=
 ∃MM' DD' st',iD w' base R gc T M D g0 g1 g2 g3 tv tl MM' DD' st'/\Lk.WI G K E MM' DD' st'/\Lk.On MM DD st MM' DD' st'/\Below base w w'/\fE gc M D w w'
theorem Qf (G:Gm.Gr) (K:List (List Au.It)) (E:List (List (Int×Int))) (w:World) (base B R gc T M D:Nat) (AT AN AR At:Option Addr) (cT cN cR ct:Nat) (tl:List ((Int×Int)×Value)) (MM DD:Lk.MP) (st:List (Int×Int)) (q:Nat) (s:Int) (hG:IV G K E tl) (hg:aT w B (.agg #[.slice AT G.ts.length cT,.slice AN G.ns.length cN,.slice AR G.rs.length cR,.int .i64 G.st]) G) (hB:B<=base) (cn:cF w At G) (h:iD w base R gc T M D (.slice AT G.ts.length cT) (.slice AN G.ns.length cN) (.slice AR G.rs.length cR) (.int .i64 G.st) (.slice At (Lk.fO G).length ct) tl MM DD st) (hw:Lk.WP G K E q s (Lk.gN MM ((q:Int),s)) MM DD st) (hs:-1-s<G.ns.length) (hc:st.length<=Lk.jh MM) :
  Calls prog 150 #[.agg (qH (.slice AT G.ts.length cT) (.slice AN G.ns.length cN) (.slice AR G.rs.length cR) (.int .i64 G.st) (.slice At (Lk.fO G).length ct) T M D),lV ((q:Int),s),.func (Fn.func 148) #[] #[.pointer (some ⟨R,0,none⟩),.pointer (some ⟨gc,0,none⟩)]] w fun e w'=>e=.returned (.tuple #[]) /\
   VB G K E base R gc T M D (.slice AT G.ts.length cT) (.slice AN G.ns.length cN) (.slice AR G.rs.length cR) (.int .i64 G.st) (.slice At (Lk.fO G).length ct) tl MM DD st w w':=by
 have cX:=hG.yk.kL;have X:Gm.In s:=by have:=hw.s1;have:=hG.hn;unfold Gm.In;omega
 have br:Gm.In (q:Int):=by have:=hw.q1;have:=hG.hK;unfold Gm.In;omega
 have HN:=aA (fun w=>Mg s X.1 X.2 w);obtain⟨_,_,_,_,_,_,e0,⟨dH,dI⟩,⟨dJ,dK⟩,⟨dL,dM⟩,_,_,hR⟩:=hg;injection e0 with e0;simp only[Array.mk.injEq,EY,Value.slice.injEq,true_and,and_true]at e0;obtain⟨⟨e1,e2⟩,⟨e3,e4⟩,e5,e6⟩:=e0;subst e1 e2 e3 e4 e5 e6;have HR:=aA hR;have HB:=aA hB;have I:=aA (Lk.nQ G);obtain⟨wb,Z⟩:∃y,y=(w.alloc (.cells (qH (.slice AT G.ts.length cT) (.slice AN G.ns.length cN) (.slice AR G.rs.length cR) (.int .i64 G.st) (.slice At (Lk.fO G).length ct) T M D) 174)).alloc (.cells #[.int .i64 (q:Int),.int .i64 s] 176):=⟨_,rfl⟩
 have co:Hid (bA 174 176 w (qH (.slice AT G.ts.length cT) (.slice AN G.ns.length cN) (.slice AR G.rs.length cR) (.int .i64 G.st) (.slice At (Lk.fO G).length ct) T M D) #[.int .i64 (q:Int),.int .i64 s] wb):=aA (by rw[Z];exact bA.start _ _ _ _ _);have ap:=aA co.o.below;have HZ:=aA co.o.size;have HH:=aA (h.below ap.o);have J:=aA h.gf;have cY:=aA (cn.below ap.o);have cZ:Hid (fE gc M D w wb):=aA (.below ap.o h.nD);have f:=aA (Ca h.m.lt (Ca h.d.lt (Ca h.nD h.t.lt)))
 have aq:Hid (wb.heap[w.heap.size]?=some (.cells (qH (.slice AT G.ts.length cT) (.slice AN G.ns.length cN) (.slice AR G.rs.length cR) (.int .i64 G.st) (.slice At (Lk.fO G).length ct) T M D) 174 (0,0))):=aA (by
  rw[Z,BD _ _ _ σ];exact AI w _)
 have bf:Hid (wb.heap[w.heap.size+1]?=some (.cells #[.int .i64 (q:Int),.int .i64 s] 176 (0,0))):=aA (by
  have:=AI (w.alloc (.cells (qH (.slice AT G.ts.length cT) (.slice AN G.ns.length cN) (.slice AR G.rs.length cR) (.int .i64 G.st) (.slice At (Lk.fO G).length ct) T M D) 174)) (.cells #[.int .i64 (q:Int),.int .i64 s] 176)
  rw[Z]
  simpa using this)
 have ar:Hid (∀k,cD wb gc=some k->k<w.heap.size):=aA (fun k hk=>h.own k (by
  unfold cD at hk ⊢
  rwa [ap.o.cell (p:=⟨gc,0,none⟩) h.nD]at hk))
 have lk0:=J6 HH.o.m.is ((q:Int),s) ⟨br,X⟩;have x6:=yQ aq.o;have x2:=bB aq.o;have y0:=aQ bf.o;have y1:=aU bf.o;have HGG:=aA hG;have cp:=aA hw;have HC:=aA hc;have dN:=aA X;have dO:=aA br;have dP:(G.rs.length:Int)<=40:=ω
 obtain⟨v,hv⟩:∃v,v=Lk.gN MM ((q:Int),s):=⟨_,rfl⟩
 rw[<-hv]at cp lk0;clear hG hB cn h hw hc hR X br hv hs
 go_enter func150,ntmps150
 go_upto_region 1 with fail
 rw[<-Z];clear Z;go_wp2;have c3:Hid (Below base w wb):=aA (ap.o.mono J.o);have c4:Hid (Lk.o4 G E MM DD q s v 0):=aA (Lk.o4.zero _ _ _ _ _);clear lk0 x6 x2 y0 y1;go_loopw [20] (fun vi wr=>∃(k:Nat) (M1 D1:Lk.MP) (s1:List (Int×Int)),k<=G.rs.length/\vi=.int .i64 k/\Hid (yV G wr base R gc T M D AT AN AR At cT cN cR ct tl M1 D1 s1)/\Hid (Lk.WP G K E q s v M1 D1 s1)/\Hid (Lk.o4 G E M1 D1 q s v k)/\Hid (Lk.On MM DD st M1 D1 s1)/\Hid (Below base w wr)/\Hid (fE gc M D wb wr)) (fun vi _=>G.rs.length-(intOf vi).toNat)
 case atStart=>exact⟨0,MM,DD,st,Bb _,rfl,HH,cp,c4,aA (Lk.On.refl _ _ _),c3,aA (fE.refl _)⟩
 case round =>
  obtain⟨k,M1,D1,s1,hk,rfl,HA,HP,bs,HO,HW,au⟩:=hrel;rename World=>wr;by_cases A:k<G.rs.length
  ·have c5:=aA (HR.o ω);obtain⟨g,o,rfl,c6,hc⟩:=c5.o;obtain⟨k0,⟨A',c',k1,bu,_,bv⟩,k2⟩:=hc k A;have bw:g<base:=Aj c6 HB.o;have k0:=(HW.o.cell (p:=⟨g,o+k*3,none⟩) bw).trans k0;have k1:=(HW.o.cell (p:=⟨g,o+k*3+1,none⟩) bw).trans k1;have k2:=(HW.o.cell (p:=⟨g,o+k*3+2,none⟩) bw).trans k2;have c7:=aA bv;have dQ:=aA (au.o.row aq.o (by have:=f.o;omega) (by have:=f.o;omega) (by have:=f.o;omega) (fun e=>by have:=ar.o _ e;omega));have c8:=aA (au.o.row bf.o (by have:=f.o;omega) (by have:=f.o;omega) (by have:=f.o;omega) (fun e=>by have:=ar.o _ e;omega));obtain⟨wi,bg⟩:=χ (wr.alloc (.cells #[.int .i64 (G.rs[k]).l,.slice A' (G.rs[k]).r.length c',.int .i64 (G.rs[k]).p] 74))
   have C:Hid (β wr wi):=aA (by rw[bg];exact(AB _ _).alloc (Af _) _);have bh:wi.heap[wr.heap.size]?=some (.cells #[.int .i64 (G.rs[k]).l,.slice A' (G.rs[k]).r.length c',.int .i64 (G.rs[k]).p] 74 (0,0)):=by rw[bg];exact AI wr _
   have bx:=aA bh;have z0:=aQ bh;have z1:=aU (aC C.o c8.o);have F:=aA A;by_cases hl:(G.rs[k]).l = -1-s
   focus
    have hq:((G.rs[k]).l != -1-s)=false:=by rw[hl];simp
    have cq:=aA (AD (l:=G.rs) A);have c9:=aA (fun(a d:Nat) (hd:d<(G.rs[k]).r.length) (av:∀t:Nat,v.testBit t=true->Au.La G E a ((k:Int),(d:Int)) t)=>Lk.wR HGG.o.hi HGG.o.hE HGG.o.yk HP.o.v0 A hd av);have da:=aA (fun(a d:Nat) (hd:d<(G.rs[k]).r.length) hs (av:∀t:Nat,v.testBit t=true->Au.La G E a ((k:Int),(d:Int)) t)=>Lk.wQ HGG.o.yk HGG.o.ht HGG.o.hp HP.o.v0 HP.o.vl A hd hs av);have db:=aA (fun(M2:Lk.MP) (d:Nat) (hd:d<(G.rs[k]).r.length) (h:Lk.oZ G E M2 q v k d) (hs:(G.rs[k]).r[d]<0->Lk.Sub (Lk.sA G v ((G.rs[k]).r.drop (d+1))) (Lk.gN M2 ((Lk.sV E q ((G.rs[k]).r.take d):Nat),(G.rs[k]).r[d])))=>(show Lk.oZ G E M2 q v k (d+1) from h.step fun _ _ h0=>hs h0));have dc:=aA (fun(M2:Lk.MP) (a:Nat) (h1:Lk.o4 G E M2 D1 q s v k) (h2:Lk.oZ G E M2 q v k (G.rs[k]).r.length) (h3:Lk.sV E q (G.rs[k]).r=a)=>(show Lk.o4 G E M2 (Lk.qE D1 ((a:Int),(k:Int)) v) q s v (k+1) from(h1.mono (Lk.kF.refl _) (Lk.kF.or _ _ _)).step fun _ _=>⟨h2,fun de=>by have e:Lk.sV E q (G.rs[k]'de).r=a:=h3;rw[e];exact Lk.rh _ _ _⟩));have df:=aA (fun(M2:Lk.MP) (s2:List (Int×Int)) (a:Nat) (h:Lk.WP G K E q s v M2 D1 s2) (av:∀t:Nat,v.testBit t=true->Au.La G E a ((k:Int),((G.rs[k]).r.length:Int)) t)=>h.put A av);have bz:=aA (HP.o.wP A hl);have dg:=aA (fun(d:Nat) (hd:d<(G.rs[k]).r.length) (h0:(G.rs[k]).r[d]<0)=>Lk.GG HGG.o.yk HGG.o.ht cq.o hd h0 v);have cr:=aA (Gm.fT (HGG.o.yk.rr _ cq.o));have dh:Hid ((Lk.fO G)[k]?=some (Lk.fL G (G.rs[k]).r)):=aA ((AH (by rw[I.o];exact A)).trans (congrArg some (Lk.qh _ A)));have cs:=aA (Lk.nS G (G.rs[k]).r);have cu:=aA (fun d (h:d<(Lk.fL G (G.rs[k]).r).length)=>Lk.qi (G:=G) (r:=(G.rs[k]).r) h)
    have di:=aA (fun(M2 D2:Lk.MP) (s2:List (Int×Int)) (h1:Lk.WP G K E q s v M2 D2 s2) (h2:Lk.On MM DD st M2 D2 s2)=>(show s2.length<=900000 from by
     have a1:=h2.l;have a2:=HC.o;have a3:=h1.b.xc;have a4:=HGG.o.hK;have a5:=HGG.o.hn;have a6:=DT a4 a5
     omega))
    have bi:=aA (HA.o.below C.o);have bD:Hid (Below base w wi):=aA (HW.o.trans (C.o.mono (Ah J.o HW.o.size)));have cv:Hid (fE gc M D wb wi):=aA (au.o.trans (.below C.o HA.o.nD));have dR:Hid (gc<wr.heap.size/\M<wr.heap.size/\D<wr.heap.size):=aA ⟨HA.o.nD,HA.o.m.lt,HA.o.d.lt⟩
    have dj:Hid (∀j,cD wi gc=some j->j<wr.heap.size):=aA (fun j hj=>HA.o.own j (by
     unfold cD at hj ⊢
     rwa [C.o.cell (p:=⟨gc,0,none⟩) HA.o.nD]at hj))
    have dS:=aA bu;clear hc bv bu bh hl;generalize (G.rs[k]).l=lf at *;generalize (G.rs[k]).r=r at *
   rotate_left
   focus
    have bM:Hid (Lk.o4 G E M1 D1 q s v (k+1)):=aA (bs.o.step fun _ e=>absurd e hl);have hq:((G.rs[k]).l != -1-s)=true:=by rw[DW];exact hl
    have bi:=aA (HA.o.below C.o);have bD:Hid (Below base w wi):=aA (HW.o.trans (C.o.mono (Ah J.o HW.o.size)));have cv:Hid (fE gc M D wb wi):=aA (au.o.trans (.below C.o HA.o.nD));clear hc bv bu bh hl;generalize (G.rs[k]).l=lf at *;generalize (G.rs[k]).r.length=rn at *
   rotate_left
   all_goals
    generalize (G.rs[k]).p=rp at *;go_upto_region 5 with fail
    rw[<-bg];clear bg k0 k1 k2;go_quiet ((go_at_call 149;exact DF (HN.o _)))
    obtain⟨wq,bT⟩:∃y,y=wi.drewN nq:=⟨_,rfl⟩
    rw[<-bT];have aw:Hid (β wi wq):=aA (by rw[bT];exact aB (AB _ _) _);clear bT z0 z1;have cw:=aA (bi.o.below aw.o);have cx:Hid (Below base w wq):=aA (bD.o.trans (aw.o.mono (Ah J.o bD.o.size)));have N:Hid (fE gc M D wb wq):=aA (cv.o.trans (.below aw.o bi.o.nD))
   focus
    have dk:=aA (aC aw.o bx.o)
    have dT:Hid (∀j,cD wq gc=some j->j<wr.heap.size):=aA (fun j hj=>dj.o j (by
     unfold cD at hj ⊢
     rwa [aw.o.cell (p:=⟨gc,0,none⟩) bi.o.nD]at hj))
    have z1:=aU dk.o;have dl:=aA (N.o.row bf.o (by have:=f.o;omega) (by have:=f.o;omega) (by have:=f.o;omega) (fun e=>by have:=ar.o _ e;omega));have y0:=aQ dl.o;have dm:Hid (Lk.oZ G E M1 q v k 0):=aA (Lk.oZ.zero _ _ _ _);have dU:((r.length:Nat):Int)<=6:=by have:=cr.o.1;omega
    go_wp2;clear z1 y0;go_loopw [36,9] (fun vd va wy=>∃(d a:Nat) (M2:Lk.MP) (s2:List (Int×Int)),d<=r.length/\vd=.int .i64 d/\va=.int .i64 a/\Hid (yV G wy base R gc T M D AT AN (some ⟨g,o,none⟩) At cT cN cR ct tl M2 D1 s2)/\Hid (Lk.WP G K E q s v M2 D1 s2)/\Hid (Lk.o4 G E M2 D1 q s v k)/\Hid (Lk.oZ G E M2 q v k d)/\Hid (∀t:Nat,v.testBit t=true->Au.La G E a ((k:Int),(d:Int)) t)/\Hid (Lk.sV E q (r.take d)=a)/\Hid (Lk.On MM DD st M2 D1 s2)/\Hid (Below base w wy)/\Hid (fE gc M D wq wy)) (fun vd _ _=>r.length-(intOf vd).toNat)
    case atStart=>exact⟨0,q,M1,s1,Bb _,rfl,rfl,cw,HP,bs,dm,bz,aA rfl,HO,cx,aA (fE.refl _)⟩
    case round =>
     obtain⟨d,a,M2,s2,hd,rfl,rfl,H,O,af,ag,ab,bj,bk,U,ax⟩:=hrel;rename World=>wy;have bl:=aA ((fE.trans N.o ax.o).row aq.o (by have:=f.o;omega) (by have:=f.o;omega) (by have:=f.o;omega) (fun e=>by have:=ar.o _ e;omega));by_cases n:d<r.length
     ·have dn:=c9.o a d n ab.o;obtain⟨bm,bX,j,b0,ah,ai⟩:=dn;have cy:=aA (HGG.o.tw _ _ _ b0);have cz:=aA ai;have cA:Hid (Lk.sV E q (r.take (d+1))=j):=aA (by rw[AP n,Lk.mG,bj.o,ah]);have dV:=aA bm;have cC:=aA n;have ay:Gm.In (a:Int):=by have:=HGG.o.hK;unfold Gm.In;omega
      have b1:=cr.o.2.2.2 _ (AD n);have cE:Gm.In r[d]:=by have:=HGG.o.hn;have:=HGG.o.ht;unfold Gm.In;omega
      obtain⟨gq,oq,rfl,dp,b3⟩:=c7.o ω;have z0:=(U.o.cell (p:=⟨gq,oq+d,none⟩) (Aj dp HB.o)).trans (b3 d n);rw[L.fy n]at z0;have dW:((d:Nat):Int)<((r.length:Nat):Int):=ω
      have aj:=aA (fun(M3:Lk.MP) (h:Lk.oZ G E M3 q v k d)=>db.o M3 d n h);rw[bj.o]at aj;by_cases hz:r[d]<0
      ·have b4:decide (r[d]<0)=true:=AV hz;have dq:=da.o a d n bX ab.o;obtain⟨ak,cG,cI⟩:=dq;have az:=aA (O.o.Od bm hz b1.2.1 ak cG cI);have dr:=aA (O.o.b.lt ((a:Int),r[d]));have al:=aA (fun(M3:Lk.MP) (h:Lk.oZ G E M3 q v k d) hs=>aj.o M3 h (fun _=>hs));have cJ:=dg.o d n hz;have ds:=(cY.o.uw (fE.trans N.o ax.o) HH.o).rd;obtain⟨gt,ot,rfl,dt,cK⟩:=ds (by rw[I.o];omega);obtain⟨A2,c2,u0,b5,_,am⟩:=cK k (by rw[I.o];exact F.o)
       have a0:(Lk.fO G)[k]'(by rw[I.o];exact F.o)=Lk.fL G r:=by
        have:=dh.o
        rw[AH (by rw[I.o];exact F.o)]at this;injection this
       rw[a0]at u0 am;obtain⟨g3,o3,rfl,du,b6⟩:=am (by rw[cs.o];omega);have t0:=u0;have a9:d<(Lk.fL G r).length:=by rw[cs.o];exact n
       have t1:=b6 d a9 0 (.int .u32 ((Lk.kB G r d).1:Int)) (by rw[cu.o d a9];rfl);have t2:=b6 d a9 1 (.bool (Lk.kB G r d).2) (by rw[cu.o d a9];rfl);rw[CB]at t1;have dw:((k:Nat):Int)<(((Lk.fO G).length:Nat):Int):=by rw[I.o];have:=F.o;omega
       have dx:((d:Nat):Int)<(((Lk.fL G r).length:Nat):Int):=ω
       have b7:=aA (Lk.xP G r d);have b8:=aA (fun w=>QB (Lk.kB G r d) v b7.o HP.o.vl w);rw[cJ]at b8;have dy:=aA ak;have bn:Hid (Gm.In ((a:Int),r[d]).1/\Gm.In ((a:Int),r[d]).2):=aA ⟨ay,cE⟩;have x1:=qJ bl.o;clear b3 cK am b6 dt du cJ ak cG cI bX ai b0 ah bm b1 a0 u0 b5 a9;unfold Ji at b8;generalize (Lk.kB G r d).1=tb at *;generalize (Lk.kB G r d).2=tn at *;generalize Lk.sA G v (r.drop (d+1))=more at *;generalize r[d]=z at *;go_wp2_with fail
       refine(Ih _ _).mono ?_;rintro _ w5 ⟨rfl,b9⟩;subst b9;rw[b4];go_wp2_with fail
       refine(b8.o _).mono ?_;rintro _ w6 ⟨rfl,bo⟩;have dz:=aA (H.o.below bo);have dA:Hid (Below base w w6):=aA (U.o.trans (bo.mono (Ah J.o U.o.size)));have dB:Hid (fE gc M D wq w6):=aA (ax.o.trans (.below bo H.o.nD));have dC:=aA (K4 w6 base R gc T M D _ _ _ _ _ tl M2 D1 s2 ((a:Int),z) more dz.o bn.o dy.o dr.o (di.o _ _ _ O.o bk.o));clear bo t0 t1 t2 x1 dw dx;go_wp2_with fail
       refine dC.o.mono ?_;rintro _ w7 ⟨rfl,cL,cM,cO⟩;have cP:=aA cL;have dD:Hid (Below base w w7):=aA (dA.o.trans cM);have bp:Hid (fE gc M D wq w7):=aA (dB.o.trans cO);have dE:=aA az.o.1;have ca:=aA (bk.o.trans az.o.2.1);have cb:=aA (al.o _ (ag.o.mono az.o.2.1.m) az.o.2.2);have cd:=aA (af.o.mono az.o.2.1.m (Lk.kF.refl _));have ce:=aA ((fE.trans N.o bp.o).row aq.o (by have:=f.o;omega) (by have:=f.o;omega) (by have:=f.o;omega) (fun e=>by have:=ar.o _ e;omega));have x5:=vU ce.o;have lk:=NQ cP.o.t ((a:Int),z) bn.o cy.o;clear cL cM cO;go_wp2;go_roundw
       case rel=>exact⟨d+1,j,_,_,cC.o,ν,rfl,cP,dE,cd,cb,cz,cA,ca,dD,bp⟩
       case measure=>simp[intOf];omega
      ·have b4:decide (r[d]<0)=false:=AU hz;have al:=aA (aj.o M2 ag.o (fun h=>absurd h hz));have bn:Hid (Gm.In ((a:Int),r[d]).1/\Gm.In ((a:Int),r[d]).2):=aA ⟨ay,cE⟩;have x5:=vU bl.o;have lk:=NQ H.o.t ((a:Int),r[d]) bn.o cy.o;clear b3 bX ai b0 ah bm b1;generalize r[d]=z at *;go_wp2_with fail
       refine(Ih _ _).mono ?_;rintro _ w5 ⟨rfl,b9⟩;subst b9;rw[b4];go_wp2;go_roundw
       case rel=>exact⟨d+1,j,_,_,cC.o,ν,rfl,H,O,af,al,cz,cA,bk,U,ax⟩
       case measure=>simp[intOf];omega
     ·obtain rfl:d=r.length:=ω
      rw[Bp]at bj;have bM:=aA (dc.o M2 a af.o ag.o bj.o);have dF:=aA (df.o M2 s2 a O.o ab.o);have cQ:Gm.In (k:Int):=by have:=F.o;unfold Gm.In;omega
      have ay:Gm.In (a:Int):=by
       obtain⟨t,ht⟩:=CP HP.o.v0
       have:=(Au.sn HGG.o.hi (ab.o t ht)).1
       have:=HGG.o.hK
       unfold Gm.In;omega
      have cf:Hid (Gm.In ((a:Int),(k:Int)).1/\Gm.In ((a:Int),(k:Int)).2):=aA ⟨ay,cQ⟩;have hD:=O.o.b.Ks ((a:Int),(k:Int));have dX:=Fdq (Lk.gN D1 ((a:Int),(k:Int))) v hD HP.o.vl;have cS:Hid (Mw.hX (Lk.gY D1) ((a:Int),(k:Int)) (.int .u32 ((Lk.gN D1 ((a:Int),(k:Int)) ||| v:Nat):Int))=Lk.gY (Lk.qE D1 ((a:Int),(k:Int)) v)):=aA Lk.oj;have cg:Hid (∀y:World,y.heap[w.heap.size]?=wy.heap[w.heap.size]?->∃z:iR [w.heap.size] wy,y=z.1):=aA (fun y e1=>⟨⟨y,fun g hg=>by rw[AW.1 hg];exact e1⟩,rfl⟩);have ch:D≠w.heap.size:=by have:=f.o;omega
      have bq:Hid (yV G wy.drew base R gc T M D AT AN (some ⟨g,o,none⟩) At cT cN cR ct tl M2 D1 s2):=aA (H.o.below (aB (AB _ _) 1));have lkd:=UH bq.o.d.is ((a:Int),(k:Int)) cf.o;obtain⟨u,cc,w6,aa,ba,bb,ci⟩:=Mw.sI bq.o.d Hg underlying123 (z:=.int .u32 0) κ (x:=((a:Int),(k:Int))) cf.o
      have lk6:(Instr.lookup 123 (.map (some D)) (.agg #[.int .i64 (a:Int),.int .i64 (k:Int)]) false).run prog w6=.ok (.int .u32 (Lk.gN D1 ((a:Int),(k:Int)):Int)) w6:=by
       have:=Mw.gP (E:=qS) bb Hg (t:=123) underlying123 (z:=.int .u32 0) κ (x:=((a:Int),(k:Int))) cf.o false
       rw[Lk.pE]at this;exact this
      obtain⟨w7,ad,cj,cU⟩:=ba.2 w6 rfl (.int .u32 ((Lk.gN D1 ((a:Int),(k:Int)) ||| v:Nat):Int));have bc:qS.enc ((a:Int),(k:Int))=.agg #[.int .i64 (a:Int),.int .i64 (k:Int)]:=rfl;rw[bc]at aa;rw[cS.o]at cj;have ac:=aA (qI ci cU);have H7:=aA (bq.o.IX ac.o cj);have ao:=(Ad.1 bl.o).1;have r6:=ci.block w.heap.size (show w.heap.size<wy.drew.heap.size from ao) (fun e=>by injection e with e;exact ch e.symm);have r7:=ac.o.block w.heap.size (show w.heap.size<wy.drew.heap.size from ao) (fun e=>by injection e with e;exact ch e.symm);have ck:=aA (cg.o wy.drew rfl);have V:=aA (cg.o w6 r6);have cV:=aA (cg.o w7 r7);have ae:=aA aa;have bd:=aA ad;have cl:=aA lk6;have cm:=aA lkd;have dG:Hid (Below base w w7):=aA (aM (U.o.trans (aB (AB _ _) 1)) ac.o H7.o.hD (Ah J.o U.o.size));have bp:Hid (fE gc M D wb w7):=aA (((fE.trans N.o ax.o).trans (.below (aB (AB _ _) 1) H.o.nD)).trans (.I5 ac.o bq.o.nD H.o.Gc.2.1));have ca:=aA (bk.o.trans (Lk.zy (st:=s2) ((a:Int),(k:Int)) v));clear aa ad ba bb ci cj cU r6 r7 lk6 lkd bc cS ay cQ hD ch ao;generalize Lk.gN D1 ((a:Int),(k:Int))=dv at *;generalize cW:wy.drew=wd at *;go_upto_region 14 with fail
      have qD:∀y:iR [w.heap.size] wy,y.1.cell? ⟨w.heap.size,7,none⟩=some (.map (some D)):=fun y=>y.row σ bl.o rfl;have S0:∃y:iR [w.heap.size] wy,wy.drew=y.1:=by rw[cW];exact ck.o
      refine CalmN.fk (fun x=>∃y:iR [w.heap.size] wy,x=y.1) (.two [0,1,2,3,4,6] 5 (.one [7] 8 (.one [9] 10 (.fin []))) 8 (.one [9] 5 (.one [7] 10 (.fin [])))) S0 ?_;rw[CalmN.fS];simp only[CalmN.fo,Aq,Ai,Am];repeat (go_big_quiet_step (fail))
      rw[cW];clear S0;refine Ap ⟨?_,?_⟩
      case' refine_1 =>
       simp only[CalmN.fS,CalmN.fu,CalmN.fo,Aq,Ai,Am];intro KK i;rw[Az ε];have lkd:=cm.o;go_wp2_with fail
       refine i _ _ ck.o _ ι ck.o ?_;clear i lkd;repeat (go_big_quiet_step (fail))
       refine Ap ?_;intro KK i;rw[Az ε];refine GM _ _ _ rfl ae.o rfl rfl ?_;refine i _ _ V.o _ ι V.o ?_;clear i
       go_frame
       repeat (go_big_quiet_step (fail))
       refine Ap ?_
      case' refine_2 =>
       simp only[CalmN.fS,CalmN.fu,CalmN.fo,Aq,Ai,Am];intro KK i;rw[Az ε];refine GM _ _ _ rfl ae.o rfl rfl ?_;refine i _ _ V.o _ ι V.o ?_;clear i
       go_frame
       repeat (go_big_quiet_step (fail))
       refine Ap ?_;intro KK i;rw[Az ε];have lk6:=cl.o;go_wp2_with fail
       refine i _ _ V.o _ ι V.o ?_;clear i lk6;repeat (go_big_quiet_step (fail))
       refine Ap ?_
      all_goals
       intro KK i;rw[Az ε];refine Jr _ _ _ _ rfl bd.o rfl rfl rfl ?_;refine i _ _ cV.o _ ι cV.o ?_;clear i qD
       go_frame
       refine Ap ?_;go_wp2;go_roundw
       case rel=>exact⟨k+1,M2,_,s2,F.o,ν,H7,dF,bM,ca,dG,bp⟩
       case measure=>simp[intOf];omega
   focus
    go_wp2;go_roundw
    case rel=>exact⟨k+1,M1,D1,s1,F.o,ν,cw,HP,bM,HO,cx,N⟩
    case measure=>simp[intOf];omega
  ·obtain rfl:k=G.rs.length:=ω
   go_wp2;go_end0
   exact⟨rfl,M1,D1,s1,HA.o,HP.o.done bs.o,HO.o,HW.o,fE.trans cZ.o au.o⟩
def IP (w:World) (M:Nat):Nat:=match w.heap[M]? with
 | some (.map es _)=>(es.toList.map fun e=>match e.val with | .int _ n=>Lk.pc n.toNat|_=>0).sum
 | _=>0
def Hb (w:World) (gc:Nat):Nat:=match w.cell? ⟨gc,0,none⟩ with
 | some (.slice _ n _)=>n
 | _=>0
theorem Nc {MM:Lk.MP} (h:Mw.fw qG w M (Lk.gY MM)):IP w M=Lk.jh MM:=by
 obtain⟨es,ck,hb,he,_⟩:=h;unfold IP;rw[hb];simp only;have e1:(es.toList.map fun e=>match e.val with | .int _ n=>Lk.pc n.toNat|_=>0)=(es.toList.map fun e=>(e.key,e.val)).map (fun p=>match p.2 with | .int _ n=>Lk.pc n.toNat|_=>0):=by rw[Ee];rfl
 rw[e1,he];unfold Lk.gY Lk.jh;rw[Ee,Ee]
 congr 1
theorem MQ {gc c:Nat} (h:w.cell? ⟨gc,0,none⟩=some (.slice A n c)):Hb w gc=n:=by unfold Hb;rw[h]
theorem Lk.vI (x:Int×Int) {P:Nat} (hP:P≠0):vM [] x P=[(x,P)]/\vS [] [] x P=[x]:=by
 have h:Lk.gN ([]:Lk.MP) x=0:=rfl;unfold vM vS;rw[h,Nat.zero_or,AJ hP,AJ hP];unfold Lk.qE;rw[h,Nat.zero_or];exact⟨rfl,rfl⟩
theorem Qg (G:Gm.Gr) (K:List (List Au.It)) (E:List (List (Int×Int))) (w:World) (base B T M D:Nat) (AT AN AR At:Option Addr) (cT cN cR ct:Nat) (tl:List ((Int×Int)×Value)) (hG:IV G K E tl) (h0:0<K.length) (hg:aT w B (.agg #[.slice AT G.ts.length cT,.slice AN G.ns.length cN,.slice AR G.rs.length cR,.int .i64 G.st]) G) (hB:B<=base) (bb:cF w At G) (hb:base<=w.heap.size) (hT:Mw.fw qG w T tl) (hM:Mw.jJ qG w M (Lk.gY [])) (hD:Mw.jJ qS w D (Lk.gY [])) (bT:base<=T) (bM:base<=M) (bD:base<=D) (bc:T≠M/\T≠D/\M≠D) :
  Calls prog 98 #[.agg (qH (.slice AT G.ts.length cT) (.slice AN G.ns.length cN) (.slice AR G.rs.length cR) (.int .i64 G.st) (.slice At (Lk.fO G).length ct) T M D)] w fun e w'=>e=.returned (.tuple #[]) /\
   ∃MM' DD',Mw.jJ qS w' D (Lk.gY DD')/\Lk.WI G K E MM' DD' []/\Below base w w'/\∀g,g<w.heap.size->g≠M->g≠D->w'.heap[g]?=w.heap[g]?:=by
 obtain⟨wb,C⟩:=χ (w.alloc (.cells (qH (.slice AT G.ts.length cT) (.slice AN G.ns.length cN) (.slice AR G.rs.length cR) (.int .i64 G.st) (.slice At (Lk.fO G).length ct) T M D) 174))
 have bd:Hid (β w wb):=aA (by rw[C];exact(AB _ _).alloc (Af _) _);have aj:wb.heap[w.heap.size]?=some (.cells (qH (.slice AT G.ts.length cT) (.slice AN G.ns.length cN) (.slice AR G.rs.length cR) (.int .i64 G.st) (.slice At (Lk.fO G).length ct) T M D) 174 (0,0)):=by rw[C];exact AI w _
 have cs:=aA aj;have bf:wb.heap.size=w.heap.size+1:=by rw[C];simp
 obtain⟨wc,ad⟩:=χ (wb.alloc (.cells #[.slice none 0 0] 227))
 have bg:Hid (β wb wc):=aA (by rw[ad];exact(AB _ _).alloc (Af _) _);have ak:wc.heap[wb.heap.size]?=some (.cells #[.slice none 0 0] 227 (0,0)):=by rw[ad];exact AI wb _
 have k:Hid (β w wc):=aA (bd.o.trans (bg.o.mono bd.o.size));have ae:=aA (aC bg.o aj);have al:=aA hb;have HB:=aA hB;have aa:Hid (0<=G.st/\G.st<G.ns.length/\G.ns.length<=40):=aA ⟨hG.yk.s0,hG.yk.s1,hG.hn⟩;have b3:Hid (S.bit (G.ts.length:Int)=2 ^ G.ts.length):=aA (S.oh (by have:=hG.ht;omega));have bh:Hid ((2:Nat) ^ G.ts.length<4294967296):=aA (by have:=Co (n:=2) δ hG.ht;omega);have bi:Hid ((2:Nat) ^ G.ts.length≠0):=aA (by have:0<2 ^ G.ts.length:=Nat.pow_pos δ;omega)
 have am:Hid (yV G wc base w.heap.size wb.heap.size T M D AT AN AR At cT cN cR ct tl [] [] []):=aA
  ⟨ae.o,⟨_,ak,aK.nil _ _⟩,hT.block (k.o.block _ hT.lt),hM.block (k.o.block _ hM.lt),hD.block (k.o.block _ hD.lt),hb,ω,bT,bM,bD,bc⟩
 have bj:Hid (cD wc wb.heap.size=none):=aA (Fz (show wc.cell? ⟨wb.heap.size,0,none⟩=some (.slice none 0 0) from AF wc wb.heap.size 0 _ _ _ ak));have ao:=aA (Lk.WI.start (E:=E) h0 hG.yk hG.ht);have b4:=aA (Lk.zA bh.o bi.o ((0:Int),-1-G.st));have bk:Hid (K.length<=300/\G.ns.length<=40):=aA ⟨hG.hK,hG.hn⟩;have HN:=aA (fun w=>Mg G.st (by have:=aa.o;omega) (by have:=aa.o;omega) w);have b5:Hid (w.heap.size≠wb.heap.size/\w.heap.size≠M/\w.heap.size≠D):=aA ⟨ω,by have:=hM.lt;omega,by have:=hD.lt;omega⟩;have b6:=aA hG;have b7:=aA (bb.below k.o);have b8:=aA hg;have cu:∀(fn:Fn) (first cap:Array Value) (w:World),(Instr.makeFunc fn first cap).run prog w=.ok (.func fn first cap) w:=fun _ _ _ _=>rfl;clear hG h0 hg hB bb hT hM hD bT bM bD bc aj ak hb
 go_enter func98,ntmps98
 go_upto_region 1 with fail
 rw[<-C];clear C;go_upto_region 2 with fail
 rw[<-ad];clear ad;obtain⟨gc,ap⟩:∃g,g=w.heap.size+1:=⟨_,rfl⟩
 rw[bf,<-ap]at am b5 bj;have aq:Hid (w.heap.size<gc):=aA ω;rw[<-ap];clear ap bf;go_upto_region 3 with fail
 have b9:Hid (Gm.In ((0:Int),-1-G.st).1/\Gm.In ((0:Int),-1-G.st).2):=aA ⟨by unfold Gm.In;simp only;omega,by have:=aa.o;unfold Gm.In;simp only;omega⟩;have bl:=aA (Lk.vI ((0:Int),-1-G.st) bi.o);have bm:=aA (fun(y:World) (h:yV G y base w.heap.size gc T M D AT AN AR At cT cN cR ct tl [] [] [])=>K4 y base w.heap.size gc T M D _ _ _ _ _ tl [] [] [] ((0:Int),-1-G.st) (2 ^ G.ts.length) h b9.o bh.o (show(0:Nat)<4294967296 by decide) σ);rw[bl.o.1,bl.o.2]at bm;generalize hP:(2:Nat) ^ G.ts.length=P at *;have q0:∀y:iR [w.heap.size] wc,y.1.cell? ⟨w.heap.size,0,none⟩=some (.slice AT G.ts.length cT):=fun y=>y.row σ ae.o rfl;have q3:∀y:iR [w.heap.size] wc,y.1.cell? ⟨w.heap.size,3,none⟩=some (.int .i64 G.st):=fun y=>y.row σ ae.o rfl;have bn:Hid (∀y:World,y.heap[w.heap.size]?=wc.heap[w.heap.size]?->∃z:iR [w.heap.size] wc,y=z.1):=aA (fun y e1=>⟨⟨y,fun g hg=>by rw[AW.1 hg];exact e1⟩,rfl⟩);have u:=aA (bn.o wc.drew rfl);have ar:Hid (Below base w wc.drew):=aA ((k.o.mono al.o).trans (aB ((AB _ _).mono (Ah al.o k.o.size)) 1));have au:Hid (fE gc M D wc wc.drew):=aA (.below (aB (AB _ _) 1) am.o.nD);have av:Hid (cF wc.drew At G):=aA (b7.o.below (aB (AB _ _) 1));have af:Hid (yV G wc.drew base w.heap.size gc T M D AT AN AR At cT cN cR ct tl [] [] []):=aA (am.o.below (aB (AB _ _) 1));refine CalmN.fk (fun x=>∃y:iR [w.heap.size] wc,x=y.1) (.one [0,1,2,3,6,7,8,9] 4 (.one [5] 10 (.one [] 11 (.fin [])))) u.o ?_;simp only[CalmN.fS,CalmN.fu,CalmN.fo,Aq,Ai,Am];repeat (go_big_quiet_step (fail))
 refine Ap ?_;intro KK p;rw[Az ε];go_wp2_with fail
 refine(HN.o _).mono ?_;rintro _ wd ⟨rfl,bo⟩;rw[<-bo]at u af ar av au;clear bo;go_wp2_with fail
 refine p _ _ u.o _ ι u.o ?_;clear p;repeat (go_big_quiet_step (fail))
 refine Ap ?_;intro KK p;rw[Az ε];go_wp2_with fail
 refine(Jx _ _).mono ?_;rintro _ we ⟨rfl,bp⟩;rw[<-bp]at u af ar av au;rw[b3.o];clear bp;go_wp2_with fail
 refine p _ _ u.o _ ι u.o ?_;clear p q0 q3;refine Ap ?_;intro KK p;rw[Az ε];go_wp2_with fail
 refine(bm.o _ af.o).mono ?_;rintro _ wf ⟨rfl,ha,hb,hk⟩;have ca:=aA (av.o.uw hk af.o);have cb:=aA (au.o.trans hk);have cc:=aA ha;have cd:Hid (Below base w wf):=aA (ar.o.trans hb);have bq:=aA (bn.o wf (ha.r.trans ae.o.symm));clear ha hb hk;go_wp2_with fail
 refine p _ _ bq.o _ ι bq.o ?_;clear p;refine Ap ?_;go_wp2;go_loopw [] (fun wr=>∃(M1 D1:Lk.MP) (s1:List (Int×Int)),Hid (yV G wr base w.heap.size gc T M D AT AN AR At cT cN cR ct tl M1 D1 s1)/\Hid (Lk.WI G K E M1 D1 s1)/\Hid (s1.length<=Lk.jh M1)/\Hid (cF wr At G)/\Hid (fE gc M D wc wr)/\Hid (Below base w wr)) (fun wr=>2*(K.length*G.ns.length*32-IP wr M)+Hb wr gc)
 case atStart=>exact⟨_,_,_,cc,ao,b4,ca,cb,cd⟩
 case round =>
  obtain⟨M1,D1,s1,HA,HI,HC,HT,br,HW⟩:=hrel;obtain⟨v,F,t⟩:=HA.o.v;rcases List.eq_nil_or_concat s1 with rfl|⟨s,x,rfl⟩
  ·obtain⟨A,c,rfl,aw,ax,_⟩:=aK.form t aG;have c0:=aQ F;have hn:¬(0:Int)<(([]:List (Int×Int)).length:Int):=σ
   clear F t aw ax;generalize ([]:List (Int×Int)).length=n at *;go_wp2;go_end0
   exact⟨rfl,M1,D1,HA.o.d,HI.o,HW.o,fun g h1 h2 h3=>(br.o.fp g (Aj h1 k.o.size) (by have:=aq.o;omega) h2 h3 (by rw[bj.o];simp)).trans (k.o.block g h1)⟩
  ·rw[List.concat_eq_append]at t HA HI HC;obtain⟨q,bs,ay⟩:=HI.o.take;have az:=HI.o.xO;obtain⟨x1,x2⟩:=x;simp only[Prod.mk.injEq,and_true]at bs;subst bs;simp only at ay az;have ce:=aA ay;have cf:=aA az;obtain⟨gB,c,rfl,aw,ax,cg⟩:=aK.addr t σ;have c0:=aQ F;have ag:s.length<(s++[((q:Int),x2)]).length:=σ
   have a0:(s++[((q:Int),x2)])[s.length]=((q:Int),x2):=σ
   have e0:wr.cell? ⟨gB,s.length*2,none⟩=some (.int .i64 (q:Int)):=aK.cellAt t aG s.length 0 ag _ (by rw[a0];rfl);have e1:wr.cell? ⟨gB,s.length*2+1,none⟩=some (.int .i64 x2):=aK.cellAt t aG s.length 1 ag _ (by rw[a0];rfl);obtain⟨wx,ah⟩:=χ (wr.alloc (.cells #[.int .i64 (q:Int),.int .i64 x2] 176))
   have i:Hid (β wr wx):=aA (by rw[ah];exact(AB _ _).alloc (Af _) _);have ch:Hid (wx.heap[wr.heap.size]?=some (.cells #[.int .i64 (q:Int),.int .i64 x2] 176 (0,0))):=aA (by rw[ah];exact AI wr _);have ci:=aA (HA.o.below i.o);have f:=aC i.o F;have bu:=aA (t.below i.o (Af _));have a1:=bu.o.take aG s.length (Cx ag);rw[List.take_left]at a1;have j:=aA (ci.o.push f bu.o a1 (AO _ _));have cx0:=aQ f;have fx0:=AM wx gc 0 _ _ f;have lx0:=(Ad.1 f).1;have bv:gc≠wr.heap.size:=by have:=HA.o.nD;omega
   have a2:Hid ((wx.setCell ⟨gc,0,none⟩ (.slice (some ⟨gB,0,none⟩) s.length c)).heap[wr.heap.size]?=some (.cells #[.int .i64 (q:Int),.int .i64 x2] 176 (0,0))):=aA ((AQ _ _ _ _ (fun e=>bv e.symm)).trans ch.o);have a3:Hid (Below base w (wx.setCell ⟨gc,0,none⟩ (.slice (some ⟨gB,0,none⟩) s.length c))):=aA ((HW.o.trans (i.o.mono (Ah al.o HW.o.size))).setCell HA.o.hg _)
   have a4:Hid (cF (wx.setCell ⟨gc,0,none⟩ (.slice (some ⟨gB,0,none⟩) s.length c)) At G):=aA ((HT.o.below i.o).fp σ fun g cur ty cj hc=>(AQ wx ⟨gc,0,none⟩ _ g (fun e=>by
    have e:g=gc:=e;rw[e,f]at hc;injection hc with hc;injection hc with _ hc _;rcases cj with rfl|rfl
    ·exact absurd hc δ
    ·exact absurd hc δ)).trans hc)
   have bw:Hid (fE gc M D wc (wx.setCell ⟨gc,0,none⟩ (.slice (some ⟨gB,0,none⟩) s.length c))):=aA ((br.o.trans (.below i.o HA.o.nD)).push cx0 (AO _ _) (.inl rfl) f);have SL:=fun w=>Jm (m:=2) w 227 underlying227 (fun _=>by kernel_rfl) (some ⟨gB,0,none⟩) c (s++[((q:Int),x2)]).length s.length ω;have a5:Hid (s.length<=Lk.jh M1):=aA (by have:=HC.o;omega);have ck:Hid (Hb wr gc=s.length+1):=aA (by rw[MQ c0];simp);have cl:=aA (Nc HA.o.m.is)
   have ab:IntKind.i64.wrap (((s++[((q:Int),x2)]).length:Int)-1)=(s.length:Int):=by
    have:(s++[((q:Int),x2)]).length=s.length+1:=σ
    have h9:=a5.o;have cv:=HI.o.b.xc;have cw:=DT bk.o.1 bk.o.2;rw[this,BV _ ω];omega
   have a6:(0:Int)<(((s++[((q:Int),x2)]).length:Nat):Int):=ω
   have ac:((s.length:Nat):Int)<(((s++[((q:Int),x2)]).length:Nat):Int):=ω
   clear F t aw ax cg ag a0 ay az f a1 bv;generalize (s++[((q:Int),x2)]).length=ln at *;obtain⟨n,hn⟩:∃n,s.length=n:=⟨_,rfl⟩
   rw[hn]at e0 e1 SL ab ac j a2 a3 a4 bw;have cx:=aA hn;clear hn;go_upto_region 7 with fail
   rw[<-ah];clear ah c0 e0 e1 a6 ab ac;go_upto_region 8 with fail
   generalize wx.setCell ⟨gc,0,none⟩ (.slice (some ⟨gB,0,none⟩) n c)=wy at *;clear cx0 fx0 lx0 SL;have cm:=aA (Qf G K E wy base B w.heap.size gc T M D AT AN AR At cT cN cR ct tl M1 D1 s q x2 b6.o (b8.o.below a3.o HB.o) HB.o a4.o j.o ce.o cf.o a5.o);have k0:=aQ j.o.r;have k1:=aU j.o.r;have k2:=bB j.o.r;have k3:=bL j.o.r;have k4:=qJ j.o.r;have k5:=vU j.o.r;have k6:=yQ j.o.r;have k7:=Km j.o.r;have z0:=aQ a2.o;have z1:=aU a2.o;go_wp2_with fail
   refine cm.o.mono ?_;rintro _ w8 ⟨rfl,MM',DD',st',ai,bx,a9,bz,ba⟩;have cn:=aA (a4.o.uw ba j.o);have co:=aA (bw.o.trans ba);have cp:=aA ai;have bX:=aA bx;have cq:Hid (Below base w w8):=aA (a3.o.trans bz);have cr:Hid (st'.length<=Lk.jh MM'):=aA (by have:=a9.l;have:=a5.o;omega);have b0:=aA a9
   have b1:Hid (Hb w8 gc=st'.length/\IP w8 M=Lk.jh MM'):=aA ⟨by
    obtain⟨v8,h1,h2⟩:=ai.v;obtain⟨A8,c8,rfl,_,_,_⟩:=aK.form h2 aG;exact MQ (AF w8 gc 0 _ _ _ h1),Nc ai.m.is⟩
   clear ai bx a9 bz ba k0 k1 k2 k3 k4 k5 k6 k7 z0 z1;go_wp2;go_roundw
   case rel=>exact⟨MM',DD',st',cp,bX,cr,cn,co,cq⟩
   case measure =>
    rw[b1.o.1,b1.o.2,ck.o,cl.o];have h1:=b0.o.l;have h2:=b0.o.c;have h3:=bX.o.b.xc;omega
structure jM (G:Gm.Gr) (w:World) (base D:Nat) (l:List Au.It):Prop where
 m:∃ml,Mw.fw tJ w D ml/\(∀s,(Mw.fH ml s=none/\Au.mv G l s=[]) \/ ∃v,Mw.fH ml s=some v/\Au.mv G l s≠[]/\aK 61 2 fM w base v (Au.mv G l s)) /\
  ∀s s' v v',s≠s'->Mw.fH ml s=some v->Mw.fH ml s'=some v'->v'.ownBlock≠v.ownBlock
theorem L5 {T:TypeId} {α:Type} {f:α->List Value} {xs:List α} (h:aK T m f w base v xs) (h0:xs≠[]):∃g,v.ownBlock=some g/\base<=g/\g<w.heap.size:=by
 rcases h.2 with⟨_,h1⟩|⟨g,cap,cur,rfl,hb,hg,_⟩
 ·exact absurd (BI h1) h0
 ·exact⟨g,rfl,hb,(Ad.1 hg).1⟩
section
variable {G:Gm.Gr} {w w' w2:World} {base D:Nat} {l:List Au.It}
theorem jM.start (G:Gm.Gr) (w:World) (base:Nat) (h:Mw.fw tJ w D []):jM G w base D []:=⟨[],h,fun s=>.inl ⟨rfl,rfl⟩,fun _ _ _ _ _ h=>by cases h⟩
theorem jM.fp (h:jM G w base D l) (hD:w'.heap[D]?=w.heap[D]?) (hk:∀g cur,base<=g->w.heap[g]?=some (.cells cur 61 (0,0))->w'.heap[g]?=some (.cells cur 61 (0,0))):jM G w' base D l:=by
 obtain⟨ml,h1,h2,h3⟩:=h;refine⟨ml,h1.block hD,fun s=>?_,h3⟩;rcases h2 s with q|⟨v,q1,q2,q3⟩
 ·exact .inl q
 ·refine .inr ⟨v,q1,q2,?_⟩;refine⟨q3.1,?_⟩;rcases q3.2 with h0|⟨g,cap,cur,e,aa,hg,hr⟩
  ·exact .inl h0
  ·exact .inr ⟨g,cap,cur,e,aa,hk g cur aa hg,hr⟩
theorem jM.below (h:jM G w base D l) (hb:β w w'):jM G w' base D l:=h.fp (by obtain⟨ml,h1,_⟩:=h.m;exact hb.block _ h1.lt) fun g _ _ hg=>(hb.block g (Ad.1 hg).1).trans hg
theorem jM.skip (h:jM G w base D l) {x:Au.It} (hx:Au.nx G x=none):jM G w base D (l++[x]):=by
 obtain⟨ml,h1,h2,h3⟩:=h;refine⟨ml,h1,fun s=>?_,h3⟩;have e:Au.mv G (l++[x]) s=Au.mv G l s:=by rw[Au.q8,Au.nG (by rw[hx];simp),CG]
 rw[e];exact h2 s
theorem jM.put {ml:List (Int×Value)} {x:Au.It} (hx:Au.nx G x=some s) (h2:∀s,(Mw.fH ml s=none/\Au.mv G l s=[]) \/ ∃v,Mw.fH ml s=some v/\Au.mv G l s≠[]/\aK 61 2 fM w base v (Au.mv G l s)) (h3:∀s s' v v',s≠s'->Mw.fH ml s=some v->Mw.fH ml s'=some v'->v'.ownBlock≠v.ownBlock) (hv:v=(Mw.fH ml s).getD (.slice none 0 0)) (ho:aK 61 2 fM w' base v' (Au.mv G l s++[(x.1,x.2+1)])) (hg:w.grownBy w' v.ownBlock) (hat:v'.ownBlock=v.ownBlock \/ ∃j,w.heap.size<=j/\v'.ownBlock=some j) (hm:Mw.fw tJ w2 D (Mw.hX ml s v')) (aa:w'.grownBy w2 (some D)) (hD:∃es ck,w'.heap[D]?=some (.map es ck)):jM G w2 base D (l++[x]):=by
 obtain⟨es,ck,ab⟩:=hD;refine⟨_,hm,fun s'=>?_,fun s1 s2 v1 v2 ac e1 e2=>?_⟩
 ·rw[Mw.j6];by_cases e:s=s'
  ·subst e;rw[Az rfl];have e1:Au.mv G (l++[x]) s=Au.mv G l s++[(x.1,x.2+1)]:=by rw[Au.q8,Au.zh hx]
   rw[e1];exact .inr ⟨v',rfl,σ,Bf ho aa (qn ho ab fun cur e=>by cases e)⟩
  ·rw[AJ e];have e1:Au.mv G (l++[x]) s'=Au.mv G l s':=by rw[Au.q8,Au.nG (by rw[hx];simp;exact e),CG]
   rw[e1];rcases h2 s' with q|⟨u,q1,q2,q3⟩
   ·exact .inl q
   ·have k1:aK 61 2 fM w' base u (Au.mv G l s'):=Bf q3 hg (by
     rcases h2 s with q|⟨u',p1,p2,p3⟩
     ·rw[hv,q.1];obtain⟨g,hg,_⟩:=L5 q3 q2;exact .inr (by rw[hg];intro q;cases q)
     ·rw[hv,p1];exact .inr (h3 s s' u' u e p1 q1))
    exact .inr ⟨u,q1,q2,Bf k1 aa (qn k1 ab fun cur e=>by cases e)⟩
 ·rw[Mw.j6]at e1 e2
  have key:∀s2 u,s≠s2->Mw.fH ml s2=some u->u.ownBlock≠v'.ownBlock:=fun s2 u hs eu q=>by
   rcases h2 s2 with k|⟨u',p1,p2,p3⟩
   ·rw[k.1]at eu;cases eu
   ·rw[p1]at eu;injection eu with eu;subst eu;obtain⟨g,ad,_,ae⟩:=L5 p3 p2;rcases hat with hat|hat
    ·rw[hat]at q;rcases h2 s with k|⟨u2,r1,r2,r3⟩
     ·rw[hv,k.1,ad]at q;cases q
     ·rw[hv,r1]at q;exact h3 s s2 u2 u' hs r1 p1 q
    ·obtain⟨j,hj,hat⟩:=hat;rw[hat,ad]at q;injection q with q;omega
  by_cases a1:s=s1
  ·rw[Az a1]at e1;injection e1 with e1;subst e1;by_cases a2:s=s2
   ·exact absurd (a1.symm.trans a2) ac
   ·rw[AJ a2]at e2;exact key s2 v2 a2 e2
  ·rw[AJ a1]at e1;by_cases a2:s=s2
   ·rw[Az a2]at e2;injection e2 with e2;subst e2;exact fun q=>key s1 v1 a1 e1 q.symm
   ·rw[AJ a2]at e2;exact h3 s1 s2 v1 v2 ac e1 e2
end
theorem Sj {a:World} {T:TypeId} (h:a.grownBy w (some D)) (ho:w.ownsRow base T m v n xs) (hg:w.grownBy w' v.ownBlock) (hb:a.heap.size<=base):a.grownBy w' (some D) :=
 ⟨hg.os.trans h.os,hg.tape.trans h.tape,hg.output.trans h.output,Ah h.size hg.size,fun i hi aa=>(hg.block i (Aj hi h.size) (fun e=>by have:=(Br ho i e.symm).1;omega)).trans (h.block i hi aa)⟩
theorem Rh (v:Value) (G:Gm.Gr) (B:Nat) (w:World) (hg:aT w B v G) (ht:G.ts.length<=1000) (hn:G.ns.length<=1000) :
  Calls prog 96 #[v] w fun e w'=>∃v',e=.returned v'/\aV w' w.heap.size v' (Au.syms G)/\β w w':=by
 obtain⟨AT,cT,AN,cN,AR,cR,rfl,⟨ao,ap⟩,⟨aq,ar⟩,_⟩:=hg;have ae:=aA (aZ.start 26 w #[.slice AT G.ts.length cT,.slice AN G.ns.length cN,.slice AR G.rs.length cR,.int .i64 G.st]);have g0:=ae.o.c 0 _ rfl;have HE:Hid (Au.syms G=(List.range G.ts.length).map (fun i:Nat=>(i:Int))++(List.range G.ns.length).map fun i:Nat=>-1-(i:Int)):=aA rfl;rw[HE.o];clear HE;have au:(G.ts.length:Int)<=1000:=ω
 have av:(G.ns.length:Int)<=1000:=ω
 clear ht hn
 go_enter func96,ntmps96
 go_wp2;clear g0;go_loopw [3,9] (fun vl vi wr=>∃i:Nat,i<=G.ts.length/\vi=.int .i64 i/\Hid (aV wr (w.heap.size+1) vl ((List.range i).map fun i:Nat=>(i:Int)))/\Hid (aZ 26 w #[.slice AT G.ts.length cT,.slice AN G.ns.length cN,.slice AR G.rs.length cR,.int .i64 G.st] wr)) (fun _ vi _=>G.ts.length-(intOf vi).toNat)
 case atStart=>exact⟨0,Bb _,rfl,aA (aV.nil _ _),ae⟩
 case round =>
  obtain⟨i,hi,rfl,HO,HW⟩:=hrel;have hZ:=HW.o.size;obtain⟨A1,c1,rfl,ag,ah,d⟩:=aV.form HO.o;by_cases aa:i<G.ts.length
  ·have ab:Hid (((List.range i).map fun i:Nat=>(i:Int)).length<=1000):=aA (by simp;omega);have HE:Hid (((List.range (i+1)).map fun i:Nat=>(i:Int))=((List.range i).map fun i:Nat=>(i:Int))++[(i:Int)]):=aA (by rw[CM,Bi];rfl);clear d;generalize ((List.range i).map fun i:Nat=>(i:Int))=t at *;have f:=aA (HO.o.alloc (.cells #[.int .i64 (i:Int)] 3));have b:=aA (HW.o.alloc (.cells #[.int .i64 (i:Int)] 3));go_wp2_with (at_builtin;refine yA rfl (.tmp 12) (.tmp 14) _ rfl underlying51 (w.heap.size+1) _ t rfl f.o _ _ (i:Int) rfl ((tD _ [.int .i64 (i:Int)] _ 0)) (by have:=ab.o;omega) b.o.size ?_;intro v2 w2 g j)
   have ac:=aA g;have ad:Hid (aZ 26 w #[.slice AT G.ts.length cT,.slice AN G.ns.length cN,.slice AR G.rs.length cR,.int .i64 G.st] w2):=aA (Eh b.o j b.o.size (fun k e=>(Br f.o k e).1));clear g j;go_roundw
   case rel=>exact⟨i+1,aa,ν,aA (by rw[HE.o];exact ac.o),ad⟩
   case measure=>simp[intOf];omega
  ·obtain rfl:i=G.ts.length:=ω
   obtain⟨wo,ai⟩:∃wo:World,wo=wr:=⟨_,rfl⟩
   subst ai;have g1:=HW.o.c 1 _ rfl;have aj:Hid (((List.range G.ts.length).map fun i:Nat=>(i:Int)).length<=1000):=aA (by simp;omega);clear d;generalize af:((List.range G.ts.length).map fun i:Nat=>(i:Int))=tl at *;have ak:=aA af;clear af;go_wp2;clear g1;go_loopw [3,20] (fun vl vi wr=>∃i:Nat,i<=G.ns.length/\vi=.int .i64 i/\Hid (aV wr (w.heap.size+1) vl (tl++(List.range i).map fun i:Nat=>-1-(i:Int)))/\Hid (aZ 26 w #[.slice AT G.ts.length cT,.slice AN G.ns.length cN,.slice AR G.rs.length cR,.int .i64 G.st] wr)) (fun _ vi _=>G.ns.length-(intOf vi).toNat)
   case atStart=>exact⟨0,Bb _,rfl,by simpa using HO,HW⟩
   case round =>
    obtain⟨i,hi,rfl,HO,HW⟩:=hrel;have hZ:=HW.o.size;obtain⟨A1,c1,rfl,ag,ah,d⟩:=aV.form HO.o;by_cases aa:i<G.ns.length
    ·have ab:Hid ((tl++(List.range i).map fun i:Nat=>-1-(i:Int)).length<=2000):=aA (by have:=aj.o;simp;omega);have HE:Hid ((tl++(List.range (i+1)).map fun i:Nat=>-1-(i:Int))=(tl++(List.range i).map fun i:Nat=>-1-(i:Int))++[-1-(i:Int)]):=aA (by rw[CM,Bi,Cd];rfl);have al:=aA (fun w=>JH (i:Int) ω ω w);clear d;generalize (tl++(List.range i).map fun i:Nat=>-1-(i:Int))=t at *;have f:=aA (HO.o.alloc (.cells #[.int .i64 (-1-(i:Int))] 3));have b:=aA (HW.o.alloc (.cells #[.int .i64 (-1-(i:Int))] 3));go_wp2_with fail
     refine(al.o _).mono ?_;rintro _ wz ⟨rfl,am⟩;subst am;go_wp2_with (at_builtin;refine yA rfl (.tmp 23) (.tmp 26) _ rfl underlying51 (w.heap.size+1) _ t rfl f.o _ _ (-1-(i:Int)) rfl ((tD _ [.int .i64 (-1-(i:Int))] _ 0)) (by have:=ab.o;omega) b.o.size ?_;intro v2 w2 g j)
     have ac:=aA g;have ad:Hid (aZ 26 w #[.slice AT G.ts.length cT,.slice AN G.ns.length cN,.slice AR G.rs.length cR,.int .i64 G.st] w2):=aA (Eh b.o j b.o.size (fun k e=>(Br f.o k e).1));clear g j;go_roundw
     case rel=>exact⟨i+1,aa,ν,aA (by rw[HE.o];exact ac.o),ad⟩
     case measure=>simp[intOf];omega
    ·obtain rfl:i=G.ns.length:=ω
     have HX:Hid (aV wr w.heap.size (.slice A1 (tl++(List.range G.ns.length).map fun i:Nat=>-1-(i:Int)).length c1) (tl++(List.range G.ns.length).map fun i:Nat=>-1-(i:Int))):=aA (HO.o.mono ω);clear d;generalize hq:(tl++(List.range G.ns.length).map fun i:Nat=>-1-(i:Int))=q at *;have HQ:=aA hq;clear hq;go_wp2;go_ret
     exact⟨_,rfl,by rw[ak.o,HQ.o];exact HX.o,HW.o.below⟩
theorem QJ {R:Nat} {T:TypeId} (h:w.ownsRow base T m v n xs) (hk:∀(g:Nat) (o:Obj),w.heap[g]?=some o->g≠R->g≠M->(∀cur fr,o ≠ .cells cur 59 fr)->(∀cur fr,o ≠ .cells cur 96 fr)->w'.heap[g]?=some o) (hR:∀cur,w.heap[R]? ≠ some (.cells cur T (0,0))) (hM:∀cur,w.heap[M]? ≠ some (.cells cur T (0,0))) (hT:T≠59) (hE:T≠96):w'.ownsRow base T m v n xs:=by
 refine⟨h.1,?_⟩;rcases h.2 with h0|⟨g,cap,cur,e,aa,hg,hr⟩
 ·exact .inl h0
 ·exact .inr ⟨g,cap,cur,e,aa,hk g _ hg (fun q=>hR cur (by rw[<-q];exact hg)) (fun q=>hM cur (by rw[<-q];exact hg)) (fun cur' fr q=>by injection q with _ q _;exact hT q) (fun cur' fr q=>by injection q with _ q _;exact hE q),hr⟩
theorem P9 {R:Nat} {xs:List (Int×Int)} (h:aK 96 2 fM w base v xs) (hk:fX R M w w') (hR:∀cur,w.heap[R]? ≠ some (.cells cur 96 (0,0))) (hM:∀cur,w.heap[M]? ≠ some (.cells cur 96 (0,0))):aK 96 2 fM w' base v xs:=by
 refine⟨h.1,?_⟩;rcases h.2 with h0|⟨g,cap,cur,e,aa,hg,hr⟩
 ·exact .inl h0
 ·exact .inr ⟨g,cap,cur,e,aa,hk.fp g _ hg (fun q=>hR cur (by rw[<-q];exact hg)) (fun q=>hM cur (by rw[<-q];exact hg)) (fun cur' fr q=>by injection q with _ q _;exact absurd q δ),hr⟩
structure jm (R M:Nat) (w w':World):Prop where
 size:w.heap.size<=w'.heap.size
 fp:∀(g:Nat) (o:Obj),w.heap[g]?=some o->g≠R->g≠M->(∀cur fr,o ≠ .cells cur 59 fr)->(∀cur fr,o ≠ .cells cur 96 fr)->w'.heap[g]?=some o
theorem jm.refl (R M:Nat) (w:World):jm R M w w:=⟨Af _,fun _ _ h _ _ _ _=>h⟩
theorem jm.trans {R:Nat} {w2:World} (h:jm R M w w') (k:jm R M w' w2):jm R M w w2:=⟨Ah h.size k.size,fun g o h1 h2 h3 h4 h5=>k.fp g o (h.fp g o h1 h2 h3 h4 h5) h2 h3 h4 h5⟩
theorem jm.of {R:Nat} (h:fX R M w w'):jm R M w w':=⟨h.size,fun g o h1 h2 h3 h4 _=>h.fp g o h1 h2 h3 h4⟩
theorem jm.own {R:Nat} (h:w.ownsRow base 96 2 v n xs) (hg:w.grownBy w' v.ownBlock):jm R M w w':=⟨hg.size,fun _ _ h1 _ _ _ h5=>aJ h hg h1 fun cur=>h5 cur _⟩
theorem fX.Gq {R:Nat} {a:World} {T:TypeId} (h:fX R M a w) (ho:w.ownsRow base T m v n xs) (hg:w.grownBy w' v.ownBlock) (hb:a.heap.size<=base):fX R M a w' :=
 ⟨Ah h.size hg.size,fun g o h1 h2 h3 h4=>(hg.block g (Aj (Ad.1 h1).1 h.size) (fun e=>by have:=(Br ho g e.symm).1;have:=(Ad.1 h1).1;omega)).trans (h.fp g o h1 h2 h3 h4)⟩
theorem lF.apart {R:Nat} {g0 g1 g2 g3:Value} {qs:List QS} (h:lF w base R M NE g0 g1 g2 g3 qs):(∀cur T,T≠120->w.heap[R]? ≠ some (.cells cur T (0,0)))/\∀cur T,w.heap[M]? ≠ some (.cells cur T (0,0)):=by
 obtain⟨⟨vS,h1,_⟩,⟨l,h3,_⟩,_,_⟩:=h;refine⟨fun cur T hT e=>?_,fun cur T=>h3.is.fD⟩;rw[h1]at e;injection e with e;injection e with _ e _;exact hT e.symm
theorem lF.only {R:Nat} {g0 g1 g2 g3:Value} {qs:List QS} (h:lF w base R M NE g0 g1 g2 g3 qs) (hg:w.grownBy w' (some D)) (hD:∃es ck,w.heap[D]?=some (.map es ck)) (hM:D≠M):lF w' base R M NE g0 g1 g2 g3 qs:=by
 obtain⟨es,ck,hD⟩:=hD;obtain⟨⟨vS,h1,h2⟩,⟨l,h3,h4⟩,h5,h6⟩:=h;have hb:∀(g:Nat) (o:Obj),w.heap[g]?=some o->g≠D->w'.heap[g]?=some o:=fun g o h hn=>(hg.block g (Ad.1 h).1 (fun e=>by injection e with e;exact hn e)).trans h;have hc:∀(g:Nat) (cur:Array Value) (T:TypeId),w.heap[g]?=some (.cells cur T (0,0))->w'.heap[g]?=some (.cells cur T (0,0)):=fun g cur T h=>hb g _ h fun e=>by rw[e,hD]at h;cases h
 refine⟨⟨vS,hc _ _ _ h1,?_,fun q hq=>((h2.2 q hq).fp fun g cur T _ h=>hc g cur T h).more hg.size (Af _)⟩,⟨l,h3.block ?_,h4⟩,h5,h6⟩
 ·exact Bf h2.1 hg (qn h2.1 hD fun cur e=>by cases e)
 ·exact hg.block _ h3.lt (fun e=>by injection e with e;exact hM e.symm)
theorem lF.I9 {R:Nat} {g0 g1 g2 g3:Value} {qs:List QS} {xs:List (Int×Int)} (h:lF w base R M NE g0 g1 g2 g3 qs) (ho:aK 96 2 fM w b v xs) (hg:w.grownBy w' v.ownBlock) (hb:NE<=b):lF w' base R M NE g0 g1 g2 g3 qs:=by
 obtain⟨⟨vS,h1,h2⟩,⟨l,h3,h4⟩,h5,h6⟩:=h;have hc:∀(g:Nat) (cur:Array Value) (T:TypeId),T≠96->w.heap[g]?=some (.cells cur T (0,0))->w'.heap[g]?=some (.cells cur T (0,0)):=fun g cur T hT h=>aJ ho hg h fun cur=>aH hT;refine⟨⟨vS,hc _ _ _ δ h1,?_,fun q hq=>((h2.2 q hq).fp fun g cur T hT h=>?_).more hg.size (Af _)⟩,⟨l,h3.block ?_,h4⟩,h5,h6⟩
 ·rcases h2.1.2 with h0|⟨g,cap,cur,e,aa,ab,hr⟩
  ·exact⟨h2.1.1,.inl h0⟩
  ·exact⟨h2.1.1,.inr ⟨g,cap,cur,e,aa,hc _ _ _ δ ab,hr⟩⟩
 ·rcases hT with⟨rfl,_⟩|⟨rfl,ac⟩
  ·exact hc _ _ _ δ h
  ·exact(hg.block g (Ad.1 h).1 (fun e=>by have:=(Br ho g e.symm).1;omega)).trans h
 ·obtain⟨es,ck,hm,_⟩:=h3;exact(aJ ho hg hm fun cur e=>by cases e).trans hm.symm
open Go.ChangeShapes Go.WideShapes Go.Deep Go.RowKit Go.Joins in
theorem Lt {a:World} (h:a.grownBy w (some D)) (hD:∃es ck,a.heap[D]?=some (.map es ck)) (hc:a.cell? p=some u):w.cell? p=some u:=by
 obtain⟨es,ck,hD⟩:=hD
 have aa:some p.block≠some D:=fun e=>by
  injection e with e;unfold World.cell? at hc;rw[e,hD]at hc;cases hc
 rw[Ck (h.block p.block (Bl hc) aa)];exact hc
theorem RQ {cl:List Au.It} {p:List (List Au.It)×List (Int×Int)} {qs:List QS} (A:Option Addr) (c:Nat) (hp:aX qs=p.1) (aa:Au.mv G cl s≠[]):Au.ji G cl p s=(aX (wH qs (Au.mv G cl s) A c),p.2++[(s,ye qs (Au.mv G cl s))]):=by
 unfold Au.ji wH ye;rw[AJ aa,hp];by_cases h:Au.ig p.1 (Au.mv G cl s)<0
 ·rw[AJ ω,Az h,Az h];have e:p.1.length=qs.length:=by rw[<-hp];unfold aX;rw[Bh]
  rw[e,<-hp];unfold aX bK;rw[Bi];rfl
 ·rw[Az ω,AJ h,AJ h,hp]
theorem Sy (qs new:List QS) (k:List Au.It) (A:Option Addr) (c:Nat) (h:∀q∈new,q.2.1=[]):∃new',wH (qs++new) k A c=qs++new'/\(∀q∈new',q.2.1=[])/\new'.length<=new.length+1:=by
 unfold wH;split
 ·refine⟨new++[bK k A c],by rw[Cd],fun q hq=>?_,σ⟩;rcases Bs.1 hq with hq|hq
  ·exact h q hq
  ·rw[AW.1 hq];rfl
 ·exact⟨new,rfl,h,ω⟩
theorem Jt {T:TypeId} (x:Int×Int) (w:World) (g:Nat) (hb:w.heap[g]?=some (.cells #[.int .i64 x.1,.int .i64 x.2] T (0,0))):∀j u,(fM x)[j]?=some u->w.cell? ⟨g,j,none⟩=some u:=fun j u hu=>by
 refine(AF w g j _ _ _ hb).trans ?_
 match j,hu with
 | 0,hu=>exact hu
 | 1,hu=>exact hu
 | j+2,hu=>simp[fM]at hu
def JV (G:Gm.Gr) (w:World) (base R M NE:Nat) (g0 g1 g2 g3:Value) (qs:List QS) (k:List Au.It) (e:Ending) (w':World):Prop :=
 ∃v new,e=.returned v/\aK 96 2 fM w' w.heap.size v (Au.fZ G (Au.jb G k) (aX qs,[]) (Au.syms G)).2/\aX (qs++new)=(Au.fZ G (Au.jb G k) (aX qs,[]) (Au.syms G)).1/\(∀q∈new,q.2.1=[])/\lF w' base R M NE g0 g1 g2 g3 (qs++new)/\Below base w w'/\fX R M w w'
theorem PE (G:Gm.Gr) (w:World) (base R M NE B:Nat) (AT AN AR:Option Addr) (cT cN cR:Nat) (qs:List QS) (k:List Au.It) (A:Option Addr) (c:Nat) (hg:aT w B (.agg #[.slice AT G.ts.length cT,.slice AN G.ns.length cN,.slice AR G.rs.length cR,.int .i64 G.st]) G) (hf:Gm.Fit G) (U:Gm.Ok G) (hB:B<=base) (h:lF w base R M NE (.slice AT G.ts.length cT) (.slice AN G.ns.length cN) (.slice AR G.rs.length cR) (.int .i64 G.st) qs) (hk:vY 61 w base w.heap.size (k,A,c)) (hi:∀x∈k,Au.ir G x=true) (hl:k.length<=1000) (hq:qs.length<=1000) (hE:NE<=w.heap.size) :
  Calls prog 57 #[.pointer (some ⟨R,0,none⟩),.slice A k.length c] w (JV G w base R M NE (.slice AT G.ts.length cT) (.slice AN G.ns.length cN) (.slice AR G.rs.length cR) (.int .i64 G.st) qs k):=by
 have HG:=aA hg;have HF:=aA hf;have J:=aA U;have ba:=aA hB;have HH:=aA h;have HK:=aA hk;have HI:=aA hi;have HQ:=aA hq;have N:=aA h.gf;have cE:=aA hE;have O:=fun t w=>Fh (P:=prog) t w;obtain⟨w1,aj⟩:=χ (w.alloc (.map #[] 0))
 have cG:w1.heap.size=w.heap.size+1:=by rw[aj];simp
 have C:Hid (β w w1):=aA (by rw[aj];exact(AB _ _).alloc (Af _) _);have bx:Hid (Mw.fw tJ w1 w.heap.size []):=aA (by rw[aj];exact Mw.fw.made tJ w);have bz:=aA (h.below C.o)
 have bD:=aA (PF _ G B k A c w.heap.size w1 (hg.below C.o (Ah hB h.gf)) hf U (Ah hB (Ah h.gf C.o.size)) (hk.2.2.rd.below C.o (Af _)) C.o.size (fun x hx=>by
  have hx:=Au.gj.1 (hi x hx)
  have:=Au.qe U (Au.jD.2 hx.1)
  have:=U.kL
  unfold Gm.In
  omega) hl)
 rw[List.filter_eq_self.2 hi]at bD;have bM:Hid (∀x∈Au.jb G k,Au.ir G x=true):=aA (fun x hx=>Au.mA hx);have bb:Hid ((Au.jb G k).length<=287):=aA (Au.rZ U U.kL k);obtain⟨⟨vS,h1,h2⟩,_⟩:=bz.o;have r0:=aQ h1;have r1:=aU h1;have r2:=bB h1;have r3:=bL h1;unfold JV;generalize cI:Au.jb G k=cl at *;clear hg hf U hB h hk hi hq h1 h2 cI hE
 go_enter func57,ntmps57
 go_upto_region 2 with fail
 rw[<-aj];clear aj;go_wp2_with fail
 refine bD.o.mono ?_;rintro _ w2 ⟨v2,rfl,bT,ax⟩;obtain⟨A2,c2,rfl,bc,bd,ak⟩:=aK.form bT aG;have cJ:=aA ak;have bX:=aA ax;have b0:=aA (bz.o.below ax);have ay:Hid (Mw.fw tJ w2 w.heap.size []):=aA (bx.o.block (ax.block _ bx.o.lt));have cK:Hid (jM G w2 w2.heap.size w.heap.size (cl.take 0)):=aA (jM.start G w2 _ ay.o);have dy:Hid (w.heap.size<w2.heap.size):=aA ay.o.lt;have cL:(cl.length:Int)<=287:=by have:=bb.o;omega
 clear bT ax ak r0 r1 r2 r3 bc bd cG O;obtain⟨D,cM⟩:∃D,D=w.heap.size:=⟨_,rfl⟩
 have dz:=aA cM;go_wp2;go_loopw [23] (fun vi wr=>∃i:Nat,i<=cl.length/\vi=.int .i64 i/\Hid (jM G wr w2.heap.size w.heap.size (cl.take i))/\Hid (w2.grownBy wr (some w.heap.size))) (fun vi _=>cl.length-(intOf vi).toNat)
 case atStart=>exact⟨0,Bb _,rfl,cK,aA (AO _ _)⟩
 case round =>
  obtain⟨i,hi,rfl,HM,HW⟩:=hrel;by_cases b:i<cl.length
  ·obtain⟨g,o,rfl,bf,hc⟩:=cJ.o ω;obtain⟨es2,ck2,X,_⟩:=ay.o;have bg:∃es ck,w2.heap[w.heap.size]?=some (.map es ck):=⟨es2,ck2,X⟩
   have k0:wr.cell? ⟨g,o+i*2,none⟩=some (.int .i64 (cl[i]).1):=Lt HW.o bg (hc i b 0 _ rfl);have k1:wr.cell? ⟨g,o+i*2+1,none⟩=some (.int .i64 (cl[i]).2):=Lt HW.o bg (hc i b 1 _ rfl);have az:Hid (Au.ir G cl[i]=true):=aA (bM.o _ (AD b));have F:Hid (cl.take (i+1)=cl.take i++[cl[i]]):=aA (AP b);have r:Hid (β w w2):=aA (C.o.trans (bX.o.mono C.o.size));have V:Hid (β w wr):=aA (aM r.o HW.o (Af _) r.o.size);obtain⟨⟨vS,h1,h2⟩,_⟩:=b0.o;have cO:R≠w.heap.size:=fun e=>by rw[e,X]at h1;cases h1
   have b1:=(HW.o.block R (Ad.1 h1).1 (fun e=>by injection e with e;exact cO e)).trans h1;obtain⟨wi,a0⟩:=χ (wr.alloc (.cells #[.int .i64 (cl[i]).1,.int .i64 (cl[i]).2] 61))
   have Z:Hid (β wr wi):=aA (by rw[a0];exact(AB _ _).alloc (Af _) _);have b3:wi.heap[wr.heap.size]?=some (.cells #[.int .i64 (cl[i]).1,.int .i64 (cl[i]).2] 61 (0,0)):=by rw[a0];exact AI wr _
   have ac:=aA b3;have a1:=aA (aC Z.o b1);have b4:=aA (fun(y:World) (h:β wi y)=>KN _ G B cl[i] y (HG.o.below (V.o.trans ((Z.o.trans (h.mono Z.o.size)).mono V.o.size)) (Ah ba.o N.o)) HF.o (Ah (Ah ba.o N.o) (Ah V.o.size (Ah Z.o.size h.size))));have b5:=aA (Au.uJ az.o);have cP:=aA (fun s (h:Au.nx G cl[i]=some s)=>Au.sz J.o az.o h);have b6:=aA (Au.gj.1 az.o);have cQ:=aA (Au.qe J.o (Au.jD.2 b6.o.1));have cS:=aA (fun s=>Au.sw G (cl.take i) s);clear hc bf bg X h1 h2 b1 b3 az;generalize cl[i]=x at *;go_upto_region 5 with fail
   rw[<-a0];clear a0 k0 k1;have z0:=fun z:Calm.On wi.heap.size wi=>aQ (aC z.2 a1.o);have z1:=fun z:Calm.On wi.heap.size wi=>aU (aC z.2 a1.o);have z2:=fun z:Calm.On wi.heap.size wi=>bB (aC z.2 a1.o);have z3:=fun z:Calm.On wi.heap.size wi=>bL (aC z.2 a1.o);have q0:=fun z:Calm.On wi.heap.size wi=>aQ (aC z.2 ac.o);have q1:=fun z:Calm.On wi.heap.size wi=>aU (aC z.2 ac.o);have b7:=rM wi;refine CalmN.fk (γ wi) (.one [0,1,2,3,4] 5 (.fin [6,7,8,9,10])) b7.o ?_;simp only[CalmN.fS,CalmN.fu,CalmN.fo,Aq,Ai,Am];repeat (go_big_quiet_step (fail))
   refine Ap ?_;intro KK a2;rw[Az ε];go_wp2_with fail
   refine(b4.o wi.drew (aB (AB _ _) 1)).mono ?_;rintro _ w3 ⟨rfl,ag⟩;have ag:β wi w3:=(aB (AB _ wi) 1).trans ag;have a3:=yM ag;have b8:Hid (β wr w3):=aA (Z.o.trans (ag.mono Z.o.size));have b9:=aA (HM.o.below b8.o);have bh:Hid (w2.grownBy w3 (some w.heap.size)):=aA (qI HW.o (aL b8.o _));have al:=aA (aC ag ac.o);rw[b5.o];clear ag z0 z1 z2 z3 q0 q1 b4 b7 b5;cases hq:Au.nx G x with
   | none =>
    have HX:=aA (b9.o.skip hq);clear hq;go_wp2_with fail
    refine a2 _ _ a3.o _ ι a3.o ?_;clear a2;repeat (go_big_quiet_step (fail))
    refine Ap ?_;go_wp2;go_roundw
    case rel=>exact⟨i+1,b,ν,aA (by rw[F.o];exact HX.o),bh⟩
    case measure=>simp[intOf];omega
   | some s =>
    have ca:=cP.o s hq;have cU:=Gm.iN.1 (Au.iU.1 ca);have cV:=(Gm.fF G).1 J.o.n;have aa:Hid (Gm.In s):=aA (by unfold Gm.In;have:=(Gm.fK G.ts).1 J.o.t;omega);have dA:IntKind.i64.wrap (x.2+1)=x.2+1:=BV _ (by have:=b6.o;have:=cQ.o;omega);obtain⟨ml,O,ah,cb⟩:=b9.o.m;have ab:tJ.enc s=.int .i64 s:=rfl;have lk:=Mw.gP (E:=tJ) O Hc (t:=166) underlying166 (z:=.slice none 0 0) κ (x:=s) aa.o false;rw[ab]at lk;simp only[DL,if_false]at lk;have cW:=aA (fun(y:World) (hy:Mw.fw tJ y w.heap.size ml) (u:Value)=>Mw.oS (x:=s) hy Hc underlying166 aa.o u)
    have ad:aK 61 2 fM w3 w2.heap.size ((Mw.fH ml s).getD (.slice none 0 0)) (Au.mv G (cl.take i) s):=by
     rcases ah s with q|⟨v,p1,p2,p3⟩
     ·rw[q.1,q.2];exact aK.nil _ _
     ·rw[p1];exact p3
    have bi:=aA ad;have dB:Hid ((Mw.fH ml s).getD (.slice none 0 0)=(Mw.fH ml s).getD (.slice none 0 0)):=aA rfl;generalize hv:(Mw.fH ml s).getD (.slice none 0 0)=v at *;have HV:=aA hv;have cX:=aA O;have cY:=aA ah;have cZ:=aA cb;have c3:=aA hq;have x0:=aQ al.o;have x1:=aU al.o;have c5:=aA (show(Au.mv G (cl.take i) s).length<=1000 by have:=cS.o s;have h2:=List.length_take_le i cl;have:=bb.o;rw[Bm]at *;omega);have ae:=aA (bi.o.alloc (.cells #[.int .i64 x.1,.int .i64 (x.2+1)] 61));have am:Hid (w2.grownBy (w3.alloc (.cells #[.int .i64 x.1,.int .i64 (x.2+1)] 61)) (some w.heap.size)):=aA (aI bh.o _);obtain⟨es3,ck3,bj,ao⟩:=cX.o;have cc:=(BD w3 (.cells #[.int .i64 x.1,.int .i64 (x.2+1)] 61) w.heap.size (Ad.1 bj).1).trans bj;have c6:=aA cc;have c7:=aA ao;have af:=aA (AI w3 (.cells #[.int .i64 x.1,.int .i64 (x.2+1)] 61));have cd:(some s:Option Int).isSome=true:=rfl;obtain⟨Av,nv,cv,c8⟩:∃A n c,v=.slice A n c:=by obtain⟨A,c,e,_⟩:=aK.form ad aG;exact⟨A,_,c,e⟩
    clear hq ca cU cV O ah cb hv ad bj cc ao;go_wp2_with fail
    refine a2 _ _ a3.o _ ι a3.o ?_;clear a2;repeat (go_big_quiet_step (fail))
    refine Ap ?_;subst c8;have dC:Hid (w2.heap.size<=w3.heap.size):=aA bh.o.size
    go_wp2_with (first
     | (at_builtin;refine LM (f:=fM) rfl (.tmp 41) (.tmp 48) _ rfl underlying56 _ 16 yH δ δ δ aG tA w2.heap.size _ (Au.mv G (cl.take i) s) rfl ae.o _ _ (x.1,x.2+1) rfl (Hx (x.1,x.2+1) _ _ af.o) (by have:=c5.o;omega) am.o.size ?_;intro v5 w5 ce a4 ap;have bk:=aJ ae.o a4 c6.o (fun cur e=>by cases e);have c9:=cW.o w5 ⟨_,_,bk,c7.o⟩ v5)
     | (at_mapUpdate;refine Mw.iy rfl _ _ _ _ rfl c9 rfl rfl rfl ?_;rintro w6 ⟨cf,H⟩))
    have da:Hid (w3.grownBy w5 (Value.slice Av nv cv).ownBlock):=aA (by
     have h1:w3.grownBy (w3.alloc (.cells #[.int .i64 x.1,.int .i64 (x.2+1)] 61)) (Value.slice Av nv cv).ownBlock:=aI (AO _ _) _;exact qI h1 a4)
    have cg:v5.ownBlock=(Value.slice Av nv cv).ownBlock \/ ∃j,w3.heap.size<=j/\v5.ownBlock=some j:=ap.imp id fun e=>⟨_,σ,e⟩
    have db:=aA (jM.put c3.o cY.o cZ.o HV.o.symm ce da.o cg cf H ⟨_,_,bk⟩);have dc:Hid (w2.grownBy w6 (some w.heap.size)):=aA (qI (Sj am.o ae.o a4 (Af _)) H);clear ce a4 ap bk cf H cg lk x0 x1;go_roundw
    case rel=>exact⟨i+1,b,ν,aA (by rw[F.o];exact db.o),dc⟩
    case measure=>simp[intOf];omega
  ·obtain rfl:i=cl.length:=ω
   rw[Bp]at HM;obtain⟨es2,ck2,X,_⟩:=ay.o
   have ch:Hid (w.heap.size≠M):=aA (by
    obtain⟨_,⟨l,h3,_⟩,_⟩:=HH.o
    have:=h3.lt
    omega)
   have ci:=aA (b0.o.only HW.o ⟨es2,ck2,X⟩ ch.o);have r:Hid (β w w2):=aA (C.o.trans (bX.o.mono C.o.size));have V:Hid (β w wr):=aA (aM r.o HW.o (Af _) r.o.size);obtain⟨wo,de⟩:∃wo:World,wo=wr:=⟨_,rfl⟩
   subst de;obtain⟨⟨vS,h1,h2⟩,_⟩:=ci.o;have r0:=aQ h1;have r1:=aU h1;have r2:=bB h1;have r3:=bL h1;have df:=(Gm.fK G.ts).1 J.o.t;have dg:=(Gm.fF G).1 J.o.n;have dh:=aA (Rh _ G B wo (HG.o.below V.o (Ah ba.o N.o)) ω ω);have cj:Hid ((Au.syms G).length<=40):=aA (by rw[Au.lE];omega)
   have di:Hid (∀s∈Au.syms G,Gm.In s):=aA (fun s hs=>by
    have:=Gm.iN.1 (Au.iU.1 hs)
    unfold Gm.In;omega)
   generalize cm:Au.syms G=sy at *;have cn:=aA cm;clear h1 h2 X df dg cm;go_wp2_with fail
   refine dh.o.mono ?_;rintro _ w4 ⟨v4,rfl,ai,aq⟩;obtain⟨A4,c4,rfl,bc,bd,_⟩:=aV.form ai;have dD:=aA aq;have dj:=aA ai;have bl:=aA (ci.o.below aq);have co:=aA (HM.o.below aq);have cp:Hid (β w w4):=aA (V.o.trans (aq.mono V.o.size));have dk:(sy.length:Int)<=40:=by have:=cj.o;omega
   have bm:Hid (fX R M w w4):=aA (.below cp.o);clear ai aq r0 r1 r2 r3 bc bd;go_wp2;go_loopw [10,57] (fun vl vi wr=>∃(j:Nat) (new:List QS),j<=sy.length/\vi=.int .i64 j/\new.length<=j/\Hid (aK 96 2 fM wr w.heap.size vl (Au.fZ G cl (aX qs,[]) (sy.take j)).2)/\Hid (aX (qs++new)=(Au.fZ G cl (aX qs,[]) (sy.take j)).1)/\Hid (∀q∈new,q.2.1=[])/\Hid (lF wr base R M NE (.slice AT G.ts.length cT) (.slice AN G.ns.length cN) (.slice AR G.rs.length cR) (.int .i64 G.st) (qs++new))/\Hid (Below base w wr)/\Hid (fX R M w wr)/\Hid (jm R M w4 wr)/\Hid ((Au.fZ G cl (aX qs,[]) (sy.take j)).2.length<=j)) (fun _ vi _=>sy.length-(intOf vi).toNat)
   case atStart=>exact⟨0,[],Bb _,rfl,Af _,aA (by simpa[Au.fZ] using aK.nil _ _),aA (by simp[Au.fZ]),aA σ,by simpa using bl,aA (cp.o.mono N.o),bm,aA (jm.refl _ _ _),aA (by simp[Au.fZ])⟩
   case round =>
    obtain⟨j,new,hj,rfl,dE,HL,HP,HN,HA,bn,a5,ar,bo⟩:=hrel;obtain⟨Al,cl',rfl,_,_,_⟩:=aK.form HL.o aG;by_cases b:j<sy.length
    ·have I:=bl.o.apart;have ai:aV wr wo.heap.size (.slice A4 sy.length c4) sy:=QJ dj.o ar.o.fp (fun cur=>I.1 cur _ δ) (fun cur=>I.2 cur _) δ δ;obtain⟨A4',c4',dl,_,_,ak⟩:=aV.form ai;injection dl with bp bq br;subst bp;clear bq br;obtain⟨g,o,rfl,bf,hc⟩:=ak ω;have k0:=hc j b;rw[L.fy b]at k0;obtain⟨ml0,dm,_⟩:=co.o.m;obtain⟨es4,ck4,a6,_⟩:=dm
     have dn:w.heap.size≠R:=fun e=>by
      obtain⟨⟨vS,h1,_⟩,_⟩:=bl.o;rw[<-e,a6]at h1;cases h1
     have ao:=ar.o.fp _ _ a6 dn ch.o (fun cur fr e=>by cases e) (fun cur fr e=>by cases e);have dp:=aA (co.o.fp (ao.trans a6.symm) (fun g cur _ hg=>ar.o.fp g _ hg (fun e=>I.1 cur 61 δ (by rw[<-e];exact hg)) (fun e=>I.2 cur 61 (by rw[<-e];exact hg)) (fun cur' fr e=>by injection e with _ e _;exact absurd e δ) (fun cur' fr e=>by injection e with _ e _;exact absurd e δ)));have F:Hid (Au.fZ G cl (aX qs,[]) (sy.take (j+1))=Au.ji G cl (Au.fZ G cl (aX qs,[]) (sy.take j)) sy[j]):=aA (by rw[AP b,Au.mE]);have aa:Hid (Gm.In sy[j]):=aA (di.o _ (AD b));obtain⟨ml,O,ah,_⟩:=dp.o.m;have ab:tJ.enc sy[j]=.int .i64 sy[j]:=rfl;have lk:=Mw.gP (E:=tJ) O Hc (t:=166) underlying166 (z:=.slice none 0 0) κ (x:=sy[j]) aa.o true;rw[ab]at lk;have bs:=ah sy[j];generalize sy[j]=s at *;generalize Au.fZ G cl (aX qs,[]) (sy.take j)=p at *;clear hc bf a6 ao O ah I ai ak ab;rcases bs with⟨e1,e2⟩|⟨v,e1,e2,e3⟩
     ·rw[e1]at lk;simp at lk;have HE:Hid (Au.ji G cl p s=p):=aA (by unfold Au.ji;rw[Az e2]);clear e1 e2;go_wp2;go_roundw
      case rel=>exact⟨j+1,new,b,ν,ω,aA (by rw[F.o,HE.o];exact HL.o),aA (by rw[F.o,HE.o];exact HP.o),HN,HA,bn,a5,ar,aA (by rw[F.o,HE.o];have:=bo.o;omega)⟩
      case measure=>simp[intOf];omega
     ·rw[e1]at lk;simp at lk;obtain⟨Av,cv,rfl,cq,au,_⟩:=aK.form e3 aG;have cr:∀x∈Au.mv G cl s,Au.ir G x=true:=fun x hx=>Au.ym bM.o hx;have a9:=aA (RQ (qs:=qs++new) Av cv HP.o e2);have cs:=aA (Ld wr base R M NE _ _ _ _ (qs++new) (Au.mv G cl s) Av cv HA.o ⟨cq,by unfold maxLen at au;omega,(aK.jK e3).less (Ah (Ah N.o r.o.size) (Af _))⟩ (Au.zL J.o J.o.kL cr) (by have:=Au.sw G cl s;have:=bb.o;omega) (by have:=HQ.o;rw[AZ];have:=cj.o;omega));obtain⟨new',cu,cw,dF⟩:=Sy qs new (Au.mv G cl s) Av cv HN.o;rw[cu]at cs a9;have dq:=aA cw;have dr:Hid (p.2.length<=1000):=aA (by have:=bo.o;omega);generalize ye (qs++new) (Au.mv G cl s)=num at *;generalize (Au.mv G cl s).length=nv at *;clear e1 e2 e3 cr cu cw cq au;go_wp2_with fail
      refine cs.o.mono ?_;rintro _ w5 ⟨rfl,cx,cy,av⟩;have I:=HA.o.apart;have cz:=P9 HL.o av (fun cur=>I.1 cur _ δ) (fun cur=>I.2 cur _);have ds:=aA (cx.below ((AB w5.heap.size w5).alloc (Af _) (.cells #[.int .i64 s,.int .i64 num] 96)));have dt:Hid (Below base w (w5.alloc (.cells #[.int .i64 s,.int .i64 num] 96))):=aA ((bn.o.trans cy).alloc (Ah N.o (Ah a5.o.size av.size)) _);have bu:Hid (fX R M w (w5.alloc (.cells #[.int .i64 s,.int .i64 num] 96))):=aA ((a5.o.trans av).trans (.below ((AB w5.heap.size w5).alloc (Af _) _)));have bv:Hid (jm R M w4 (w5.alloc (.cells #[.int .i64 s,.int .i64 num] 96))):=aA ((ar.o.trans (.of av)).trans (.of (.below ((AB w5.heap.size w5).alloc (Af _) _))));have aw:=aA (cz.alloc (.cells #[.int .i64 s,.int .i64 num] 96));have af:=aA (AI w5 (.cells #[.int .i64 s,.int .i64 num] 96));clear cx cy av cz I;go_wp2_with (at_builtin;refine yz (f:=fM) rfl (.tmp 68) (.tmp 74) _ rfl underlying57 _ 16 J0 δ δ δ aG tA w.heap.size _ p.2 rfl aw.o _ _ (s,num) rfl (Jt (s,num) _ _ af.o) (by have:=dr.o;omega) bu.o.size ?_;intro v6 w6 cA H)
      have du:=aA (ds.o.I9 aw.o H cE.o);have dv:Hid (Below base w w6):=aA (dt.o.grown H (Ah N.o bu.o.size) (fun k e=>Ah N.o (Br aw.o k e).1));have dw:=aA (bu.o.Gq aw.o H (Af _));have bw:=aA (bv.o.trans (.own aw.o H));have dx:=aA cA;clear cA H lk k0;go_roundw
      case rel=>exact⟨j+1,new',b,ν,ω,aA (by rw[F.o,a9.o];exact dx.o),aA (by rw[F.o,a9.o]),dq,du,dv,dw,bw,aA (by rw[F.o,a9.o];have:=bo.o;simp;omega)⟩
      case measure=>simp[intOf];omega
    ·obtain rfl:j=sy.length:=ω
     generalize (Au.fZ G cl (aX qs,[]) (sy.take sy.length)).2.length=nl at *;rw[Bp]at HL HP;generalize hp:Au.fZ G cl (aX qs,[]) sy=p at *;have cC:=aA hp;clear hp;go_wp2;go_ret
     exact⟨_,new,rfl,by rw[cn.o,cC.o];exact HL.o,by rw[cn.o,cC.o];exact HP.o,HN.o,HA.o,bn.o,a5.o⟩
namespace Au
noncomputable def jo (G:Gm.Gr):Int:=if Gm.ja G=true then(if(ku G).isSome=true then 0 else 5) else 1
noncomputable def kv (G:Gm.Gr):List nY:=if Gm.ja G=true then(match ku G with|some p=>p.1.zip p.2|none=>[]) else []
theorem lK (h:Gm.ja G=false):jo G=1/\kv G=[]:=by unfold jo kv;rw[h];exact⟨rfl,rfl⟩
theorem jO (h:Gm.ja G=true) (k:ku G=none):jo G=5/\kv G=[]:=by unfold jo kv;rw[h,k];exact⟨rfl,rfl⟩
theorem jy {ks:List (List It)} (h:Gm.ja G=true) (k:ku G=some (ks,es)):jo G=0/\kv G=ks.zip es:=by unfold jo kv;rw[h,k];exact⟨rfl,rfl⟩
end Au
theorem Gm.gx (h:Gm.ja G=true):Gm.right G=true:=by
 cases hr:Gm.right G
 ·unfold Gm.ja at h;rw[Gm.oM hr]at h;cases h
 ·rfl
def sN (G:Gm.Gr) (w:World) (e:Ending) (w':World):Prop :=
 ∃A c,e=.returned (.tuple #[.slice A (Au.kv G).length c,.int .i64 (Au.jo G)])/\(Au.kv G).length<=c/\c<=9223372036854775807/\cB w' w'.heap.size A (Au.kv G)/\β w w'
theorem sN.nil {G:Gm.Gr} {w w':World} {er:Int} (h:Au.jo G=er/\Au.kv G=[]) (hb:β w w'):sN G w (.returned (.tuple #[.slice none 0 0,.int .i64 er])) w':=by
 refine⟨none,0,?_,?_,ω,?_,hb⟩
 ·rw[h.1,h.2];rfl
 ·rw[h.2];exact Af _
 ·rw[h.2];exact cB.nil _ _ _
section
variable {w:World} {base R M NE:Nat} {g0 g1 g2 g3:Value} {qs:List QS}
theorem lF.vy {vS:Value} {c:Nat} (h:lF w base R M NE g0 g1 g2 g3 qs) (hv:w.heap[R]?=some (.cells (F7 g0 g1 g2 g3 vS M) 120 (0,0))) (e:vS=.slice (some ⟨g,0,none⟩) n c) (i:Nat) (y:QS) (hi:i<qs.length) (hy:y.1=(qs[i]).1) (hq:yb w base w.heap.size NE y):lF (w.setCell ⟨g,i*2+1,none⟩ (rv y.2)) base R M NE g0 g1 g2 g3 (qs.set i y):=by
 obtain⟨⟨vS',h1,h2⟩,⟨l,h3,h4⟩,h5,h6⟩:=h
 have ev:vS'=vS:=by
  rw[h1]at hv;injection hv with hv;injection hv with hv _ _;unfold F7 at hv;injection hv with hv;injection hv with _ hv;injection hv with _ hv;injection hv with _ hv;injection hv with _ hv;injection hv with hv _
 subst ev;rw[e]at h2;have ac:=h2.xJ i y hi hy hq
 obtain⟨cur,aa⟩:∃cur,w.heap[g]?=some (.cells cur 59 (0,0)):=by
  rcases h2.1.2 with⟨e,_⟩|⟨g2,cap,cur,e,_,hg,_⟩
  ·cases e
  ·injection e with e _ _;injection e with e;injection e with e;subst e;exact⟨cur,hg⟩
 have ad:R≠g:=fun e=>by rw[e,aa]at h1;injection h1 with h1;exact aH δ h1
 have ae:M≠g:=fun e=>by rw[e]at h3;exact h3.is.fD aa
 have ek:aX (qs.set i y)=aX qs:=by
  unfold aX;rw[Cy];refine C3 fun j=>?_;rw[Dq];by_cases ab:i=j
  ·subst ab;rw[Az rfl,Az (by simpa using hi),BO,AH hi];simp[hy]
  ·rw[AJ ab]
 refine⟨⟨vS',(AQ w ⟨g,i*2+1,none⟩ _ R ad).trans h1,?_⟩,⟨l,h3.block (AQ w ⟨g,i*2+1,none⟩ _ M ae),by rw[ek];exact h4⟩,h5,h6⟩;rw[e];have e2:(w.setCell ⟨g,i*2+1,none⟩ (rv y.2)).heap.size=w.heap.size:=σ
 rw[e2];exact ac
end
theorem Ry {α:Type} (es:List (List α)) (m:Nat) (x:List α):(es++List.replicate (m+1) []).set es.length x=(es++[x])++List.replicate m []:=by
 rw[De _ _ (Af _),DB,CY,DN,Cd];rfl
theorem Qt {new:List QS} (h:∀q∈new,q.2.1=[]):new.map (fun q:QS=>q.2.1)=List.replicate new.length []:=by
 induction new with
 | nil=>rfl
 | cons x r ih =>
  rw[Bw,Bz,CY,h x Bn,ih fun q hq=>h q (Bq _ hq)]
theorem Pr {qs new:List QS} {y:QS} (h:qs.map (fun q:QS=>q.2.1)=es++List.replicate (n-es.length) []) (aa:es.length<n) (hw:∀q∈new,q.2.1=[]):((qs++new).set es.length y).map (fun q:QS=>q.2.1)=(es++[y.2.1])++List.replicate ((n+new.length)-(es++[y.2.1]).length) []:=by
 rw[Cy,Bi,h,Qt hw,Cd,List.replicate_append_replicate,show n-es.length+new.length=(n+new.length-(es.length+1))+1 by omega,Ry,AZ,BC]
theorem KP (v:Value) (G:Gm.Gr) (B:Nat) (w:World) (hg:aT w B v G) (hf:Gm.Fit G) (hB:B<=w.heap.size) :
  Calls prog 27 #[v] w (sN G w):=by
 have ai:=aA (fun y (h:β w y)=>SJ v G B y (hg.below h hB) hf (Ah hB h.size));have HG:=aA hg;have HF:=aA hf;have bh:=aA hB;obtain⟨AT,cT,AN,cN,AR,cR,rfl,_⟩:=hg;have f:=aA (aZ.start 26 w #[.slice AT G.ts.length cT,.slice AN G.ns.length cN,.slice AR G.rs.length cR,.int .i64 G.st]);have g0:=f.o.c 0 _ rfl;have g1:=f.o.c 1 _ rfl;have g2:=f.o.c 2 _ rfl;have g3:=f.o.c 3 _ rfl;clear hf hB;cases hr:Gm.ja G
 ·have HQ:=aA (Au.lK hr);rw[hr]at ai;clear hr
  go_enter func27,ntmps27
  go_wp2_with fail
  refine(ai.o _ f.o.below).mono ?_;rintro _ w2 ⟨rfl,hb⟩;have HB:=aA (f.o.on hb);clear hb g0 g1 g2 g3;go_wp2
  go_ret2
  exact sN.nil HQ.o HB.o.below
 ·have HR:=aA hr;have au:=aA (Gm.fq.1 (Gm.gx hr));rw[hr]at ai;have bT:=fun t w=>Fh (P:=prog) t w;clear hr
  go_enter func27,ntmps27
  go_wp2_with fail
  refine(ai.o _ f.o.below).mono ?_;rintro _ w2 ⟨rfl,hb⟩;have HB:=aA (f.o.on hb);have g0:=HB.o.c 0 _ rfl;have g1:=HB.o.c 1 _ rfl;have g2:=HB.o.c 2 _ rfl;have g3:=HB.o.c 3 _ rfl;clear hb;obtain⟨w3,n⟩:=χ (w2.alloc (.map #[] 0))
  have av:w3.heap.size=w2.heap.size+1:=by rw[n];simp
  have b3:β w2 w3:=by rw[n];exact(AB _ _).alloc (Af _) _
  have m3:Mw.iL sM w3 w2.heap.size []:=by rw[n];exact Mw.iL.made sM w2
  obtain⟨w4,b⟩:=χ (w3.alloc (.cells #[.slice AT G.ts.length cT,.slice AN G.ns.length cN,.slice AR G.rs.length cR,.int .i64 G.st,.slice none 0 0,.map (some w2.heap.size)] 120))
  have bX:w4.heap.size=w2.heap.size+2:=by rw[b];simp[av]
  have b4:β w3 w4:=by rw[b];exact(AB _ _).alloc (Af _) _
  have c4:w4.heap[w2.heap.size+1]?=some (.cells (F7 (.slice AT G.ts.length cT) (.slice AN G.ns.length cN) (.slice AR G.rs.length cR) (.int .i64 G.st) (.slice none 0 0) w2.heap.size) 120 (0,0)):=by rw[b,<-av];exact AI w3 _
  have b0:=HB.o.size;have d:Hid (lF w4 w.heap.size (w2.heap.size+1) w2.heap.size w.heap.size (.slice AT G.ts.length cT) (.slice AN G.ns.length cN) (.slice AR G.rs.length cR) (.int .i64 G.st) []):=aA ⟨⟨_,c4,pd.nil _ _ _ _⟩,⟨[],m3.block (b4.block _ m3.lt),Au.lP.nil⟩,ω,ω⟩;have b1:Hid (β w w4):=aA ((HB.o.below.trans (b3.mono ω)).trans (b4.mono ω));obtain⟨w5,aj⟩:=χ (w4.alloc (.cells #[.int .i64 (-1),.int .i64 0] 61))
  have b5:β w4 w5:=by rw[aj];exact(AB _ _).alloc (Af _) _
  have c5:w5.heap[w4.heap.size]?=some (.cells #[.int .i64 (-1),.int .i64 0] 61 (0,0)):=by rw[aj];exact AI w4 _
  have aw:=aA (d.o.below b5);have bi:Hid (β w w5):=aA (b1.o.trans (b5.mono ω))
  have ak:=aA (Ld w5 w.heap.size (w2.heap.size+1) w2.heap.size w.heap.size _ _ _ _ [] [(-1,0)] (some ⟨w4.heap.size,0,none⟩) 1 aw.o ⟨Af _,σ,fun _=>⟨w4.heap.size,_,rfl,ω,(Ad.1 c5).1,c5,fun i hi j u hu=>by
   have:i=0:=by simp at hi;omega
   subst this
   match j,hu with
   | 0,hu=>exact hu
   | 1,hu=>exact hu
   | j+2,hu=>simp[fM]at hu⟩⟩ (fun z hz=>by simp[Au.jI]at hz;omega) σ σ)
  have hN:ye [] [((-1:Int),(0:Int))]=0:=rfl;have hS:wH [] [((-1:Int),(0:Int))] (some ⟨w4.heap.size,0,none⟩) 1=[bK [(-1,0)] (some ⟨w4.heap.size,0,none⟩) 1]:=rfl;rw[hN,hS]at ak;clear b3 m3 b4 c4 b5 c5 b0 hN hS;obtain⟨R,ax⟩:∃R,R=w2.heap.size+1:=⟨_,rfl⟩
  rw[<-ax]at ak d aw;go_upto_region 3 with fail
  go_upto_region 4 with fail
  rw[<-n,<-b,<-ax];clear n b av bX ax bT;obtain⟨M,ay⟩:∃M,M=w2.heap.size:=⟨_,rfl⟩
  rw[<-ay]at ak d aw;rw[<-ay];clear ay g0 g1 g2 g3;go_wp2_with fail
  rw[<-aj];clear aj;refine ak.o.mono ?_;rintro _ w6 ⟨rfl,bj,bk,bl⟩;have b6:=aA (bj.more (NE':=w6.heap.size) (Ah (Ah (Af _) bi.o.size) bl.size));have b7:=aA (bi.o.trans bk);have b8:Hid (Au.Inv G [[(-1,0)]] []):=aA (Au.Inv.start G);have az:Hid (Au.run G (302-([]:List (List (Int×Int))).length) [[(-1,0)]] []=Au.ku G):=aA rfl;have a0:Hid (aX [bK [((-1:Int),(0:Int))] (some ⟨w4.heap.size,0,none⟩) 1]=[[(-1,0)]]):=aA rfl;have b9:Hid ([bK [((-1:Int),(0:Int))] (some ⟨w4.heap.size,0,none⟩) 1].map (fun q:QS=>q.2.1)=[]++List.replicate (1-0) []):=aA rfl;clear bj bk bl;generalize [bK [((-1:Int),(0:Int))] (some ⟨w4.heap.size,0,none⟩) 1]=qs0 at *;go_wp2;go_loopw [5] (fun vi wr=>∃(ks:List (List Au.It)) (es:List (List (Int×Int))) (qs:List QS),vi=.int .i64 (es.length:Nat)/\ks.length<=300/\es.length<=ks.length/\Hid (Au.Inv G ks es)/\Hid (Au.run G (302-es.length) ks es=Au.ku G)/\Hid (aX qs=ks)/\Hid (qs.map (fun q:QS=>q.2.1)=es++List.replicate (ks.length-es.length) [])/\Hid (lF wr w.heap.size R M wr.heap.size (.slice AT G.ts.length cT) (.slice AN G.ns.length cN) (.slice AR G.rs.length cR) (.int .i64 G.st) qs)/\Hid (β w wr)) (fun vi _=>301-(intOf vi).toNat)
  case atStart=>exact⟨[[(-1,0)]],[],qs0,rfl,σ,σ,b8,az,a0,b9,b6,b7⟩
  case round =>
   obtain⟨ks,es,qs,rfl,al,bm,HI,a1,am,HE,HA,HW⟩:=hrel;obtain⟨⟨vS,h1,h2⟩,_⟩:=HA.o;have a2:qs.length=ks.length:=by rw[<-am.o];unfold aX;rw[Bh]
   by_cases g:es.length<ks.length
   ·have ao:es.length<qs.length:=ω
    obtain⟨gS,cS,rfl,ap,aq,_⟩:=aK.addr h2.1 ω;have c4:=qJ h1;have k0:wr.cell? ⟨gS,es.length*2,none⟩=some (.slice (qs[es.length]).1.2.1 (qs[es.length]).1.1.length (qs[es.length]).1.2.2):=aK.cellAt h2.1 oX es.length 0 ao _ rfl
    have a3:ks.getD es.length []=(qs[es.length]).1.1:=by
     rw[<-am.o];unfold aX;rw[Aw,BO,AH ao];rfl
    have a4:(qs[es.length]).1.1∈ks:=by
     rw[<-a3,Aw,AH g];exact AD g
    have bn:=HI.o.it _ a4;have ar:=aA (PE G wr w.heap.size R M wr.heap.size B AT AN AR cT cN cR qs (qs[es.length]).1.1 (qs[es.length]).1.2.1 (qs[es.length]).1.2.2 (HG.o.below HW.o bh.o) HF.o au.o bh.o HA.o ((h2.2 _ (AD ao)).1) bn.2 (Ah (Au.lM au.o au.o.kL HI.o a4) ω) ω (Af _));unfold JV at ar;rw[am.o]at ar;have ca:Hid (Au.fZ G (Au.jb G (qs[es.length]).1.1) (ks,[]) (Au.syms G)=Au.one G ks es.length):=aA (by unfold Au.one;rw[a3]);rw[ca.o]at ar;have bo:=aA (Au.qd (G:=G) g al);have bp:=aA (HI.o.step g);generalize Au.one G ks es.length=O at *;generalize (qs[es.length]).1.1=k at *;generalize (qs[es.length]).1.2.1=Ak at *;generalize (qs[es.length]).1.2.2=ck at *;have cb:((es.length:Nat):Int)<((qs.length:Nat):Int):=ω
    have bq:=aA a2;have cc:=aA g;clear h1 h2 a3 a4 bn ap aq;go_wp2_with fail
    refine ar.o.mono ?_;rintro _ w3 ⟨v3,new,rfl,a5,ac,ae,br,bs,af⟩;obtain⟨Ae,ce,rfl,a6,ag,_⟩:=aK.form a5 aG;have bu:=aA (br.more (NE':=w3.heap.size) af.size);have cd:=aA (HW.o.trans bs);obtain⟨⟨vS3,a9,l⟩,_⟩:=bu.o;have m:es.length<(qs++new).length:=by rw[AZ];omega
    obtain⟨gS3,cS3,rfl,ba,bb,ah⟩:=aK.addr l.1 ω;have c43:=qJ a9;have d0:=aK.cellAt l.1 oX es.length 1 m _ rfl;have cf:=aK.lt l.1
    obtain⟨cur3,ab⟩:∃cur,w3.heap[gS3]?=some (.cells cur 59 (0,0)):=by
     rcases l.1.2 with⟨e,_⟩|⟨g2,cap,cur,e,_,hg,_⟩
     ·cases e
     ·injection e with e _ _;injection e with e;injection e with e;subst e;exact⟨cur,hg⟩
    have fz:=AM w3 gS3 (es.length*2+1) _ _ ab;have d:=aA (bu.o.vy a9 rfl es.length (((qs++new)[es.length]).1,(O.2,Ae,ce)) m rfl ⟨(l.2 _ (AD m)).1,⟨a6,by unfold maxLen at ag;exact(Ah ag ω),(aK.jK a5).less HW.o.size⟩⟩);have cg:Hid (((qs++new).set es.length (((qs++new)[es.length]).1,(O.2,Ae,ce))).map (fun q:QS=>q.2.1)=(es++[O.2])++List.replicate ((ks.length+new.length)-(es++[O.2]).length) []):=aA (Pr (y:=(((qs++new)[es.length]).1,(O.2,Ae,ce))) HE.o cc.o ae)
    have ch:Hid (aX ((qs++new).set es.length (((qs++new)[es.length]).1,(O.2,Ae,ce)))=O.1):=aA (by
     rw[<-ac];unfold aX;rw[Cy];refine C3 fun j=>?_;rw[Dq];by_cases bv:es.length=j
     ·subst bv;rw[Az rfl,Az (by simpa using m),BO,AH m];rfl
     ·rw[AJ bv])
    have bw:Hid (O.1.length=ks.length+new.length):=aA (by rw[<-ac];unfold aX;rw[Bh,AZ,bq.o]);have ci:Hid ((qs++new).length=ks.length+new.length):=aA (by rw[AZ,bq.o])
    change Hid (lF (w3.setCell ⟨gS3,es.length*2+1,none⟩ (.slice Ae O.2.length ce)) w.heap.size R M w3.heap.size (.slice AT G.ts.length cT) (.slice AN G.ns.length cN) (.slice AR G.rs.length cR) (.int .i64 G.st) ((qs++new).set es.length (((qs++new)[es.length]).1,(O.2,Ae,ce)))) at d
    obtain⟨u0,cj⟩:∃u,w3.cell? ⟨gS3,es.length*2+1,none⟩=some u:=⟨_,d0⟩
    have bc:Hid (Below w.heap.size w (w3.setCell ⟨gS3,es.length*2+1,none⟩ (.slice Ae O.2.length ce))):=aA (cd.o.setCell ah _);have ad:(w3.setCell ⟨gS3,es.length*2+1,none⟩ (.slice Ae O.2.length ce)).heap.size=w3.heap.size:=σ
    obtain⟨w4,b⟩:∃y,y=w3.setCell ⟨gS3,es.length*2+1,none⟩ (.slice Ae O.2.length ce):=⟨_,rfl⟩
    rw[<-b]at d bc ad;rw[<-ad]at d;have cl:Hid (((qs++new).set es.length (((qs++new)[es.length]).1,(O.2,Ae,ce))).length=ks.length+new.length):=aA (by rw[CE];exact ci.o);generalize (qs++new).set es.length (((qs++new)[es.length]).1,(O.2,Ae,ce))=qs2 at *;have cu:((es.length:Nat):Int)<(((qs++new).length:Nat):Int):=ω
    clear a9 l a5 ae br bs af ac ba bb ah ab m ad c4 k0 d0;generalize (qs++new).length=nq at *;go_upto_region 10 with fail
    rw[<-b];clear b c43 cj fz cf;obtain⟨⟨vS4,bx,bz⟩,_⟩:=d.o;obtain⟨A4,c4',rfl,_,_,_⟩:=aK.form bz.1 oX;have c44:=qJ bx;rw[cl.o,<-bw.o]at c44;clear bx bz;by_cases aa:300<O.1.length
    ·have p:=aA (Au.jO HR.o (by rw[<-a1.o,bo.o,Az aa]));have cm:(300:Int)<((O.1.length:Nat):Int):=ω
     clear aa al bm g ao a2;generalize O.1.length=no at *;go_wp2
     go_ret2
     exact sN.nil p.o bc.o
    ·have bd:Hid (Au.run G (302-(es++[O.2]).length) O.1 (es++[O.2])=Au.ku G):=aA (by rw[<-a1.o,bo.o,AJ aa]);have cm:((O.1.length:Nat):Int)<=(300:Int):=ω
     have cn:O.1.length<=300:=ω
     have co:Hid (qs2.map (fun q:QS=>q.2.1)=(es++[O.2])++List.replicate (O.1.length-(es++[O.2]).length) []):=aA (by rw[bw.o];exact cg.o);have cp:Hid ((es++[O.2]).length=es.length+1):=aA σ;have cq:Hid ((es++[O.2]).length<=O.1.length):=aA bp.o.le;clear aa;go_wp2;go_roundw
     case rel=>exact⟨O.1,es++[O.2],qs2,by rw[cp.o];go_num,cn,cq.o,bp,bd,ch,co,d,bc⟩
     case measure=>simp[intOf];omega
   ·have bf:es.length=ks.length:=ω
    have p:=aA (Au.jy HR.o (by rw[<-a1.o];exact Au.kh bf al));obtain⟨AS,cS,rfl,ap,aq,_⟩:=aK.form h2.1 oX;have c4:=qJ h1
    have bg:qs.map yP=ks.zip es:=by
     have e1:=am.o;have e2:=HE.o;rw[bf,DB,Er,CG]at e2;rw[<-e1,<-e2];unfold aX;rw[List.zip_map'];rfl
    have bD:=aA (pd.rd h2 (Af _) (Af _));rw[bg]at bD;have bM:Hid ((Au.kv G).length=qs.length):=aA (by rw[p.o.2,<-bg,Bh]);have cr:=aA ap;have cs:=aA (show cS<=9223372036854775807 by unfold maxLen at aq;omega);have cv:¬((es.length:Nat):Int)<((qs.length:Nat):Int):=ω
    clear h1 h2 bg ap aq g bf bm al a2;generalize es.length=ne at *;generalize qs.length=nq at *;go_wp2
    go_ret2
    refine⟨AS,cS,?_,by rw[bM.o];exact cr.o,cs.o,by rw[p.o.2];exact bD.o,HW.o⟩;rw[bM.o,p.o.1];rfl
theorem Gm.y9 {A B:Gm.Gr} (h1:A.ts=B.ts) (h2:A.ns=B.ns) (h3:A.rs=B.rs) (h4:A.st=B.st):A=B:=by
 cases A
 cases B
 simp only at h1 h2 h3 h4;subst h1 h2 h3 h4;rfl
theorem Gm.sd (h:Gm.ja G=true):∀x∈G.rs,Gm.Rc G x.l/\Gm.Al true G.rs x.r:=by
 unfold Gm.ja at h;rw[Bd,Bj]at h;obtain⟨h1,h2⟩:=h;have hG:Gm.nL G=Gm.reduce G:=by unfold Gm.nL;rw[Az h1]
 rw[hG]at h2;have he:∀ {α:Type} {a b:α},jf a b=true->a=b:=fun {α a b} q=>BX fun k=>by rw[qo k]at q;cases q
 unfold Gm.same at h2;simp only[Bd]at h2;obtain⟨⟨⟨e1,e2⟩,e3⟩,e4⟩:=h2;have e:Gm.reduce G=G:=Gm.y9 (he e1).symm (he e2).symm (he e3).symm (he e4).symm;intro x hx
 have:x∈(Gm.reduce G).rs:=by rw[e];exact hx
 have:=Gm.xH this
 rw[e]at this;exact Gm.fV.1 this
namespace Lk
open Au Gm Go.Mw
def TS (E:List (List (Int×Int))) (i j:Nat) (tl:List ((Int×Int)×Value)):Prop:=∀q s t,q<E.length->(s,t)∈E.getD q []->(q<i\/q=i/\(s,t)∈(E.getD i []).take j)->fH tl ((q:Int),s)=some (.int .i64 t)
theorem TS.start (E:List (List (Int×Int))):TS E 0 0 []:=fun q s t hq h k=>by
 rcases k with k|⟨_,k⟩
 ·omega
 ·simp at k
theorem TS.next {tl:List ((Int×Int)×Value)} (h:TS E i (E.getD i []).length tl):TS E (i+1) 0 tl:=fun q s t hq hm k=>by
 rcases k with k|⟨_,k⟩
 ·rcases BM q i with k2|k2
  ·exact h q s t hq hm (.inl k2)
  ·obtain rfl:q=i:=ω
   exact h q s t hq hm (.inr ⟨rfl,by rw[Bp];exact hm⟩)
 ·simp at k
theorem TS.put {j:Nat} {tl:List ((Int×Int)×Value)} (h:TS E i j tl) (hn:((E.getD i []).map (·.1)).Nodup) (hj:j<(E.getD i []).length):TS E i (j+1) (hX tl ((i:Int),(E.getD i [])[j].1) (.int .i64 (E.getD i [])[j].2)):=fun q s t hq hm k=>by
 rw[j6];by_cases e:((i:Int),(E.getD i [])[j].1)=((q:Int),s)
 ·rw[Az e];injection e with e1 e2;have e1:i=q:=ω
  subst e1 e2;have h1:((E.getD i [])[j].1,(E.getD i [])[j].2)∈E.getD i []:=AD hj;have a1:=GZ hn h1;have a2:=GZ hn hm;rw[a1]at a2;rw[a2]
 ·rw[AJ e];refine h q s t hq hm ?_;rcases k with k|⟨rfl,k⟩
  ·exact .inl k
  ·refine .inr ⟨rfl,?_⟩;rw[AP hj]at k;rcases Bs.1 k with k|k
   ·exact k
   ·rw[AW]at k;exact absurd (by rw[<-k]) e
theorem TS.done {tl:List ((Int×Int)×Value)} (h:TS E E.length 0 tl) {j:Nat} (he:Ed E i s j):fH tl ((i:Int),s)=some (.int .i64 (j:Int)):=by
 obtain⟨hi,he⟩:=he;exact h i s j hi (by rw[Aw,AH hi];exact he) (.inl hi)
end Lk
structure EJ (w1:World) (G:Gm.Gr) (g0 g1 g2 g3:Value) (todo:List Nat) (wx:World) (x12 x13 x14 x15 x16 x5:Value) (At:Option Addr) (ct T M D c:Nat):Prop where
 t:∀k∈todo,k=2\/k=3\/k=4\/k=5\/k=6\/k=7
 b:β w1 wx
 h2:2 ∉ todo->x12=.slice At (Lk.fO G).length ct/\cF wx At G
 h3:3 ∉ todo->x13=.map (some T)/\w1.heap.size<=T/\wx.heap[T]?=some (.map #[] 0)
 h4:4 ∉ todo->x14=.map (some M)/\w1.heap.size<=M/\wx.heap[M]?=some (.map #[] 0)
 h5:5 ∉ todo->x15=.map (some D)/\w1.heap.size<=D/\wx.heap[D]?=some (.map #[] 0)
 h6:6 ∉ todo->(2 ∉ todo/\3 ∉ todo/\4 ∉ todo/\5 ∉ todo)/\x16=.agg (qH g0 g1 g2 g3 (.slice At (Lk.fO G).length ct) T M D)
 h7:7 ∉ todo->x5=.pointer (some ⟨c,0,none⟩)/\w1.heap.size<=c/\wx.heap[c]?=some (.cells #[.slice none 0 0,.slice none 0 0,.slice none 0 0,.int .i64 0,.slice none 0 0,.map none,.map none,.map none] 174 (0,0))
 d34:3 ∉ todo->4 ∉ todo->T≠M
 d35:3 ∉ todo->5 ∉ todo->T≠D
 d45:4 ∉ todo->5 ∉ todo->M≠D
section
variable {w1:World} {G:Gm.Gr} {g0 g1 g2 g3:Value} {todo:List Nat} {wx w':World} {x12 x13 x14 x15 x16 x5:Value} {At:Option Addr} {ct T M D c:Nat}
theorem EJ.Jd (h:EJ w1 G g0 g1 g2 g3 todo wx x12 x13 x14 x15 x16 x5 At ct T M D c) (hm:2∈todo) (hb:β wx w') {A':Option Addr} {c':Nat} (ho:cF w' A' G):EJ w1 G g0 g1 g2 g3 (todo.erase 2) w' (.slice A' (Lk.fO G).length c') x13 x14 x15 x16 x5 A' c' T M D c where
 t k hk:=h.t k (Bv hk)
 b:=h.b.trans (hb.mono h.b.size)
 h2 _:=⟨rfl,ho⟩
 h3 q:=by obtain⟨a1,a2,a3⟩:=h.h3 (aE q δ);exact⟨a1,a2,aC hb a3⟩
 h4 q:=by obtain⟨a1,a2,a3⟩:=h.h4 (aE q δ);exact⟨a1,a2,aC hb a3⟩
 h5 q:=by obtain⟨a1,a2,a3⟩:=h.h5 (aE q δ);exact⟨a1,a2,aC hb a3⟩
 h6 q:=absurd hm (h.h6 (aE q δ)).1.1
 h7 q:=by obtain⟨a1,a2,a3⟩:=h.h7 (aE q δ);exact⟨a1,a2,aC hb a3⟩
 d34 q1 q2:=h.d34 (aE q1 δ) (aE q2 δ)
 d35 q1 q2:=h.d35 (aE q1 δ) (aE q2 δ)
 d45 q1 q2:=h.d45 (aE q1 δ) (aE q2 δ)
theorem rN (w:World):Below w.heap.size w (w.alloc (.map #[] 0))/\(w.alloc (.map #[] 0)).heap[w.heap.size]?=some (.map #[] 0):=⟨(AB _ _).alloc (Af _) _,AI w _⟩
theorem EJ.zC (h:EJ w1 G g0 g1 g2 g3 todo wx x12 x13 x14 x15 x16 x5 At ct T M D c) (hm:3∈todo):EJ w1 G g0 g1 g2 g3 (todo.erase 3) (wx.alloc (.map #[] 0)) x12 (.map (some wx.heap.size)) x14 x15 x16 x5 At ct wx.heap.size M D c where
 t k hk:=h.t k (Bv hk)
 b:=h.b.alloc h.b.size _
 h2 q:=by obtain⟨a1,a2⟩:=h.h2 (aE q δ);exact⟨a1,a2.below (rN wx).1⟩
 h3 _:=⟨rfl,h.b.size,(rN wx).2⟩
 h4 q:=by obtain⟨a1,a2,a3⟩:=h.h4 (aE q δ);exact⟨a1,a2,aC (rN wx).1 a3⟩
 h5 q:=by obtain⟨a1,a2,a3⟩:=h.h5 (aE q δ);exact⟨a1,a2,aC (rN wx).1 a3⟩
 h6 q:=absurd hm (h.h6 (aE q δ)).1.2.1
 h7 q:=by obtain⟨a1,a2,a3⟩:=h.h7 (aE q δ);exact⟨a1,a2,aC (rN wx).1 a3⟩
 d34 _ q:=by have:=(Ad.1 (h.h4 (aE q δ)).2.2).1;omega
 d35 _ q:=by have:=(Ad.1 (h.h5 (aE q δ)).2.2).1;omega
 d45 q1 q2:=h.d45 (aE q1 δ) (aE q2 δ)
theorem EJ.Je (h:EJ w1 G g0 g1 g2 g3 todo wx x12 x13 x14 x15 x16 x5 At ct T M D c) (hm:4∈todo):EJ w1 G g0 g1 g2 g3 (todo.erase 4) (wx.alloc (.map #[] 0)) x12 x13 (.map (some wx.heap.size)) x15 x16 x5 At ct T wx.heap.size D c where
 t k hk:=h.t k (Bv hk)
 b:=h.b.alloc h.b.size _
 h2 q:=by obtain⟨a1,a2⟩:=h.h2 (aE q δ);exact⟨a1,a2.below (rN wx).1⟩
 h3 q:=by obtain⟨a1,a2,a3⟩:=h.h3 (aE q δ);exact⟨a1,a2,aC (rN wx).1 a3⟩
 h4 _:=⟨rfl,h.b.size,(rN wx).2⟩
 h5 q:=by obtain⟨a1,a2,a3⟩:=h.h5 (aE q δ);exact⟨a1,a2,aC (rN wx).1 a3⟩
 h6 q:=absurd hm (h.h6 (aE q δ)).1.2.2.1
 h7 q:=by obtain⟨a1,a2,a3⟩:=h.h7 (aE q δ);exact⟨a1,a2,aC (rN wx).1 a3⟩
 d34 q _:=by have:=(Ad.1 (h.h3 (aE q δ)).2.2).1;omega
 d35 q1 q2:=h.d35 (aE q1 δ) (aE q2 δ)
 d45 _ q:=by have:=(Ad.1 (h.h5 (aE q δ)).2.2).1;omega
theorem EJ.uS (h:EJ w1 G g0 g1 g2 g3 todo wx x12 x13 x14 x15 x16 x5 At ct T M D c) (hm:5∈todo):EJ w1 G g0 g1 g2 g3 (todo.erase 5) (wx.alloc (.map #[] 0)) x12 x13 x14 (.map (some wx.heap.size)) x16 x5 At ct T M wx.heap.size c where
 t k hk:=h.t k (Bv hk)
 b:=h.b.alloc h.b.size _
 h2 q:=by obtain⟨a1,a2⟩:=h.h2 (aE q δ);exact⟨a1,a2.below (rN wx).1⟩
 h3 q:=by obtain⟨a1,a2,a3⟩:=h.h3 (aE q δ);exact⟨a1,a2,aC (rN wx).1 a3⟩
 h4 q:=by obtain⟨a1,a2,a3⟩:=h.h4 (aE q δ);exact⟨a1,a2,aC (rN wx).1 a3⟩
 h5 _:=⟨rfl,h.b.size,(rN wx).2⟩
 h6 q:=absurd hm (h.h6 (aE q δ)).1.2.2.2
 h7 q:=by obtain⟨a1,a2,a3⟩:=h.h7 (aE q δ);exact⟨a1,a2,aC (rN wx).1 a3⟩
 d34 q1 q2:=h.d34 (aE q1 δ) (aE q2 δ)
 d35 q _:=by have:=(Ad.1 (h.h3 (aE q δ)).2.2).1;omega
 d45 q _:=by have:=(Ad.1 (h.h4 (aE q δ)).2.2).1;omega
theorem EJ.uT (h:EJ w1 G g0 g1 g2 g3 todo wx x12 x13 x14 x15 x16 x5 At ct T M D c) (m2:2 ∉ todo) (m3:3 ∉ todo) (m4:4 ∉ todo) (m5:5 ∉ todo):EJ w1 G g0 g1 g2 g3 (todo.erase 6) wx x12 x13 x14 x15 (.agg (qH g0 g1 g2 g3 (.slice At (Lk.fO G).length ct) T M D)) x5 At ct T M D c where
 t k hk:=h.t k (Bv hk)
 b:=h.b
 h2 _:=h.h2 m2
 h3 _:=h.h3 m3
 h4 _:=h.h4 m4
 h5 _:=h.h5 m5
 h6 _:=⟨⟨fun m=>m2 (Bv m),fun m=>m3 (Bv m),fun m=>m4 (Bv m),fun m=>m5 (Bv m)⟩,rfl⟩
 h7 q:=h.h7 (aE q δ)
 d34 _ _:=h.d34 m3 m4
 d35 _ _:=h.d35 m3 m5
 d45 _ _:=h.d45 m4 m5
theorem EJ.uU (h:EJ w1 G g0 g1 g2 g3 todo wx x12 x13 x14 x15 x16 x5 At ct T M D c):EJ w1 G g0 g1 g2 g3 (todo.erase 7) (wx.alloc (.cells #[.slice none 0 0,.slice none 0 0,.slice none 0 0,.int .i64 0,.slice none 0 0,.map none,.map none,.map none] 174)) x12 x13 x14 x15 x16 (.pointer (some ⟨wx.heap.size,0,none⟩)) At ct T M D wx.heap.size where
 t k hk:=h.t k (Bv hk)
 b:=h.b.alloc h.b.size _
 h2 q:=by obtain⟨a1,a2⟩:=h.h2 (aE q δ);exact⟨a1,a2.below ((AB _ wx).alloc (Af _) _)⟩
 h3 q:=by obtain⟨a1,a2,a3⟩:=h.h3 (aE q δ);exact⟨a1,a2,aC ((AB _ wx).alloc (Af _) _) a3⟩
 h4 q:=by obtain⟨a1,a2,a3⟩:=h.h4 (aE q δ);exact⟨a1,a2,aC ((AB _ wx).alloc (Af _) _) a3⟩
 h5 q:=by obtain⟨a1,a2,a3⟩:=h.h5 (aE q δ);exact⟨a1,a2,aC ((AB _ wx).alloc (Af _) _) a3⟩
 h6 q:=by obtain⟨⟨b1,b2,b3,b4⟩,a2⟩:=h.h6 (aE q δ);exact⟨⟨fun m=>b1 (Bv m),fun m=>b2 (Bv m),fun m=>b3 (Bv m),fun m=>b4 (Bv m)⟩,a2⟩
 h7 _:=⟨rfl,h.b.size,AI wx _⟩
 d34 q1 q2:=h.d34 (aE q1 δ) (aE q2 δ)
 d35 q1 q2:=h.d35 (aE q1 δ) (aE q2 δ)
 d45 q1 q2:=h.d45 (aE q1 δ) (aE q2 δ)
end
end Go.Proofs.YtjjbaehamplnaaaGreat
