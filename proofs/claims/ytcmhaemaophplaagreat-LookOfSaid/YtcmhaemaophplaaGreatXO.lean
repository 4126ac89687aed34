/- Part of the proofs over this program: RfClos, RfMov, RfMv2, RfEq, Alive16, RlSt, RlGive, RfWalk, FstRef. -/
import Derived.Test.YtcmhaemaophplaaGreatXN
set_option linter.all false
namespace Go
def Ex:=@Nat.le_add_right
def C9:=@List.getElem_set_self
def DL:=@List.getElem_set_ne
end Go
open Go.RowKit Go.Proofs.Tryz
set_option maxRecDepth 100000
set_option maxHeartbeats 40000000
namespace Go.Proofs.YtcmhaemaophplaaGreat
variable {G:Gm.Gr} {cs:Array Go.Value} {fr:Nat×Nat} {g i k q:Nat} {rs:List Gm.Rl} {x:Int×Int}
namespace Au
theorem KI:∀ {zs out:List It},out.length<=(ir out zs).length
 | [],_=>Af _
 | z::zs,out=>by
  have h:out.length<=(put out z).length:=by
   by_cases hz:z∈out
   ·induction out with
    | nil=>simp
    | cons y l ih =>
     rw[put];split
     ·rw[BC,BC];by_cases hl:z∈l
      ·have:=ih hl;omega
      ·have:=GB hl;omega
     ·split <;> simp
   ·have:=GB hz;omega
  exact Aj h (KI (zs:=zs) (out:=put out z))
theorem nS:∀ {zs out:List It},j6 out->(ir out zs).length<=out.length->ir out zs=out/\∀z∈zs,z∈out
 | [],_,_,_=>⟨rfl,fun _ h=>by cases h⟩
 | z::zs,out,hs,h=>by
  have e:ir out (z::zs)=ir (put out z) zs:=rfl;rw[e]at h ⊢;have h1:=KI (zs:=zs) (out:=put out z);have hz:z∈out:=PU (by omega);rw[Mi hs hz]at h ⊢;obtain⟨h2,h3⟩:=nS hs h;refine⟨h2,fun y hy=>?_⟩;rcases Bu.1 hy with rfl|hy
  ·exact hz
  ·exact h3 y hy
theorem iB.Fo {l out:List It} (k:iB G l out) {x:It} (hx:x∈out):iB G l (ir out (kx G x)) :=
 ⟨Ge k.s,fun y hy=>xS.2 (.inl (k.h y hy)),fun y hy=>(xS.1 hy).elim (k.c y) fun h=>by
  obtain⟨s,hs,h0,j,hj,hl,rfl⟩:=zR.1 h;exact .on x (k.c x hx) s hs h0 j hj hl⟩
def og (G:Gm.Gr) (out:List It) (i:Nat):Prop:=∀j (h:j<out.length),j<i->∀z∈kx G out[j],z∈out
theorem og.zero (G:Gm.Gr) (out:List It):og G out 0:=fun _ _ h=>absurd h (De _)
theorem og.next {out:List It} (h:og G out i) (hi:i<out.length) (hz:∀z∈kx G out[i],z∈out):og G out (i+1):=fun j hj ab z aa=>by
 rcases Bx j i with h1|h1
 ·exact h j hj h1 z aa
 ·obtain rfl:j=i:=by omega
  exact hz z aa
theorem iB.end_ {l out:List It} (hl:∀x∈l,gj G x=true) (k:iB G l out) (h:og G out out.length):out=iU G l :=
 k.done hl fun x hx s hs h0 j hj he=>by
  obtain⟨q,hq,rfl⟩:=BF hx;exact h q hq hq _ (zR.2 ⟨s,hs,h0,j,hj,he,rfl⟩)
theorem oY:∀ {zs out:List It},(ir out zs).length<=out.length+zs.length
 | [],_=>Af _
 | z::zs,out=>by
  have h1:=Sk out z;have h2:=oY (zs:=zs) (out:=put out z);have e:ir out (z::zs)=ir (put out z) zs:=rfl;rw[e,BC];omega
end Au
def zS:Value->Nat
 | .slice _ n _=>n
 | _=>0
theorem JI (v:Value) (G:Gm.Gr) (B:Nat) (l:List Au.It) (A:Option Addr) (c BL:Nat) (w:World) (hg:aT w B v G) (hf:Gm.Fit G) (ag:Gm.Ok G) (hB:B<=w.heap.size) (hl:jm 2 fO w BL A l) (ap:BL<=w.heap.size) (hi:∀x∈l,Au.gj G x=true) (a1:l.length<=1000) :
  Calls prog 37 #[v,.slice A l.length c] w fun e w'=>∃v',e=.returned v'/\aJ 60 2 fO w' w.heap.size v' (Au.iU G l)/\Below w.heap.size w w':=by
 have HG:=aA hg;have HF:=aA hf;have m:=aA ag;have ah:=aA hB;have HL:=aA hl;have a2:=aA ap;have aa:=aA hi;obtain⟨AT,cT,AN,cN,AR,cR,rfl,_,_,⟨bq,br⟩,_,_,hR⟩:=hg;have HR:=aA hR;have ab:=aA (bE.start 26 w #[.slice AT G.ts.length cT,.slice AN G.ns.length cN,.slice AR G.rs.length cR,.int .i64 G.st]);have bs:(l.length:Int)<=1000:=by omega
 have bu:(G.rs.length:Int)<=40:=by have:=ag.kz;omega
 clear hf ag hB hl ap hi hR
 go_enter func37,ntmps37
 go_wp2;go_loopw [5,6] (fun vo vi wr=>∃i:Nat,i<=l.length/\vi=.int .i64 i/\Hid (aJ 60 2 fO wr (w.heap.size+1) vo (Au.ir [] (l.take i)))/\Hid (bE 26 w #[.slice AT G.ts.length cT,.slice AN G.ns.length cN,.slice AR G.rs.length cR,.int .i64 G.st] wr)) (fun _ vi _=>l.length-(intOf vi).toNat)
 case atStart=>exact⟨0,AV _,rfl,aA (aJ.nil _ _),ab⟩
 case round =>
  obtain⟨i,hi,rfl,HO,HW⟩:=hrel;obtain⟨Ao,co,rfl,_,_,_⟩:=aJ.form HO.o aI;by_cases hlt:i<l.length
  ·obtain⟨g,o,rfl,ac,hc⟩:=HL.o (by omega);have aq:g<w.heap.size:=Ah ac a2.o;have k0:wr.cell? ⟨g,o+i*2,none⟩=some (.int .i64 (l[i]).1):=(HW.o.below.cell (p:=⟨g,o+i*2,none⟩) aq).trans (hc i hlt 0 _ rfl);have k1:wr.cell? ⟨g,o+i*2+1,none⟩=some (.int .i64 (l[i]).2):=(HW.o.below.cell (p:=⟨g,o+i*2+1,none⟩) aq).trans (hc i hlt 1 _ rfl);have a3:Hid (Au.ir [] (l.take (i+1))=Au.put (Au.ir [] (l.take i)) l[i]):=aA (by rw[AL hlt,Au.nU]);have ad:=aA (Ij wr (w.heap.size+1) _ _ l[i] HO.o HW.o.size (by have:=Au.oY (zs:=l.take i) (out:=[]);rw[Bd]at this;simp only[Eg]at this;omega));have ai:=aA (fun k e=>(Bk HO.o k e).1);clear hc;generalize l[i]=x at *;generalize (Au.ir [] (l.take i)).length=n at *;go_wp2_with fail
   refine ad.o.mono ?_;rintro _ w2 ⟨v2,rfl,aj,ar⟩;have C:=aA aj;have D:Hid (bE 26 w #[.slice AT G.ts.length cT,.slice AN G.ns.length cN,.slice AR G.rs.length cR,.int .i64 G.st] w2):=aA (DP HW.o ar HW.o.size (fun k e=>ai.o k e));obtain⟨A2,c2,rfl,_,_,_⟩:=aJ.form aj aI;clear aj ar k0 k1;go_wp2;go_roundw
   case rel=>exact⟨i+1,hlt,by go_num,aA (by rw[a3.o];exact C.o),D⟩
   case measure=>simp[intOf];omega
  ·obtain rfl:i=l.length:=by omega
   generalize (Au.ir [] (l.take l.length)).length=n0 at *;rw[Bn]at HO;have HC:=aA (Au.iB.start (G:=G) l);generalize Au.ir [] l=out0 at *;obtain⟨wo,a4⟩:∃wo:World,wo=wr:=⟨_,rfl⟩
   subst a4;go_wp2;go_loopw [5,7] (fun vo vi wr=>∃(i:Nat) (out:List Au.It),i<=out.length/\vi=.int .i64 i/\zS vo=out.length/\Hid (Au.iB G l out)/\Hid (Au.og G out i)/\Hid (aJ 60 2 fO wr (w.heap.size+1) vo out)/\Hid (bE 26 w #[.slice AT G.ts.length cT,.slice AN G.ns.length cN,.slice AR G.rs.length cR,.int .i64 G.st] wr)) (fun vo vi _=>(288-zS vo)*400+(399-(intOf vi).toNat))
   case atStart =>
    obtain⟨A3,c3,e,_⟩:=aJ.form HO.o aI;exact⟨0,out0,AV _,rfl,by rw[e];rfl,HC,aA (Au.og.zero _ _),HO,HW⟩
   case round =>
    obtain⟨i,out,hi,rfl,a5,HC,au,HO,HW⟩:=hrel;have a6:out.length<=287:=Aj (HC.o.le aa.o) (Au.j7 m.o m.o.kz);obtain⟨Ao,co,rfl,_,_,_⟩:=aJ.form HO.o aI;have a9:(out.length:Int)<=287:=by omega
    clear a5;by_cases hlt:i<out.length
    ·obtain⟨g,c1,he,bv,bw,_⟩:=aJ.addr HO.o (by omega);injection he with ba bb bc;subst ba;clear bb bc;have k0:wr.cell? ⟨g,i*2,none⟩=some (.int .i64 (out[i]).1):=aJ.cellAt HO.o aI i 0 hlt _ rfl;have k1:wr.cell? ⟨g,i*2+1,none⟩=some (.int .i64 (out[i]).2):=aJ.cellAt HO.o aI i 1 hlt _ rfl;have ak:=aJ.lt HO.o;have bd:(i:Int)<(out.length:Int):=by omega
     have av:Hid (Au.gj G out[i]=true):=aA (HC.o.is aa.o _ (AE hlt));have bf:Hid (out[i]∈out):=aA (AE hlt);have ae:=aA (fun(y:World) (h:Below wr.heap.size wr y)=>Ia _ G B out[i] y (HG.o.below (HW.o.below.trans (h.mono (Aj (Ex _ 1) HW.o.size))) ah.o) HF.o (Aj ah.o (Aj (Aj (Ex _ 1) HW.o.size) h.size)) av.o);have af:=aA (fun(h:∀z∈Au.kx G out[i],z∈out)=>au.o.next hlt h)
     have bg:Hid (∀s,Au.nx G out[i]=some s->-1000<=s/\s<=1000):=aA (fun s hs=>by
      have h1:=Gm.iS.1 (Au.iZ.1 (Au.qc m.o av.o hs));have h2:=(Gm.fG G).1 m.o.n;have h3:=(Gm.fZ G.ts).1 m.o.t
      omega)
     generalize out[i]=x at *;go_upto_region 9 with fail
     have z0:∀z:Calm.On wr.heap.size wr,z.1.cell? ⟨w.heap.size,0,none⟩=some (.slice AT G.ts.length cT):=fun z=>(HW.o.on z.2).c 0 _ rfl;have z1:∀z:Calm.On wr.heap.size wr,z.1.cell? ⟨w.heap.size,1,none⟩=some (.slice AN G.ns.length cN):=fun z=>(HW.o.on z.2).c 1 _ rfl;have z2:∀z:Calm.On wr.heap.size wr,z.1.cell? ⟨w.heap.size,2,none⟩=some (.slice AR G.rs.length cR):=fun z=>(HW.o.on z.2).c 2 _ rfl;have z3:∀z:Calm.On wr.heap.size wr,z.1.cell? ⟨w.heap.size,3,none⟩=some (.int .i64 G.st):=fun z=>(HW.o.on z.2).c 3 _ rfl;have q0:∀z:Calm.On wr.heap.size wr,z.1.cell? ⟨g,i*2,none⟩=some (.int .i64 x.1):=fun z=>(z.2.cell (p:=⟨g,i*2,none⟩) ak).trans k0;have q1:∀z:Calm.On wr.heap.size wr,z.1.cell? ⟨g,i*2+1,none⟩=some (.int .i64 x.2):=fun z=>(z.2.cell (p:=⟨g,i*2+1,none⟩) ak).trans k1;have ab:=aW wr;clear k0 k1;refine CalmN.fk (fun x=>∃z:Calm.On wr.heap.size wr,x=z.1) (.one [0,1,2,3,4] 5 (.fin [6,7,8,9,10])) (by kernel_rfl) (by kernel_rfl) (fun _ _ d _ _ h=>by cases d <;> exact h) ab.o ?_;simp only[CalmN.fN,CalmN.fv,CalmN.fo,Az,Am,Ap];repeat (go_big_quiet_step (fail))
     refine Aw ?_;intro KK q;rw[AC (by rfl)];go_wp2_with fail
     refine(ae.o wr.drew (aB (AB _ _) 1)).mono ?_;rintro _ w2 ⟨rfl,r⟩;have r:Below wr.heap.size wr w2:=(aB (AB _ wr) 1).trans r;have u:=qP r;have D:=aA (HW.o.on r);have C:=aA (HO.o.below r (Af _));clear r z0 z1 z2 z3 q0 q1 ak ae ab;cases hq:Au.nx G x with
     | none =>
      have hE:=Au.mi (G:=G) (x:=x) (fun s hs=>by rw[hq]at hs;cases hs);have f:=aA (af.o (by rw[hE];intro z hz;cases hz));clear hE hq;go_wp2_with fail
      refine q _ _ u.o _ (fun _ h=>h) u.o ?_;clear q;repeat (go_big_quiet_step (fail))
      refine Aw ?_;go_wp2;go_loopw [5,11] (fun vo vk wy=>vo=.slice (some ⟨g,0,none⟩) out.length co/\vk=.int .i64 0/\wy=w2) (fun _ _ _=>0)
      case atStart=>exact⟨rfl,rfl,by trivial⟩
      case round =>
       obtain⟨rfl,rfl,rfl⟩:=hrel;go_wp2;go_roundw
       case rel=>exact⟨i+1,out,hlt,by go_num,rfl,HC,f,C,D⟩
       case measure=>simp[intOf,zS];omega
     | some s =>
      have aw:=bg.o s hq;by_cases h0:s<0
      ·have hE:=Au.pH hq h0;have bx:IntKind.i64.wrap (-1-s) = -1-s:=B3 _ (by omega);have al:=aA (HC.o.Fo bf.o);have ax:=aA (fun h=>Au.nS (zs:=Au.kx G x) HC.o.s h);rw[hE]at al ax af;have bz:Hid (Au.ir out (Au.jn G (-1-s) 0)=out):=aA rfl
       have bh:Hid (∀k,(Au.ir out (Au.jn G (-1-s) k)).length<=287+k):=aA (fun k=>by
        have h1:=Au.oY (zs:=Au.jn G (-1-s) k) (out:=out);have h2:=Au.pJ G (-1-s) k
        omega)
       have ay:=aA hi;have bD:=aA a6;clear hE hq aw;go_wp2_with fail
       refine q _ _ u.o _ (fun _ h=>h) u.o ?_;clear q;repeat (go_big_quiet_step (fail))
       refine Aw ?_;go_wp2;go_loopw [5,11] (fun vo vk wy=>∃k:Nat,k<=G.rs.length/\vk=.int .i64 k/\Hid (aJ 60 2 fO wy (w.heap.size+1) vo (Au.ir out (Au.jn G (-1-s) k)))/\Hid (bE 26 w #[.slice AT G.ts.length cT,.slice AN G.ns.length cN,.slice AR G.rs.length cR,.int .i64 G.st] wy)) (fun _ vk _=>G.rs.length-(intOf vk).toNat)
       case atStart=>exact⟨0,AV _,rfl,C,D⟩
       case round =>
        obtain⟨k,hk,rfl,b,j⟩:=hrel;rename World=>wy;obtain⟨Ak,ck,rfl,_,_,_⟩:=aJ.form b.o aI;have r2:=j.o.c 2 _ rfl;by_cases E:k<G.rs.length
        ·obtain⟨gr,or,rfl,ac,hc⟩:=HR.o (by omega);have k0:=(j.o.below.cell (p:=⟨gr,or+k*3,none⟩) (Ah ac ah.o)).trans (hc k E).1;have hY:=Au.pK (left:=-1-s) E;have hN:=Au.rZ (left:=-1-s) E;have bi:(k:Int)<(G.rs.length:Int):=by omega
         have ad:=aA (Ij wy (w.heap.size+1) _ _ ((k:Int),0) b.o j.o.size (by have:=bh.o k;omega));have ai:=aA (fun k e=>(Bk b.o k e).1);clear hc ac;generalize (G.rs[k]).l=lf at *;generalize (Au.ir out (Au.jn G (-1-s) k)).length=nk at *;by_cases he:lf = -1-s
         ·have bj:=aA (hY he);have hq:(lf == -1-s)=true:=by rw[BJ];exact he
          clear hY hN he;go_wp2_with fail
          refine ad.o.mono ?_;rintro _ w5 ⟨v5,rfl,am,az⟩;have bk:=aA am;have bl:=aA (show bE 26 w _ w5 from DP j.o az j.o.size (fun k e=>ai.o k e));obtain⟨A5,c5,rfl,_,_,_⟩:=aJ.form am aI;clear am az k0 r2;go_wp2;go_roundw
          case rel=>exact⟨k+1,E,by go_num,aA (by rw[bj.o,Au.nU];exact bk.o),bl⟩
          case measure=>simp[intOf];omega
         ·have ae:=aA (hN he);have hq:(lf == -1-s)=false:=by rw[Ba];exact he
          clear hY hN he ad;go_wp2;go_roundw
          case rel=>exact⟨k+1,E,by go_num,aA (by rw[ae.o];exact b.o),j⟩
          case measure=>simp[intOf];omega
        ·obtain rfl:k=G.rs.length:=by omega
         have ao:=aA (al.o.le aa.o);have bm:=aA (Au.j7 m.o m.o.kz);generalize a0:Au.ir out (Au.jn G (-1-s) G.rs.length)=out2 at *;have bM:=aA a0;clear a0;by_cases bo:out.length<out2.length
         ·have bp:(out.length:Int)<(out2.length:Int):=by omega
          go_wp2;go_roundw
          case rel=>exact⟨0,out2,AV _,by go_num,rfl,al,aA (Au.og.zero _ _),b,j⟩
          case measure=>have h1:=ao.o;have h2:=bm.o;have h3:=ay.o;simp[intOf,zS];omega
         ·obtain⟨e1,e2⟩:=ax.o (by omega);have f:=aA (af.o e2);have bp:¬((out.length:Int)<(out2.length:Int)):=by omega
          subst e1;clear bo e2;go_wp2;go_roundw
          case rel=>exact⟨i+1,out2,hlt,by go_num,rfl,HC,f,b,j⟩
          case measure=>have h3:=ay.o;simp[intOf,zS];omega
      ·have hE:=Au.mi (G:=G) (x:=x) (fun s' hs=>by rw[hq]at hs;injection hs with hs;omega);have f:=aA (af.o (by rw[hE];intro z hz;cases hz));clear hE hq aw;go_wp2_with fail
       refine q _ _ u.o _ (fun _ h=>h) u.o ?_;clear q;repeat (go_big_quiet_step (fail))
       refine Aw ?_;go_wp2;go_loopw [5,11] (fun vo vk wy=>vo=.slice (some ⟨g,0,none⟩) out.length co/\vk=.int .i64 0/\wy=w2) (fun _ _ _=>0)
       case atStart=>exact⟨rfl,rfl,by trivial⟩
       case round =>
        obtain⟨rfl,rfl,rfl⟩:=hrel;go_wp2;go_roundw
        case rel=>exact⟨i+1,out,hlt,by go_num,rfl,HC,f,C,D⟩
        case measure=>simp[intOf,zS];omega
    ·obtain rfl:i=out.length:=by omega
     have HE:=aA (HC.o.end_ aa.o au.o);have HX:=aA (HO.o.mono (base':=w.heap.size) (by omega));generalize out.length=nn at *;go_wp2;go_ret
     exact⟨_,rfl,by rw[<-HE.o];exact HX.o,HW.o.below⟩
theorem Au.vZ (G:Gm.Gr):Au.iU G []=[]:=by
 refine List.eq_nil_iff_forall_not_mem.2 fun x hx=>?_;have h:=(Au.ig (G:=G) (l:=[]) (fun _ h=>by cases h)).1 hx
 have key:∀x,Au.Cl G [] x->False:=fun x h=>by
  induction h with
  | of _ h=>cases h
  | on _ _ _ _ _ _ _ _ ih=>exact ih
 exact key x h
theorem Nv (v:Value) (G:Gm.Gr) (B:Nat) (l:List Au.It) (A:Option Addr) (c BL:Nat) (w:World) (hg:aT w B v G) (hf:Gm.Fit G) (hB:B<=w.heap.size) (hl:jm 2 fO w BL A l) (ao:BL<=w.heap.size) (aa:l.length<=1000) :
  Calls prog 20 #[v,.slice A l.length c] w fun e w'=>∃v',e=.returned v'/\aJ 60 2 fO w' w.heap.size v' (Au.mF G l)/\Below w.heap.size w w':=by
 have HG:=aA hg;have HF:=aA hf;have ab:=aA hB;have HL:=aA hl;have a1:=aA ao;have a2:=aA aa;obtain⟨AT,cT,AN,cN,AR,cR,rfl,_⟩:=hg;have ac:=aA (bE.start 26 w #[.slice AT G.ts.length cT,.slice AN G.ns.length cN,.slice AR G.rs.length cR,.int .i64 G.st]);have bb:(l.length:Int)<=1000:=by omega
 clear hf hB hl ao aa
 go_enter func20,ntmps20
 go_wp2;go_loopw [5,6] (fun vo vi wr=>∃i:Nat,i<=l.length/\vi=.int .i64 i/\Hid (aJ 60 2 fO wr (w.heap.size+1) vo ((l.take i).filter (Au.hasB G)))/\Hid (bE 26 w #[.slice AT G.ts.length cT,.slice AN G.ns.length cN,.slice AR G.rs.length cR,.int .i64 G.st] wr)) (fun _ vi _=>l.length-(intOf vi).toNat)
 case atStart=>exact⟨0,AV _,rfl,aA (aJ.nil _ _),ac⟩
 case round =>
  obtain⟨i,hi,rfl,HO,HW⟩:=hrel;obtain⟨Ao,co,rfl,_,_,_⟩:=aJ.form HO.o aI;by_cases n:i<l.length
  ·obtain⟨g,o,rfl,a3,hc⟩:=HL.o (by omega);have ap:g<w.heap.size:=Ah a3 a1.o;have a4:(i:Int)<(l.length:Int):=by omega
   have kk0:∀y:World,Below w.heap.size w y->y.cell? ⟨g,o+i*2,none⟩=some (.int .i64 (l[i]).1):=fun y h=>(h.cell (p:=⟨g,o+i*2,none⟩) ap).trans (hc i n 0 _ rfl);have kk1:∀y:World,Below w.heap.size w y->y.cell? ⟨g,o+i*2+1,none⟩=some (.int .i64 (l[i]).2):=fun y h=>(h.cell (p:=⟨g,o+i*2+1,none⟩) ap).trans (hc i n 1 _ rfl);have aq:Hid (l.take (i+1)=l.take i++[l[i]]):=aA (AL n)
   have ad:Hid (((l.take i).filter (Au.hasB G)).length<=1000):=aA (by
    have h1:=Cd (Au.hasB G) (l.take i);rw[Bd]at h1
    omega)
   have a5:=aA (fun(y:World) (h:Below w.heap.size w y)=>JH _ G B l[i] y (HG.o.below h ab.o) HF.o (Aj ab.o h.size));have z0:∀z:Calm.On wr.heap.size wr,z.1.cell? ⟨w.heap.size,0,none⟩=some (.slice AT G.ts.length cT):=fun z=>(HW.o.on z.2).c 0 _ rfl;have z1:∀z:Calm.On wr.heap.size wr,z.1.cell? ⟨w.heap.size,1,none⟩=some (.slice AN G.ns.length cN):=fun z=>(HW.o.on z.2).c 1 _ rfl;have z2:∀z:Calm.On wr.heap.size wr,z.1.cell? ⟨w.heap.size,2,none⟩=some (.slice AR G.rs.length cR):=fun z=>(HW.o.on z.2).c 2 _ rfl;have z3:∀z:Calm.On wr.heap.size wr,z.1.cell? ⟨w.heap.size,3,none⟩=some (.int .i64 G.st):=fun z=>(HW.o.on z.2).c 3 _ rfl;have q0:∀z:Calm.On wr.heap.size wr,z.1.cell? ⟨g,o+i*2,none⟩=some (.int .i64 (l[i]).1):=fun z=>kk0 z.1 (HW.o.on z.2).below;have q1:∀z:Calm.On wr.heap.size wr,z.1.cell? ⟨g,o+i*2+1,none⟩=some (.int .i64 (l[i]).2):=fun z=>kk1 z.1 (HW.o.on z.2).below;have ac:=aW wr;have KK0:=aA kk0;have KK1:=aA kk1;clear hc kk0 kk1;generalize l[i]=x at *;generalize ar:(l.take i).filter (Au.hasB G)=tt at *;have au:=aA ar;clear ar;go_wp2_with fail
   refine CalmN.fk (fun x=>∃z:Calm.On wr.heap.size wr,x=z.1) (.one [0,1,2,3,4] 5 (.fin [])) (by kernel_rfl) (by kernel_rfl) (fun _ _ d _ _ h=>by cases d <;> exact h) ac.o ?_;simp only[CalmN.fN,CalmN.fv,CalmN.fo,Az,Am,Ap];repeat (go_big_quiet_step (fail))
   refine Aw ?_;intro KK ae;rw[AC (by rfl)];go_wp2_with fail
   refine(a5.o wr.drew (aB HW.o.below 1)).mono ?_;rintro _ w2 ⟨rfl,j⟩;have j:Below wr.heap.size wr w2:=(aB (AB _ wr) 1).trans j;have af:=qP j;have ag:=aA (HW.o.on j);have av:=aA (HO.o.below j (Af _));clear j z0 z1 z2 z3 q0 q1 ac;cases hh:Au.hasB G x
   ·have HE:Hid ((l.take (i+1)).filter (Au.hasB G)=tt):=aA (by rw[aq.o,B9,au.o,Cc,AI (by rw[hh];decide)];simp);clear hh;go_wp2_with fail
    refine ae _ _ af.o _ (fun _ h=>h) af.o ?_;clear ae;refine Aw ?_;go_wp2;go_roundw
    case rel=>exact⟨i+1,n,by go_num,aA (by rw[HE.o];exact av.o),ag⟩
    case measure=>simp[intOf];omega
   ·have HE:Hid ((l.take (i+1)).filter (Au.hasB G)=tt++[x]):=aA (by rw[aq.o,B9,au.o,Cc,AC hh];simp);clear hh;have k0:=KK0.o w2 ag.o.below;have k1:=KK1.o w2 ag.o.below;have aw:=aA (av.o.alloc (.cells #[.int .i64 x.1,.int .i64 x.2] 60));have ah:=aA (ag.o.alloc (.cells #[.int .i64 x.1,.int .i64 x.2] 60));have ai:=aA (AG w2 (.cells #[.int .i64 x.1,.int .i64 x.2] 60));go_wp2_with fail
    refine ae _ _ af.o _ (fun _ h=>h) af.o ?_;clear ae;refine Aw ?_;go_wp2_with (at_builtin;refine xP (f:=fO) rfl (.tmp 19) (.tmp 24) _ rfl underlying52 _ 16 xu (by decide) (by decide) (by decide) aI sM (w.heap.size+1) _ tt rfl aw.o _ _ x rfl (FG x _ _ ai.o) (by have:=ad.o;omega) ah.o.size ?_;intro v5 w5 m ax)
    have aj:=aA m;have ak:=aA (show bE 26 w _ w5 from DP ah.o ax ah.o.size (fun k e=>(Bk aw.o k e).1));clear m ax k0 k1;go_roundw
    case rel=>exact⟨i+1,n,by go_num,aA (by rw[HE.o];exact aj.o),ak⟩
    case measure=>simp[intOf];omega
  ·obtain rfl:i=l.length:=by omega
   generalize ((l.take l.length).filter (Au.hasB G)).length=n0 at *;rw[Bn]at HO;have ad:Hid ((l.filter (Au.hasB G)).length<=1000):=aA (Aj (Cd _ _) a2.o);by_cases ht:l.filter (Au.hasB G)=[]
   ·have HE:Hid (Au.mF G l=[]):=aA (by
     unfold Au.mF;by_cases hr:Gm.right G=true
     ·rw[AC hr]
      have e:l.filter (Au.gj G)=[]:=by
       rw[<-ht]
       congr 1
       funext x
       unfold Au.hasB;rw[hr,Ck]
      rw[e,Au.vZ]
     ·rw[AI hr])
    rw[ht]at HO;obtain⟨A9,c9,he,_⟩:=aJ.form HO.o aI;injection he with al b am;have b:n0=0:=b;have a6:((n0:Int)==0)=true:=by rw[BJ];omega
    clear al b am ht hi;go_wp2;go_ret
    exact⟨_,rfl,by rw[HE.o];exact aJ.nil _ _,HW.o.below⟩
   ·have hr:Gm.right G=true:=by
     by_cases hr:Gm.right G=true
     ·exact hr
     ·exfalso
      refine ht (List.filter_eq_nil_iff.2 fun x _=>?_);unfold Au.hasB;cases h:Gm.right G
      ·simp
      ·exact absurd h hr
    have e:l.filter (Au.hasB G)=l.filter (Au.gj G):=by
     congr 1
     funext x
     unfold Au.hasB;rw[hr,Ck]
    have HE:Hid (Au.mF G l=Au.iU G (l.filter (Au.gj G))):=aA (by unfold Au.mF;rw[AC hr]);have a9:=aA (Gm.ft.1 hr);rw[e]at HO ad ht;have ay:∀x∈l.filter (Au.gj G),Au.gj G x=true:=fun x hx=>(B7.1 hx).2;generalize l.filter (Au.gj G)=tt at *;obtain⟨A9,c9,he,_,_,az⟩:=aJ.form HO.o aI;injection he with al b am;have b:n0=tt.length:=b;subst al b;have bc:0<tt.length:=List.length_pos_iff.2 ht;have a6:((tt.length:Int)==0)=false:=by rw[Ba];omega
    have ba:=aA (JI _ G B tt Ao co wr.heap.size wr (HG.o.below HW.o.below ab.o) HF.o a9.o (Aj ab.o (Aj (Ex _ 1) HW.o.size)) az (Af _) ay ad.o);have z0:=HW.o.c 0 _ rfl;have z1:=HW.o.c 1 _ rfl;have z2:=HW.o.c 2 _ rfl;have z3:=HW.o.c 3 _ rfl;clear am ht e hr ay az;go_wp2_with fail
    refine ba.o.mono ?_;rintro _ w5 ⟨v5,rfl,m,a0⟩;obtain⟨A5,c5,rfl,_,_,_⟩:=aJ.form m aI;have aj:=aA (m.mono (base':=w.heap.size) (Aj (Ex _ 1) HW.o.size));have ak:=aA (HW.o.on a0);clear m a0 z0 z1 z2 z3;go_wp2;go_ret
    exact⟨_,rfl,by rw[HE.o];exact aj.o,ak.o.below⟩
theorem N5 (v:Value) (G:Gm.Gr) (B:Nat) (l:List Au.It) (A:Option Addr) (c BL:Nat) (sm:Int) (w:World) (hg:aT w B v G) (hf:Gm.Fit G) (aj:Gm.Ok G) (hB:B<=w.heap.size) (hl:jm 2 fO w BL A l) (ak:BL<=w.heap.size) (hi:∀x∈l,Au.gj G x=true) (hs:Au.j6 l) (aa:l.length<=1000) :
  Calls prog 39 #[v,.slice A l.length c,.int .i64 sm] w fun e w'=>∃v',e=.returned v'/\aJ 60 2 fO w' w.heap.size v' (Au.mv G l sm)/\Below w.heap.size w w':=by
 have HG:=aA hg;have HF:=aA hf;have ar:=aA aj;have al:=aA hB;have HL:=aA hl;have au:=aA ak;have a9:=aA aa;have av:=aA hi;have aw:=aA hs;obtain⟨AT,cT,AN,cN,AR,cR,rfl,_⟩:=hg;have ab:=aA (bE.start 26 w #[.slice AT G.ts.length cT,.slice AN G.ns.length cN,.slice AR G.rs.length cR,.int .i64 G.st]);have ba:(l.length:Int)<=1000:=by omega
 clear hf aj hB hl ak aa hi hs
 go_enter func39,ntmps39
 go_wp2;go_loopw [7,8] (fun vo vi wr=>∃i:Nat,i<=l.length/\vi=.int .i64 i/\Hid (aJ 60 2 fO wr (w.heap.size+1) vo (Au.mv G (l.take i) sm))/\Hid (bE 26 w #[.slice AT G.ts.length cT,.slice AN G.ns.length cN,.slice AR G.rs.length cR,.int .i64 G.st] wr)) (fun _ vi _=>l.length-(intOf vi).toNat)
 case atStart=>exact⟨0,AV _,rfl,aA (aJ.nil _ _),ab⟩
 case round =>
  obtain⟨i,hi,rfl,HO,HW⟩:=hrel;obtain⟨Ao,co,rfl,_,_,_⟩:=aJ.form HO.o aI;by_cases f:i<l.length
  ·obtain⟨g,o,rfl,ax,hc⟩:=HL.o (by omega);have ae:g<w.heap.size:=Ah ax au.o;have ay:(i:Int)<(l.length:Int):=by omega
   have kk0:∀y:World,Below w.heap.size w y->y.cell? ⟨g,o+i*2,none⟩=some (.int .i64 (l[i]).1):=fun y h=>(h.cell (p:=⟨g,o+i*2,none⟩) ae).trans (hc i f 0 _ rfl);have kk1:∀y:World,Below w.heap.size w y->y.cell? ⟨g,o+i*2+1,none⟩=some (.int .i64 (l[i]).2):=fun y h=>(h.cell (p:=⟨g,o+i*2+1,none⟩) ae).trans (hc i f 1 _ rfl);have af:Hid (l.take (i+1)=l.take i++[l[i]]):=aA (AL f);have ag:Hid (Au.mv G (l.take i++[l[i]]) sm=if Au.nx G l[i]=some sm then Au.put (Au.mv G (l.take i) sm) ((l[i]).1,(l[i]).2+1) else Au.mv G (l.take i) sm):=aA (Au.wN (by rw[<-AL f];exact List.Pairwise.sublist (List.take_sublist _ _) aw.o) sm)
   have az:Hid ((Au.mv G (l.take i) sm).length<=1000):=aA (by
    have h1:=Au.sz G (l.take i) sm;rw[Bd]at h1
    omega)
   have am:=aA (av.o _ (AE f));have a0:=aA (fun(y:World) (h:Below w.heap.size w y)=>Ia _ G B l[i] y (HG.o.below h al.o) HF.o (Aj al.o h.size) am.o)
   have a1:Hid (0<=(l[i]).2/\(l[i]).2<=100):=aA (by
    have h1:=Au.fW.1 am.o;have h2:=Au.nY ar.o (Au.jk.2 h1.1)
    omega)
   have z0:∀z:Calm.On wr.heap.size wr,z.1.cell? ⟨w.heap.size,0,none⟩=some (.slice AT G.ts.length cT):=fun z=>(HW.o.on z.2).c 0 _ rfl;have z1:∀z:Calm.On wr.heap.size wr,z.1.cell? ⟨w.heap.size,1,none⟩=some (.slice AN G.ns.length cN):=fun z=>(HW.o.on z.2).c 1 _ rfl;have z2:∀z:Calm.On wr.heap.size wr,z.1.cell? ⟨w.heap.size,2,none⟩=some (.slice AR G.rs.length cR):=fun z=>(HW.o.on z.2).c 2 _ rfl;have z3:∀z:Calm.On wr.heap.size wr,z.1.cell? ⟨w.heap.size,3,none⟩=some (.int .i64 G.st):=fun z=>(HW.o.on z.2).c 3 _ rfl;have q0:∀z:Calm.On wr.heap.size wr,z.1.cell? ⟨g,o+i*2,none⟩=some (.int .i64 (l[i]).1):=fun z=>kk0 z.1 (HW.o.on z.2).below;have q1:∀z:Calm.On wr.heap.size wr,z.1.cell? ⟨g,o+i*2+1,none⟩=some (.int .i64 (l[i]).2):=fun z=>kk1 z.1 (HW.o.on z.2).below;have ab:=aW wr;have KK0:=aA kk0;have KK1:=aA kk1;clear hc kk0 kk1;generalize l[i]=x at *;generalize ao:Au.mv G (l.take i) sm=tt at *;have bb:=aA ao;clear ao;go_wp2_with fail
   refine CalmN.fk (fun x=>∃z:Calm.On wr.heap.size wr,x=z.1) (.one [0,1,2,3,4] 5 (.fin [6,7,8,9,10])) (by kernel_rfl) (by kernel_rfl) (fun _ _ d _ _ h=>by cases d <;> exact h) ab.o ?_;simp only[CalmN.fN,CalmN.fv,CalmN.fo,Az,Am,Ap];repeat (go_big_quiet_step (fail))
   refine Aw ?_;intro KK b;rw[AC (by rfl)];go_wp2_with fail
   refine(a0.o wr.drew (aB HW.o.below 1)).mono ?_;rintro _ w2 ⟨rfl,j⟩;have j:Below wr.heap.size wr w2:=(aB (AB _ wr) 1).trans j;have m:=qP j;have n:=aA (HW.o.on j);have ac:=aA (HO.o.below j (Af _));clear j z0 z1 z2 z3 q0 q1 ab;cases hq:Au.nx G x with
   | none =>
    have HE:Hid (Au.mv G (l.take (i+1)) sm=tt):=aA (by rw[af.o,ag.o,AI (by rw[hq];simp)]);clear hq;go_wp2_with fail
    refine b _ _ m.o _ (fun _ h=>h) m.o ?_;clear b;repeat (go_big_quiet_step (fail))
    refine Aw ?_;go_wp2;go_roundw
    case rel=>exact⟨i+1,f,by go_num,aA (by rw[HE.o];exact ac.o),n⟩
    case measure=>simp[intOf];omega
   | some s =>
    by_cases ad:s=sm
    ·subst ad;have HE:Hid (Au.mv G (l.take (i+1)) s=Au.put tt (x.1,x.2+1)):=aA (by rw[af.o,ag.o,AC hq]);have bc:IntKind.i64.wrap (x.2+1)=x.2+1:=B3 _ (by have:=a1.o;omega);have a2:(s==s)=true:=by simp
     have HD:Hid (bE 26 w #[.slice AT G.ts.length cT,.slice AN G.ns.length cN,.slice AR G.rs.length cR,.int .i64 G.st] w2.drew):=aA (n.o.drewN 1);have a3:=aA (Ij w2.drew (w.heap.size+1) _ tt (x.1,x.2+1) (ac.o.drewN 1) HD.o.size (by have:=az.o;omega));have ap:=aA (fun k e=>(Bk (ac.o.drewN 1) k e).1);have q0:∀z:Calm.kO g w2,z.1.cell? ⟨g,o+i*2,none⟩=some (.int .i64 x.1):=fun z=>(Ca z.2).trans (KK0.o w2 n.o.below);have q1:∀z:Calm.kO g w2,z.1.cell? ⟨g,o+i*2+1,none⟩=some (.int .i64 x.2):=fun z=>(Ca z.2).trans (KK1.o w2 n.o.below);have a4:Hid (∃z:Calm.kO g w2,w2.drew=z.1):=aA ⟨⟨w2.drew,rfl⟩,rfl⟩;clear hq;go_wp2_with fail
     refine b _ _ m.o _ (fun _ h=>h) m.o ?_;clear b;repeat (go_big_quiet_step (fail))
     refine Aw ?_;go_wp2_with fail
     refine CalmN.fk (fun x=>∃z:Calm.kO g w2,x=z.1) (.one [0,1,2,3,4,5,6,7,8,9,10,11,12] 13 (.fin [14])) (by kernel_rfl) (by kernel_rfl) (fun _ _ d _ _ h=>by cases d <;> exact h) a4.o ?_;simp only[CalmN.fN,CalmN.fv,CalmN.fo,Az,Am,Ap];repeat (go_big_quiet_step (fail))
     refine Aw ?_;intro KK b;rw[AC (by rfl)];go_wp2_with fail
     refine a3.o.mono ?_;rintro _ w5 ⟨v5,rfl,ah,ai⟩;have a5:=aA ah;have a6:=aA (show bE 26 w _ w5 from DP HD.o ai HD.o.size (fun k e=>ap.o k e));have aq:Hid (∃z:Calm.kO g w2,w5=z.1):=aA ⟨⟨w5,ai.block g (Ah ae (Aj (Ex _ 1) HD.o.size)) (fun e=>by have:=ap.o g e.symm;omega)⟩,rfl⟩;obtain⟨A5,c5,rfl,_,_,_⟩:=aJ.form ah aI;clear ah ai q0 q1;go_wp2_with fail
     refine b _ _ aq.o _ (fun _ h=>h) aq.o ?_;clear b;repeat (go_big_quiet_step (fail))
     refine Aw ?_;go_wp2;go_roundw
     case rel=>exact⟨i+1,f,by go_num,aA (by rw[HE.o];exact a5.o),a6⟩
     case measure=>simp[intOf];omega
    ·have HE:Hid (Au.mv G (l.take (i+1)) sm=tt):=aA (by rw[af.o,ag.o,AI (by rw[hq];simp;exact ad)]);have a2:(s==sm)=false:=by rw[Ba];exact ad
     clear hq ad;go_wp2_with fail
     refine b _ _ m.o _ (fun _ h=>h) m.o ?_;clear b;repeat (go_big_quiet_step (fail))
     refine Aw ?_;go_wp2;go_roundw
     case rel=>exact⟨i+1,f,by go_num,aA (by rw[HE.o];exact ac.o),n⟩
     case measure=>simp[intOf];omega
  ·obtain rfl:i=l.length:=by omega
   generalize (Au.mv G (l.take l.length) sm).length=n0 at *;rw[Bn]at HO;have HX:=aA (HO.o.mono (base':=w.heap.size) (by omega));go_wp2;go_ret
   exact⟨_,rfl,HX.o,HW.o.below⟩
theorem IE {y:Int×Int} (he:y≠x):(∃b,((y.1==x.1)=false/\(y.2==x.2)=b))\/((y.1==x.1)=true/\(y.2==x.2)=false):=by
 by_cases e1:y.1=x.1
 ·refine .inr ⟨by rw[BJ];exact e1,?_⟩;rw[Ba];exact fun e2=>he (Ea e1 e2)
 ·exact .inl ⟨_,by rw[Ba];exact e1,rfl⟩
theorem N6 (a b:List Au.It) (A A':Option Addr) (c c' B:Nat) (w:World) (ha:jm 2 fO w B A a) (hb:jm 2 fO w B A' b) (hB:B<=w.heap.size) (av:a.length<=9223372036854775807) (r:Bool) (hr:Gm.tr (a=b)=r) :
  Calls prog 60 #[.slice A a.length c,.slice A' b.length c'] w fun e w'=>e=.returned (.bool r)/\Below w.heap.size w w':=by
 by_cases hl:a.length=b.length
 ·have HA:=aA ha;have ap:=aA hb;have HB:=aA hB;have HR:=aA hr;have ah:=aA hl;have aw:(a.length:Int)<=9223372036854775807:=by omega
  have ai:((a.length:Int) != (b.length:Int))=false:=by rw[hl];simp
  clear ha hb hB hr;rw[<-hl];rw[<-hl]at ai;clear hl;generalize ad:a.length=n at *
  go_enter func60,ntmps60
  go_wp2;go_loopw [5] (fun vi wr=>∃i:Nat,i<=n/\vi=.int .i64 i/\Hid (∀j (h:j<a.length) (h2:j<b.length),j<i->a[j]=b[j])/\Hid (Below w.heap.size w wr)) (fun vi _=>n-(intOf vi).toNat)
  case atStart=>exact⟨0,AV _,rfl,aA (fun _ _ _ h=>absurd h (De _)),aA (AB _ _)⟩
  case round =>
   obtain⟨i,hi,rfl,HE,HW⟩:=hrel;by_cases aq:i<n
   ·have aa:i<a.length:=by omega
    have ab:i<b.length:=by have:=ah.o;omega
    obtain⟨g,o,rfl,aj,hc⟩:=HA.o (by omega);obtain⟨g',o',rfl,ac,ae⟩:=ap.o (by omega);have k0:∀z:Calm.On wr.heap.size wr,z.1.cell? ⟨g,o+i*2,none⟩=some (.int .i64 (a[i]).1):=fun z=>((HW.o.trans (z.2.mono HW.o.size)).cell (p:=⟨g,o+i*2,none⟩) (Ah aj HB.o)).trans (hc i aa 0 _ rfl);have k1:∀z:Calm.On wr.heap.size wr,z.1.cell? ⟨g,o+i*2+1,none⟩=some (.int .i64 (a[i]).2):=fun z=>((HW.o.trans (z.2.mono HW.o.size)).cell (p:=⟨g,o+i*2+1,none⟩) (Ah aj HB.o)).trans (hc i aa 1 _ rfl);have l0:∀z:Calm.On wr.heap.size wr,z.1.cell? ⟨g',o'+i*2,none⟩=some (.int .i64 (b[i]).1):=fun z=>((HW.o.trans (z.2.mono HW.o.size)).cell (p:=⟨g',o'+i*2,none⟩) (Ah ac HB.o)).trans (ae i ab 0 _ rfl);have l1:∀z:Calm.On wr.heap.size wr,z.1.cell? ⟨g',o'+i*2+1,none⟩=some (.int .i64 (b[i]).2):=fun z=>((HW.o.trans (z.2.mono HW.o.size)).cell (p:=⟨g',o'+i*2+1,none⟩) (Ah ac HB.o)).trans (ae i ab 1 _ rfl);have ar:(i:Int)<(n:Int):=by omega
    have af:Hid (a[i]≠b[i]->r=false):=aA (fun h=>by
     rw[<-HR.o,Dv];intro h2;have h2:=Gm.fP.1 h2;subst h2;exact h rfl)
    have ag:Hid (a[i]=b[i]->∀j (h:j<a.length) (h2:j<b.length),j<i+1->a[j]=b[j]):=aA (fun h1 j h h2 h3=>by
     rcases Bx j i with q|q
     ·exact HE.o j h h2 q
     ·obtain rfl:j=i:=by omega
      exact h1)
    have ak:=aW wr;have al:Hid (Below w.heap.size w wr.drew):=aA (aB HW.o 1);clear hc ae ad;generalize a[i]=y at *;generalize b[i]=x at *;by_cases he:y=x
    ·have HX:=aA (ag.o he);subst he;have am:(y.1==y.1)=true:=by simp
     have ao:(y.2==y.2)=true:=by simp
     clear af ag;go_wp2_with fail
     refine CalmN.fk (fun x=>∃z:Calm.On wr.heap.size wr,x=z.1) (.fin [0,1,2,3,4,5,6,7,8]) (by kernel_rfl) (by kernel_rfl) (fun _ _ d _ _ h=>by cases d <;> exact h) ak.o ?_;simp only[CalmN.fN,CalmN.fo,Az,Am,Ap];repeat (go_big_quiet_step (fail))
     refine Aw ?_;clear k0 k1 l0 l1;go_wp2;go_roundw
     case rel=>exact⟨i+1,aq,by go_num,HX,al⟩
     case measure=>simp[intOf];omega
    ·have HF:=aA (af.o he);have au:=IE he;clear af ag he;rcases au with⟨b0,am,ao⟩|⟨am,ao⟩
     all_goals
      go_wp2_with fail
      refine CalmN.fk (fun x=>∃z:Calm.On wr.heap.size wr,x=z.1) (.fin [0,1,2,3,4,5,6,7,8]) (by kernel_rfl) (by kernel_rfl) (fun _ _ d _ _ h=>by cases d <;> exact h) ak.o ?_;simp only[CalmN.fN,CalmN.fo,Az,Am,Ap];repeat (go_big_quiet_step (fail))
      refine Aw ?_;clear k0 k1 l0 l1;go_wp2;go_ret
      exact⟨aE HF.o.symm,al.o⟩
   ·obtain rfl:i=n:=by omega
    have HF:Hid (r=true):=aA (by
     rw[<-HR.o];refine Gm.fP.2 (Au.uo (ad.trans ah.o) fun j h h2=>HE.o j h h2 (by omega))
     )
    clear ad;go_wp2;go_ret
    exact⟨aE HF.o.symm,HW.o⟩
 ·have HF:Hid (r=false):=aA (by
   rw[<-hr,Dv];intro h2;have h2:=Gm.fP.1 h2;exact hl (by rw[h2]))
  have ai:((a.length:Int) != (b.length:Int))=true:=by rw[D4];omega
  clear hl ha hb hr;generalize a.length=na at *;generalize b.length=nb at *
  go_enter func60,ntmps60
  go_wp2;go_ret
  exact⟨aE HF.o.symm,AB _ _⟩
theorem Ns (v:Value) (G:Gm.Gr) (B:Nat) (i:Nat) (w:World) (hg:aT w B v G) (hi:i<=100000) (ht:G.ts.length<=100000) :
  Calls prog 38 #[v,.int .i64 (i:Nat)] w fun e w'=>e=.returned (.int .i64 (if(i:Int)<G.ts.length then(i:Int) else -1-((i:Int)-G.ts.length)))/\Below w.heap.size w w':=by
 obtain⟨AT,cT,AN,cN,AR,cR,rfl,_⟩:=hg;have aa:=aA (bE.start 26 w #[.slice AT G.ts.length cT,.slice AN G.ns.length cN,.slice AR G.rs.length cR,.int .i64 G.st]);have x0:=aa.o.c 0 _ rfl;obtain⟨r,hr⟩:∃r,r=(if(i:Int)<G.ts.length then(i:Int) else -1-((i:Int)-G.ts.length)):=⟨_,rfl⟩
 rw[<-hr];by_cases ab:(i:Int)<G.ts.length
 ·rw[AC ab]at hr;subst hr
  go_enter func38,ntmps38
  go_wp2;go_ret
  exact⟨rfl,aa.o.below⟩
 ·rw[AI ab]at hr;subst hr;have ac:IntKind.i64.wrap ((i:Int)-(G.ts.length:Int))=(i:Int)-(G.ts.length:Int):=B3 _ (by omega);have ad:IntKind.i64.wrap (-1-((i:Int)-(G.ts.length:Int))) = -1-((i:Int)-(G.ts.length:Int)):=B3 _ (by omega)
  go_enter func38,ntmps38
  go_wp2;go_ret
  exact⟨rfl,aa.o.below⟩
theorem Om (ss:List qV) (k:List Au.It) (A A':Option Addr) (c c' B:Nat) (w:World) (hs:bW w B A ss) (hk:jm 2 fO w B A' k) (hB:B<=w.heap.size) (hn:ss.length<=100000) (hl:∀x∈ss,x.1.length<=9223372036854775807) :
  Calls prog 40 #[.slice A ss.length c,.slice A' k.length c'] w fun e w'=>e=.returned (.int .i64 (Au.ij (ss.map (·.1)) k))/\Below w.heap.size w w':=by
 have HS:=aA hs;have HK:=aA hk;have HB:=aA hB;have HL:=aA hl;have ai:(ss.length:Int)<=100000:=by omega
 clear hs hk hB hl
 go_enter func40,ntmps40
 go_wp2;go_loopw [5] (fun vi wr=>∃i:Nat,i<=ss.length/\vi=.int .i64 i/\Hid (∀j (_:j<i) (h:j<ss.length),(ss[j]).1≠k)/\Hid (Below w.heap.size w wr)) (fun vi _=>ss.length-(intOf vi).toNat)
 case atStart=>exact⟨0,AV _,rfl,aA (fun _ h=>absurd h (De _)),aA (AB _ _)⟩
 case round =>
  obtain⟨i,hi,rfl,HE,HW⟩:=hrel;by_cases aa:i<ss.length
  ·obtain⟨g,o,rfl,ah,hc⟩:=HS.o (by omega);obtain⟨A2,c2,k1,_,_,af⟩:=(hc i aa).1;have k1:=(HW.o.cell (p:=⟨g,o+i*2,none⟩) (Ah ah HB.o)).trans k1;have ag:=aA (fun r (hr:Gm.tr ((ss[i]).1=k)=r)=>N6 (ss[i]).1 k A2 A' c2 c' B wr (af.below HW.o HB.o) (HK.o.below HW.o HB.o) (Aj HB.o HW.o.size) (HL.o _ (AE aa)) r hr)
   have ab:Hid ((ss[i]).1=k->Au.ij (ss.map (·.1)) k=(i:Int)):=aA (fun e=>Au.pQ (fun j hj hl=>by
    rw[C3];exact HE.o j hj (by simpa using hl)) (by simpa using aa) (by rw[C3];exact e))
   have ac:Hid ((ss[i]).1≠k->∀j (_:j<i+1) (h:j<ss.length),(ss[j]).1≠k):=aA (fun e j hj h=>by
    rcases Bx j i with q|q
    ·exact HE.o j q h
    ·obtain rfl:j=i:=by omega
     exact e)
   clear hc af;generalize (ss[i]).1=ki at *;by_cases he:ki=k
   ·have HF:=aA (ab.o he);have ad:=aA (ag.o true (Gm.fP.2 he));clear he ab ac;go_wp2_with fail
    refine ad.o.mono ?_;rintro _ w2 ⟨rfl,hb⟩;have ae:=aA (HW.o.trans (hb.mono HW.o.size));clear hb k1;go_wp2;go_ret
    exact⟨aU HF.o.symm,ae.o⟩
   ·have HF:=aA (ac.o he);have ad:=aA (ag.o false (by rw[Dv];exact fun h=>he (Gm.fP.1 h)));clear he ab ac;go_wp2_with fail
    refine ad.o.mono ?_;rintro _ w2 ⟨rfl,hb⟩;have ae:=aA (HW.o.trans (hb.mono HW.o.size));clear hb k1;go_wp2;go_roundw
    case rel=>exact⟨i+1,aa,by go_num,HF,ae⟩
    case measure=>simp[intOf];omega
  ·obtain rfl:i=ss.length:=by omega
   have HF:Hid (Au.ij (ss.map (·.1)) k = -1):=aA (by
    have h1:Au.ij (ss.map (·.1)) k<0:=Au.q8.2 fun h=>by
     obtain⟨x,hx,e⟩:=Bm.1 h;obtain⟨j,hj,rfl⟩:=BF hx;exact HE.o j hj hj e
    have key:∀l:List (List Au.It),Au.ij l k<0->Au.ij l k = -1:=fun l=>by
     induction l with
     | nil=>intro _;rfl
     | cons y l ih =>
      intro h;rw[Au.ij]at h ⊢;split at h
      ·omega
      ·rename_i hn
       rw[AI hn];split at h
       ·rename_i hq
        rw[AC hq]
       ·omega
    exact key _ h1)
   go_wp2;go_ret
   exact⟨aU HF.o.symm,HW.o⟩
theorem Sw (g:Value) (B:Nat) (x:World) (hg:aT x B g bH) (hf:Gm.Fit bH) (hB:B<=x.heap.size) :
  Calls prog 10 #[g] x fun e w'=>∃A c,e=.returned (.tuple #[.slice A 4 c,.int .i64 0])/\lY 2 kJ w' w'.heap.size A Fe/\Below x.heap.size x w' :=
 (GF g bH B x hg hf hB).mono fun e w' k=>by
  obtain⟨A,c,k1,_,_,k4,k5⟩:=k;rw[Tl,Mu]at k1;rw[Mu]at k4;exact⟨A,c,k1,k4,k5⟩
theorem Sv (g:Value) (B:Nat) (x:World) (hg:aT x B g bF) (hf:Gm.Fit bF) (hB:B<=x.heap.size) :
  Calls prog 10 #[g] x fun e w'=>∃A c,e=.returned (.tuple #[.slice A 10 c,.int .i64 0])/\lY 2 kJ w' w'.heap.size A vF/\Below x.heap.size x w' :=
 (GF g bF B x hg hf hB).mono fun e w' k=>by
  obtain⟨A,c,k1,_,_,k4,k5⟩:=k;rw[Tk,Mr]at k1;rw[Mr]at k4;exact⟨A,c,k1,k4,k5⟩
theorem O8:Gm.Fit Gm.mO:=⟨by simp[Gm.mO],by simp[Gm.mO],by simp[Gm.mO],by unfold Gm.In;simp[Gm.mO]⟩
theorem RU (x:World):Calls prog 10 #[.agg #[.slice none 0 0,.slice none 0 0,.slice none 0 0,.int .i64 0]] x fun e w'=>∃A c,e=.returned (.tuple #[.slice A 0 c,.int .i64 1])/\Below x.heap.size x w' :=
 (GF _ Gm.mO x.heap.size x (LZ x _) O8 (Af _)).mono fun e w' k=>by
  obtain⟨A,c,k1,_,_,_,k5⟩:=k;rw[Tt,Ha]at k1;exact⟨A,c,k1,k5⟩
theorem OQ (w:World):(Instr.build 26 #[]).run prog w=.ok (.agg #[.slice none 0 0,.slice none 0 0,.slice none 0 0,.int .i64 0]) w:=EG w 26 _ _ (by kernel_rfl)
theorem NM (A A':Option Addr) (ca cb:Nat) (w:World) (aa:gd w w.heap.size A [1]) (ab:gd w w.heap.size A' [1]) :
  Calls prog 14 #[.slice A 1 ca,.slice A' 1 cb] w fun e w'=>e=.returned (.bool true)/\∃n,w'=w.drewN n :=
 (Kw A A' ca cb [1] [1] w aa ab (by decide) (by decide)).mono fun e w' h=>⟨by rw[h.1,AQ rfl],h.2⟩
def sO (i:Nat):Nat:=((vF.take i).filter fun r=>r==[(4,8)]).length
theorem OP (h:i<vF.length):sO (i+1)=sO i+if vF[i]=[(4,8)] then 1 else 0:=by
 unfold sO;rw[AL h,B9,AW,Cc];by_cases e:vF[i]=[(4,8)]
 ·rw[AC e,AC (by rw[e];decide)];rfl
 ·rw[AI e,AI (by rw[BJ];exact e)];rfl
theorem OY:sO 10=1:=by decide
theorem QF (i:Nat):sO i<=10:=by
 unfold sO;refine Aj (Cd _ _) ?_;rw[Bd];exact Aj (Nat.min_le_right _ _) (by decide)
theorem Pu:∀r∈vF,r.length<=1:=by decide
theorem NF (w:World):Calls prog 7 #[] w fun e w'=>e=.returned (.bool true)/\Below w.heap.size w w':=by
 have T1:=aA (J3 F0 bH (by decide) (by decide) SE w w.heap.size rfl);have T2:=aA (fun(w1:World)=>J3 FZ bF (by decide) (by decide) SD w1 w1.heap.size rfl);have U1:=(show(convert 65 65 (.slice (some ⟨w.heap.size,0,none⟩) 16 16)).run prog (w.alloc (.cells #[.int .u8 37,.int .u8 37,.int .u8 32,.int .u8 115,.int .u8 32,.int .u8 58,.int .u8 32,.int .u8 39,.int .u8 97,.int .u8 39,.int .u8 32,.int .u8 115,.int .u8 32,.int .u8 124,.int .u8 32,.int .u8 59] 5))=.ok (.slice (some ⟨w.heap.size,0,none⟩) 16 16) (w.alloc (xq F0)) from Kt w F0 16 16)
 have V2:=aA (fun w:World=>show(convert 65 65 (.slice (some ⟨w.heap.size,0,none⟩) 46 46)).run prog (w.alloc (.cells #[.int .u8 37,.int .u8 37,.int .u8 32,.int .u8 115,.int .u8 32,.int .u8 58,.int .u8 32,.int .u8 108,.int .u8 32,.int .u8 39,.int .u8 61,.int .u8 39,.int .u8 32,.int .u8 114,.int .u8 32,.int .u8 124,.int .u8 32,.int .u8 114,.int .u8 32,.int .u8 59,.int .u8 32,.int .u8 108,.int .u8 32,.int .u8 58,.int .u8 32,.int .u8 39,.int .u8 42,.int .u8 39,.int .u8 32,.int .u8 114,.int .u8 32,.int .u8 124,.int .u8 32,.int .u8 39,.int .u8 105,.int .u8 39,.int .u8 32,.int .u8 59,.int .u8 32,.int .u8 114,.int .u8 32,.int .u8 58,.int .u8 32,.int .u8 108,.int .u8 32,.int .u8 59] 5))=.ok (.slice (some ⟨w.heap.size,0,none⟩) 46 46) (w.alloc (xq FZ)) from Kt w FZ 46 46);have ay:F0.length=16:=rfl;have az:FZ.length=46:=rfl;rw[ay]at T1;rw[az]at T2;clear ay az;have a0:=aA (fun(x:World)=>RU x);have b4:=fun w=>OQ w
 go_enter func7,ntmps7
 go_wp2_with fail
 refine T1.o.mono ?_;rintro _ w1 ⟨⟨g,rfl,a1,ac⟩,a2⟩;have a3:=aA (fun(x:World) (h:Below w1.heap.size w1 x)=>Sw g w1.heap.size x (a1.below h (Af _)) ac h.size);obtain⟨AT,cT,AN,cN,AR,cR,rfl,_,_,_,_,_,_⟩:=a1;have a4:=aA a2;have b:=aA (One.start w1 #[.slice AT bH.ts.length cT,.slice AN bH.ns.length cN,.slice AR bH.rs.length cR,.int .i64 bH.st]);have a5:=aA (fun(x:World) (h:One w1 #[.slice AT bH.ts.length cT,.slice AN bH.ns.length cN,.slice AR bH.rs.length cR,.int .i64 bH.st] x)=>BD (h.c 0 _ rfl) (BD (h.c 1 _ rfl) (BD (h.c 2 _ rfl) (h.c 3 _ rfl))));clear a2 U1 T1 ac;obtain⟨wa,ah⟩:∃y,y=w1.alloc (.cells #[.slice AT bH.ts.length cT,.slice AN bH.ns.length cN,.slice AR bH.rs.length cR,.int .i64 bH.st] 26):=⟨_,rfl⟩
 rw[<-ah]at b;go_upto_region 2 with fail
 rw[<-ah];clear ah;obtain⟨x0,x1,x2,x3⟩:=a5.o wa b.o;have l1:w1.heap.size<wa.heap.size:=b.o.size;go_wp2_with fail
 refine(a3.o wa b.o.below).mono ?_;rintro _ w2 ⟨A2,c2,rfl,a6,a9⟩;have ba:=aA (a4.o.trans ((b.o.on a9).below.mono a4.o.size));have bb:=aA a6;clear x0 x1 x2 x3 l1 a6 a9 a3 b a5;have U2:=V2.o w2;have T3:=aA (T2.o w2);clear V2 T2;go_wp2_with fail
 refine T3.o.mono ?_;rintro _ w3 ⟨⟨g2,rfl,bc,ad⟩,af⟩;have bd:=aA (ba.o.trans (af.mono ba.o.size));have bf:=aA (bb.o.below af (Af _));have ai:=aA af.size;clear af U2 T3 bb;have bg:=aA (fun(x:World) (h:Below w3.heap.size w3 x)=>Sv g2 w3.heap.size x (bc.below h (Af _)) ad h.size);obtain⟨AT2,cT2,AN2,cN2,AR2,cR2,rfl,_,_,_,_,_,_⟩:=bc;have d:=aA (One.start w3 #[.slice AT2 bF.ts.length cT2,.slice AN2 bF.ns.length cN2,.slice AR2 bF.rs.length cR2,.int .i64 bF.st]);have bh:=aA (fun(x:World) (h:One w3 #[.slice AT2 bF.ts.length cT2,.slice AN2 bF.ns.length cN2,.slice AR2 bF.rs.length cR2,.int .i64 bF.st] x)=>BD (h.c 0 _ rfl) (BD (h.c 1 _ rfl) (BD (h.c 2 _ rfl) (h.c 3 _ rfl))));clear ad;obtain⟨wb,aj⟩:∃y,y=w3.alloc (.cells #[.slice AT2 bF.ts.length cT2,.slice AN2 bF.ns.length cN2,.slice AR2 bF.rs.length cR2,.int .i64 bF.st] 26):=⟨_,rfl⟩
 rw[<-aj]at d;go_upto_region 4 with fail
 rw[<-aj];clear aj;obtain⟨x0,x1,x2,x3⟩:=bh.o wb d.o;have l1:w3.heap.size<wb.heap.size:=d.o.size;go_wp2_with fail
 refine(bg.o wb d.o.below).mono ?_;rintro _ w4 ⟨A4,c4,rfl,bi,bj⟩;have aa:=aA ((d.o.on bj).below);have bk:=aA (bd.o.trans (aa.o.mono bd.o.size));have bl:=aA (bf.o.below aa.o ai.o);have bm:=aA (Aj ai.o aa.o.size);have bo:=aA bi;clear x0 x1 x2 x3 l1 bi bj bg d bh aa bf ai;go_wp2_with fail
 refine(a0.o w4).mono ?_;rintro _ w5 ⟨A5,c5,rfl,f⟩;have bp:=aA (bk.o.trans (f.mono bk.o.size));have bq:=aA (bl.o.below f bm.o);have b5:=aA (bo.o.below f (Af _));have ag:=aA (Aj bm.o f.size);have br:=aA f.size;clear f a0 b4 bl bo;obtain⟨gA,oA,rfl,bs,bu⟩:=bq.o (by decide);obtain⟨Ar,cr,k0,_,_,ak⟩:=bu 0 (by decide);obtain⟨gr,or,rfl,bv,al⟩:=ak (by decide);have k0:w5.cell? ⟨gA,oA,none⟩=some (.slice (some ⟨gr,or,none⟩) 1 cr):=k0;have k1:w5.cell? ⟨gr,or,none⟩=some (.int .i64 1):=al 0 (by decide) 0 _ rfl;have k2:w5.cell? ⟨gr,or+1,none⟩=some (.int .u32 2):=al 0 (by decide) 1 _ rfl;have l0:gA<w5.heap.size:=Ah bs ag.o;have lr0:gr<w5.heap.size:=Ah bv ag.o;have b6:Hid (jm 2 kJ w5 w2.heap.size (some ⟨gr,or,none⟩) [(1,2)]):=aA ak;clear bu al ak bs bv bq;go_wp2;go_loopw [13,14] (fun vc vi wr=>∃i:Nat,i<=10/\vi=.int .i64 i/\vc=.int .i64 (sO i)/\Hid (wr=w5)) (fun _ vi _=>10-(intOf vi).toNat)
 case atStart=>exact⟨0,AV _,rfl,rfl,aA rfl⟩
 case round =>
  obtain⟨i,hi,rfl,rfl,HW⟩:=hrel;obtain rfl:=HW.o;rename World=>wr;have b7:(sO i:Int)<=10:=by have:=QF i;omega
  by_cases am:i<10
  ·have b9:vF.length=10:=rfl;have ab:i<vF.length:=by omega
   obtain⟨gM,oM,rfl,bw,bx⟩:=b5.o (by decide);obtain⟨Ai,ci,m0,_,_,bz⟩:=bx i ab;have lM:gM<wr.heap.size:=Ah bw br.o;have j:=aA (OP ab);have ao:=Pu _ (AE ab);have cj:((i:Nat):Int)<10:=by omega
   have ca:=aA bz;have k:=aA am;clear bx bw bz b9;generalize vF[i]=row at *;clear ab am
   match row,ao with
   | [],_ =>
    have HC:Hid (sO (i+1)=sO i):=aA (by rw[j.o,AI (by decide)];rfl);have m0:wr.cell? ⟨gM,oM+i,none⟩=some (.slice Ai 0 ci):=m0;clear j;go_wp2;go_roundw
    case rel=>exact⟨i+1,k.o,by go_num,by rw[HC.o],aA trivial⟩
    case measure=>simp[intOf];have:=k.o;omega
   | [x],_ =>
    obtain⟨gx,ox,rfl,bD,ap⟩:=ca.o (by simp);have m0:wr.cell? ⟨gM,oM+i,none⟩=some (.slice (some ⟨gx,ox,none⟩) 1 ci):=m0;have lx:gx<wr.heap.size:=Ah bD br.o;have m1:wr.cell? ⟨gx,ox,none⟩=some (.int .i64 x.1):=ap 0 (by simp) 0 _ rfl;have m2:wr.cell? ⟨gx,ox+1,none⟩=some (.int .u32 x.2):=ap 0 (by simp) 1 _ rfl;clear ap bD;by_cases he:x=(4,8)
    ·subst he;have HC:Hid (sO (i+1)=sO i+1):=aA (by rw[j.o,AC rfl]);clear j;go_wp2;go_roundw
     case rel=>exact⟨i+1,k.o,by go_num,by rw[HC.o];go_num,aA trivial⟩
     case measure=>simp[intOf];have:=k.o;omega
    ·have HC:Hid (sO (i+1)=sO i):=aA (by rw[j.o,AI (fun e=>he (by injection e))];rfl);have cb:=IE he;clear j he;rcases cb with⟨b0,cc,cd⟩|⟨cc,cd⟩
     all_goals
      go_wp2;go_roundw
      case rel=>exact⟨i+1,k.o,by go_num,by rw[HC.o],aA trivial⟩
      case measure=>simp[intOf];have:=k.o;omega
  ·obtain rfl:i=10:=by omega
   rw[OY];clear am hi b7;have aq:=aA (show Lk.rl [(1,2)] 1=[1] by decide);have ar:=aA (show Lk.rl [(1,2)] 0=[] by decide);have ce:Hid (∀x∈[((1:Int),(2:Int))],Ji x):=aA (by unfold Ji Gm.In;simp);have au:=aA (fun(n:Int) (x:World) (h:Below wr.heap.size wr x)=>NJ [(1,2)] n (some ⟨gr,or,none⟩) cr w2.heap.size x (b6.o.below h ag.o) (Aj ag.o h.size) ce.o (by decide));have l:=aA (show Calls prog 15 #[.slice (some ⟨gr,or,none⟩) 1 cr,.int .i64 1] wr _ from au.o 1 wr (AB _ _));go_wp2_with fail
   refine l.o.mono ?_;rintro _ w6 ⟨u6,rfl,av,bM⟩;rw[aq.o]at av;obtain⟨A6,c6,rfl,_,_,bT⟩:=aV.form av;have bX:=aA (show Calls prog 14 #[.slice A6 1 c6,.slice (some ⟨w6.heap.size,0,none⟩) 1 1] (w6.alloc (.cells #[.int .i64 1] 3)) _ from NM A6 (some ⟨w6.heap.size,0,none⟩) c6 1 (w6.alloc (tR [1])) ((bT.below ((AB _ _).alloc (Af _) (tR [1])) (Af _)).more (by simp)) (zY w6 [1]).1);have aw:=aA bM;have cf:=aA k0;have b1:=aA l0;clear bM av bT k0 k1 k2 l0 lr0 l;have ae:Hid (Below wr.heap.size wr (w6.alloc (.cells #[.int .i64 1] 3))):=aA (aw.o.alloc aw.o.size _);have e1:([1]:List Int).length=1:=rfl;rw[e1];clear e1;go_wp2_with fail
   refine bX.o.mono ?_;rintro _ w7 ⟨rfl,n7,b2⟩;have m:Hid (Below wr.heap.size wr w7):=aA (by rw[b2];exact aB ae.o _);clear b2 bX ae aw;have k0:=(m.o.cell (p:=⟨gA,oA,none⟩) b1.o).trans cf.o;have l0:=Ah b1.o m.o.size;have l:=aA (show Calls prog 15 #[.slice (some ⟨gr,or,none⟩) 1 cr,.int .i64 0] w7 _ from au.o 0 w7 m.o);go_wp2_with fail
   refine l.o.mono ?_;rintro _ w8 ⟨u8,rfl,ax,b3⟩;rw[ar.o]at ax;obtain⟨A8,c8,rfl,_,_,cg⟩:=aV.form ax;have ch:=aA (bp.o.trans ((m.o.trans (b3.mono m.o.size)).mono bp.o.size));have e0:([]:List Int).length=0:=rfl;rw[e0];clear ax cg b3 k0 l0 l au e0;go_wp2;go_ret
   exact⟨rfl,ch.o⟩
namespace Lk
open Au Gm
def cur (l:List It) (row:List Nat) (x:It) (s i:Nat):List Nat:=(iD l row x s).take i++row.drop i
theorem ua (l:List It) (row:List Nat) (x:It) (s:Nat):cur l row x s 0=row:=by simp[cur]
theorem wu {l:List It} {row:List Nat} (h:row.length=l.length) (x:It) (s:Nat):cur l row x s l.length=iD l row x s:=by
 unfold cur;rw[BU (by omega),CF];exact Cf (by rw[FA h];omega)
theorem kb {l:List It} {row:List Nat} (h:row.length=l.length) (x:It) (s i:Nat):(cur l row x s i).length=row.length:=by
 unfold cur;rw[AW,Bd,Bl,FA h];omega
theorem lN {l:List It} {row:List Nat} (h:row.length=l.length) (x:It) (s i j:Nat):(cur l row x s i).getD j 0=if j<i then(iD l row x s).getD j 0 else row.getD j 0:=by
 unfold cur;have hg:=FA h x s;rw[Ag,List.getElem?_append,Bd,hg];by_cases hj:j<i
 ·rw[AC hj];by_cases hl:j<row.length
  ·rw[AC (by omega),CO hj,<-Ag]
  ·rw[AI (by omega),List.getElem?_drop,BH (by omega),EP,Ag,BH (by omega)];rfl
 ·rw[AI hj];by_cases hl:j<row.length
  ·rw[AI (by omega),List.getElem?_drop,Ag]
   congr 2
   omega
  ·rw[AI (by omega),List.getElem?_drop,BH (by omega),Ag,BH (by omega)]
theorem Ll {a b:List Nat} (hl:a.length=b.length) (h:∀j:Nat,a.getD j 0=b.getD j 0):a=b:=Cp hl fun j h1 h2=>by
 have:=h j
 rwa [Ag,Ag,AD h1,AD h2]at this
theorem Sb (a:List Nat) (i v j:Nat):(a.set i v).getD j 0=if i=j/\i<a.length then v else a.getD j 0:=by
 rw[Ag,Db];by_cases e:i=j
 ·subst e;by_cases h:i<a.length
  ·rw[AC rfl,AC h,AC ⟨rfl,h⟩];rfl
  ·rw[AC rfl,AI h,AI (fun q=>h q.2),Ag,BH (by omega)]
 ·rw[AI e,AI (fun q=>e q.1),Ag]
theorem pN {l:List It} {row:List Nat} (h:row.length=l.length) {x:It} {s:Nat} (hn:(iD l row x s).getD i 0=row.getD i 0):cur l row x s (i+1)=cur l row x s i :=
 Ll (by rw[kb h,kb h]) fun j=>by
  rw[lN h,lN h];by_cases e:j=i
  ·subst e;rw[AC (by omega),AI (by omega),hn]
  ·by_cases e2:j<i
   ·rw[AC (by omega),AC e2]
   ·rw[AI (by omega),AI e2]
theorem wB {l:List It} {row:List Nat} (h:row.length=l.length) {x:It} {s:Nat} (hi:i<row.length):cur l row x s (i+1)=(cur l row x s i).set i ((iD l row x s).getD i 0) :=
 Ll (by rw[BX,kb h,kb h]) fun j=>by
  rw[Sb,lN h,lN h,kb h];by_cases e:i=j
  ·subst e;rw[AC (show i<i+1 by omega),AC (show i=i/\i<row.length from⟨rfl,hi⟩)]
  ·have e1:¬(i=j/\i<row.length):=fun q=>e q.1;rw[AI e1];by_cases e2:j<i
   ·rw[AC (show j<i+1 by omega),AC e2]
   ·rw[AI (show ¬j<i+1 by omega),AI e2]
theorem yt {l:List It} {row:List Nat} (h:row.length=l.length) {x:It} {s:Nat} (hn:(iD l row x s).getD i 0≠row.getD i 0):cur l row x s (i+1)≠row:=fun e=>by
 have:=lN h x s (i+1) i
 rw[e,AC (by omega)]at this;exact hn this.symm
theorem pg {S:SS} {a:List Nat} (hq:q<S.length):S.set q a=S↔a=S.getD q []:=by
 constructor
 ·intro e
  have:=congrArg (fun z=>z.getD q []) e
  simp only[Ag,DM hq,Bp]at this;rw[Ag];exact this
 ·intro e;rw[e,Ag,AD hq,Bp,List.set_getElem_self]
end Lk
structure fT (w w':World):Prop where
 size:w.heap.size<=w'.heap.size
 fp:∀(g:Nat) (cs:Array Value) (T:TypeId) (fr:Nat×Nat),w.heap[g]?=some (.cells cs T fr)->T≠44->T≠76->w'.heap[g]?=some (.cells cs T fr)
section
variable {w w' w2:World}
theorem fT.refl (w:World):fT w w:=⟨Af _,fun _ _ _ _ h _ _=>h⟩
theorem fT.trans (h:fT w w') (k:fT w' w2):fT w w2:=⟨Aj h.size k.size,fun g cs T fr h1 h2 h3=>k.fp g cs T fr (h.fp g cs T fr h1 h2 h3) h2 h3⟩
theorem fT.below (h:Below w.heap.size w w'):fT w w':=⟨h.size,fun g _ _ _ h1 _ _=>(h.block g (Ad.1 h1).1).trans h1⟩
theorem fT.set {T:TypeId} (h:w.heap[g]?=some (.cells cs T fr)) (hT:T=44\/T=76) (u:Value):fT w (w.setCell ⟨g,i,none⟩ u):=⟨by simp,fun g' cs' T' fr' h1 h2 h3=>(AU w ⟨g,i,none⟩ u g' (fun e=>by
 have e:g'=g:=e;rw[e,h]at h1;injection h1 with h1;injection h1 with _ h1 _;subst h1;rcases hT with q|q
 ·exact h2 q
 ·exact h3 q)).trans h1⟩
end
structure iM (w:World) (base gw:Nat) (g0 g1 g2 g3 av lv sv:Value) (b:Bool) (rl:List (RW Au.It)) (sl:List (RW Nat)):Prop where
 k:w.heap[gw]?=some (.cells #[g0,g1,g2,g3,av,lv,sv,.bool b] 76 (0,0))
 l:aJ 52 1 je w base lv rl
 lr:∀r∈rl,bO 60 2 fO w 0 w.heap.size r
 s:aJ 41 1 je w base sv sl
 sr:∀i (h:i<sl.length),∃g,sl[i].2.1=some ⟨g,0,none⟩/\base<=g/\sl[i].2.2=sl[i].1.length/\gK w g sl[i].1
 nd:∀i j (hi:i<sl.length) (hj:j<sl.length),i≠j->sl[i].2.1≠sl[j].2.1
 hb:base<=gw
section
variable {w w':World} {base gw:Nat} {g0 g1 g2 g3 av lv sv:Value} {b:Bool} {rl:List (RW Au.It)} {sl:List (RW Nat)}
theorem iM.below (h:iM w base gw g0 g1 g2 g3 av lv sv b rl sl) (hb:Below w.heap.size w w'):iM w' base gw g0 g1 g2 g3 av lv sv b rl sl :=
 ⟨aC hb h.k,h.l.below hb (Af _),fun r hr=>((h.lr r hr).below hb (Af _)).more hb.size,h.s.below hb (Af _),fun i hi=>by
  obtain⟨g,h1,h2,h3,h4⟩:=h.sr i hi;exact⟨g,h1,h2,h3,h4.below hb h4.lt⟩,h.nd,h.hb⟩
theorem iM.fC (h:iM w base gw g0 g1 g2 g3 av lv sv b rl sl):base<=w.heap.size:=by
 have:=(Ad.1 h.k).1
 have:=h.hb
 omega
theorem iM.flag (h:iM w base gw g0 g1 g2 g3 av lv sv b rl sl) (b':Bool):iM (w.setCell ⟨gw,7,none⟩ (.bool b')) base gw g0 g1 g2 g3 av lv sv b' rl sl:=by
 refine⟨AZ w gw 7 _ _ _ h.k,AO h.l (aF (AJ _ _) 7 _) (aR h.l h.k fun cur=>aG (by decide)),fun r hr=>?_,AO h.s (aF (AJ _ _) 7 _) (aR h.s h.k fun cur=>aG (by decide)),fun i hi=>?_,h.nd,h.hb⟩
 ·have:=(h.lr r hr).fp (w':=w.setCell ⟨gw,7,none⟩ (.bool b')) fun g cur _ _ hc=>(fT.set h.k (.inr rfl) (.bool b')).fp g cur _ _ hc (by decide) (by decide)
  simpa using this
 ·obtain⟨g,h1,h2,h3,h4⟩:=h.sr i hi;refine⟨g,h1,h2,h3,h4.jr (fun e=>?_) _⟩;have e:g=gw:=e;subst e;have h5:=h.k;unfold gK iA at h4;rw[h4]at h5;injection h5 with h5;injection h5 with _ h5 _;exact absurd h5 (by decide)
theorem Qt {α:Type} {sl:List (RW α)} {r:RW α} (hq:q<sl.length) (h:je r=je sl[q]):(sl.set q r).flatMap je=sl.flatMap je:=by
 induction sl generalizing q with
 | nil=>rfl
 | cons x l ih =>
  cases q with
  | zero=>simp only[CB,B5];rw[h];rfl
  | succ q=>simp only[Cz,B5];rw[ih (by simpa using hq) (by simpa using h)]
theorem iM.put (h:iM w base gw g0 g1 g2 g3 av lv sv b rl sl) (hq:q<sl.length) (hg:sl[q].2.1=some ⟨g,0,none⟩) (i v:Nat):iM (w.setCell ⟨g,i,none⟩ (.int .u32 (v:Int))) base gw g0 g1 g2 g3 av lv sv b rl (sl.set q (sl[q].1.set i v,sl[q].2)):=by
 obtain⟨g',h1,h2,h3,h4⟩:=h.sr q hq;rw[hg]at h1;injection h1 with h1;injection h1 with h1;subst h1;have d:=h4;unfold gK iA at d
 have ab:gw≠g:=fun e=>by
  subst e;have h5:=h.k;rw[d]at h5;injection h5 with h5;injection h5 with _ h5 _;exact absurd h5 (by decide)
 have aa:(sl.set q (sl[q].1.set i v,sl[q].2)).flatMap je=sl.flatMap je:=Qt hq (by unfold je;simp);refine⟨(AU w ⟨g,i,none⟩ _ gw ab).trans h.k,AO h.l (aF (AJ _ _) i _) (aR h.l d fun cur=>aG (by decide)),fun r hr=>?_,?_,fun j hj=>?_,fun j k hj hk ac=>?_,h.hb⟩
 ·have:=(h.lr r hr).fp (w':=w.setCell ⟨g,i,none⟩ (.int .u32 (v:Int))) fun g' cur _ _ hc=>(fT.set d (.inl rfl) (.int .u32 (v:Int))).fp g' cur _ _ hc (by decide) (by decide)
  simpa using this
 ·have:=AO h.s (aF (AJ w (some g)) i (.int .u32 (v:Int))) (aR h.s d fun cur=>aG (by decide))
  unfold aJ;rw[aa,BX];exact this
 ·rw[BX]at hj;by_cases e:q=j
  ·subst e;rw[C9];exact⟨g,hg,h2,by simp[h3],h4.jY i v⟩
  ·rw[DL e];obtain⟨g2,k1,k2,k3,k4⟩:=h.sr j hj;refine⟨g2,k1,k2,k3,k4.jr (fun e2=>?_) _⟩;have e2:g2=g:=e2;exact h.nd q j hq hj e (by rw[hg,k1,e2])
 ·rw[BX]at hj hk
  have hp:∀m (hm:m<(sl.set q (sl[q].1.set i v,sl[q].2)).length) (ad:m<sl.length),(sl.set q (sl[q].1.set i v,sl[q].2))[m].2.1=sl[m].2.1:=fun m hm ad=>by
   by_cases e:q=m
   ·subst e;rw[C9]
   ·rw[DL e]
  rw[hp j (by rw[BX];exact hj) hj,hp k (by rw[BX];exact hk) hk];exact h.nd j k hj hk ac
theorem iM.items (h:iM w base gw g0 g1 g2 g3 av lv sv b rl sl) (hq:q<rl.length):∃gl cl,lv=.slice (some ⟨gl,0,none⟩) rl.length cl/\w.cell? ⟨gl,q,none⟩=some (.slice rl[q].2.1 rl[q].1.length rl[q].2.2)/\jm 2 fO w w.heap.size rl[q].2.1 rl[q].1:=by
 obtain⟨gl,cl,e,_,_,_⟩:=aJ.addr h.l (by omega)
 have:=aJ.cellAt (g:=gl) (n:=rl.length) (c:=cl) (by rw[<-e];exact h.l) tD q 0 hq _ rfl
 rw[DG,Dp]at this;exact⟨gl,cl,e,this,((h.lr _ (AE hq)).2.2).rd⟩
theorem iM.uU (h:iM w base gw g0 g1 g2 g3 av lv sv b rl sl) (hq:q<sl.length):∃gs cs g,sv=.slice (some ⟨gs,0,none⟩) sl.length cs/\w.cell? ⟨gs,q,none⟩=some (.slice (some ⟨g,0,none⟩) sl[q].1.length sl[q].1.length)/\sl[q].2.1=some ⟨g,0,none⟩/\base<=g/\gK w g sl[q].1/\gs≠g/\gw≠g:=by
 obtain⟨gs,cs,e,_,_,_⟩:=aJ.addr h.s (by omega)
 have:=aJ.cellAt (g:=gs) (n:=sl.length) (c:=cs) (by rw[<-e];exact h.s) tD q 0 hq _ rfl
 rw[DG,Dp]at this;obtain⟨g,h1,h2,h3,h4⟩:=h.sr q hq;rw[h1,h3]at this;have aa:=h4;unfold gK iA at aa;refine⟨gs,cs,g,e,this,h1,h2,h4,fun e2=>?_,fun e2=>?_⟩
 ·subst e2
  have:=h.s
  rw[e]at this;rcases aR this aa (fun cur=>aG (by decide)) with k|k
  ·cases k
  ·exact k rfl
 ·subst e2;have h5:=h.k;rw[aa]at h5;injection h5 with h5;injection h5 with _ h5 _;exact absurd h5 (by decide)
end
theorem Ik (w:World) (base gw:Nat) (g0 g1 g2 g3 av lv sv:Value) (b:Bool) (rl:List (RW Au.It)) (sl:List (RW Nat)) (q:Nat) (x:Au.It) (s:Nat) (h:iM w base gw g0 g1 g2 g3 av lv sv b rl sl) (hf:Lk.Fit (rl.map (·.1)) (sl.map (·.1))) (hq:q<rl.length) (hs:s<4294967296) (hu:∀r∈sl,Gm.lG r.1) (az:∀r∈rl,r.1.length<=1000) :
  Calls prog 27 #[.pointer (some ⟨gw,0,none⟩),.int .i64 (q:Int),lI x,.int .u32 (s:Int)] w fun e w'=>e=.returned (.tuple #[]) /\
   ∃sl',iM w' base gw g0 g1 g2 g3 av lv sv (b||decide (Lk.gv (rl.map (·.1)) (sl.map (·.1)) q x s≠sl.map (·.1))) rl sl'/\sl'.map (·.1)=Lk.gv (rl.map (·.1)) (sl.map (·.1)) q x s/\Below base w w'/\fT w w':=by
 have bl:sl.length=rl.length:=by have:=hf.1;simpa using this
 have f:q<sl.length:=by omega
 have ab:(sl[q]'f).1.length=(rl[q]'hq).1.length:=by
  have:=hf.2 q
  simp only[Ag,Bv,AD f,AD hq,Dm,Bp]at this;exact this
 have a0:(rl.map (·.1)).getD q []=(rl[q]'hq).1:=by simp[Ag,AD hq]
 have al:(sl.map (·.1)).getD q []=(sl[q]'f).1:=by simp[Ag,AD f]
 have a3:=hu _ (AE f);have ac:=az _ (AE hq);have a5:∀(y:World) (b':Bool) (sl':List (RW Nat)),iM y base gw g0 g1 g2 g3 av lv sv b' rl sl'->∃gl cl,lv=.slice (some ⟨gl,0,none⟩) rl.length cl/\y.cell? ⟨gl,q,none⟩=some (.slice (rl[q]'hq).2.1 (rl[q]'hq).1.length (rl[q]'hq).2.2)/\jm 2 fO y y.heap.size (rl[q]'hq).2.1 (rl[q]'hq).1:=fun y b' sl' k=>k.items hq
 have a6:∀(y:World) (b':Bool) (c:List Nat),iM y base gw g0 g1 g2 g3 av lv sv b' rl (sl.set q (c,(sl[q]'f).2))->∃gs cs g,sv=.slice (some ⟨gs,0,none⟩) sl.length cs/\y.cell? ⟨gs,q,none⟩=some (.slice (some ⟨g,0,none⟩) c.length c.length)/\(sl[q]'f).2.1=some ⟨g,0,none⟩/\base<=g/\gK y g c/\gs≠g/\gw≠g:=fun y b' c k=>by
  have hl:q<(sl.set q (c,(sl[q]'f).2)).length:=by rw[BX];exact f
  have:=k.uU hl
  rw[C9,BX]at this;exact this
 have a9:∀(y:World) (b':Bool) (c:List Nat) (g i v:Nat),iM y base gw g0 g1 g2 g3 av lv sv b' rl (sl.set q (c,(sl[q]'f).2))->(sl[q]'f).2.1=some ⟨g,0,none⟩->iM (y.setCell ⟨g,i,none⟩ (.int .u32 (v:Int))) base gw g0 g1 g2 g3 av lv sv b' rl (sl.set q (c.set i v,(sl[q]'f).2)):=fun y b' c g i v k hg=>by
  have hl:q<(sl.set q (c,(sl[q]'f).2)).length:=by rw[BX];exact f
  have:=k.put hl (by rw[C9];exact hg) i v
  rw[C9,List.set_set]at this;exact this
 have aa:sl.set q ((sl[q]'f).1,(sl[q]'f).2)=sl:=List.set_getElem_self f;have ad:∀c,(sl.set q (c,(sl[q]'f).2)).map (·.1)=(sl.map (·.1)).set q c:=fun c=>Cv;have am:=Lk.pg (S:=sl.map (·.1)) (q:=q) (a:=Lk.iD (rl[q]'hq).1 (sl[q]'f).1 x s) (by simpa using f);have ao:Lk.gv (rl.map (·.1)) (sl.map (·.1)) q x s=(sl.map (·.1)).set q (Lk.iD (rl[q]'hq).1 (sl[q]'f).1 x s):=by unfold Lk.gv;rw[a0,al]
 rw[al]at am
 have ae:decide (Lk.gv (rl.map (·.1)) (sl.map (·.1)) q x s≠sl.map (·.1))=decide (Lk.iD (rl[q]'hq).1 (sl[q]'f).1 x s≠(sl[q]'f).1):=by
  rw[ao];exact decide_eq_decide.2 (not_congr am)
 rw[ae,ao];obtain⟨w1,ag⟩:∃y,y=w.alloc (.cells #[.int .i64 x.1,.int .i64 x.2] 60):=⟨_,rfl⟩
 have ap:Hid (Below w.heap.size w w1):=aA (by rw[ag];exact(AB _ _).alloc (Af _) _);have bm:Hid (w1.heap[w.heap.size]?=some (.cells #[.int .i64 x.1,.int .i64 x.2] 60 (0,0))):=aA (by rw[ag];exact AG w _);have ah:=aA h.fC;have ba:=h.below ap.o;have b5:((q:Nat):Int)<((rl.length:Nat):Int):=by omega
 have bo:((q:Nat):Int)<((sl.length:Nat):Int):=by omega
 clear ae ao am a0 al bl hu az hf h;generalize (rl[q]'hq).1=lq at *;generalize (rl[q]'hq).2.1=Aq at *;generalize (rl[q]'hq).2.2=cq at *;generalize (sl[q]'f).1=row at *;generalize (sl[q]'f).2=r2 at *;clear hq f;have HU:=aA a3;have bp:=aA ac;have j:=aA ab;have bq:=aA a5;have bb:=aA a6;have br:=aA a9;have aq:=aA ad;have HS:=aA hs;have bc:=aA (fun i=>Lk.jy ab x s i)
 have bs:Hid (iM w1 base gw g0 g1 g2 g3 av lv sv (b||decide (Lk.cur lq row x s 0≠row)) rl (sl.set q (Lk.cur lq row x s 0,r2))):=aA (by
  rw[Lk.ua,AM (fun k=>k rfl),ER,aa];exact ba)
 clear a3 ac ab a5 a6 a9 ad aa ba hs;generalize rl.length=nr at *;generalize sl.length=ns at *
 go_enter func27,ntmps27
 go_upto_region 1 with fail
 rw[<-ag];clear ag;go_wp2;go_loopw [8] (fun vi wr=>∃i:Nat,i<=lq.length/\vi=.int .i64 i/\Hid (iM wr base gw g0 g1 g2 g3 av lv sv (b||decide (Lk.cur lq row x s i≠row)) rl (sl.set q (Lk.cur lq row x s i,r2)))/\Hid (Below base w wr)/\Hid (fT w1 wr)) (fun vi _=>lq.length-(intOf vi).toNat)
 case atStart=>exact⟨0,AV _,rfl,bs,aA (ap.o.mono ah.o),aA (fT.refl _)⟩
 case round =>
  obtain⟨i,hi,rfl,HA,HW,HK⟩:=hrel;rename World=>wr;have hX:=HK.o.fp _ _ _ _ bm.o (by decide) (by decide);have x0:=aS hX;have x1:=aX hX;obtain⟨gl,cl,rfl,l1,l2⟩:=bq.o _ _ _ HA.o;have c5:=rT HA.o.k;by_cases B:i<lq.length
  ·obtain⟨gi,oi,ai,t,n⟩:=l2 (by omega);have e0:=n i B 0 (.int .i64 (lq[i]).1) rfl;have e1:=n i B 1 (.int .i64 (lq[i]).2) rfl;rw[Dp]at e0;rw[ai]at l1;have b6:((i:Nat):Int)<((lq.length:Nat):Int):=by omega
   have b7:((lq.length:Nat):Int)<=1000:=by have:=bp.o;omega
   have aj:lq[i]?=some lq[i]:=AD B;have aj:=aA aj;clear n hX l2 t;generalize lq[i]=y at *;have p:=aA B;clear B;by_cases he:y=x
   ·subst he;obtain⟨gs,cs,g,rfl,s1,s2,s3,s4,s5,s6⟩:=bb.o _ _ _ HA.o;have ar:(Lk.cur lq row y s i).length=row.length:=Lk.kb j.o y s i;have ak:i<(Lk.cur lq row y s i).length:=by rw[ar,j.o];exact p.o
    have n:(Lk.cur lq row y s i).getD i 0=row.getD i 0:=by rw[Lk.lN j.o,AI (by omega)]
    have c6:=xw HA.o.k;have u0:=s4.cell i ak;rw[n]at u0;have bu:((i:Nat):Int)<(((Lk.cur lq row y s i).length:Nat):Int):=by omega
    have t:(Lk.iD lq row y s).getD i 0=row.getD i 0 ||| s:=by rw[bc.o,AC aj.o]
    have ha:=HU.o i;have b9:=u32_andNot_nat s (row.getD i 0) HS.o ha;have bd:(y.1==y.1)=true:=by simp
    have bf:(y.2==y.2)=true:=by simp
    by_cases hn:row.getD i 0 ||| s=row.getD i 0
    ·have hz:(((s &&& (4294967295-row.getD i 0):Nat):Int) != 0)=false:=by rw[(Gm.lo ha HS.o).2 hn];rfl
     have C:Lk.cur lq row y s (i+1)=Lk.cur lq row y s i:=Lk.pN j.o (by rw[t,hn]);have au:Hid (iM wr base gw g0 g1 g2 g3 av (.slice (some ⟨gl,0,none⟩) nr cl) (.slice (some ⟨gs,0,none⟩) ns cs) (b||decide (Lk.cur lq row y s (i+1)≠row)) rl (sl.set q (Lk.cur lq row y s (i+1),r2))):=aA (by rw[C];exact HA.o);clear C ai hn n ak ar ha t s2 s3 s4 s5 s6;generalize (Lk.cur lq row y s i).length=nc at *;generalize row.getD i 0=a at *;generalize s &&& (4294967295-a)=d at *;go_wp2_with fail
     go_quiet (fail)
     obtain⟨wq,l⟩:∃y,y=wr.drewN nq:=⟨_,rfl⟩
     rw[<-l];have m:Hid (Below wr.heap.size wr wq):=aA (by rw[l];exact aB (AB _ _) _);clear l x0 x1 c5 l1 e0 e1 c6 s1 u0;have u:=aA (au.o.below m.o);have D:=aA (HW.o.trans (m.o.mono (Aj ah.o HW.o.size)));have E:=aA (HK.o.trans (fT.below m.o));go_wp2;go_roundw
     case rel=>exact⟨i+1,p.o,by go_num,u,D,E⟩
     case measure=>simp[intOf];have:=p.o;omega
    ·have hz:(((s &&& (4294967295-row.getD i 0):Nat):Int) != 0)=true:=by
      have:(s &&& (4294967295-row.getD i 0))≠0:=fun e=>hn ((Gm.lo ha HS.o).1 e)
      rw[D4];omega
     have ca:=DS (row.getD i 0) s ha HS.o;have bg:Lk.cur lq row y s (i+1)=(Lk.cur lq row y s i).set i (row.getD i 0 ||| s):=by rw[Lk.wB j.o (by rw[j.o];exact p.o),t]
     have bh:(b||decide (Lk.cur lq row y s (i+1)≠row))=true:=by rw[AQ (Lk.yt j.o (by rw[t];exact hn)),Ev]
     have bv:=aA bh
     have bw:=aA (fun(z:World) (k:iM z base gw g0 g1 g2 g3 av (.slice (some ⟨gl,0,none⟩) nr cl) (.slice (some ⟨gs,0,none⟩) ns cs) (b||decide (Lk.cur lq row y s i≠row)) rl (sl.set q (Lk.cur lq row y s i,r2)))=>(show iM (z.setCell ⟨g,i,none⟩ (.int .u32 ((row.getD i 0 ||| s:Nat):Int))) base gw g0 g1 g2 g3 av (.slice (some ⟨gl,0,none⟩) nr cl) (.slice (some ⟨gs,0,none⟩) ns cs) (b||decide (Lk.cur lq row y s i≠row)) rl (sl.set q (Lk.cur lq row y s (i+1),r2)) from by
      rw[bg];exact br.o z _ _ g i _ k s2))
     have F:=aA (fun(z:World) (k:iM z base gw g0 g1 g2 g3 av (.slice (some ⟨gl,0,none⟩) nr cl) (.slice (some ⟨gs,0,none⟩) ns cs) (b||decide (Lk.cur lq row y s i≠row)) rl (sl.set q (Lk.cur lq row y s i,r2)))=>(show z.cell? ⟨gs,q,none⟩=some (.slice (some ⟨g,0,none⟩) (Lk.cur lq row y s i).length (Lk.cur lq row y s i).length)/\gK z g (Lk.cur lq row y s i) from by
      obtain⟨gs',cs',g',e1,a1,a2,_,a4,_⟩:=bb.o _ _ _ k;rw[s2]at a2;injection a2 with a2;injection a2 with a2;injection e1 with e1 _ _;injection e1 with e1;injection e1 with e1;subst a2 e1;exact⟨a1,a4⟩))
     have bx:=aA n;have bz:=aA ak;have aw:=aA (BD s5 (BD s6 s3));clear ai hn n ak ar ha t s2 s3 s4 s5 s6 bg bh;generalize af:(Lk.cur lq row y s i).length=nc at *;have bD:=aA af;clear af;generalize row.getD i 0=a at *;generalize s &&& (4294967295-a)=d at *;go_wp2_with fail
     go_quiet (fail)
     obtain⟨wq,l⟩:∃y,y=wr.drewN nq:=⟨_,rfl⟩
     rw[<-l];have m:Hid (Below wr.heap.size wr wq):=aA (by rw[l];exact aB (AB _ _) _);clear l x0 x1 c5 l1 e0 e1 c6 s1 u0;have u:=aA (HA.o.below m.o);have D:=aA (HW.o.trans (m.o.mono (Aj ah.o HW.o.size)));have E:=aA (HK.o.trans (fT.below m.o));go_upto_region 5 with fail
     have H:Hid (iM wq.drew base gw g0 g1 g2 g3 av (.slice (some ⟨gl,0,none⟩) nr cl) (.slice (some ⟨gs,0,none⟩) ns cs) (b||decide (Lk.cur lq row y s i≠row)) rl (sl.set q (Lk.cur lq row y s i,r2))):=aA (u.o.below (aB (AB _ _) 1));have bi:=F.o _ u.o;have q6:∀z:jg [gw,gs] wq,z.1.cell? ⟨gw,6,none⟩=some (.slice (some ⟨gs,0,none⟩) ns cs):=fun z=>(z.cell (by simp)).trans (AF wq _ 6 _ _ _ u.o.k);have q7:∀z:jg [gw,gs] wq,z.1.cell? ⟨gs,q,none⟩=some (.slice (some ⟨g,0,none⟩) nc nc):=fun z=>(z.cell (by simp)).trans bi.1
     have bj:Hid (∀z:World,z.heap[gw]?=wq.heap[gw]?->z.heap[gs]?=wq.heap[gs]?->∃y:jg [gw,gs] wq,z=y.1):=aA (fun z e1 e2=>⟨⟨z,fun g hg=>by
      rcases Bu.1 hg with rfl|hg
      ·exact e1
      ·rw[AP.1 hg];exact e2⟩,rfl⟩)
     have ax:=aA (bj.o wq.drew rfl rfl);have u1:=(F.o _ H.o).2.cell i (by rw[bD.o];exact bz.o);rw[bx.o]at u1;have fz:=(F.o _ H.o).2.frozen i;have lz:=(F.o _ H.o).2.lt;have bk:=aA (bj.o (wq.drew.setCell ⟨g,i,none⟩ (.int .u32 ((a ||| s:Nat):Int))) (AU _ _ _ _ aw.o.2.1) (AU _ _ _ _ aw.o.1));have A:=aA (bw.o _ H.o);have bM:Hid (Below base w (wq.drew.setCell ⟨g,i,none⟩ (.int .u32 ((a ||| s:Nat):Int)))):=aA ((D.o.trans (aB (AB _ _) 1)).setCell aw.o.2.2 _);have ay:=(F.o _ H.o).2;unfold gK iA at ay;have bT:Hid (fT w1 (wq.drew.setCell ⟨g,i,none⟩ (.int .u32 ((a ||| s:Nat):Int)))):=aA ((E.o.trans (fT.below (aB (AB _ _) 1))).trans (fT.set ay (.inl rfl) _));clear bi ay;refine CalmN.fk (fun x=>∃z:jg [gw,gs] wq,x=z.1) (.one [0,1,2,3,4,5,6,7,8,9,10,11,12,13,14,15,16,18] 17 (.one [19,20] 21 (.fin []))) (by kernel_rfl) (by kernel_rfl) (fun _ _ d _ _ h=>by cases d <;> exact h) ax.o ?_;simp only[CalmN.fN,CalmN.fv,CalmN.fo,Az,Am,Ap];repeat (go_big_quiet_step (fail))
     refine Aw ?_;intro KK I;rw[AC (by rfl)];generalize wq.drew=wd at *;go_wp2_with fail
     refine I _ _ ax.o _ (fun _ h=>h) ax.o ?_;clear I;repeat (go_big_quiet_step (fail))
     refine Aw ?_;intro KK I;rw[AC (by rfl)];go_wp2_with fail
     refine I _ _ bk.o _ (fun _ h=>h) bk.o ?_;clear I q6 q7 u1 fz lz;refine Aw ?_;generalize wd.setCell ⟨g,i,none⟩ (.int .u32 ((a ||| s:Nat):Int))=we at *;have c7:=AF we _ 7 _ _ _ A.o.k;have f7:=AH we _ 7 _ _ A.o.k;have l7:=(Ad.1 A.o.k).1;have bX:Hid (iM (we.setCell ⟨gw,7,none⟩ (.bool true)) base gw g0 g1 g2 g3 av (.slice (some ⟨gl,0,none⟩) nr cl) (.slice (some ⟨gs,0,none⟩) ns cs) (b||decide (Lk.cur lq row y s (i+1)≠row)) rl (sl.set q (Lk.cur lq row y s (i+1),r2))):=aA (by rw[bv.o];exact A.o.flag true);have b1:Hid (Below base w (we.setCell ⟨gw,7,none⟩ (.bool true))):=aA (bM.o.setCell A.o.hb _);have b2:Hid (fT w1 (we.setCell ⟨gw,7,none⟩ (.bool true))):=aA (bT.o.trans (fT.set A.o.k (.inr rfl) _));go_wp2;go_roundw
     case rel=>exact⟨i+1,p.o,by go_num,bX,b1,b2⟩
     case measure=>simp[intOf];have:=p.o;omega
   ·have C:Lk.cur lq row x s (i+1)=Lk.cur lq row x s i:=Lk.pN j.o (by rw[bc.o,aj.o,AI];intro k;injection k with k;exact he k);have au:Hid (iM wr base gw g0 g1 g2 g3 av (.slice (some ⟨gl,0,none⟩) nr cl) sv (b||decide (Lk.cur lq row x s (i+1)≠row)) rl (sl.set q (Lk.cur lq row x s (i+1),r2))):=aA (by rw[C];exact HA.o);have b3:=IE he;clear C he ai;rcases b3 with⟨b0,bd,bf⟩|⟨bd,bf⟩
    all_goals
     go_wp2_with fail
     go_quiet (fail)
     obtain⟨wq,l⟩:∃y,y=wr.drewN nq:=⟨_,rfl⟩
     rw[<-l];have m:Hid (Below wr.heap.size wr wq):=aA (by rw[l];exact aB (AB _ _) _);clear l x0 x1 c5 l1 e0 e1;have u:=aA (au.o.below m.o);have D:=aA (HW.o.trans (m.o.mono (Aj ah.o HW.o.size)));have E:=aA (HK.o.trans (fT.below m.o));go_wp2;go_roundw
     case rel=>exact⟨i+1,p.o,by go_num,u,D,E⟩
     case measure=>simp[intOf];have:=p.o;omega
  ·have b4:i=lq.length:=by omega
   subst b4;rw[Lk.wu j.o]at HA;clear l2;go_wp2;go_end0
   exact⟨rfl,_,HA.o,aq.o _,HW.o,(fT.below ap.o).trans HK.o⟩
theorem Nf (ss:List qV) (A:Option Addr) (c B:Nat) (q:Int) (sy:List Int) (AY:Option Addr) (cY BY:Nat) (w:World) (hr:bW w B A ss) (hB:B<=w.heap.size) (hn:ss.length<=100000) (ah:∀x∈ss,x.2.length<=1000000) (hy:gd w BY AY sy) (ai:BY<=w.heap.size) (a6:sy.length<=100000) :
  Calls prog 50 #[.slice A ss.length c,.int .i64 q,.slice AY sy.length cY] w fun e w'=>e=.returned (.tuple #[.int .i64 ((Au.jI ss q sy).getD 0),.bool (Au.jI ss q sy).isSome])/\Below w.heap.size w w':=by
 have a9:(sy.length:Int)<=100000:=by omega
 have ba:(ss.length:Int)<=100000:=by omega
 have H0:Au.jI ss q (sy.take 0)=if Au.s7 ss.length q=true then some q else none:=by rw[EH];exact Au.nw ss q
 have r:Hid (Au.s7 ss.length q=false->Au.jI ss q sy=none):=aA (fun e=>by
  rw[e,AI (by decide)]at H0;have h2:=Au.qB (E:=ss.map (·.2)) (b:=sy.drop 0) (show Au.nC (ss.map (·.2)) q (sy.take 0)=none from H0);rw[Ek]at h2;exact h2)
 by_cases h1:q<0
 ·have HN:=aA (r.o (by unfold Au.s7;rw[AM (by omega),CI]));clear hr hy H0 r
  go_enter func50,ntmps50
  go_wp2
  go_ret2
  exact⟨by rw[HN.o];rfl,AB _ _⟩
 ·by_cases h2:(ss.length:Int)<=q
  ·have HN:=aA (r.o (by unfold Au.s7;rw[AM (p:=q<(ss.length:Int)) (by omega),Bool.and_false]));clear hr hy H0 r
   go_enter func50,ntmps50
   go_wp2
   go_ret2
   exact⟨by rw[HN.o];rfl,AB _ _⟩
  ·have aq:Hid (Au.jI ss q (sy.take 0)=some q):=aA (by rw[H0,AC (Au.mj.2 ⟨by omega,by omega⟩)]);have HR:=aA hr;have HB:=aA hB;have HY:=aA hy;have ar:=aA ai;have au:=aA ah;obtain⟨m0,ac⟩:∃m:Nat,q=(m:Int):=⟨q.toNat,by omega⟩
   subst ac;have ac:m0<ss.length:=by omega
   clear hr hB hy ai ah H0 r
   go_enter func50,ntmps50
   go_wp2;go_loopw [1,8] (fun va vi wr=>∃(i m:Nat),i<=sy.length/\m<ss.length/\va=.int .i64 m/\vi=.int .i64 i/\Hid (Au.jI ss (m0:Int) (sy.take i)=some (m:Int))/\Hid (Below w.heap.size w wr)) (fun _ vi _=>sy.length-(intOf vi).toNat)
   case atStart=>exact⟨0,m0,AV _,ac,rfl,rfl,aq,aA (AB _ _)⟩
   case round =>
    obtain⟨i,m,hi,hm,rfl,rfl,HQ,HW⟩:=hrel;by_cases ab:i<sy.length
    ·obtain⟨gy,oy,rfl,av,aj⟩:=HY.o (by omega);have KY:=aA (fun(y:World) (h:Below w.heap.size w y)=>(h.cell (p:=⟨gy,oy+i,none⟩) (Ah av ar.o)).trans (aj i ab));rw[L.fy ab]at KY;obtain⟨g,o,rfl,aw,hc⟩:=HR.o (by omega);obtain⟨A2,c2,a2,_,_,r2⟩:=(hc m hm).2;have KA:=aA (fun(y:World) (h:Below w.heap.size w y)=>(h.cell (p:=⟨g,o+m*2+1,none⟩) (Ah aw HB.o)).trans a2);have ax:=aA r2
     have ak:Hid (Au.jI ss (m0:Int) (sy.take (i+1))=Au.jI ss (Au.lead (ss[m]).2 sy[i]) []):=aA (by
      rw[AL ab,Au.tA,HQ.o,Option.bind_some,show((m:Int)).toNat=m by omega,Ag,Bv,AD hm];rfl)
     have aa:Hid (Au.s7 ss.length (Au.lead (ss[m]).2 sy[i])=false->Au.jI ss (m0:Int) sy=none):=aA (fun e=>by
      have h1:=ak.o;rw[Au.nw,e,AI (by decide)]at h1;have h2:=Au.qB (E:=ss.map (·.2)) (b:=sy.drop (i+1)) (show Au.nC (ss.map (·.2)) (m0:Int) (sy.take (i+1))=none from h1);rw[Ek]at h2;exact h2)
     have ay:=aA (Au.nw ss (Au.lead (ss[m]).2 sy[i]));have az:=aA (au.o _ (AE hm));have bb:(m:Int)<(ss.length:Int):=by omega
     have bc:(i:Int)<(sy.length:Int):=by omega
     clear aj hc a2 r2;generalize (ss[m]).2=l at *;generalize sy[i]=s at *;have bd:(l.length:Int)<=1000000:=by have:=az.o;omega
     go_wp2;go_loopw [9,10,11] (fun vt vo vk wy=>∃(k:Nat) (z:Int) (b:Bool),k<=l.length/\vt=.int .i64 z/\vo=.bool b/\vk=.int .i64 k/\Hid (b=false->z = -1/\∀j (h:j<l.length),j<k->(l[j]).1≠s)/\Hid (b=true->z=Au.lead l s)/\Hid (Below w.heap.size w wy)) (fun _ _ vk _=>l.length-(intOf vk).toNat)
     case atStart=>exact⟨0,-1,false,AV _,rfl,rfl,rfl,aA (fun _=>⟨rfl,fun _ _ h=>absurd h (De _)⟩),aA (fun h=>by cases h),HW⟩
     case round =>
      obtain⟨k,z,b,hk,rfl,rfl,rfl,HF,HT,f⟩:=hrel;rename World=>wy;have k2:=KA.o wy f.o;cases b
      ·by_cases n:k<l.length
       ·obtain⟨ge,oe,rfl,al,ad⟩:=ax.o (by omega);have bf:(k:Int)<(l.length:Int):=by omega
        have qa:∀z:Calm.On wy.heap.size wy,z.1.cell? ⟨g,o+m*2+1,none⟩=some (.slice (some ⟨ge,oe,none⟩) l.length c2):=fun z=>KA.o z.1 (f.o.trans (z.2.mono f.o.size));have qs:∀z:Calm.On wy.heap.size wy,z.1.cell? ⟨gy,oy+i,none⟩=some (.int .i64 s):=fun z=>KY.o z.1 (f.o.trans (z.2.mono f.o.size));have q0:∀z:Calm.On wy.heap.size wy,z.1.cell? ⟨ge,oe+k*2,none⟩=some (.int .i64 (l[k]).1):=fun z=>((f.o.trans (z.2.mono f.o.size)).cell (p:=⟨ge,oe+k*2,none⟩) (Ah al HB.o)).trans (ad k n 0 _ rfl);have k1:wy.drew.cell? ⟨ge,oe+k*2+1,none⟩=some (.int .i64 (l[k]).2):=(f.o.cell (p:=⟨ge,oe+k*2+1,none⟩) (Ah al HB.o)).trans (ad k n 1 _ rfl);have am:=aW wy;have ao:Hid (Below w.heap.size w wy.drew):=aA (aB f.o 1);have k2d:wy.drew.cell? ⟨g,o+m*2+1,none⟩=some (.slice (some ⟨ge,oe,none⟩) l.length c2):=k2;have ae:Hid ((l[k]).1=s->(l[k]).2=Au.lead l s):=aA (fun e=>(Au.sj ⟨⟨n,e⟩,fun j hj a0=>(HF.o rfl).2 j hj a0⟩ n).symm)
        have af:Hid ((l[k]).1≠s->∀j (h:j<l.length),j<k+1->(l[j]).1≠s):=aA (fun e j h h2=>by
         rcases Bx j k with h3|h3
         ·exact(HF.o rfl).2 j h h3
         ·obtain rfl:j=k:=by omega
          exact e)
        have a1:=aA (HF.o rfl).1;clear ad;generalize l[k]=y at *;by_cases he:y.1=s
        ·have HX:=aA (ae.o he);have hq:(y.1==s)=true:=by rw[BJ];exact he
         clear ae af he;go_wp2_with fail
         refine CalmN.fk (fun x=>∃z:Calm.On wy.heap.size wy,x=z.1) (.fin [0,1,2,3,4,5,6,7,8,9,10,11,12,13]) (by kernel_rfl) (by kernel_rfl) (fun _ _ d _ _ h=>by cases d <;> exact h) am.o ?_;simp only[CalmN.fN,CalmN.fo,Az,Am,Ap];repeat (go_big_quiet_step (fail))
         refine Aw ?_;clear qa qs q0 k2;go_wp2;go_roundw
         case rel=>exact⟨k+1,y.2,true,n,rfl,rfl,by go_num,aA (fun h=>by cases h),aA (fun _=>HX.o),ao⟩
         case measure=>simp[intOf];omega
        ·have HX:=aA (af.o he);have hq:(y.1==s)=false:=by rw[Ba];exact he
         clear ae af he;go_wp2_with fail
         refine CalmN.fk (fun x=>∃z:Calm.On wy.heap.size wy,x=z.1) (.fin [0,1,2,3,4,5,6,7,8,9,10,11,12,13]) (by kernel_rfl) (by kernel_rfl) (fun _ _ d _ _ h=>by cases d <;> exact h) am.o ?_;simp only[CalmN.fN,CalmN.fo,Az,Am,Ap];repeat (go_big_quiet_step (fail))
         refine Aw ?_;clear qa qs q0 k2 k1 k2d;go_wp2;go_roundw
         case rel=>exact⟨k+1,z,false,n,rfl,rfl,by go_num,aA (fun _=>⟨a1.o,HX.o⟩),aA (fun h=>by cases h),ao⟩
         case measure=>simp[intOf];omega
       ·have a3:Hid (Au.lead l s = -1):=aA (Au.wM fun x hx=>by
         obtain⟨j,hj,rfl⟩:=BF hx;exact(HF.o rfl).2 j hj (by omega))
        have hz:=(HF.o rfl).1;subst hz;have HN:=aA (aa.o (by rw[a3.o];unfold Au.s7;rw[AM (by omega),CI]));clear HF HT;go_wp2
        go_ret2
        exact⟨by rw[HN.o];rfl,f.o⟩
      ·have hz:=HT.o rfl;have ag:=aA hz;clear hz HF HT;by_cases n:(k:Int)<(l.length:Int)
       all_goals
        by_cases h5:z<0
        ·have HN:=aA (aa.o (by rw[<-ag.o];unfold Au.s7;rw[AM (by omega),CI]));go_wp2
         go_ret2
         exact⟨by rw[HN.o];rfl,f.o⟩
        ·by_cases h6:(ss.length:Int)<=z
         ·have HN:=aA (aa.o (by rw[<-ag.o];unfold Au.s7;rw[AM (p:=z<(ss.length:Int)) (by omega),Bool.and_false]));go_wp2
          go_ret2
          exact⟨by rw[HN.o];rfl,f.o⟩
         ·obtain⟨m2,ap⟩:∃m2:Nat,z=(m2:Int):=⟨z.toNat,by omega⟩
          have a4:m2<ss.length:=by omega
          have a5:Hid (Au.jI ss (m0:Int) (sy.take (i+1))=some (m2:Int)):=aA (by
           rw[ak.o,ay.o,<-ag.o,ap,AC (Au.mj.2 ⟨by omega,by omega⟩)])
          subst ap;go_wp2;go_roundw
          case rel=>exact⟨i+1,m2,ab,a4,rfl,by go_num,a5,f⟩
          case measure=>simp[intOf];omega
    ·obtain rfl:i=sy.length:=by omega
     rw[Bn]at HQ;go_wp2
     go_ret2
     exact⟨by rw[HQ.o];rfl,HW.o⟩
theorem Ko (l:List Int) (rest:Nat) (nu:List Bool) (fs:List Nat) (A A1 A2:Option Addr) (c c1 c2 B B1 B2:Nat) (w:World) (hr:gd w B A l) (h1:jl w B1 A1 nu) (h2:pB w B2 A2 fs) (ae:∀z∈l,Gm.In z) (af:∀z∈l,z<=31) (hs:∀z∈l,z<0->-1-z<(fs.length:Int)) (hn:nu.length=fs.length) (hf:Gm.lG fs) (aa:rest<4294967296) (hl:l.length<=9223372036854775807) :
  Calls prog 35 #[.slice A l.length c,.slice A1 nu.length c1,.slice A2 fs.length c2,.int .u32 rest] w fun e w'=>e=.returned (.int .u32 (Gm.iN nu fs rest l))/\∃q,w'=w.drewN q:=by
 have HR:=aA hr;have H1:=aA h1;have H2:=aA h2;have al:=aA ae;have am:=aA af;have HS:=aA hs;have HN:=aA hn;have HF:=aA hf;have ao:=aA aa;have ap:=aA (Gm.qd nu fs rest l);have h0:(l.length:Int)<=9223372036854775807:=by omega
 obtain⟨r,ab⟩:∃r,r=Gm.iN nu fs rest l:=⟨_,rfl⟩
 have aq:=aA ab;rw[<-ab];clear hr h1 h2 ae af hs hn hf hl ab aa
 go_enter func35,ntmps35
 go_wp2
 go_loop [10,9] (fun vi vs=>∃(k s:Nat),k<=l.length/\vi=.int .i64 k/\vs=.int .u32 s/\Hid (s<4294967296)/\Hid (r=s ||| Gm.iN nu fs rest (l.drop k))) (fun vi _=>l.length-(intOf vi).toNat)
 case atStart=>exact⟨0,0,AV _,rfl,rfl,aA (by decide),aA (by rw[aq.o];simp)⟩
 case round =>
  obtain⟨k,s,hk,rfl,rfl,HL,HE⟩:=hrel;by_cases d:k<l.length
  ·obtain⟨g,o,rfl,ax,hc⟩:=HR.o (by omega);have k0:=hc k d;rw[L.fy d]at k0;have ac:=al.o _ (AE d);have ag:=am.o _ (AE d);have ad:=HS.o _ (AE d);have f:=aA (HE.o.trans (ap.o k d s));clear hc;generalize l[k]=z at *;unfold Gm.In at ac;by_cases i:0<=z
   ·have hb:Gm.qI fs z=S.bit z:=by unfold Gm.qI S.bit;rw[AC i,AC (by omega)]
    have hm:Gm.tc nu z=false:=by unfold Gm.tc;rw[AM (by omega)];rfl
    rw[hb,hm]at f;have ho:=aA (DS s (S.bit z) HL.o (S.oD z));have ar:=aA (fun w=>KH z w (by omega));have d0:decide (0<=z)=true:=AQ i;generalize S.bit z=b at *;clear ac ag ad i hb hm;go_wp2_with fail
    refine(ar.o _).mono ?_;rintro _ w2 ⟨rfl,q,rfl⟩;go_wp2_with fail
    go_ret
    exact⟨aU (by rw[ho.o,f.o];simp),q,rfl⟩
   ·have au:=ad (by omega);obtain⟨m,he⟩:∃m:Nat,-1-z=(m:Int):=⟨(-1-z).toNat,by omega⟩
    rw[he]at au;have hb:Gm.qI fs z=fs.getD m 0:=by unfold Gm.qI;rw[AI i,he];simp
    have hm:Gm.tc nu z=nu.getD m false:=by unfold Gm.tc;rw[AQ (by omega),he];simp
    rw[hb,hm]at f;have av:m<fs.length:=by omega
    have aw:m<nu.length:=by have:=HN.o;omega
    have ay:(m:Int)<(nu.length:Int):=by omega
    obtain⟨g1,o1,rfl,_,ah⟩:=H1.o (by omega);obtain⟨g2,o2,rfl,_,ai⟩:=H2.o.addr (by omega);have k1:=ah m aw;have k2:=ai m av;have ho:=aA (DS s (fs.getD m 0) HL.o (HF.o m));have aj:=aA (Gm.qe HL.o (HF.o m));have d0:decide (0<=z)=false:=AM i;have d2:IntKind.i64.wrap (-1-z)=(m:Int):=by rw[B3 _ (by omega)];exact he
    generalize fs.getD m 0=b at *;obtain⟨s2,ak⟩:∃s2,s2=s ||| b:=⟨_,rfl⟩
    rw[<-ak]at ho aj f;generalize nu.getD m false=bn at *;clear ac ag ad i hb hm ak ah ai he;cases bn
    ·go_wp2_with fail
     go_ret
     exact⟨aU (by rw[ho.o,f.o];simp),0,rfl⟩
    ·go_wp2_with fail
     go_round
     case rel=>exact⟨k+1,s2,d,by go_num,by rw[ho.o],aj,aA (by rw[f.o];simp)⟩
     case measure=>simp[intOf];omega
  ·obtain rfl:k=l.length:=by omega
   have ho:=aA (DS s rest HL.o ao.o);have HX:Hid (r=s ||| rest):=aA (by rw[HE.o,Ew];rfl);go_wp2_with fail
   go_ret
   exact⟨aU (by rw[ho.o,HX.o]),0,rfl⟩
theorem Gm.sY {f:List Nat->Gm.Rl->List Nat} (h:k<rs.length) (s:List Nat):(rs.take (k+1)).foldl f s=f ((rs.take k).foldl f s) rs[k]:=by
 rw[AL h,Dj];rfl
theorem oh.fold {G:Gm.Gr} (hf:Gm.Fit G) (aa:Gm.Ok G):∀(xs:List Gm.Rl) (s:List Nat),(∀x∈xs,x∈G.rs)->oh G s->oh G (xs.foldl (Gm.fV (Gm.gn false G.rs G.ns.length)) s)
 | [],_,_,h=>h
 | x::xs,_,hx,h=>oh.fold hf aa xs _ (fun y hy=>hx y (Bo _ hy)) (h.step hf aa (hx x (Br ..)))
theorem oh.times (hf:Gm.Fit G) (aa:Gm.Ok G) (n:Nat):oh G (Gm.iH (fun s=>G.rs.foldl (Gm.fV (Gm.gn false G.rs G.ns.length)) s) n (List.replicate G.ns.length 0)):=by
 induction n with
 | zero=>exact oh.start G
 | succ n ih=>exact ih.fold hf aa _ _ (fun _ h=>h)
theorem Nr (v:Value) (G:Gm.Gr) (B:Nat) (w:World) (hg:aT w B v G) (hf:Gm.Fit G) (hB:B<=w.heap.size) :
  Calls prog 34 #[v] w (I5 (Gm.right G) (Gm.fst G) w):=by
 have H1:=aA (fun(x:World) (h:Below w.heap.size w x)=>zJ v G B x (hg.below h hB) hf (Aj hB h.size));have I:=aA (fun(q:Gm.right G=true) (x:World) (h:Below w.heap.size w x)=>(show Calls _ _ _ _ (tK _ _) from(JA v G B x (hg.below h hB) hf (Aj hB h.size)).mono fun e w' k=>k.1 q));obtain⟨AT,cT,AN,cN,AR,cR,rfl,_,⟨b2,b3⟩,⟨b4,b5⟩,_,_,hR⟩:=hg;have J:=aA (One.start w #[.slice AT G.ts.length cT,.slice AN G.ns.length cN,.slice AR G.rs.length cR,.int .i64 G.st]);have bj:=aA hR;have HB:=aA hB;have ae:=aA hf;clear hf hR hB;cases q:Gm.right G
 ·rw[q]at H1;clear q
  go_enter func34,ntmps34
  go_wp2_with fail
  refine(H1.o _ J.o.below).mono ?_;rintro _ w2 ⟨rfl,hb⟩;have j:=aA (J.o.on hb);clear hb;go_wp2;go_ret
  exact⟨fun h=>by simp at h,fun _=>⟨rfl,j.o.below⟩⟩
 ·have M:=aA (Gm.ft.1 q);have HN:Hid (G.ns.length<=40):=aA (by have:=(Gm.fG G).1 M.o.n;omega);have bk:Hid (G.rs.length<=40):=aA M.o.kz;have I:=aA (I.o q);rw[q]at H1;clear q;have b6:=HN.o;have bl:(G.ns.length:Int)<=9223372036854775807:=by omega
  have ar:(G.rs.length:Int)<=9223372036854775807:=by omega
  obtain⟨T,hT⟩:∃x,x=Gm.gn false G.rs G.ns.length:=⟨_,rfl⟩
  have af:Hid (T.length=G.ns.length):=aA (by rw[hT,Gm.gW]);have HT:=aA hT;rw[<-hT]at I;clear hT
  go_enter func34,ntmps34
  go_wp2_with fail
  refine(H1.o _ J.o.below).mono ?_;rintro _ w2 ⟨rfl,hb⟩;have j:=aA (J.o.on hb);have q0:=j.o.c 0 _ rfl;have q1:=j.o.c 1 _ rfl;have q2:=j.o.c 2 _ rfl;have q3:=j.o.c 3 _ rfl;have bm:w.heap.size<w2.heap.size:=j.o.size;clear hb;go_upto_region 4 with fail
  refine(I.o _ j.o.below).mono ?_;rintro _ w3 ⟨g1,rfl,bo,ag,au⟩;have ah:=aA (j.o.on au);have av:=aA ag;have ac:=aA ag.lt;have q1:=ah.o.c 1 _ rfl;have aw:w.heap.size<w3.heap.size:=ah.o.size;rw[af.o];clear au q0 q2 q3 ag bo bm H1 I J;go_upto_region 5 with(at_make;refine RI rfl (.tmp 15) (.tmp 15) _ rfl underlying41 G.ns.length _ _ rfl rfl rfl rfl (by omega) ?_;intro w4 ax ad ai)
  have ay:=aA (ah.o.on ad);have az:Hid (gK w4 w3.heap.size (List.replicate G.ns.length 0)):=aA (by unfold gK;rw[Mb];exact ax);have b7:=aA (Ah ac.o ad.size);have ab:Hid (fL w4 g1 T):=aA (av.o.below ad ac.o);have bp:Hid (g1<w3.heap.size):=ac;have a0:Hid (w.heap.size<w3.heap.size):=aA aw;clear ax ad ai q1 aw av ac;obtain⟨f,N⟩:∃f,f=Gm.fV T:=⟨_,rfl⟩
  have bq:=aA N;have br:Hid (∀n,oh G (Gm.iH (fun s=>G.rs.foldl f s) n (List.replicate G.ns.length 0))):=aA (fun n=>by rw[N,HT.o];exact oh.times ae.o M.o n);have aj:Hid (Gm.iH (fun s=>G.rs.foldl f s) G.ns.length (List.replicate G.ns.length 0)=Gm.fst G):=aA (by rw[N,HT.o];rfl);have bs:Hid (∀(xs:List Gm.Rl) (s:List Nat),(∀x∈xs,x∈G.rs)->oh G s->oh G (xs.foldl f s)):=aA (fun xs s hx h=>by rw[N,HT.o];exact h.fold ae.o M.o xs s hx);clear N;go_wp2;go_loopw [5] (fun vn wr=>∃n:Nat,n<=G.ns.length/\vn=.int .i64 n/\Hid (gK wr w3.heap.size (Gm.iH (fun s=>G.rs.foldl f s) n (List.replicate G.ns.length 0)))/\Hid (fL wr g1 T)/\Hid (One w #[.slice AT G.ts.length cT,.slice AN G.ns.length cN,.slice AR G.rs.length cR,.int .i64 G.st] wr)) (fun vn _=>G.ns.length-(intOf vn).toNat)
  case atStart=>exact⟨0,AV _,rfl,az,ab,ay⟩
  case round =>
   obtain⟨n,hn,rfl,HU,HV,HW⟩:=hrel;obtain⟨wo,bu⟩:∃wo:World,wo=wr:=⟨_,rfl⟩
   subst bu;have q1:=HW.o.c 1 _ rfl;have ld:w.heap.size<wo.heap.size:=HW.o.size;clear az ay ab;by_cases bv:n<G.ns.length
   ·have HP:=aA (br.o n);have bw:Hid (Gm.iH (fun s=>G.rs.foldl f s) (n+1) (List.replicate G.ns.length 0)=G.rs.foldl f (Gm.iH (fun s=>G.rs.foldl f s) n (List.replicate G.ns.length 0))):=aA rfl;generalize Gm.iH (fun s=>G.rs.foldl f s) n (List.replicate G.ns.length 0)=s at *;go_wp2;go_loopw [6] (fun vi wr=>∃i:Nat,i<=G.rs.length/\vi=.int .i64 i/\Hid (gK wr w3.heap.size ((G.rs.take i).foldl f s))/\Hid (fL wr g1 T)/\Hid (One w #[.slice AT G.ts.length cT,.slice AN G.ns.length cN,.slice AR G.rs.length cR,.int .i64 G.st] wr)) (fun vi _=>G.rs.length-(intOf vi).toNat)
    case atStart=>exact⟨0,AV _,rfl,HU,HV,HW⟩
    case round =>
     clear HU HV HW q1 ld;obtain⟨i,hi,rfl,HU,HV,HW⟩:=hrel;have q2:=HW.o.c 2 _ rfl;have ld:w.heap.size<wr.heap.size:=HW.o.size;by_cases aa:i<G.rs.length
     ·obtain⟨g,o,rfl,ak,hc⟩:=bj.o (by omega);obtain⟨k0,⟨A',c',k1,a1,_,a2⟩,k2⟩:=hc i aa;have k0:=(HW.o.below.cell (p:=⟨g,o+i*3,none⟩) (Ah ak HB.o)).trans k0;have k1:=(HW.o.below.cell (p:=⟨g,o+i*3+1,none⟩) (Ah ak HB.o)).trans k1;have k2:=(HW.o.below.cell (p:=⟨g,o+i*3+2,none⟩) (Ah ak HB.o)).trans k2;have b9:g<wr.heap.size:=by have:=HB.o;omega
      have a3:G.rs[i]∈G.rs:=AE aa;have u:=aA (Jb ae.o M.o a3);have a4:=aA (Gm.sY (f:=f) aa s);have C:=aA (bs.o (G.rs.take i) s (fun x hx=>DV hx) HP.o);have al:=aA (a2.fp fun g o hg=>HW.o.below.cell (p:=⟨g,o,none⟩) (Ah hg HB.o));generalize (G.rs.take i).foldl f s=cur at *;generalize G.rs[i]=x at *;obtain⟨l,r,p⟩:=x;obtain⟨m,rfl⟩:∃m:Nat,l=(m:Int):=⟨l.toNat,by have:=u.o.l0;simp only at this;omega⟩
      simp only at k0 k1 k2 al a1;have a5:m<G.ns.length:=by have:=u.o.l1;simp only at this;omega
      have ca:(m:Int)<(G.ns.length:Int):=by omega
      obtain⟨wb,D⟩:∃y,y=wr.alloc (.cells #[.int .i64 m,.slice A' r.length c',.int .i64 p] 48):=⟨_,rfl⟩
      have am:Hid (wb.heap[wr.heap.size]?=some (.cells #[.int .i64 m,.slice A' r.length c',.int .i64 p] 48 (0,0))):=aA (by rw[D];exact AG wr _);have F:Hid (gK wb w3.heap.size cur):=aA (by rw[D];exact HU.o.alloc _);have ao:Hid (fL wb g1 T):=aA (by rw[D];exact HV.o.alloc _);have bx:Hid (One w #[.slice AT G.ts.length cT,.slice AN G.ns.length cN,.slice (some ⟨g,o,none⟩) G.rs.length cR,.int .i64 G.st] wb):=aA (by rw[D];exact HW.o.alloc _);have bz:Hid (gd wb B A' r):=aA (by rw[D];exact al.o.alloc (by have:=HB.o;omega) _);have O:=Ko r 0 T cur A' (some ⟨g1,0,none⟩) (some ⟨w3.heap.size,0,none⟩) c' G.ns.length G.ns.length B wb.heap.size wb.heap.size wb.drew (bz.o.drewN 1) ((ao.o.drewN 1).o4 ao.o.lt) ((F.o.drewN 1).rd F.o.lt) u.o.i u.o.t (fun z hz h=>by rw[C.o.1];exact u.o.n z hz h) (by rw[C.o.1,af.o]) C.o.2.1 (by decide) (by have:=u.o.c;simp only at this;omega);rw[C.o.1,af.o]at O;have bD:Hid (Gm.iN T cur 0 r<4294967296):=aA (Gm.lG.iN C.o.2.1 (by decide) u.o.t);have HX:Hid ((G.rs.take (i+1)).foldl f s=cur.set m (cur.getD m 0 ||| Gm.iN T cur 0 r)):=aA (by rw[a4.o,bq.o];unfold Gm.fV Gm.iX;simp);have O:=aA O;generalize Gm.iN T cur 0 r=vv at *;have ho:=DS (cur.getD m 0) vv (C.o.2.1 m) bD.o;have ap:m<cur.length:=by rw[C.o.1];exact a5
      have a6:=aA ap;have km:=F.o.cell m ap;have fm:=F.o.frozen m;have lu:=F.o.lt;have bM:=aA (fun(z:World) (hz:gK z w3.heap.size cur)=>hz.jY m (cur.getD m 0 ||| vv));generalize cur.getD m 0 ||| vv=v2 at *;generalize a9:cur.getD m 0=v1 at *;have ba:=aA a9;clear a9;have cb:wr.heap.size<wb.heap.size:=(Ad.1 am.o).1;have q5:=fun z:Calm.kO wr.heap.size wb=>AF z.1 _ 0 _ _ _ (z.2.trans am.o);have q6:=fun z:Calm.kO wr.heap.size wb=>AF z.1 _ 1 _ _ _ (z.2.trans am.o);have bT:Hid (w3.heap.size≠wr.heap.size):=aA (by have:=HU.o.lt;omega);clear hc a2 a1 a3 a5 ap al u a4;go_upto_region 12 with fail
      rw[<-D];clear D q2 k0 k1 k2 ld;refine CalmN.fk (fun x=>∃z:Calm.kO wr.heap.size wb,x=z.1) (.two [0,1,2,3,4,5,6,8,9,10,11] 7 (.one [] 12 (.one [13,14] 15 (.fin []))) 12 (.one [] 7 (.one [13,14] 15 (.fin [])))) (by kernel_rfl) (by kernel_rfl) (fun _ _ d _ _ h=>by cases d <;> exact h) ⟨⟨wb.drew,rfl⟩,rfl⟩ ?_;rw[CalmN.fN];simp only[CalmN.fo,Az,Am,Ap];repeat (go_big_quiet_step (fail))
      have hS:∃z:Calm.kO wr.heap.size wb,wb.drew=z.1:=⟨⟨wb.drew,rfl⟩,rfl⟩
      have kmd:wb.drew.cell? ⟨w3.heap.size,m,none⟩=some (.int .u32 (v1:Int)):=km;have bb:Hid (gK wb.drew w3.heap.size cur):=aA (F.o.drewN 1);have bc:Hid (fL wb.drew g1 T):=aA (ao.o.drewN 1);have bd:Hid (One w #[.slice AT G.ts.length cT,.slice AN G.ns.length cN,.slice (some ⟨g,o,none⟩) G.rs.length cR,.int .i64 G.st] wb.drew):=aA (bx.o.drewN 1);have bf:Hid (wb.drew.heap[wr.heap.size]?=wb.heap[wr.heap.size]?):=aA rfl;generalize wb.drew=wd at *;clear q5 q6 km fm lu;refine Aw ⟨?_,?_⟩
      case' refine_1 =>
       simp only[CalmN.fN,CalmN.fv,CalmN.fo,Az,Am,Ap];intro KK b;rw[AC (by rfl)];go_wp2_with fail
       refine b _ _ hS _ (fun _ h=>h) hS ?_;clear b;refine Aw ?_;intro KK b;rw[AC (by rfl)];go_wp2_with fail
       refine O.o.mono ?_;rintro _ we ⟨rfl,q,hq⟩;have A:Hid (gK we w3.heap.size cur):=aA (by rw[hq];exact bb.o.drewN q);have bg:Hid (fL we g1 T):=aA (by rw[hq];exact bc.o.drewN q);have bh:Hid (One w #[.slice AT G.ts.length cT,.slice AN G.ns.length cN,.slice (some ⟨g,o,none⟩) G.rs.length cR,.int .i64 G.st] we):=aA (by rw[hq];exact bd.o.drewN q);have E:we.heap[wr.heap.size]?=wb.heap[wr.heap.size]?:=by rw[hq];exact bf.o
       have bi:=aA E;have hS:∃z:Calm.kO wr.heap.size wb,we=z.1:=⟨⟨we,E⟩,rfl⟩
       have km:=A.o.cell m a6.o;rw[ba.o]at km;have fm:=A.o.frozen m;have lu:=A.o.lt;clear hq E;go_wp2_with fail
       refine b _ _ hS _ (fun _ h=>h) hS ?_;clear b
      case' refine_2 =>
       simp only[CalmN.fN,CalmN.fv,CalmN.fo,Az,Am,Ap];intro KK b;rw[AC (by rfl)];go_wp2_with fail
       refine O.o.mono ?_;rintro _ we ⟨rfl,q,hq⟩;have A:Hid (gK we w3.heap.size cur):=aA (by rw[hq];exact bb.o.drewN q);have bg:Hid (fL we g1 T):=aA (by rw[hq];exact bc.o.drewN q);have bh:Hid (One w #[.slice AT G.ts.length cT,.slice AN G.ns.length cN,.slice (some ⟨g,o,none⟩) G.rs.length cR,.int .i64 G.st] we):=aA (by rw[hq];exact bd.o.drewN q);have E:we.heap[wr.heap.size]?=wb.heap[wr.heap.size]?:=by rw[hq];exact bf.o
       have bi:=aA E;have hS:∃z:Calm.kO wr.heap.size wb,we=z.1:=⟨⟨we,E⟩,rfl⟩
       have km:=A.o.cell m a6.o;rw[ba.o]at km;have fm:=A.o.frozen m;have lu:=A.o.lt;clear hq E;go_wp2_with fail
       refine b _ _ hS _ (fun _ h=>h) hS ?_;clear b;refine Aw ?_;intro KK b;rw[AC (by rfl)];go_wp2_with fail
       refine b _ _ hS _ (fun _ h=>h) hS ?_;clear b
      all_goals
       repeat (go_big_quiet_step (fail))
       refine Aw ?_;obtain⟨wf,H⟩:∃y,y=we.setCell ⟨w3.heap.size,m,none⟩ (.int .u32 (v2:Int)):=⟨_,rfl⟩
       have bX:Hid (gK wf w3.heap.size ((G.rs.take (i+1)).foldl f s)):=aA (by rw[H,HX.o];exact bM.o we A.o);have b0:Hid (fL wf g1 T):=aA (by rw[H];exact bg.o.jr (by have:=bp.o;simp only;omega) _);have b1:Hid (One w #[.slice AT G.ts.length cT,.slice AN G.ns.length cN,.slice (some ⟨g,o,none⟩) G.rs.length cR,.int .i64 G.st] wf):=aA (by rw[H];exact EB (p:=⟨w3.heap.size,m,none⟩) bh.o (by have:=a0.o;simp only;omega) _);have aq:∃z:Calm.kO wr.heap.size wb,wf=z.1:=⟨⟨wf,by rw[H];exact(AU we ⟨w3.heap.size,m,none⟩ _ _ (fun e=>bT.o e.symm)).trans bi.o⟩,rfl⟩
       intro KK b;rw[AC (by rfl)];go_wp2_with fail
       rw[<-H];refine b _ _ aq _ (fun _ h=>h) aq ?_;clear b H aq;refine Aw ?_;go_wp2;go_roundw
       case rel=>exact⟨i+1,aa,by go_num,bX,b0,b1⟩
       case measure=>simp[intOf];omega
     ·obtain rfl:i=G.rs.length:=by omega
      rw[Bn]at HU;go_wp2;go_roundw
      case rel=>exact⟨n+1,bv,by go_num,by rw[bw.o];exact HU,HV,HW⟩
      case measure=>simp[intOf];omega
   ·obtain rfl:n=G.ns.length:=by omega
    rw[aj.o]at HU;go_wp2;go_ret
    exact⟨fun _=>⟨w3.heap.size,by rw[Gm.iR];rfl,CQ a0.o,HU.o,HW.o.below⟩,fun h=>by simp at h⟩
end Go.Proofs.YtcmhaemaophplaaGreat
