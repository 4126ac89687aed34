/- Part of the proofs over this program: LkOf, LookC, CfgRead, Ref8M, Read9, Src9, Alive15T, Alive16T, SetW2, LkRules, RfA, RfHas, RfPut. -/
import Derived.Lib.Tables
import Derived.Lib.BitFns
import Derived.Lib.TrailingZeros
import Derived.Lib.LaidTab
import Derived.Test.YtcmhaemaophplaaGreatXM
set_option linter.all false
open Go.RowKit Go.Proofs.Tryz
set_option maxRecDepth 100000
set_option maxHeartbeats 40000000
namespace Go.Proofs.YtcmhaemaophplaaGreat
variable {A:Option Go.Addr} {B base base' g i n px py q:Nat} {E:List (List (Int×Int))} {G:Gm.Gr} {ds:List Y.kB} {v v':Go.Value} {w:Go.World} {xs:List Go.Value}
namespace Lk
open Au Gm Go.Mw
noncomputable def gG (G:Gr) (K:List (List It)) (E:List (List (Int×Int))) (q n:Nat):List (Int×Int):=(List.range n).filterMap fun k=>(mR G K E q k).map fun v=>((k:Int),(v:Int))
theorem p5 (G:Gr) (K:List (List It)) (E:List (List (Int×Int))) (q:Nat):gG G K E q 0=[]:=rfl
theorem pY {G:Gr} {K:List (List It)} (h:mR G K E q n=none):gG G K E q (n+1)=gG G K E q n:=by
 unfold gG;rw[CH,List.filterMap_append];simp[h]
theorem pZ {G:Gr} {K:List (List It)} {v:Nat} (h:mR G K E q n=some v):gG G K E q (n+1)=gG G K E q n++[((n:Int),(v:Int))]:=by
 unfold gG;rw[CH,List.filterMap_append];simp[h]
theorem mT (G:Gr) (K:List (List It)) (E:List (List (Int×Int))) (q n:Nat):(gG G K E q n).length<=n:=by
 unfold gG
 have:=List.length_filterMap_le (fun k=>(mR G K E q k).map fun v=>((k:Int),(v:Int))) (List.range n)
 simpa using this
theorem mS (G:Gr) (K:List (List It)) (E:List (List (Int×Int))) (q:Nat):gG G K E q G.rs.length=iE G K E q:=rfl
noncomputable def kP (G:Gr):List (List (Int×Int)):=if jE G=true then(match lK G with|some p=>(List.range p.1.length).map (iE G p.1 p.2)|none=>[]) else []
theorem sq {G:Gr} (h:jE G=false):kP G=[]:=by unfold kP;rw[h];rfl
theorem oQ {G:Gr} (h:jE G=true) (k:lK G=none):kP G=[]:=by unfold kP;rw[h,k];rfl
theorem su {G:Gr} {K:List (List It)} (h:jE G=true) (k:lK G=some (K,E)):kP G=(List.range K.length).map (iE G K E):=by unfold kP;rw[h,k];rfl
end Lk
def kJ (x:Int×Int):List Value:=[.int .i64 x.1,.int .u32 x.2]
theorem xO (x:Int×Int):(kJ x).length=2:=rfl
theorem LK (x:Int×Int):∀u∈kJ x,u.oneCell'=true:=fun u hu=>by
 simp[kJ]at hu;rcases hu with rfl|rfl <;> rfl
theorem LW:(prog.info? 46).map (fun i=>(i.zero,i.size,i.bytes))=some (some (.agg #[.int .i64 0,.int .u32 0]),2,16):=by kernel_rfl
theorem Lz:(prog.info? 36).map (fun i=>(i.zero,i.size,i.bytes))=some (some (.slice none 0 0),1,24):=by kernel_rfl
theorem Ks (x:Int×Int) (w:World) (g:Nat) (hb:w.heap[g]?=some (.cells #[.int .i64 x.1,.int .u32 x.2] 46 (0,0))):∀j u,(kJ x)[j]?=some u->w.cell? ⟨g,j,none⟩=some u:=fun j u hu=>by
 refine(AF w g j _ _ _ hb).trans ?_
 match j,hu with
 | 0,hu=>exact hu
 | 1,hu=>exact hu
 | j+2,hu=>simp[kJ]at hu
def yc (G:Gm.Gr) (w:World) (e:Ending) (w':World):Prop :=
 ∃A c,e=.returned (.tuple #[.slice A (Lk.kP G).length c,.int .i64 (Au.jv G)])/\(Lk.kP G).length<=c/\c<=9223372036854775807/\lY 2 kJ w' w'.heap.size A (Lk.kP G)/\Below w.heap.size w w'
theorem yc.nil {G:Gm.Gr} {w w':World} {er:Int} (h:Au.jv G=er) (h2:Lk.kP G=[]) (hb:Below w.heap.size w w'):yc G w (.returned (.tuple #[.slice none 0 0,.int .i64 er])) w':=by
 refine⟨none,0,?_,?_,by omega,?_,hb⟩
 ·rw[h,h2];rfl
 ·rw[h2];exact Af _
 ·rw[h2];exact lY.nil _ _ _
theorem R3 {α:Type} (rs l:List α) (x:α) (i:Nat) (h:rs.length=i) (hi:i<(rs++[x]++l).length):(rs++[x]++l)[i]=x:=by
 subst h;simp
theorem lj {α:Type} (rs l:List α) (x y:α) (i:Nat) (h:rs.length=i):(rs++[x]++l).set i y=rs++[y]++l:=by
 subst h;simp
theorem iI.zD {α:Type} {T:TypeId} {c:Nat} {rs l:List (RW α)} {xs:List α} (h:iI T je w g (rs++[((xs,A,c):RW α)]++l)) (hi:rs.length=i):w.cell? ⟨g,i,none⟩=some (.slice A xs.length c):=by
 have hl:i<(rs++[((xs,A,c):RW α)]++l).length:=by rw[AW,AW,BA];omega
 have:=h.cell tD i 0 hl (.slice A xs.length c) (by rw[R3 rs l _ i hi hl];rfl)
 rw[DG,Dp]at this;exact this
theorem GF (v:Value) (G:Gm.Gr) (B:Nat) (w:World) (hg:aT w B v G) (hf:Gm.Fit G) (hB:B<=w.heap.size) :
  Calls prog 10 #[v] w (yc G w):=by
 have bs:=aA (fun y (h:Below w.heap.size w y)=>OU v G B y (hg.below h hB) hf (Aj hB h.size));have bu:=aA (fun(y:World) (h:Below w.heap.size w y) (Aa:Option Addr) (ca:Nat) (K:List (List Au.It)) (E:List (List (Int×Int))) (hb:Gm.jE G=true) (hk:Au.lK G=some (K,E)) (ha:bW y y.heap.size Aa (K.zip E))=>O3 v G B y Aa ca K E (hg.below h hB) hf (Aj hB h.size) hb hk ha);have cm:=aA hB;obtain⟨AT,cT,AN,cN,AR,cR,rfl,_⟩:=hg;obtain⟨w1,d⟩:∃y,y=w.alloc (.cells #[.slice AT G.ts.length cT,.slice AN G.ns.length cN,.slice AR G.rs.length cR,.int .i64 G.st] 26):=⟨_,rfl⟩
 have l:Hid (Below w.heap.size w w1):=aA (by rw[d];exact(AB _ _).alloc (Af _) _);have C:Hid (w1.heap[w.heap.size]?=some (.cells #[.slice AT G.ts.length cT,.slice AN G.ns.length cN,.slice AR G.rs.length cR,.int .i64 G.st] 26 (0,0))):=aA (by rw[d];exact AG w _);have cn:Hid (w.heap.size<w1.heap.size):=aA (Ad.1 C.o).1;have HS:=aA (bs.o w1 l.o);have x0:=aS C.o;have x1:=aX C.o;have x2:=aY C.o;have x3:=bI C.o;clear hf hB;cases hb:Gm.jE G with
 | false =>
  have HE:=aA (BD (Au.kG hb) (Lk.sq hb));unfold tJ at HS;rw[HE.o.1.1,HE.o.1.2]at HS;clear hb
  go_enter func10,ntmps10
  go_upto_region 1 with fail
  rw[<-d];clear d;go_wp2_with fail
  refine HS.o.mono ?_;rintro _ w2 ⟨Aa,ca,rfl,_,_,_,b⟩;have q:=aA (l.o.trans (b.mono l.o.size));clear b x0 x1 x2 x3;generalize ([]:List qV).length=nz at *;go_wp2
  go_ret2
  exact yc.nil HE.o.1.1 HE.o.2 q.o
 | true =>
  cases hk:Au.lK G with
  | none =>
   have HE:=aA (BD (Au.jw hb hk) (Lk.oQ hb hk));unfold tJ at HS;rw[HE.o.1.1,HE.o.1.2]at HS;clear hb hk
   go_enter func10,ntmps10
   go_upto_region 1 with fail
   rw[<-d];clear d;go_wp2_with fail
   refine HS.o.mono ?_;rintro _ w2 ⟨Aa,ca,rfl,_,_,_,b⟩;have q:=aA (l.o.trans (b.mono l.o.size));clear b x0 x1 x2 x3;generalize ([]:List qV).length=nz at *;go_wp2
   go_ret2
   exact yc.nil HE.o.1.1 HE.o.2 q.o
  | some p =>
   obtain⟨K,E⟩:=p;have HE:=aA (BD (Au.kH hb hk) (Lk.su hb hk));obtain⟨hi,hE,a2⟩:=Au.ji hk;have hz:(K.zip E).length=K.length:=by rw[List.length_zip,hE,Nat.min_self]
   have ad:=Gm.ft.1 (Gm.fY hb);have a3:=aA (fun(MM DD:Lk.MP) (h:Lk.WI G K E MM DD []) (i k:Nat) (bv:i<K.length) (hk:k<G.rs.length)=>h.at hi hE ad (fun x hx=>(Gm.sd hb x hx).2) bv hk);have bw:=aA (fun(y:World) (h:Below w.heap.size w y) (Aa:Option Addr) (ca:Nat) (ha:bW y y.heap.size Aa (K.zip E))=>bu.o y h Aa ca K E hb hk ha)
   have bx:=aA (fun(k v:Nat) (i:Nat) (h:Lk.mR G K E i k=some v)=>(show v<4294967296 from by
    unfold Lk.mR at h;split at h
    ·injection h with h;rw[<-h];exact Lk.yy (by have:=(Gm.fZ G.ts).1 ad.t;omega) _ _
    ·cases h))
   have ah:=aA ad.kz;have ai:=aA a2;have HZ:=aA hz;unfold tJ at HS;rw[HE.o.1.1,HE.o.1.2]at HS;clear hb hk hi hE a2 hz ad
   go_enter func10,ntmps10
   go_upto_region 1 with fail
   rw[<-d];clear d;go_wp2_with fail
   refine HS.o.mono ?_;rintro _ w2 ⟨Aa,ca,rfl,bz,bD,a4,b⟩;have q:=aA (l.o.trans (b.mono l.o.size));have I:=aA (aC b C.o);have aj:=aA (bw.o w2 q.o Aa ca a4);clear b x0 x1 x2 x3 a4 bz bD;have x0:=aS I.o;have x1:=aX I.o;have x2:=aY I.o;have x3:=bI I.o;rw[HZ.o]at aj ⊢;obtain⟨n,hn⟩:∃n,K.length=n:=⟨_,rfl⟩
   rw[hn]at aj ai HZ a3 ⊢;have HN:=aA hn;clear hn;go_upto_region 4 with fail
   go_wp2_with fail
   refine aj.o.mono ?_;rintro _ w3 ⟨D,MM,DD,rfl,a5,a6,ak⟩;have a9:=aA a5;have bM:=aA (a3.o MM DD a6);have al:=aA (q.o.trans (ak.mono q.o.size));have ba:=aA (aC ak I.o);clear a5 a6 ak x0 x1 x2 x3;have co:(n:Int)<=300:=by have:=ai.o;omega
   have bb:n<=1000000:=by have:=ai.o;omega
   go_upto_region 6 with(at_make;refine II (m:=1) (f:=je (α:=Int×Int)) rfl (.tmp 24) (.tmp 24) _ rfl underlying30 _ 24 Lz (by decide) (by decide) (by decide) (([],none,0):RW (Int×Int)) rfl n rfl rfl bb ?_;intro w4 am ae)
   obtain⟨gL,af⟩:∃g,g=w3.heap.size:=⟨_,rfl⟩
   rw[<-af]at am;rw[<-af];have bT:Hid (iI 36 je w4 gL (([]:List (RW (Int×Int)))++List.replicate (n-0) ([],none,0))):=aA am;have bX:=aA (al.o.trans (ae.mono al.o.size));have b0:=aA (aC ae ba.o);have b1:=aA (a9.o.block (ae.block D a9.o.lt));have bc:Hid (w.heap.size<gL):=aA (by rw[af];have:=al.o.size;have:=(Ad.1 ba.o).1;omega);clear am ae af bb;go_wp2;go_loopw [28] (fun vi wr=>∃(i:Nat) (rs:List (RW (Int×Int))),i<=n/\vi=.int .i64 i/\Hid (rs.map (·.1)=(List.range i).map (Lk.iE G K E))/\Hid (∀r∈rs,bO 46 2 kJ wr 0 wr.heap.size r)/\Hid (iI 36 je wr gL (rs++List.replicate (n-i) ([],none,0)))/\Hid (Mw.fx qZ wr D (Lk.gV DD))/\Hid (wr.heap[w.heap.size]?=some (.cells #[.slice AT G.ts.length cT,.slice AN G.ns.length cN,.slice AR G.rs.length cR,.int .i64 G.st] 26 (0,0)))/\Hid (Below w.heap.size w wr)) (fun vi _=>n-(intOf vi).toNat)
   case atStart=>exact⟨0,[],AV _,rfl,aA rfl,aA (by simp),bT,b1,b0,bX⟩
   case round =>
    obtain⟨i,rs,hi,rfl,ao,ap,HU,HD,HX,HW⟩:=hrel;rename World=>wr
    have bd:rs.length=i:=by
     have:=congrArg List.length ao.o
     simpa using this
    by_cases bf:i<n
    ·have x2:=aY HX.o;have cp:((i:Nat):Int)<((n:Nat):Int):=by omega
     have bg:=aA bf;have aq:=aA bd;have b2:(G.rs.length:Int)<=40:=by have:=ah.o;omega
     obtain⟨N0,ar⟩:∃N,N=wr.heap.size:=⟨_,rfl⟩
     rw[<-ar]at ap
     have b3:Hid (iI 36 je wr gL (rs++[((Lk.gG G K E i 0,none,0):RW (Int×Int))]++List.replicate (n-(i+1)) ([],none,0))):=aA (by
      have:=HU.o
      rw[show n-i=(n-(i+1))+1 by omega,CR]at this;rw[Lk.p5,Ci];exact this)
     have b4:Hid (aJ 46 2 kJ wr N0 (.slice none (Lk.gG G K E i 0).length 0) (Lk.gG G K E i 0)):=aA (aJ.nil _ _);have b5:Hid (N0<=wr.heap.size):=aA (by omega);have bh:Hid (gL<N0/\D<N0/\w.heap.size<N0):=aA (by rw[ar];exact⟨HU.o.lt,HD.o.lt,(Ad.1 HX.o).1⟩);clear ar bd bf;go_wp2;clear x2;go_loopw [34] (fun vk wz=>∃(k:Nat) (A:Option Addr) (c:Nat),k<=G.rs.length/\vk=.int .i64 k/\Hid (aJ 46 2 kJ wz N0 (.slice A (Lk.gG G K E i k).length c) (Lk.gG G K E i k))/\Hid (iI 36 je wz gL (rs++[((Lk.gG G K E i k,A,c):RW (Int×Int))]++List.replicate (n-(i+1)) ([],none,0)))/\Hid (∀r∈rs,bO 46 2 kJ wz 0 N0 r)/\Hid (Mw.fx qZ wz D (Lk.gV DD))/\Hid (wz.heap[w.heap.size]?=some (.cells #[.slice AT G.ts.length cT,.slice AN G.ns.length cN,.slice AR G.rs.length cR,.int .i64 G.st] 26 (0,0)))/\Hid (Below w.heap.size w wz)/\Hid (N0<=wz.heap.size)) (fun vk _=>G.rs.length-(intOf vk).toNat)
     case atStart=>exact⟨0,none,0,AV _,rfl,b4,b3,ap,HD,HX,HW,b5⟩
     case round =>
      obtain⟨k,A,c,hk,rfl,HO,F,au,J,av,ag,aw⟩:=hrel;rename World=>wz;by_cases bi:k<G.rs.length
      ·have aa:=bM.o i k bg.o bi;have b6:Hid (Gm.In ((i:Int),(k:Int)).1/\Gm.In ((i:Int),(k:Int)).2):=aA ⟨by unfold Gm.In;simp only;omega,by unfold Gm.In;simp only;omega⟩;have lk:=Mw.gH (E:=qZ) J.o F1 (t:=67) underlying67 (z:=.int .u32 0) (by kernel_rfl) (x:=((i:Int),(k:Int))) b6.o true;have ab:qZ.enc ((i:Int),(k:Int))=.agg #[.int .i64 (i:Int),.int .i64 (k:Int)]:=rfl;rw[ab,Lk.oB,aa]at lk;have ax:=aA bi;cases ha:Lk.mR G K E i k with
       | none =>
        rw[ha]at lk;simp only[Option.map_none,EP,Option.isSome_none,if_true]at lk;have M:=aA (Lk.pY ha);clear ha aa ab;go_wp2;go_roundw
        case rel=>exact⟨k+1,A,c,ax.o,by go_num,by rw[M.o];exact HO,by rw[M.o];exact F,au,J,av,ag,aw⟩
        case measure=>simp[intOf];omega
       | some u =>
        rw[ha]at lk;simp only[Dm,Bp,Option.isSome_some,if_true]at lk;have M:=aA (Lk.pZ ha);have b7:=aA (Lk.mT G K E i k);have cq:=bx.o k u i ha;clear ha aa ab;generalize Lk.gG G K E i k=xs at *;have cL:wz.cell? ⟨gL,i,none⟩=some (.slice A xs.length c):=F.o.zD aq.o;have H:Hid (Below wz.heap.size wz (wz.alloc (.cells #[.int .i64 (k:Int),.int .u32 (u:Int)] 46))):=aA ((AB _ _).alloc (Af _) _);have O:=aA (HO.o.alloc (.cells #[.int .i64 (k:Int),.int .u32 (u:Int)] 46));have ay:=aA (AG wz (.cells #[.int .i64 (k:Int),.int .u32 (u:Int)] 46));have b9:=aA (F.o.below H.o F.o.lt);have bj:Hid (N0<=(wz.alloc (.cells #[.int .i64 (k:Int),.int .u32 (u:Int)] 46)).heap.size):=aA (Aj aw.o H.o.size);have bk:Hid (Below w.heap.size w (wz.alloc (.cells #[.int .i64 (k:Int),.int .u32 (u:Int)] 46))):=aA (ag.o.trans (H.o.mono (by have:=ag.o.size;omega)));have bl:=fun j (e:(Value.slice A xs.length c).ownBlock=some j)=>(Bk O.o j e).1;have bm:=aA bl;clear bl;go_wp2_with (at_builtin;refine xP (f:=kJ) rfl (.tmp 51) (.tmp 55) _ rfl underlying36 _ 16 LW (by decide) (by decide) (by decide) xO LK N0 _ xs rfl O.o _ _ ((k:Int),(u:Int)) rfl (Ks ((k:Int),(u:Int)) _ _ ay.o) (by have:=b7.o;have:=ax.o;omega) bj.o ?_;intro v5 w5 az a0;have U:=aA a0;have s:Hid (iI 36 je w5 gL (rs++[((xs,A,c):RW (Int×Int))]++List.replicate (n-(i+1)) ([],none,0))):=aA (aH O.o a0 b9.o fun cur=>aG (by decide));have c5:=s.o.zD aq.o;have f5:=s.o.frozen i;have l5:=s.o.lt;obtain⟨A5,c5',rfl,_,_,_⟩:=aJ.form az xO;have bo:=aA az;clear a0 az;generalize bp:(xs++[((k:Int),(u:Int))]).length=ln at *;have bq:=aA bp;clear bp)
        have cb:Hid (aJ 46 2 kJ (w5.setCell ⟨gL,i,none⟩ (.slice A5 ln c5')) N0 (.slice A5 ln c5') (xs++[((k:Int),(u:Int))])):=aA (AO bo.o (aF (AJ _ _) i _) (aR bo.o s.o fun cur=>aG (by decide)))
        have cc:Hid (iI 36 je (w5.setCell ⟨gL,i,none⟩ (.slice A5 ln c5')) gL (rs++[((xs++[((k:Int),(u:Int))],A5,c5'):RW (Int×Int))]++List.replicate (n-(i+1)) ([],none,0))):=aA (by
         have:=s.o.xa i ((xs++[((k:Int),(u:Int))],A5,c5'):RW (Int×Int)) A5 ln c5' rfl bq.o rfl
         rw[lj _ _ _ _ i aq.o]at this;exact this)
        have ac:∀(g:Nat) (cur:Array Value),g<N0->wz.heap[g]?=some (.cells cur 46 (0,0))->(w5.setCell ⟨gL,i,none⟩ (.slice A5 ln c5')).heap[g]?=some (.cells cur 46 (0,0)):=fun g cur h1 h2=>by
         have h3:=aC H.o h2;have h4:w5.heap[g]?=some (.cells cur 46 (0,0)):=(U.o.block g (Ad.1 h3).1 (fun e=>by have:=bm.o g e.symm;omega)).trans h3;refine(AU w5 ⟨gL,i,none⟩ _ g (fun e=>?_)).trans h4;have e:g=gL:=e;rw[e]at h4;have h5:=s.o;unfold iI at h5;rw[h4]at h5;injection h5 with h5;exact aG (by decide) h5
        have cd:Hid (∀r∈rs,bO 46 2 kJ (w5.setCell ⟨gL,i,none⟩ (.slice A5 ln c5')) 0 N0 r):=aA (fun r hr=>(au.o r hr).fp fun g cur _ h2 h3=>ac g cur h2 h3)
        have ce:Hid (Mw.fx qZ (w5.setCell ⟨gL,i,none⟩ (.slice A5 ln c5')) D (Lk.gV DD)):=aA (by
         have cf:=J.o.block (H.o.block D J.o.lt);obtain⟨es,ck,hm,hr⟩:=cf;have a1:=aH O.o U.o hm fun cur e=>by cases e
         refine⟨es,ck,(AU w5 ⟨gL,i,none⟩ _ D (fun e=>?_)).trans a1,hr⟩
         have:=bh.o
         have e:D=gL:=e;rw[e]at a1;have h5:=s.o;unfold iI at h5;rw[a1]at h5;cases h5)
        have cg:Hid ((w5.setCell ⟨gL,i,none⟩ (.slice A5 ln c5')).heap[w.heap.size]?=some (.cells #[.slice AT G.ts.length cT,.slice AN G.ns.length cN,.slice AR G.rs.length cR,.int .i64 G.st] 26 (0,0))):=aA ((AU w5 ⟨gL,i,none⟩ _ w.heap.size (fun e=>by have e:w.heap.size=gL:=e;have:=bc.o;omega)).trans (aH O.o U.o (aC H.o av.o) fun cur=>aG (by decide)));have ch:Hid (Below w.heap.size w (w5.setCell ⟨gL,i,none⟩ (.slice A5 ln c5'))):=aA ((bk.o.grown U.o bk.o.size (fun j e=>by have:=bm.o j e;have:=bh.o;omega)).setCell (by have:=bc.o;simp only;omega) _);have ci:Hid (N0<=(w5.setCell ⟨gL,i,none⟩ (.slice A5 ln c5')).heap.size):=aA (by have:=bj.o;have:=U.o.size;simp;omega);clear ac c5 f5 l5;go_roundw
        case rel=>exact⟨k+1,A5,c5',ax.o,by go_num,by rw[M.o,bq.o];exact cb,by rw[M.o];exact cc,cd,ce,cg,ch,ci⟩
        case measure=>simp[intOf];omega
      ·obtain rfl:k=G.rs.length:=by omega
       rw[Lk.mS]at HO F
       have cj:Hid (∀r∈rs++[((Lk.iE G K E i,A,c):RW (Int×Int))],bO 46 2 kJ wz 0 wz.heap.size r):=aA (fun r hr=>by
        rcases Bt.1 hr with hr|hr
        ·exact(au.o r hr).more aw.o
        ·rw[AP.1 hr];obtain⟨A9,c9,e9,h1,h2,_⟩:=aJ.form HO.o xO;injection e9 with e1 e2 e3;subst e1 e3;exact⟨h1,by unfold maxLen at h2;simp only;omega,(HO.o.uS xO).less (AV _)⟩)
       have cl:Hid ((rs++[((Lk.iE G K E i,A,c):RW (Int×Int))]).map (·.1)=(List.range (i+1)).map (Lk.iE G K E)):=aA (by rw[Bf,ao.o,CH,Bf];rfl);go_wp2;go_roundw
       case rel=>exact⟨i+1,_,bg.o,by go_num,cl,cj,F,J,av,ag⟩
       case measure=>simp[intOf];omega
    ·obtain rfl:i=n:=by omega
     have HR:Hid ((List.range i).map (Lk.iE G K E)=Lk.kP G):=aA (by rw[HE.o.2,HN.o]);have br:Hid ((Lk.kP G).length=i):=aA (by rw[<-HR.o];simp);rw[Dg,D7,CF]at HU;go_wp2
     go_ret2
     refine⟨some ⟨gL,0,none⟩,i,?_,by rw[br.o];exact Af _,by omega,?_,HW.o⟩
     ·rw[br.o,HE.o.1.1];rfl
     ·have:=iI.Jo HU.o HU.o.lt ap.o
      rw[ao.o,HR.o]at this;exact this
namespace Lk
open Au Gm Go.Mw
def j5 (L:List (List It)):SS:=L.map fun l=>l.map fun _=>0
theorem GA (L:List (List It)) (q:Nat):(j5 L).getD q []=(L.getD q []).map fun _=>0:=by
 unfold j5;rw[Ag,Bv,Ag];cases L[q]? <;> rfl
theorem IU (l:List It) (i:Nat):(l.map fun _=>(0:Nat)).getD i 0=0:=by
 rw[Ag,Bv];cases l[i]? <;> rfl
theorem lD (L:List (List It)):Fit L (j5 L):=⟨by simp[j5],fun q=>by rw[GA,Bh]⟩
theorem QA (G:Gr) (E:List (List (Int×Int))) (L:List (List It)):lF G E L (j5 L):=fun q x t h=>by
 obtain⟨i,_,h2⟩:=h;rw[GA,IU,C4]at h2;cases h2
theorem sR (L:List (List It)):jP (j5 L):=fun q i=>by
 rw[GA,IU];decide
def pI (G:Gr) (L:List (List It)):SS:=gv L (j5 L) 0 (-1,0) (2 ^ G.ts.length)
theorem QD {t:Nat} (h:(2 ^ n).testBit t=true):t=n:=by
 rw[Cu]at h;exact(Cy h).symm
section
variable {G:Gr} {K:List (List It)} {E:List (List (Int×Int))}
theorem GP (hi:Inv G K E):Fit (fq G K) (pI G (fq G K))/\lF G E (fq G K) (pI G (fq G K))/\At (fq G K) (pI G (fq G K)) 0 (-1,0) G.ts.length:=by
 refine⟨jD (lD _) _ _ _,IZ (lD _) (QA _ _ _) fun t h=>by rw[QD h];exact .st,(zZ (lD _)).2 (.inr ⟨rfl,rfl,by rw[Cu];simp,?_⟩)⟩;have h0:=si hi (.st:La G E 0 (-1,0) G.ts.length);rw[ic h0.1];exact List.getElem?_of_mem h0.2
theorem vU (L:List (List It)) (ht:G.ts.length<=24):jP (pI G L):=mP (lD L) (sR L) (by
 have:=BQ (n:=2) (by decide) ht
 omega) 0 (-1,0)
end
def Hh (nu:List Bool) (f:List Nat) (G:Gr) (tw:Nat->Int->Nat) (L:List (List It)) (S:SS) (p:Nat×Nat):SS :=
 match (L.getD p.1 [])[p.2]? with
 | none=>S
 | some x=>match nx G x with
  | none=>S
  | some sym=>if(S.getD p.1 []).getD p.2 0=0 then S else
   if 0<=sym then gv L S (tw p.1 sym) (x.1,x.2+1) ((S.getD p.1 []).getD p.2 0)
   else(List.range G.rs.length).foldl (lS G L p.1 sym (iN nu f ((S.getD p.1 []).getD p.2 0) (rest G x))) (gv L S (tw p.1 sym) (x.1,x.2+1) ((S.getD p.1 []).getD p.2 0))
theorem Fk {G:Gr} {nu:List Bool} {f:List Nat} (h1:gn false G.rs G.ns.length=nu) (h2:fst G=f):ps G=Hh nu f G:=by subst h1 h2;rfl
def rC (L:List (List It)):List (Nat×Nat):=(List.range L.length).flatMap fun q=>(List.range (L.getD q []).length).map fun i=>(q,i)
theorem Rv {L:List (List It)} (hq:q<L.length) (hi:i<(L.getD q []).length):(q,i)∈rC L:=CG.2 ⟨q,Cj.2 hq,Bm.2 ⟨i,Cj.2 hi,rfl⟩⟩
theorem Sn {G:Gr} {tw:Nat->Int->Nat} {L:List (List It)} {S:SS} (h:¬(q<L.length/\i<(L.getD q []).length)):ps G tw L S (q,i)=S:=by
 have:(L.getD q [])[i]?=none:=by
  rw[List.getElem?_eq_none_iff];rcases Bx q L.length with hq|hq
  ·exact Nat.le_of_not_lt fun k=>h ⟨hq,k⟩
  ·rw[Ag,BH hq];exact AV _
 unfold ps;simp only[this]
theorem SY {G:Gr} {tw:Nat->Int->Nat} {L:List (List It)} {S:SS} (p:Nat×Nat) {x:It} {t:Nat} (hf:Fit L S) (h:At L S q x t):At L (ps G tw L S p) q x t:=by
 have key:∀(q':Nat) (sym:Int) (s:Nat) (ks:List Nat) (S1:SS),Fit L S1->At L S1 q x t->At L (ks.foldl (lS G L q' sym s) S1) q x t:=by
  intro q' sym s ks;induction ks with
  | nil=>exact fun _ _ h=>h
  | cons k ks ih =>
   intro S1 aa h1;rw[Dn];refine ih _ (zr q' sym s S1 k aa).1 ?_;unfold lS;split
   ·exact(zZ aa).2 (.inl h1)
   ·exact h1
 unfold ps;split
 ·exact h
 ·split
  ·exact h
  ·split
   ·exact h
   ·split
    ·exact(zZ hf).2 (.inl h)
    ·exact key _ _ _ _ _ (jD hf _ _ _) ((zZ hf).2 (.inl h))
section
variable {G:Gr} {K:List (List It)} {E:List (List (Int×Int))}
structure ou (G:Gr) (K:List (List It)) (E:List (List (Int×Int))) (S:SS):Prop where
 f:Fit (fq G K) S
 s:lF G E (fq G K) S
 b:At (fq G K) S 0 (-1,0) G.ts.length
theorem ou.Jk (hi:Inv G K E):ou G K E (pI G (fq G K)):=⟨(GP hi).1,(GP hi).2.1,(GP hi).2.2⟩
theorem ou.ps {S:SS} (h:ou G K E S) (hi:Inv G K E) (hE:E.length=K.length) (aa:Ok G) (p:Nat×Nat):ou G K E (ps G (jZ K E) (fq G K) S p) :=
 ⟨(sF S p h.f).1,Sm aa (fun _ _ _ hx hs=>(IV hi hE aa hx hs).1) S p h.f h.s,SY p h.f h.b⟩
theorem ou.all (hi:Inv G K E) (hE:E.length=K.length) (aa:Ok G):∀(l:List (Nat×Nat)) (S:SS),ou G K E S->ou G K E (l.foldl (Lk.ps G (jZ K E) (fq G K)) S)
 | [],_,h=>h
 | p::l,_,h=>ou.all hi hE aa l _ (h.ps hi hE aa p)
theorem ou.done {S:SS} (h:ou G K E S) (hr:∀p∈rC (fq G K),Lk.ps G (jZ K E) (fq G K) S p=S):qS G K E S:=⟨h.f,h.s,h.b,fun q i=>by
 by_cases c:q<(fq G K).length/\i<((fq G K).getD q []).length
 ·exact hr _ (Rv c.1 c.2)
 ·exact Sn c⟩
theorem Sx {S:SS} {L:List (List It)} (hB:jE G=true) (hb:lK G=some (K,E)) (hd:qS G K E S) (aa:Ok G) (hL:fq G K=L):kP G=(List.range K.length).map fun q=>gF G (L.getD q []) (S.getD q []) (L.getD q []).length:=by
 have hi:=ji hb;rw[su hB hb];refine List.map_congr_left fun q hq=>?_;have hq:=Cj.1 hq;rw[<-uB hd hi.1 hi.2.1 aa hq,<-hL,ic hq]
theorem uz {nu:List Bool} {f:List Nat} {L:List (List It)} {S:SS} (hB:jE G=true) (hb:lK G=some (K,E)) (aa:Ok G) (hL:fq G K=L) (h1:gn false G.rs G.ns.length=nu) (h2:fst G=f) (n:Nat) (hS:(List.replicate n (rC L)).flatten.foldl (Hh nu f G (jZ K E) L) (pI G L)=S) (hr:∀p∈rC L,Hh nu f G (jZ K E) L S p=S):kP G=(List.range K.length).map fun q=>gF G (L.getD q []) (S.getD q []) (L.getD q []).length:=by
 have hi:=ji hb;have hR:=ou.all hi.1 hi.2.1 aa (List.replicate n (rC L)).flatten _ (ou.Jk hi.1);rw[hL,Fk h1 h2,hS]at hR;exact Sx hB hb (hR.done (by rw[hL,Fk h1 h2];exact hr)) aa hL
end
end Lk
def rd (L:List Int):Option (Gm.R Gm.Gr):=match zt L with
 | .bad _ _=>none
 | .ok xs=>match Y.source xs with
  | .ok s _=>some (Gm.build s.1 s.2)
  | .bad _=>none
def Y.more:Nat->List iv->List fw->ny (List iv)
 | 0,acc,ts=>.ok acc ts
 | _+1,acc,[]=>.ok acc []
 | f+1,acc,t::ts=>(group [] (t::ts)).bind fun ps r=>Y.more f (acc++ps) r
theorem Y.rf {t:fw} {ts r:List fw} {ps:List Y.iv} (h:Y.group [] (t::ts)=.ok ps r):t.k=1:=by
 unfold Y.group at h;obtain⟨left,m,h1,h⟩:=Y.fD h;obtain⟨e,hk⟩:=Y.ik h1;injection e with e _;subst e
 simpa using hk
theorem Tn {o:Oper} {a:Act} {K:Act->World->Prop} {Q:Exit->Act->World->Prop} (s x:Operand) (t:TypeId) (ho:o.op=.call {callee:=.builtin .append,args:=#[s,x],argTypes:=#[t,t]}) (ht:prog.underlying t=some (.slice 135)) (L:List Int) (base bu:Nat) (v u:Value) (xs ys:List Y.iv) (hs:a.eval s=v) (aa:bL L w base v xs) (hx:a.eval x=u) (ad:bL L w bu u ys) (ak:base<=bu) (al:xs.length+ys.length<=1000000) (ab:base<=w.heap.size) (hK:∀v' w',bL L w' base v' (xs++ys)->w.grownBy w' v.ownBlock->K (a.put o.dst v') w') :
  o.wp prog a w K Q:=by
 obtain⟨i,hi,am,ao,ap⟩:=Cs Mn;have ac:=aa;obtain⟨qs,ag,ae,aq⟩:=aa;obtain⟨qy,ah,ai,ar⟩:=ad;have ax:qs.length=xs.length:=by rw[<-ag,Bh]
 have ay:qy.length=ys.length:=by rw[<-ah,Bh]
 have au:(xx L qy).length=ys.length*5:=ai.1;rcases ai.2 with⟨rfl,h0⟩|⟨g,cap,cur,rfl,hb,hg,hn,hm,hc,av⟩
 ·have hz:ys=[]:=BB h0;subst hz;have af:=zg (P:=prog) w base t o.type 135 i 5 ht hi v xs.length _ ae 0;unfold Oper.wp;simp[execOp,ho,resolve,invoke,builtin,hs,hx,af,Result.andThen];exact hK v w (by simpa using ac) (AJ _ _)
 ·refine EC w s x t ho base 135 i _ 5 88 ht hi am ao ap rfl (by decide) v xs.length (xx L qs) hs ae ⟨g,0,none⟩ ys.length cap (xx L qy) hx au ?_ ?_ (by unfold maxLen;omega) (by omega) ab fun v' w' h1 h2 _=>hK v' w' ?_ h2
  ·intro j z hj;have aw:j<ys.length*5:=by have:=(Bc.1 hj).1;omega
   rw[rX,BG,AF w g _ _ _ _ hg];rw[<-av,CO aw]at hj
   simpa using hj
  ·intro z hz;obtain⟨q,_,hz⟩:=CG.1 hz;exact JJ L q.1 q.2.1 q.2.2 z hz
  ·have aj:=zG ae (by decide);refine⟨qs++qy,by rw[Bf,ag,ah],?_,fun q hq=>?_⟩
   ·rw[AW];unfold xx at h1 ⊢;rw[B4];exact h1
   ·rcases Bt.1 hq with h|h
    ·exact(aq q h).grown h2 aj
    ·exact((ar q h).less ak).grown h2 aj
theorem ie.E6 {L:List Int} {R:Nat} {ts:List fw} (h:ie L B R px py w ts):GG R w=ts.length:=by
 obtain⟨A,c,h0,_⟩:=h.cell0;unfold GG;rw[h0]
theorem Pn {n' size size':Nat} {e e':TypeId} {xs':List Value} (h:w.ownsRow base e size v n xs) (h':w.ownsRow base' e' size' v' n' xs') (he:e≠e'):v.ownBlock=none\/v.ownBlock≠v'.ownBlock:=by
 rcases h'.2 with⟨rfl,_⟩|⟨g,cap,cur,rfl,_,hg,_⟩
 ·rcases hv:v.ownBlock with _|k
  ·exact .inl rfl
  ·exact .inr (by simp[Value.ownBlock])
 ·exact .inr (GM h hg he)
theorem He (L:List Int) (A:Option Addr) (c px py:Nat) (ts:List fw) (ds:List Y.kB) (p1 ps:List Y.iv) (f1:Nat) (m m2 r1:List fw) (t9:fw) (w:World) (hr:my L w w.heap.size A ts) (hc:ts.length<=c) (h4:ts.length<=4000) (hd:Y.decls (ts.length+1) [] ts=.ok ds m) (hk:xD ds) (h9:Y.take [9] m=.ok t9 m2) (hg:Y.group [] m2=.ok p1 r1) (bq:Y.more f1 p1 r1=.ok ps []) :
  Calls prog 63 #[.slice A ts.length c,.complex .f64 px py] w fun e w'=>∃dv pv,e=.returned (.tuple #[.agg #[dv,pv],.complex .f64 0 0,.int .i64 0])/\bR L w' w.heap.size dv ds/\bL L w' w.heap.size pv ps/\Below w.heap.size w w':=by
 have SC:=fun a w m X Y=>show(store a (.complex .f64 X Y) m).run prog w=stored prog w a (.complex .f64 X Y) m from run_store _ w a _ m rfl;have BR:=fun A (n c:Nat) X Y w=>(EG w 162 _ _ (by kernel_rfl):(Instr.build 162 #[(0,.slice A n c),(1,.complex .f64 X Y)]).run prog w=.ok (.agg #[.slice A n c,.complex .f64 X Y,.complex .f64 0 0,.int .i64 0]) w)
 have BS:=fun A (n c:Nat) w=>(EG w 96 _ _ (by kernel_rfl):(Instr.build 96 #[(0,.slice A n c)]).run prog w=.ok (.agg #[.slice A n c,.slice none 0 0]) w)
 have br:=aA (((AB w.heap.size w).alloc (Af _) (.cells #[.slice none 0 0,.slice none 0 0] 96)).alloc (by simp) (.cells #[.slice A ts.length c,.complex .f64 px py,.complex .f64 0 0,.int .i64 0] 162));have cc:Hid (ie L w.heap.size (w.heap.size+1) px py ((w.alloc (.cells #[.slice none 0 0,.slice none 0 0] 96)).alloc (.cells #[.slice A ts.length c,.complex .f64 px py,.complex .f64 0 0,.int .i64 0] 162)) ts):=aA ⟨A,c,by have:=AG (w.alloc (.cells #[.slice none 0 0,.slice none 0 0] 96)) (.cells #[.slice A ts.length c,.complex .f64 px py,.complex .f64 0 0,.int .i64 0] 162);rwa [show(w.alloc (.cells #[.slice none 0 0,.slice none 0 0] 96)).heap.size=w.heap.size+1 by simp]at this,hc,h4,hr.below br.o (Af _),by omega⟩;have HD:=aA (fun(x:World) (B R:Nat) (h:ie L B R px py x ts)=>Td L B R px py (ts.length+1) ts ds m x h hd (by omega) hk);have H9:=aA (fun(x:World) (B R:Nat) (h:ie L B R px py x m)=>FO L B R px py m 9 9 x h t9 m2 ((Gd 9 m).trans h9));have HG:=aA (fun(x:World) (B R:Nat) (h:ie L B R px py x m2)=>LY L B R px py m2 p1 r1 x h hg);have bs:=aA bq;have cd:=aA (Y.nK hg);unfold sQ at H9;clear hr hc h4 hd hk h9 hg bq
 go_enter func63,ntmps63
 go_wp2_with fail
 refine(HD.o _ _ _ cc.o).mono ?_;rintro _ w2 ⟨aw,v2,rfl,a4,a5⟩;have bu:=rQ aw ((Eb (B:=w.heap.size+1) ((AB _ (w.alloc (.cells #[.slice none 0 0,.slice none 0 0] 96))).alloc (by simp) (.cells #[.slice A ts.length c,.complex .f64 px py,.complex .f64 0 0,.int .i64 0] 162)) w.heap.size (by omega)).trans (AG w _)) (by omega);obtain⟨A2,c2,rfl,_,_⟩:=a4.form;have ce:=aA aw;have cs:w.heap.size+2<=w2.heap.size:=by have:=aw.size;simpa using this
 have bv:=aA a4;have cf:=aA a5.other;have cg:=aA (a5.alloc (.cells #[.slice A2 ds.length c2,.slice none 0 0] 96));have ch:=aA ((Bs w2 (.cells #[.slice A2 ds.length c2,.slice none 0 0] 96) w.heap.size (by omega)).trans bu);clear aw a4 a5 bu;go_wp2_with fail
 refine(H9.o _ _ _ cg.o).mono ?_;rintro _ w3 ⟨rfl,b,y⟩;have a6:=aA b;have bw:=aA y;have ci:=aA (rQ b ch.o (by omega));have cj:=aA (JV b (by omega:w.heap.size+1<w2.heap.size));clear b y;go_wp2_with fail
 have bx:Hid (p1.length+r1.length<=4000):=aA (by have h1:=cd.o;have h2:=bw.o.len;simp at h1;omega);refine(HG.o _ _ _ bw.o).mono ?_;rintro _ w4 ⟨g,v4,rfl,C,a9⟩;obtain⟨A4,c4,rfl,_,_⟩:=C.form;have cu:w2.heap.size+1<=w3.heap.size:=by have:=a6.o.size;simpa using this
 have cv:w3.heap.size<=w4.heap.size:=g.size;have s:=rQ g cj.o (by omega);have H:=rQ g ci.o (by omega);have ck:=aA ((aL ce.o (.cells #[.slice A2 ds.length c2,.slice none 0 0] 96)).trans (a6.o.trans g));have b0:=AF w4 _ 0 _ _ _ s;have b1:=AF w4 _ 1 _ _ _ s;have fb1:=AH w4 _ 1 _ _ s;have z0:=AF w4 _ 0 _ _ _ H;have z1:=AF w4 _ 1 _ _ _ H;have fz0:=AH w4 _ 0 _ _ H;have fz1:=AH w4 _ 1 _ _ H;have cw:=a9.lt;have J:=aA C;have l:=aA (bv.o.grown ((aL (AJ w2 (some (w.heap.size+1))) (.cells #[.slice A2 ds.length c2,.slice none 0 0] 96)).trans (a6.o.trans g)) ⟨cf.o,by obtain⟨z,hz⟩:=bv.o.own;simp at hz;exact vz hz (by omega)⟩);have cl:∃w5:World,w5=w4.setCell ⟨w2.heap.size,1,none⟩ (.slice A4 p1.length c4):=⟨_,rfl⟩
 obtain⟨w5,u⟩:=cl;have bz:w5.heap[w2.heap.size]?=some (.cells #[.slice A2 ds.length c2,.slice A4 p1.length c4] 96 (0,0)):=by rw[u,AZ w4 _ 1 _ _ _ s];rfl
 have bD:w5.heap[w.heap.size]?=some (.cells #[.slice none 0 0,.slice none 0 0] 96 (0,0)):=by rw[u,AU _ _ _ _ (by simp only;omega)];exact H
 have bM:Hid (ie L w.heap.size (w.heap.size+1) px py w5 r1):=aA (by rw[u];exact a9.jr _ _ _ (by omega));have al:Hid (bR L w5 (w.heap.size+2) (.slice A2 ds.length c2) ds):=aA (by rw[u];have h:=l.o.grown (aF (AJ w4 (some w2.heap.size)) 1 (.slice A4 p1.length c4)) ⟨zF s,by obtain⟨z,hz⟩:=l.o.own;exact aO hz s (fun cur e=>by injection e with _ e;exact absurd e (by decide))⟩;simpa using h);have am:Hid (bL L w5 w3.heap.size (.slice A4 p1.length c4) p1):=aA (by rw[u];exact C.grown (aF (AJ w4 (some w2.heap.size)) 1 (.slice A4 p1.length c4)) ⟨zF s,by obtain⟨z,hz⟩:=C.own;exact aO hz s (fun cur e=>by injection e with _ e;exact absurd e (by decide))⟩)
 have E:Hid (Below w.heap.size w w5):=aA (by
  rw[u];refine EB ?_ (p:=⟨w2.heap.size,1,none⟩) (by simp only;omega) _;exact br.o.grown ck.o (by simp;omega) (fun k e=>by injection e with e;omega))
 clear g C a9;go_wp2_with fail
 rw[<-u];have bT:=aA bz;have bX:=aA bD;have ao:w3.heap.size<=w5.heap.size:=by rw[u];simp;omega
 clear u bz bD b0 b1 fb1 z0 z1 fz0 fz1 s H J l;go_loopw [] (fun wt=>∃(f:Nat) (acc:List Y.iv) (rest:List fw) (A:Option Addr) (c:Nat),Hid (Y.more f acc rest=.ok ps [])/\acc.length+rest.length<=4000/\wt.heap[w2.heap.size]?=some (.cells #[.slice A2 ds.length c2,.slice A acc.length c] 96 (0,0))/\wt.heap[w.heap.size]?=some (.cells #[.slice none 0 0,.slice none 0 0] 96 (0,0))/\ie L w.heap.size (w.heap.size+1) px py wt rest/\bR L wt (w.heap.size+2) (.slice A2 ds.length c2) ds/\bL L wt w3.heap.size (.slice A acc.length c) acc/\Below w.heap.size w wt/\w3.heap.size<=wt.heap.size) (fun wt=>GG (w.heap.size+1) wt)
 case atStart=>exact⟨f1,p1,r1,A4,c4,bs,bx.o,bT.o,bX.o,bM.o,al.o,am.o,E.o,ao⟩
 case round =>
  clear bs bx bT bX bM al am E ao;obtain⟨f,acc,rest,A,c,HM,ba,I,D,ax,bb,bc,bd,bf⟩:=hrel;obtain⟨Ax,cx,r0,r3,_⟩:=ax.cell0;have b2:=aA I;have ay:=aA D;have az:=aA ax;have a0:=aA bb;have a1:=aA bc;have E:=aA bd;have b3:=aA bf;have b4:=aA ba;have cm:w.heap.size<wr.heap.size:=(Ad.1 D).1;have bg:w2.heap.size<wr.heap.size:=(Ad.1 I).1;rcases rest with _|⟨t,m1⟩
  ·have bh:Hid (acc=ps):=aA (by
    have h:=HM.o;cases f with
    | zero=>injection h
    | succ f=>injection h)
   have p0:=AF wr _ 0 _ _ _ I;have p1':=AF wr _ 1 _ _ _ I;have y0:=AF wr _ 0 _ _ _ D;have y1:=AF wr _ 1 _ _ _ D;have gz0:=AH wr _ 0 _ _ D;have gz1:=AH wr _ 1 _ _ D;clear I D ax bb bc bd bf ba HM;go_wp2;have bi:=aF (aF (AJ wr (some w.heap.size)) 0 (.slice A2 ds.length c2)) 1 (.slice A acc.length c);refine B8 (v:=.tuple #[.agg #[.slice A2 ds.length c2,.slice A acc.length c],.complex .f64 0 0,.int .i64 0]) (by simp[results,results63,go_sem,y0,y1]) rfl ⟨_,_,rfl,?_,?_,?_⟩
   ·exact(a0.o.grown bi ⟨zF ay.o,by obtain⟨z,hz⟩:=a0.o.own;exact vz hz (by omega)⟩).pX (by omega)
   ·rw[<-bh.o];exact(a1.o.grown bi ⟨zF ay.o,by obtain⟨z,hz⟩:=a1.o.own;exact vz hz (by omega)⟩).pX (by omega)
   ·exact E.o.grown bi E.o.size (fun k e=>by injection e with e;omega)
  ·obtain⟨f,rfl⟩:∃f',f=f'+1:=by
    cases f with
    | zero=>have h:=HM.o;injection h with _ h;cases h
    | succ f=>exact⟨f,rfl⟩
   have hY:=HM.o;rw[Y.more]at hY;obtain⟨p2,r2,a2,ap⟩:=Y.fD hY;have bj:=aA ap;have ae:=aA (Y.nK a2);have b5:=aA (fun(x:World) (h:ie L w.heap.size (w.heap.size+1) px py x (t::m1))=>I9 L w.heap.size (w.heap.size+1) px py (t::m1) x h);have b6:=aA (fun(x:World) (h:ie L w.heap.size (w.heap.size+1) px py x (t::m1))=>LY L w.heap.size (w.heap.size+1) px py (t::m1) p2 r2 x h a2);rw[show kd (t::m1)=1 from Y.rf a2]at b5;have cn:0<((t::m1).length:Int):=by simp
   have co:Hid ((t::m1).length=m1.length+1):=aA rfl;clear hY a2 ap HM I D ax bb bc bd bf ba;have cp:Hid ((t::m1).length=GG (w.heap.size+1) wr):=aA az.o.E6.symm;generalize cq:t::m1=rst at *;clear cq;go_wp2_with fail
   refine(b5.o _ az.o).mono ?_;rintro _ _ ⟨rfl,rfl⟩;go_upto_region 6 with fail
   refine Calm.fk (fun _=>True) (.two [0,2] 1 (.one [] 3 (.one [] 4 (.one [5] 6 (.fin [])))) 3 (.one [] 1 (.one [] 4 (.one [5] 6 (.fin []))))) (by kernel_rfl) (by kernel_rfl) (fun _ _ d _ _ h=>by cases d <;> exact h) trivial ?_;obtain⟨x2,a3⟩:∃x,x=wr.drew:=⟨_,rfl⟩
   rw[<-a3];have F:wr.grownBy x2 .none:=by rw[a3];exact xW _ _
   have b7:Below w.heap.size w x2:=by rw[a3];exact aB E.o 1
   have af:=aA ((F.block w2.heap.size bg (by simp)).trans b2.o);have aq:=aA ((F.block w.heap.size cm (by simp)).trans ay.o);have q:=aA (az.o.row F);have aa:=aA (a0.o.grown F (zu.none _ _));have ab:=aA (a1.o.grown F (zu.none _ _));have ac:=aA b7;have ad:Hid (w3.heap.size<=x2.heap.size):=aA (Aj b3.o F.size);clear a3 F b7 b2 ay az a0 a1 E b3;simp only[Calm.fN,Calm.fv,Calm.fo,Az,Am,Ap];repeat (go_big_quiet_step (fail))
   refine Aw ?_;refine⟨?_,?_⟩
   focus
    intro KK r;try rw[AC (by rfl)]
    have c1:=AF x2 _ 1 _ _ _ af.o;go_wp2_with fail
    clear c1;refine r _ _ trivial (fun _=>True) (fun _ _=>trivial) trivial ?_;repeat (go_big_quiet_step (fail))
    refine Aw ?_;intro KK r;try rw[AC (by rfl)]
    go_wp2_with fail
    refine(b6.o _ q.o).mono ?_;rintro _ x3 ⟨b,v3,rfl,M,y⟩;have ag:=aA (rQ b af.o (by omega));have ar:=aA (rQ b aq.o (by omega));have au:=aA y;have ah:=aA (aa.o.grown b ⟨q.o.other,by obtain⟨z,hz⟩:=aa.o.own;exact vz hz (by omega)⟩);have ai:=aA (ab.o.grown b ⟨q.o.other,by obtain⟨z,hz⟩:=ab.o.own;exact vz hz (by omega)⟩);have aj:=aA (ac.o.grown b ac.o.size (fun k e=>by injection e with e;omega));have ak:=aA (Aj ad.o b.size);have b9:=aA (M.pX ad.o);have bk:x2.heap.size<=x3.heap.size:=b.size;clear b M y;go_wp2_with fail
   rotate_left
   focus
    intro KK r;try rw[AC (by rfl)]
    go_wp2_with fail
    refine(b6.o _ q.o).mono ?_;rintro _ x3 ⟨b,v3,rfl,M,y⟩;have ag:=aA (rQ b af.o (by omega));have ar:=aA (rQ b aq.o (by omega));have au:=aA y;have ah:=aA (aa.o.grown b ⟨q.o.other,by obtain⟨z,hz⟩:=aa.o.own;exact vz hz (by omega)⟩);have ai:=aA (ab.o.grown b ⟨q.o.other,by obtain⟨z,hz⟩:=ab.o.own;exact vz hz (by omega)⟩);have aj:=aA (ac.o.grown b ac.o.size (fun k e=>by injection e with e;omega));have ak:=aA (Aj ad.o b.size);have b9:=aA (M.pX ad.o);have bk:x2.heap.size<=x3.heap.size:=b.size;clear b M y;go_wp2_with fail
    refine r _ _ trivial (fun _=>True) (fun _ _=>trivial) trivial ?_;repeat (go_big_quiet_step (fail))
    refine Aw ?_;intro KK r;try rw[AC (by rfl)]
    have c1:=AF x3 _ 1 _ _ _ ag.o;go_wp2_with fail
    clear c1
   all_goals
    refine r _ _ trivial (fun _=>True) (fun _ _=>trivial) trivial ?_;repeat (go_big_quiet_step (fail))
    refine Aw ?_;intro KK r;try rw[AC (by rfl)]
    refine Tn (.tmp 40) (.tmp 42) _ rfl underlying94 L w3.heap.size w3.heap.size _ v3 acc p2 rfl ai.o rfl b9.o (Af _) (by have h1:=b4.o;have h2:=ae.o;simp at h2;omega) ak.o ?_;intro v4 x4 C g;obtain⟨zo,i⟩:=ai.o.own;have j:=aA (KM i ag.o (by decide) g);have bl:=aA (KM i ar.o (by decide) g);have bm:=aA (au.o.own i g (by omega));have l:=aA (ah.o.grown g ⟨zG i (by decide),by obtain⟨z,hz⟩:=ah.o.own;exact Pn hz i (by decide)⟩);have bo:=aA (aj.o.grown g aj.o.size (fun k e=>by have:=(Bk i k e).1;omega));have bp:=aA (Aj ak.o g.size);have cr:x3.heap.size<=x4.heap.size:=g.size;have J:=aA C;clear C g i;obtain⟨A4',c4',ca,_,_⟩:=J.o.form;rw[AW]at ca;subst ca;go_wp2_with fail
    refine r _ _ trivial (fun _=>True) (fun _ _=>trivial) trivial ?_;repeat (go_big_quiet_step (fail))
    refine Aw ?_;intro KK r;try rw[AC (by rfl)]
    have c1:=AF x4 _ 1 _ _ _ j.o;have f1':=AH x4 _ 1 _ _ j.o;go_wp2_with fail
    refine r _ _ trivial (fun _=>True) (fun _ _=>trivial) trivial ?_;refine Aw ?_;go_wp2_with fail
    have cb:=aF (AJ x4 (some w2.heap.size)) 1 (.slice A4' (acc.length+p2.length) c4');have av:=aA (bm.o.jr w2.heap.size 1 (.slice A4' (acc.length+p2.length) c4') (by omega));go_roundw
    case rel =>
     refine⟨f,acc++p2,r2,A4',c4',bj,by have h1:=b4.o;have h2:=ae.o;simp at h2 ⊢;omega,?_,?_,av.o,?_,?_,?_,?_⟩
     ·rw[AW,AZ x4 _ 1 _ _ _ j.o];rfl
     ·rw[AU _ _ _ _ (by simp only;omega)];exact bl.o
     ·exact l.o.grown cb ⟨zF j.o,by obtain⟨z,hz⟩:=l.o.own;exact aO hz j.o (fun cur e=>by injection e with _ e;exact absurd e (by decide))⟩
     ·rw[AW];exact J.o.grown cb ⟨zF j.o,by obtain⟨z,hz⟩:=J.o.own;exact aO hz j.o (fun cur e=>by injection e with _ e;exact absurd e (by decide))⟩
     ·exact EB bo.o (p:=⟨w2.heap.size,1,none⟩) (by simp only;omega) _
     ·simpa using bp.o
    case measure =>
     rw[av.o.E6,<-cp.o];have h2:=ae.o;have h3:=co.o;simp at h2;omega
structure G2 (L:List Int) (xs:List fw) (ds:List Y.kB) (ps:List Y.iv) (G:Gm.Gr):Prop where
 b:K.Bytes L
 n:L.length<=2000
 t:zt L=.ok xs
 s:∃m t9 m2 p1 r1 f1,Y.decls (xs.length+1) [] xs=.ok ds m/\Y.take [9] m=.ok t9 m2/\Y.group [] m2=.ok p1 r1/\Y.more f1 p1 r1=.ok ps []
 z:Ez ds ps
 g:Gm.build ds ps=.ok G
theorem Sp (A:Option Addr) (c:Nat) (L:List Int) (xs:List fw) (ds:List Y.kB) (ps:List Y.iv) (G:Gm.Gr) (w:World) (hr:il w w.heap.size A L) (hc:L.length<=c) (hs:G2 L xs ds ps G) :
  Calls prog 43 #[.slice A L.length c] w fun e w'=>∃dv pv,e=.returned (.tuple #[.agg #[dv,pv],.complex .f64 0 0,.int .i64 0])/\bR L w' w.heap.size dv ds/\bL L w' w.heap.size pv ps/\Below w.heap.size w w':=by
 have SC:=fun a w m X Y=>show(store a (.complex .f64 X Y) m).run prog w=stored prog w a (.complex .f64 X Y) m from run_store _ w a _ m rfl;have HT:=aA (fun(w1:World) (h1:Below w.heap.size w w1)=>OE A c L xs w1 (hr.up h1) hs.b hc hs.n hs.t);have aa:=aA (fun o=>((AB w.heap.size w).alloc (Af _) o));obtain⟨m,t9,m2,p1,r1,f1,s1,s2,s3,s4⟩:=hs.s;have aj:xs.length<=4000:=by have:=(OW L hs.b xs hs.t).count;have:=hs.n;omega
 have af:=aA (fun(w1:World) (A':Option Addr) (c':Nat) (h1:my L w1 w1.heap.size A' xs) (h2:xs.length<=c')=>He L A' c' (Fl.fl (Pl.pos L).1) (Fl.fl (Pl.pos L).2) xs ds p1 ps f1 m m2 r1 t9 w1 h1 h2 aj s1 hs.z.k s2 s3 s4);clear hr hc hs s1 s2 s3 s4
 go_enter func43,ntmps43
 go_wp2_with fail
 refine(HT.o _ (aa.o _)).mono ?_;rintro _ w2 ⟨v,rfl,ho,hb⟩;obtain⟨A',c',rfl,ag,_,ah⟩:=ho.rd;have h2:w2.heap[w.heap.size]?=some (.cells #[.slice none 0 0,.slice none 0 0] 96 (0,0)):=(hb.block w.heap.size (by simp)).trans (AG w _);have ab:=aA ((aa.o (.cells #[.slice none 0 0,.slice none 0 0] 96)).trans (hb.mono (aa.o _).size));have ai:=aA (af.o w2 A' c' ah ag);clear ho hb HT aa af ah ag;go_wp2_with fail
 refine ai.o.mono ?_;rintro _ w3 ⟨dv,pv,rfl,ac,ad,ae⟩;have h3:=(ae.block w.heap.size (Ad.1 h2).1).trans h2;have c0:=AF w3 _ 0 _ _ _ h3;have c1:=AF w3 _ 1 _ _ _ h3;have f0:=AH w3 _ 0 _ _ h3;have f1:=AH w3 _ 1 _ _ h3;have ak:=aA (ab.o.trans (ae.mono ab.o.size));have HX:=aA (Gf h3 (by decide));obtain⟨DA,DC,rfl,_,_⟩:=ac.form;obtain⟨PA',PC,rfl,_,_⟩:=ad.form
 have al:Hid (bR L ((w3.setCell ⟨w.heap.size,0,none⟩ (.slice DA ds.length DC)).setCell ⟨w.heap.size,1,none⟩ (.slice PA' ps.length PC)) w.heap.size (.slice DA ds.length DC) ds):=aA (by
  obtain⟨zs,hz⟩:=ac.own;exact(ac.less ab.o.size).grown (aF (aF (AJ _ _) _ _) _ _) ⟨HX.o,.inr (GM hz h3 (by decide))⟩)
 have am:Hid (bL L ((w3.setCell ⟨w.heap.size,0,none⟩ (.slice DA ds.length DC)).setCell ⟨w.heap.size,1,none⟩ (.slice PA' ps.length PC)) w.heap.size (.slice PA' ps.length PC) ps):=aA (by
  obtain⟨zs,hz⟩:=ad.own;exact(ad.less ab.o.size).grown (aF (aF (AJ _ _) _ _) _ _) ⟨HX.o,.inr (GM hz h3 (by decide))⟩)
 clear ac ad ae ai h2 h3;go_wp2;refine B8 (v:=.tuple #[.agg #[.slice DA ds.length DC,.slice PA' ps.length PC],.complex .f64 0 0,.int .i64 0]) (by simp[results,results43,go_sem,c0,c1]) rfl ?_;exact⟨_,_,rfl,al.o,am.o,zI (zI ak.o _ (Af _)) _ (Af _)⟩
theorem RQ (A:Option Addr) (c:Nat) (L:List Int) (xs:List fw) (ds:List Y.kB) (ps:List Y.iv) (G:Gm.Gr) (w:World) (hr:il w w.heap.size A L) (hc:L.length<=c) (hs:G2 L xs ds ps G) :
  Calls prog 23 #[.slice A L.length c] w fun e w'=>(∃g,e=.returned (.tuple #[g,.complex .f64 0 0,.int .i64 0])/\aT w' w'.heap.size g G/\Gm.Fit G)/\Below w.heap.size w w':=by
 have SC:=fun a w m X Y=>show(store a (.complex .f64 X Y) m).run prog w=stored prog w a (.complex .f64 X Y) m from run_store _ w a _ m rfl;have ac:Below w.heap.size w (w.alloc (.cells F2 26)):=(AB w.heap.size w).alloc (Af _) _;have HP:=aA (Sp A c L xs ds ps G _ (hr.up ac) hc hs);have ad:=aA ac;have ap:=aA (AG w (.cells F2 26));have ah:=aA (fun(x:World) (A1 A2:Option Addr) (c1 c2:Nat) (h1:zy L x x.heap.size A1 ds) (h2:zx L x x.heap.size A2 ps)=>Tg L ds ps A1 A2 c1 c2 G x h1 h2 hs.z hs.g);unfold F2 at HP ad;clear hr hc hs ac
 go_enter func23,ntmps23
 go_wp2_with fail
 refine HP.o.mono ?_;rintro _ w2 ⟨dv,pv,rfl,ai,aj,ae⟩;obtain⟨A1,c1,rfl,ak⟩:=Pj ai;obtain⟨A2,c2,rfl,al⟩:=Oq aj;have b:=(ae.block w.heap.size (by simp)).trans ap.o;have az:=aA b;have am:=aA (ad.o.trans (ae.mono ad.o.size));have aq:=(Ad.1 b).1;obtain⟨w3,ab⟩:∃x,x=w2.alloc (.cells #[.slice A1 ds.length c1,.slice A2 ps.length c2] 96):=⟨_,rfl⟩
 have af:Hid (Below w.heap.size w w3):=aA (by rw[ab];exact am.o.alloc am.o.size _);have d:Below w2.heap.size w2 w3:=by rw[ab];exact(AB _ _).alloc (Af _) _
 have ao:Hid (w3.heap[w.heap.size]?=some (.cells F2 26 (0,0))):=aA ((d.block _ aq).trans b);have ar:w2.heap.size<=w3.heap.size:=d.size
 have HC:=aA (ah.o w3 A1 A2 c1 c2 (fun hn=>by
   obtain⟨g,o,e,h1,h2⟩:=(ak.fp d) hn;refine⟨g,o,e,by omega,fun i hi=>?_⟩;obtain⟨k1,A',c',k2,k3⟩:=h2 i hi;exact⟨k1,A',c',k2,fun hn=>by obtain⟨g,o,e,q1,q2⟩:=k3 hn;exact⟨g,o,e,by omega,q2⟩⟩) (fun hn=>by
   obtain⟨g,o,e,h1,h2⟩:=(al.fp d) hn;refine⟨g,o,e,by omega,fun i hi=>?_⟩;obtain⟨k1,k2,⟨A',c',k3,k4⟩,k5⟩:=h2 i hi;exact⟨k1,k2,⟨A',c',k3,fun hn=>by obtain⟨g,o,e,q1,q2⟩:=k4 hn;exact⟨g,o,e,by omega,q2⟩⟩,k5⟩))
 rw[ab]at HC af ao;clear ae b ai aj ak al ab d ar ah;go_wp2_with fail
 refine HC.o.mono ?_;rintro _ w4 ⟨⟨g,rfl,au,aa⟩,ag⟩;have b:=(ag.block w.heap.size (by simp;omega)).trans ao.o;have g0:=aS b;have g1:=aX b;have g2:=aY b;have g3:=bI b;have f0:=AH w4 _ 0 _ _ b;have f1:=AH w4 _ 1 _ _ b;have f2:=AH w4 _ 2 _ _ b;have f3:=AH w4 _ 3 _ _ b;have av:=(Ad.1 b).1;have aw:=aA (af.o.trans (ag.mono af.o.size));obtain⟨B,N,R,cs,vT,vN,vR,rfl,h,hN⟩:=au;obtain⟨⟨AT,cT,rfl⟩,⟨AN,cN,rfl⟩,⟨AR,cR,rfl⟩⟩:=zj h;have ax:=aA (fun u0 u1 u2 u3=>(h.more hN).grown (aF (aF (aF (aF (AJ w4 (some w.heap.size)) 0 u0) 1 u1) 2 u2) 3 u3) (⟨fun g e=>by injection e with e;subst e;exact⟨_,_,b,by decide,by decide,by decide,.inl ⟨by decide,by decide⟩⟩⟩));have ay:=aA aa;clear ag b h hN aa;go_wp2;refine B8 (v:=.tuple #[.agg #[.slice AT G.ts.length cT,.slice AN G.ns.length cN,.slice AR G.rs.length cR,.int .i64 G.st],.complex .f64 0 0,.int .i64 0]) (by simp[results,results23,go_sem,g0,g1,g2,g3]) rfl ?_;exact⟨⟨_,rfl,(ax.o _ _ _ _).rd (by simp) G.st,ay.o⟩,zI (zI (zI (zI aw.o _ (Af _)) _ (Af _)) _ (Af _)) _ (Af _)⟩
def F5 (s:List Int):Bool:=(s.all fun z=>decide (0<=z)&&decide (z<256))&&decide (s.length<=100)
def Jc (x:fw):Bool:=F5 x.t&&Gm.named x.t && !(x.t==[101,114,114,111,114])
def Jn (p:Y.iv):Bool:=F5 p.l.t&&T.isName p.l.t&&(p.r.all Jc)&&p.p.isNone&&decide (p.r.length<=1000)
def G7 (ds:List Y.kB) (ps:List Y.iv):Bool:=ds.isEmpty&&ps.all Jn&&decide (ds.length<=1000)&&decide (ps.length<=1000)&&decide (0<ps.length)
theorem Md {s:List Int} (h:F5 s=true):K.Tx s:=by
 unfold F5 at h;rw[Bb,Bi]at h;exact⟨xo _ h.1,by omega⟩
theorem Rr {x:fw} (h:Jc x=true):EX x:=by
 unfold Jc at h;simp only[Bb]at h;exact⟨Md h.1.1,h.1.2,by simpa using h.2⟩
theorem S9 {ps:List Y.iv} (h:G7 ds ps=true):Ez ds ps:=by
 unfold G7 at h;simp only[Bb,Bi,BP,Eu]at h;obtain⟨⟨⟨⟨h1,h2⟩,h3⟩,h4⟩,h5⟩:=h;refine⟨h1,fun d hd=>(by rw[h1]at hd;cases hd),fun p hp=>?_,fun p hp=>?_,h3,h4,h5⟩
 all_goals
  have:=h2 p hp
  unfold Jn at this;simp only[Bb,BP,Bi,EA]at this
 ·exact⟨Md this.1.1.1.1,this.1.1.1.2⟩
 ·exact⟨fun x hx=>Rr (this.1.1.2 x hx),this.1.2,this.2⟩
def Fa (L:List Int):Option Gm.Gr :=
 match zt L with
 | .ok xs=>match Y.decls (xs.length+1) [] xs with
  | .ok ds m=>match Y.take [9] m with
   | .ok _ m2=>match Y.group [] m2 with
    | .ok p1 r1=>match Y.more (r1.length+1) p1 r1 with
     | .ok ps []=>match G7 ds ps,Gm.build ds ps with
      | true,.ok G=>some G
      | _,_=>none
     | _=>none
    | _=>none
   | _=>none
  | _=>none
 | _=>none
theorem RR {L:List Int} (hb:(L.all fun z=>decide (0<=z)&&decide (z<256))=true) (hn:L.length<=2000) (h:Fa L=some G):∃xs ds ps,G2 L xs ds ps G:=by
 unfold Fa at h;split at h
 ·rename_i xs h1
  split at h
  ·rename_i ds m h2
   split at h
   ·rename_i t9 m2 h3
    split at h
    ·rename_i p1 r1 h4
     split at h
     ·rename_i ps h7
      split at h
      ·rename_i h5 h6
       injection h with h;subst h;exact⟨xs,ds,ps,xo _ hb,hn,h1,⟨m,t9,m2,p1,r1,_,h2,h3,h4,h7⟩,S9 h5,h6⟩
      ·cases h
     ·cases h
    ·cases h
   ·cases h
  ·cases h
 ·cases h
theorem J3 (L:List Int) (G:Gm.Gr) (hb:(L.all fun z=>decide (0<=z)&&decide (z<256))=true) (hl:L.length<=2000) (hg:Fa L=some G) (w:World) (n:Nat) (hw:n=w.heap.size) :
  Calls prog 23 #[.slice (some ⟨n,0,none⟩) L.length L.length] (w.alloc (xq L)) fun e w'=>(∃g,e=.returned (.tuple #[g,.complex .f64 0 0,.int .i64 0])/\aT w' w'.heap.size g G/\Gm.Fit G)/\Below w.heap.size w w':=by
 subst hw;obtain⟨xs,ds,ps,hs⟩:=RR hb hl hg;obtain⟨r1,r2⟩:=G9 w L;exact(RQ _ L.length L xs ds ps G _ r1 (Af _) hs).mono fun e w' h=>⟨h.1,r2.trans (h.2.mono r2.size)⟩
def F0:List Int:=[37,37,32,115,32,58,32,39,97,39,32,115,32,124,32,59]
def bH:Gm.Gr:=⟨[⟨[39,97,39],0,0⟩],[[115]],[⟨0,[0,-1],0⟩,⟨0,[],-1⟩],0⟩
theorem SE:Fa F0=some bH:=by kernel_rfl
theorem zn:Gm.right bH=true:=by decide +kernel
theorem I7:Gm.gn true bH.rs bH.ns.length=[true]:=by
 rw[<-Gm.kZ (Gm.ft.1 zn).iT];decide +kernel
theorem SU:Gm.rc bH=[true]:=by
 have h:=Gm.ft.1 zn;rw[<-Gm.nf h.iT h.sin h.s0 h.s1,I7];decide +kernel
theorem MF:Gm.nB bH=0:=Gm.pa zn (by
 have aa:=Gm.ft.1 zn;have h0:=aa.s0;have h1:=aa.s1
 have e:Gm.tr (Gm.Gn true bH.rs bH.st)=(Gm.gn true bH.rs bH.ns.length).getD bH.st.toNat false:=by
  rw[Gm.mN _ _ _ _ (by omega),BI h0]
 rw[e,I7];decide)
theorem SI {x:Gm.Rl} (hx:x∈bH.rs):Gm.use bH x=Gm.oZ [true] [true] x:=by
 rw[<-Gm.mw (Gm.ft.1 zn) hx,I7,SU]
theorem Mz:Gm.iC bH=[⟨0,[0,-1],0⟩,⟨0,[],-1⟩]:=by
 have e:Gm.iC bH=bH.rs.filter (Gm.oZ [true] [true]):=List.filter_congr fun x hx=>SI hx;exact e.trans (by kernel_rfl)
theorem Sr:Gm.fu bH=[0]:=by unfold Gm.fu;rw[Mz];decide +kernel
theorem SQ:Gm.reduce bH=bH:=by unfold Gm.reduce;rw[Mz,Sr];rfl
theorem MB:Gm.jE bH=true:=by
 unfold Gm.jE Gm.nV;rw[AC MF,SQ,MF,Gm.lU];rfl
def Ja:List (List Au.It):=[[(-1,0)],[(0,1)],[(-1,1)],[(0,2)]]
def G5:List (List (Int×Int)):=[[(0,1),(-1,2)],[(0,1),(-1,3)],[],[]]
theorem ML:Au.lK bH=some (Ja,G5):=Au.xF (by decide +kernel)
theorem Tl:Au.jv bH=0:=(Au.kH MB ML).1
theorem Sg:Gm.right Gm.mO=false:=by decide +kernel
theorem Fc:Gm.jE Gm.mO=false:=by
 cases h:Gm.jE Gm.mO
 ·rfl
 ·have:=Gm.fY h
  rw[Sg]at this;cases this
theorem Tt:Au.jv Gm.mO=1:=(Au.kG Fc).1
theorem Fh:Gm.gn false bH.rs bH.ns.length=[true]:=by
 rw[<-Gm.kZ (Gm.ft.1 zn).iT];decide +kernel
theorem Tq:Gm.fst bH=[1]:=by
 unfold Gm.fst;rw[Fh];decide +kernel
def Ff:List (List Au.It):=[[(-1,0),(0,0),(1,0)],[(0,0),(0,1),(1,0)],[(-1,1)],[(0,2)]]
theorem Sd:Lk.fq bH Ja=Ff:=by
 unfold Lk.fq Ja Ff;rw[Bz,Bz,Bz,Bz,Du];rw[(Au.nF (G:=bH) (l:=[(-1,0)]) (by decide +kernel) (by decide +kernel)),(Au.nF (G:=bH) (l:=[(0,1)]) (by decide +kernel) (by decide +kernel)),(Au.nF (G:=bH) (l:=[(-1,1)]) (by decide +kernel) (by decide +kernel)),(Au.nF (G:=bH) (l:=[(0,2)]) (by decide +kernel) (by decide +kernel))];decide +kernel
def Fe:List (List (Int×Int)):=[[(1,2)],[(1,2)],[],[(0,2)]]
theorem Mu:Lk.kP bH=Fe :=
 (Lk.uz MB ML (Gm.ft.1 zn) Sd Fh Tq 1 (S:=[[2,2,2],[2,2,2],[2],[2]]) (by decide +kernel) (by decide +kernel)).trans (by decide +kernel)
def FZ:List Int:=[37,37,32,115,32,58,32,108,32,39,61,39,32,114,32,124,32,114,32,59,32,108,32,58,32,39,42,39,32,114,32,124,32,39,105,39,32,59,32,114,32,58,32,108,32,59]
def bF:Gm.Gr:=⟨[⟨[39,61,39],0,0⟩,⟨[39,42,39],0,0⟩,⟨[39,105,39],0,0⟩],[[115],[108],[114]],[⟨0,[-2,0,-3],0⟩,⟨0,[-3],-1⟩,⟨1,[1,-3],1⟩,⟨1,[2],2⟩,⟨2,[-2],-1⟩],0⟩
theorem SD:Fa FZ=some bF:=by kernel_rfl
theorem zm:Gm.right bF=true:=by decide +kernel
theorem I6:Gm.gn true bF.rs bF.ns.length=[true,true,true]:=by
 rw[<-Gm.kZ (Gm.ft.1 zm).iT];decide +kernel
theorem SR:Gm.rc bF=[true,true,true]:=by
 have h:=Gm.ft.1 zm;rw[<-Gm.nf h.iT h.sin h.s0 h.s1,I6];decide +kernel
theorem ME:Gm.nB bF=0:=Gm.pa zm (by
 have aa:=Gm.ft.1 zm;have h0:=aa.s0;have h1:=aa.s1
 have e:Gm.tr (Gm.Gn true bF.rs bF.st)=(Gm.gn true bF.rs bF.ns.length).getD bF.st.toNat false:=by
  rw[Gm.mN _ _ _ _ (by omega),BI h0]
 rw[e,I6];decide)
theorem SH {x:Gm.Rl} (hx:x∈bF.rs):Gm.use bF x=Gm.oZ [true,true,true] [true,true,true] x:=by
 rw[<-Gm.mw (Gm.ft.1 zm) hx,I6,SR]
theorem My:Gm.iC bF=bF.rs:=by
 have e:Gm.iC bF=bF.rs.filter (Gm.oZ [true,true,true] [true,true,true]):=List.filter_congr fun x hx=>SH hx;exact e.trans (by kernel_rfl)
theorem Sq:Gm.fu bF=[0,1,2]:=by unfold Gm.fu;rw[My];decide +kernel
theorem SP:Gm.reduce bF=bF:=by unfold Gm.reduce;rw[My,Sq];rfl
theorem MA:Gm.jE bF=true:=by
 unfold Gm.jE Gm.nV;rw[AC ME,SP,ME,Gm.lU];rfl
def FX:List (List Au.It):=[[(-1,0)],[(2,1)],[(3,1)],[(-1,1)],[(0,1),(4,1)],[(1,1)],[(4,1)],[(2,2)],[(0,2)],[(0,3)]]
def G6:List (List (Int×Int)):=[[(1,1),(2,2),(-1,3),(-2,4),(-3,5)],[(1,1),(2,2),(-2,6),(-3,7)],[],[],[(0,8)],[],[],[],[(1,1),(2,2),(-2,6),(-3,9)],[]]
theorem MK:Au.lK bF=some (FX,G6):=Au.xF (by decide +kernel)
theorem Tk:Au.jv bF=0:=(Au.kH MA MK).1
theorem Fi:Gm.gn false bF.rs bF.ns.length=[false,false,false]:=by
 rw[<-Gm.kZ (Gm.ft.1 zm).iT];decide +kernel
theorem SG:Gm.fst bF=[6,6,6]:=by
 unfold Gm.fst;rw[Fi];decide +kernel
def Hb:List (List Au.It):=[[(-1,0),(0,0),(1,0),(2,0),(3,0),(4,0)],[(2,0),(2,1),(3,0),(4,0)],[(3,1)],[(-1,1)],[(0,1),(4,1)],[(1,1)],[(4,1)],[(2,2)],[(0,2),(2,0),(3,0),(4,0)],[(0,3)]]
theorem Sc:Lk.fq bF FX=Hb:=by
 have key:∀l∈FX,Au.iU bF l=Au.oF bF l:=fun l hl=>Au.nF (by
  have h:(FX.all fun l=>l.all (Au.gj bF))=true:=by decide +kernel
  exact fun x hx=>BP.1 (BP.1 h l hl) x hx) (by
  have h:(FX.all fun l=>Au.qX bF (Au.oF bF l)==Au.oF bF l)=true:=by decide +kernel
  exact eq_of_beq (BP.1 h l hl))
 unfold Lk.fq;rw[List.map_congr_left key];decide +kernel
def vF:List (List (Int×Int)):=[[],[],[(3,9)],[],[(4,8)],[(1,8)],[(4,9)],[(2,9)],[],[(0,8)]]
theorem Mr:Lk.kP bF=vF :=
 (Lk.uz MA MK (Gm.ft.1 zm) Sc Fi SG 2 (S:=[[8,8,8,9,9,8],[9,9,9,9],[9],[8],[8,8],[8],[9],[9],[8,8,8,8],[8]]) (by decide +kernel) (by decide +kernel)).trans (by decide +kernel)
theorem Ha:Lk.kP Gm.mO=[]:=Lk.sq Fc
namespace S
def has (s:Nat) (n:Int):Bool:=decide (0<=n/\n<=31)&&s.testBit n.toNat
theorem oz (s:Nat) (n:Int):(s &&& bit n != 0)=has s n:=by
 unfold has bit;split
 ·rename_i h
  cases hb:s.testBit n.toNat
  ·have e:s &&& 2 ^ n.toNat=0:=by
    apply CW;intro i;rw[DT,Cu,C4];by_cases hi:n.toNat=i
    ·rw[<-hi,hb];rfl
    ·simp[hi]
   rw[e];simp
  ·have e:s &&& 2 ^ n.toNat≠0:=by
    intro e
    have:=congrArg (fun z=>Nat.testBit z n.toNat) e
    simp only[DT,Cu,hb,C4]at this;simp at this
   simp[h,e]
 ·rename_i h;simp[h]
end S
namespace Lk
def rl (l:List (Int×Int)) (n:Int):List Int:=(l.filter fun x=>S.has x.2.toNat n).map (·.1)
theorem wZ {l:List (Int×Int)} {n:Int} (h:i<l.length):rl (l.take (i+1)) n=rl (l.take i) n++if S.has (l[i]).2.toNat n=true then [(l[i]).1] else []:=by
 unfold rl;rw[AL h,B9,Bf]
 congr 1
 rw[Cc];split <;> rfl
theorem yT (l:List (Int×Int)) (n:Int):(rl l n).length<=l.length:=by
 unfold rl;rw[Bh];exact Cd _ _
end Lk
def Ji (x:Int×Int):Prop:=Gm.In x.1/\0<=x.2/\x.2<4294967296
theorem NJ (l:List (Int×Int)) (n:Int) (A:Option Addr) (c B:Nat) (w:World) (hr:jm 2 kJ w B A l) (hB:B<=w.heap.size) (ak:∀x∈l,Ji x) (aa:l.length<=100000) :
  Calls prog 15 #[.slice A l.length c,.int .i64 n] w fun e w'=>∃u,e=.returned u/\aV w' w.heap.size u (Lk.rl l n)/\Below w.heap.size w w':=by
 have HR:=aA hr;have HB:=aA hB;have ay:=aA ak;have ac:=aA aa;have a9:(l.length:Int)<=100000:=by omega
 have az:Hid (aV w w.heap.size (.slice none 0 0) (Lk.rl (l.take 0) n)):=aA (aV.nil _ _);clear hr hB ak aa
 go_enter func15,ntmps15
 go_wp2;go_loopw [10,5] (fun vi vu wr=>∃i:Nat,i<=l.length/\vi=.int .i64 i/\Hid (aV wr w.heap.size vu (Lk.rl (l.take i) n))/\Hid (Below w.heap.size w wr)) (fun vi _ _=>l.length-(intOf vi).toNat)
 case atStart=>exact⟨0,AV _,rfl,az,aA (AB _ _)⟩
 case round =>
  obtain⟨i,hi,rfl,HO,HW⟩:=hrel;rename World=>wr;obtain⟨Au,cu,rfl,_,_,_⟩:=aV.form HO.o;by_cases d:i<l.length
  ·obtain⟨g,o,rfl,a0,hc⟩:=HR.o (by omega);have al:g<w.heap.size:=Ah a0 HB.o;have k0:=(HW.o.cell (p:=⟨g,o+i*2+0,none⟩) al).trans (hc i d 0 (.int .i64 (l[i]).1) rfl);have k1:=(HW.o.cell (p:=⟨g,o+i*2+1,none⟩) al).trans (hc i d 1 (.int .u32 (l[i]).2) rfl);rw[Dp]at k0;have hx:=ay.o _ (AE d);have b:=aA (Lk.wZ (n:=n) d);have ad:=aA (Aj (Lk.yT (l.take i) n) (by rw[Bd];omega:(l.take i).length<=l.length));have am:=aA d;have ba:((i:Nat):Int)<((l.length:Nat):Int):=by omega
   have ae:0<=(l[i]).2/\(l[i]).2<4294967296:=hx.2;clear hx;clear hc;generalize (l[i]).2=zi at *;obtain⟨z,rfl⟩:∃z:Nat,zi=(z:Int):=⟨zi.toNat,by have:=ae.1;omega⟩
   have a1:z<4294967296:=by have:=ae.2;omega
   rw[Cq]at b;clear ae;generalize (l[i]).1=r at *;obtain⟨wi,ab⟩:∃y,y=wr.alloc (.cells #[.int .i64 r,.int .u32 (z:Int)] 46):=⟨_,rfl⟩
   have ao:Hid (Below wr.heap.size wr wi):=aA (by rw[ab];exact(AB _ _).alloc (Af _) _);have ap:Hid (wi.heap[wr.heap.size]?=some (.cells #[.int .i64 r,.int .u32 (z:Int)] 46 (0,0))):=aA (by rw[ab];exact AG wr _);have y1:=aX ap.o;have aq:=aA (HW.o.trans (ao.o.mono HW.o.size));have a2:=aA (HO.o.below ao.o (Af _));have e:=u32_and_nat z (S.bit n) a1 (S.oD n)
   have ar:(((z &&& S.bit n:Nat):Int) != 0)=S.has z n:=by
    rw[<-S.oz,Bw,D4,D4];omega
   go_upto_region 5 with fail
   rw[<-ab];clear ab k0 k1;go_quiet ((go_at_call 30;exact Dy (Iq _ _)))
   obtain⟨wq,af⟩:∃y,y=wi.drewN nq:=⟨_,rfl⟩
   rw[<-af];have ag:Hid (Below wi.heap.size wi wq):=aA (by rw[af];exact aB (AB _ _) _);clear af y1;have ah:=aA (aq.o.trans (ag.o.mono aq.o.size));have au:=aA (a2.o.below ag.o (Af _));cases hh:S.has z n
   ·rw[hh]at b;have ai:Hid (Lk.rl (l.take (i+1)) n=Lk.rl (l.take i) n):=aA (by rw[b.o];simp);rw[hh]at ar;clear hh b;go_wp2;go_roundw
    case rel=>exact⟨i+1,am.o,by go_num,by rw[ai.o];exact au,ah⟩
    case measure=>simp[intOf];omega
   ·rw[hh]at b;have ai:Hid (Lk.rl (l.take (i+1)) n=Lk.rl (l.take i) n++[r]):=aA (by rw[b.o];simp);rw[hh]at ar;clear hh b;have y0:=aS (aC ag.o ap.o);have a3:Hid (Below wq.heap.size wq (wq.alloc (.cells #[.int .i64 r] 3))):=aA ((AB _ _).alloc (Af _) _);have av:=aA (au.o.alloc (.cells #[.int .i64 r] 3));have a4:Hid ((wq.alloc (.cells #[.int .i64 r] 3)).cell? ⟨wq.heap.size,0,none⟩=some (.int .i64 r)):=aA (AF _ _ 0 _ _ _ (AG wq _));have aj:=aA (ah.o.trans (a3.o.mono ah.o.size));generalize Lk.rl (l.take i) n=xs at *;go_wp2_with (at_builtin;refine xQ rfl (.tmp 20) (.tmp 23) _ rfl underlying38 w.heap.size _ xs rfl av.o _ _ r rfl a4.o (by have:=ad.o;have:=ac.o;omega) aj.o.size ?_;intro v5 w5 aw ax;have a5:=aA aw;have a6:=aA (aj.o.grown ax aj.o.size (fun k e=>(Bk av.o k e).1));clear aw ax)
    go_roundw
    case rel=>exact⟨i+1,am.o,by go_num,by rw[ai.o];exact a5,a6⟩
    case measure=>simp[intOf];omega
  ·obtain rfl:i=l.length:=by omega
   rw[Bn]at HO ⊢;go_wp2;go_ret
   refine⟨_,?_,HO.o,HW.o⟩;rfl
def Ga (L:List Int) (w:World) (e:Ending) (w':World):Prop:=∃A c,e=.returned (.slice A L.length c)/\L.length<=c/\c<=9223372036854775807/\gd w' w'.heap.size A L/\Below w.heap.size w w'
theorem Jv (v:Value) (G:Gm.Gr) (B:Nat) (r:Int) (w:World) (hg:aT w B v G) (hf:Gm.Fit G) (hB:B<=w.heap.size) (hr:Au.sG G r=true) :
  Calls prog 61 #[v,.int .i64 r] w (Ga (Au.sy G r) w):=by
 have hr:=Au.ko.1 hr;have aa:=hf.s;unfold Gm.In at aa;obtain⟨AT,cT,AN,cN,AR,cR,rfl,⟨ah,ai⟩,⟨aj,ak⟩,⟨al,am⟩,_,_,hR⟩:=hg;have b:=aA (bE.start 26 w #[.slice AT G.ts.length cT,.slice AN G.ns.length cN,.slice AR G.rs.length cR,.int .i64 G.st]);have x2:=b.o.c 2 _ rfl;have x3:=b.o.c 3 _ rfl;unfold Ga;by_cases h1:r = -1
 ·subst h1;have e:Au.sy G (-1)=[-1-G.st]:=rfl;have hw:IntKind.i64.wrap (-1-G.st) = -1-G.st:=B3 _ (by omega);have HL:=aA (zY (w.alloc (.cells #[.slice AT G.ts.length cT,.slice AN G.ns.length cN,.slice AR G.rs.length cR,.int .i64 G.st] 26)) [-1-G.st]);rw[e];clear hr hR e hf aa
  go_enter func61,ntmps61
  go_wp2;go_ret
  exact⟨_,_,rfl,by simp,by simp,by simpa[tR] using HL.o.1,b.o.below.trans (HL.o.2.mono (by simp))⟩
 ·obtain⟨k,rfl⟩:∃k:Nat,r=(k:Int):=⟨r.toNat,by omega⟩
  have ab:k<G.rs.length:=by omega
  obtain⟨g,o,rfl,ad,hc⟩:=hR (by omega);obtain⟨A',c',k1,ae,af,ac⟩:=(hc k ab).2.1;have k1:=(b.o.below.cell (p:=⟨g,o+k*3+1,none⟩) (Ah ad hB)).trans k1;have ag:=aA ((ac.below b.o.below hB).more (B':=w.heap.size+1) (by omega));have h2:((k:Int) == -1)=false:=by rw[Ba];omega
  have h3:(k:Int)<(G.rs.length:Int):=by omega
  rw[Au.uW ab];clear hc ac hR hr h1 hf aa;generalize (G.rs[k]).r=L at *
  go_enter func61,ntmps61
  go_wp2;go_ret
  exact⟨_,_,rfl,ae,af,by simpa using ag.o,b.o.below⟩
theorem Ia (v:Value) (G:Gm.Gr) (B:Nat) (x:Au.It) (w:World) (hg:aT w B v G) (hf:Gm.Fit G) (hB:B<=w.heap.size) (hx:Au.gj G x=true) :
  Calls prog 42 #[v,lI x] w fun e w'=>e=.returned (.tuple #[.int .i64 ((Au.nx G x).getD 0),.bool (Au.nx G x).isSome])/\Below w.heap.size w w':=by
 have hi:=Au.fW.1 hx;have HR:=aA (fun y (h:Below w.heap.size w y)=>Jv v G B x.1 y (hg.below h hB) hf (Aj hB h.size) (Au.ko.2 hi.1));unfold Ga at HR;have HI:=aA (Au.nO (G:=G) (x:=x) hi.2.1);have HO:=aA (fun(h:x.2=(Au.sy G x.1).length)=>show Au.nx G x=none from BH (by omega));obtain⟨AT,cT,AN,cN,AR,cR,rfl,_⟩:=hg;have b:=aA (bQ.start 26 60 w #[.slice AT G.ts.length cT,.slice AN G.ns.length cN,.slice AR G.rs.length cR,.int .i64 G.st] #[.int .i64 x.1,.int .i64 x.2]);have g0:=b.o.c1 0 _ rfl;have g1:=b.o.c1 1 _ rfl;have g2:=b.o.c1 2 _ rfl;have g3:=b.o.c1 3 _ rfl;have i0:=b.o.c2 0 _ rfl;have i1:=b.o.c2 1 _ rfl;have h0:=hi.2.1;have h2:=hi.2.2;clear hf hx hi;generalize Au.nx G x=q at *;generalize Au.sy G x.1=L at *
 go_enter func42,ntmps42
 go_wp2_with fail
 refine(HR.o _ b.o.below).mono ?_;rintro _ w2 ⟨A,c,rfl,hl,hm,aa,hb⟩;have HB:=aA (b.o.on hb);have j1:=HB.o.c2 1 _ rfl;clear hb g0 g1 g2 g3 i0 i1;by_cases h1:x.2=(L.length:Int)
 ·have HQ:=aA (HO.o h1);have he:(x.2==(L.length:Int))=true:=by rw[BJ];exact h1
  clear HO HI aa h0 h2 h1;go_wp2
  go_ret2
  exact⟨by rw[HQ.o];rfl,HB.o.below⟩
 ·have HQ:=HI.o (by omega);obtain⟨g,o,rfl,ad,hc⟩:=aa (by omega);obtain⟨k,hk⟩:∃k:Nat,x.2=(k:Int):=⟨x.2.toNat,by omega⟩
  rw[hk]at j1 h0 h1 h2 HQ;have ab:k<L.length:=by omega
  have k0:=hc k ab;rw[show((k:Int)).toNat=k by omega]at HQ;generalize L.getD k 0=z at *;have HQ:=aA HQ;have he:((k:Int)==(L.length:Int))=false:=by rw[Ba];exact h1
  clear HO HI hc hk h0 h1 h2;have ac:(k:Int)<(L.length:Int):=by omega
  go_wp2
  go_ret2
  exact⟨by rw[HQ.o];rfl,HB.o.below⟩
theorem Ol (x y:Au.It) (w:World) :
  Calls prog 85 #[lI x,lI y] w fun e w'=>e=.returned (.bool (Au.lt x y))/\Below w.heap.size w w':=by
 have d:=aA (bQ.start 60 60 w #[.int .i64 x.1,.int .i64 x.2] #[.int .i64 y.1,.int .i64 y.2]);have g0:=d.o.c1 0 _ rfl;have g1:=d.o.c1 1 _ rfl;have i0:=d.o.c2 0 _ rfl;have i1:=d.o.c2 1 _ rfl;obtain⟨b,hb⟩:∃b,b=Au.lt x y:=⟨_,rfl⟩
 rw[<-hb];unfold Au.lt at hb;by_cases h1:x.1<y.1
 ·rw[AQ h1,Dw]at hb;subst hb
  go_enter func85,ntmps85
  go_wp2;go_ret
  exact⟨rfl,d.o.below⟩
 ·rw[AM h1,ES]at hb;by_cases h2:x.1=y.1
  ·rw[AQ h2,Ck]at hb;have he:(x.1==y.1)=true:=by rw[BJ];exact h2
   by_cases h3:x.2<y.2
   ·rw[AQ h3]at hb;subst hb;clear h2
    go_enter func85,ntmps85
    go_wp2;go_ret
    exact⟨rfl,d.o.below⟩
   ·rw[AM h3]at hb;subst hb;clear h2;have HF:=aA (AM h3)
    go_enter func85,ntmps85
    go_wp2;go_ret
    exact⟨aE (by first|rfl|exact HF.o),d.o.below⟩
  ·rw[AM h2,CI]at hb;have he:(x.1==y.1)=false:=by rw[Ba];exact h2
   subst hb;clear h2
   go_enter func85,ntmps85
   go_wp2;go_ret
   exact⟨rfl,d.o.below⟩
theorem JH (v:Value) (G:Gm.Gr) (B:Nat) (x:Au.It) (w:World) (hg:aT w B v G) (hf:Gm.Fit G) (hB:B<=w.heap.size) :
  Calls prog 41 #[v,lI x] w fun e w'=>e=.returned (.bool (Au.hasB G x))/\Below w.heap.size w w':=by
 have HR:=aA (fun y (h:Below w.heap.size w y)=>zJ v G B y (hg.below h hB) hf (Aj hB h.size));have l:=aA (fun(hr:Au.sG G x.1=true) y (h:Below w.heap.size w y)=>Jv v G B x.1 y (hg.below h hB) hf (Aj hB h.size) hr);unfold Ga at l;have m:=aA (fun(h1:-1<=x.1) (h2:x.1<(G.rs.length:Int))=>Au.ko.2 (⟨h1,h2⟩:-1<=x.1/\x.1<(G.rs.length:Int)));obtain⟨AT,cT,AN,cN,AR,cR,rfl,_⟩:=hg;obtain⟨bo,i⟩:∃bo,bo=Au.hasB G x:=⟨_,rfl⟩
 rw[<-i];unfold Au.hasB Au.gj at i;obtain⟨wb,k⟩:∃z,z=(w.alloc (.cells #[.slice AT G.ts.length cT,.slice AN G.ns.length cN,.slice AR G.rs.length cR,.int .i64 G.st] 26)).alloc (.cells #[.int .i64 x.1,.int .i64 x.2] 60):=⟨_,rfl⟩
 have HT:Hid (bQ 26 60 w #[.slice AT G.ts.length cT,.slice AN G.ns.length cN,.slice AR G.rs.length cR,.int .i64 G.st] #[.int .i64 x.1,.int .i64 x.2] wb):=aA (by rw[k];exact bQ.start _ _ _ _ _);have q0:∀z:Calm.On wb.heap.size wb,z.1.cell? ⟨w.heap.size,0,none⟩=some (.slice AT G.ts.length cT):=fun z=>(HT.o.on z.2).c1 0 _ rfl;have q1:∀z:Calm.On wb.heap.size wb,z.1.cell? ⟨w.heap.size,1,none⟩=some (.slice AN G.ns.length cN):=fun z=>(HT.o.on z.2).c1 1 _ rfl;have q2:∀z:Calm.On wb.heap.size wb,z.1.cell? ⟨w.heap.size,2,none⟩=some (.slice AR G.rs.length cR):=fun z=>(HT.o.on z.2).c1 2 _ rfl;have q3:∀z:Calm.On wb.heap.size wb,z.1.cell? ⟨w.heap.size,3,none⟩=some (.int .i64 G.st):=fun z=>(HT.o.on z.2).c1 3 _ rfl;have j0:∀z:Calm.On wb.heap.size wb,z.1.cell? ⟨w.heap.size+1,0,none⟩=some (.int .i64 x.1):=fun z=>(HT.o.on z.2).c2 0 _ rfl;have j1:∀z:Calm.On wb.heap.size wb,z.1.cell? ⟨w.heap.size+1,1,none⟩=some (.int .i64 x.2):=fun z=>(HT.o.on z.2).c2 1 _ rfl;have aa:=aW wb;clear hf hB;cases hr:Gm.right G
 ·rw[hr]at HR i;rw[CI]at i;subst i;clear hr l m
  go_enter func41,ntmps41
  go_upto_region 1 with fail
  rw[<-k];clear k;refine CalmN.fk (fun x=>∃z:Calm.On wb.heap.size wb,x=z.1) (.one [0] 1 (.one [2,3,4,5,6,7,8,9,10,11,12,13,14,15,16,17,18,19,20,21,22,23,24,25] 26 (.fin [27,28,29,30]))) (by kernel_rfl) (by kernel_rfl) (fun _ _ d _ _ h=>by cases d <;> exact h) aa.o ?_;simp only[CalmN.fN,CalmN.fv,CalmN.fo,Az,Am,Ap];repeat (go_big_quiet_step (fail))
  refine Aw ?_;intro KK b;rw[AC (by rfl)];go_wp2_with fail
  refine(HR.o wb.drew (aB HT.o.below 1)).mono ?_;rintro _ w2 ⟨rfl,f⟩;have f:Below wb.heap.size wb w2:=(aB (AB _ wb) 1).trans f;have g:=qP f;have j:Hid (Below w.heap.size w w2):=aA (HT.o.below.trans (f.mono HT.o.below.size));clear f;go_wp2_with fail
  refine b _ _ g.o _ (fun _ h=>h) g.o ?_;clear b;repeat (go_big_quiet_step (fail))
  refine Aw ?_;intro KK b;rw[AI (by exact(fun h=>absurd (show false=true from h) (by decide)))];refine b _ _ g.o _ (fun _ h=>h) g.o ?_;clear b;simp only[Act.put,CA,Cz,CB];repeat (go_big_quiet_step (fail))
  refine Aw ?_;go_wp2;go_ret
  exact⟨rfl,j.o⟩
 ·rw[hr]at HR i;rw[Ck]at i;clear hr;by_cases h1:-1<=x.1
  ·have d1:=AQ h1;rw[d1,Ck]at i;by_cases h2:x.1<(G.rs.length:Int)
   ·have d2:=AQ h2;rw[d2,Ck]at i;have af:=aA (l.o (m.o h1 h2));clear l m h1 h2;by_cases h3:0<=x.2
    focus
     have d3:=AQ h3;rw[d3,Ck]at i;clear h3;generalize Au.sy G x.1=L at *
    rotate_left
    focus
     have d3:=AM h3;rw[d3,CI]at i;subst i;clear h3 af
    rotate_left
    all_goals
     go_enter func41,ntmps41
     go_upto_region 1 with fail
     rw[<-k];clear k;refine CalmN.fk (fun x=>∃z:Calm.On wb.heap.size wb,x=z.1) (.one [0] 1 (.one [2,3,4,5,6,7,8,9,10,11,12,13,14,15,16,17,18,19,20,21,22,23,24,25] 26 (.fin [27,28,29,30]))) (by kernel_rfl) (by kernel_rfl) (fun _ _ d _ _ h=>by cases d <;> exact h) aa.o ?_;simp only[CalmN.fN,CalmN.fv,CalmN.fo,Az,Am,Ap];repeat (go_big_quiet_step (fail))
     refine Aw ?_;intro KK b;rw[AC (by rfl)];go_wp2_with fail
     refine(HR.o wb.drew (aB HT.o.below 1)).mono ?_;rintro _ w2 ⟨rfl,f⟩;have f:Below wb.heap.size wb w2:=(aB (AB _ wb) 1).trans f;have g:=qP f;have j:Hid (Below w.heap.size w w2):=aA (HT.o.below.trans (f.mono HT.o.below.size));clear f;go_wp2_with fail
     refine b _ _ g.o _ (fun _ h=>h) g.o ?_;clear b;repeat (go_big_quiet_step (fail))
     refine Aw ?_;intro KK b
    focus
     rw[AC (by rfl)];go_wp2_with fail
     refine(af.o w2 j.o).mono ?_;rintro _ w3 ⟨A,c,rfl,hl,hm,_,ab⟩;have ad:=ab
     have ac:Hid (∃z:Calm.On wb.heap.size wb,w3=z.1):=aA (by
      obtain⟨z,hz⟩:=g.o;refine⟨⟨w3,?_⟩,rfl⟩;have h1:Below wb.heap.size wb w2:=by rw[hz];exact z.2
      exact h1.trans (ab.mono h1.size))
     have ag:=aA (j.o.trans (ab.mono j.o.size));have ah:=aA i;clear ab ad i;generalize L.length=nl at *;by_cases h4:x.2<=(nl:Int)
     ·have ae:=aA (ah.o.trans (AQ h4));have d4:=AQ h4;clear h4;go_wp2_with fail
      refine b _ _ ac.o _ (fun _ h=>h) ac.o ?_;clear b;repeat (go_big_quiet_step (fail))
      refine Aw ?_;go_wp2;go_ret
      exact⟨aE ae.o.symm,ag.o⟩
     ·have ae:=aA (ah.o.trans (AM h4));have d4:=AM h4;clear h4;go_wp2_with fail
      refine b _ _ ac.o _ (fun _ h=>h) ac.o ?_;clear b;repeat (go_big_quiet_step (fail))
      refine Aw ?_;go_wp2;go_ret
      exact⟨aE ae.o.symm,ag.o⟩
    focus
     rw[AI (by exact(fun h=>absurd (show false=true from h) (by decide)))];refine b _ _ g.o _ (fun _ h=>h) g.o ?_;clear b;simp only[Act.put,CA,Cz,CB];repeat (go_big_quiet_step (fail))
     refine Aw ?_;go_wp2;go_ret
     exact⟨rfl,j.o⟩
   ·have d2:=AM h2;rw[d2,CI,CI]at i;subst i;clear h1 h2 l m
    go_enter func41,ntmps41
    go_upto_region 1 with fail
    rw[<-k];clear k;refine CalmN.fk (fun x=>∃z:Calm.On wb.heap.size wb,x=z.1) (.one [0] 1 (.one [2,3,4,5,6,7,8,9,10,11,12,13,14,15,16,17,18,19,20,21,22,23,24,25] 26 (.fin [27,28,29,30]))) (by kernel_rfl) (by kernel_rfl) (fun _ _ d _ _ h=>by cases d <;> exact h) aa.o ?_;simp only[CalmN.fN,CalmN.fv,CalmN.fo,Az,Am,Ap];repeat (go_big_quiet_step (fail))
    refine Aw ?_;intro KK b;rw[AC (by rfl)];go_wp2_with fail
    refine(HR.o wb.drew (aB HT.o.below 1)).mono ?_;rintro _ w2 ⟨rfl,f⟩;have f:Below wb.heap.size wb w2:=(aB (AB _ wb) 1).trans f;have g:=qP f;have j:Hid (Below w.heap.size w w2):=aA (HT.o.below.trans (f.mono HT.o.below.size));clear f;go_wp2_with fail
    refine b _ _ g.o _ (fun _ h=>h) g.o ?_;clear b;repeat (go_big_quiet_step (fail))
    refine Aw ?_;intro KK b;rw[AI (by exact(fun h=>absurd (show false=true from h) (by decide)))];refine b _ _ g.o _ (fun _ h=>h) g.o ?_;clear b;simp only[Act.put,CA,Cz,CB];repeat (go_big_quiet_step (fail))
    refine Aw ?_;go_wp2;go_ret
    exact⟨rfl,j.o⟩
  ·have d1:=AM h1;rw[d1,CI,CI,CI]at i;subst i;clear h1 l m
   go_enter func41,ntmps41
   go_upto_region 1 with fail
   rw[<-k];clear k;refine CalmN.fk (fun x=>∃z:Calm.On wb.heap.size wb,x=z.1) (.one [0] 1 (.one [2,3,4,5,6,7,8,9,10,11,12,13,14,15,16,17,18,19,20,21,22,23,24,25] 26 (.fin [27,28,29,30]))) (by kernel_rfl) (by kernel_rfl) (fun _ _ d _ _ h=>by cases d <;> exact h) aa.o ?_;simp only[CalmN.fN,CalmN.fv,CalmN.fo,Az,Am,Ap];repeat (go_big_quiet_step (fail))
   refine Aw ?_;intro KK b;rw[AC (by rfl)];go_wp2_with fail
   refine(HR.o wb.drew (aB HT.o.below 1)).mono ?_;rintro _ w2 ⟨rfl,f⟩;have f:Below wb.heap.size wb w2:=(aB (AB _ wb) 1).trans f;have g:=qP f;have j:Hid (Below w.heap.size w w2):=aA (HT.o.below.trans (f.mono HT.o.below.size));clear f;go_wp2_with fail
   refine b _ _ g.o _ (fun _ h=>h) g.o ?_;clear b;repeat (go_big_quiet_step (fail))
   refine Aw ?_;intro KK b;rw[AI (by exact(fun h=>absurd (show false=true from h) (by decide)))];refine b _ _ g.o _ (fun _ h=>h) g.o ?_;clear b;simp only[Act.put,CA,Cz,CB];repeat (go_big_quiet_step (fail))
   refine Aw ?_;go_wp2;go_ret
   exact⟨rfl,j.o⟩
theorem J1 (v:Value) (G:Gm.Gr) (B:Nat) (x:Au.It) (w:World) (hg:aT w B v G) (hf:Gm.Fit G) (hB:B<=w.heap.size) :
  Calls prog 21 #[v,lI x] w fun e w'=>e=.returned (.tuple #[.int .i64 ((Au.kD G x).getD 0),.bool (Au.kD G x).isSome])/\Below w.heap.size w w':=by
 have HR:=aA (fun y (h:Below w.heap.size w y)=>JH v G B x y (hg.below h hB) hf (Aj hB h.size));have HA:=aA (fun hx y (h:Below w.heap.size w y)=>Ia v G B x y (hg.below h hB) hf (Aj hB h.size) hx);obtain⟨AT,cT,AN,cN,AR,cR,rfl,_⟩:=hg;have d:=aA (bQ.start 26 60 w #[.slice AT G.ts.length cT,.slice AN G.ns.length cN,.slice AR G.rs.length cR,.int .i64 G.st] #[.int .i64 x.1,.int .i64 x.2]);have g0:=d.o.c1 0 _ rfl;have g1:=d.o.c1 1 _ rfl;have g2:=d.o.c1 2 _ rfl;have g3:=d.o.c1 3 _ rfl;have i0:=d.o.c2 0 _ rfl;have i1:=d.o.c2 1 _ rfl;clear hf;cases hr:Au.hasB G x
 ·have hq:Au.kD G x=none:=by
   unfold Au.kD Au.rm;unfold Au.hasB at hr;cases h1:Gm.right G
   ·rfl
   ·rw[h1,Ck]at hr;rw[hr];rfl
  rw[hr]at HR;rw[hq];clear hr HA hq
  go_enter func21,ntmps21
  go_wp2_with fail
  refine(HR.o _ d.o.below).mono ?_;rintro _ w2 ⟨rfl,hb⟩;have HB:=aA (d.o.on hb);clear hb g0 g1 g2 g3 i0 i1;go_wp2
  go_ret2
  exact⟨rfl,HB.o.below⟩
 ·have hx:Au.gj G x=true:=by
   unfold Au.hasB at hr;cases h1:Gm.right G
   ·rw[h1,CI]at hr;cases hr
   ·rw[h1,Ck]at hr;exact hr
  have hq:Au.kD G x=Au.nx G x:=by
   unfold Au.kD Au.rm;unfold Au.hasB at hr;cases h1:Gm.right G
   ·rw[h1,CI]at hr;cases hr
   ·rw[hx];rfl
  have HA:=aA (HA.o hx);rw[hr]at HR;rw[hq];clear hr hq hx;generalize Au.nx G x=b at *
  go_enter func21,ntmps21
  go_wp2_with fail
  refine(HR.o _ d.o.below).mono ?_;rintro _ w2 ⟨rfl,hb⟩;have HB:=aA (d.o.on hb);have g0:=HB.o.c1 0 _ rfl;have g1:=HB.o.c1 1 _ rfl;have g2:=HB.o.c1 2 _ rfl;have g3:=HB.o.c1 3 _ rfl;have i0:=HB.o.c2 0 _ rfl;have i1:=HB.o.c2 1 _ rfl;clear hb;go_wp2_with fail
  refine(HA.o _ HB.o.below).mono ?_;rintro _ w3 ⟨rfl,hb⟩;have aa:=aA (HB.o.on hb);clear hb g0 g1 g2 g3 i0 i1;go_wp2
  go_ret2
  exact⟨rfl,aa.o.below⟩
theorem LG {a b c:World} {row aY:Option Nat} (h:a.grownBy b row) (k:b.grownBy c aY) (hr:∀j,aY=some j->row=some j\/a.heap.size<=j):a.grownBy c row :=
 ⟨k.os.trans h.os,k.tape.trans h.tape,k.output.trans h.output,Aj h.size k.size,fun i hi aa=>(k.block i (Ah hi h.size) (fun e=>by
  rcases hr i e.symm with q|q
  ·exact aa q.symm
  ·omega)).trans (h.block i hi aa)⟩
theorem zN (w:World):(sizeOf (prog.elem 52)).run prog w=.ok 2 w:=by kernel_rfl
theorem zO:prog.underlying 52=some (.slice (prog.elem 52)):=by kernel_rfl
theorem Ij (w:World) (base:Nat) (v:Value) (xs:List Au.It) (x:Au.It) (ho:aJ 60 2 fO w base v xs) (hB:base<=w.heap.size) (ad:xs.length<=100000) :
  Calls prog 59 #[v,lI x] w fun e w'=>∃v',e=.returned v'/\aJ 60 2 fO w' base v' (Au.put xs x)/\w.grownBy w' v.ownBlock:=by
 obtain⟨A,c,rfl,bg,bw,bc⟩:=aJ.form ho aI;have HO:=aA ho;have au:=aA bc;have HB:=aA hB;have ar:=aA bg;have bd:=aA (fun k (e:(Value.slice A xs.length c).ownBlock=some k)=>(Bk ho k e).2);obtain⟨wb,av⟩:∃z,z=w.alloc (.cells #[.int .i64 x.1,.int .i64 x.2] 60):=⟨_,rfl⟩
 have HT:Hid (bE 60 w #[.int .i64 x.1,.int .i64 x.2] wb):=aA (by rw[av];exact bE.start _ _ _);have bx:(xs.length:Int)<=100000:=by omega
 have bh:=aA (fun(a:Au.It) (y:World)=>Ol a x y);clear ho bc hB
 go_enter func59,ntmps59
 go_upto_region 1 with fail
 rw[<-av];clear av;go_wp2;go_loopw [5] (fun vi wr=>∃k:Nat,k<=xs.length/\vi=.int .i64 k/\Hid (∀j (_:j<k) (h:j<xs.length),Au.lt xs[j] x=true)/\Hid (bE 60 w #[.int .i64 x.1,.int .i64 x.2] wr)) (fun vi _=>xs.length-(intOf vi).toNat)
 case atStart=>exact⟨0,AV _,rfl,aA (fun j h=>absurd h (De _)),HT⟩
 case round =>
  obtain⟨k,hk,rfl,HK,HW⟩:=hrel;have i0:∀z:Calm.On wr.heap.size wr,z.1.cell? ⟨w.heap.size,0,none⟩=some (.int .i64 x.1):=fun z=>(HW.o.on z.2).c 0 _ rfl;have i1:∀z:Calm.On wr.heap.size wr,z.1.cell? ⟨w.heap.size,1,none⟩=some (.int .i64 x.2):=fun z=>(HW.o.on z.2).c 1 _ rfl;have U:=aW wr;by_cases F:k<xs.length
  focus
   obtain⟨g,o,rfl,bf,hc⟩:=au.o (by omega);have bi:(k:Int)<(xs.length:Int):=by omega
   have kk0:∀y:World,Below w.heap.size w y->y.cell? ⟨g,o+k*2,none⟩=some (.int .i64 (xs[k]).1):=fun y h=>(h.cell (p:=⟨g,o+k*2,none⟩) bf).trans (hc k F 0 _ rfl);have kk1:∀y:World,Below w.heap.size w y->y.cell? ⟨g,o+k*2+1,none⟩=some (.int .i64 (xs[k]).2):=fun y h=>(h.cell (p:=⟨g,o+k*2+1,none⟩) bf).trans (hc k F 1 _ rfl);have k0:∀z:Calm.On wr.heap.size wr,z.1.cell? ⟨g,o+k*2,none⟩=some (.int .i64 (xs[k]).1):=fun z=>kk0 z.1 (HW.o.on z.2).below;have k1:∀z:Calm.On wr.heap.size wr,z.1.cell? ⟨g,o+k*2+1,none⟩=some (.int .i64 (xs[k]).2):=fun z=>kk1 z.1 (HW.o.on z.2).below;have KK0:=aA kk0;have KK1:=aA kk1
   have aw:Hid (Au.lt xs[k] x=true->∀j (_:j<k+1) (h:j<xs.length),Au.lt xs[j] x=true):=aA (fun h1 j hj h=>by
    rcases Bx j k with h3|h3
    ·exact HK.o j h3 h
    ·obtain rfl:j=k:=by omega
     exact h1)
   have ax:Hid (xs[k]=x->Au.put xs x=xs):=aA (fun e=>Au.nQ F HK.o e);have ay:Hid (Au.lt xs[k] x=false->xs[k]≠x->Au.put xs x=xs.take k++[x]++xs.drop k):=aA (fun e1 e2=>Au.qj hk HK.o (fun _=>⟨e1,e2⟩));clear hc kk0 kk1;generalize xs[k]=y at *
  rotate_left
  focus
   have V:Hid (Au.put xs x=xs.take k++[x]++xs.drop k):=aA (Au.qj hk HK.o (fun h=>absurd h F));have bj:¬((k:Int)<(xs.length:Int)):=by omega
   have bk:decide (k<xs.length)=false:=AM F
  rotate_left
  all_goals
   go_wp2_with fail
   refine CalmN.fk (fun x=>∃z:Calm.On wr.heap.size wr,x=z.1) (.one [0,1,2,3,4,5,6,7,8,9] 10 (.fin [11])) (by kernel_rfl) (by kernel_rfl) (fun _ _ d _ _ h=>by cases d <;> exact h) U.o ?_;simp only[CalmN.fN,CalmN.fv,CalmN.fo,Az,Am,Ap];repeat (go_big_quiet_step (fail))
   refine Aw ?_;intro KK i
  focus
   rw[AC (by rfl)];go_wp2_with fail
   refine(bh.o y _).mono ?_;rintro _ w2 ⟨rfl,X⟩;have X:Below wr.heap.size wr w2:=(aB (AB _ wr) 1).trans X;have s:=qP X;have r:=aA (HW.o.on X);clear X i0 i1 k0 k1;cases hl:Au.lt y x
   ·have HL:=aA hl;clear hl;go_wp2_with fail
    refine i _ _ s.o _ (fun _ h=>h) s.o ?_;clear i;repeat (go_big_quiet_step (fail))
    refine Aw ?_;clear U s;have i0:∀z:Calm.On w2.heap.size w2,z.1.cell? ⟨w.heap.size,0,none⟩=some (.int .i64 x.1):=fun z=>(r.o.on z.2).c 0 _ rfl;have i1:∀z:Calm.On w2.heap.size w2,z.1.cell? ⟨w.heap.size,1,none⟩=some (.int .i64 x.2):=fun z=>(r.o.on z.2).c 1 _ rfl;have k0:∀z:Calm.On w2.heap.size w2,z.1.cell? ⟨g,o+k*2,none⟩=some (.int .i64 y.1):=fun z=>KK0.o z.1 (r.o.on z.2).below;have k1:∀z:Calm.On w2.heap.size w2,z.1.cell? ⟨g,o+k*2+1,none⟩=some (.int .i64 y.2):=fun z=>KK1.o z.1 (r.o.on z.2).below;have s:=aW w2;by_cases he:y=x
    ·subst he;have V:=aA (ax.o rfl);have az:(y.1==y.1)=true:=by simp
     have a0:(y.2==y.2)=true:=by simp
     clear ay aw ax;go_wp2_with fail
     refine CalmN.fk (fun x=>∃z:Calm.On w2.heap.size w2,x=z.1) (.fin [0,1,2,3,4,5,6,7,8,9,10,11]) (by kernel_rfl) (by kernel_rfl) (fun _ _ d _ _ h=>by cases d <;> exact h) s.o ?_;simp only[CalmN.fN,CalmN.fo,Az,Am,Ap];repeat (go_big_quiet_step (fail))
     refine Aw ?_;have bl:=aA ((HO.o.below r.o.below (Af _)).drewN 1);have bm:Hid (w.grownBy w2.drew (Value.slice (some ⟨g,o,none⟩) xs.length c).ownBlock):=aA (Gp (aK r.o.below _) 1);clear i0 i1 k0 k1;go_wp2;go_ret
     exact⟨_,rfl,by rw[V.o];exact bl.o,bm.o⟩
    ·have V:=aA (ay.o HL.o he)
     have bo:(∃b,((y.1==x.1)=false/\(y.2==x.2)=b))\/((y.1==x.1)=true/\(y.2==x.2)=false):=by
      by_cases e1:y.1=x.1
      ·refine .inr ⟨by rw[BJ];exact e1,?_⟩;rw[Ba];exact fun e2=>he (Ea e1 e2)
      ·exact .inl ⟨_,by rw[Ba];exact e1,rfl⟩
     clear ay aw ax he;rcases bo with⟨b,az,a0⟩|⟨az,a0⟩
     all_goals
      go_wp2_with fail
      refine CalmN.fk (fun x=>∃z:Calm.On w2.heap.size w2,x=z.1) (.fin [0,1,2,3,4,5,6,7,8,9,10,11]) (by kernel_rfl) (by kernel_rfl) (fun _ _ d _ _ h=>by cases d <;> exact h) s.o ?_;simp only[CalmN.fN,CalmN.fo,Az,Am,Ap];repeat (go_big_quiet_step (fail))
      refine Aw ?_;have D:Hid (bE 60 w #[.int .i64 x.1,.int .i64 x.2] w2.drew):=aA (r.o.drewN 1);clear i0 i1 k0 k1 s r az a0 KK0 KK1;generalize w2.drew=w3 at *;generalize Z:(some (⟨g,o,none⟩:Addr))=AA at *;have a1:=aA Z;clear Z;have bp:Hid (k<=xs.length):=aA hk;have a2:=aA ((au.o.mI ar.o k).below D.o.below (Af _));have ae:=F7 w3 52 zO zN AA c xs.length k hk;have bq:=aA (D.o.alloc (.cells #[] 60));have ae:=F7 (w3.alloc (.cells #[] 60)) 52 zO zN AA c xs.length k hk;have af:=aA (JM (m:=2) (f:=fO) (T:=60) w3);have H:Hid (w.heap.size+1<=w3.heap.size):=aA D.o.size;have a3:=aA (a2.o.alloc (by have:=H.o;omega) (.cells #[] 60));have I:Hid ((xs.drop k).length=xs.length-k):=aA Bl;have J:Hid (xs.length<=100000):=aA ad;go_wp2_with (at_builtin;refine K4 (f:=fO) rfl (.tmp 34) (.tmp 37) _ rfl underlying52 _ 16 xu (by decide) (by decide) (by decide) aI sM w3.heap.size _ [] rfl af.o w.heap.size (xs.length-k) (c-k) _ (xs.drop k) rfl I.o.symm a3.o (by have:=J.o;rw[I.o];simp;omega) (by simp) ?_;intro v6 w6 t ag)
      rw[CS]at t;obtain⟨A6,c6,rfl,_,_,aa⟩:=aJ.form t aI;have ah:Hid (Below w3.heap.size w3 w6):=aA (((AB w3.heap.size w3).alloc (Af _) _).grown ag (by simp) (fun k e=>(Bk af.o k e).1));have u:=aA (D.o.on ah.o);have br:=aA t;have M:=aA ((aJ.rK t));have x0:w6.drew.cell? ⟨w.heap.size,0,none⟩=some (.int .i64 x.1):=u.o.c 0 _ rfl;have x1:w6.drew.cell? ⟨w.heap.size,1,none⟩=some (.int .i64 x.2):=u.o.c 1 _ rfl;have N:=aA (aJ.take (HO.o.below u.o.below (Af _)) aI k hk);have bs:=fun w=>Hw w 52 zO zN AA c xs.length k (Aj hk ar.o);have ai:Hid ((xs.take k).length=k):=aA (by rw[Bd];omega);clear t ag aa ae;go_upto_region 7 with fail
      refine CalmN.fk (fun x=>∃z:jg [] w6,x=z.1) (.one [0,1,2,6] 3 (.one [] 4 (.one [] 5 (.one [] 7 (.fin [8]))))) (by kernel_rfl) (by kernel_rfl) (fun _ _ d _ _ h=>by cases d <;> exact h) ⟨⟨w6.drew,fun _ h=>by cases h⟩,rfl⟩ ?_;simp only[CalmN.fN,CalmN.fv,CalmN.fo,Az,Am,Ap];repeat (go_big_quiet_step (fail))
      refine Aw ?_;have l:Hid (∀y:World,∃z:jg [] w6,y=z.1):=aA (fun y=>⟨⟨y,fun _ h=>by cases h⟩,rfl⟩);have bu:=aA (u.o.drewN 1);have N:Hid (aJ 60 2 fO w6.drew base (.slice AA k c) (xs.take k)):=N;have M:Hid (bP 60 w6.drew w3.heap.size w6.drew.heap.size A6 (xs.drop k)):=M;have aj:Hid (w.grownBy w6.drew (Value.slice AA xs.length c).ownBlock):=aA (Gp (aK u.o.below _) 1);have a4:Hid (w3.heap.size<=w6.drew.heap.size):=aA ah.o.size;generalize w6.drew=w7 at *;have E:Hid (Below w7.heap.size w7 (w7.alloc (.cells #[.int .i64 x.1,.int .i64 x.2] 60))):=aA ((AB _ _).alloc (Af _) _);intro KK i;rw[AC (by rfl)];go_wp2_with fail
      refine i _ _ (l.o _) _ (fun _ h=>h) (l.o _) ?_;clear i;refine Aw ?_;intro KK i;rw[AC (by rfl)];go_wp2_with fail
      refine i _ _ (l.o _) _ (fun _ h=>h) (l.o _) ?_;clear i;refine Aw ?_;intro KK i;rw[AC (by rfl)];have B:=AG w7 (.cells #[.int .i64 x.1,.int .i64 x.2] 60);have ak:(Value.slice AA k c).ownBlock=(Value.slice AA xs.length c).ownBlock:=by cases AA <;> rfl
      refine K6 (f:=fO) (.tmp 41) (.tmp 43) _ rfl underlying52 _ 16 xu (by decide) (by decide) (by decide) aI sM base (.slice AA k c) (xs.take k) rfl (N.o.alloc _) _ _ x rfl (FG x _ _ B) (by have:=J.o;rw[ai.o];omega) (Aj HB.o (Aj aj.o.size E.o.size)) ?_;intro v8 w8 al C n;rw[ak]at C n;have O:=E.o.size;have am:Hid (w.grownBy w8 (Value.slice AA xs.length c).ownBlock):=aA (qO (qO aj.o (aK E.o _)) C);have a5:=aA al
      have ab:Hid (jm 2 fO w8 w8.heap.size A6 (xs.drop k)):=aA (((M.o.uv fun g cur bv ao hc=>by
       refine(C.block g (Ah ao O) (fun e=>?_)).trans ((E.o.block g ao).trans hc)
       have:=bd.o g e.symm
       have:=H.o
       omega).rd).more (Aj O C.size))
      have ac:Hid (∀j,v8.ownBlock=some j->(Value.slice AA xs.length c).ownBlock=some j\/w.heap.size<=j):=aA (fun j e=>by
       rcases n with q|q
       ·exact .inl (q.symm.trans e)
       ·rw[q]at e;injection e with e;exact .inr (by have:=a4.o;have:=H.o;omega))
      have a6:Hid ((xs.take k++[x]).length+(xs.drop k).length<=1000000):=aA (by have:=J.o;rw[AW,ai.o,I.o,BA];omega);have a9:Hid (base<=w8.heap.size):=aA (Aj HB.o am.o.size);clear al C n ak O B x0 x1;refine i _ _ (l.o _) _ (fun _ h=>h) (l.o _) ?_;clear i
      go_frame
      repeat (go_big_quiet_step (fail))
      refine Aw ?_;intro KK i;rw[AC (by rfl)];refine LP (f:=fO) (.tmp 44) (.tmp 45) _ rfl underlying52 _ 16 xu (by decide) (by decide) (by decide) aI sM base v8 (xs.take k++[x]) rfl a5.o w8.heap.size (xs.drop k).length c6 A6 (xs.drop k) rfl rfl ab.o a6.o a9.o ?_;intro v9 w9 ap aq;have ba:=aA ap;have bb:=aA (LG am.o aq ac.o);clear ap aq;refine i _ _ (l.o _) _ (fun _ h=>h) (l.o _) ?_;clear i
      go_frame
      repeat (go_big_quiet_step (fail))
      refine Aw ?_;go_wp2;go_ret
      exact⟨_,rfl,by rw[V.o];exact ba.o,by rw[a1.o];exact bb.o⟩
   ·have HN:=aA (aw.o hl);go_wp2_with fail
    refine i _ _ s.o _ (fun _ h=>h) s.o ?_;clear i;repeat (go_big_quiet_step (fail))
    refine Aw ?_;go_wp2;go_roundw
    case rel=>exact⟨k+1,F,by go_num,HN,r⟩
    case measure=>simp[intOf];omega
  focus
   rw[AI (by exact(fun h=>absurd (show false=true from h) (by decide)))];refine i _ _ U.o _ (fun _ h=>h) U.o ?_;clear i;simp only[Act.put,CA,Cz,CB];repeat (go_big_quiet_step (fail))
   refine Aw ?_;have r:Hid (bE 60 w #[.int .i64 x.1,.int .i64 x.2] wr.drew):=aA (HW.o.drewN 1);clear i0 i1 U;generalize wr.drew=w2 at *;have i0:∀z:Calm.On w2.heap.size w2,z.1.cell? ⟨w.heap.size,0,none⟩=some (.int .i64 x.1):=fun z=>(r.o.on z.2).c 0 _ rfl;have i1:∀z:Calm.On w2.heap.size w2,z.1.cell? ⟨w.heap.size,1,none⟩=some (.int .i64 x.2):=fun z=>(r.o.on z.2).c 1 _ rfl;have s:=aW w2;go_wp2_with fail
   refine CalmN.fk (fun x=>∃z:Calm.On w2.heap.size w2,x=z.1) (.fin [0,1,2,3,4,5,6,7,8,9,10,11]) (by kernel_rfl) (by kernel_rfl) (fun _ _ d _ _ h=>by cases d <;> exact h) s.o ?_;simp only[CalmN.fN,CalmN.fo,Az,Am,Ap];repeat (go_big_quiet_step (fail))
   refine Aw ?_;have D:Hid (bE 60 w #[.int .i64 x.1,.int .i64 x.2] w2.drew):=aA (r.o.drewN 1);clear i0 i1 s r bj bk F;generalize w2.drew=w3 at *;generalize Z:A=AA at *;have a1:=aA Z;clear Z;have bp:Hid (k<=xs.length):=aA hk;have a2:=aA ((au.o.mI ar.o k).below D.o.below (Af _));have ae:=F7 w3 52 zO zN AA c xs.length k hk;have bq:=aA (D.o.alloc (.cells #[] 60));have ae:=F7 (w3.alloc (.cells #[] 60)) 52 zO zN AA c xs.length k hk;have af:=aA (JM (m:=2) (f:=fO) (T:=60) w3);have H:Hid (w.heap.size+1<=w3.heap.size):=aA D.o.size;have a3:=aA (a2.o.alloc (by have:=H.o;omega) (.cells #[] 60));have I:Hid ((xs.drop k).length=xs.length-k):=aA Bl;have J:Hid (xs.length<=100000):=aA ad;go_wp2_with (at_builtin;refine K4 (f:=fO) rfl (.tmp 34) (.tmp 37) _ rfl underlying52 _ 16 xu (by decide) (by decide) (by decide) aI sM w3.heap.size _ [] rfl af.o w.heap.size (xs.length-k) (c-k) _ (xs.drop k) rfl I.o.symm a3.o (by have:=J.o;rw[I.o];simp;omega) (by simp) ?_;intro v6 w6 t ag)
   rw[CS]at t;obtain⟨A6,c6,rfl,_,_,aa⟩:=aJ.form t aI;have ah:Hid (Below w3.heap.size w3 w6):=aA (((AB w3.heap.size w3).alloc (Af _) _).grown ag (by simp) (fun k e=>(Bk af.o k e).1));have u:=aA (D.o.on ah.o);have br:=aA t;have M:=aA ((aJ.rK t));have x0:w6.drew.cell? ⟨w.heap.size,0,none⟩=some (.int .i64 x.1):=u.o.c 0 _ rfl;have x1:w6.drew.cell? ⟨w.heap.size,1,none⟩=some (.int .i64 x.2):=u.o.c 1 _ rfl;have N:=aA (aJ.take (HO.o.below u.o.below (Af _)) aI k hk);have bs:=fun w=>Hw w 52 zO zN AA c xs.length k (Aj hk ar.o);have ai:Hid ((xs.take k).length=k):=aA (by rw[Bd];omega);clear t ag aa ae;go_upto_region 7 with fail
   refine CalmN.fk (fun x=>∃z:jg [] w6,x=z.1) (.one [0,1,2,6] 3 (.one [] 4 (.one [] 5 (.one [] 7 (.fin [8]))))) (by kernel_rfl) (by kernel_rfl) (fun _ _ d _ _ h=>by cases d <;> exact h) ⟨⟨w6.drew,fun _ h=>by cases h⟩,rfl⟩ ?_;simp only[CalmN.fN,CalmN.fv,CalmN.fo,Az,Am,Ap];repeat (go_big_quiet_step (fail))
   refine Aw ?_;have l:Hid (∀y:World,∃z:jg [] w6,y=z.1):=aA (fun y=>⟨⟨y,fun _ h=>by cases h⟩,rfl⟩);have bu:=aA (u.o.drewN 1);have N:Hid (aJ 60 2 fO w6.drew base (.slice AA k c) (xs.take k)):=N;have M:Hid (bP 60 w6.drew w3.heap.size w6.drew.heap.size A6 (xs.drop k)):=M;have aj:Hid (w.grownBy w6.drew (Value.slice AA xs.length c).ownBlock):=aA (Gp (aK u.o.below _) 1);have a4:Hid (w3.heap.size<=w6.drew.heap.size):=aA ah.o.size;generalize w6.drew=w7 at *;have E:Hid (Below w7.heap.size w7 (w7.alloc (.cells #[.int .i64 x.1,.int .i64 x.2] 60))):=aA ((AB _ _).alloc (Af _) _);intro KK i;rw[AC (by rfl)];go_wp2_with fail
   refine i _ _ (l.o _) _ (fun _ h=>h) (l.o _) ?_;clear i;refine Aw ?_;intro KK i;rw[AC (by rfl)];go_wp2_with fail
   refine i _ _ (l.o _) _ (fun _ h=>h) (l.o _) ?_;clear i;refine Aw ?_;intro KK i;rw[AC (by rfl)];have B:=AG w7 (.cells #[.int .i64 x.1,.int .i64 x.2] 60);have ak:(Value.slice AA k c).ownBlock=(Value.slice AA xs.length c).ownBlock:=by cases AA <;> rfl
   refine K6 (f:=fO) (.tmp 41) (.tmp 43) _ rfl underlying52 _ 16 xu (by decide) (by decide) (by decide) aI sM base (.slice AA k c) (xs.take k) rfl (N.o.alloc _) _ _ x rfl (FG x _ _ B) (by have:=J.o;rw[ai.o];omega) (Aj HB.o (Aj aj.o.size E.o.size)) ?_;intro v8 w8 al C n;rw[ak]at C n;have O:=E.o.size;have am:Hid (w.grownBy w8 (Value.slice AA xs.length c).ownBlock):=aA (qO (qO aj.o (aK E.o _)) C);have a5:=aA al
   have ab:Hid (jm 2 fO w8 w8.heap.size A6 (xs.drop k)):=aA (((M.o.uv fun g cur bv ao hc=>by
    refine(C.block g (Ah ao O) (fun e=>?_)).trans ((E.o.block g ao).trans hc)
    have:=bd.o g e.symm
    have:=H.o
    omega).rd).more (Aj O C.size))
   have ac:Hid (∀j,v8.ownBlock=some j->(Value.slice AA xs.length c).ownBlock=some j\/w.heap.size<=j):=aA (fun j e=>by
    rcases n with q|q
    ·exact .inl (q.symm.trans e)
    ·rw[q]at e;injection e with e;exact .inr (by have:=a4.o;have:=H.o;omega))
   have a6:Hid ((xs.take k++[x]).length+(xs.drop k).length<=1000000):=aA (by have:=J.o;rw[AW,ai.o,I.o,BA];omega);have a9:Hid (base<=w8.heap.size):=aA (Aj HB.o am.o.size);clear al C n ak O B x0 x1;refine i _ _ (l.o _) _ (fun _ h=>h) (l.o _) ?_;clear i
   go_frame
   repeat (go_big_quiet_step (fail))
   refine Aw ?_;intro KK i;rw[AC (by rfl)];refine LP (f:=fO) (.tmp 44) (.tmp 45) _ rfl underlying52 _ 16 xu (by decide) (by decide) (by decide) aI sM base v8 (xs.take k++[x]) rfl a5.o w8.heap.size (xs.drop k).length c6 A6 (xs.drop k) rfl rfl ab.o a6.o a9.o ?_;intro v9 w9 ap aq;have ba:=aA ap;have bb:=aA (LG am.o aq ac.o);clear ap aq;refine i _ _ (l.o _) _ (fun _ h=>h) (l.o _) ?_;clear i
   go_frame
   repeat (go_big_quiet_step (fail))
   refine Aw ?_;go_wp2;go_ret
   exact⟨_,rfl,by rw[V.o];exact ba.o,by rw[a1.o];exact bb.o⟩
end Go.Proofs.YtcmhaemaophplaaGreat
