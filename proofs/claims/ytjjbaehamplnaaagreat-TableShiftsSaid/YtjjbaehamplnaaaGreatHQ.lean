/- Part of the proofs over this program: RfWalk, RfOne, RfA, RfPut, RfClos, RfMv2, RfEq, RfBW, RefRed. -/
import Derived.Test.YtjjbaehamplnaaaGreatHM
set_option linter.all false
namespace Go
def EV:=@List.getElem_set_ne
end Go
open Go.RowKit Go.Proofs.Tryz
set_option maxRecDepth 100000
set_option maxHeartbeats 40000000
namespace Go.Proofs.YtjjbaehamplnaaaGreat
variable {A:Option Go.Addr} {G:Gm.Gr} {i k m n:Nat} {j:Int} {v':Go.Value}
theorem O2 (ss:List nY) (A:Option Addr) (c B:Nat) (q:Int) (sy:List Int) (AY:Option Addr) (cY BY:Nat) (w:World) (hr:cB w B A ss) (hB:B<=w.heap.size) (hn:ss.length<=100000) (ah:∀x∈ss,x.2.length<=1000000) (hy:gg w BY AY sy) (ai:BY<=w.heap.size) (a6:sy.length<=100000) :
  Calls prog 24 #[.slice A ss.length c,.int .i64 q,.slice AY sy.length cY] w fun e w'=>e=.returned (.tuple #[.int .i64 ((Au.iE ss q sy).getD 0),.bool (Au.iE ss q sy).isSome])/\β w w':=by
 have a9:(sy.length:Int)<=100000:=ω
 have ba:(ss.length:Int)<=100000:=ω
 have H0:Au.iE ss q (sy.take 0)=if Au.sX ss.length q=true then some q else none:=by rw[D5];exact Au.nf ss q
 have r:Hid (Au.sX ss.length q=false->Au.iE ss q sy=none):=aA (fun e=>by
  rw[e,AJ δ]at H0;have h2:=Au.ql (E:=ss.map (·.2)) (b:=sy.drop 0) (show Au.lZ (ss.map (·.2)) q (sy.take 0)=none from H0);rw[DK]at h2;exact h2)
 by_cases h1:q<0
 ·have HN:=aA (r.o (by unfold Au.sX;rw[AU ω,CZ]));clear hr hy H0 r
  go_enter func24,ntmps24
  go_wp2
  go_ret2
  exact⟨by rw[HN.o];rfl,AB _ _⟩
 ·by_cases h2:(ss.length:Int)<=q
  ·have HN:=aA (r.o (by unfold Au.sX;rw[AU (p:=q<(ss.length:Int)) ω,EN]));clear hr hy H0 r
   go_enter func24,ntmps24
   go_wp2
   go_ret2
   exact⟨by rw[HN.o];rfl,AB _ _⟩
  ·have aq:Hid (Au.iE ss q (sy.take 0)=some q):=aA (by rw[H0,Az (Au.mg.2 ⟨ω,ω⟩)]);have HR:=aA hr;have HB:=aA hB;have HY:=aA hy;have ar:=aA ai;have au:=aA ah;obtain⟨m0,ac⟩:∃m:Nat,q=(m:Int):=⟨q.toNat,ω⟩
   subst ac;have ac:m0<ss.length:=ω
   clear hr hB hy ai ah H0 r
   go_enter func24,ntmps24
   go_wp2;go_loopw [1,8] (fun va vi wr=>∃(i m:Nat),i<=sy.length/\m<ss.length/\va=.int .i64 m/\vi=.int .i64 i/\Hid (Au.iE ss (m0:Int) (sy.take i)=some (m:Int))/\Hid (β w wr)) (fun _ vi _=>sy.length-(intOf vi).toNat)
   case atStart=>exact⟨0,m0,Bb _,ac,rfl,rfl,aq,aA (AB _ _)⟩
   case round =>
    obtain⟨i,m,hi,hm,rfl,rfl,HQ,HW⟩:=hrel;by_cases ab:i<sy.length
    ·obtain⟨gy,oy,rfl,av,aj⟩:=HY.o ω;have KY:=aA (fun(y:World) (h:β w y)=>(h.cell (p:=⟨gy,oy+i,none⟩) (Aj av ar.o)).trans (aj i ab));rw[L.fy ab]at KY;obtain⟨g,o,rfl,aw,hc⟩:=HR.o ω;obtain⟨A2,c2,a2,_,_,r2⟩:=(hc m hm).2;have KA:=aA (fun(y:World) (h:β w y)=>(h.cell (p:=⟨g,o+m*2+1,none⟩) (Aj aw HB.o)).trans a2);have ax:=aA r2
     have ak:Hid (Au.iE ss (m0:Int) (sy.take (i+1))=Au.iE ss (Au.lead (ss[m]).2 sy[i]) []):=aA (by
      rw[AP ab,Au.tu,HQ.o,Option.bind_some,show((m:Int)).toNat=m by omega,Aw,BO,AH hm];rfl)
     have aa:Hid (Au.sX ss.length (Au.lead (ss[m]).2 sy[i])=false->Au.iE ss (m0:Int) sy=none):=aA (fun e=>by
      have h1:=ak.o;rw[Au.nf,e,AJ δ]at h1;have h2:=Au.ql (E:=ss.map (·.2)) (b:=sy.drop (i+1)) (show Au.lZ (ss.map (·.2)) (m0:Int) (sy.take (i+1))=none from h1);rw[DK]at h2;exact h2)
     have ay:=aA (Au.nf ss (Au.lead (ss[m]).2 sy[i]));have az:=aA (au.o _ (AD hm));have bb:(m:Int)<(ss.length:Int):=ω
     have bc:(i:Int)<(sy.length:Int):=ω
     clear aj hc a2 r2;generalize (ss[m]).2=l at *;generalize sy[i]=s at *;have bd:(l.length:Int)<=1000000:=by have:=az.o;omega
     go_wp2;go_loopw [9,10,11] (fun vt vo vk wy=>∃(k:Nat) (z:Int) (b:Bool),k<=l.length/\vt=.int .i64 z/\vo=.bool b/\vk=.int .i64 k/\Hid (b=false->z = -1/\∀j (h:j<l.length),j<k->(l[j]).1≠s)/\Hid (b=true->z=Au.lead l s)/\Hid (β w wy)) (fun _ _ vk _=>l.length-(intOf vk).toNat)
     case atStart=>exact⟨0,-1,false,Bb _,rfl,rfl,rfl,aA (fun _=>⟨rfl,fun _ _ h=>absurd h (Dj _)⟩),aA (fun h=>by cases h),HW⟩
     case round =>
      obtain⟨k,z,b,hk,rfl,rfl,rfl,HF,HT,f⟩:=hrel;rename World=>wy;have k2:=KA.o wy f.o;cases b
      ·by_cases n:k<l.length
       ·obtain⟨ge,oe,rfl,al,ad⟩:=ax.o ω;have bf:(k:Int)<(l.length:Int):=ω
        have qa:∀z:Calm.On wy.heap.size wy,z.1.cell? ⟨g,o+m*2+1,none⟩=some (.slice (some ⟨ge,oe,none⟩) l.length c2):=fun z=>KA.o z.1 (f.o.trans (z.2.mono f.o.size));have qs:∀z:Calm.On wy.heap.size wy,z.1.cell? ⟨gy,oy+i,none⟩=some (.int .i64 s):=fun z=>KY.o z.1 (f.o.trans (z.2.mono f.o.size));have q0:∀z:Calm.On wy.heap.size wy,z.1.cell? ⟨ge,oe+k*2,none⟩=some (.int .i64 (l[k]).1):=fun z=>((f.o.trans (z.2.mono f.o.size)).cell (p:=⟨ge,oe+k*2,none⟩) (Aj al HB.o)).trans (ad k n 0 _ rfl);have k1:wy.drew.cell? ⟨ge,oe+k*2+1,none⟩=some (.int .i64 (l[k]).2):=(f.o.cell (p:=⟨ge,oe+k*2+1,none⟩) (Aj al HB.o)).trans (ad k n 1 _ rfl);have am:=rM wy;have ao:Hid (β w wy.drew):=aA (aB f.o 1);have k2d:wy.drew.cell? ⟨g,o+m*2+1,none⟩=some (.slice (some ⟨ge,oe,none⟩) l.length c2):=k2;have ae:Hid ((l[k]).1=s->(l[k]).2=Au.lead l s):=aA (fun e=>(Au.sq ⟨⟨n,e⟩,fun j hj a0=>(HF.o rfl).2 j hj a0⟩ n).symm)
        have af:Hid ((l[k]).1≠s->∀j (h:j<l.length),j<k+1->(l[j]).1≠s):=aA (fun e j h h2=>by
         rcases BM j k with h3|h3
         ·exact(HF.o rfl).2 j h h3
         ·obtain rfl:j=k:=ω
          exact e)
        have a1:=aA (HF.o rfl).1;clear ad;generalize l[k]=y at *;by_cases he:y.1=s
        ·have HX:=aA (ae.o he);have hq:(y.1==s)=true:=by rw[BP];exact he
         clear ae af he;go_wp2_with fail
         refine CalmN.fk (γ wy) (.fin [0,1,2,3,4,5,6,7,8,9,10,11,12,13]) am.o ?_;simp only[CalmN.fS,CalmN.fo,Aq,Ai,Am];repeat (go_big_quiet_step (fail))
         refine Ap ?_;clear qa qs q0 k2;go_wp2;go_roundw
         case rel=>exact⟨k+1,y.2,true,n,rfl,rfl,ν,aA (fun h=>by cases h),aA (fun _=>HX.o),ao⟩
         case measure=>simp[intOf];omega
        ·have HX:=aA (af.o he);have hq:(y.1==s)=false:=by rw[Bc];exact he
         clear ae af he;go_wp2_with fail
         refine CalmN.fk (γ wy) (.fin [0,1,2,3,4,5,6,7,8,9,10,11,12,13]) am.o ?_;simp only[CalmN.fS,CalmN.fo,Aq,Ai,Am];repeat (go_big_quiet_step (fail))
         refine Ap ?_;clear qa qs q0 k2 k1 k2d;go_wp2;go_roundw
         case rel=>exact⟨k+1,z,false,n,rfl,rfl,ν,aA (fun _=>⟨a1.o,HX.o⟩),aA (fun h=>by cases h),ao⟩
         case measure=>simp[intOf];omega
       ·have a3:Hid (Au.lead l s = -1):=aA (Au.xt fun x hx=>by
         obtain⟨j,hj,rfl⟩:=BG hx;exact(HF.o rfl).2 j hj ω)
        have hz:=(HF.o rfl).1;subst hz;have HN:=aA (aa.o (by rw[a3.o];unfold Au.sX;rw[AU ω,CZ]));clear HF HT;go_wp2
        go_ret2
        exact⟨by rw[HN.o];rfl,f.o⟩
      ·have hz:=HT.o rfl;have ag:=aA hz;clear hz HF HT;by_cases n:(k:Int)<(l.length:Int)
       all_goals
        by_cases h5:z<0
        ·have HN:=aA (aa.o (by rw[<-ag.o];unfold Au.sX;rw[AU ω,CZ]));go_wp2
         go_ret2
         exact⟨by rw[HN.o];rfl,f.o⟩
        ·by_cases h6:(ss.length:Int)<=z
         ·have HN:=aA (aa.o (by rw[<-ag.o];unfold Au.sX;rw[AU (p:=z<(ss.length:Int)) ω,EN]));go_wp2
          go_ret2
          exact⟨by rw[HN.o];rfl,f.o⟩
         ·obtain⟨m2,ap⟩:∃m2:Nat,z=(m2:Int):=⟨z.toNat,ω⟩
          have a4:m2<ss.length:=ω
          have a5:Hid (Au.iE ss (m0:Int) (sy.take (i+1))=some (m2:Int)):=aA (by
           rw[ak.o,ay.o,<-ag.o,ap,Az (Au.mg.2 ⟨ω,ω⟩)])
          subst ap;go_wp2;go_roundw
          case rel=>exact⟨i+1,m2,ab,a4,rfl,ν,a5,f⟩
          case measure=>simp[intOf];omega
    ·obtain rfl:i=sy.length:=ω
     rw[Bp]at HQ;go_wp2
     go_ret2
     exact⟨by rw[HQ.o];rfl,HW.o⟩
theorem KW (ss:List nY) (A:Option Addr) (c B:Nat) (q s:Int) (x:World) (hr:cB x B A ss) (hB:B<=x.heap.size) (hn:ss.length<=100000) (aa:∀x∈ss,x.2.length<=1000000) :
  Calls prog 24 #[.slice A ss.length c,.int .i64 q,.slice (some ⟨x.heap.size,0,none⟩) 1 1] (x.alloc (.cells #[.int .i64 s] 3)) fun e w'=>e=.returned (.tuple #[.int .i64 ((Au.iE ss q [s]).getD 0),.bool (Au.iE ss q [s]).isSome])/\β x w':=by
 have hb:Below x.heap.size x (x.alloc (vJ [s])):=(AB _ _).alloc (Af _) _;exact(O2 ss A c B q [s] (some ⟨x.heap.size,0,none⟩) 1 (x.alloc (vJ [s])).heap.size (x.alloc (vJ [s])) (hr.below hb hB) (Ah hB hb.size) hn aa (FO x [s]).1 (Af _) σ).mono fun e w' k=>⟨k.1,hb.trans (k.2.mono hb.size)⟩
def JI (L:List Int) (w:World) (e:Ending) (w':World):Prop:=∃A c,e=.returned (.slice A L.length c)/\L.length<=c/\c<=9223372036854775807/\gg w' w'.heap.size A L/\β w w'
theorem Oz (v:Value) (G:Gm.Gr) (B:Nat) (r:Int) (w:World) (hg:aT w B v G) (hf:Gm.Fit G) (hB:B<=w.heap.size) (hr:Au.tc G r=true) :
  Calls prog 117 #[v,.int .i64 r] w (JI (Au.sy G r) w):=by
 have hr:=Au.lB.1 hr;have aa:=hf.s;unfold Gm.In at aa;obtain⟨AT,cT,AN,cN,AR,cR,rfl,⟨ah,ai⟩,⟨aj,ak⟩,⟨al,am⟩,_,_,hR⟩:=hg;have b:=aA (aZ.start 26 w #[.slice AT G.ts.length cT,.slice AN G.ns.length cN,.slice AR G.rs.length cR,.int .i64 G.st]);have x2:=b.o.c 2 _ rfl;have x3:=b.o.c 3 _ rfl;unfold JI;by_cases h1:r = -1
 ·subst h1;have e:Au.sy G (-1)=[-1-G.st]:=rfl;have hw:IntKind.i64.wrap (-1-G.st) = -1-G.st:=BV _ ω;have HL:=aA (FO (w.alloc (.cells #[.slice AT G.ts.length cT,.slice AN G.ns.length cN,.slice AR G.rs.length cR,.int .i64 G.st] 26)) [-1-G.st]);rw[e];clear hr hR e hf aa
  go_enter func117,ntmps117
  go_wp2;go_ret
  exact⟨_,_,rfl,σ,σ,by simpa[vJ] using HL.o.1,b.o.below.trans (HL.o.2.mono σ)⟩
 ·obtain⟨k,rfl⟩:∃k:Nat,r=(k:Int):=⟨r.toNat,ω⟩
  have ab:k<G.rs.length:=ω
  obtain⟨g,o,rfl,ad,hc⟩:=hR ω;obtain⟨A',c',k1,ae,af,ac⟩:=(hc k ab).2.1;have k1:=(b.o.below.cell (p:=⟨g,o+k*3+1,none⟩) (Aj ad hB)).trans k1;have ag:=aA ((ac.below b.o.below hB).more (B':=w.heap.size+1) ω);have h2:((k:Int) == -1)=false:=by rw[Bc];omega
  have h3:(k:Int)<(G.rs.length:Int):=ω
  rw[Au.vB ab];clear hc ac hR hr h1 hf aa;generalize (G.rs[k]).r=L at *
  go_enter func117,ntmps117
  go_wp2;go_ret
  exact⟨_,_,rfl,ae,af,by simpa using ag.o,b.o.below⟩
theorem KX (v:Value) (G:Gm.Gr) (B:Nat) (x:Au.It) (w:World) (hg:aT w B v G) (hf:Gm.Fit G) (hB:B<=w.heap.size) (hx:Au.ir G x=true) :
  Calls prog 80 #[v,lV x] w fun e w'=>e=.returned (.tuple #[.int .i64 ((Au.nx G x).getD 0),.bool (Au.nx G x).isSome])/\β w w':=by
 have hi:=Au.gj.1 hx;have HR:=aA (fun y (h:β w y)=>Oz v G B x.1 y (hg.below h hB) hf (Ah hB h.size) (Au.lB.2 hi.1));unfold JI at HR;have HI:=aA (Au.pX (G:=G) (x:=x) hi.2.1);have HO:=aA (fun(h:x.2=(Au.sy G x.1).length)=>show Au.nx G x=none from Ch ω);obtain⟨AT,cT,AN,cN,AR,cR,rfl,_⟩:=hg;have b:=aA (bA.start 26 61 w #[.slice AT G.ts.length cT,.slice AN G.ns.length cN,.slice AR G.rs.length cR,.int .i64 G.st] #[.int .i64 x.1,.int .i64 x.2]);have g0:=b.o.c1 0 _ rfl;have g1:=b.o.c1 1 _ rfl;have g2:=b.o.c1 2 _ rfl;have g3:=b.o.c1 3 _ rfl;have i0:=b.o.c2 0 _ rfl;have i1:=b.o.c2 1 _ rfl;have h0:=hi.2.1;have h2:=hi.2.2;clear hf hx hi;generalize Au.nx G x=q at *;generalize Au.sy G x.1=L at *
 go_enter func80,ntmps80
 go_wp2_with fail
 refine(HR.o _ b.o.below).mono ?_;rintro _ w2 ⟨A,c,rfl,hl,hm,aa,hb⟩;have HB:=aA (b.o.on hb);have j1:=HB.o.c2 1 _ rfl;clear hb g0 g1 g2 g3 i0 i1;by_cases h1:x.2=(L.length:Int)
 ·have HQ:=aA (HO.o h1);have he:(x.2==(L.length:Int))=true:=by rw[BP];exact h1
  clear HO HI aa h0 h2 h1;go_wp2
  go_ret2
  exact⟨by rw[HQ.o];rfl,HB.o.below⟩
 ·have HQ:=HI.o ω;obtain⟨g,o,rfl,ad,hc⟩:=aa ω;obtain⟨k,hk⟩:∃k:Nat,x.2=(k:Int):=⟨x.2.toNat,ω⟩
  rw[hk]at j1 h0 h1 h2 HQ;have ab:k<L.length:=ω
  have k0:=hc k ab;rw[show((k:Int)).toNat=k by omega]at HQ;generalize L.getD k 0=z at *;have HQ:=aA HQ;have he:((k:Int)==(L.length:Int))=false:=by rw[Bc];exact h1
  clear HO HI hc hk h0 h1 h2;have ac:(k:Int)<(L.length:Int):=ω
  go_wp2
  go_ret2
  exact⟨by rw[HQ.o];rfl,HB.o.below⟩
theorem QU (x y:Au.It) (w:World) :
  Calls prog 116 #[lV x,lV y] w fun e w'=>e=.returned (.bool (Au.lt x y))/\β w w':=by
 have d:=aA (bA.start 61 61 w #[.int .i64 x.1,.int .i64 x.2] #[.int .i64 y.1,.int .i64 y.2]);have g0:=d.o.c1 0 _ rfl;have g1:=d.o.c1 1 _ rfl;have i0:=d.o.c2 0 _ rfl;have i1:=d.o.c2 1 _ rfl;obtain⟨b,hb⟩:∃b,b=Au.lt x y:=⟨_,rfl⟩
 rw[<-hb];unfold Au.lt at hb;by_cases h1:x.1<y.1
 ·rw[AV h1,DQ]at hb;subst hb
  go_enter func116,ntmps116
  go_wp2;go_ret
  exact⟨rfl,d.o.below⟩
 ·rw[AU h1,Ff]at hb;by_cases h2:x.1=y.1
  ·rw[AV h2,Cw]at hb;have he:(x.1==y.1)=true:=by rw[BP];exact h2
   by_cases h3:x.2<y.2
   ·rw[AV h3]at hb;subst hb;clear h2
    go_enter func116,ntmps116
    go_wp2;go_ret
    exact⟨rfl,d.o.below⟩
   ·rw[AU h3]at hb;subst hb;clear h2;have HF:=aA (AU h3)
    go_enter func116,ntmps116
    go_wp2;go_ret
    exact⟨aD (by first|rfl|exact HF.o),d.o.below⟩
  ·rw[AU h2,CZ]at hb;have he:(x.1==y.1)=false:=by rw[Bc];exact h2
   subst hb;clear h2
   go_enter func116,ntmps116
   go_wp2;go_ret
   exact⟨rfl,d.o.below⟩
theorem MK {a b c:World} {row bB:Option Nat} (h:a.grownBy b row) (k:b.grownBy c bB) (hr:∀j,bB=some j->row=some j\/a.heap.size<=j):a.grownBy c row :=
 ⟨k.os.trans h.os,k.tape.trans h.tape,k.output.trans h.output,Ah h.size k.size,fun i hi aa=>(k.block i (Aj hi h.size) (fun e=>by
  rcases hr i e.symm with q|q
  ·exact aa q.symm
  ·omega)).trans (h.block i hi aa)⟩
theorem FB (w:World):(sizeOf (prog.elem 56)).run prog w=.ok 2 w:=κ
theorem FE:prog.underlying 56=some (.slice (prog.elem 56)):=κ
theorem JB (w:World) (base:Nat) (v:Value) (xs:List Au.It) (x:Au.It) (ho:aK 61 2 fM w base v xs) (hB:base<=w.heap.size) (ad:xs.length<=100000) :
  Calls prog 79 #[v,lV x] w fun e w'=>∃v',e=.returned v'/\aK 61 2 fM w' base v' (Au.put xs x)/\w.grownBy w' v.ownBlock:=by
 obtain⟨A,c,rfl,bg,bv,bc⟩:=aK.form ho aG;have HO:=aA ho;have au:=aA bc;have HB:=aA hB;have ar:=aA bg;have bd:=aA (fun k (e:(Value.slice A xs.length c).ownBlock=some k)=>(Br ho k e).2);obtain⟨wb,av⟩:∃z,z=w.alloc (.cells #[.int .i64 x.1,.int .i64 x.2] 61):=⟨_,rfl⟩
 have HT:Hid (aZ 61 w #[.int .i64 x.1,.int .i64 x.2] wb):=aA (by rw[av];exact aZ.start _ _ _);have bw:(xs.length:Int)<=100000:=ω
 have bh:=aA (fun(a:Au.It) (y:World)=>QU a x y);clear ho bc hB
 go_enter func79,ntmps79
 go_upto_region 1 with fail
 rw[<-av];clear av;go_wp2;go_loopw [5] (fun vi wr=>∃k:Nat,k<=xs.length/\vi=.int .i64 k/\Hid (∀j (_:j<k) (h:j<xs.length),Au.lt xs[j] x=true)/\Hid (aZ 61 w #[.int .i64 x.1,.int .i64 x.2] wr)) (fun vi _=>xs.length-(intOf vi).toNat)
 case atStart=>exact⟨0,Bb _,rfl,aA (fun j h=>absurd h (Dj _)),HT⟩
 case round =>
  obtain⟨k,hk,rfl,HK,HW⟩:=hrel;have i0:∀z:Calm.On wr.heap.size wr,z.1.cell? ⟨w.heap.size,0,none⟩=some (.int .i64 x.1):=fun z=>(HW.o.on z.2).c 0 _ rfl;have i1:∀z:Calm.On wr.heap.size wr,z.1.cell? ⟨w.heap.size,1,none⟩=some (.int .i64 x.2):=fun z=>(HW.o.on z.2).c 1 _ rfl;have U:=rM wr;by_cases F:k<xs.length
  focus
   obtain⟨g,o,rfl,bf,hc⟩:=au.o ω;have bi:(k:Int)<(xs.length:Int):=ω
   have kk0:∀y:World,β w y->y.cell? ⟨g,o+k*2,none⟩=some (.int .i64 (xs[k]).1):=fun y h=>(h.cell (p:=⟨g,o+k*2,none⟩) bf).trans (hc k F 0 _ rfl);have kk1:∀y:World,β w y->y.cell? ⟨g,o+k*2+1,none⟩=some (.int .i64 (xs[k]).2):=fun y h=>(h.cell (p:=⟨g,o+k*2+1,none⟩) bf).trans (hc k F 1 _ rfl);have k0:∀z:Calm.On wr.heap.size wr,z.1.cell? ⟨g,o+k*2,none⟩=some (.int .i64 (xs[k]).1):=fun z=>kk0 z.1 (HW.o.on z.2).below;have k1:∀z:Calm.On wr.heap.size wr,z.1.cell? ⟨g,o+k*2+1,none⟩=some (.int .i64 (xs[k]).2):=fun z=>kk1 z.1 (HW.o.on z.2).below;have KK0:=aA kk0;have KK1:=aA kk1
   have aw:Hid (Au.lt xs[k] x=true->∀j (_:j<k+1) (h:j<xs.length),Au.lt xs[j] x=true):=aA (fun h1 j hj h=>by
    rcases BM j k with h3|h3
    ·exact HK.o j h3 h
    ·obtain rfl:j=k:=ω
     exact h1)
   have ax:Hid (xs[k]=x->Au.put xs x=xs):=aA (fun e=>Au.nI F HK.o e);have ay:Hid (Au.lt xs[k] x=false->xs[k]≠x->Au.put xs x=xs.take k++[x]++xs.drop k):=aA (fun e1 e2=>Au.p6 hk HK.o (fun _=>⟨e1,e2⟩));clear hc kk0 kk1;generalize xs[k]=y at *
  rotate_left
  focus
   have V:Hid (Au.put xs x=xs.take k++[x]++xs.drop k):=aA (Au.p6 hk HK.o (fun h=>absurd h F));have bj:¬((k:Int)<(xs.length:Int)):=ω
   have bk:decide (k<xs.length)=false:=AU F
  rotate_left
  all_goals
   go_wp2_with fail
   refine CalmN.fk (γ wr) (.one [0,1,2,3,4,5,6,7,8,9] 10 (.fin [11])) U.o ?_;simp only[CalmN.fS,CalmN.fu,CalmN.fo,Aq,Ai,Am];repeat (go_big_quiet_step (fail))
   refine Ap ?_;intro KK i
  focus
   rw[Az ε];go_wp2_with fail
   refine(bh.o y _).mono ?_;rintro _ w2 ⟨rfl,X⟩;have X:β wr w2:=(aB (AB _ wr) 1).trans X;have s:=yM X;have r:=aA (HW.o.on X);clear X i0 i1 k0 k1;cases hl:Au.lt y x
   ·have HL:=aA hl;clear hl;go_wp2_with fail
    refine i _ _ s.o _ ι s.o ?_;clear i;repeat (go_big_quiet_step (fail))
    refine Ap ?_;clear U s;have i0:∀z:Calm.On w2.heap.size w2,z.1.cell? ⟨w.heap.size,0,none⟩=some (.int .i64 x.1):=fun z=>(r.o.on z.2).c 0 _ rfl;have i1:∀z:Calm.On w2.heap.size w2,z.1.cell? ⟨w.heap.size,1,none⟩=some (.int .i64 x.2):=fun z=>(r.o.on z.2).c 1 _ rfl;have k0:∀z:Calm.On w2.heap.size w2,z.1.cell? ⟨g,o+k*2,none⟩=some (.int .i64 y.1):=fun z=>KK0.o z.1 (r.o.on z.2).below;have k1:∀z:Calm.On w2.heap.size w2,z.1.cell? ⟨g,o+k*2+1,none⟩=some (.int .i64 y.2):=fun z=>KK1.o z.1 (r.o.on z.2).below;have s:=rM w2;by_cases he:y=x
    ·subst he;have V:=aA (ax.o rfl);have az:(y.1==y.1)=true:=σ
     have a0:(y.2==y.2)=true:=σ
     clear ay aw ax;go_wp2_with fail
     refine CalmN.fk (γ w2) (.fin [0,1,2,3,4,5,6,7,8,9,10,11]) s.o ?_;simp only[CalmN.fS,CalmN.fo,Aq,Ai,Am];repeat (go_big_quiet_step (fail))
     refine Ap ?_;have bl:=aA ((HO.o.below r.o.below (Af _)).drewN 1);have bm:Hid (w.grownBy w2.drew (Value.slice (some ⟨g,o,none⟩) xs.length c).ownBlock):=aA (Ig (aL r.o.below _) 1);clear i0 i1 k0 k1;go_wp2;go_ret
     exact⟨_,rfl,by rw[V.o];exact bl.o,bm.o⟩
    ·have V:=aA (ay.o HL.o he)
     have bn:(∃b,((y.1==x.1)=false/\(y.2==x.2)=b))\/((y.1==x.1)=true/\(y.2==x.2)=false):=by
      by_cases e1:y.1=x.1
      ·refine .inr ⟨by rw[BP];exact e1,?_⟩;rw[Bc];exact fun e2=>he (EA e1 e2)
      ·exact .inl ⟨_,by rw[Bc];exact e1,rfl⟩
     clear ay aw ax he;rcases bn with⟨b,az,a0⟩|⟨az,a0⟩
     all_goals
      go_wp2_with fail
      refine CalmN.fk (γ w2) (.fin [0,1,2,3,4,5,6,7,8,9,10,11]) s.o ?_;simp only[CalmN.fS,CalmN.fo,Aq,Ai,Am];repeat (go_big_quiet_step (fail))
      refine Ap ?_;have D:Hid (aZ 61 w #[.int .i64 x.1,.int .i64 x.2] w2.drew):=aA (r.o.drewN 1);clear i0 i1 k0 k1 s r az a0 KK0 KK1;generalize w2.drew=w3 at *;generalize Z:(some (⟨g,o,none⟩:Addr))=AA at *;have a1:=aA Z;clear Z;have bo:Hid (k<=xs.length):=aA hk;have a2:=aA ((au.o.mD ar.o k).below D.o.below (Af _));have ae:=Hl w3 56 FE FB AA c xs.length k hk;have bp:=aA (D.o.alloc (.cells #[] 61));have ae:=Hl (w3.alloc (.cells #[] 61)) 56 FE FB AA c xs.length k hk;have af:=aA (K1 (m:=2) (f:=fM) (T:=61) w3);have H:Hid (w.heap.size+1<=w3.heap.size):=aA D.o.size;have a3:=aA (a2.o.alloc (by have:=H.o;omega) (.cells #[] 61));have I:Hid ((xs.drop k).length=xs.length-k):=aA Bt;have J:Hid (xs.length<=100000):=aA ad;go_wp2_with (at_builtin;refine LU (f:=fM) rfl (.tmp 34) (.tmp 37) _ rfl underlying56 _ 16 yH δ δ δ aG tA w3.heap.size _ [] rfl af.o w.heap.size (xs.length-k) (c-k) _ (xs.drop k) rfl I.o.symm a3.o (by have:=J.o;rw[I.o];simp;omega) σ ?_;intro v6 w6 t ag)
      rw[CS]at t;obtain⟨A6,c6,rfl,_,_,aa⟩:=aK.form t aG;have ah:Hid (β w3 w6):=aA (((AB w3.heap.size w3).alloc (Af _) _).grown ag σ (fun k e=>(Br af.o k e).1));have u:=aA (D.o.on ah.o);have bq:=aA t;have M:=aA ((aK.jK t));have x0:w6.drew.cell? ⟨w.heap.size,0,none⟩=some (.int .i64 x.1):=u.o.c 0 _ rfl;have x1:w6.drew.cell? ⟨w.heap.size,1,none⟩=some (.int .i64 x.2):=u.o.c 1 _ rfl;have N:=aA (aK.take (HO.o.below u.o.below (Af _)) aG k hk);have br:=fun w=>Jm w 56 FE FB AA c xs.length k (Ah hk ar.o);have ai:Hid ((xs.take k).length=k):=aA (by rw[Bm];omega);clear t ag aa ae;go_upto_region 7 with fail
      refine CalmN.fk (fun x=>∃z:iR [] w6,x=z.1) (.one [0,1,2,6] 3 (.one [] 4 (.one [] 5 (.one [] 7 (.fin [8]))))) ⟨⟨w6.drew,fun _ h=>by cases h⟩,rfl⟩ ?_;simp only[CalmN.fS,CalmN.fu,CalmN.fo,Aq,Ai,Am];repeat (go_big_quiet_step (fail))
      refine Ap ?_;have l:Hid (∀y:World,∃z:iR [] w6,y=z.1):=aA (fun y=>⟨⟨y,fun _ h=>by cases h⟩,rfl⟩);have bs:=aA (u.o.drewN 1);have N:Hid (aK 61 2 fM w6.drew base (.slice AA k c) (xs.take k)):=N;have M:Hid (bR 61 w6.drew w3.heap.size w6.drew.heap.size A6 (xs.drop k)):=M;have aj:Hid (w.grownBy w6.drew (Value.slice AA xs.length c).ownBlock):=aA (Ig (aL u.o.below _) 1);have a4:Hid (w3.heap.size<=w6.drew.heap.size):=aA ah.o.size;generalize w6.drew=w7 at *;have E:Hid (Below w7.heap.size w7 (w7.alloc (.cells #[.int .i64 x.1,.int .i64 x.2] 61))):=aA ((AB _ _).alloc (Af _) _);intro KK i;rw[Az ε];go_wp2_with fail
      refine i _ _ (l.o _) _ ι (l.o _) ?_;clear i;refine Ap ?_;intro KK i;rw[Az ε];go_wp2_with fail
      refine i _ _ (l.o _) _ ι (l.o _) ?_;clear i;refine Ap ?_;intro KK i;rw[Az ε];have B:=AI w7 (.cells #[.int .i64 x.1,.int .i64 x.2] 61);have ak:(Value.slice AA k c).ownBlock=(Value.slice AA xs.length c).ownBlock:=by cases AA <;> rfl
      refine LW (f:=fM) (.tmp 41) (.tmp 43) _ rfl underlying56 _ 16 yH δ δ δ aG tA base (.slice AA k c) (xs.take k) rfl (N.o.alloc _) _ _ x rfl (Hx x _ _ B) (by have:=J.o;rw[ai.o];omega) (Ah HB.o (Ah aj.o.size E.o.size)) ?_;intro v8 w8 al C n;rw[ak]at C n;have O:=E.o.size;have am:Hid (w.grownBy w8 (Value.slice AA xs.length c).ownBlock):=aA (qI (qI aj.o (aL E.o _)) C);have a5:=aA al
      have ab:Hid (iC 2 fM w8 w8.heap.size A6 (xs.drop k)):=aA (((M.o.ux fun g cur bu ao hc=>by
       refine(C.block g (Aj ao O) (fun e=>?_)).trans ((E.o.block g ao).trans hc)
       have:=bd.o g e.symm
       have:=H.o
       omega).rd).more (Ah O C.size))
      have ac:Hid (∀j,v8.ownBlock=some j->(Value.slice AA xs.length c).ownBlock=some j\/w.heap.size<=j):=aA (fun j e=>by
       rcases n with q|q
       ·exact .inl (q.symm.trans e)
       ·rw[q]at e;injection e with e;exact .inr (by have:=a4.o;have:=H.o;omega))
      have a6:Hid ((xs.take k++[x]).length+(xs.drop k).length<=1000000):=aA (by have:=J.o;rw[AZ,ai.o,I.o,BC];omega);have a9:Hid (base<=w8.heap.size):=aA (Ah HB.o am.o.size);clear al C n ak O B x0 x1;refine i _ _ (l.o _) _ ι (l.o _) ?_;clear i
      go_frame
      repeat (go_big_quiet_step (fail))
      refine Ap ?_;intro KK i;rw[Az ε];refine M4 (f:=fM) (.tmp 44) (.tmp 45) _ rfl underlying56 _ 16 yH δ δ δ aG tA base v8 (xs.take k++[x]) rfl a5.o w8.heap.size (xs.drop k).length c6 A6 (xs.drop k) rfl rfl ab.o a6.o a9.o ?_;intro v9 w9 ap aq;have ba:=aA ap;have bb:=aA (MK am.o aq ac.o);clear ap aq;refine i _ _ (l.o _) _ ι (l.o _) ?_;clear i
      go_frame
      repeat (go_big_quiet_step (fail))
      refine Ap ?_;go_wp2;go_ret
      exact⟨_,rfl,by rw[V.o];exact ba.o,by rw[a1.o];exact bb.o⟩
   ·have HN:=aA (aw.o hl);go_wp2_with fail
    refine i _ _ s.o _ ι s.o ?_;clear i;repeat (go_big_quiet_step (fail))
    refine Ap ?_;go_wp2;go_roundw
    case rel=>exact⟨k+1,F,ν,HN,r⟩
    case measure=>simp[intOf];omega
  focus
   rw[AJ (by exact(fun h=>absurd (show false=true from h) δ))];refine i _ _ U.o _ ι U.o ?_;clear i;simp only[Act.put,D7,DM,DN];repeat (go_big_quiet_step (fail))
   refine Ap ?_;have r:Hid (aZ 61 w #[.int .i64 x.1,.int .i64 x.2] wr.drew):=aA (HW.o.drewN 1);clear i0 i1 U;generalize wr.drew=w2 at *;have i0:∀z:Calm.On w2.heap.size w2,z.1.cell? ⟨w.heap.size,0,none⟩=some (.int .i64 x.1):=fun z=>(r.o.on z.2).c 0 _ rfl;have i1:∀z:Calm.On w2.heap.size w2,z.1.cell? ⟨w.heap.size,1,none⟩=some (.int .i64 x.2):=fun z=>(r.o.on z.2).c 1 _ rfl;have s:=rM w2;go_wp2_with fail
   refine CalmN.fk (γ w2) (.fin [0,1,2,3,4,5,6,7,8,9,10,11]) s.o ?_;simp only[CalmN.fS,CalmN.fo,Aq,Ai,Am];repeat (go_big_quiet_step (fail))
   refine Ap ?_;have D:Hid (aZ 61 w #[.int .i64 x.1,.int .i64 x.2] w2.drew):=aA (r.o.drewN 1);clear i0 i1 s r bj bk F;generalize w2.drew=w3 at *;generalize Z:A=AA at *;have a1:=aA Z;clear Z;have bo:Hid (k<=xs.length):=aA hk;have a2:=aA ((au.o.mD ar.o k).below D.o.below (Af _));have ae:=Hl w3 56 FE FB AA c xs.length k hk;have bp:=aA (D.o.alloc (.cells #[] 61));have ae:=Hl (w3.alloc (.cells #[] 61)) 56 FE FB AA c xs.length k hk;have af:=aA (K1 (m:=2) (f:=fM) (T:=61) w3);have H:Hid (w.heap.size+1<=w3.heap.size):=aA D.o.size;have a3:=aA (a2.o.alloc (by have:=H.o;omega) (.cells #[] 61));have I:Hid ((xs.drop k).length=xs.length-k):=aA Bt;have J:Hid (xs.length<=100000):=aA ad;go_wp2_with (at_builtin;refine LU (f:=fM) rfl (.tmp 34) (.tmp 37) _ rfl underlying56 _ 16 yH δ δ δ aG tA w3.heap.size _ [] rfl af.o w.heap.size (xs.length-k) (c-k) _ (xs.drop k) rfl I.o.symm a3.o (by have:=J.o;rw[I.o];simp;omega) σ ?_;intro v6 w6 t ag)
   rw[CS]at t;obtain⟨A6,c6,rfl,_,_,aa⟩:=aK.form t aG;have ah:Hid (β w3 w6):=aA (((AB w3.heap.size w3).alloc (Af _) _).grown ag σ (fun k e=>(Br af.o k e).1));have u:=aA (D.o.on ah.o);have bq:=aA t;have M:=aA ((aK.jK t));have x0:w6.drew.cell? ⟨w.heap.size,0,none⟩=some (.int .i64 x.1):=u.o.c 0 _ rfl;have x1:w6.drew.cell? ⟨w.heap.size,1,none⟩=some (.int .i64 x.2):=u.o.c 1 _ rfl;have N:=aA (aK.take (HO.o.below u.o.below (Af _)) aG k hk);have br:=fun w=>Jm w 56 FE FB AA c xs.length k (Ah hk ar.o);have ai:Hid ((xs.take k).length=k):=aA (by rw[Bm];omega);clear t ag aa ae;go_upto_region 7 with fail
   refine CalmN.fk (fun x=>∃z:iR [] w6,x=z.1) (.one [0,1,2,6] 3 (.one [] 4 (.one [] 5 (.one [] 7 (.fin [8]))))) ⟨⟨w6.drew,fun _ h=>by cases h⟩,rfl⟩ ?_;simp only[CalmN.fS,CalmN.fu,CalmN.fo,Aq,Ai,Am];repeat (go_big_quiet_step (fail))
   refine Ap ?_;have l:Hid (∀y:World,∃z:iR [] w6,y=z.1):=aA (fun y=>⟨⟨y,fun _ h=>by cases h⟩,rfl⟩);have bs:=aA (u.o.drewN 1);have N:Hid (aK 61 2 fM w6.drew base (.slice AA k c) (xs.take k)):=N;have M:Hid (bR 61 w6.drew w3.heap.size w6.drew.heap.size A6 (xs.drop k)):=M;have aj:Hid (w.grownBy w6.drew (Value.slice AA xs.length c).ownBlock):=aA (Ig (aL u.o.below _) 1);have a4:Hid (w3.heap.size<=w6.drew.heap.size):=aA ah.o.size;generalize w6.drew=w7 at *;have E:Hid (Below w7.heap.size w7 (w7.alloc (.cells #[.int .i64 x.1,.int .i64 x.2] 61))):=aA ((AB _ _).alloc (Af _) _);intro KK i;rw[Az ε];go_wp2_with fail
   refine i _ _ (l.o _) _ ι (l.o _) ?_;clear i;refine Ap ?_;intro KK i;rw[Az ε];go_wp2_with fail
   refine i _ _ (l.o _) _ ι (l.o _) ?_;clear i;refine Ap ?_;intro KK i;rw[Az ε];have B:=AI w7 (.cells #[.int .i64 x.1,.int .i64 x.2] 61);have ak:(Value.slice AA k c).ownBlock=(Value.slice AA xs.length c).ownBlock:=by cases AA <;> rfl
   refine LW (f:=fM) (.tmp 41) (.tmp 43) _ rfl underlying56 _ 16 yH δ δ δ aG tA base (.slice AA k c) (xs.take k) rfl (N.o.alloc _) _ _ x rfl (Hx x _ _ B) (by have:=J.o;rw[ai.o];omega) (Ah HB.o (Ah aj.o.size E.o.size)) ?_;intro v8 w8 al C n;rw[ak]at C n;have O:=E.o.size;have am:Hid (w.grownBy w8 (Value.slice AA xs.length c).ownBlock):=aA (qI (qI aj.o (aL E.o _)) C);have a5:=aA al
   have ab:Hid (iC 2 fM w8 w8.heap.size A6 (xs.drop k)):=aA (((M.o.ux fun g cur bu ao hc=>by
    refine(C.block g (Aj ao O) (fun e=>?_)).trans ((E.o.block g ao).trans hc)
    have:=bd.o g e.symm
    have:=H.o
    omega).rd).more (Ah O C.size))
   have ac:Hid (∀j,v8.ownBlock=some j->(Value.slice AA xs.length c).ownBlock=some j\/w.heap.size<=j):=aA (fun j e=>by
    rcases n with q|q
    ·exact .inl (q.symm.trans e)
    ·rw[q]at e;injection e with e;exact .inr (by have:=a4.o;have:=H.o;omega))
   have a6:Hid ((xs.take k++[x]).length+(xs.drop k).length<=1000000):=aA (by have:=J.o;rw[AZ,ai.o,I.o,BC];omega);have a9:Hid (base<=w8.heap.size):=aA (Ah HB.o am.o.size);clear al C n ak O B x0 x1;refine i _ _ (l.o _) _ ι (l.o _) ?_;clear i
   go_frame
   repeat (go_big_quiet_step (fail))
   refine Ap ?_;intro KK i;rw[Az ε];refine M4 (f:=fM) (.tmp 44) (.tmp 45) _ rfl underlying56 _ 16 yH δ δ δ aG tA base v8 (xs.take k++[x]) rfl a5.o w8.heap.size (xs.drop k).length c6 A6 (xs.drop k) rfl rfl ab.o a6.o a9.o ?_;intro v9 w9 ap aq;have ba:=aA ap;have bb:=aA (MK am.o aq ac.o);clear ap aq;refine i _ _ (l.o _) _ ι (l.o _) ?_;clear i
   go_frame
   repeat (go_big_quiet_step (fail))
   refine Ap ?_;go_wp2;go_ret
   exact⟨_,rfl,by rw[V.o];exact ba.o,by rw[a1.o];exact bb.o⟩
namespace Au
theorem LI:∀ {zs out:List It},out.length<=(im out zs).length
 | [],_=>Af _
 | z::zs,out=>by
  have h:out.length<=(put out z).length:=by
   by_cases hz:z∈out
   ·induction out with
    | nil=>simp
    | cons y l ih =>
     rw[put];split
     ·rw[Bz,Bz];by_cases hl:z∈l
      ·have:=ih hl;omega
      ·have:=Ip hl;omega
     ·split <;> simp
   ·have:=Ip hz;omega
  exact Ah h (LI (zs:=zs) (out:=put out z))
theorem nJ:∀ {zs out:List It},jY out->(im out zs).length<=out.length->im out zs=out/\∀z∈zs,z∈out
 | [],_,_,_=>⟨rfl,fun _ h=>by cases h⟩
 | z::zs,out,hs,h=>by
  have e:im out (z::zs)=im (put out z) zs:=rfl;rw[e]at h ⊢;have h1:=LI (zs:=zs) (out:=put out z);have hz:z∈out:=Sb ω;rw[Nn hs hz]at h ⊢;obtain⟨h2,h3⟩:=nJ hs h;refine⟨h2,fun y hy=>?_⟩;rcases BB.1 hy with rfl|hy
  ·exact hz
  ·exact h3 y hy
theorem iA.Gy {l out:List It} (k:iA G l out) {x:It} (hx:x∈out):iA G l (im out (kq G x)) :=
 ⟨Hw k.s,fun y hy=>yC.2 (.inl (k.h y hy)),fun y hy=>(yC.1 hy).elim (k.c y) fun h=>by
  obtain⟨s,hs,h0,j,hj,hl,rfl⟩:=FG.1 h;exact .on x (k.c x hx) s hs h0 j hj hl⟩
def nV (G:Gm.Gr) (out:List It) (i:Nat):Prop:=∀j (h:j<out.length),j<i->∀z∈kq G out[j],z∈out
theorem nV.zero (G:Gm.Gr) (out:List It):nV G out 0:=fun _ _ h=>absurd h (Dj _)
theorem nV.next {out:List It} (h:nV G out i) (hi:i<out.length) (hz:∀z∈kq G out[i],z∈out):nV G out (i+1):=fun j hj ab z aa=>by
 rcases BM j i with h1|h1
 ·exact h j hj h1 z aa
 ·obtain rfl:j=i:=ω
  exact hz z aa
theorem iA.end_ {l out:List It} (hl:∀x∈l,ir G x=true) (k:iA G l out) (h:nV G out out.length):out=jb G l :=
 k.done hl fun x hx s hs h0 j hj he=>by
  obtain⟨q,hq,rfl⟩:=BG hx;exact h q hq hq _ (FG.2 ⟨s,hs,h0,j,hj,he,rfl⟩)
theorem oI:∀ {zs out:List It},(im out zs).length<=out.length+zs.length
 | [],_=>Af _
 | z::zs,out=>by
  have h1:=Uy out z;have h2:=oI (zs:=zs) (out:=put out z);have e:im out (z::zs)=im (put out z) zs:=rfl;rw[e,Bz];omega
end Au
def FJ:Value->Nat
 | .slice _ n _=>n
 | _=>0
theorem Pf (v:Value) (G:Gm.Gr) (B:Nat) (l:List Au.It) (A:Option Addr) (c BL:Nat) (w:World) (hg:aT w B v G) (hf:Gm.Fit G) (ag:Gm.Ok G) (hB:B<=w.heap.size) (hl:iC 2 fM w BL A l) (ap:BL<=w.heap.size) (hi:∀x∈l,Au.ir G x=true) (a1:l.length<=1000) :
  Calls prog 43 #[v,.slice A l.length c] w fun e w'=>∃v',e=.returned v'/\aK 61 2 fM w' w.heap.size v' (Au.jb G l)/\β w w':=by
 have HG:=aA hg;have HF:=aA hf;have m:=aA ag;have ah:=aA hB;have HL:=aA hl;have a2:=aA ap;have aa:=aA hi;obtain⟨AT,cT,AN,cN,AR,cR,rfl,_,_,⟨bp,bq⟩,_,_,hR⟩:=hg;have HR:=aA hR;have ab:=aA (aZ.start 26 w #[.slice AT G.ts.length cT,.slice AN G.ns.length cN,.slice AR G.rs.length cR,.int .i64 G.st]);have br:(l.length:Int)<=1000:=ω
 have bs:(G.rs.length:Int)<=40:=by have:=ag.kL;omega
 clear hf ag hB hl ap hi hR
 go_enter func43,ntmps43
 go_wp2;go_loopw [5,6] (fun vo vi wr=>∃i:Nat,i<=l.length/\vi=.int .i64 i/\Hid (aK 61 2 fM wr (w.heap.size+1) vo (Au.im [] (l.take i)))/\Hid (aZ 26 w #[.slice AT G.ts.length cT,.slice AN G.ns.length cN,.slice AR G.rs.length cR,.int .i64 G.st] wr)) (fun _ vi _=>l.length-(intOf vi).toNat)
 case atStart=>exact⟨0,Bb _,rfl,aA (aK.nil _ _),ab⟩
 case round =>
  obtain⟨i,hi,rfl,HO,HW⟩:=hrel;obtain⟨Ao,co,rfl,_,_,_⟩:=aK.form HO.o aG;by_cases hlt:i<l.length
  ·obtain⟨g,o,rfl,ac,hc⟩:=HL.o ω;have aq:g<w.heap.size:=Aj ac a2.o;have k0:wr.cell? ⟨g,o+i*2,none⟩=some (.int .i64 (l[i]).1):=(HW.o.below.cell (p:=⟨g,o+i*2,none⟩) aq).trans (hc i hlt 0 _ rfl);have k1:wr.cell? ⟨g,o+i*2+1,none⟩=some (.int .i64 (l[i]).2):=(HW.o.below.cell (p:=⟨g,o+i*2+1,none⟩) aq).trans (hc i hlt 1 _ rfl);have a3:Hid (Au.im [] (l.take (i+1))=Au.put (Au.im [] (l.take i)) l[i]):=aA (by rw[AP hlt,Au.nK]);have ad:=aA (JB wr (w.heap.size+1) _ _ l[i] HO.o HW.o.size (by have:=Au.oI (zs:=l.take i) (out:=[]);rw[Bm]at this;simp only[Ey]at this;omega));have ai:=aA (fun k e=>(Br HO.o k e).1);clear hc;generalize l[i]=x at *;generalize (Au.im [] (l.take i)).length=n at *;go_wp2_with fail
   refine ad.o.mono ?_;rintro _ w2 ⟨v2,rfl,aj,ar⟩;have D:=aA aj;have E:Hid (aZ 26 w #[.slice AT G.ts.length cT,.slice AN G.ns.length cN,.slice AR G.rs.length cR,.int .i64 G.st] w2):=aA (Eh HW.o ar HW.o.size (fun k e=>ai.o k e));obtain⟨A2,c2,rfl,_,_,_⟩:=aK.form aj aG;clear aj ar k0 k1;go_wp2;go_roundw
   case rel=>exact⟨i+1,hlt,ν,aA (by rw[a3.o];exact D.o),E⟩
   case measure=>simp[intOf];omega
  ·obtain rfl:i=l.length:=ω
   generalize (Au.im [] (l.take l.length)).length=n0 at *;rw[Bp]at HO;have HC:=aA (Au.iA.start (G:=G) l);generalize Au.im [] l=out0 at *;obtain⟨wo,a4⟩:∃wo:World,wo=wr:=⟨_,rfl⟩
   subst a4;go_wp2;go_loopw [5,7] (fun vo vi wr=>∃(i:Nat) (out:List Au.It),i<=out.length/\vi=.int .i64 i/\FJ vo=out.length/\Hid (Au.iA G l out)/\Hid (Au.nV G out i)/\Hid (aK 61 2 fM wr (w.heap.size+1) vo out)/\Hid (aZ 26 w #[.slice AT G.ts.length cT,.slice AN G.ns.length cN,.slice AR G.rs.length cR,.int .i64 G.st] wr)) (fun vo vi _=>(288-FJ vo)*400+(399-(intOf vi).toNat))
   case atStart =>
    obtain⟨A3,c3,e,_⟩:=aK.form HO.o aG;exact⟨0,out0,Bb _,rfl,by rw[e];rfl,HC,aA (Au.nV.zero _ _),HO,HW⟩
   case round =>
    obtain⟨i,out,hi,rfl,a5,HC,au,HO,HW⟩:=hrel;have a6:out.length<=287:=Ah (HC.o.le aa.o) (Au.jZ m.o m.o.kL);obtain⟨Ao,co,rfl,_,_,_⟩:=aK.form HO.o aG;have a9:(out.length:Int)<=287:=ω
    clear a5;by_cases hlt:i<out.length
    ·obtain⟨g,c1,he,bu,bv,_⟩:=aK.addr HO.o ω;injection he with ba bb bc;subst ba;clear bb bc;have k0:wr.cell? ⟨g,i*2,none⟩=some (.int .i64 (out[i]).1):=aK.cellAt HO.o aG i 0 hlt _ rfl;have k1:wr.cell? ⟨g,i*2+1,none⟩=some (.int .i64 (out[i]).2):=aK.cellAt HO.o aG i 1 hlt _ rfl;have ak:=aK.lt HO.o;have bd:(i:Int)<(out.length:Int):=ω
     have av:Hid (Au.ir G out[i]=true):=aA (HC.o.is aa.o _ (AD hlt));have bf:Hid (out[i]∈out):=aA (AD hlt);have ae:=aA (fun(y:World) (h:β wr y)=>KX _ G B out[i] y (HG.o.below (HW.o.below.trans (h.mono (Ah (Nat.le_add_right _ 1) HW.o.size))) ah.o) HF.o (Ah ah.o (Ah (Ah (Nat.le_add_right _ 1) HW.o.size) h.size)) av.o);have af:=aA (fun(h:∀z∈Au.kq G out[i],z∈out)=>au.o.next hlt h)
     have bg:Hid (∀s,Au.nx G out[i]=some s->-1000<=s/\s<=1000):=aA (fun s hs=>by
      have h1:=Gm.iN.1 (Au.iU.1 (Au.sz m.o av.o hs));have h2:=(Gm.fF G).1 m.o.n;have h3:=(Gm.fK G.ts).1 m.o.t
      omega)
     generalize out[i]=x at *;go_upto_region 9 with fail
     have z0:∀z:Calm.On wr.heap.size wr,z.1.cell? ⟨w.heap.size,0,none⟩=some (.slice AT G.ts.length cT):=fun z=>(HW.o.on z.2).c 0 _ rfl;have z1:∀z:Calm.On wr.heap.size wr,z.1.cell? ⟨w.heap.size,1,none⟩=some (.slice AN G.ns.length cN):=fun z=>(HW.o.on z.2).c 1 _ rfl;have z2:∀z:Calm.On wr.heap.size wr,z.1.cell? ⟨w.heap.size,2,none⟩=some (.slice AR G.rs.length cR):=fun z=>(HW.o.on z.2).c 2 _ rfl;have z3:∀z:Calm.On wr.heap.size wr,z.1.cell? ⟨w.heap.size,3,none⟩=some (.int .i64 G.st):=fun z=>(HW.o.on z.2).c 3 _ rfl;have q0:∀z:Calm.On wr.heap.size wr,z.1.cell? ⟨g,i*2,none⟩=some (.int .i64 x.1):=fun z=>(z.2.cell (p:=⟨g,i*2,none⟩) ak).trans k0;have q1:∀z:Calm.On wr.heap.size wr,z.1.cell? ⟨g,i*2+1,none⟩=some (.int .i64 x.2):=fun z=>(z.2.cell (p:=⟨g,i*2+1,none⟩) ak).trans k1;have ab:=rM wr;clear k0 k1;refine CalmN.fk (γ wr) (.one [0,1,2,3,4] 5 (.fin [6,7,8,9,10])) ab.o ?_;simp only[CalmN.fS,CalmN.fu,CalmN.fo,Aq,Ai,Am];repeat (go_big_quiet_step (fail))
     refine Ap ?_;intro KK r;rw[Az ε];go_wp2_with fail
     refine(ae.o wr.drew (aB (AB _ _) 1)).mono ?_;rintro _ w2 ⟨rfl,u⟩;have u:β wr w2:=(aB (AB _ wr) 1).trans u;have C:=yM u;have E:=aA (HW.o.on u);have D:=aA (HO.o.below u (Af _));clear u z0 z1 z2 z3 q0 q1 ak ae ab;cases hq:Au.nx G x with
     | none =>
      have hE:=Au.mc (G:=G) (x:=x) (fun s hs=>by rw[hq]at hs;cases hs);have f:=aA (af.o (by rw[hE];intro z hz;cases hz));clear hE hq;go_wp2_with fail
      refine r _ _ C.o _ ι C.o ?_;clear r;repeat (go_big_quiet_step (fail))
      refine Ap ?_;go_wp2;go_loopw [5,11] (fun vo vk wy=>vo=.slice (some ⟨g,0,none⟩) out.length co/\vk=.int .i64 0/\wy=w2) (fun _ _ _=>0)
      case atStart=>exact⟨rfl,rfl,by trivial⟩
      case round =>
       obtain⟨rfl,rfl,rfl⟩:=hrel;go_wp2;go_roundw
       case rel=>exact⟨i+1,out,hlt,ν,rfl,HC,f,D,E⟩
       case measure=>simp[intOf,FJ];omega
     | some s =>
      have aw:=bg.o s hq;by_cases h0:s<0
      ·have hE:=Au.pf hq h0;have bw:IntKind.i64.wrap (-1-s) = -1-s:=BV _ ω;have al:=aA (HC.o.Gy bf.o);have ax:=aA (fun h=>Au.nJ (zs:=Au.kq G x) HC.o.s h);rw[hE]at al ax af;have bx:Hid (Au.im out (Au.jg G (-1-s) 0)=out):=aA rfl
       have bh:Hid (∀k,(Au.im out (Au.jg G (-1-s) k)).length<=287+k):=aA (fun k=>by
        have h1:=Au.oI (zs:=Au.jg G (-1-s) k) (out:=out);have h2:=Au.pj G (-1-s) k
        omega)
       have ay:=aA hi;have bz:=aA a6;clear hE hq aw;go_wp2_with fail
       refine r _ _ C.o _ ι C.o ?_;clear r;repeat (go_big_quiet_step (fail))
       refine Ap ?_;go_wp2;go_loopw [5,11] (fun vo vk wy=>∃k:Nat,k<=G.rs.length/\vk=.int .i64 k/\Hid (aK 61 2 fM wy (w.heap.size+1) vo (Au.im out (Au.jg G (-1-s) k)))/\Hid (aZ 26 w #[.slice AT G.ts.length cT,.slice AN G.ns.length cN,.slice AR G.rs.length cR,.int .i64 G.st] wy)) (fun _ vk _=>G.rs.length-(intOf vk).toNat)
       case atStart=>exact⟨0,Bb _,rfl,D,E⟩
       case round =>
        obtain⟨k,hk,rfl,b,j⟩:=hrel;rename World=>wy;obtain⟨Ak,ck,rfl,_,_,_⟩:=aK.form b.o aG;have r2:=j.o.c 2 _ rfl;by_cases F:k<G.rs.length
        ·obtain⟨gr,or,rfl,ac,hc⟩:=HR.o ω;have k0:=(j.o.below.cell (p:=⟨gr,or+k*3,none⟩) (Aj ac ah.o)).trans (hc k F).1;have hY:=Au.pk (left:=-1-s) F;have hN:=Au.rT (left:=-1-s) F;have bi:(k:Int)<(G.rs.length:Int):=ω
         have ad:=aA (JB wy (w.heap.size+1) _ _ ((k:Int),0) b.o j.o.size (by have:=bh.o k;omega));have ai:=aA (fun k e=>(Br b.o k e).1);clear hc ac;generalize (G.rs[k]).l=lf at *;generalize (Au.im out (Au.jg G (-1-s) k)).length=nk at *;by_cases he:lf = -1-s
         ·have bj:=aA (hY he);have hq:(lf == -1-s)=true:=by rw[BP];exact he
          clear hY hN he;go_wp2_with fail
          refine ad.o.mono ?_;rintro _ w5 ⟨v5,rfl,am,az⟩;have bk:=aA am;have bl:=aA (show aZ 26 w _ w5 from Eh j.o az j.o.size (fun k e=>ai.o k e));obtain⟨A5,c5,rfl,_,_,_⟩:=aK.form am aG;clear am az k0 r2;go_wp2;go_roundw
          case rel=>exact⟨k+1,F,ν,aA (by rw[bj.o,Au.nK];exact bk.o),bl⟩
          case measure=>simp[intOf];omega
         ·have ae:=aA (hN he);have hq:(lf == -1-s)=false:=by rw[Bc];exact he
          clear hY hN he ad;go_wp2;go_roundw
          case rel=>exact⟨k+1,F,ν,aA (by rw[ae.o];exact b.o),j⟩
          case measure=>simp[intOf];omega
        ·obtain rfl:k=G.rs.length:=ω
         have ao:=aA (al.o.le aa.o);have bm:=aA (Au.jZ m.o m.o.kL);generalize a0:Au.im out (Au.jg G (-1-s) G.rs.length)=out2 at *;have bD:=aA a0;clear a0;by_cases bn:out.length<out2.length
         ·have bo:(out.length:Int)<(out2.length:Int):=ω
          go_wp2;go_roundw
          case rel=>exact⟨0,out2,Bb _,ν,rfl,al,aA (Au.nV.zero _ _),b,j⟩
          case measure=>have h1:=ao.o;have h2:=bm.o;have h3:=ay.o;simp[intOf,FJ];omega
         ·obtain⟨e1,e2⟩:=ax.o ω;have f:=aA (af.o e2);have bo:¬((out.length:Int)<(out2.length:Int)):=ω
          subst e1;clear bn e2;go_wp2;go_roundw
          case rel=>exact⟨i+1,out2,hlt,ν,rfl,HC,f,b,j⟩
          case measure=>have h3:=ay.o;simp[intOf,FJ];omega
      ·have hE:=Au.mc (G:=G) (x:=x) (fun s' hs=>by rw[hq]at hs;injection hs with hs;omega);have f:=aA (af.o (by rw[hE];intro z hz;cases hz));clear hE hq aw;go_wp2_with fail
       refine r _ _ C.o _ ι C.o ?_;clear r;repeat (go_big_quiet_step (fail))
       refine Ap ?_;go_wp2;go_loopw [5,11] (fun vo vk wy=>vo=.slice (some ⟨g,0,none⟩) out.length co/\vk=.int .i64 0/\wy=w2) (fun _ _ _=>0)
       case atStart=>exact⟨rfl,rfl,by trivial⟩
       case round =>
        obtain⟨rfl,rfl,rfl⟩:=hrel;go_wp2;go_roundw
        case rel=>exact⟨i+1,out,hlt,ν,rfl,HC,f,D,E⟩
        case measure=>simp[intOf,FJ];omega
    ·obtain rfl:i=out.length:=ω
     have HE:=aA (HC.o.end_ aa.o au.o);have HX:=aA (HO.o.mono (base':=w.heap.size) ω);generalize out.length=nn at *;go_wp2;go_ret
     exact⟨_,rfl,by rw[<-HE.o];exact HX.o,HW.o.below⟩
theorem Pc (v:Value) (G:Gm.Gr) (B:Nat) (l:List Au.It) (A:Option Addr) (c BL:Nat) (sm:Int) (w:World) (hg:aT w B v G) (hf:Gm.Fit G) (aj:Gm.Ok G) (hB:B<=w.heap.size) (hl:iC 2 fM w BL A l) (ak:BL<=w.heap.size) (hi:∀x∈l,Au.ir G x=true) (hs:Au.jY l) (aa:l.length<=1000) :
  Calls prog 45 #[v,.slice A l.length c,.int .i64 sm] w fun e w'=>∃v',e=.returned v'/\aK 61 2 fM w' w.heap.size v' (Au.mv G l sm)/\β w w':=by
 have HG:=aA hg;have HF:=aA hf;have ar:=aA aj;have al:=aA hB;have HL:=aA hl;have au:=aA ak;have a9:=aA aa;have av:=aA hi;have aw:=aA hs;obtain⟨AT,cT,AN,cN,AR,cR,rfl,_⟩:=hg;have ab:=aA (aZ.start 26 w #[.slice AT G.ts.length cT,.slice AN G.ns.length cN,.slice AR G.rs.length cR,.int .i64 G.st]);have ba:(l.length:Int)<=1000:=ω
 clear hf aj hB hl ak aa hi hs
 go_enter func45,ntmps45
 go_wp2;go_loopw [7,8] (fun vo vi wr=>∃i:Nat,i<=l.length/\vi=.int .i64 i/\Hid (aK 61 2 fM wr (w.heap.size+1) vo (Au.mv G (l.take i) sm))/\Hid (aZ 26 w #[.slice AT G.ts.length cT,.slice AN G.ns.length cN,.slice AR G.rs.length cR,.int .i64 G.st] wr)) (fun _ vi _=>l.length-(intOf vi).toNat)
 case atStart=>exact⟨0,Bb _,rfl,aA (aK.nil _ _),ab⟩
 case round =>
  obtain⟨i,hi,rfl,HO,HW⟩:=hrel;obtain⟨Ao,co,rfl,_,_,_⟩:=aK.form HO.o aG;by_cases f:i<l.length
  ·obtain⟨g,o,rfl,ax,hc⟩:=HL.o ω;have ae:g<w.heap.size:=Aj ax au.o;have ay:(i:Int)<(l.length:Int):=ω
   have kk0:∀y:World,β w y->y.cell? ⟨g,o+i*2,none⟩=some (.int .i64 (l[i]).1):=fun y h=>(h.cell (p:=⟨g,o+i*2,none⟩) ae).trans (hc i f 0 _ rfl);have kk1:∀y:World,β w y->y.cell? ⟨g,o+i*2+1,none⟩=some (.int .i64 (l[i]).2):=fun y h=>(h.cell (p:=⟨g,o+i*2+1,none⟩) ae).trans (hc i f 1 _ rfl);have af:Hid (l.take (i+1)=l.take i++[l[i]]):=aA (AP f);have ag:Hid (Au.mv G (l.take i++[l[i]]) sm=if Au.nx G l[i]=some sm then Au.put (Au.mv G (l.take i) sm) ((l[i]).1,(l[i]).2+1) else Au.mv G (l.take i) sm):=aA (Au.xx (by rw[<-AP f];exact List.Pairwise.sublist (List.take_sublist _ _) aw.o) sm)
   have az:Hid ((Au.mv G (l.take i) sm).length<=1000):=aA (by
    have h1:=Au.sw G (l.take i) sm;rw[Bm]at h1
    omega)
   have am:=aA (av.o _ (AD f));have a0:=aA (fun(y:World) (h:β w y)=>KX _ G B l[i] y (HG.o.below h al.o) HF.o (Ah al.o h.size) am.o)
   have a1:Hid (0<=(l[i]).2/\(l[i]).2<=100):=aA (by
    have h1:=Au.gj.1 am.o;have h2:=Au.qe ar.o (Au.jD.2 h1.1)
    omega)
   have z0:∀z:Calm.On wr.heap.size wr,z.1.cell? ⟨w.heap.size,0,none⟩=some (.slice AT G.ts.length cT):=fun z=>(HW.o.on z.2).c 0 _ rfl;have z1:∀z:Calm.On wr.heap.size wr,z.1.cell? ⟨w.heap.size,1,none⟩=some (.slice AN G.ns.length cN):=fun z=>(HW.o.on z.2).c 1 _ rfl;have z2:∀z:Calm.On wr.heap.size wr,z.1.cell? ⟨w.heap.size,2,none⟩=some (.slice AR G.rs.length cR):=fun z=>(HW.o.on z.2).c 2 _ rfl;have z3:∀z:Calm.On wr.heap.size wr,z.1.cell? ⟨w.heap.size,3,none⟩=some (.int .i64 G.st):=fun z=>(HW.o.on z.2).c 3 _ rfl;have q0:∀z:Calm.On wr.heap.size wr,z.1.cell? ⟨g,o+i*2,none⟩=some (.int .i64 (l[i]).1):=fun z=>kk0 z.1 (HW.o.on z.2).below;have q1:∀z:Calm.On wr.heap.size wr,z.1.cell? ⟨g,o+i*2+1,none⟩=some (.int .i64 (l[i]).2):=fun z=>kk1 z.1 (HW.o.on z.2).below;have ab:=rM wr;have KK0:=aA kk0;have KK1:=aA kk1;clear hc kk0 kk1;generalize l[i]=x at *;generalize ao:Au.mv G (l.take i) sm=tt at *;have bb:=aA ao;clear ao;go_wp2_with fail
   refine CalmN.fk (γ wr) (.one [0,1,2,3,4] 5 (.fin [6,7,8,9,10])) ab.o ?_;simp only[CalmN.fS,CalmN.fu,CalmN.fo,Aq,Ai,Am];repeat (go_big_quiet_step (fail))
   refine Ap ?_;intro KK b;rw[Az ε];go_wp2_with fail
   refine(a0.o wr.drew (aB HW.o.below 1)).mono ?_;rintro _ w2 ⟨rfl,j⟩;have j:β wr w2:=(aB (AB _ wr) 1).trans j;have m:=yM j;have n:=aA (HW.o.on j);have ac:=aA (HO.o.below j (Af _));clear j z0 z1 z2 z3 q0 q1 ab;cases hq:Au.nx G x with
   | none =>
    have HE:Hid (Au.mv G (l.take (i+1)) sm=tt):=aA (by rw[af.o,ag.o,AJ (by rw[hq];simp)]);clear hq;go_wp2_with fail
    refine b _ _ m.o _ ι m.o ?_;clear b;repeat (go_big_quiet_step (fail))
    refine Ap ?_;go_wp2;go_roundw
    case rel=>exact⟨i+1,f,ν,aA (by rw[HE.o];exact ac.o),n⟩
    case measure=>simp[intOf];omega
   | some s =>
    by_cases ad:s=sm
    ·subst ad;have HE:Hid (Au.mv G (l.take (i+1)) s=Au.put tt (x.1,x.2+1)):=aA (by rw[af.o,ag.o,Az hq]);have bc:IntKind.i64.wrap (x.2+1)=x.2+1:=BV _ (by have:=a1.o;omega);have a2:(s==s)=true:=σ
     have HD:Hid (aZ 26 w #[.slice AT G.ts.length cT,.slice AN G.ns.length cN,.slice AR G.rs.length cR,.int .i64 G.st] w2.drew):=aA (n.o.drewN 1);have a3:=aA (JB w2.drew (w.heap.size+1) _ tt (x.1,x.2+1) (ac.o.drewN 1) HD.o.size (by have:=az.o;omega));have ap:=aA (fun k e=>(Br (ac.o.drewN 1) k e).1);have q0:∀z:Calm.kC g w2,z.1.cell? ⟨g,o+i*2,none⟩=some (.int .i64 x.1):=fun z=>(Ck z.2).trans (KK0.o w2 n.o.below);have q1:∀z:Calm.kC g w2,z.1.cell? ⟨g,o+i*2+1,none⟩=some (.int .i64 x.2):=fun z=>(Ck z.2).trans (KK1.o w2 n.o.below);have a4:Hid (∃z:Calm.kC g w2,w2.drew=z.1):=aA ⟨⟨w2.drew,rfl⟩,rfl⟩;clear hq;go_wp2_with fail
     refine b _ _ m.o _ ι m.o ?_;clear b;repeat (go_big_quiet_step (fail))
     refine Ap ?_;go_wp2_with fail
     refine CalmN.fk (fun x=>∃z:Calm.kC g w2,x=z.1) (.one [0,1,2,3,4,5,6,7,8,9,10,11,12] 13 (.fin [14])) a4.o ?_;simp only[CalmN.fS,CalmN.fu,CalmN.fo,Aq,Ai,Am];repeat (go_big_quiet_step (fail))
     refine Ap ?_;intro KK b;rw[Az ε];go_wp2_with fail
     refine a3.o.mono ?_;rintro _ w5 ⟨v5,rfl,ah,ai⟩;have a5:=aA ah;have a6:=aA (show aZ 26 w _ w5 from Eh HD.o ai HD.o.size (fun k e=>ap.o k e));have aq:Hid (∃z:Calm.kC g w2,w5=z.1):=aA ⟨⟨w5,ai.block g (Aj ae (Ah (Nat.le_add_right _ 1) HD.o.size)) (fun e=>by have:=ap.o g e.symm;omega)⟩,rfl⟩;obtain⟨A5,c5,rfl,_,_,_⟩:=aK.form ah aG;clear ah ai q0 q1;go_wp2_with fail
     refine b _ _ aq.o _ ι aq.o ?_;clear b;repeat (go_big_quiet_step (fail))
     refine Ap ?_;go_wp2;go_roundw
     case rel=>exact⟨i+1,f,ν,aA (by rw[HE.o];exact a5.o),a6⟩
     case measure=>simp[intOf];omega
    ·have HE:Hid (Au.mv G (l.take (i+1)) sm=tt):=aA (by rw[af.o,ag.o,AJ (by rw[hq];simp;exact ad)]);have a2:(s==sm)=false:=by rw[Bc];exact ad
     clear hq ad;go_wp2_with fail
     refine b _ _ m.o _ ι m.o ?_;clear b;repeat (go_big_quiet_step (fail))
     refine Ap ?_;go_wp2;go_roundw
     case rel=>exact⟨i+1,f,ν,aA (by rw[HE.o];exact ac.o),n⟩
     case measure=>simp[intOf];omega
  ·obtain rfl:i=l.length:=ω
   generalize (Au.mv G (l.take l.length) sm).length=n0 at *;rw[Bp]at HO;have HX:=aA (HO.o.mono (base':=w.heap.size) ω);go_wp2;go_ret
   exact⟨_,rfl,HX.o,HW.o.below⟩
theorem S7 {y x:Int×Int} (he:y≠x):(∃b,((y.1==x.1)=false/\(y.2==x.2)=b))\/((y.1==x.1)=true/\(y.2==x.2)=false):=by
 by_cases e1:y.1=x.1
 ·refine .inr ⟨by rw[BP];exact e1,?_⟩;rw[Bc];exact fun e2=>he (EA e1 e2)
 ·exact .inl ⟨_,by rw[Bc];exact e1,rfl⟩
theorem Pe (a b:List Au.It) (A A':Option Addr) (c c' B:Nat) (w:World) (ha:iC 2 fM w B A a) (hb:iC 2 fM w B A' b) (hB:B<=w.heap.size) (av:a.length<=9223372036854775807) (r:Bool) (hr:Gm.tr (a=b)=r) :
  Calls prog 81 #[.slice A a.length c,.slice A' b.length c'] w fun e w'=>e=.returned (.bool r)/\β w w':=by
 by_cases hl:a.length=b.length
 ·have HA:=aA ha;have ap:=aA hb;have HB:=aA hB;have HR:=aA hr;have ah:=aA hl;have aw:(a.length:Int)<=9223372036854775807:=ω
  have ai:((a.length:Int) != (b.length:Int))=false:=by rw[hl];simp
  clear ha hb hB hr;rw[<-hl];rw[<-hl]at ai;clear hl;generalize ad:a.length=n at *
  go_enter func81,ntmps81
  go_wp2;go_loopw [5] (fun vi wr=>∃i:Nat,i<=n/\vi=.int .i64 i/\Hid (∀j (h:j<a.length) (h2:j<b.length),j<i->a[j]=b[j])/\Hid (β w wr)) (fun vi _=>n-(intOf vi).toNat)
  case atStart=>exact⟨0,Bb _,rfl,aA (fun _ _ _ h=>absurd h (Dj _)),aA (AB _ _)⟩
  case round =>
   obtain⟨i,hi,rfl,HE,HW⟩:=hrel;by_cases aq:i<n
   ·have aa:i<a.length:=ω
    have ab:i<b.length:=by have:=ah.o;omega
    obtain⟨g,o,rfl,aj,hc⟩:=HA.o ω;obtain⟨g',o',rfl,ac,ae⟩:=ap.o ω;have k0:∀z:Calm.On wr.heap.size wr,z.1.cell? ⟨g,o+i*2,none⟩=some (.int .i64 (a[i]).1):=fun z=>((HW.o.trans (z.2.mono HW.o.size)).cell (p:=⟨g,o+i*2,none⟩) (Aj aj HB.o)).trans (hc i aa 0 _ rfl);have k1:∀z:Calm.On wr.heap.size wr,z.1.cell? ⟨g,o+i*2+1,none⟩=some (.int .i64 (a[i]).2):=fun z=>((HW.o.trans (z.2.mono HW.o.size)).cell (p:=⟨g,o+i*2+1,none⟩) (Aj aj HB.o)).trans (hc i aa 1 _ rfl);have l0:∀z:Calm.On wr.heap.size wr,z.1.cell? ⟨g',o'+i*2,none⟩=some (.int .i64 (b[i]).1):=fun z=>((HW.o.trans (z.2.mono HW.o.size)).cell (p:=⟨g',o'+i*2,none⟩) (Aj ac HB.o)).trans (ae i ab 0 _ rfl);have l1:∀z:Calm.On wr.heap.size wr,z.1.cell? ⟨g',o'+i*2+1,none⟩=some (.int .i64 (b[i]).2):=fun z=>((HW.o.trans (z.2.mono HW.o.size)).cell (p:=⟨g',o'+i*2+1,none⟩) (Aj ac HB.o)).trans (ae i ab 1 _ rfl);have ar:(i:Int)<(n:Int):=ω
    have af:Hid (a[i]≠b[i]->r=false):=aA (fun h=>by
     rw[<-HR.o,Dz];intro h2;have h2:=Gm.fV.1 h2;subst h2;exact h rfl)
    have ag:Hid (a[i]=b[i]->∀j (h:j<a.length) (h2:j<b.length),j<i+1->a[j]=b[j]):=aA (fun h1 j h h2 h3=>by
     rcases BM j i with q|q
     ·exact HE.o j h h2 q
     ·obtain rfl:j=i:=ω
      exact h1)
    have ak:=rM wr;have al:Hid (β w wr.drew):=aA (aB HW.o 1);clear hc ae ad;generalize a[i]=y at *;generalize b[i]=x at *;by_cases he:y=x
    ·have HX:=aA (ag.o he);subst he;have am:(y.1==y.1)=true:=σ
     have ao:(y.2==y.2)=true:=σ
     clear af ag;go_wp2_with fail
     refine CalmN.fk (γ wr) (.fin [0,1,2,3,4,5,6,7,8]) ak.o ?_;simp only[CalmN.fS,CalmN.fo,Aq,Ai,Am];repeat (go_big_quiet_step (fail))
     refine Ap ?_;clear k0 k1 l0 l1;go_wp2;go_roundw
     case rel=>exact⟨i+1,aq,ν,HX,al⟩
     case measure=>simp[intOf];omega
    ·have HF:=aA (af.o he);have au:=S7 he;clear af ag he;rcases au with⟨b0,am,ao⟩|⟨am,ao⟩
     all_goals
      go_wp2_with fail
      refine CalmN.fk (γ wr) (.fin [0,1,2,3,4,5,6,7,8]) ak.o ?_;simp only[CalmN.fS,CalmN.fo,Aq,Ai,Am];repeat (go_big_quiet_step (fail))
      refine Ap ?_;clear k0 k1 l0 l1;go_wp2;go_ret
      exact⟨aD HF.o.symm,al.o⟩
   ·obtain rfl:i=n:=ω
    have HF:Hid (r=true):=aA (by
     rw[<-HR.o];refine Gm.fV.2 (Au.ur (ad.trans ah.o) fun j h h2=>HE.o j h h2 ω)
     )
    clear ad;go_wp2;go_ret
    exact⟨aD HF.o.symm,HW.o⟩
 ·have HF:Hid (r=false):=aA (by
   rw[<-hr,Dz];intro h2;have h2:=Gm.fV.1 h2;exact hl (by rw[h2]))
  have ai:((a.length:Int) != (b.length:Int))=true:=by rw[DW];omega
  clear hl ha hb hr;generalize a.length=na at *;generalize b.length=nb at *
  go_enter func81,ntmps81
  go_wp2;go_ret
  exact⟨aD HF.o.symm,AB _ _⟩
theorem O3 (v:Value) (G:Gm.Gr) (B:Nat) (i:Nat) (w:World) (hg:aT w B v G) (hi:i<=100000) (ht:G.ts.length<=100000) :
  Calls prog 44 #[v,.int .i64 (i:Nat)] w fun e w'=>e=.returned (.int .i64 (if(i:Int)<G.ts.length then(i:Int) else -1-((i:Int)-G.ts.length)))/\β w w':=by
 obtain⟨AT,cT,AN,cN,AR,cR,rfl,_⟩:=hg;have aa:=aA (aZ.start 26 w #[.slice AT G.ts.length cT,.slice AN G.ns.length cN,.slice AR G.rs.length cR,.int .i64 G.st]);have x0:=aa.o.c 0 _ rfl;obtain⟨r,hr⟩:∃r,r=(if(i:Int)<G.ts.length then(i:Int) else -1-((i:Int)-G.ts.length)):=⟨_,rfl⟩
 rw[<-hr];by_cases ab:(i:Int)<G.ts.length
 ·rw[Az ab]at hr;subst hr
  go_enter func44,ntmps44
  go_wp2;go_ret
  exact⟨rfl,aa.o.below⟩
 ·rw[AJ ab]at hr;subst hr;have ac:IntKind.i64.wrap ((i:Int)-(G.ts.length:Int))=(i:Int)-(G.ts.length:Int):=BV _ ω;have ad:IntKind.i64.wrap (-1-((i:Int)-(G.ts.length:Int))) = -1-((i:Int)-(G.ts.length:Int)):=BV _ ω
  go_enter func44,ntmps44
  go_wp2;go_ret
  exact⟨rfl,aa.o.below⟩
theorem QW (ss:List nY) (k:List Au.It) (A A':Option Addr) (c c' B:Nat) (w:World) (hs:cB w B A ss) (hk:iC 2 fM w B A' k) (hB:B<=w.heap.size) (hn:ss.length<=100000) (hl:∀x∈ss,x.1.length<=9223372036854775807) :
  Calls prog 46 #[.slice A ss.length c,.slice A' k.length c'] w fun e w'=>e=.returned (.int .i64 (Au.ig (ss.map (·.1)) k))/\β w w':=by
 have HS:=aA hs;have HK:=aA hk;have HB:=aA hB;have HL:=aA hl;have ai:(ss.length:Int)<=100000:=ω
 clear hs hk hB hl
 go_enter func46,ntmps46
 go_wp2;go_loopw [5] (fun vi wr=>∃i:Nat,i<=ss.length/\vi=.int .i64 i/\Hid (∀j (_:j<i) (h:j<ss.length),(ss[j]).1≠k)/\Hid (β w wr)) (fun vi _=>ss.length-(intOf vi).toNat)
 case atStart=>exact⟨0,Bb _,rfl,aA (fun _ h=>absurd h (Dj _)),aA (AB _ _)⟩
 case round =>
  obtain⟨i,hi,rfl,HE,HW⟩:=hrel;by_cases aa:i<ss.length
  ·obtain⟨g,o,rfl,ah,hc⟩:=HS.o ω;obtain⟨A2,c2,k1,_,_,af⟩:=(hc i aa).1;have k1:=(HW.o.cell (p:=⟨g,o+i*2,none⟩) (Aj ah HB.o)).trans k1;have ag:=aA (fun r (hr:Gm.tr ((ss[i]).1=k)=r)=>Pe (ss[i]).1 k A2 A' c2 c' B wr (af.below HW.o HB.o) (HK.o.below HW.o HB.o) (Ah HB.o HW.o.size) (HL.o _ (AD aa)) r hr)
   have ab:Hid ((ss[i]).1=k->Au.ig (ss.map (·.1)) k=(i:Int)):=aA (fun e=>Au.pF (fun j hj hl=>by
    rw[Cg];exact HE.o j hj (by simpa using hl)) (by simpa using aa) (by rw[Cg];exact e))
   have ac:Hid ((ss[i]).1≠k->∀j (_:j<i+1) (h:j<ss.length),(ss[j]).1≠k):=aA (fun e j hj h=>by
    rcases BM j i with q|q
    ·exact HE.o j q h
    ·obtain rfl:j=i:=ω
     exact e)
   clear hc af;generalize (ss[i]).1=ki at *;by_cases he:ki=k
   ·have HF:=aA (ab.o he);have ad:=aA (ag.o true (Gm.fV.2 he));clear he ab ac;go_wp2_with fail
    refine ad.o.mono ?_;rintro _ w2 ⟨rfl,hb⟩;have ae:=aA (HW.o.trans (hb.mono HW.o.size));clear hb k1;go_wp2;go_ret
    exact⟨aR HF.o.symm,ae.o⟩
   ·have HF:=aA (ac.o he);have ad:=aA (ag.o false (by rw[Dz];exact fun h=>he (Gm.fV.1 h)));clear he ab ac;go_wp2_with fail
    refine ad.o.mono ?_;rintro _ w2 ⟨rfl,hb⟩;have ae:=aA (HW.o.trans (hb.mono HW.o.size));clear hb k1;go_wp2;go_roundw
    case rel=>exact⟨i+1,aa,ν,HF,ae⟩
    case measure=>simp[intOf];omega
  ·obtain rfl:i=ss.length:=ω
   have HF:Hid (Au.ig (ss.map (·.1)) k = -1):=aA (by
    have h1:Au.ig (ss.map (·.1)) k<0:=Au.qU.2 fun h=>by
     obtain⟨x,hx,e⟩:=Bo.1 h;obtain⟨j,hj,rfl⟩:=BG hx;exact HE.o j hj hj e
    have key:∀l:List (List Au.It),Au.ig l k<0->Au.ig l k = -1:=fun l=>by
     induction l with
     | nil=>intro _;rfl
     | cons y l ih =>
      intro h;rw[Au.ig]at h ⊢;split at h
      ·omega
      ·rename_i hn
       rw[AJ hn];split at h
       ·rename_i hq
        rw[Az hq]
       ·omega
    exact key _ h1)
   go_wp2;go_ret
   exact⟨aR HF.o.symm,HW.o⟩
structure iI (w:World) (base NE n:Nat) (vo:Value) (qs:List QS) (es:List (Int×Int)):Prop where
 o:aK 59 2 nP w base vo qs
 k:∀j (h:j<qs.length),vY 61 w base w.heap.size (qs[j]).1
 e:∀j (h:j<qs.length),j≠n->vY 96 w base NE (qs[j]).2
 a:∃h:n<qs.length,(qs[n]).2.1=es/\aK 96 2 fM w NE (rv (qs[n]).2) es
section
variable {w w':World} {base NE n:Nat} {vo:Value} {qs:List QS} {es:List (Int×Int)}
theorem vY.fp {T:TypeId} {N N':Nat} {q:QP} (h:vY T w base N q) (hk:∀g cur,g<N->w.heap[g]?=some (.cells cur T (0,0))->w'.heap[g]?=some (.cells cur T (0,0))) (hN:N<=N'):vY T w' base N' q:=⟨h.1,h.2.1,(h.2.2.fp hk).more hN⟩
theorem iI.below (h:iI w base NE n vo qs es) (hb:β w w'):iI w' base NE n vo qs es:=by
 obtain⟨h1,h2,h3,ha,h4,h5⟩:=h;have hk:∀(T:TypeId) (g:Nat) (cur:Array Value),w.heap[g]?=some (.cells cur T (0,0))->w'.heap[g]?=some (.cells cur T (0,0)):=fun T g cur hc=>(hb.block g (Ad.1 hc).1).trans hc;exact⟨h1.below hb (Af _),fun j h=>(h2 j h).fp (fun g cur _ hc=>hk _ g cur hc) hb.size,fun j h hn=>(h3 j h hn).fp (fun g cur _ hc=>hk _ g cur hc) (Af _),ha,h4,h5.below hb (Af _)⟩
theorem iI.rd {A:Option Addr} {m c:Nat} (h:iI w base NE n (.slice A m c) qs es) (ab:NE<=w.heap.size):cB w w.heap.size A (qs.map yP):=fun hn=>by
 have hn:qs.length≠0:=by simpa using hn
 obtain⟨A',c',e,_,_,ac⟩:=aK.form h.o oX;injection e with e1 e2 e3;subst e1;obtain⟨g,o,e,hg,hc⟩:=ac hn;refine⟨g,o,e,hg,fun i hi=>?_⟩;have b:i<qs.length:=by simpa using hi
 have hq:=h.k i b;rw[Cg];refine⟨⟨_,_,hc i b 0 _ rfl,hq.1,hq.2.1,hq.2.2.rd⟩,?_⟩;by_cases aa:i=n
 ·obtain⟨ha,h4,h5⟩:=h.a;subst aa;obtain⟨Ae,ce,ee,q1,q2,q3⟩:=aK.form h5 aG;rw[<-h4]at ee q1 q3;unfold rv at ee;injection ee with ee1 ee2 ee3;refine⟨_,_,hc i b 1 _ rfl,?_,?_,?_⟩
  ·show(qs[i]).2.1.length<=(qs[i]).2.2.2
   rw[ee3];exact q1
  ·show(qs[i]).2.2.2<=_
   rw[ee3];unfold maxLen at q2;omega
  ·show iC 2 fM w w.heap.size (qs[i]).2.2.1 (qs[i]).2.1
   rw[ee1];exact q3
 ·have he:=h.e i b aa;exact⟨_,_,hc i b 1 _ rfl,he.1,he.2.1,he.2.2.rd.more ab⟩
theorem iI.st (h:iI w base NE n vo qs es) (ab:NE<=w.heap.size) (hb:base<=NE):pd w base w.heap.size w.heap.size vo qs:=by
 refine⟨h.o,fun q hq=>?_⟩;obtain⟨i,hi,rfl⟩:=BG hq;refine⟨h.k i hi,?_⟩;by_cases aa:i=n
 ·obtain⟨ha,h4,h5⟩:=h.a;subst aa;have h6:=h5;obtain⟨Ae,ce,ee,q1,q2,q3⟩:=aK.form h5 aG;rw[ee]at h6;have hr:=aK.jK h6;unfold rv at ee;injection ee with ee1 ee2 ee3;rw[<-h4]at q1 hr;exact⟨by rw[ee3];exact q1,by rw[ee3];unfold maxLen at q2;omega,by rw[ee1];exact hr.less hb⟩
 ·have he:=h.e i hi aa;exact⟨he.1,he.2.1,he.2.2.more ab⟩
theorem iI.of (h:pd w base w.heap.size NE vo qs) (hn:n<qs.length) (he:(qs[n]).2=([],none,0)):iI w base NE n vo qs [] :=
 ⟨h.1,fun j hj=>(h.2 _ (AD hj)).1,fun j hj _=>(h.2 _ (AD hj)).2,hn,by rw[he],by rw[he];exact aK.nil _ _⟩
theorem iI.snoc {k:List Au.It} {c:Nat} (h:iI w base NE n vo qs es) (ho:aK 59 2 nP w' base v' (qs++[bK k A c])) (hg:w.grownBy w' vo.ownBlock) (hk:vY 61 w base w.heap.size (k,A,c)):iI w' base NE n v' (qs++[bK k A c]) es:=by
 have hc:∀(T:TypeId),T≠59->∀(g:Nat) (cur:Array Value),w.heap[g]?=some (.cells cur T (0,0))->w'.heap[g]?=some (.cells cur T (0,0)):=fun T hT g cur h1=>aJ h.o hg h1 fun cur=>aH hT;obtain⟨h1,h2,h3,ha,h4,h5⟩:=h;refine⟨ho,fun j hj=>?_,fun j hj aa=>?_,by rw[AZ];omega,?_,?_⟩
 ·by_cases b:j<qs.length
  ·rw[Cv b];exact(h2 j b).fp (fun g cur _ d=>hc _ δ g cur d) hg.size
  ·obtain rfl:j=qs.length:=by rw[AZ,BC]at hj;omega
   rw[Db (Af _)];simp only[DB,List.getElem_singleton];exact hk.fp (fun g cur _ d=>hc _ δ g cur d) hg.size
 ·by_cases b:j<qs.length
  ·rw[Cv b];exact(h3 j b aa).fp (fun g cur _ d=>hc _ δ g cur d) (Af _)
  ·obtain rfl:j=qs.length:=by rw[AZ,BC]at hj;omega
   rw[Db (Af _)];simp only[DB,List.getElem_singleton];exact⟨Bb _,Bb _,bR.nil _ _ _ _ _⟩
 ·rw[Cv ha];exact h4
 ·rw[Cv ha];refine⟨h5.1,?_⟩;rcases h5.2 with h0|⟨g,cap,cur,e,ab,ac,hr⟩
  ·exact .inl h0
  ·exact .inr ⟨g,cap,cur,e,ab,hc _ δ g cur ac,hr⟩
theorem iI.ji {gS c:Nat} {x:Int×Int} {c':Nat} (h:iI w base NE n (.slice (some ⟨gS,0,none⟩) m c) qs es) (hn:n<qs.length) (ho:aK 96 2 fM w' NE v' (es++[x])) (hv:v'=.slice A (es++[x]).length c') (hg:w.grownBy w' (rv (qs[n]).2).ownBlock) :
  iI (w'.setCell ⟨gS,n*2+1,none⟩ v') base NE n (.slice (some ⟨gS,0,none⟩) m c) (qs.set n ((qs[n]).1,(es++[x],A,c'))) (es++[x]):=by
 obtain⟨h1,h2,h3,ha,h4,h5⟩:=h;have hc:∀(T:TypeId),T≠96->∀(g:Nat) (cur:Array Value),w.heap[g]?=some (.cells cur T (0,0))->w'.heap[g]?=some (.cells cur T (0,0)):=fun T hT g cur hh=>aJ h5 hg hh fun cur=>aH hT
 have ae:aK 59 2 nP w' base (.slice (some ⟨gS,0,none⟩) m c) qs:=by
  refine⟨h1.1,?_⟩;rcases h1.2 with h0|⟨g,cap,cur,e,ab,b,hr⟩
  ·exact .inl h0
  ·exact .inr ⟨g,cap,cur,e,ab,hc _ δ g cur b,hr⟩
 obtain⟨cur,ac⟩:∃cur,w'.heap[gS]?=some (.cells cur 59 (0,0)):=by
  rcases ae.2 with⟨e,_⟩|⟨g2,cap,cur,e,_,b,_⟩
  ·cases e
  ·injection e with e _ _;injection e with e;injection e with e;subst e;exact⟨cur,b⟩
 have hs:∀(T:TypeId),T≠59->∀(g:Nat) (cu:Array Value),w'.heap[g]?=some (.cells cu T (0,0))->(w'.setCell ⟨gS,n*2+1,none⟩ v').heap[g]?=some (.cells cu T (0,0)):=fun T hT g cu hh=>(AQ w' ⟨gS,n*2+1,none⟩ _ g (fun e=>by
  have e:g=gS:=e;rw[e,ac]at hh;injection hh with hh;exact aH (fun q=>hT q.symm) hh)).trans hh
 have af:(w'.setCell ⟨gS,n*2+1,none⟩ v').heap.size=w'.heap.size:=σ
 refine⟨?_,fun j hj=>?_,fun j hj d=>?_,by rw[CE];exact hn,?_,?_⟩
 ·rcases ae.2 with⟨e,_⟩|⟨g2,cap,cur2,e,hb,b,q1,hm,ag,ht⟩
  ·cases e
  ·injection e with e1 e2 e3;injection e1 with e1;injection e1 with e1;subst e1 e3;have hl:(qs.set n ((qs[n]).1,(es++[x],A,c'))).length=qs.length:=CE;unfold aK;rw[hl];refine⟨by rw[tI oX,hl],.inr ⟨gS,c,cur2.setIfInBounds (n*2+1) v',by rw[e2],hb,Ba w' gS _ _ _ _ b,q1,hm,by simp[ag],?_⟩⟩;have e9:rv (es++[x],A,c')=v':=by rw[hv];rfl
   rw[<-N3 qs n ((qs[n]).1,(es++[x],A,c')) (fun _=>rfl),<-ht];simp only[Array.toList_setIfInBounds];rw[List.take_set,e9]
 ·have ad:j<qs.length:=by rw[CE]at hj;exact hj
  rw[af];have hq:=(h2 j ad).fp (fun g cu _ aa=>hs _ δ g cu (hc _ δ g cu aa)) hg.size;by_cases d:n=j
  ·subst d;rw[List.getElem_set_self];exact hq
  ·rw[EV d];exact hq
 ·have ad:j<qs.length:=by rw[CE]at hj;exact hj
  rw[EV (fun e=>d e.symm)];refine(h3 j ad d).fp (fun g cu ah aa=>hs _ δ g cu ((hg.block g (Ad.1 aa).1 (fun e=>?_)).trans aa)) (Af _)
  have:=(Br h5 g e.symm).1
  omega
 ·rw[List.getElem_set_self]
 ·rw[List.getElem_set_self];have e9:rv (es++[x],A,c')=v':=by rw[hv];rfl
  rw[e9];refine⟨ho.1,?_⟩;rcases ho.2 with h0|⟨g,cap,cu,e,ab,b,hr⟩
  ·exact .inl h0
  ·exact .inr ⟨g,cap,cu,e,ab,hs _ δ g cu b,hr⟩
end
noncomputable def Gm.oR (G:Gm.Gr) (i:Nat):List Int:=Gm.ord [] (((G.rs.take i).filter (Gm.use G)).map Gm.Rl.l)
theorem Gm.xA (h:i<G.rs.length):Gm.oR G (i+1)=if Gm.use G G.rs[i]=true then(if(G.rs[i]).l∈Gm.oR G i then Gm.oR G i else Gm.oR G i++[(G.rs[i]).l]) else Gm.oR G i:=by
 unfold Gm.oR;rw[AP h,CH,Bi];cases hu:Gm.use G G.rs[i]
 ·simp[hu]
 ·rw[show [G.rs[i]].filter (Gm.use G)=[G.rs[i]] by simp[hu],Dv,Gm.mN,Az rfl]
theorem Gm.zt (G:Gm.Gr):Gm.oR G G.rs.length=Gm.ft G:=by unfold Gm.oR Gm.ft Gm.iB;rw[Bp]
theorem Gm.zv (h:Gm.Ok G) (hj:j∈Gm.oR G i):0<=j/\j<G.ns.length:=by
 unfold Gm.oR at hj;rw[Gm.mi]at hj;rcases hj with hj|hj
 ·simp at hj
 ·obtain⟨x,hx,rfl⟩:=Bo.1 hj;exact h.iO x (EM (Cc.1 hx).1)
theorem Gm.zu (h:Gm.Ok G) (i:Nat):(Gm.oR G i).length<=G.ns.length:=by
 have h1:=Gm.ke G.ns.length ((Gm.oR G i).map (· + 1)) ?_ ?_
 ·simpa using h1.1
 ·refine BZ.2 ?_;rw[Dr]
  have:(Gm.oR G i).Nodup:=Gm.j9 _ _ σ
  exact(BZ.1 this).imp fun h e=>h ω
 ·intro x hx;obtain⟨y,hy,rfl⟩:=Bo.1 hx
  have:=Gm.zv h hy
  omega
theorem Gm.sD {o:List Int} {l:Int}:Gm.pos o l<0↔l ∉ o:=by
 constructor
 ·intro h hm
  have:=Gm.kJ hm
  omega
 ·intro h;rw[Gm.oF h];omega
theorem Gm.zK (h:Gm.Ok G) (o:List Int) (ho:o.length<=G.ns.length) (n i:Nat) (hi:i<n):-1<=(Gm.nU n o).getD i 0/\(Gm.nU n o).getD i 0<=1000:=by
 rw[Gm.mZ hi];have h3:=(Gm.fF G).1 h.n;by_cases hm:(i:Int)∈o
 ·have h1:=Gm.kJ hm;omega
 ·rw[Gm.oF hm];omega
theorem Gm.xd (h:k<n):(List.replicate k (-1:Int)++List.replicate (n-k) 0).set k (-1)=List.replicate (k+1) (-1)++List.replicate (n-(k+1)) 0:=by
 rw[De _ _ σ];rw[Ea,DB,show n-k=(n-(k+1))+1 by omega,CY,DN,List.replicate_succ'];simp
section
variable {w1 wr w':World} {H gA base:Nat} {cs:Array Value} {vT vN vR vK:Value} {ts:List Gm.Tm} {ns:List (List Int)} {rs:List Gm.Rl} {an ks:List Int}
theorem jn.other (h:jn w1 wr H gA cs vT vN (.slice none 0 0) ts ns [] an) (ho:aV wr base vK ks) (hb:gA<base) (hg:wr.grownBy w' vK.ownBlock):jn w1 w' H gA cs vT vN (.slice none 0 0) ts ns [] an:=by
 have hA:=h.hA;refine⟨rK h.h ho δ hg,Bf h.t hg (vO h.t ho δ),Bf h.nn hg (vO h.nn ho δ),bF.nil _ _ _,h.a.grown hg (fun e=>?_),h.w.grown hg h.w.size (fun k e=>?_),h.hH,h.hA⟩
 ·have:=(Br ho gA e.symm).1
  omega
 ·have:=(Br ho k e).1
  omega
end
end Go.Proofs.YtjjbaehamplnaaaGreat
