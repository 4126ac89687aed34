/- Part of the proofs over this program: RfMv2, RfEq, Alive16, LkFol, LkSum, FstRef, FstFollow, FstFol2, FstRef3, RfBW, RefRed. -/
import Derived.Test.YtcmhaemaophplaaGreatW2N
set_option linter.all false
namespace Go
def DQ:=@List.getElem_of_eq
def Ex:=@List.getElem_set_ne
end Go
set_option maxRecDepth 100000
set_option maxHeartbeats 40000000
variable {A:Option Go.Addr} {E:List (List (Int×Int))} {G:Go.Proofs.YtcmhaemaophplaaGreat.Gm.Gr} {N N' gk i k m n q:Nat} {j:Int} {nu:List Bool} {r:List Int} {rs:List Go.Proofs.YtcmhaemaophplaaGreat.Gm.Rl} {v':Go.Value} {w wr:Go.World} {x:Go.Proofs.YtcmhaemaophplaaGreat.Gm.Rl}
namespace Go.Proofs.YtcmhaemaophplaaGreat
open Go.RowKit
theorem zfZ (v:Value) (G:Gm.Gr) (B:Nat) (l:List Au.It) (A:Option Addr) (c BL:Nat) (sm:Int) (w:World) (hg:aR w B v G) (hf:Gm.Fit G) (aj:Gm.Ok G) (hB:B<=w.heap.size) (hl:RdQ 2 prF w BL A l) (ak:BL<=w.heap.size) (hi:∀x∈l,Au.isI G x=true) (hs:Au.Srt l) (aa:l.length<=1000) :
  Calls Tryz.prog 39 #[v,.slice A l.length c,.int .i64 sm] w fun e w'=>∃v',e=.returned v'/\aJ 60 2 prF w' w.heap.size v' (Au.mv G l sm)/\Below w.heap.size w w':=by
 have HG:=aA hg;have HF:=aA hf;have ar:=aA aj;have al:=aA hB;have HL:=aA hl;have au:=aA ak;have a9:=aA aa;have av:=aA hi;have aw:=aA hs;obtain⟨AT,cT,AN,cN,AR,cR,rfl,_⟩:=hg;have ab:=aA (aY.start 26 w #[.slice AT G.ts.length cT,.slice AN G.ns.length cN,.slice AR G.rs.length cR,.int .i64 G.st]);have ba:(l.length:Int)<=1000:=by omega
 clear hf aj hB hl ak aa hi hs
 go_enter Tryz.func39,Tryz.ntmps39
 go_wp2;go_loopw [7,8] (fun vo vi wr=>∃i:Nat,i<=l.length/\vi=.int .i64 i/\Hid (aJ 60 2 prF wr (w.heap.size+1) vo (Au.mv G (l.take i) sm))/\Hid (aY 26 w #[.slice AT G.ts.length cT,.slice AN G.ns.length cN,.slice AR G.rs.length cR,.int .i64 G.st] wr)) (fun _ vi _=>l.length-(intOf vi).toNat)
 case atStart=>exact⟨0,AU _,rfl,aA (aJ.nil _ _),ab⟩
 case round =>
  obtain⟨i,hi,rfl,HO,HW⟩:=hrel;obtain⟨Ao,co,rfl,_,_,_⟩:=aJ.form HO.o aG;by_cases f:i<l.length
  ·obtain⟨g,o,rfl,ax,hc⟩:=HL.o (by omega);have ae:g<w.heap.size:=Ag ax au.o;have ay:(i:Int)<(l.length:Int):=by omega
   have kk0:∀y:World,Below w.heap.size w y->y.cell? ⟨g,o+i*2,none⟩=some (.int .i64 (l[i]).1):=fun y h=>(h.cell (p:=⟨g,o+i*2,none⟩) ae).trans (hc i f 0 _ rfl);have kk1:∀y:World,Below w.heap.size w y->y.cell? ⟨g,o+i*2+1,none⟩=some (.int .i64 (l[i]).2):=fun y h=>(h.cell (p:=⟨g,o+i*2+1,none⟩) ae).trans (hc i f 1 _ rfl);have af:Hid (l.take (i+1)=l.take i++[l[i]]):=aA (AI f);have ag:Hid (Au.mv G (l.take i++[l[i]]) sm=if Au.nx G l[i]=some sm then Au.put (Au.mv G (l.take i) sm) ((l[i]).1,(l[i]).2+1) else Au.mv G (l.take i) sm):=aA (Au.mv_snoc (by rw[<-AI f];exact List.Pairwise.sublist (List.take_sublist _ _) aw.o) sm)
   have az:Hid ((Au.mv G (l.take i) sm).length<=1000):=aA (by
    have h1:=Au.mv_le G (l.take i) sm;rw[Bb]at h1
    omega)
   have am:=aA (av.o _ (AC f));have a0:=aA (fun(y:World) (h:Below w.heap.size w y)=>zbC _ G B l[i] y (HG.o.below h al.o) HF.o (Am al.o h.size) am.o)
   have a1:Hid (0<=(l[i]).2/\(l[i]).2<=100):=aA (by
    have h1:=Au.isI_iff.1 am.o;have h2:=Au.sy_le ar.o (Au.rls_mem.2 h1.1)
    omega)
   have z0:∀z:Calm.On wr.heap.size wr,z.1.cell? ⟨w.heap.size,0,none⟩=some (.slice AT G.ts.length cT):=fun z=>(HW.o.on z.2).c 0 _ rfl;have z1:∀z:Calm.On wr.heap.size wr,z.1.cell? ⟨w.heap.size,1,none⟩=some (.slice AN G.ns.length cN):=fun z=>(HW.o.on z.2).c 1 _ rfl;have z2:∀z:Calm.On wr.heap.size wr,z.1.cell? ⟨w.heap.size,2,none⟩=some (.slice AR G.rs.length cR):=fun z=>(HW.o.on z.2).c 2 _ rfl;have z3:∀z:Calm.On wr.heap.size wr,z.1.cell? ⟨w.heap.size,3,none⟩=some (.int .i64 G.st):=fun z=>(HW.o.on z.2).c 3 _ rfl;have q0:∀z:Calm.On wr.heap.size wr,z.1.cell? ⟨g,o+i*2,none⟩=some (.int .i64 (l[i]).1):=fun z=>kk0 z.1 (HW.o.on z.2).below;have q1:∀z:Calm.On wr.heap.size wr,z.1.cell? ⟨g,o+i*2+1,none⟩=some (.int .i64 (l[i]).2):=fun z=>kk1 z.1 (HW.o.on z.2).below;have ab:=zam wr;have KK0:=aA kk0;have KK1:=aA kk1;clear hc kk0 kk1;generalize l[i]=x at *;generalize ao:Au.mv G (l.take i) sm=tt at *;have bb:=aA ao;clear ao;go_wp2_with fail
   refine CalmN.region_tree (fun x=>∃z:Calm.On wr.heap.size wr,x=z.1) (.one [0,1,2,3,4] 5 (.fin [6,7,8,9,10])) (by kernel_rfl) (by kernel_rfl) (fun _ _ d _ _ h=>by cases d <;> exact h) ab.o ?_;simp only[CalmN.wpT,CalmN.wpSt,CalmN.pickOps,Aw,Ah,Aj];repeat (go_big_quiet_step (fail))
   refine Aq ?_;intro KK b;rw[Az (by rfl)];go_wp2_with fail
   refine(a0.o wr.drew (aB HW.o.below 1)).mono ?_;rintro _ w2 ⟨rfl,j⟩;have j:Below wr.heap.size wr w2:=(aB (AB _ wr) 1).trans j;have m:=zbk j;have n:=aA (HW.o.on j);have ac:=aA (HO.o.below j (Af _));clear j z0 z1 z2 z3 q0 q1 ab;cases hq:Au.nx G x with
   | none =>
    have HE:Hid (Au.mv G (l.take (i+1)) sm=tt):=aA (by rw[af.o,ag.o,AG (by rw[hq];simp)]);clear hq;go_wp2_with fail
    refine b _ _ m.o _ (fun _ h=>h) m.o ?_;clear b;repeat (go_big_quiet_step (fail))
    refine Aq ?_;go_wp2;go_roundw
    case rel=>exact⟨i+1,f,by go_num,aA (by rw[HE.o];exact ac.o),n⟩
    case measure=>simp[intOf];omega
   | some s =>
    by_cases ad:s=sm
    ·subst ad;have HE:Hid (Au.mv G (l.take (i+1)) s=Au.put tt (x.1,x.2+1)):=aA (by rw[af.o,ag.o,Az hq]);have bc:IntKind.i64.wrap (x.2+1)=x.2+1:=B5 _ (by have:=a1.o;omega);have a2:(s==s)=true:=by simp
     have HD:Hid (aY 26 w #[.slice AT G.ts.length cT,.slice AN G.ns.length cN,.slice AR G.rs.length cR,.int .i64 G.st] w2.drew):=aA (n.o.drewN 1);have a3:=aA (zde w2.drew (w.heap.size+1) _ tt (x.1,x.2+1) (ac.o.drewN 1) HD.o.size (by have:=az.o;omega));have ap:=aA (fun k e=>(Bn (ac.o.drewN 1) k e).1);have q0:∀z:Calm.OnB g w2,z.1.cell? ⟨g,o+i*2,none⟩=some (.int .i64 x.1):=fun z=>(Cb z.2).trans (KK0.o w2 n.o.below);have q1:∀z:Calm.OnB g w2,z.1.cell? ⟨g,o+i*2+1,none⟩=some (.int .i64 x.2):=fun z=>(Cb z.2).trans (KK1.o w2 n.o.below);have a4:Hid (∃z:Calm.OnB g w2,w2.drew=z.1):=aA ⟨⟨w2.drew,rfl⟩,rfl⟩;clear hq;go_wp2_with fail
     refine b _ _ m.o _ (fun _ h=>h) m.o ?_;clear b;repeat (go_big_quiet_step (fail))
     refine Aq ?_;go_wp2_with fail
     refine CalmN.region_tree (fun x=>∃z:Calm.OnB g w2,x=z.1) (.one [0,1,2,3,4,5,6,7,8,9,10,11,12] 13 (.fin [14])) (by kernel_rfl) (by kernel_rfl) (fun _ _ d _ _ h=>by cases d <;> exact h) a4.o ?_;simp only[CalmN.wpT,CalmN.wpSt,CalmN.pickOps,Aw,Ah,Aj];repeat (go_big_quiet_step (fail))
     refine Aq ?_;intro KK b;rw[Az (by rfl)];go_wp2_with fail
     refine a3.o.mono ?_;rintro _ w5 ⟨v5,rfl,ah,ai⟩;have a5:=aA ah;have a6:=aA (show aY 26 w _ w5 from DM HD.o ai HD.o.size (fun k e=>ap.o k e));have aq:Hid (∃z:Calm.OnB g w2,w5=z.1):=aA ⟨⟨w5,ai.block g (Ag ae (Am (Eu _ 1) HD.o.size)) (fun e=>by have:=ap.o g e.symm;omega)⟩,rfl⟩;obtain⟨A5,c5,rfl,_,_,_⟩:=aJ.form ah aG;clear ah ai q0 q1;go_wp2_with fail
     refine b _ _ aq.o _ (fun _ h=>h) aq.o ?_;clear b;repeat (go_big_quiet_step (fail))
     refine Aq ?_;go_wp2;go_roundw
     case rel=>exact⟨i+1,f,by go_num,aA (by rw[HE.o];exact a5.o),a6⟩
     case measure=>simp[intOf];omega
    ·have HE:Hid (Au.mv G (l.take (i+1)) sm=tt):=aA (by rw[af.o,ag.o,AG (by rw[hq];simp;exact ad)]);have a2:(s==sm)=false:=by rw[AY];exact ad
     clear hq ad;go_wp2_with fail
     refine b _ _ m.o _ (fun _ h=>h) m.o ?_;clear b;repeat (go_big_quiet_step (fail))
     refine Aq ?_;go_wp2;go_roundw
     case rel=>exact⟨i+1,f,by go_num,aA (by rw[HE.o];exact ac.o),n⟩
     case measure=>simp[intOf];omega
  ·obtain rfl:i=l.length:=by omega
   generalize (Au.mv G (l.take l.length) sm).length=n0 at *;rw[Bk]at HO;have HX:=aA (HO.o.mono (base':=w.heap.size) (by omega));go_wp2;go_ret
   exact⟨_,rfl,HX.o,HW.o.below⟩
theorem zhn {y x:Int×Int} (he:y≠x):(∃b,((y.1==x.1)=false/\(y.2==x.2)=b))\/((y.1==x.1)=true/\(y.2==x.2)=false):=by
 by_cases e1:y.1=x.1
 ·refine .inr ⟨by rw[BI];exact e1,?_⟩;rw[AY];exact fun e2=>he (Ef e1 e2)
 ·exact .inl ⟨_,by rw[AY];exact e1,rfl⟩
theorem zf0 (a b:List Au.It) (A A':Option Addr) (c c' B:Nat) (w:World) (ha:RdQ 2 prF w B A a) (hb:RdQ 2 prF w B A' b) (hB:B<=w.heap.size) (av:a.length<=9223372036854775807) (r:Bool) (hr:Gm.tr (a=b)=r) :
  Calls Tryz.prog 60 #[.slice A a.length c,.slice A' b.length c'] w fun e w'=>e=.returned (.bool r)/\Below w.heap.size w w':=by
 by_cases hl:a.length=b.length
 ·have HA:=aA ha;have ap:=aA hb;have HB:=aA hB;have HR:=aA hr;have ah:=aA hl;have aw:(a.length:Int)<=9223372036854775807:=by omega
  have ai:((a.length:Int) != (b.length:Int))=false:=by rw[hl];simp
  clear ha hb hB hr;rw[<-hl];rw[<-hl]at ai;clear hl;generalize ad:a.length=n at *
  go_enter Tryz.func60,Tryz.ntmps60
  go_wp2;go_loopw [5] (fun vi wr=>∃i:Nat,i<=n/\vi=.int .i64 i/\Hid (∀j (h:j<a.length) (h2:j<b.length),j<i->a[j]=b[j])/\Hid (Below w.heap.size w wr)) (fun vi _=>n-(intOf vi).toNat)
  case atStart=>exact⟨0,AU _,rfl,aA (fun _ _ _ h=>absurd h (CQ _)),aA (AB _ _)⟩
  case round =>
   obtain⟨i,hi,rfl,HE,HW⟩:=hrel;by_cases aq:i<n
   ·have aa:i<a.length:=by omega
    have ab:i<b.length:=by have:=ah.o;omega
    obtain⟨g,o,rfl,aj,hc⟩:=HA.o (by omega);obtain⟨g',o',rfl,ac,ae⟩:=ap.o (by omega);have k0:∀z:Calm.On wr.heap.size wr,z.1.cell? ⟨g,o+i*2,none⟩=some (.int .i64 (a[i]).1):=fun z=>((HW.o.trans (z.2.mono HW.o.size)).cell (p:=⟨g,o+i*2,none⟩) (Ag aj HB.o)).trans (hc i aa 0 _ rfl);have k1:∀z:Calm.On wr.heap.size wr,z.1.cell? ⟨g,o+i*2+1,none⟩=some (.int .i64 (a[i]).2):=fun z=>((HW.o.trans (z.2.mono HW.o.size)).cell (p:=⟨g,o+i*2+1,none⟩) (Ag aj HB.o)).trans (hc i aa 1 _ rfl);have l0:∀z:Calm.On wr.heap.size wr,z.1.cell? ⟨g',o'+i*2,none⟩=some (.int .i64 (b[i]).1):=fun z=>((HW.o.trans (z.2.mono HW.o.size)).cell (p:=⟨g',o'+i*2,none⟩) (Ag ac HB.o)).trans (ae i ab 0 _ rfl);have l1:∀z:Calm.On wr.heap.size wr,z.1.cell? ⟨g',o'+i*2+1,none⟩=some (.int .i64 (b[i]).2):=fun z=>((HW.o.trans (z.2.mono HW.o.size)).cell (p:=⟨g',o'+i*2+1,none⟩) (Ag ac HB.o)).trans (ae i ab 1 _ rfl);have ar:(i:Int)<(n:Int):=by omega
    have af:Hid (a[i]≠b[i]->r=false):=aA (fun h=>by
     rw[<-HR.o,Ds];intro h2;have h2:=Gm.tr_iff.1 h2;subst h2;exact h rfl)
    have ag:Hid (a[i]=b[i]->∀j (h:j<a.length) (h2:j<b.length),j<i+1->a[j]=b[j]):=aA (fun h1 j h h2 h3=>by
     rcases Bx j i with q|q
     ·exact HE.o j h h2 q
     ·obtain rfl:j=i:=by omega
      exact h1)
    have ak:=zam wr;have al:Hid (Below w.heap.size w wr.drew):=aA (aB HW.o 1);clear hc ae ad;generalize a[i]=y at *;generalize b[i]=x at *;by_cases he:y=x
    ·have HX:=aA (ag.o he);subst he;have am:(y.1==y.1)=true:=by simp
     have ao:(y.2==y.2)=true:=by simp
     clear af ag;go_wp2_with fail
     refine CalmN.region_tree (fun x=>∃z:Calm.On wr.heap.size wr,x=z.1) (.fin [0,1,2,3,4,5,6,7,8]) (by kernel_rfl) (by kernel_rfl) (fun _ _ d _ _ h=>by cases d <;> exact h) ak.o ?_;simp only[CalmN.wpT,CalmN.pickOps,Aw,Ah,Aj];repeat (go_big_quiet_step (fail))
     refine Aq ?_;clear k0 k1 l0 l1;go_wp2;go_roundw
     case rel=>exact⟨i+1,aq,by go_num,HX,al⟩
     case measure=>simp[intOf];omega
    ·have HF:=aA (af.o he);have au:=zhn he;clear af ag he;rcases au with⟨b0,am,ao⟩|⟨am,ao⟩
     all_goals
      go_wp2_with fail
      refine CalmN.region_tree (fun x=>∃z:Calm.On wr.heap.size wr,x=z.1) (.fin [0,1,2,3,4,5,6,7,8]) (by kernel_rfl) (by kernel_rfl) (fun _ _ d _ _ h=>by cases d <;> exact h) ak.o ?_;simp only[CalmN.wpT,CalmN.pickOps,Aw,Ah,Aj];repeat (go_big_quiet_step (fail))
      refine Aq ?_;clear k0 k1 l0 l1;go_wp2;go_ret
      exact⟨aE HF.o.symm,al.o⟩
   ·obtain rfl:i=n:=by omega
    have HF:Hid (r=true):=aA (by
     rw[<-HR.o];refine Gm.tr_iff.2 (Au.items_eq (ad.trans ah.o) fun j h h2=>HE.o j h h2 (by omega))
     )
    clear ad;go_wp2;go_ret
    exact⟨aE HF.o.symm,HW.o⟩
 ·have HF:Hid (r=false):=aA (by
   rw[<-hr,Ds];intro h2;have h2:=Gm.tr_iff.1 h2;exact hl (by rw[h2]))
  have ai:((a.length:Int) != (b.length:Int))=true:=by rw[DZ];omega
  clear hl ha hb hr;generalize a.length=na at *;generalize b.length=nb at *
  go_enter Tryz.func60,Tryz.ntmps60
  go_wp2;go_ret
  exact⟨aE HF.o.symm,AB _ _⟩
theorem zem (v:Value) (G:Gm.Gr) (B:Nat) (i:Nat) (w:World) (hg:aR w B v G) (hi:i<=100000) (ht:G.ts.length<=100000) :
  Calls Tryz.prog 38 #[v,.int .i64 (i:Nat)] w fun e w'=>e=.returned (.int .i64 (if(i:Int)<G.ts.length then(i:Int) else -1-((i:Int)-G.ts.length)))/\Below w.heap.size w w':=by
 obtain⟨AT,cT,AN,cN,AR,cR,rfl,_⟩:=hg;have aa:=aA (aY.start 26 w #[.slice AT G.ts.length cT,.slice AN G.ns.length cN,.slice AR G.rs.length cR,.int .i64 G.st]);have x0:=aa.o.c 0 _ rfl;obtain⟨r,hr⟩:∃r,r=(if(i:Int)<G.ts.length then(i:Int) else -1-((i:Int)-G.ts.length)):=⟨_,rfl⟩
 rw[<-hr];by_cases ab:(i:Int)<G.ts.length
 ·rw[Az ab]at hr;subst hr
  go_enter Tryz.func38,Tryz.ntmps38
  go_wp2;go_ret
  exact⟨rfl,aa.o.below⟩
 ·rw[AG ab]at hr;subst hr;have ac:IntKind.i64.wrap ((i:Int)-(G.ts.length:Int))=(i:Int)-(G.ts.length:Int):=B5 _ (by omega);have ad:IntKind.i64.wrap (-1-((i:Int)-(G.ts.length:Int))) = -1-((i:Int)-(G.ts.length:Int)):=B5 _ (by omega)
  go_enter Tryz.func38,Tryz.ntmps38
  go_wp2;go_ret
  exact⟨rfl,aa.o.below⟩
theorem zhg (ss:List StT) (k:List Au.It) (A A':Option Addr) (c c' B:Nat) (w:World) (hs:bW w B A ss) (hk:RdQ 2 prF w B A' k) (hB:B<=w.heap.size) (hn:ss.length<=100000) (hl:∀x∈ss,x.1.length<=9223372036854775807) :
  Calls Tryz.prog 40 #[.slice A ss.length c,.slice A' k.length c'] w fun e w'=>e=.returned (.int .i64 (Au.fnd (ss.map (·.1)) k))/\Below w.heap.size w w':=by
 have HS:=aA hs;have HK:=aA hk;have HB:=aA hB;have HL:=aA hl;have ai:(ss.length:Int)<=100000:=by omega
 clear hs hk hB hl
 go_enter Tryz.func40,Tryz.ntmps40
 go_wp2;go_loopw [5] (fun vi wr=>∃i:Nat,i<=ss.length/\vi=.int .i64 i/\Hid (∀j (_:j<i) (h:j<ss.length),(ss[j]).1≠k)/\Hid (Below w.heap.size w wr)) (fun vi _=>ss.length-(intOf vi).toNat)
 case atStart=>exact⟨0,AU _,rfl,aA (fun _ h=>absurd h (CQ _)),aA (AB _ _)⟩
 case round =>
  obtain⟨i,hi,rfl,HE,HW⟩:=hrel;by_cases aa:i<ss.length
  ·obtain⟨g,o,rfl,ah,hc⟩:=HS.o (by omega);obtain⟨A2,c2,k1,_,_,af⟩:=(hc i aa).1;have k1:=(HW.o.cell (p:=⟨g,o+i*2,none⟩) (Ag ah HB.o)).trans k1;have ag:=aA (fun r (hr:Gm.tr ((ss[i]).1=k)=r)=>zf0 (ss[i]).1 k A2 A' c2 c' B wr (af.below HW.o HB.o) (HK.o.below HW.o HB.o) (Am HB.o HW.o.size) (HL.o _ (AC aa)) r hr)
   have ab:Hid ((ss[i]).1=k->Au.fnd (ss.map (·.1)) k=(i:Int)):=aA (fun e=>Au.fnd_skip (fun j hj hl=>by
    rw[Cs];exact HE.o j hj (by simpa using hl)) (by simpa using aa) (by rw[Cs];exact e))
   have ac:Hid ((ss[i]).1≠k->∀j (_:j<i+1) (h:j<ss.length),(ss[j]).1≠k):=aA (fun e j hj h=>by
    rcases Bx j i with q|q
    ·exact HE.o j q h
    ·obtain rfl:j=i:=by omega
     exact e)
   clear hc af;generalize (ss[i]).1=ki at *;by_cases he:ki=k
   ·have HF:=aA (ab.o he);have ad:=aA (ag.o true (Gm.tr_iff.2 he));clear he ab ac;go_wp2_with fail
    refine ad.o.mono ?_;rintro _ w2 ⟨rfl,hb⟩;have ae:=aA (HW.o.trans (hb.mono HW.o.size));clear hb k1;go_wp2;go_ret
    exact⟨aQ HF.o.symm,ae.o⟩
   ·have HF:=aA (ac.o he);have ad:=aA (ag.o false (by rw[Ds];exact fun h=>he (Gm.tr_iff.1 h)));clear he ab ac;go_wp2_with fail
    refine ad.o.mono ?_;rintro _ w2 ⟨rfl,hb⟩;have ae:=aA (HW.o.trans (hb.mono HW.o.size));clear hb k1;go_wp2;go_roundw
    case rel=>exact⟨i+1,aa,by go_num,HF,ae⟩
    case measure=>simp[intOf];omega
  ·obtain rfl:i=ss.length:=by omega
   have HF:Hid (Au.fnd (ss.map (·.1)) k = -1):=aA (by
    have h1:Au.fnd (ss.map (·.1)) k<0:=Au.fnd_no.2 fun h=>by
     obtain⟨x,hx,e⟩:=Bm.1 h;obtain⟨j,hj,rfl⟩:=Bz hx;exact HE.o j hj hj e
    have key:∀l:List (List Au.It),Au.fnd l k<0->Au.fnd l k = -1:=fun l=>by
     induction l with
     | nil=>intro _;rfl
     | cons y l ih =>
      intro h;rw[Au.fnd]at h ⊢;split at h
      ·omega
      ·rename_i hn
       rw[AG hn];split at h
       ·rename_i hq
        rw[Az hq]
       ·omega
    exact key _ h1)
   go_wp2;go_ret
   exact⟨aQ HF.o.symm,HW.o⟩
theorem zlT (g:Value) (B:Nat) (x:World) (hg:aR x B g bB) (hf:Gm.Fit bB) (hB:B<=x.heap.size) :
  Calls Tryz.prog 10 #[g] x fun e w'=>∃A c,e=.returned (.tuple #[.slice A 4 c,.int .i64 0])/\RdM 2 lkF w' w'.heap.size A lk15/\Below x.heap.size x w' :=
 (zdp g bB B x hg hf hB).mono fun e w' k=>by
  obtain⟨A,c,k1,_,_,k4,k5⟩:=k;rw[zmO,zl7]at k1;rw[zl7]at k4;exact⟨A,c,k1,k4,k5⟩
theorem zlS (g:Value) (B:Nat) (x:World) (hg:aR x B g a8) (hf:Gm.Fit a8) (hB:B<=x.heap.size) :
  Calls Tryz.prog 10 #[g] x fun e w'=>∃A c,e=.returned (.tuple #[.slice A 10 c,.int .i64 0])/\RdM 2 lkF w' w'.heap.size A zix/\Below x.heap.size x w' :=
 (zdp g a8 B x hg hf hB).mono fun e w' k=>by
  obtain⟨A,c,k1,_,_,k4,k5⟩:=k;rw[zmN,zl6]at k1;rw[zl6]at k4;exact⟨A,c,k1,k4,k5⟩
theorem zhZ:Gm.Fit Gm.gr0:=⟨by simp[Gm.gr0],by simp[Gm.gr0],by simp[Gm.gr0],by unfold Gm.In;simp[Gm.gr0]⟩
theorem zlU (x:World):Calls Tryz.prog 10 #[.agg #[.slice none 0 0,.slice none 0 0,.slice none 0 0,.int .i64 0]] x fun e w'=>∃A c,e=.returned (.tuple #[.slice A 0 c,.int .i64 1])/\Below x.heap.size x w' :=
 (zdp _ Gm.gr0 x.heap.size x (zjX x _) zhZ (Af _)).mono fun e w' k=>by
  obtain⟨A,c,k1,_,_,_,k5⟩:=k;rw[znG,lkS0]at k1;exact⟨A,c,k1,k5⟩
theorem zgr (w:World):(Instr.build 26 #[]).run Tryz.prog w=.ok (.agg #[.slice none 0 0,.slice none 0 0,.slice none 0 0,.int .i64 0]) w:=EN w 26 _ _ (by kernel_rfl)
theorem zgc (A A':Option Addr) (ca cb:Nat) (w:World) (aa:RdI w w.heap.size A [1]) (ab:RdI w w.heap.size A' [1]) :
  Calls Tryz.prog 14 #[.slice A 1 ca,.slice A' 1 cb] w fun e w'=>e=.returned (.bool true)/\∃n,w'=w.drewN n :=
 (zfl A A' ca cb [1] [1] w aa ab (by decide) (by decide)).mono fun e w' h=>⟨by rw[h.1,AL rfl],h.2⟩
def zbx (i:Nat):Nat:=((zix.take i).filter fun r=>r==[(4,8)]).length
theorem zgq (h:i<zix.length):zbx (i+1)=zbx i+if zix[i]=[(4,8)] then 1 else 0:=by
 unfold zbx;rw[AI h,B3,AQ,BX];by_cases e:zix[i]=[(4,8)]
 ·rw[Az e,Az (by rw[e];decide)];rfl
 ·rw[AG e,AG (by rw[BI];exact e)];rfl
theorem zig:zbx 10=1:=by decide
theorem zjq (i:Nat):zbx i<=10:=by
 unfold zbx;refine Am (B7 _ _) ?_;rw[Bb];exact Am (Nat.min_le_right _ _) (by decide)
theorem zhC:∀r∈zix,r.length<=1:=by decide
theorem zeM (w:World):Calls Tryz.prog 7 #[] w fun e w'=>e=.returned (.bool true)/\Below w.heap.size w w':=by
 have T1:=aA (zcu zmE bB (by decide) (by decide) znx w w.heap.size rfl);have T2:=aA (fun(w1:World)=>zcu zmD a8 (by decide) (by decide) znw w1 w1.heap.size rfl);have U1:=(show(convert 65 65 (.slice (some ⟨w.heap.size,0,none⟩) 16 16)).run Tryz.prog (w.alloc (.cells #[.int .u8 37,.int .u8 37,.int .u8 32,.int .u8 115,.int .u8 32,.int .u8 58,.int .u8 32,.int .u8 39,.int .u8 97,.int .u8 39,.int .u8 32,.int .u8 115,.int .u8 32,.int .u8 124,.int .u8 32,.int .u8 59] 5))=.ok (.slice (some ⟨w.heap.size,0,none⟩) 16 16) (w.alloc (zby zmE)) from zfh w zmE 16 16)
 have V2:=aA (fun w:World=>show(convert 65 65 (.slice (some ⟨w.heap.size,0,none⟩) 46 46)).run Tryz.prog (w.alloc (.cells #[.int .u8 37,.int .u8 37,.int .u8 32,.int .u8 115,.int .u8 32,.int .u8 58,.int .u8 32,.int .u8 108,.int .u8 32,.int .u8 39,.int .u8 61,.int .u8 39,.int .u8 32,.int .u8 114,.int .u8 32,.int .u8 124,.int .u8 32,.int .u8 114,.int .u8 32,.int .u8 59,.int .u8 32,.int .u8 108,.int .u8 32,.int .u8 58,.int .u8 32,.int .u8 39,.int .u8 42,.int .u8 39,.int .u8 32,.int .u8 114,.int .u8 32,.int .u8 124,.int .u8 32,.int .u8 39,.int .u8 105,.int .u8 39,.int .u8 32,.int .u8 59,.int .u8 32,.int .u8 114,.int .u8 32,.int .u8 58,.int .u8 32,.int .u8 108,.int .u8 32,.int .u8 59] 5))=.ok (.slice (some ⟨w.heap.size,0,none⟩) 46 46) (w.alloc (zby zmD)) from zfh w zmD 46 46);have ay:zmE.length=16:=rfl;have az:zmD.length=46:=rfl;rw[ay]at T1;rw[az]at T2;clear ay az;have a0:=aA (fun(x:World)=>zlU x);have b2:=fun w=>zgr w
 go_enter Tryz.func7,Tryz.ntmps7
 go_wp2_with fail
 refine T1.o.mono ?_;rintro _ w1 ⟨⟨g,rfl,a1,ac⟩,a2⟩;have a3:=aA (fun(x:World) (h:Below w1.heap.size w1 x)=>zlT g w1.heap.size x (a1.below h (Af _)) ac h.size);obtain⟨AT,cT,AN,cN,AR,cR,rfl,_,_,_,_,_,_⟩:=a1;have a4:=aA a2;have b:=aA (One.start w1 #[.slice AT bB.ts.length cT,.slice AN bB.ns.length cN,.slice AR bB.rs.length cR,.int .i64 bB.st]);have a5:=aA (fun(x:World) (h:One w1 #[.slice AT bB.ts.length cT,.slice AN bB.ns.length cN,.slice AR bB.rs.length cR,.int .i64 bB.st] x)=>B4 (h.c 0 _ rfl) (B4 (h.c 1 _ rfl) (B4 (h.c 2 _ rfl) (h.c 3 _ rfl))));clear a2 U1 T1 ac;obtain⟨wa,ah⟩:∃y,y=w1.alloc (.cells #[.slice AT bB.ts.length cT,.slice AN bB.ns.length cN,.slice AR bB.rs.length cR,.int .i64 bB.st] 26):=⟨_,rfl⟩
 rw[<-ah]at b;go_upto_region 2 with fail
 rw[<-ah];clear ah;obtain⟨x0,x1,x2,x3⟩:=a5.o wa b.o;have l1:w1.heap.size<wa.heap.size:=b.o.size;go_wp2_with fail
 refine(a3.o wa b.o.below).mono ?_;rintro _ w2 ⟨A2,c2,rfl,a6,a9⟩;have ba:=aA (a4.o.trans ((b.o.on a9).below.mono a4.o.size));have bb:=aA a6;clear x0 x1 x2 x3 l1 a6 a9 a3 b a5;have U2:=V2.o w2;have T3:=aA (T2.o w2);clear V2 T2;go_wp2_with fail
 refine T3.o.mono ?_;rintro _ w3 ⟨⟨g2,rfl,bc,ad⟩,af⟩;have bd:=aA (ba.o.trans (af.mono ba.o.size));have bf:=aA (bb.o.below af (Af _));have ai:=aA af.size;clear af U2 T3 bb;have bg:=aA (fun(x:World) (h:Below w3.heap.size w3 x)=>zlS g2 w3.heap.size x (bc.below h (Af _)) ad h.size);obtain⟨AT2,cT2,AN2,cN2,AR2,cR2,rfl,_,_,_,_,_,_⟩:=bc;have d:=aA (One.start w3 #[.slice AT2 a8.ts.length cT2,.slice AN2 a8.ns.length cN2,.slice AR2 a8.rs.length cR2,.int .i64 a8.st]);have bh:=aA (fun(x:World) (h:One w3 #[.slice AT2 a8.ts.length cT2,.slice AN2 a8.ns.length cN2,.slice AR2 a8.rs.length cR2,.int .i64 a8.st] x)=>B4 (h.c 0 _ rfl) (B4 (h.c 1 _ rfl) (B4 (h.c 2 _ rfl) (h.c 3 _ rfl))));clear ad;obtain⟨wb,aj⟩:∃y,y=w3.alloc (.cells #[.slice AT2 a8.ts.length cT2,.slice AN2 a8.ns.length cN2,.slice AR2 a8.rs.length cR2,.int .i64 a8.st] 26):=⟨_,rfl⟩
 rw[<-aj]at d;go_upto_region 4 with fail
 rw[<-aj];clear aj;obtain⟨x0,x1,x2,x3⟩:=bh.o wb d.o;have l1:w3.heap.size<wb.heap.size:=d.o.size;go_wp2_with fail
 refine(bg.o wb d.o.below).mono ?_;rintro _ w4 ⟨A4,c4,rfl,bi,bj⟩;have aa:=aA ((d.o.on bj).below);have bk:=aA (bd.o.trans (aa.o.mono bd.o.size));have bl:=aA (bf.o.below aa.o ai.o);have bm:=aA (Am ai.o aa.o.size);have bo:=aA bi;clear x0 x1 x2 x3 l1 bi bj bg d bh aa bf ai;go_wp2_with fail
 refine(a0.o w4).mono ?_;rintro _ w5 ⟨A5,c5,rfl,f⟩;have bp:=aA (bk.o.trans (f.mono bk.o.size));have bq:=aA (bl.o.below f bm.o);have b3:=aA (bo.o.below f (Af _));have ag:=aA (Am bm.o f.size);have br:=aA f.size;clear f a0 b2 bl bo;obtain⟨gA,oA,rfl,bs,bu⟩:=bq.o (by decide);obtain⟨Ar,cr,k0,_,_,ak⟩:=bu 0 (by decide);obtain⟨gr,or,rfl,bv,al⟩:=ak (by decide);have k0:w5.cell? ⟨gA,oA,none⟩=some (.slice (some ⟨gr,or,none⟩) 1 cr):=k0;have k1:w5.cell? ⟨gr,or,none⟩=some (.int .i64 1):=al 0 (by decide) 0 _ rfl;have k2:w5.cell? ⟨gr,or+1,none⟩=some (.int .u32 2):=al 0 (by decide) 1 _ rfl;have l0:gA<w5.heap.size:=Ag bs ag.o;have lr0:gr<w5.heap.size:=Ag bv ag.o;have b4:Hid (RdQ 2 lkF w5 w2.heap.size (some ⟨gr,or,none⟩) [(1,2)]):=aA ak;clear bu al ak bs bv bq;go_wp2;go_loopw [13,14] (fun vc vi wr=>∃i:Nat,i<=10/\vi=.int .i64 i/\vc=.int .i64 (zbx i)/\Hid (wr=w5)) (fun _ vi _=>10-(intOf vi).toNat)
 case atStart=>exact⟨0,AU _,rfl,rfl,aA rfl⟩
 case round =>
  obtain⟨i,hi,rfl,rfl,HW⟩:=hrel;obtain rfl:=HW.o;rename World=>wr;have b5:(zbx i:Int)<=10:=by have:=zjq i;omega
  by_cases am:i<10
  ·have b6:zix.length=10:=rfl;have ab:i<zix.length:=by omega
   obtain⟨gM,oM,rfl,bw,bx⟩:=b3.o (by decide);obtain⟨Ai,ci,m0,_,_,bz⟩:=bx i ab;have lM:gM<wr.heap.size:=Ag bw br.o;have j:=aA (zgq ab);have ao:=zhC _ (AC ab);have cf:((i:Nat):Int)<10:=by omega
   have b7:=aA bz;have k:=aA am;clear bx bw bz b6;generalize zix[i]=row at *;clear ab am
   match row,ao with
   | [],_ =>
    have HC:Hid (zbx (i+1)=zbx i):=aA (by rw[j.o,AG (by decide)];rfl);have m0:wr.cell? ⟨gM,oM+i,none⟩=some (.slice Ai 0 ci):=m0;clear j;go_wp2;go_roundw
    case rel=>exact⟨i+1,k.o,by go_num,by rw[HC.o],aA trivial⟩
    case measure=>simp[intOf];have:=k.o;omega
   | [x],_ =>
    obtain⟨gx,ox,rfl,bD,ap⟩:=b7.o (by simp);have m0:wr.cell? ⟨gM,oM+i,none⟩=some (.slice (some ⟨gx,ox,none⟩) 1 ci):=m0;have lx:gx<wr.heap.size:=Ag bD br.o;have m1:wr.cell? ⟨gx,ox,none⟩=some (.int .i64 x.1):=ap 0 (by simp) 0 _ rfl;have m2:wr.cell? ⟨gx,ox+1,none⟩=some (.int .u32 x.2):=ap 0 (by simp) 1 _ rfl;clear ap bD;by_cases he:x=(4,8)
    ·subst he;have HC:Hid (zbx (i+1)=zbx i+1):=aA (by rw[j.o,Az rfl]);clear j;go_wp2;go_roundw
     case rel=>exact⟨i+1,k.o,by go_num,by rw[HC.o];go_num,aA trivial⟩
     case measure=>simp[intOf];have:=k.o;omega
    ·have HC:Hid (zbx (i+1)=zbx i):=aA (by rw[j.o,AG (fun e=>he (by injection e))];rfl);have b8:=zhn he;clear j he;rcases b8 with⟨b0,b9,ca⟩|⟨b9,ca⟩
     all_goals
      go_wp2;go_roundw
      case rel=>exact⟨i+1,k.o,by go_num,by rw[HC.o],aA trivial⟩
      case measure=>simp[intOf];have:=k.o;omega
  ·obtain rfl:i=10:=by omega
   rw[zig];clear am hi b5;have aq:=aA (show Lk.rl [(1,2)] 1=[1] by decide);have ar:=aA (show Lk.rl [(1,2)] 0=[] by decide);have cb:Hid (∀x∈[((1:Int),(2:Int))],znL x):=aA (by unfold znL Gm.In;simp);have au:=aA (fun(n:Int) (x:World) (h:Below wr.heap.size wr x)=>zf9 [(1,2)] n (some ⟨gr,or,none⟩) cr w2.heap.size x (b4.o.below h ag.o) (Am ag.o h.size) cb.o (by decide));have l:=aA (show Calls Tryz.prog 15 #[.slice (some ⟨gr,or,none⟩) 1 cr,.int .i64 1] wr _ from au.o 1 wr (AB _ _));go_wp2_with fail
   refine l.o.mono ?_;rintro _ w6 ⟨u6,rfl,av,bM⟩;rw[aq.o]at av;obtain⟨A6,c6,rfl,_,_,bT⟩:=aS.form av;have bX:=aA (show Calls Tryz.prog 14 #[.slice A6 1 c6,.slice (some ⟨w6.heap.size,0,none⟩) 1 1] (w6.alloc (.cells #[.int .i64 1] 3)) _ from zgc A6 (some ⟨w6.heap.size,0,none⟩) c6 1 (w6.alloc (zbz [1])) ((bT.below ((AB _ _).alloc (Af _) (zbz [1])) (Af _)).more (by simp)) (zhD w6 [1]).1);have aw:=aA bM;have cc:=aA k0;have bY:=aA l0;clear bM av bT k0 k1 k2 l0 lr0 l;have ae:Hid (Below wr.heap.size wr (w6.alloc (.cells #[.int .i64 1] 3))):=aA (aw.o.alloc aw.o.size _);have e1:([1]:List Int).length=1:=rfl;rw[e1];clear e1;go_wp2_with fail
   refine bX.o.mono ?_;rintro _ w7 ⟨rfl,n7,bZ⟩;have m:Hid (Below wr.heap.size wr w7):=aA (by rw[bZ];exact aB ae.o _);clear bZ bX ae aw;have k0:=(m.o.cell (p:=⟨gA,oA,none⟩) bY.o).trans cc.o;have l0:=Ag bY.o m.o.size;have l:=aA (show Calls Tryz.prog 15 #[.slice (some ⟨gr,or,none⟩) 1 cr,.int .i64 0] w7 _ from au.o 0 w7 m.o);go_wp2_with fail
   refine l.o.mono ?_;rintro _ w8 ⟨u8,rfl,ax,b1⟩;rw[ar.o]at ax;obtain⟨A8,c8,rfl,_,_,cd⟩:=aS.form ax;have ce:=aA (bp.o.trans ((m.o.trans (b1.mono m.o.size)).mono bp.o.size));have e0:([]:List Int).length=0:=rfl;rw[e0];clear ax cd b1 k0 l0 l au e0;go_wp2;go_ret
   exact⟨rfl,ce.o⟩
namespace Lk
open Au Gm Go.Mw
section
variable {G:Gr} {K:List (List It)} {E:List (List (Int×Int))}
theorem zhB {v:Nat} (h:lkAt G K E q k=some v):en G k∈clo G (K.getD q [])/\v=laN G E q (en G k):=by
 unfold lkAt at h;split at h
 ·rename_i c
  injection h with h;exact⟨tr_iff.1 c,h.symm⟩
 ·cases h
theorem zco {x:Int×Int}:x∈lkRow G K E q ↔ ∃k:Nat,k<G.rs.length/\en G k∈clo G (K.getD q [])/\x=((k:Int),(laN G E q (en G k):Int)):=by
 unfold lkRow;rw[List.mem_filterMap]
 constructor
 ·rintro⟨k,hk,h⟩;cases e:lkAt G K E q k with
  | none=>rw[e]at h;cases h
  | some v =>
   rw[e]at h;injection h with h;obtain⟨h1,rfl⟩:=zhB e;exact⟨k,BO.1 hk,h1,h.symm⟩
 ·rintro⟨k,hk,h1,rfl⟩;refine⟨k,BO.2 hk,?_⟩;unfold lkAt;rw[Az (tr_iff.2 h1)];rfl
theorem zja (q:Nat):(lkRow G K E q).Pairwise fun a b=>a.1<b.1:=by
 unfold lkRow;refine List.Pairwise.filterMap _ (fun a b aa c hc d hd=>?_) (za6 _);cases e1:lkAt G K E q a with
 | none=>rw[e1]at hc;cases hc
 | some v =>
  cases e2:lkAt G K E q b with
  | none=>rw[e2]at hd;cases hd
  | some u =>
   rw[e1]at hc;rw[e2]at hd;cases hc
   cases hd
   show(a:Int)<(b:Int)
   omega
theorem zhz (q:Nat):(lkRow G K E q).length<=G.rs.length:=by
 unfold lkRow
 have:=List.length_filterMap_le (fun k=>(lkAt G K E q k).map fun v=>((k:Int),(v:Int))) (List.range G.rs.length)
 simpa using this
structure FolS (G:Gr) (ls:List (List (Int×Int))) (W:List Nat):Prop where
 le:ls.length<=300
 ne:ls.length≠0
 lr:∀r∈ls,r.length<=40
 et:∀q (hq:q<ls.length) k (hk:k<ls[q].length),∃(n v:Nat) (hn:n<G.rs.length),ls[q][k]=((n:Int),(v:Int))/\v≠0/\v<4294967296/\W.getD (G.rs[n]).l.toNat 0 ||| v=W.getD (G.rs[n]).l.toNat 0
 up:∀q (hq:q<ls.length) k (hk:k+1<ls[q].length),ls[q][k].1<ls[q][k+1].1
 al:∀n:Nat,n<G.rs.length->∃q,∃hq:q<ls.length,∃x∈ls[q],x.1=(n:Int)
theorem lk_fol (hb:isB G=true) (hk:bld G=some (K,E)):FolS G (lkS G) (flw G):=by
 obtain⟨hi,hE,h3⟩:=bld_inv hk;have hr:=isB_right hb;have d:=right_ok.1 hr;have hu:=isB_use hb;have ad:G.rs.length<=40:=d.r40;have ht:G.ts.length<=24:=((terms_iff G.ts).1 d.t).1;have hp:∀x∈G.rs,Al true G.rs x.r:=fun x hx=>(hu x hx).2;have hs:=lk_ok hb hk
 have b:∀q (hq:q<(lkS G).length),q<K.length/\(lkS G)[q]=lkRow G K E q:=fun q hq=>by
  have h1:q<K.length:=by rw[hs,Bd,DG]at hq;exact hq
  refine⟨h1,?_⟩;rw[DQ hs,Cs,Eb]
 have aa:(lkS G).length=K.length:=by rw[hs,Bd,DG]
 refine⟨by omega,?_,fun r h=>?_,fun q hq k ab=>?_,fun q hq k ab=>?_,fun n hn=>?_⟩
 ·have:=(AZ.1 hi.h0).1
  omega
 ·obtain⟨q,hq,rfl⟩:=Bz h;rw[(b q hq).2];exact Am (zhz q) ad
 ·have hm:(lkS G)[q][k]∈lkRow G K E q:=by
   have:=AC ab
   rw[<-(b q hq).2];exact this
  obtain⟨n,hn,h1,h2⟩:=zco.1 hm;have ae:=(b q hq).1;refine⟨n,laN G E q (en G n),hn,h2,?_,laN_lt ht q _,CH fun t=>Bt.2 ?_⟩
  ·obtain⟨t,ac⟩:=zjQ hi hE hp q ae _ h1;have h0:=(zjd d ac).1;exact zbA (t:=t.toNat) ((zcq d q _ _).2 (by rw[Bq h0];exact ac))
  ·rw[Ck,CD];refine⟨fun h=>h.elim id fun h=>?_,.inl⟩;have h3:=(zcq d q _ t).1 h;have h4:=(znr hi h3).2 n hn rfl;rw[zh0 d,Bq (d.lin _ (AC hn)).1];exact h4
 ·have af:=CB.1 (zja (G:=G) (K:=K) (E:=E) q);have e:=(b q hq).2;have l1:k<(lkRow G K E q).length:=by rw[<-e];omega
  have l2:k+1<(lkRow G K E q).length:=by rw[<-e];omega
  have:=af k (k+1) l1 l2 (by omega)
  rw[DQ e,DQ e];exact this
 ·obtain⟨i,t,h1⟩:=zhJ hi hE d (hu _ (AC hn)).1 n hn rfl;obtain⟨j,h2⟩:=zbG hi hE d hn h1 (G.rs[n]).r.length (Af _);have h4:=la_in hi h2;rw[<-zkZ hn]at h4;refine⟨j,by rw[aa];exact h4.1,((n:Int),(laN G E j (en G n):Int)),?_,rfl⟩;rw[(b j (by rw[aa];exact h4.1)).2];exact zco.2 ⟨n,hn,h4.2,rfl⟩
end
end Lk
end Go.Proofs.YtcmhaemaophplaaGreat
namespace Go.Proofs.YtcmhaemaophplaaGreat
open Go.RowKit
namespace Lk
open Au Gm Go.Mw
section
variable {G:Gr} {K:List (List It)} {E:List (List (Int×Int))}
theorem zhA (q:Nat):lkRow G K E q=((clo G (K.getD q [])).filter (isC G)).map fun x=>(x.1,(laN G E q x:Int)):=by
 have e1:lkRow G K E q=(((List.range G.rs.length).filter fun k=>tr (en G k∈clo G (K.getD q []))).map (en G)).map fun x=>(x.1,(laN G E q x:Int)):=by
  unfold lkRow lkAt;rw[DU];generalize List.range G.rs.length=r;induction r with
  | nil=>rfl
  | cons k r ih =>
   rw[List.filterMap_cons,BX];by_cases c:tr (en G k∈clo G (K.getD q []))=true
   ·rw[Az c,Az c];simp only[Bw,Function.comp];rw[ih];rfl
   ·rw[AG c,AG c];exact ih
 rw[e1]
 congr 1
 refine(zb7 ((clo_srt _ _).filter _) (zj3 _ _) fun z=>?_).symm;rw[BU,Bm]
 constructor
 ·rintro⟨hz,hc⟩;unfold isC at hc;rw[AV,BZ,Dw]at hc;have hI:=isI_iff.1 (clo_is hz)
  have hn:(sy G z.1).length<=z.2.toNat:=by
   unfold nx at hc;exact Ev.1 hc.1
  have he:en G z.1.toNat=z:=by
   unfold en;rw[Bq hc.2];exact Ef rfl (by simp only;omega)
  refine⟨z.1.toNat,BU.2 ⟨BO.2 (by omega),tr_iff.2 (by rw[he];exact hz)⟩,he⟩
 ·rintro⟨k,hk,rfl⟩;obtain⟨h1,h2⟩:=BU.1 hk;refine⟨tr_iff.1 h2,?_⟩;unfold isC;rw[AV,BZ,Dw];unfold en nx;refine⟨?_,by simp only;omega⟩;simp only[BP];exact BD (Af _)
end
def atC (G:Gr) (l:List It) (i:Nat):Nat:=((l.take i).filter (isC G)).length
theorem atC_zero (G:Gr) (l:List It):atC G l 0=0:=rfl
theorem atC_step {G:Gr} {l:List It} (h:i<l.length):atC G l (i+1)=atC G l i+if isC G l[i]=true then 1 else 0:=by
 unfold atC;rw[AI h,B3,AQ,BX];split <;> rfl
theorem atC_le (G:Gr) (l:List It) (i:Nat):atC G l i<=l.length:=by
 unfold atC;refine Am (B7 _ _) ?_;rw[Bb];exact Nat.min_le_right _ _
theorem zmT {G:Gr} {l:List It} {r:List (Int×Int)} {f:It->Int×Int} (hr:r=(l.filter (isC G)).map f) (h:i<l.length) (hc:isC G l[i]=true):∃hk:atC G l i<r.length,r[atC G l i]=f l[i]:=by
 have e:l=l.take i++l[i]::l.drop (i+1):=by rw[<-BG h,Ej]
 have e2:r[atC G l i]?=some (f l[i]):=by
  subst hr
  have e3:l.filter (isC G)=(l.take i).filter (isC G)++l[i]::(l.drop (i+1)).filter (isC G):=by
   conv=>lhs;rw[e]
   rw[B3,BX,Az hc]
  rw[e3,Bf,B8 (by rw[Bd];exact Af _),Bd];unfold atC;rw[Di];rfl
 obtain⟨h1,h2⟩:=AZ.1 e2;exact⟨h1,h2⟩
theorem zk4 {G:Gr} {l:List It} {r:List (Int×Int)} {f:It->Int×Int} (hr:r=(l.filter (isC G)).map f):atC G l l.length=r.length:=by
 subst hr;unfold atC;rw[Bk,Bd]
structure StdS (G:Gr) (l:List It) (r:List (Int×Int)):Prop where
 n:∀i (h:i<l.length),isC G l[i]=true->∃hk:atC G l i<r.length,(r[atC G l i]).1=(l[i]).1
 e:atC G l l.length=r.length
section
variable {G:Gr} {K:List (List It)} {E:List (List (Int×Int))}
theorem zl4 (hb:isB G=true) (hk:bld G=some (K,E)):(lkS G).length=K.length/\∀q (hq:q<K.length) (h2:q<(lkS G).length),StdS G (clo G K[q]) (lkS G)[q]:=by
 have hs:=lk_ok hb hk;have aa:(lkS G).length=K.length:=by rw[hs,Bd,DG]
 refine⟨aa,fun q hq h2=>?_⟩;have e1:(lkS G)[q]=lkRow G K E q:=by rw[DQ hs,Cs,Eb]
 have e2:K.getD q []=K[q]:=by rw[Ap,AF hq];rfl
 have e3:=zhA (G:=G) (K:=K) (E:=E) q;rw[<-e1,e2]at e3
 exact⟨fun i h hc=>by
  obtain⟨hk,e⟩:=zmT e3 h hc;exact⟨hk,by rw[e]⟩,zk4 e3⟩
theorem zgl (aa:Ok G) {j:Nat} (hj:j<G.ns.length):∃k,∃hk:k<G.rs.length,(G.rs[k]).l=(j:Int):=by
 have h:=zc5 (n:=G.ns.length) (G.rs.map Rl.l) 0 aa.tp;have h1:(j:Int)∈ups G.ns.length:=(zee _ _).2 ⟨by omega,by omega⟩;rw[<-h,ord_mem]at h1;rcases h1 with h1|h1
 ·simp[ups]at h1
 ·obtain⟨x,hx,e⟩:=Bm.1 h1;obtain⟨k,hk,rfl⟩:=Bz hx;exact⟨k,hk,e⟩
theorem zl3 (hb:isB G=true) (hk:bld G=some (K,E)) {j t:Nat} (hj:j<G.ns.length) (ht:((flw G).getD j 0).testBit t=true):∃q,∃hq:q<(lkS G).length,∃k,∃h2:k<(lkS G)[q].length,∃n,∃hn:n<G.rs.length,(lkS G)[q][k].1=(n:Int)/\(G.rs[n]).l=(j:Int)/\((lkS G)[q][k].2.toNat).testBit t=true:=by
 obtain⟨hi,hE,h3⟩:=bld_inv hk;have aa:=right_ok.1 (isB_right hb);have hu:=isB_use hb;obtain⟨n,hn,hl⟩:=zgl aa hj;have hf:=(zh0 aa j t).1 ht;rw[<-hl]at hf;obtain⟨q,h1⟩:=zmz hi hE aa (fun x hx=>(hu x hx).1) hn hf;have h4:=la_in hi h1;rw[<-zkZ hn]at h4 h1;have hs:=lk_ok hb hk;have ab:(lkS G).length=K.length:=by rw[hs,Bd,DG]
 have hq:q<(lkS G).length:=by rw[ab];exact h4.1
 have e1:(lkS G)[q]=lkRow G K E q:=by rw[DQ hs,Cs,Eb]
 have hm:((n:Int),(laN G E q (en G n):Int))∈(lkS G)[q]:=by rw[e1];exact zco.2 ⟨n,hn,h4.2,rfl⟩
 obtain⟨k,ac,e⟩:=Bz hm;exact⟨q,hq,k,ac,n,hn,by rw[e],hl,by rw[e];exact(zcq aa q _ t).2 h1⟩
end
structure SumR (G:Gr) (ls:List (List (Int×Int))) (W:List Nat) (i k:Nat) (S:List Nat):Prop where
 l:S.length=G.ns.length
 u:U32 S
 sd:∀j:Nat,Sub (S.getD j 0) (W.getD j 0)
 s:∀q (hq:q<ls.length),q<i->∀k (hk:k<ls[q].length) (n:Nat) (hn:n<G.rs.length),ls[q][k].1=(n:Int)->Sub (ls[q][k].2.toNat) (S.getD (G.rs[n]).l.toNat 0)
 c:∀(hi:i<ls.length) j (hj:j<ls[i].length),j<k->∀(n:Nat) (hn:n<G.rs.length),ls[i][j].1=(n:Int)->Sub (ls[i][j].2.toNat) (S.getD (G.rs[n]).l.toNat 0)
theorem zjK (n j:Nat):(List.replicate n 0).getD j 0=0:=by
 rw[Ap,Cy];split <;> rfl
theorem SumR.start (G:Gr) (ls:List (List (Int×Int))) (W:List Nat):SumR G ls W 0 0 (List.replicate G.ns.length 0) :=
 ⟨by simp,fun i=>(by rw[zjK];decide),fun j t h=>(by rw[zjK,CR]at h;cases h),fun _ _ h=>absurd h (CQ _),fun _ _ _ h=>absurd h (CQ _)⟩
theorem ziV {S:List Nat} {a v j:Nat} (ha:a<S.length):(S.set a (S.getD a 0 ||| v)).getD j 0=if a=j then S.getD a 0 ||| v else S.getD j 0:=by
 rw[Ap,CT];by_cases e:a=j
 ·subst e;rw[Az rfl,Az rfl,Az ha];rfl
 ·rw[AG e,AG e,Ap]
theorem zjN {S:List Nat} {a v j:Nat} (ha:a<S.length):Sub (S.getD j 0) ((S.set a (S.getD a 0 ||| v)).getD j 0):=by
 rw[ziV ha];split
 ·rename_i e;subst e;exact Sub.inl _ _
 ·exact Sub.refl _
theorem SumR.step {G:Gr} {ls:List (List (Int×Int))} {W:List Nat} {S:List Nat} (h:SumR G ls W i k S) (hi:i<ls.length) (hk:k<ls[i].length) {v lf:Nat} (hn:n<G.rs.length) (he:ls[i][k]=((n:Int),(v:Int))) (hl:(G.rs[n]).l=(lf:Int)) (ab:lf<G.ns.length) (hv:v<4294967296) (hw:W.getD lf 0 ||| v=W.getD lf 0):SumR G ls W i (k+1) (S.set lf (S.getD lf 0 ||| v)):=by
 have ha:lf<S.length:=by rw[h.l];exact ab
 refine⟨by rw[Cu];exact h.l,fun j=>?_,fun j=>?_,fun q hq ac k' ad n' aa e=>(h.s q hq ac k' ad n' aa e).trans (zjN ha),fun ae j hj af n' aa e=>?_⟩
 ·rw[ziV ha];split
  ·exact or32 (h.u lf) hv
  ·exact h.u j
 ·rw[ziV ha];split
  ·rename_i e
   subst e;intro t ht;rw[Ck,CD]at ht;exact ht.elim (h.sd _ t) (Sub.of hw t)
  ·exact h.sd j
 ·by_cases e2:j=k
  ·subst e2;rw[he]at e ⊢
   have:n'=n:=by simp only at e;omega
   subst this;have e3:(G.rs[n']).l.toNat=lf:=by rw[hl];rfl
   rw[e3,ziV ha,Az rfl];simp only[BP];exact Sub.inr _ _
  ·exact(h.c ae j hj (by omega) n' aa e).trans (zjN ha)
theorem SumR.next {G:Gr} {ls:List (List (Int×Int))} {W:List Nat} {S:List Nat} (hi:i<ls.length) (h:SumR G ls W i ls[i].length S):SumR G ls W (i+1) 0 S:=by
 refine⟨h.l,h.u,h.sd,fun q hq aa k hk n hn e=>?_,fun _ _ _ h=>absurd h (CQ _)⟩;by_cases e2:q=i
 ·subst e2;exact h.c hi k hk hk n hn e
 ·exact h.s q hq (by omega) k hk n hn e
theorem SumR.done {G:Gr} {K:List (List It)} {S:List Nat} (hb:isB G=true) (hk:bld G=some (K,E)) (h:SumR G (lkS G) (flw G) (lkS G).length 0 S):S=flw G:=by
 have aa:S.length=(flw G).length:=by rw[h.l,flw_len]
 refine zeV aa fun j t=>⟨h.sd j t,fun ht=>?_⟩
 have hj:j<G.ns.length:=by
  rcases Bx j G.ns.length with q|q
  ·exact q
  ·rw[Ap,BD (by rw[flw_len];exact q),EM,CR]at ht;cases ht
 obtain⟨q,hq,k,h2,n,hn,e1,e2,e3⟩:=zl3 hb hk hj ht
 have:=h.s q hq hq k h2 n hn e1 t e3
 rwa [e2,BP]at this
end Lk
end Go.Proofs.YtcmhaemaophplaaGreat
namespace Go.Proofs.YtcmhaemaophplaaGreat
open Go.RowKit
theorem zdI (l:List Int) (rest:Nat) (nu:List Bool) (fs:List Nat) (A A1 A2:Option Addr) (c c1 c2 B B1 B2:Nat) (w:World) (hr:RdI w B A l) (h1:RdO w B1 A1 nu) (h2:RdZ w B2 A2 fs) (ae:∀z∈l,Gm.In z) (af:∀z∈l,z<=31) (hs:∀z∈l,z<0->-1-z<(fs.length:Int)) (hn:nu.length=fs.length) (hf:Gm.U32 fs) (aa:rest<4294967296) (hl:l.length<=9223372036854775807) :
  Calls Tryz.prog 35 #[.slice A l.length c,.slice A1 nu.length c1,.slice A2 fs.length c2,.int .u32 rest] w fun e w'=>e=.returned (.int .u32 (Gm.ofN nu fs rest l))/\∃q,w'=w.drewN q:=by
 have HR:=aA hr;have H1:=aA h1;have H2:=aA h2;have al:=aA ae;have am:=aA af;have HS:=aA hs;have HN:=aA hn;have HF:=aA hf;have ao:=aA aa;have ap:=aA (Gm.ofN_step nu fs rest l);have h0:(l.length:Int)<=9223372036854775807:=by omega
 obtain⟨r,ab⟩:∃r,r=Gm.ofN nu fs rest l:=⟨_,rfl⟩
 have aq:=aA ab;rw[<-ab];clear hr h1 h2 ae af hs hn hf hl ab aa
 go_enter Tryz.func35,Tryz.ntmps35
 go_wp2
 go_loop [10,9] (fun vi vs=>∃(k s:Nat),k<=l.length/\vi=.int .i64 k/\vs=.int .u32 s/\Hid (s<4294967296)/\Hid (r=s ||| Gm.ofN nu fs rest (l.drop k))) (fun vi _=>l.length-(intOf vi).toNat)
 case atStart=>exact⟨0,0,AU _,rfl,rfl,aA (by decide),aA (by rw[aq.o];simp)⟩
 case round =>
  obtain⟨k,s,hk,rfl,rfl,HL,HE⟩:=hrel;by_cases d:k<l.length
  ·obtain⟨g,o,rfl,ax,hc⟩:=HR.o (by omega);have k0:=hc k d;rw[L.gd_lt d]at k0;have ac:=al.o _ (AC d);have ag:=am.o _ (AC d);have ad:=HS.o _ (AC d);have f:=aA (HE.o.trans (ap.o k d s));clear hc;generalize l[k]=z at *;unfold Gm.In at ac;by_cases i:0<=z
   ·have hb:Gm.bgN fs z=S.bit z:=by unfold Gm.bgN S.bit;rw[Az i,Az (by omega)]
    have hm:Gm.mbN nu z=false:=by unfold Gm.mbN;rw[AO (by omega)];rfl
    rw[hb,hm]at f;have ho:=aA (DI s (S.bit z) HL.o (S.bit_lt z));have ar:=aA (fun w=>ze2 z w (by omega));have d0:decide (0<=z)=true:=AL i;generalize S.bit z=b at *;clear ac ag ad i hb hm;go_wp2_with fail
    refine(ar.o _).mono ?_;rintro _ w2 ⟨rfl,q,rfl⟩;go_wp2_with fail
    go_ret
    exact⟨aQ (by rw[ho.o,f.o];simp),q,rfl⟩
   ·have au:=ad (by omega);obtain⟨m,he⟩:∃m:Nat,-1-z=(m:Int):=⟨(-1-z).toNat,by omega⟩
    rw[he]at au;have hb:Gm.bgN fs z=fs.getD m 0:=by unfold Gm.bgN;rw[AG i,he];simp
    have hm:Gm.mbN nu z=nu.getD m false:=by unfold Gm.mbN;rw[AL (by omega),he];simp
    rw[hb,hm]at f;have av:m<fs.length:=by omega
    have aw:m<nu.length:=by have:=HN.o;omega
    have ay:(m:Int)<(nu.length:Int):=by omega
    obtain⟨g1,o1,rfl,_,ah⟩:=H1.o (by omega);obtain⟨g2,o2,rfl,_,ai⟩:=H2.o.addr (by omega);have k1:=ah m aw;have k2:=ai m av;have ho:=aA (DI s (fs.getD m 0) HL.o (HF.o m));have aj:=aA (Gm.or32 HL.o (HF.o m));have d0:decide (0<=z)=false:=AO i;have d2:IntKind.i64.wrap (-1-z)=(m:Int):=by rw[B5 _ (by omega)];exact he
    generalize fs.getD m 0=b at *;obtain⟨s2,ak⟩:∃s2,s2=s ||| b:=⟨_,rfl⟩
    rw[<-ak]at ho aj f;generalize nu.getD m false=bn at *;clear ac ag ad i hb hm ak ah ai he;cases bn
    ·go_wp2_with fail
     go_ret
     exact⟨aQ (by rw[ho.o,f.o];simp),0,rfl⟩
    ·go_wp2_with fail
     go_round
     case rel=>exact⟨k+1,s2,d,by go_num,by rw[ho.o],aj,aA (by rw[f.o];simp)⟩
     case measure=>simp[intOf];omega
  ·obtain rfl:k=l.length:=by omega
   have ho:=aA (DI s rest HL.o ao.o);have HX:Hid (r=s ||| rest):=aA (by rw[HE.o,Et];rfl);go_wp2_with fail
   go_ret
   exact⟨aQ (by rw[ho.o,HX.o]),0,rfl⟩
theorem Gm.fold_take {f:List Nat->Gm.Rl->List Nat} (h:k<rs.length) (s:List Nat):(rs.take (k+1)).foldl f s=f ((rs.take k).foldl f s) rs[k]:=by
 rw[AI h,Dt];rfl
theorem FsP.fold (hf:Gm.Fit G) (aa:Gm.Ok G):∀(xs:List Gm.Rl) (s:List Nat),(∀x∈xs,x∈G.rs)->FsP G s->FsP G (xs.foldl (Gm.firstN1 (Gm.gn false G.rs G.ns.length)) s)
 | [],_,_,h=>h
 | x::xs,_,hx,h=>FsP.fold hf aa xs _ (fun y hy=>hx y (Bh _ hy)) (h.step hf aa (hx x (Bj ..)))
theorem FsP.times (hf:Gm.Fit G) (aa:Gm.Ok G) (n:Nat):FsP G (Gm.timesN (fun s=>G.rs.foldl (Gm.firstN1 (Gm.gn false G.rs G.ns.length)) s) n (List.replicate G.ns.length 0)):=by
 induction n with
 | zero=>exact FsP.start G
 | succ n ih=>exact ih.fold hf aa _ _ (fun _ h=>h)
theorem zdK (v:Value) (G:Gm.Gr) (B:Nat) (w:World) (hg:aR w B v G) (hf:Gm.Fit G) (hB:B<=w.heap.size) :
  Calls Tryz.prog 34 #[v] w (zjy (Gm.right G) (Gm.fst G) w):=by
 have H1:=aA (fun(x:World) (h:Below w.heap.size w x)=>zaw v G B x (hg.below h hB) hf (Am hB h.size));have I:=aA (fun(q:Gm.right G=true) (x:World) (h:Below w.heap.size w x)=>(show Calls _ _ _ _ (zgz _ _) from(zbq v G B x (hg.below h hB) hf (Am hB h.size)).mono fun e w' k=>k.1 q));obtain⟨AT,cT,AN,cN,AR,cR,rfl,_,⟨b0,b1⟩,⟨b2,b3⟩,_,_,hR⟩:=hg;have J:=aA (One.start w #[.slice AT G.ts.length cT,.slice AN G.ns.length cN,.slice AR G.rs.length cR,.int .i64 G.st]);have bj:=aA hR;have HB:=aA hB;have ae:=aA hf;clear hf hR hB;cases q:Gm.right G
 ·rw[q]at H1;clear q
  go_enter Tryz.func34,Tryz.ntmps34
  go_wp2_with fail
  refine(H1.o _ J.o.below).mono ?_;rintro _ w2 ⟨rfl,hb⟩;have j:=aA (J.o.on hb);clear hb;go_wp2;go_ret
  exact⟨fun h=>by simp at h,fun _=>⟨rfl,j.o.below⟩⟩
 ·have M:=aA (Gm.right_ok.1 q);have HN:Hid (G.ns.length<=40):=aA (by have:=(Gm.nons_iff G).1 M.o.n;omega);have bk:Hid (G.rs.length<=40):=aA M.o.r40;have I:=aA (I.o q);rw[q]at H1;clear q;have b4:=HN.o;have bl:(G.ns.length:Int)<=9223372036854775807:=by omega
  have ar:(G.rs.length:Int)<=9223372036854775807:=by omega
  obtain⟨T,hT⟩:∃x,x=Gm.gn false G.rs G.ns.length:=⟨_,rfl⟩
  have af:Hid (T.length=G.ns.length):=aA (by rw[hT,Gm.gn_len]);have HT:=aA hT;rw[<-hT]at I;clear hT
  go_enter Tryz.func34,Tryz.ntmps34
  go_wp2_with fail
  refine(H1.o _ J.o.below).mono ?_;rintro _ w2 ⟨rfl,hb⟩;have j:=aA (J.o.on hb);have q0:=j.o.c 0 _ rfl;have q1:=j.o.c 1 _ rfl;have q2:=j.o.c 2 _ rfl;have q3:=j.o.c 3 _ rfl;have bm:w.heap.size<w2.heap.size:=j.o.size;clear hb;go_upto_region 4 with fail
  refine(I.o _ j.o.below).mono ?_;rintro _ w3 ⟨g1,rfl,bo,ag,au⟩;have ah:=aA (j.o.on au);have av:=aA ag;have ac:=aA ag.lt;have q1:=ah.o.c 1 _ rfl;have aw:w.heap.size<w3.heap.size:=ah.o.size;rw[af.o];clear au q0 q2 q3 ag bo bm H1 I J;go_upto_region 5 with(at_make;refine zdj rfl (.tmp 15) (.tmp 15) _ rfl Tryz.underlying41 G.ns.length _ _ rfl rfl rfl rfl (by omega) ?_;intro w4 ax ad ai)
  have ay:=aA (ah.o.on ad);have az:Hid (UBZ w4 w3.heap.size (List.replicate G.ns.length 0)):=aA (by unfold UBZ;rw[zeS];exact ax);have b5:=aA (Ag ac.o ad.size);have ab:Hid (UBO w4 g1 T):=aA (av.o.below ad ac.o);have bp:Hid (g1<w3.heap.size):=ac;have a0:Hid (w.heap.size<w3.heap.size):=aA aw;clear ax ad ai q1 aw av ac;obtain⟨f,N⟩:∃f,f=Gm.firstN1 T:=⟨_,rfl⟩
  have bq:=aA N;have br:Hid (∀n,FsP G (Gm.timesN (fun s=>G.rs.foldl f s) n (List.replicate G.ns.length 0))):=aA (fun n=>by rw[N,HT.o];exact FsP.times ae.o M.o n);have aj:Hid (Gm.timesN (fun s=>G.rs.foldl f s) G.ns.length (List.replicate G.ns.length 0)=Gm.fst G):=aA (by rw[N,HT.o];rfl);have bs:Hid (∀(xs:List Gm.Rl) (s:List Nat),(∀x∈xs,x∈G.rs)->FsP G s->FsP G (xs.foldl f s)):=aA (fun xs s hx h=>by rw[N,HT.o];exact h.fold ae.o M.o xs s hx);clear N;go_wp2;go_loopw [5] (fun vn wr=>∃n:Nat,n<=G.ns.length/\vn=.int .i64 n/\Hid (UBZ wr w3.heap.size (Gm.timesN (fun s=>G.rs.foldl f s) n (List.replicate G.ns.length 0)))/\Hid (UBO wr g1 T)/\Hid (One w #[.slice AT G.ts.length cT,.slice AN G.ns.length cN,.slice AR G.rs.length cR,.int .i64 G.st] wr)) (fun vn _=>G.ns.length-(intOf vn).toNat)
  case atStart=>exact⟨0,AU _,rfl,az,ab,ay⟩
  case round =>
   obtain⟨n,hn,rfl,HU,HV,HW⟩:=hrel;obtain⟨wo,bu⟩:∃wo:World,wo=wr:=⟨_,rfl⟩
   subst bu;have q1:=HW.o.c 1 _ rfl;have ld:w.heap.size<wo.heap.size:=HW.o.size;clear az ay ab;by_cases bv:n<G.ns.length
   ·have HP:=aA (br.o n);have bw:Hid (Gm.timesN (fun s=>G.rs.foldl f s) (n+1) (List.replicate G.ns.length 0)=G.rs.foldl f (Gm.timesN (fun s=>G.rs.foldl f s) n (List.replicate G.ns.length 0))):=aA rfl;generalize Gm.timesN (fun s=>G.rs.foldl f s) n (List.replicate G.ns.length 0)=s at *;go_wp2;go_loopw [6] (fun vi wr=>∃i:Nat,i<=G.rs.length/\vi=.int .i64 i/\Hid (UBZ wr w3.heap.size ((G.rs.take i).foldl f s))/\Hid (UBO wr g1 T)/\Hid (One w #[.slice AT G.ts.length cT,.slice AN G.ns.length cN,.slice AR G.rs.length cR,.int .i64 G.st] wr)) (fun vi _=>G.rs.length-(intOf vi).toNat)
    case atStart=>exact⟨0,AU _,rfl,HU,HV,HW⟩
    case round =>
     clear HU HV HW q1 ld;obtain⟨i,hi,rfl,HU,HV,HW⟩:=hrel;have q2:=HW.o.c 2 _ rfl;have ld:w.heap.size<wr.heap.size:=HW.o.size;by_cases aa:i<G.rs.length
     ·obtain⟨g,o,rfl,ak,hc⟩:=bj.o (by omega);obtain⟨k0,⟨A',c',k1,a1,_,a2⟩,k2⟩:=hc i aa;have k0:=(HW.o.below.cell (p:=⟨g,o+i*3,none⟩) (Ag ak HB.o)).trans k0;have k1:=(HW.o.below.cell (p:=⟨g,o+i*3+1,none⟩) (Ag ak HB.o)).trans k1;have k2:=(HW.o.below.cell (p:=⟨g,o+i*3+2,none⟩) (Ag ak HB.o)).trans k2;have b6:g<wr.heap.size:=by have:=HB.o;omega
      have a3:G.rs[i]∈G.rs:=AC aa;have u:=aA (zlC ae.o M.o a3);have a4:=aA (Gm.fold_take (f:=f) aa s);have C:=aA (bs.o (G.rs.take i) s (fun x hx=>Dl hx) HP.o);have al:=aA (a2.keep fun g o hg=>HW.o.below.cell (p:=⟨g,o,none⟩) (Ag hg HB.o));generalize (G.rs.take i).foldl f s=cur at *;generalize G.rs[i]=x at *;obtain⟨l,r,p⟩:=x;obtain⟨m,rfl⟩:∃m:Nat,l=(m:Int):=⟨l.toNat,by have:=u.o.l0;simp only at this;omega⟩
      simp only at k0 k1 k2 al a1;have a5:m<G.ns.length:=by have:=u.o.l1;simp only at this;omega
      have b7:(m:Int)<(G.ns.length:Int):=by omega
      obtain⟨wb,D⟩:∃y,y=wr.alloc (.cells #[.int .i64 m,.slice A' r.length c',.int .i64 p] 48):=⟨_,rfl⟩
      have am:Hid (wb.heap[wr.heap.size]?=some (.cells #[.int .i64 m,.slice A' r.length c',.int .i64 p] 48 (0,0))):=aA (by rw[D];exact AE wr _);have F:Hid (UBZ wb w3.heap.size cur):=aA (by rw[D];exact HU.o.alloc _);have ao:Hid (UBO wb g1 T):=aA (by rw[D];exact HV.o.alloc _);have bx:Hid (One w #[.slice AT G.ts.length cT,.slice AN G.ns.length cN,.slice (some ⟨g,o,none⟩) G.rs.length cR,.int .i64 G.st] wb):=aA (by rw[D];exact HW.o.alloc _);have bz:Hid (RdI wb B A' r):=aA (by rw[D];exact al.o.alloc (by have:=HB.o;omega) _);have O:=zdI r 0 T cur A' (some ⟨g1,0,none⟩) (some ⟨w3.heap.size,0,none⟩) c' G.ns.length G.ns.length B wb.heap.size wb.heap.size wb.drew (bz.o.drewN 1) ((ao.o.drewN 1).rd0 ao.o.lt) ((F.o.drewN 1).rd F.o.lt) u.o.i u.o.t (fun z hz h=>by rw[C.o.1];exact u.o.n z hz h) (by rw[C.o.1,af.o]) C.o.2.1 (by decide) (by have:=u.o.c;simp only at this;omega);rw[C.o.1,af.o]at O;have bD:Hid (Gm.ofN T cur 0 r<4294967296):=aA (Gm.U32.ofN C.o.2.1 (by decide) u.o.t);have HX:Hid ((G.rs.take (i+1)).foldl f s=cur.set m (cur.getD m 0 ||| Gm.ofN T cur 0 r)):=aA (by rw[a4.o,bq.o];unfold Gm.firstN1 Gm.addN;simp);have O:=aA O;generalize Gm.ofN T cur 0 r=vv at *;have ho:=DI (cur.getD m 0) vv (C.o.2.1 m) bD.o;have ap:m<cur.length:=by rw[C.o.1];exact a5
      have a6:=aA ap;have km:=F.o.cell m ap;have fm:=F.o.frozen m;have lu:=F.o.lt;have bM:=aA (fun(z:World) (hz:UBZ z w3.heap.size cur)=>hz.set_ m (cur.getD m 0 ||| vv));generalize cur.getD m 0 ||| vv=v2 at *;generalize a9:cur.getD m 0=v1 at *;have ba:=aA a9;clear a9;have b8:wr.heap.size<wb.heap.size:=(Ad.1 am.o).1;have q5:=fun z:Calm.OnB wr.heap.size wb=>AD z.1 _ 0 _ _ _ (z.2.trans am.o);have q6:=fun z:Calm.OnB wr.heap.size wb=>AD z.1 _ 1 _ _ _ (z.2.trans am.o);have bT:Hid (w3.heap.size≠wr.heap.size):=aA (by have:=HU.o.lt;omega);clear hc a2 a1 a3 a5 ap al u a4;go_upto_region 12 with fail
      rw[<-D];clear D q2 k0 k1 k2 ld;refine CalmN.region_tree (fun x=>∃z:Calm.OnB wr.heap.size wb,x=z.1) (.two [0,1,2,3,4,5,6,8,9,10,11] 7 (.one [] 12 (.one [13,14] 15 (.fin []))) 12 (.one [] 7 (.one [13,14] 15 (.fin [])))) (by kernel_rfl) (by kernel_rfl) (fun _ _ d _ _ h=>by cases d <;> exact h) ⟨⟨wb.drew,rfl⟩,rfl⟩ ?_;rw[CalmN.wpT];simp only[CalmN.pickOps,Aw,Ah,Aj];repeat (go_big_quiet_step (fail))
      have hS:∃z:Calm.OnB wr.heap.size wb,wb.drew=z.1:=⟨⟨wb.drew,rfl⟩,rfl⟩
      have kmd:wb.drew.cell? ⟨w3.heap.size,m,none⟩=some (.int .u32 (v1:Int)):=km;have bb:Hid (UBZ wb.drew w3.heap.size cur):=aA (F.o.drewN 1);have bc:Hid (UBO wb.drew g1 T):=aA (ao.o.drewN 1);have bd:Hid (One w #[.slice AT G.ts.length cT,.slice AN G.ns.length cN,.slice (some ⟨g,o,none⟩) G.rs.length cR,.int .i64 G.st] wb.drew):=aA (bx.o.drewN 1);have bf:Hid (wb.drew.heap[wr.heap.size]?=wb.heap[wr.heap.size]?):=aA rfl;generalize wb.drew=wd at *;clear q5 q6 km fm lu;refine Aq ⟨?_,?_⟩
      case' refine_1 =>
       simp only[CalmN.wpT,CalmN.wpSt,CalmN.pickOps,Aw,Ah,Aj];intro KK b;rw[Az (by rfl)];go_wp2_with fail
       refine b _ _ hS _ (fun _ h=>h) hS ?_;clear b;refine Aq ?_;intro KK b;rw[Az (by rfl)];go_wp2_with fail
       refine O.o.mono ?_;rintro _ we ⟨rfl,q,hq⟩;have A:Hid (UBZ we w3.heap.size cur):=aA (by rw[hq];exact bb.o.drewN q);have bg:Hid (UBO we g1 T):=aA (by rw[hq];exact bc.o.drewN q);have bh:Hid (One w #[.slice AT G.ts.length cT,.slice AN G.ns.length cN,.slice (some ⟨g,o,none⟩) G.rs.length cR,.int .i64 G.st] we):=aA (by rw[hq];exact bd.o.drewN q);have E:we.heap[wr.heap.size]?=wb.heap[wr.heap.size]?:=by rw[hq];exact bf.o
       have bi:=aA E;have hS:∃z:Calm.OnB wr.heap.size wb,we=z.1:=⟨⟨we,E⟩,rfl⟩
       have km:=A.o.cell m a6.o;rw[ba.o]at km;have fm:=A.o.frozen m;have lu:=A.o.lt;clear hq E;go_wp2_with fail
       refine b _ _ hS _ (fun _ h=>h) hS ?_;clear b
      case' refine_2 =>
       simp only[CalmN.wpT,CalmN.wpSt,CalmN.pickOps,Aw,Ah,Aj];intro KK b;rw[Az (by rfl)];go_wp2_with fail
       refine O.o.mono ?_;rintro _ we ⟨rfl,q,hq⟩;have A:Hid (UBZ we w3.heap.size cur):=aA (by rw[hq];exact bb.o.drewN q);have bg:Hid (UBO we g1 T):=aA (by rw[hq];exact bc.o.drewN q);have bh:Hid (One w #[.slice AT G.ts.length cT,.slice AN G.ns.length cN,.slice (some ⟨g,o,none⟩) G.rs.length cR,.int .i64 G.st] we):=aA (by rw[hq];exact bd.o.drewN q);have E:we.heap[wr.heap.size]?=wb.heap[wr.heap.size]?:=by rw[hq];exact bf.o
       have bi:=aA E;have hS:∃z:Calm.OnB wr.heap.size wb,we=z.1:=⟨⟨we,E⟩,rfl⟩
       have km:=A.o.cell m a6.o;rw[ba.o]at km;have fm:=A.o.frozen m;have lu:=A.o.lt;clear hq E;go_wp2_with fail
       refine b _ _ hS _ (fun _ h=>h) hS ?_;clear b;refine Aq ?_;intro KK b;rw[Az (by rfl)];go_wp2_with fail
       refine b _ _ hS _ (fun _ h=>h) hS ?_;clear b
      all_goals
       repeat (go_big_quiet_step (fail))
       refine Aq ?_;obtain⟨wf,H⟩:∃y,y=we.setCell ⟨w3.heap.size,m,none⟩ (.int .u32 (v2:Int)):=⟨_,rfl⟩
       have bX:Hid (UBZ wf w3.heap.size ((G.rs.take (i+1)).foldl f s)):=aA (by rw[H,HX.o];exact bM.o we A.o);have bY:Hid (UBO wf g1 T):=aA (by rw[H];exact bg.o.far (by have:=bp.o;simp only;omega) _);have bZ:Hid (One w #[.slice AT G.ts.length cT,.slice AN G.ns.length cN,.slice (some ⟨g,o,none⟩) G.rs.length cR,.int .i64 G.st] wf):=aA (by rw[H];exact Eh (p:=⟨w3.heap.size,m,none⟩) bh.o (by have:=a0.o;simp only;omega) _);have aq:∃z:Calm.OnB wr.heap.size wb,wf=z.1:=⟨⟨wf,by rw[H];exact(AP we ⟨w3.heap.size,m,none⟩ _ _ (fun e=>bT.o e.symm)).trans bi.o⟩,rfl⟩
       intro KK b;rw[Az (by rfl)];go_wp2_with fail
       rw[<-H];refine b _ _ aq _ (fun _ h=>h) aq ?_;clear b H aq;refine Aq ?_;go_wp2;go_roundw
       case rel=>exact⟨i+1,aa,by go_num,bX,bY,bZ⟩
       case measure=>simp[intOf];omega
     ·obtain rfl:i=G.rs.length:=by omega
      rw[Bk]at HU;go_wp2;go_roundw
      case rel=>exact⟨n+1,bv,by go_num,by rw[bw.o];exact HU,HV,HW⟩
      case measure=>simp[intOf];omega
   ·obtain rfl:n=G.ns.length:=by omega
    rw[aj.o]at HU;go_wp2;go_ret
    exact⟨fun _=>⟨w3.heap.size,by rw[Gm.fst_len];rfl,CN a0.o,HU.o,HW.o.below⟩,fun h=>by simp at h⟩
theorem Gm.sufs_len:∀r:List Int,(Gm.sufs r).length=r.length
 | []=>rfl
 | z::r=>by rw[Gm.sufs,Bv,Gm.sufs_len r,Bv]
theorem Gm.sufs_get:∀(r:List Int) (i:Nat) (h:i<r.length),(Gm.sufs r)[i]'(by rw[Gm.sufs_len];exact h)=(r[i],r.drop (i+1))
 | z::r,0,_=>rfl
 | z::r,i+1,h=>by
  simp only[Gm.sufs,List.getElem_cons_succ,List.drop_succ_cons];exact Gm.sufs_get r i (by simpa using h)
theorem Gm.sufs_take (h:i<r.length) (f:List Nat->Int×List Int->List Nat) (s:List Nat):((Gm.sufs r).take (i+1)).foldl f s=f (((Gm.sufs r).take i).foldl f s) (r[i],r.drop (i+1)):=by
 rw[AI (by rw[Gm.sufs_len];exact h),Dt,Gm.sufs_get r i h];rfl
theorem Gm.U32.fw {F s:List Nat} {nt nn:Nat} (hF:Gm.U32 F) (hs:Gm.U32 s) (hx:RlIn nt nn x) {y:Int×List Int} (hy:y∈Gm.sufs x.r):Gm.U32 (Gm.fwN1 nu F x.l s y):=by
 unfold Gm.fwN1;split
 ·refine hs.addN _ (Gm.U32.ofN hF (hs _) fun z hz=>?_);obtain⟨p,e⟩:=Gm.mem_sufs.1 hy;exact hx.t z (by rw[e];simp[hz])
 ·exact hs
section
variable {w2 wx w':World} {n:Nat} {T:List Bool} {F:List Nat} {todo:List Nat} {x9 x13 x3 x4:Value} {g1 h5 g5 c6 c7:Nat}
end
structure FwP (G:Gm.Gr) (s:List Nat):Prop where
 l:s.length=G.ns.length
 u:Gm.U32 s
 sd:∀i t:Nat,(s.getD i 0).testBit t=true->Gm.Fw G t (i:Int)
 e:(s.getD G.st.toNat 0).testBit G.ts.length=true
theorem FwP.start (b:Gm.Ok G):FwP G (Gm.flw0 G):=by
 refine⟨by unfold Gm.flw0;simp,fun i=>?_,fun i t h=>Gm.flw0_snd b i t h,Gm.flw0_st b⟩;have aa:=((Gm.terms_iff G.ts).1 b.t).1;refine DR (n:=32) _ fun t ht=>?_;cases hb:((Gm.flw0 G).getD i 0).testBit t
 ·rfl
 ·have:=Gm.fw_le b (Gm.flw0_snd b i t hb)
  omega
theorem FwP.step (hf:Gm.Fit G) (aa:Gm.Ok G) (hx:x∈G.rs):∀(ys:List (Int×List Int)) (s:List Nat),(∀y∈ys,y∈Gm.sufs x.r)->FwP G s->FwP G (ys.foldl (Gm.fwN1 (Gm.gn false G.rs G.ns.length) (Gm.fst G) x.l) s)
 | [],_,_,h=>h
 | y::ys,s,hy,h=>by
  refine FwP.step hf aa hx ys _ (fun z hz=>hy z (Bh _ hz)) ⟨?_,?_,fun i t hb=>Gm.flw_step aa h.sd hx (hy y (Bj ..)) i t hb,?_⟩
  ·rw[Gm.fwN1_len];exact h.l
  ·exact Gm.U32.fw (Gm.fst_u32 aa) h.u (zlC hf aa hx) (hy y (Bj ..))
  ·unfold Gm.fwN1;split
   ·exact(Gm.addN_bit _ _ _ _ _).2 (.inl h.e)
   ·exact h.e
end Go.Proofs.YtcmhaemaophplaaGreat
namespace Go.Proofs.YtcmhaemaophplaaGreat
open Go.RowKit
theorem FwP.fold (hf:Gm.Fit G) (aa:Gm.Ok G):∀(xs:List Gm.Rl) (s:List Nat),(∀x∈xs,x∈G.rs)->FwP G s->FwP G (xs.foldl (Gm.fwNX (Gm.gn false G.rs G.ns.length) (Gm.fst G)) s)
 | [],_,_,h=>h
 | x::xs,s,hx,h=>FwP.fold hf aa xs _ (fun y hy=>hx y (Bh _ hy)) (FwP.step hf aa (hx x (Bj ..)) _ s (fun _ h=>h) h)
theorem FwP.times (hf:Gm.Fit G) (aa:Gm.Ok G) (n:Nat):FwP G (Gm.timesN (fun s=>G.rs.foldl (Gm.fwNX (Gm.gn false G.rs G.ns.length) (Gm.fst G)) s) n (Gm.flw0 G)):=by
 induction n with
 | zero=>exact FwP.start aa
 | succ n ih=>exact ih.fold hf aa _ _ (fun _ h=>h)
structure R12 (w wr:World) (g1 g5:Nat) (a:Array Value) (T:List Bool) (F:List Nat):Prop where
 t:UBO wr g1 T
 f:UBZ wr g5 F
 o:One w a wr
theorem R12.alloc {g1 g5:Nat} {a:Array Value} {T:List Bool} {F:List Nat} (h:R12 w wr g1 g5 a T F) (x:Obj):R12 w (wr.alloc x) g1 g5 a T F:=⟨h.t.alloc x,h.f.alloc x,h.o.alloc x⟩
theorem R12.drewN {g1 g5:Nat} {a:Array Value} {T:List Bool} {F:List Nat} (h:R12 w wr g1 g5 a T F) (n:Nat):R12 w (wr.drewN n) g1 g5 a T F:=⟨h.t,h.f,h.o.drewN n⟩
theorem R12.put {g1 g5:Nat} {a:Array Value} {T:List Bool} {F:List Nat} (h:R12 w wr g1 g5 a T F) (h1:g1≠gk) (h5:g5≠gk) (hw:w.heap.size+1<=gk) (m:Nat) (u:Value):R12 w (wr.setCell ⟨gk,m,none⟩ u) g1 g5 a T F:=⟨h.t.far h1 u,h.f.far h5 u,Eh (p:=⟨gk,m,none⟩) h.o hw u⟩
theorem zdb (v:Value) (G:Gm.Gr) (B:Nat) (w:World) (hg:aR w B v G) (hf:Gm.Fit G) (hB:B<=w.heap.size) :
  Calls Tryz.prog 17 #[v] w (zjy (Gm.right G) (Gm.flw G) w):=by
 have H1:=aA (fun(x:World) (h:Below w.heap.size w x)=>zaw v G B x (hg.below h hB) hf (Am hB h.size));have Z:=aA (fun(q:Gm.right G=true) (x:World) (h:Below w.heap.size w x)=>(show Calls _ _ _ _ (zgz _ _) from(zbq v G B x (hg.below h hB) hf (Am hB h.size)).mono fun e w' k=>k.1 q));have ab:=aA (fun(q:Gm.right G=true) (x:World) (h:Below w.heap.size w x)=>(show Calls _ _ _ _ (zeO _ _) from(zdK v G B x (hg.below h hB) hf (Am hB h.size)).mono fun e w' k=>k.1 q));obtain⟨AT,cT,AN,cN,AR,cR,rfl,_,⟨cE,cF⟩,⟨cG,cH⟩,_,_,hR⟩:=hg;obtain⟨ga,cI⟩:∃ga:Array Value,ga=#[.slice AT G.ts.length cT,.slice AN G.ns.length cN,.slice AR G.rs.length cR,.int .i64 G.st]:=⟨_,rfl⟩
 have ag:=aA (One.start w #[.slice AT G.ts.length cT,.slice AN G.ns.length cN,.slice AR G.rs.length cR,.int .i64 G.st]);have cf:=aA hR;have HB:=aA hB;have aq:=aA hf;clear hf hR hB;cases q:Gm.right G
 ·rw[q]at H1;clear q
  go_enter Tryz.func17,Tryz.ntmps17
  go_wp2_with fail
  refine(H1.o _ ag.o.below).mono ?_;rintro _ w2 ⟨rfl,hb⟩;have H:=aA (ag.o.on hb);clear hb;go_wp2;go_ret
  exact⟨fun h=>by simp at h,fun _=>⟨rfl,H.o.below⟩⟩
 ·have O:=aA (Gm.right_ok.1 q);have HN:Hid (G.ns.length<=40):=aA (by have:=(Gm.nons_iff G).1 O.o.n;omega);have ah:=aA ((Gm.terms_iff G.ts).1 O.o.t).1;have Z:=aA (Z.o q);have ab:=aA (ab.o q);rw[q]at H1;clear q;have cJ:=HN.o;have cg:(G.ns.length:Int)<=9223372036854775807:=by omega
  have bv:(G.rs.length:Int)<=9223372036854775807:=by omega
  unfold zgz at Z;unfold zeO at ab;rw[Gm.gn_len]at Z;rw[Gm.fst_len]at ab;obtain⟨T,hT⟩:∃x,x=Gm.gn false G.rs G.ns.length:=⟨_,rfl⟩
  have bw:Hid (T.length=G.ns.length):=aA (by rw[hT,Gm.gn_len]);obtain⟨F,hF⟩:∃x,x=Gm.fst G:=⟨_,rfl⟩
  have a4:Hid (F.length=G.ns.length):=aA (by rw[hF,Gm.fst_len]);have bz:Hid (Gm.U32 F):=aA (by rw[hF];exact Gm.fst_u32 O.o);obtain⟨f,ai⟩:∃f,f=Gm.fwNX T F:=⟨_,rfl⟩
  have ch:=aA ai;have ci:Hid (∀n,FwP G (Gm.timesN (fun s=>G.rs.foldl f s) n (Gm.flw0 G))):=aA (fun n=>by rw[ai,hT,hF];exact FwP.times aq.o O.o n);have a5:Hid (Gm.timesN (fun s=>G.rs.foldl f s) G.ns.length (Gm.flw0 G)=Gm.flw G):=aA (by rw[ai,hT,hF];rfl);have cj:Hid (∀(xs:List Gm.Rl) (s:List Nat),(∀x∈xs,x∈G.rs)->FwP G s->FwP G (xs.foldl f s)):=aA (fun xs s hx h=>by rw[ai,hT,hF];exact h.fold aq.o O.o xs s hx);have ck:Hid (∀(x:Gm.Rl) (ys:List (Int×List Int)) (s:List Nat),x∈G.rs->(∀y∈ys,y∈Gm.sufs x.r)->FwP G s->FwP G (ys.foldl (Gm.fwN1 T F x.l) s)):=aA (fun x ys s hx hy h=>by rw[hT,hF];exact FwP.step aq.o O.o hx ys s hy h);rw[<-hT]at Z;rw[<-hF]at ab;clear hT hF ai
  go_enter Tryz.func17,Tryz.ntmps17
  go_upto_region 3 with fail
  refine(H1.o _ ag.o.below).mono ?_;rintro _ w2 ⟨rfl,hb⟩;have H:=aA (ag.o.on hb);clear hb;go_upto_region 3 with fail
  have aj:w.heap.size<w2.heap.size:=H.o.size;have q0:=fun y:Calm.On w2.heap.size w2=>(y.2.cell (p:=⟨w.heap.size,0,none⟩) aj).trans (H.o.c 0 _ rfl);have q1:=fun y:Calm.On w2.heap.size w2=>(y.2.cell (p:=⟨w.heap.size,1,none⟩) aj).trans (H.o.c 1 _ rfl);have q2:=fun y:Calm.On w2.heap.size w2=>(y.2.cell (p:=⟨w.heap.size,2,none⟩) aj).trans (H.o.c 2 _ rfl);have q3:=fun y:Calm.On w2.heap.size w2=>(y.2.cell (p:=⟨w.heap.size,3,none⟩) aj).trans (H.o.c 3 _ rfl);have ak:Hid (∀z,Below w2.heap.size w2 z->∃q:Calm.On w2.heap.size w2,z=q.1):=aA (fun z hz=>⟨⟨z,hz⟩,rfl⟩);have HD:Hid (Below w2.heap.size w2 w2.drew):=aA (aB (AB _ _) 1);refine CalmN.region_tree (fun x=>∃y:Calm.On w2.heap.size w2,x=y.1) (.one [0,2] 1 (.one [] 3 (.fin [4,5]))) (by kernel_rfl) (by kernel_rfl) (fun _ _ d _ _ h=>by cases d <;> exact h) ⟨⟨w2.drew,HD.o⟩,rfl⟩ ?_;simp only[CalmN.wpT,CalmN.wpSt,CalmN.pickOps,Aw,Ah,Aj];repeat (go_big_quiet_step (fail))
  refine Aq ?_;generalize w2.drew=wd at *;clear q0 q1 q2 q3 H1 ag;intro KK b;rw[Az (by rfl)];go_wp2_with fail
  refine(Z.o wd (H.o.on HD.o).below).mono ?_;rintro _ w3 ⟨g1,rfl,bD,bM,hb⟩;have ac:=aA (HD.o.trans (hb.mono HD.o.size));have a6:=aA bM;have cl:=aA (Am HD.o.size bD);clear hb bM bD;go_wp2_with fail
  refine b _ _ (ak.o _ ac.o) _ (fun _ h=>h) (ak.o _ ac.o) ?_;clear b;refine Aq ?_;intro KK b;rw[Az (by rfl)];go_wp2_with fail
  refine(ab.o w3 (H.o.on ac.o).below).mono ?_;rintro _ w4 ⟨g5,rfl,cm,bT,hb⟩;have ar:=aA (ac.o.trans (hb.mono ac.o.size));have I:Hid (R12 w w4 g1 g5 #[.slice AT G.ts.length cT,.slice AN G.ns.length cN,.slice AR G.rs.length cR,.int .i64 G.st] T F):=aA ⟨a6.o.below hb a6.o.lt,bT,H.o.on ar.o⟩;clear hb bT cm Z ab;go_wp2_with fail
  refine b _ _ (ak.o _ ar.o) _ (fun _ h=>h) (ak.o _ ar.o) ?_;clear b;repeat (go_big_quiet_step (fail))
  refine Aq ?_;have q1:=I.o.o.c 1 _ rfl;have cn:w.heap.size<w4.heap.size:=I.o.o.size;clear H ac ar a6 cl ak HD aj;go_upto_region 5 with(at_make;refine zdj rfl (.tmp 20) (.tmp 20) _ rfl Tryz.underlying41 G.ns.length _ _ rfl rfl rfl rfl (by omega) ?_;intro w5 hu hb co)
  have V:=aA (B4 I.o.t.lt (B4 I.o.f.lt (show w.heap.size+1<=w4.heap.size from I.o.o.size)));have au:Hid (R12 w w5 g1 g5 #[.slice AT G.ts.length cT,.slice AN G.ns.length cN,.slice AR G.rs.length cR,.int .i64 G.st] T F):=aA ⟨I.o.t.below hb I.o.t.lt,I.o.f.below hb I.o.f.lt,I.o.o.on hb⟩;have bX:Hid (UBZ w5 w4.heap.size (List.replicate G.ns.length 0)):=aA (by unfold UBZ;rw[zeS];exact hu);clear hu hb I cn q1;generalize w4.heap.size=gk at *;have a9:=(DV au.o.o w.heap.size (by omega)).trans (AE w _);have cp:=O.o.s0;have ba:=O.o.s1;obtain⟨ms,hm⟩:∃m:Nat,G.st=(m:Int):=⟨G.st.toNat,by omega⟩
  have HM:=aA hm;have al:Hid (∀z,z.heap[w.heap.size]?=w5.heap[w.heap.size]?->∃q:Calm.OnB w.heap.size w5,z=q.1):=aA (fun z hz=>⟨⟨z,hz⟩,rfl⟩);have q0:=fun z:Calm.OnB w.heap.size w5=>AD z.1 _ 0 _ _ _ (z.2.trans a9);have q3:=fun z:Calm.OnB w.heap.size w5=>AD z.1 _ 3 _ _ _ (z.2.trans a9);have bY:(2:Nat) ^ G.ts.length=S.bit (G.ts.length:Int):=(S.bit_nat (by have:=ah.o;omega)).symm;have am:Hid ((List.replicate G.ns.length 0).set ms (S.bit (G.ts.length:Int))=Gm.flw0 G):=aA (by unfold Gm.flw0;rw[HM.o,bY];simp);have bZ:=aA (fun w=>ze2 (G.ts.length:Int) w (by have:=ah.o;omega));generalize S.bit (G.ts.length:Int)=vb at *;have b0:ms<G.ns.length:=by omega
  have bb:(ms:Int)<(G.ns.length:Int):=by omega
  have b1:=aA b0;rw[hm]at q3;clear cp ba a9 bY hm b0;have bc:w.heap.size<w5.heap.size:=au.o.o.size;go_upto_region 5 with fail
  refine CalmN.region_tree (fun x=>∃z:Calm.OnB w.heap.size w5,x=z.1) (.one [0,1,2,3,4,5] 6 (.one [7] 8 (.fin []))) (by kernel_rfl) (by kernel_rfl) (fun _ _ d _ _ h=>by cases d <;> exact h) ⟨⟨w5.drew,rfl⟩,rfl⟩ ?_;simp only[CalmN.wpT,CalmN.wpSt,CalmN.pickOps,Aw,Ah,Aj];repeat (go_big_quiet_step (fail))
  refine Aq ?_;have E:=aA (au.o.drewN 1);have N:=aA (bX.o.drewN 1);have X:Hid (w5.drew.heap[w.heap.size]?=w5.heap[w.heap.size]?):=aA rfl;rw[show w5.drewN 1=w5.drew from rfl]at E N;generalize w5.drew=wd at *;clear q0 q3 au bX;intro KK b;rw[Az (by rfl)];go_wp2_with fail
  refine(bZ.o wd).mono ?_;rintro _ we ⟨rfl,q,hq⟩;have ad:Hid (R12 w we g1 g5 #[.slice AT G.ts.length cT,.slice AN G.ns.length cN,.slice AR G.rs.length cR,.int .i64 G.st] T F):=aA (by rw[hq];exact E.o.drewN q);have A:Hid (UBZ we gk (List.replicate G.ns.length 0)):=aA (by rw[hq];exact N.o.drewN q);have av:Hid (we.heap[w.heap.size]?=w5.heap[w.heap.size]?):=aA (by rw[hq];exact X.o);clear hq bZ E N;go_wp2_with fail
  refine b _ _ (al.o _ av.o) _ (fun _ h=>h) (al.o _ av.o) ?_;clear b;repeat (go_big_quiet_step (fail))
  refine Aq ?_;have u5:=A.o.cell ms (by rw[El];exact b1.o);have f5:=A.o.frozen ms;have l5:=A.o.lt;obtain⟨wf,J⟩:∃y,y=we.setCell ⟨gk,ms,none⟩ (.int .u32 (vb:Int)):=⟨_,rfl⟩
  have aw:Hid (R12 w wf g1 g5 #[.slice AT G.ts.length cT,.slice AN G.ns.length cN,.slice AR G.rs.length cR,.int .i64 G.st] T F):=aA (by rw[J];exact ad.o.put (by have:=V.o;omega) (by have:=V.o;omega) V.o.2.2 _ _);have ax:Hid (UBZ wf gk (Gm.flw0 G)):=aA (by rw[J,<-am.o];exact A.o.set_ ms vb);have bd:Hid (wf.heap[w.heap.size]?=w5.heap[w.heap.size]?):=aA (by rw[J];exact(AP _ _ _ _ (by have:=V.o;simp only;omega)).trans av.o);intro KK b;rw[Az (by rfl)];go_wp2_with fail
  rw[<-J];refine b _ _ (al.o _ bd.o) _ (fun _ h=>h) (al.o _ bd.o) ?_;clear b u5 f5 l5 J ad A av bd al X bb b1 HM am bc;refine Aq ?_;go_wp2;go_loopw [6] (fun vn wr=>∃n:Nat,n<=G.ns.length/\vn=.int .i64 n/\Hid (UBZ wr gk (Gm.timesN (fun s=>G.rs.foldl f s) n (Gm.flw0 G)))/\Hid (R12 w wr g1 g5 #[.slice AT G.ts.length cT,.slice AN G.ns.length cN,.slice AR G.rs.length cR,.int .i64 G.st] T F)) (fun vn _=>G.ns.length-(intOf vn).toNat)
  case atStart=>exact⟨0,AU _,rfl,ax,aw⟩
  case round =>
   obtain⟨n,hn,rfl,HU,HW⟩:=hrel;obtain⟨wo,cq⟩:∃wo:World,wo=wr:=⟨_,rfl⟩
   subst cq;have q1:=HW.o.o.c 1 _ rfl;have ld:w.heap.size<wo.heap.size:=HW.o.o.size;clear ax aw;by_cases cr:n<G.ns.length
   ·have HP:=aA (ci.o n);have cs:Hid (Gm.timesN (fun s=>G.rs.foldl f s) (n+1) (Gm.flw0 G)=G.rs.foldl f (Gm.timesN (fun s=>G.rs.foldl f s) n (Gm.flw0 G))):=aA rfl;generalize Gm.timesN (fun s=>G.rs.foldl f s) n (Gm.flw0 G)=s at *;go_wp2;go_loopw [7] (fun vi wr=>∃i:Nat,i<=G.rs.length/\vi=.int .i64 i/\Hid (UBZ wr gk ((G.rs.take i).foldl f s))/\Hid (R12 w wr g1 g5 #[.slice AT G.ts.length cT,.slice AN G.ns.length cN,.slice AR G.rs.length cR,.int .i64 G.st] T F)) (fun vi _=>G.rs.length-(intOf vi).toNat)
    case atStart=>exact⟨0,AU _,rfl,HU,HW⟩
    case round =>
     clear HU HW q1 ld;obtain⟨i,hi,rfl,HU,HW⟩:=hrel;obtain⟨wi,cu⟩:∃wi:World,wi=wr:=⟨_,rfl⟩
     subst cu;have q2:=HW.o.o.c 2 _ rfl;have ld:w.heap.size<wi.heap.size:=HW.o.o.size;by_cases aa:i<G.rs.length
     ·obtain⟨g,o,rfl,bf,hc⟩:=cf.o (by omega);obtain⟨k0,⟨A',c',k1,bg,_,b2⟩,k2⟩:=hc i aa;have k0:=(HW.o.o.below.cell (p:=⟨g,o+i*3,none⟩) (Ag bf HB.o)).trans k0;have k1:=(HW.o.o.below.cell (p:=⟨g,o+i*3+1,none⟩) (Ag bf HB.o)).trans k1;have k2:=(HW.o.o.below.cell (p:=⟨g,o+i*3+2,none⟩) (Ag bf HB.o)).trans k2;have cK:g<wi.heap.size:=by have:=HB.o;omega
      have bh:G.rs[i]∈G.rs:=AC aa;have U:=aA (zlC aq.o O.o bh);have b3:=aA (Gm.fold_take (f:=f) aa s);have b4:=aA (cj.o (G.rs.take i) s (fun x hx=>Dl hx) HP.o);have bi:=aA (fun(ys:List (Int×List Int)) (t:List Nat)=>ck.o G.rs[i] ys t bh);have bj:Hid (∀(z:World) (a:Array Value),One w a z->RdI z B A' G.rs[i].r):=aA (fun z a hz=>b2.keep fun g o hg=>hz.below.cell (p:=⟨g,o,none⟩) (Ag hg HB.o));generalize (G.rs.take i).foldl f s=cur at *;generalize G.rs[i]=x at *;obtain⟨l,r,p⟩:=x;obtain⟨m,rfl⟩:∃m:Nat,l=(m:Int):=⟨l.toNat,by have:=U.o.l0;simp only at this;omega⟩
      simp only at k0 k1 k2 bj bg bi;have b5:m<G.ns.length:=by have:=U.o.l1;simp only at this;omega
      have b6:=aA b5;have b7:r.length<=6:=U.o.c;have cL:(r.length:Int)<=9223372036854775807:=by omega
      have b8:=aA b7;have cv:=aA bg;obtain⟨h,ay⟩:∃h,h=Gm.fwN1 T F (m:Int):=⟨_,rfl⟩
      have cw:Hid ((G.rs.take (i+1)).foldl f s=(Gm.sufs r).foldl h cur):=aA (by rw[b3.o,ch.o,ay];rfl);have cx:Hid (∀(k:Nat) (hk:k<r.length),((Gm.sufs r).take (k+1)).foldl h cur=h (((Gm.sufs r).take k).foldl h cur) (r[k],r.drop (k+1))):=aA (fun k hk=>Gm.sufs_take hk h cur);have cy:Hid (∀(t:List Nat) (z:Int) (q:List Int),h t (z,q)=if z<0 then Gm.addN t (-1-z).toNat (Gm.ofN T F (t.getD m 0) q) else t):=aA (fun t z q=>by rw[ay];unfold Gm.fwN1;simp);have cz:Hid (∀k,FwP G (((Gm.sufs r).take k).foldl h cur)):=aA (fun k=>by rw[ay];exact bi.o _ cur (fun y hy=>Dl hy) b4.o);obtain⟨wb,ao⟩:∃y,y=wi.alloc (.cells #[.int .i64 m,.slice A' r.length c',.int .i64 p] 48):=⟨_,rfl⟩
      have b9:Hid (wb.heap[wi.heap.size]?=some (.cells #[.int .i64 m,.slice A' r.length c',.int .i64 p] 48 (0,0))):=aA (by rw[ao];exact AE wi _);have ca:Hid (UBZ wb gk cur):=aA (by rw[ao];exact HU.o.alloc _);have cb:Hid (R12 w wb g1 g5 #[.slice AT G.ts.length cT,.slice AN G.ns.length cN,.slice (some ⟨g,o,none⟩) G.rs.length cR,.int .i64 G.st] T F):=aA (by rw[ao];exact HW.o.alloc _);have cA:Hid (gk≠wi.heap.size):=aA (by have:=HU.o.lt;omega);clear hc b2 bg bh b5 ay b3 bi b4 b7;go_upto_region 13 with fail
      rw[<-ao];clear ao q2 k0 k1 k2 HU HW;have cM:=ld;clear ld;generalize wi.heap.size=bx at *;go_wp2;go_loopw [9] (fun vk wr=>∃k:Nat,k<=r.length/\vk=.int .i64 k/\Hid (UBZ wr gk (((Gm.sufs r).take k).foldl h cur))/\Hid (R12 w wr g1 g5 #[.slice AT G.ts.length cT,.slice AN G.ns.length cN,.slice (some ⟨g,o,none⟩) G.rs.length cR,.int .i64 G.st] T F)/\Hid (wr.heap[bx]?=some (.cells #[.int .i64 m,.slice A' r.length c',.int .i64 p] 48 (0,0)))) (fun vk _=>r.length-(intOf vk).toNat)
      case atStart=>exact⟨0,AU _,rfl,ca,cb,b9⟩
      case round =>
       clear ca cb b9;obtain⟨k,hk,rfl,HU,HW,ae⟩:=hrel;have lx:=(Ad.1 ae.o).1;have c1:=AD wr _ 1 _ _ _ ae.o;by_cases C:k<r.length
       ·obtain⟨gr,orr,rfl,cO,hc⟩:=(bj.o wr _ HW.o.o) (by omega)
        have k0:=hc k C;rw[L.gd_lt C]at k0;have bk:=U.o.i _ (AC C);have bl:=U.o.n _ (AC C);have az:=aA (cx.o k C);have ap:=aA (cz.o k);generalize ((Gm.sufs r).take k).foldl h cur=t at *;have a0:=aA (cy.o t r[k] (r.drop (k+1)));clear hc;generalize r[k]=z at *;unfold Gm.In at bk;by_cases h0:z<0
        ·have bm:=bl h0;obtain⟨m2,a1⟩:∃m2:Nat,-1-z=(m2:Int):=⟨(-1-z).toNat,by omega⟩
         rw[a1]at bm;have cB:decide (z<0)=true:=AL h0;have cP:IntKind.i64.wrap (-1-z)=(m2:Int):=by rw[B5 _ (by omega)];exact a1
         have HX:Hid (((Gm.sufs r).take (k+1)).foldl h cur=t.set m2 (t.getD m2 0 ||| Gm.ofN T F (t.getD m 0) (r.drop (k+1)))):=aA (by rw[az.o,a0.o,Az h0,a1];simp[Gm.addN]);have a2:Hid (m2<t.length):=aA (by rw[ap.o.l];omega);have a3:Hid (m<t.length):=aA (by rw[ap.o.l];exact b6.o);have cC:(m2:Int)<(G.ns.length:Int):=bm;have cD:(m:Int)<(G.ns.length:Int):=by have:=b6.o;omega
         obtain⟨j,hj⟩:∃j:Nat,j=k+1:=⟨_,rfl⟩
         have cQ:IntKind.i64.wrap ((k:Int)+1)=(j:Int):=by rw[B5 _ (by have:=b8.o;omega)];omega
         have S1:=fun w=>zb9 w (some ⟨gr,orr,none⟩) c' r.length j (by omega);have N:=aA (HU.o.drewN 1);have E:=aA (HW.o.drewN 1);rw[show wr.drewN 1=wr.drew from rfl]at N E;have X:Hid (wr.drew.heap[bx]?=wr.heap[bx]?):=aA rfl;have af:=zdI (r.drop j) (t.getD m 0) T F (dropA (some ⟨gr,orr,none⟩) c' j) (some ⟨g1,0,none⟩) (some ⟨g5,0,none⟩) (c'-j) G.ns.length G.ns.length B wr.drew.heap.size wr.drew.heap.size wr.drew ((bj.o wr.drew _ E.o.o).dropA cv.o j) (E.o.t.rd0 E.o.t.lt) (E.o.f.rd E.o.f.lt) (fun z hz=>U.o.i z (Cf hz)) (fun z hz=>U.o.t z (Cf hz)) (fun z hz h=>by rw[a4.o];exact U.o.n z (Cf hz) h) (by rw[bw.o,a4.o]) bz.o (ap.o.u _) (by rw[Bl];have:=b8.o;omega);rw[bw.o,a4.o,Bl]at af;have cc:Gm.ofN T F (t.getD m 0) (r.drop j)<4294967296:=Gm.U32.ofN bz.o (ap.o.u _) fun z hz=>U.o.t z (Cf hz);rw[<-hj]at HX;have HX:Hid (((Gm.sufs r).take (k+1)).foldl h cur=t.set m2 (t.getD m2 0 ||| Gm.ofN T F (t.getD m 0) (r.drop j))):=aA (by rw[<-HX.o,hj]);have af:=aA af;generalize Gm.ofN T F (t.getD m 0) (r.drop j)=vv at *;have ho:=DI (t.getD m2 0) vv (ap.o.u m2) cc;have HJ:=aA hj;generalize t.getD m2 0 ||| vv=v3 at *;generalize bo:t.getD m2 0=tm2 at *;generalize bp:t.getD m 0=tm1 at *;have bq:=aA bo;have br:=aA bp;generalize dropA (some ⟨gr,orr,none⟩) c' j=D at *;generalize r.length-j=nd at *;generalize c'-j=cd at *;have d2:wr.drew.cell? ⟨gk,m2,none⟩=some (.int .u32 (tm2:Int)):=by rw[N.o.cell m2 a2.o,bo]
         have d1:wr.drew.cell? ⟨gk,m,none⟩=some (.int .u32 (tm1:Int)):=by rw[N.o.cell m a3.o,bp]
         have q0:=fun z:Calm.OnB bx wr=>AD z.1 _ 0 _ _ _ (z.2.trans ae.o);have q1:=fun z:Calm.OnB bx wr=>AD z.1 _ 1 _ _ _ (z.2.trans ae.o);have hS:∃z:Calm.OnB bx wr,wr.drew=z.1:=⟨⟨wr.drew,X.o⟩,rfl⟩
         clear bk bl bm h0 a1 hj az a0 bp bo cc;go_upto_region 18 with fail
         refine CalmN.region_tree (fun x=>∃z:Calm.OnB bx wr,x=z.1) (.two [0,1,2,3,4,6,7,8,9,10,11,12,13,14,15,16] 5 (.one [] 17 (.one [] 18 (.one [19,20] 21 (.fin [])))) 17 (.two [] 5 (.one [] 18 (.one [19,20] 21 (.fin []))) 18 (.one [] 5 (.one [19,20] 21 (.fin []))))) (by kernel_rfl) (by kernel_rfl) (fun _ _ d _ _ h=>by cases d <;> exact h) ⟨⟨wr.drew,X.o⟩,rfl⟩ ?_;rw[CalmN.wpT];simp only[CalmN.pickOps,Aw,Ah,Aj];repeat (go_big_quiet_step (fail))
         clear q0 q1 k0 c1;generalize wr.drew=wd at *;refine Aq ⟨?_,?_⟩
         case' refine_1 =>
          simp only[CalmN.wpT,CalmN.wpSt,CalmN.pickOps,Aw,Ah,Aj];intro KK b;rw[Az (by rfl)];go_wp2_with fail
          refine b _ _ hS _ (fun _ h=>h) hS ?_;clear b;refine Aq ?_;intro KK b;rw[Az (by rfl)];go_wp2_with fail
          refine b _ _ hS _ (fun _ h=>h) hS ?_;clear b;refine Aq ?_;intro KK b;rw[Az (by rfl)];go_wp2_with fail
          refine af.o.mono ?_;rintro _ we ⟨rfl,q,hq⟩;have A:Hid (UBZ we gk t):=aA (by rw[hq];exact N.o.drewN q);have ad:Hid (R12 w we g1 g5 #[.slice AT G.ts.length cT,.slice AN G.ns.length cN,.slice (some ⟨g,o,none⟩) G.rs.length cR,.int .i64 G.st] T F):=aA (by rw[hq];exact E.o.drewN q);have M:we.heap[bx]?=wr.heap[bx]?:=by rw[hq];exact X.o
          have bs:=aA M;have hS:∃z:Calm.OnB bx wr,we=z.1:=⟨⟨we,M⟩,rfl⟩
          have km2:=A.o.cell m2 a2.o;rw[bq.o]at km2;have km:=A.o.cell m a3.o;rw[br.o]at km;have fm:=A.o.frozen m2;have lu:=A.o.lt;clear hq M;go_wp2_with fail
          refine b _ _ hS _ (fun _ h=>h) hS ?_;clear b
         case' refine_2 =>
          simp only[CalmN.wpSt];intro KK b;rw[Az (by rfl)];go_wp2_with fail
          refine b _ _ hS _ (fun _ h=>h) hS ?_;clear b;rw[CalmN.wpT];simp only[CalmN.pickOps];refine Aq ⟨?_,?_⟩
          case' refine_1 =>
           simp only[CalmN.wpT,CalmN.wpSt,CalmN.pickOps,Aw,Ah,Aj];intro KK b;rw[Az (by rfl)];go_wp2_with fail
           refine b _ _ hS _ (fun _ h=>h) hS ?_;clear b;refine Aq ?_;intro KK b;rw[Az (by rfl)];go_wp2_with fail
           refine af.o.mono ?_;rintro _ we ⟨rfl,q,hq⟩;have A:Hid (UBZ we gk t):=aA (by rw[hq];exact N.o.drewN q);have ad:Hid (R12 w we g1 g5 #[.slice AT G.ts.length cT,.slice AN G.ns.length cN,.slice (some ⟨g,o,none⟩) G.rs.length cR,.int .i64 G.st] T F):=aA (by rw[hq];exact E.o.drewN q);have M:we.heap[bx]?=wr.heap[bx]?:=by rw[hq];exact X.o
           have bs:=aA M;have hS:∃z:Calm.OnB bx wr,we=z.1:=⟨⟨we,M⟩,rfl⟩
           have km2:=A.o.cell m2 a2.o;rw[bq.o]at km2;have km:=A.o.cell m a3.o;rw[br.o]at km;have fm:=A.o.frozen m2;have lu:=A.o.lt;clear hq M;go_wp2_with fail
           refine b _ _ hS _ (fun _ h=>h) hS ?_;clear b
          case' refine_2 =>
           simp only[CalmN.wpT,CalmN.wpSt,CalmN.pickOps,Aw,Ah,Aj];intro KK b;rw[Az (by rfl)];go_wp2_with fail
           refine af.o.mono ?_;rintro _ we ⟨rfl,q,hq⟩;have A:Hid (UBZ we gk t):=aA (by rw[hq];exact N.o.drewN q);have ad:Hid (R12 w we g1 g5 #[.slice AT G.ts.length cT,.slice AN G.ns.length cN,.slice (some ⟨g,o,none⟩) G.rs.length cR,.int .i64 G.st] T F):=aA (by rw[hq];exact E.o.drewN q);have M:we.heap[bx]?=wr.heap[bx]?:=by rw[hq];exact X.o
           have bs:=aA M;have hS:∃z:Calm.OnB bx wr,we=z.1:=⟨⟨we,M⟩,rfl⟩
           have km2:=A.o.cell m2 a2.o;rw[bq.o]at km2;have km:=A.o.cell m a3.o;rw[br.o]at km;have fm:=A.o.frozen m2;have lu:=A.o.lt;clear hq M;go_wp2_with fail
           refine b _ _ hS _ (fun _ h=>h) hS ?_;clear b;refine Aq ?_;intro KK b;rw[Az (by rfl)];go_wp2_with fail
           refine b _ _ hS _ (fun _ h=>h) hS ?_;clear b
         all_goals
          repeat (go_big_quiet_step (fail))
          refine Aq ?_;obtain⟨wf,J⟩:∃y,y=we.setCell ⟨gk,m2,none⟩ (.int .u32 (v3:Int)):=⟨_,rfl⟩
          have ax:Hid (UBZ wf gk (((Gm.sufs r).take (k+1)).foldl h cur)):=aA (by rw[J,HX.o];exact A.o.set_ m2 v3);have aw:Hid (R12 w wf g1 g5 #[.slice AT G.ts.length cT,.slice AN G.ns.length cN,.slice (some ⟨g,o,none⟩) G.rs.length cR,.int .i64 G.st] T F):=aA (by rw[J];exact ad.o.put (by have:=V.o;omega) (by have:=V.o;omega) V.o.2.2 _ _);have ce:Hid (wf.heap[bx]?=wr.heap[bx]?):=aA (by rw[J];exact(AP we ⟨gk,m2,none⟩ _ _ (fun e=>cA.o e.symm)).trans bs.o);have bu:∃z:Calm.OnB bx wr,wf=z.1:=⟨⟨wf,ce.o⟩,rfl⟩
          intro KK b;rw[Az (by rfl)];go_wp2_with fail
          rw[<-J];refine b _ _ bu _ (fun _ h=>h) bu ?_;clear b J bu;refine Aq ?_;go_wp2;go_roundw
          case rel=>exact⟨k+1,C,by rw[HJ.o],ax,aw,aA (ce.o.trans ae.o)⟩
          case measure=>have:=HJ.o;simp[intOf];omega
        ·have cB:decide (z<0)=false:=AO h0;have HX:Hid (((Gm.sufs r).take (k+1)).foldl h cur=t):=aA (by rw[az.o,a0.o,AG h0]);clear bk bl h0 az a0;go_wp2;go_roundw
         case rel=>exact⟨k+1,C,by go_num,by rw[HX.o];exact HU,HW,ae⟩
         case measure=>simp[intOf];omega
       ·obtain rfl:k=r.length:=by omega
        have e:(Gm.sufs r).take r.length=Gm.sufs r:=by rw[<-Gm.sufs_len r,Bk]
        rw[e,<-cw.o]at HU;go_wp2;go_roundw
        case rel=>exact⟨i+1,aa,by go_num,HU,HW⟩
        case measure=>simp[intOf];omega
     ·obtain rfl:i=G.rs.length:=by omega
      rw[Bk]at HU;go_wp2;go_roundw
      case rel=>exact⟨n+1,cr,by go_num,by rw[cs.o];exact HU,HW⟩
      case measure=>simp[intOf];omega
   ·obtain rfl:n=G.ns.length:=by omega
    rw[a5.o]at HU;go_wp2;go_ret
    exact⟨fun _=>⟨gk,by rw[Gm.flw_len];rfl,by have:=V.o;omega,HU.o,HW.o.o.below⟩,fun h=>by simp at h⟩
structure OwnSa (w:World) (base NE n:Nat) (vo:Value) (qs:List QS) (es:List (Int×Int)):Prop where
 o:aJ 56 2 stC w base vo qs
 k:∀j (h:j<qs.length),ziv 60 w base w.heap.size (qs[j]).1
 e:∀j (h:j<qs.length),j≠n->ziv 91 w base NE (qs[j]).2
 a:∃h:n<qs.length,(qs[n]).2.1=es/\aJ 91 2 prF w NE (qpC (qs[n]).2) es
section
variable {w w':World} {base NE n:Nat} {vo:Value} {qs:List QS} {es:List (Int×Int)}
theorem ziv.keep {T:TypeId} {q:QP} (h:ziv T w base N q) (hk:∀g cur,g<N->w.heap[g]?=some (.cells cur T (0,0))->w'.heap[g]?=some (.cells cur T (0,0))) (hN:N<=N'):ziv T w' base N' q:=⟨h.1,h.2.1,(h.2.2.keep hk).more hN⟩
theorem OwnSa.below (h:OwnSa w base NE n vo qs es) (hb:Below w.heap.size w w'):OwnSa w' base NE n vo qs es:=by
 obtain⟨h1,h2,h3,ha,h4,h5⟩:=h;have hk:∀(T:TypeId) (g:Nat) (cur:Array Value),w.heap[g]?=some (.cells cur T (0,0))->w'.heap[g]?=some (.cells cur T (0,0)):=fun T g cur hc=>(hb.block g (Ad.1 hc).1).trans hc;exact⟨h1.below hb (Af _),fun j h=>(h2 j h).keep (fun g cur _ hc=>hk _ g cur hc) hb.size,fun j h hn=>(h3 j h hn).keep (fun g cur _ hc=>hk _ g cur hc) (Af _),ha,h4,h5.below hb (Af _)⟩
theorem OwnSa.rd {c:Nat} (h:OwnSa w base NE n (.slice A m c) qs es) (ab:NE<=w.heap.size):bW w w.heap.size A (qs.map zjI):=fun hn=>by
 have hn:qs.length≠0:=by simpa using hn
 obtain⟨A',c',e,_,_,ac⟩:=aJ.form h.o zad;injection e with e1 e2 e3;subst e1;obtain⟨g,o,e,hg,hc⟩:=ac hn;refine⟨g,o,e,hg,fun i hi=>?_⟩;have b:i<qs.length:=by simpa using hi
 have hq:=h.k i b;rw[Cs];refine⟨⟨_,_,hc i b 0 _ rfl,hq.1,hq.2.1,hq.2.2.rd⟩,?_⟩;by_cases aa:i=n
 ·obtain⟨ha,h4,h5⟩:=h.a;subst aa;obtain⟨Ae,ce,ee,q1,q2,q3⟩:=aJ.form h5 aG;rw[<-h4]at ee q1 q3;unfold qpC at ee;injection ee with ee1 ee2 ee3;refine⟨_,_,hc i b 1 _ rfl,?_,?_,?_⟩
  ·show(qs[i]).2.1.length<=(qs[i]).2.2.2
   rw[ee3];exact q1
  ·show(qs[i]).2.2.2<=_
   rw[ee3];unfold maxLen at q2;omega
  ·show RdQ 2 prF w w.heap.size (qs[i]).2.2.1 (qs[i]).2.1
   rw[ee1];exact q3
 ·have he:=h.e i b aa;exact⟨_,_,hc i b 1 _ rfl,he.1,he.2.1,he.2.2.rd.more ab⟩
theorem OwnSa.st (h:OwnSa w base NE n vo qs es) (ab:NE<=w.heap.size) (hb:base<=NE):zaZ w base w.heap.size w.heap.size vo qs:=by
 refine⟨h.o,fun q hq=>?_⟩;obtain⟨i,hi,rfl⟩:=Bz hq;refine⟨h.k i hi,?_⟩;by_cases aa:i=n
 ·obtain⟨ha,h4,h5⟩:=h.a;subst aa;have h6:=h5;obtain⟨Ae,ce,ee,q1,q2,q3⟩:=aJ.form h5 aG;rw[ee]at h6;have hr:=aJ.rowP h6;unfold qpC at ee;injection ee with ee1 ee2 ee3;rw[<-h4]at q1 hr;exact⟨by rw[ee3];exact q1,by rw[ee3];unfold maxLen at q2;omega,by rw[ee1];exact hr.less hb⟩
 ·have he:=h.e i hi aa;exact⟨he.1,he.2.1,he.2.2.more ab⟩
theorem OwnSa.of (h:zaZ w base w.heap.size NE vo qs) (hn:n<qs.length) (he:(qs[n]).2=([],none,0)):OwnSa w base NE n vo qs [] :=
 ⟨h.1,fun j hj=>(h.2 _ (AC hj)).1,fun j hj _=>(h.2 _ (AC hj)).2,hn,by rw[he],by rw[he];exact aJ.nil _ _⟩
theorem OwnSa.snoc {k:List Au.It} {c:Nat} (h:OwnSa w base NE n vo qs es) (ho:aJ 56 2 stC w' base v' (qs++[bF k A c])) (hg:w.grownBy w' vo.ownBlock) (hk:ziv 60 w base w.heap.size (k,A,c)):OwnSa w' base NE n v' (qs++[bF k A c]) es:=by
 have hc:∀(T:TypeId),T≠56->∀(g:Nat) (cur:Array Value),w.heap[g]?=some (.cells cur T (0,0))->w'.heap[g]?=some (.cells cur T (0,0)):=fun T hT g cur h1=>aI h.o hg h1 fun cur=>aH hT;obtain⟨h1,h2,h3,ha,h4,h5⟩:=h;refine⟨ho,fun j hj=>?_,fun j hj aa=>?_,by rw[AQ];omega,?_,?_⟩
 ·by_cases b:j<qs.length
  ·rw[Ci b];exact(h2 j b).keep (fun g cur _ d=>hc _ (by decide) g cur d) hg.size
  ·obtain rfl:j=qs.length:=by rw[AQ,BB]at hj;omega
   rw[CV (Af _)];simp only[Di,List.getElem_singleton];exact hk.keep (fun g cur _ d=>hc _ (by decide) g cur d) hg.size
 ·by_cases b:j<qs.length
  ·rw[Ci b];exact(h3 j b aa).keep (fun g cur _ d=>hc _ (by decide) g cur d) (Af _)
  ·obtain rfl:j=qs.length:=by rw[AQ,BB]at hj;omega
   rw[CV (Af _)];simp only[Di,List.getElem_singleton];exact⟨AU _,AU _,bJ.nil _ _ _ _ _⟩
 ·rw[Ci ha];exact h4
 ·rw[Ci ha];refine⟨h5.1,?_⟩;rcases h5.2 with h0|⟨g,cap,cur,e,ab,ac,hr⟩
  ·exact .inl h0
  ·exact .inr ⟨g,cap,cur,e,ab,hc _ (by decide) g cur ac,hr⟩
theorem OwnSa.edge {gS c:Nat} {x:Int×Int} {c':Nat} (h:OwnSa w base NE n (.slice (some ⟨gS,0,none⟩) m c) qs es) (hn:n<qs.length) (ho:aJ 91 2 prF w' NE v' (es++[x])) (hv:v'=.slice A (es++[x]).length c') (hg:w.grownBy w' (qpC (qs[n]).2).ownBlock) :
  OwnSa (w'.setCell ⟨gS,n*2+1,none⟩ v') base NE n (.slice (some ⟨gS,0,none⟩) m c) (qs.set n ((qs[n]).1,(es++[x],A,c'))) (es++[x]):=by
 obtain⟨h1,h2,h3,ha,h4,h5⟩:=h;have hc:∀(T:TypeId),T≠91->∀(g:Nat) (cur:Array Value),w.heap[g]?=some (.cells cur T (0,0))->w'.heap[g]?=some (.cells cur T (0,0)):=fun T hT g cur hh=>aI h5 hg hh fun cur=>aH hT
 have ae:aJ 56 2 stC w' base (.slice (some ⟨gS,0,none⟩) m c) qs:=by
  refine⟨h1.1,?_⟩;rcases h1.2 with h0|⟨g,cap,cur,e,ab,b,hr⟩
  ·exact .inl h0
  ·exact .inr ⟨g,cap,cur,e,ab,hc _ (by decide) g cur b,hr⟩
 obtain⟨cur,ac⟩:∃cur,w'.heap[gS]?=some (.cells cur 56 (0,0)):=by
  rcases ae.2 with⟨e,_⟩|⟨g2,cap,cur,e,_,b,_⟩
  ·cases e
  ·injection e with e _ _;injection e with e;injection e with e;subst e;exact⟨cur,b⟩
 have hs:∀(T:TypeId),T≠56->∀(g:Nat) (cu:Array Value),w'.heap[g]?=some (.cells cu T (0,0))->(w'.setCell ⟨gS,n*2+1,none⟩ v').heap[g]?=some (.cells cu T (0,0)):=fun T hT g cu hh=>(AP w' ⟨gS,n*2+1,none⟩ _ g (fun e=>by
  have e:g=gS:=e;rw[e,ac]at hh;injection hh with hh;exact aH (fun q=>hT q.symm) hh)).trans hh
 have af:(w'.setCell ⟨gS,n*2+1,none⟩ v').heap.size=w'.heap.size:=by simp
 refine⟨?_,fun j hj=>?_,fun j hj d=>?_,by rw[Cu];exact hn,?_,?_⟩
 ·rcases ae.2 with⟨e,_⟩|⟨g2,cap,cur2,e,hb,b,q1,hm,ag,ht⟩
  ·cases e
  ·injection e with e1 e2 e3;injection e1 with e1;injection e1 with e1;subst e1 e3;have hl:(qs.set n ((qs[n]).1,(es++[x],A,c'))).length=qs.length:=Cu;unfold aJ;rw[hl];refine⟨by rw[zf1 zad,hl],.inr ⟨gS,c,cur2.setIfInBounds (n*2+1) v',by rw[e2],hb,AW w' gS _ _ _ _ b,q1,hm,by simp[ag],?_⟩⟩;have e9:qpC (es++[x],A,c')=v':=by rw[hv];rfl
   rw[<-zlI qs n ((qs[n]).1,(es++[x],A,c')) (fun _=>rfl),<-ht];simp only[Array.toList_setIfInBounds];rw[List.take_set,e9]
 ·have ad:j<qs.length:=by rw[Cu]at hj;exact hj
  rw[af];have hq:=(h2 j ad).keep (fun g cu _ aa=>hs _ (by decide) g cu (hc _ (by decide) g cu aa)) hg.size;by_cases d:n=j
  ·subst d;rw[List.getElem_set_self];exact hq
  ·rw[Ex d];exact hq
 ·have ad:j<qs.length:=by rw[Cu]at hj;exact hj
  rw[Ex (fun e=>d e.symm)];refine(h3 j ad d).keep (fun g cu ah aa=>hs _ (by decide) g cu ((hg.block g (Ad.1 aa).1 (fun e=>?_)).trans aa)) (Af _)
  have:=(Bn h5 g e.symm).1
  omega
 ·rw[List.getElem_set_self]
 ·rw[List.getElem_set_self];have e9:qpC (es++[x],A,c')=v':=by rw[hv];rfl
  rw[e9];refine⟨ho.1,?_⟩;rcases ho.2 with h0|⟨g,cap,cu,e,ab,b,hr⟩
  ·exact .inl h0
  ·exact .inr ⟨g,cap,cu,e,ab,hs _ (by decide) g cu b,hr⟩
end
end Go.Proofs.YtcmhaemaophplaaGreat
namespace Go.Proofs.YtcmhaemaophplaaGreat
open Go.RowKit
noncomputable def Gm.oR (G:Gm.Gr) (i:Nat):List Int:=Gm.ord [] (((G.rs.take i).filter (Gm.use G)).map Gm.Rl.l)
theorem Gm.oR_next (h:i<G.rs.length):Gm.oR G (i+1)=if Gm.use G G.rs[i]=true then(if(G.rs[i]).l∈Gm.oR G i then Gm.oR G i else Gm.oR G i++[(G.rs[i]).l]) else Gm.oR G i:=by
 unfold Gm.oR;rw[AI h,B3,Bf];cases hu:Gm.use G G.rs[i]
 ·simp[hu]
 ·rw[show [G.rs[i]].filter (Gm.use G)=[G.rs[i]] by simp[hu],ED,Gm.ord_snoc,Az rfl]
theorem Gm.oR_all (G:Gm.Gr):Gm.oR G G.rs.length=Gm.olds G:=by unfold Gm.oR Gm.olds Gm.krs;rw[Bk]
theorem Gm.oR_mem (h:Gm.Ok G) (hj:j∈Gm.oR G i):0<=j/\j<G.ns.length:=by
 unfold Gm.oR at hj;rw[Gm.ord_mem]at hj;rcases hj with hj|hj
 ·simp at hj
 ·obtain⟨x,hx,rfl⟩:=Bm.1 hj;exact h.lin x (Dl (BU.1 hx).1)
theorem Gm.oR_len (h:Gm.Ok G) (i:Nat):(Gm.oR G i).length<=G.ns.length:=by
 have h1:=Gm.pigeons G.ns.length ((Gm.oR G i).map (· + 1)) ?_ ?_
 ·simpa using h1.1
 ·refine BJ.2 ?_;rw[Df]
  have:(Gm.oR G i).Nodup:=Gm.ord_nodup _ _ (by simp)
  exact(BJ.1 this).imp fun h e=>h (by omega)
 ·intro x hx;obtain⟨y,hy,rfl⟩:=Bm.1 hx
  have:=Gm.oR_mem h hy
  omega
theorem Gm.pos_neg {o:List Int} {l:Int}:Gm.pos o l<0↔l ∉ o:=by
 constructor
 ·intro h hm
  have:=Gm.pos_lt hm
  omega
 ·intro h;rw[Gm.pos_no h];omega
theorem Gm.toL_in (h:Gm.Ok G) (o:List Int) (ho:o.length<=G.ns.length) (n i:Nat) (hi:i<n):-1<=(Gm.toL n o).getD i 0/\(Gm.toL n o).getD i 0<=1000:=by
 rw[Gm.toL_at hi];have h3:=(Gm.nons_iff G).1 h.n;by_cases hm:(i:Int)∈o
 ·have h1:=Gm.pos_lt hm;omega
 ·rw[Gm.pos_no hm];omega
theorem Gm.fill_to (h:k<n):(List.replicate k (-1:Int)++List.replicate (n-k) 0).set k (-1)=List.replicate (k+1) (-1)++List.replicate (n-(k+1)) 0:=by
 rw[Dx _ _ (by simp)];rw[El,Di,show n-k=(n-(k+1))+1 by omega,CO,CK,List.replicate_succ'];simp
section
variable {w1 wr w':World} {H gA base:Nat} {cs:Array Value} {vT vN vR vK:Value} {ts:List Gm.Tm} {ns:List (List Int)} {rs:List Gm.Rl} {an ks:List Int}
theorem RdS.other (h:RdS w1 wr H gA cs vT vN (.slice none 0 0) ts ns [] an) (ho:aS wr base vK ks) (hb:gA<base) (hg:wr.grownBy w' vK.ownBlock):RdS w1 w' H gA cs vT vN (.slice none 0 0) ts ns [] an:=by
 have hA:=h.hA;refine⟨zac h.h ho (by decide) hg,Ba h.t hg (zai h.t ho (by decide)),Ba h.nn hg (zai h.nn ho (by decide)),a7.nil _ _ _,h.a.grown hg (fun e=>?_),h.w.grown hg h.w.size (fun k e=>?_),h.hH,h.hA⟩
 ·have:=(Bn ho gA e.symm).1
  omega
 ·have:=(Bn ho k e).1
  omega
end
end Go.Proofs.YtcmhaemaophplaaGreat
