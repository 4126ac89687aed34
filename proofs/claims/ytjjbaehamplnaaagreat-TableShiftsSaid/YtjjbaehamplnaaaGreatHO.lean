/- Part of the proofs over this program: TbShift, TbW, TbCell, SetW2, LkRules, TbAct, TbTab. -/
import Derived.Lib.Tables
import Derived.Lib.BitFns
import Derived.Lib.TrailingZeros
import Derived.Lib.LaidTab
import Derived.Test.YtjjbaehamplnaaaGreatHN
set_option linter.all false
open Go.RowKit Go.Proofs.Tryz
set_option maxRecDepth 100000
set_option maxHeartbeats 40000000
namespace Go.Proofs.YtjjbaehamplnaaaGreat
variable {A:Option Go.Addr} {E:List (List (Int×Int))} {G:Gm.Gr} {N N' base g i m n:Nat} {cs:Array Go.Value} {l r:List Int} {t:Int} {v:Go.Value} {w:Go.World} {xs:List Go.Value}
theorem Sd {y x:Int×Int} (he:y≠x):(∃b,((y.1==x.1)=false/\(y.2==x.2)=b))\/((y.1==x.1)=true/\(y.2==x.2)=false):=by
 by_cases e1:y.1=x.1
 ·refine .inr ⟨by rw[BP];exact e1,?_⟩;rw[Bc];exact fun e2=>he (EA e1 e2)
 ·exact .inl ⟨_,by rw[Bc];exact e1,rfl⟩
theorem OM (l:List Au.It) (x:Au.It) (A:Option Addr) (c B:Nat) (w:World) (hr:iC 2 fM w B A l) (hB:B<=w.heap.size) (hn:l.length<=1000000) :
  Calls prog 100 #[.slice A l.length c,lV x] w fun e w'=>(∃k:Int,e=.returned (.int .i64 k)/\decide (0<=k)=decide (x∈l))/\β w w':=by
 have HR:=aA hr;have HB:=aA hB;have ak:(l.length:Int)<=1000000:=ω
 obtain⟨w1,aa⟩:=χ (w.alloc (.cells #[.int .i64 x.1,.int .i64 x.2] 61))
 have ae:Hid (aZ 61 w #[.int .i64 x.1,.int .i64 x.2] w1):=aA (by rw[aa];exact aZ.start _ _ _);clear hr hB hn
 go_enter func100,ntmps100
 go_upto_region 1 with fail
 rw[<-aa];clear aa;go_wp2;go_loopw [8] (fun vi wr=>∃i:Nat,i<=l.length/\vi=.int .i64 i/\Hid (x ∉ l.take i)/\Hid (aZ 61 w #[.int .i64 x.1,.int .i64 x.2] wr)) (fun vi _=>l.length-(intOf vi).toNat)
 case atStart=>exact⟨0,Bb _,rfl,aA σ,ae⟩
 case round =>
  clear ae;obtain⟨i,hi,rfl,HE,HW⟩:=hrel;rename World=>wr;by_cases b:i<l.length
  ·obtain⟨g,o,rfl,ab,hc⟩:=HR.o ω;have af:Hid (∃z:Calm.On wr.heap.size wr,wr.drew=z.1):=rM wr;have k0:=fun y:Calm.On wr.heap.size wr=>((HW.o.on y.2).below.cell (p:=⟨g,o+i*2+0,none⟩) (Aj ab HB.o)).trans (hc i b 0 (.int .i64 (l[i]).1) rfl);have k1:=fun y:Calm.On wr.heap.size wr=>((HW.o.on y.2).below.cell (p:=⟨g,o+i*2+1,none⟩) (Aj ab HB.o)).trans (hc i b 1 (.int .i64 (l[i]).2) rfl);have l0:=fun y:Calm.On wr.heap.size wr=>(HW.o.on y.2).c 0 _ rfl;have l1:=fun y:Calm.On wr.heap.size wr=>(HW.o.on y.2).c 1 _ rfl;have ag:=aA (HW.o.on (aB (AB _ _) 1))
   have ac:=aA (fun(h:x≠l[i])=>(show x ∉ l.take (i+1) from by
    rw[AP b,Bs,AW];exact fun q=>q.elim HE.o h))
   have ad:=aA (fun(h:x=l[i])=>(show decide (x∈l)=true from by rw[h];exact AV (AD b)));have al:(i:Int)<(l.length:Int):=ω
   simp only[CB]at k0;clear hc ab;generalize l[i]=y at *;by_cases he:x=y
   ·have HX:=aA (ad.o he);subst he;have ah:(x.1==x.1)=true:=σ
    have ai:(x.2==x.2)=true:=σ
    clear ac ad;go_wp2_with fail
    refine CalmN.fk (γ wr) (.fin [0,1,2,3,4,5]) af.o ?_;simp only[CalmN.fS,CalmN.fo,Aq,Ai,Am];repeat (go_big_quiet_step (fail))
    refine Ap ?_;clear k0 k1 l0 l1;go_wp2;go_ret
    exact⟨⟨_,rfl,by rw[HX.o,AV ω]⟩,ag.o.below⟩
   ·have HX:=aA (ac.o he);have aj:=Sd he;clear ac ad he;rcases aj with⟨b0,ah,ai⟩|⟨ah,ai⟩
    all_goals
     go_wp2_with fail
     refine CalmN.fk (γ wr) (.fin [0,1,2,3,4,5]) af.o ?_;simp only[CalmN.fS,CalmN.fo,Aq,Ai,Am];repeat (go_big_quiet_step (fail))
     refine Ap ?_;clear k0 k1 l0 l1;go_wp2;go_roundw
     case rel=>exact⟨i+1,b,ν,HX,ag⟩
     case measure=>simp[intOf];omega
  ·obtain rfl:i=l.length:=ω
   rw[Bp]at HE;go_wp2;go_ret
   exact⟨⟨_,rfl,by rw[AU HE.o];rfl⟩,HW.o.below⟩
theorem Ot (l:List Au.It) (x:Au.It) (A:Option Addr) (c B:Nat) (w:World) (hr:iC 2 fM w B A l) (hB:B<=w.heap.size) (hn:l.length<=1000000) :
  Calls prog 62 #[.slice A l.length c,lV x] w fun e w'=>e=.returned (.bool (decide (x∈l)))/\β w w':=by
 have b:=aA (aZ.start 61 w #[.int .i64 x.1,.int .i64 x.2]);have H:=aA (OM l x A c B _ (hr.below b.o.below hB) (Ah hB b.o.below.size) hn);have x0:=b.o.c 0 _ rfl;have x1:=b.o.c 1 _ rfl;clear hr hB hn
 go_enter func62,ntmps62
 go_wp2_with fail
 refine H.o.mono ?_;rintro _ w2 ⟨⟨k,rfl,hk⟩,hb⟩;have HK:=aA hk;have HB:=aA (b.o.on hb);clear hk hb x0 x1;go_wp2;go_ret
 exact⟨aD HK.o,HB.o.below⟩
namespace Tb
def nw (ed:List (Int×Int)) (t:Int):Ce:=if t∈ed.map (·.1) then(1,aW ed t) else(0,0)
theorem K7 {ed:List (Int×Int)} {e:Int×Int}:aW (ed++[e]) t=if t∈ed.map (·.1) then aW ed t else if e.1=t then e.2 else -1:=by
 induction ed with
 | nil=>simp[aW]
 | cons x ed ih =>
  rw[Ct,aW,aW,ih];by_cases h:x.1=t
  ·simp[h]
  ·rw[AJ h,AJ h];have e1:(t∈(x::ed).map (·.1))↔t∈ed.map (·.1):=by simp[Ne.symm h]
   simp only[e1]
theorem mX {ed:List (Int×Int)} {e:Int×Int} (h:e.1 ∉ ed.map (·.1)) (t:Int):nw (ed++[e]) t=if t=e.1 then(1,e.2) else nw ed t:=by
 unfold nw;have hm:(t∈(ed++[e]).map (·.1))↔t∈ed.map (·.1)\/t=e.1:=by rw[Bi,Bs];simp
 simp only[hm];rw[K7];by_cases ht:t=e.1
 ·subst ht;rw[Az (.inr rfl),AJ h,Az rfl,Az rfl]
 ·rw[AJ ht];by_cases hq:t∈ed.map (·.1)
  ·rw[Az (.inl hq),Az hq,Az hq]
  ·rw[AJ (by simp only[ht,or_false];exact hq),AJ hq]
theorem th (G:Gm.Gr) (k:List Au.It) (ed:List (Int×Int)) (t:Int):shift G k ed t=if t∈ed.map (·.1) then nw ed t else if t=G.ts.length/\((-1:Int),(1:Int))∈k then(3,0) else(0,0):=by
 unfold shift nw;split
 ·rfl
 ·rfl
def fQ {α:Type} (n:Nat) (f:Int->α):List α:=(List.range n).map fun t:Nat=>f (t:Int)
section
variable {α:Type} {n:Nat} {f g:Int->α}
theorem fW (n:Nat) (f:Int->α):(fQ n f).length=n:=by unfold fQ;rw[Bh,DV]
theorem Rf (h:i<n):(fQ n f)[i]?=some (f (i:Int)):=by
 unfold fQ;rw[BO,List.getElem?_range h];rfl
theorem jE (h:i<(fQ n f).length):(fQ n f)[i]=f (i:Int) :=
 DG ((AH h).symm.trans (Rf (by rw[fW]at h;exact h)))
theorem lC {j:Nat} {y:α} (hj:g (j:Int)=y) (h:∀t:Nat,t≠j->g (t:Int)=f (t:Int)):(fQ n f).set j y=fQ n g:=by
 refine Cu (by simp[fW]) fun i h1 h2=>?_;rw[Fc,jE h2];split
 ·rename_i e;rw[<-e,hj]
 ·rename_i e;rw[jE,h i (Ne.symm e)]
theorem mj (h:∀t:Nat,t<n->g (t:Int)=f (t:Int)):fQ n g=fQ n f:=by
 unfold fQ;refine Eo fun t ht=>h t (BU.1 ht)
theorem mU (x:α) (h:∀t:Nat,f (t:Int)=x):fQ n f=List.replicate n x:=by
 refine Cu (by simp[fW]) fun i h1 h2=>?_;rw[jE,List.getElem_replicate,h]
end
theorem tf (n:Nat):fQ n (nw [])=List.replicate n (0,0):=mU _ fun _=>rfl
def pH (ed:List (Int×Int)) (k:Int):Int:=aW ed (-1-k)
theorem mI {ed:List (Int×Int)} {e:Int×Int} (h:e.1 ∉ ed.map (·.1)) (k:Int):pH (ed++[e]) k=if -1-k=e.1 then e.2 else pH ed k:=by
 unfold pH;rw[K7];by_cases ht:-1-k=e.1
 ·rw[ht,AJ h,Az rfl,Az rfl]
 ·rw[AJ ht];split
  ·rfl
  ·rename_i h1
   rw[AJ (Ne.symm ht),Hs fun x hx e1=>h1 (Bo.2 ⟨x,hx,e1⟩)]
end Tb
theorem NA:(prog.info? 63).map (fun i=>(i.zero,i.size,i.bytes))=some (some (.agg #[.int .i64 0,.int .i64 0]),2,16):=κ
def yh (w:World) (B:Nat) (v:Value) (k:List Au.It) (ed:List (Int×Int)):Prop:=∃AK cK AE cE,v=.agg #[.slice AK k.length cK,.slice AE ed.length cE]/\iC 2 fM w B AK k/\iC 2 fM w B AE ed
theorem yh.below {w w':World} {B B':Nat} {v:Value} {k:List Au.It} {ed:List (Int×Int)} (h:yh w B v k ed) (hb:Below B' w w') (hB:B<=B'):yh w' B v k ed:=by
 obtain⟨AK,cK,AE,cE,e,h1,h2⟩:=h;exact⟨AK,cK,AE,cE,e,h1.below hb hB,h2.below hb hB⟩
theorem OV (v:Value) (G:Gm.Gr) (B:Nat) (vs:Value) (k:List Au.It) (ed:List (Int×Int)) (w:World) (hg:aT w B v G) (hB:B<=w.heap.size) (hs:yh w B vs k ed) (hT:G.ts.length<=24) (hk:k.length<=1000000) (he:ed.length<=1000000) (ao:(ed.map (·.1)).Nodup) (r:∀e∈ed,e.1<G.ts.length) :
  Calls prog 30 #[v,vs] w fun e w'=>∃g,e=.returned (.slice (some ⟨g,0,none⟩) (G.ts.length+1) (G.ts.length+1))/\w.heap.size<=g/\ia 63 fM w' g (Tb.fQ (G.ts.length+1) (Tb.shift G k ed))/\β w w':=by
 obtain⟨AK,cK,AE,cE,rfl,ap,aq⟩:=hs;have af:=aA hB;have HC:=aA (fun(x:World) (h:β w x)=>Ot k (-1,1) AK cK B x (ap.below h hB) (Ah hB h.size) hk);have a1:=aA aq;have a2:=aA ao;have a3:=aA r;have a4:=aA he;have HT:=aA hT;have hS:∀t,Tb.shift G k ed t=if t∈ed.map (·.1) then Tb.nw ed t else if t=G.ts.length/\((-1:Int),(1:Int))∈k then(3,0) else(0,0):=Tb.th G k ed
 have a5:Hid ((G.ts.length:Int) ∉ ed.map (·.1)):=aA (fun h=>by
  obtain⟨e,he,e1⟩:=Bo.1 h
  have:=r e he
  omega)
 have ar:Hid (((-1:Int),(1:Int)) ∉ k->Tb.fQ (G.ts.length+1) (Tb.shift G k ed)=Tb.fQ (G.ts.length+1) (Tb.nw ed)):=aA (fun h=>Tb.mj fun t _=>by
  rw[hS];split
  ·rfl
  ·rename_i h1
   rw[AJ (fun q=>h q.2)];unfold Tb.nw;rw[AJ h1])
 have au:Hid (((-1:Int),(1:Int))∈k->(Tb.fQ (G.ts.length+1) (Tb.nw ed)).set G.ts.length (3,0)=Tb.fQ (G.ts.length+1) (Tb.shift G k ed)):=aA (fun h=>Tb.lC (by rw[hS,AJ a5.o,Az ⟨rfl,h⟩]) fun t ht=>by
  rw[hS];split
  ·rfl
  ·rename_i h1
   rw[AJ (fun q=>ht ω)];unfold Tb.nw;rw[AJ h1])
 generalize Tb.fQ (G.ts.length+1) (Tb.shift G k ed)=fin at *;obtain⟨AT,cT,AN,cN,AR,cR,rfl,_⟩:=hg;have bb:(G.ts.length:Int)<=24:=ω
 have a6:IntKind.i64.wrap ((G.ts.length:Int)+1)=((G.ts.length+1:Nat):Int):=by rw[BV _ ω];omega
 have bc:=aA (show Value.int .i64 ((G.ts.length:Int)+1)=.int .i64 ((G.ts.length+1:Nat):Int) by simp);obtain⟨w1,ag⟩:∃y,y=(w.alloc (.cells #[.slice AT G.ts.length cT,.slice AN G.ns.length cN,.slice AR G.rs.length cR,.int .i64 G.st] 26)).alloc (.cells #[.slice AK k.length cK,.slice AE ed.length cE] 59):=⟨_,rfl⟩
 have aa:Hid (bA 26 59 w #[.slice AT G.ts.length cT,.slice AN G.ns.length cN,.slice AR G.rs.length cR,.int .i64 G.st] #[.slice AK k.length cK,.slice AE ed.length cE] w1):=aA (by rw[ag];exact bA.start _ _ _ _ _);clear hB hT hk he ao r ap aq hS;generalize G.ts.length=n at *
 go_enter func30,ntmps30
 go_upto_region 1 with fail
 rw[<-ag];clear ag;have x0:=aa.o.c1 0 _ rfl;have av:n+1<=1000000:=by have:=HT.o;omega
 go_upto_region 2 with(at_make;refine GY (m:=2) (f:=fM) rfl (.tmp 11) (.tmp 11) _ rfl underlying64 _ 16 NA δ δ δ ((0,0):Int×Int) rfl (n+1) rfl rfl av ?_;intro w2 ah aw)
 obtain⟨gR,ai⟩:∃g,g=w1.heap.size:=⟨_,rfl⟩
 rw[<-ai]at ah ⊢;have u:Hid (w.heap.size+2<=gR):=aA (by rw[ai];exact aa.o.size);have ax:Hid (ia 63 fM w2 gR (Tb.fQ (n+1) (Tb.nw (ed.take 0)))):=aA (by rw[D5,Tb.tf];exact ah);have ab:=aA (aa.o.on aw);have y0:=ab.o.c2 0 _ rfl;have y1:=ab.o.c2 1 _ rfl;have bd:(ed.length:Int)<=1000000:=by have:=a4.o;omega
 clear x0 ah aw ai av aa a6;go_wp2;clear y0 y1;go_loopw [16] (fun vi wr=>∃i:Nat,i<=ed.length/\vi=.int .i64 i/\Hid (ia 63 fM wr gR (Tb.fQ (n+1) (Tb.nw (ed.take i))))/\Hid (bA 26 59 w #[.slice AT n cT,.slice AN G.ns.length cN,.slice AR G.rs.length cR,.int .i64 G.st] #[.slice AK k.length cK,.slice AE ed.length cE] wr)) (fun vi _=>ed.length-(intOf vi).toNat)
 case atStart=>exact⟨0,Bb _,rfl,ax,ab⟩
 case round =>
  clear ax ab;obtain⟨i,hi,rfl,HU,HW⟩:=hrel;rename World=>wr;by_cases b:i<ed.length
  ·obtain⟨g,o,rfl,ac,hc⟩:=a1.o ω;have a9:=Aj ac (Ah af.o HW.o.below.size);have k0:=(HW.o.below.cell (p:=⟨g,o+i*2+0,none⟩) (Aj ac af.o)).trans (hc i b 0 (.int .i64 (ed[i]).1) rfl);have k1:=(HW.o.below.cell (p:=⟨g,o+i*2+1,none⟩) (Aj ac af.o)).trans (hc i b 1 (.int .i64 (ed[i]).2) rfl);rw[CB]at k0;have r:=a3.o _ (AD b);have aj:=aA (AP b)
   have z:Hid ((ed[i]).1 ∉ (ed.take i).map (·.1)):=aA (by
    have:=a2.o
    rw[<-DK i ed,Bi,Cz]at this;intro hm;refine this.2.2 _ hm _ ?_ rfl;rw[BJ b];exact Bn)
   have ad:=aA b;have bf:(i:Int)<(ed.length:Int):=ω
   clear hc ac hi;generalize ed[i]=e at *;clear b;obtain⟨e0,e1⟩:=e;simp only at k0 k1 r z
   have HX:=aA (fun(h:e0<0)=>(show Tb.fQ (n+1) (Tb.nw (ed.take (i+1)))=Tb.fQ (n+1) (Tb.nw (ed.take i)) from by
    rw[aj.o];exact Tb.mj fun t _=>by rw[Tb.mX z.o,AJ (by simp only;omega)]))
   have HY:=aA (fun(s:Nat) (h:e0=s)=>(show(Tb.fQ (n+1) (Tb.nw (ed.take i))).set s (1,e1)=Tb.fQ (n+1) (Tb.nw (ed.take (i+1))) from by
    rw[aj.o];refine Tb.lC ?_ fun t ht=>?_
    ·rw[Tb.mX z.o,Az h.symm]
    ·rw[Tb.mX z.o,AJ (by simp only;omega)]))
   clear z aj;obtain⟨wi,ae⟩:=χ (wr.alloc (.cells #[.int .i64 e0,.int .i64 e1] 96))
   have ay:Hid (β wr wi):=aA (by rw[ae];exact(AB _ _).alloc (Af _) _);have az:Hid (wi.heap[wr.heap.size]?=some (.cells #[.int .i64 e0,.int .i64 e1] 96 (0,0))):=aA (by rw[ae];exact AI wr _);have y0:=aQ az.o;have y1:=aU az.o;have a0:=aA (HW.o.on ay.o);have d:=aA (HU.o.below ay.o HU.o.lt);go_upto_region 5 with fail
   rw[<-ae];clear ae k0 k1;go_wp2_with fail
   refine(KR e0 _).mono ?_;rintro _ wi ⟨rfl,rfl⟩;by_cases hs:e0<0
   ·have HX:=aA (HX.o hs);have A:decide (e0<0)=true:=AV hs;rw[A];clear HY hs A;go_wp2;go_roundw
    case rel=>exact⟨i+1,ad.o,ν,by rw[HX.o];exact d,a0⟩
    case measure=>simp[intOf];have:=ad.o;omega
   ·obtain⟨s,rfl⟩:∃s:Nat,e0=s:=⟨e0.toNat,ω⟩
    have HY:=aA (HY.o s rfl);have A:decide ((s:Int)<0)=false:=AU hs;rw[A];have ba:(s:Int)<((n+1:Nat):Int):=ω
    have j:s<(Tb.fQ (n+1) (Tb.nw (ed.take i))).length:=by rw[Tb.fW];omega
    have s0:=d.o.cell (m:=2) aG s 0 j _ rfl;rw[CB]at s0;have s1:=d.o.cell (m:=2) aG s 1 j _ rfl;have f0:=d.o.frozen (s*2);have f1:=d.o.frozen (s*2+1);have ls:=d.o.lt;have C:=aA (d.o.xK aG s (1,e1) _ _ rfl);rw[HY.o]at C;generalize (Tb.fQ (n+1) (Tb.nw (ed.take i)))[s]=cs at s0 s1;have ak:Hid (bA 26 59 w #[.slice AT n cT,.slice AN G.ns.length cN,.slice AR G.rs.length cR,.int .i64 G.st] #[.slice AK k.length cK,.slice (some ⟨g,o,none⟩) ed.length cE] ((wi.setCell ⟨gR,s*2,none⟩ (.int .i64 1)).setCell ⟨gR,s*2+1,none⟩ (.int .i64 e1))):=aA ((Em a0.o (p:=⟨gR,s*2,none⟩) u.o _).setCell (p:=⟨gR,s*2+1,none⟩) u.o _);clear HX HY hs A j r;go_wp2;clear s0 s1 f0 f1 ls;go_roundw
    case rel=>exact⟨i+1,ad.o,ν,C,ak⟩
    case measure=>simp[intOf];have:=ad.o;omega
  ·obtain rfl:i=ed.length:=ω
   rw[Bp]at HU;have x0:=HW.o.c1 0 _ rfl;have y0:=HW.o.c2 0 _ rfl;clear b hi;go_wp2_with fail
   refine(HC.o wr HW.o.below).mono ?_;rintro _ w5 ⟨rfl,al⟩;have am:=aA (HW.o.on al);have l:=aA (HU.o.below al HU.o.lt);clear al x0 y0;by_cases hm:((-1:Int),(1:Int))∈k
   ·have HY:=aA (au.o hm);have D:decide (((-1:Int),(1:Int))∈k)=true:=AV hm;rw[D];have x0:=am.o.c1 0 _ rfl;have ba:(n:Int)<((n+1:Nat):Int):=ω
    have j:n<(Tb.fQ (n+1) (Tb.nw ed)).length:=by rw[Tb.fW];omega
    have s0:=l.o.cell (m:=2) aG n 0 j _ rfl;rw[CB]at s0;have s1:=l.o.cell (m:=2) aG n 1 j _ rfl;have f0:=l.o.frozen (n*2);have f1:=l.o.frozen (n*2+1);have ls:=l.o.lt;have C:=aA (l.o.xK aG n (3,0) _ _ rfl);rw[HY.o]at C;generalize (Tb.fQ (n+1) (Tb.nw ed))[n]=cs at s0 s1;have ak:=aA (bA.below ((Em am.o (p:=⟨gR,n*2,none⟩) u.o (.int .i64 3)).setCell (p:=⟨gR,n*2+1,none⟩) u.o (.int .i64 0)));clear au ar HY hm D j;go_wp2;go_ret
    exact⟨gR,rfl,by have:=u.o;omega,C.o,ak.o⟩
   ·have HN:=aA (ar.o hm);have D:decide (((-1:Int),(1:Int))∈k)=false:=AU hm;rw[D];clear hm D;go_wp2;go_ret
    exact⟨gR,rfl,by have:=u.o;omega,by rw[HN.o];exact l.o,am.o.below⟩
theorem Pp (v:Value) (G:Gm.Gr) (B:Nat) (vs:Value) (k:List Au.It) (ed:List (Int×Int)) (w:World) (hg:aT w B v G) (hB:B<=w.heap.size) (hs:yh w B vs k ed) (af:1<=G.ns.length) (hN:G.ns.length<=16) (he:ed.length<=1000000) (am:(ed.map (·.1)).Nodup) (l:∀e∈ed,-1-e.1<G.ns.length/\e.1<=1000000) :
  Calls prog 31 #[v,vs] w fun e w'=>∃g,e=.returned (.slice (some ⟨g,0,none⟩) G.ns.length G.ns.length)/\w.heap.size<=g/\gJ w' g (Tb.fQ G.ns.length (Tb.pH ed))/\β w w':=by
 obtain⟨AK,cK,AE,cE,rfl,a5,ao⟩:=hs;have ag:=aA hB;have a6:=aA ao;have a9:=aA am;have ba:=aA l;have bb:=aA he;have HN:=aA hN;have bh:=aA af;obtain⟨AT,cT,AN,cN,AR,cR,rfl,_⟩:=hg;have bi:(G.ns.length:Int)<=16:=ω
 obtain⟨w1,ah⟩:∃y,y=(w.alloc (.cells #[.slice AT G.ts.length cT,.slice AN G.ns.length cN,.slice AR G.rs.length cR,.int .i64 G.st] 26)).alloc (.cells #[.slice AK k.length cK,.slice AE ed.length cE] 59):=⟨_,rfl⟩
 have ai:Hid (bA 26 59 w #[.slice AT G.ts.length cT,.slice AN G.ns.length cN,.slice AR G.rs.length cR,.int .i64 G.st] #[.slice AK k.length cK,.slice AE ed.length cE] w1):=aA (by rw[ah];exact bA.start _ _ _ _ _);have ap:=aA (show Calls prog 63 #[.slice (some ⟨w1.heap.size,0,none⟩) 1 1,.int .i64 (G.ns.length:Int)] (w1.alloc (.cells #[.int .i64 (-1)] 3)) _ from OJ (-1) G.ns.length 1 _ (some ⟨w1.heap.size,0,none⟩) (w1.alloc (vJ [-1])) (FO w1 [-1]).1 (Af _) af ω);have m:=aA (ai.o.alloc (.cells #[.int .i64 (-1)] 3));clear hB af hN he am l a5 ao;generalize G.ns.length=n at *
 go_enter func31,ntmps31
 go_upto_region 1 with fail
 rw[<-ah];clear ah;have x1:=ai.o.c1 1 _ rfl;have x1':=m.o.c1 1 _ rfl;go_wp2_with fail
 refine ap.o.mono ?_;rintro _ w2 ⟨gR,rfl,aq,ar,au⟩;have av:Hid (w.heap.size+2<=gR):=aA (Ah m.o.size aq);have aw:Hid (gJ w2 gR (Tb.fQ n (Tb.pH (ed.take 0)))):=aA (by rw[D5,Tb.mU (f:=Tb.pH []) (-1) fun _=>rfl];exact ar);have aj:=aA (m.o.on au);have y1:=aj.o.c2 1 _ rfl;have bj:(ed.length:Int)<=1000000:=by have:=bb.o;omega
 clear x1 x1' ar au aq ai m ap;go_wp2;clear y1;go_loopw [16] (fun vi wr=>∃i:Nat,i<=ed.length/\vi=.int .i64 i/\Hid (gJ wr gR (Tb.fQ n (Tb.pH (ed.take i))))/\Hid (bA 26 59 w #[.slice AT G.ts.length cT,.slice AN n cN,.slice AR G.rs.length cR,.int .i64 G.st] #[.slice AK k.length cK,.slice AE ed.length cE] wr)) (fun vi _=>ed.length-(intOf vi).toNat)
 case atStart=>exact⟨0,Bb _,rfl,aw,aj⟩
 case round =>
  clear aw aj;obtain⟨i,hi,rfl,HU,HW⟩:=hrel;rename World=>wr;by_cases b:i<ed.length
  ·obtain⟨g,o,rfl,aa,hc⟩:=a6.o ω;have bc:=Aj aa (Ah ag.o HW.o.below.size);have k0:=(HW.o.below.cell (p:=⟨g,o+i*2+0,none⟩) (Aj aa ag.o)).trans (hc i b 0 (.int .i64 (ed[i]).1) rfl);have k1:=(HW.o.below.cell (p:=⟨g,o+i*2+1,none⟩) (Aj aa ag.o)).trans (hc i b 1 (.int .i64 (ed[i]).2) rfl);rw[CB]at k0;have l:=ba.o _ (AD b);have ak:=aA (AP b)
   have r:Hid ((ed[i]).1 ∉ (ed.take i).map (·.1)):=aA (by
    have:=a9.o
    rw[<-DK i ed,Bi,Cz]at this;intro hm;refine this.2.2 _ hm _ ?_ rfl;rw[BJ b];exact Bn)
   have ab:=aA b;have bk:(i:Int)<(ed.length:Int):=ω
   clear hc aa hi;generalize ed[i]=e at *;clear b;obtain⟨e0,e1⟩:=e;simp only at k0 k1 l r
   have HX:=aA (fun(h:¬e0<0)=>(show Tb.fQ n (Tb.pH (ed.take (i+1)))=Tb.fQ n (Tb.pH (ed.take i)) from by
    rw[ak.o];exact Tb.mj fun t _=>by rw[Tb.mI r.o,AJ (by simp only;omega)]))
   have HY:=aA (fun(s:Nat) (h:-1-e0=s)=>(show(Tb.fQ n (Tb.pH (ed.take i))).set s e1=Tb.fQ n (Tb.pH (ed.take (i+1))) from by
    rw[ak.o];refine Tb.lC ?_ fun t ht=>?_
    ·rw[Tb.mI r.o,Az (by simp only;omega)]
    ·rw[Tb.mI r.o,AJ (by simp only;omega)]))
   clear r ak;obtain⟨wi,ac⟩:=χ (wr.alloc (.cells #[.int .i64 e0,.int .i64 e1] 96))
   have ax:Hid (β wr wi):=aA (by rw[ac];exact(AB _ _).alloc (Af _) _);have ad:Hid (wi.heap[wr.heap.size]?=some (.cells #[.int .i64 e0,.int .i64 e1] 96 (0,0))):=aA (by rw[ac];exact AI wr _);have y0:=aQ ad.o;have ay:=aA (HW.o.on ax.o);have az:=aA (HU.o.below ax.o HU.o.lt);have bd:=aA (HU.o.lt);go_upto_region 5 with fail
   rw[<-ac];clear ac k0 k1;go_wp2_with fail
   refine(KR e0 _).mono ?_;rintro _ wi ⟨rfl,rfl⟩;by_cases hs:e0<0
   ·obtain⟨s,a0⟩:∃s:Nat,-1-e0=s:=⟨(-1-e0).toNat,ω⟩
    have HY:=aA (HY.o s a0);have z:decide (e0<0)=true:=AV hs;rw[z];have a1:=aA (fun x=>Ro e0 ω ω x);rw[a0]at a1 l;have bl:(s:Int)<(n:Int):=l.1;have a2:s<(Tb.fQ n (Tb.pH (ed.take i))).length:=by rw[Tb.fW];omega
    have m:=aA a2;have bf:=aA (fun y:iR [wr.heap.size] wi=>y.row (j:=0) (u:=.int .i64 e0) σ ad.o rfl);have q0:=fun y:iR [wr.heap.size] wi=>y.row (j:=0) (u:=.int .i64 e0) σ ad.o rfl;have q1:=fun y:iR [wr.heap.size] wi=>y.row (j:=1) (u:=.int .i64 e1) σ ad.o rfl;have ae:Hid (gJ wi.drew gR (Tb.fQ n (Tb.pH (ed.take i)))):=az;have al:Hid (∃y:iR [wr.heap.size] wi,wi.drew=y.1):=aA ⟨⟨wi.drew,fun _ _=>rfl⟩,rfl⟩
    have a3:Hid (∃y:iR [wr.heap.size] wi,wi.drew.setCell ⟨gR,s,none⟩ (.int .i64 e1)=y.1):=aA ⟨⟨_,fun g hg=>by
     rw[AW]at hg;subst hg;exact AQ wi.drew ⟨gR,s,none⟩ _ _ (fun e=>by have e:wr.heap.size=gR:=e;have:=bd.o;omega)⟩,rfl⟩
    have bg:Hid (bA 26 59 w #[.slice AT G.ts.length cT,.slice AN n cN,.slice AR G.rs.length cR,.int .i64 G.st] #[.slice AK k.length cK,.slice (some ⟨g,o,none⟩) ed.length cE] (wi.drew.setCell ⟨gR,s,none⟩ (.int .i64 e1))):=aA (Em (ay.o.drewN 1) (p:=⟨gR,s,none⟩) av.o _);have a4:=aA (ae.o.ky s e1);rw[HY.o]at a4;clear HX HY hs z l a2 y0;go_upto_region 6 with fail
    refine CalmN.fk (fun x=>∃y:iR [wr.heap.size] wi,x=y.1) (.one [0,1,2,4,5] 3 (.one [6] 7 (.fin []))) al.o ?_;simp only[CalmN.fS,CalmN.fu,CalmN.fo,Aq,Ai,Am];repeat (go_big_quiet_step (fail))
    refine Ap ?_;clear q0 q1 bf;generalize wi.drew=wd at *;intro KK A;rw[Az ε];go_wp2_with fail
    refine(a1.o wd).mono ?_;rintro _ wd ⟨rfl,rfl⟩;go_wp2_with fail
    refine A _ _ al.o _ ι al.o ?_;clear A;repeat (go_big_quiet_step (fail))
    refine Ap ?_;intro KK A;rw[Az ε];have s0:=ae.o.cell s m.o;have f0:=ae.o.frozen s;have ls:=ae.o.lt;go_wp2_with fail
    refine A _ _ a3.o _ ι a3.o ?_;clear A s0 f0 ls;refine Ap ?_;generalize wd.setCell ⟨gR,s,none⟩ (.int .i64 e1)=wk at *;go_wp2;go_roundw
    case rel=>exact⟨i+1,ab.o,ν,a4,bg⟩
    case measure=>simp[intOf];have:=ab.o;omega
   ·have HX:=aA (HX.o ω);have z:decide (e0<0)=false:=AU hs;rw[z];clear HY hs z;go_wp2;go_roundw
    case rel=>exact⟨i+1,ab.o,ν,by rw[HX.o];exact az,ay⟩
    case measure=>simp[intOf];have:=ab.o;omega
  ·obtain rfl:i=ed.length:=ω
   rw[Bp]at HU;clear b hi;go_wp2;go_ret
   exact⟨gR,rfl,by have:=av.o;omega,HU.o,HW.o.below⟩
section
variable {t1 t2:TypeId} {w wr:World} {a b:Array Value}
theorem bA.b2 (h:bA t1 t2 w a b wr):wr.heap[w.heap.size+1]?=some (.cells b t2 (0,0)):=by
 have e:=AI (w.alloc (.cells a t1)) (.cells b t2);rw[show(w.alloc (.cells a t1)).heap.size=w.heap.size+1 by simp]at e;exact(Ef h (w.heap.size+1) ω).trans e
end
abbrev C5:=Int×Int×Int×Int×Int
def qR (x:C5):List Value:=[.int .i64 x.1,.int .i64 x.2.1,.int .i64 x.2.2.1,.int .i64 x.2.2.2.1,.int .i64 x.2.2.2.2]
theorem yy (x:C5):(qR x).length=5:=rfl
theorem Nd (x:C5):∀u∈qR x,u.oneCell'=true:=fun u hu=>by
 simp[qR]at hu;rcases hu with rfl|rfl|rfl|rfl|rfl <;> rfl
theorem Nz:(prog.info? 66).map (fun i=>(i.zero,i.size,i.bytes))=some (some (.agg #[.int .i64 0,.int .i64 0,.int .i64 0,.int .i64 0,.int .i64 0]),5,40):=κ
theorem LR (x:C5) (w:World) (g:Nat) (hb:w.heap[g]?=some (.cells #[.int .i64 x.1,.int .i64 x.2.1,.int .i64 x.2.2.1,.int .i64 x.2.2.2.1,.int .i64 x.2.2.2.2] 66 (0,0))):∀j u,(qR x)[j]?=some u->w.cell? ⟨g,j,none⟩=some u:=fun j u hu=>by
 refine(AF w g j _ _ _ hb).trans ?_
 match j,hu with
 | 0,hu=>exact hu
 | 1,hu=>exact hu
 | 2,hu=>exact hu
 | 3,hu=>exact hu
 | 4,hu=>exact hu
 | j+5,hu=>simp[qR]at hu
def xg (z:Int):List Value:=[.int .i64 z]
theorem TI (z:Int):(xg z).length=1:=rfl
theorem RI (l:List Int):l.flatMap xg=l.map (.int .i64):=by
 induction l with
 | nil=>rfl
 | cons x l ih=>rw[B7,ih];rfl
theorem gJ.q (h:gJ w g l):ia 3 xg w g l:=by
 unfold ia;rw[RI];exact h
structure fI (R:Nat) (w w':World):Prop where
 size:w.heap.size<=w'.heap.size
 fp:∀(g:Nat) (o:Obj),w.heap[g]?=some o->g≠R->(∀cur fr,o ≠ .cells cur 66 fr)->w'.heap[g]?=some o
section
variable {R:Nat} {w w' w2:World}
theorem fI.refl (R:Nat) (w:World):fI R w w:=⟨Af _,fun _ _ h _ _=>h⟩
theorem fI.trans (h:fI R w w') (k:fI R w' w2):fI R w w2:=⟨Ah h.size k.size,fun g o h1 h2 h3=>k.fp g o (h.fp g o h1 h2 h3) h2 h3⟩
theorem fI.below (h:β w w'):fI R w w':=⟨h.size,fun g _ h1 _ _=>(h.block g (Ad.1 h1).1).trans h1⟩
theorem fI.own (h:w.ownsRow base 66 5 v n xs) (hg:w.grownBy w' v.ownBlock):fI R w w':=⟨hg.size,fun _ _ h1 _ h4=>aJ h hg h1 fun cur=>h4 cur _⟩
theorem fI.set (i:Nat) (u:Value):fI R w (w.setCell ⟨R,i,none⟩ u):=⟨σ,fun g _ h1 h2 _=>(AQ w ⟨R,i,none⟩ u g h2).trans h1⟩
theorem fI.cells (h:fI R w w') {T:TypeId} (hb:w.heap[g]?=some (.cells cs T (0,0))) (hR:g≠R) (hT:T≠66):w'.heap[g]?=some (.cells cs T (0,0)):=h.fp g _ hb hR fun cur fr e=>by
 injection e with _ e _;exact hT e
theorem fI.row (h:fI R w w') {a:Array Value} (hR:w.heap[R]?=some (.cells a 77 (0,0))) {T:TypeId} (hb:w.heap[g]?=some (.cells cs T (0,0))) (hT:T≠66) (aa:T≠77):w'.heap[g]?=some (.cells cs T (0,0)):=h.cells hb (fun e=>by
 rw[e,hR]at hb;injection hb with hb;injection hb with _ hb _;exact aa hb.symm) hT
theorem fI.oE (h:fI R w w') {a:Array Value} (hR:w.heap[R]?=some (.cells a 77 (0,0))) {T:TypeId} (ho:w.ownsRow base T m v n xs) (hT:T≠66) (aa:T≠77):w'.ownsRow base T m v n xs:=by
 refine⟨ho.1,?_⟩;rcases ho.2 with h1|⟨g,cap,cur,h1,h2,h3,h4⟩
 ·exact .inl h1
 ·exact .inr ⟨g,cap,cur,h1,h2,h.row hR h3 hT aa,h4⟩
end
abbrev wB (g0 g1 g2 g3 vA vG vC:Value):Array Value:=#[g0,g1,g2,g3,vA,vG,vC]
def GF:List TypeId:=[63,77,64,51,66,3]
structure iZ (w:World) (base R N:Nat) (g0 g1 g2 g3:Value) (rows:List (RW (Int×Int))) (gts:List (RW Int)) (cs:List C5):Prop where
 b:∃vA vG vC,w.heap[R]?=some (.cells (wB g0 g1 g2 g3 vA vG vC) 77 (0,0))/\aK 64 1 jl w base vA rows/\aK 51 1 jl w base vG gts/\aK 66 5 qR w base vC cs
 ra:∀r∈rows,bU 63 2 fM w base N r
 rg:∀r∈gts,bU 3 1 xg w base N r
 hR:base<=R
 hN:N<=w.heap.size
section
variable {w w' w5:World} {base R N:Nat} {g0 g1 g2 g3:Value} {rows:List (RW (Int×Int))} {gts:List (RW Int)} {cs:List C5}
theorem iZ.below (h:iZ w base R N g0 g1 g2 g3 rows gts cs) (hb:β w w'):iZ w' base R N g0 g1 g2 g3 rows gts cs:=by
 obtain⟨⟨vA,vG,vC,h1,h2,h3,h4⟩,h5,h6,h7,h8⟩:=h;exact⟨⟨vA,vG,vC,aC hb h1,h2.below hb (Af _),h3.below hb (Af _),h4.below hb (Af _)⟩,fun r hr=>(h5 r hr).below hb h8,fun r hr=>(h6 r hr).below hb h8,h7,Ah h8 hb.size⟩
theorem iZ.gf (h:iZ w base R N g0 g1 g2 g3 rows gts cs):base<=w.heap.size:=by
 obtain⟨⟨_,_,_,h1,_⟩,_,_,h7,_⟩:=h
 have:=(Ad.1 h1).1
 omega
theorem iZ.lt (h:iZ w base R N g0 g1 g2 g3 rows gts cs):R<w.heap.size:=by
 obtain⟨⟨_,_,_,h1,_⟩,_⟩:=h;exact(Ad.1 h1).1
theorem iZ.kept (h:iZ w base R N g0 g1 g2 g3 rows gts cs) (hk:∀(g:Nat) (cur:Array Value) (T:TypeId),T∈GF->(T=63->g<N)->w.heap[g]?=some (.cells cur T (0,0))->w'.heap[g]?=some (.cells cur T (0,0))) (hs:w.heap.size<=w'.heap.size):iZ w' base R N g0 g1 g2 g3 rows gts cs:=by
 obtain⟨⟨vA,vG,vC,h1,h2,h3,h4⟩,h5,h6,h7,h8⟩:=h
 have own:∀ {m n:Nat} {T:TypeId} {v:Value} {xs:List Value},w.ownsRow base T m v n xs->T∈GF->T≠63->w'.ownsRow base T m v n xs:=fun {m n T v xs} ho hT aa=>by
  refine⟨ho.1,?_⟩;rcases ho.2 with h1|⟨g,cap,cur,h1,h2,h3,h4⟩
  ·exact .inl h1
  ·exact .inr ⟨g,cap,cur,h1,h2,hk g _ _ hT (fun e=>absurd e aa) h3,h4⟩
 exact⟨⟨vA,vG,vC,hk _ _ _ δ (fun e=>absurd e δ) h1,own h2 δ δ,own h3 δ δ,own h4 δ δ⟩,fun r hr=>(h5 r hr).fp fun g cur _ hg hc=>hk g cur _ δ (fun _=>hg) hc,fun r hr=>(h6 r hr).fp fun g cur _ _ hc=>hk g cur _ δ (fun e=>absurd e δ) hc,h7,Ah h8 hs⟩
theorem iZ.sJ (h:iZ w base R N g0 g1 g2 g3 rows gts cs) {p:Nat} {a:Array Value} (hb:w.heap[p]?=some (.cells a 63 (0,0))) (hp:N<=p) (u:Value):iZ (w.setCell ⟨p,i,none⟩ u) base R N g0 g1 g2 g3 rows gts cs :=
 h.kept (fun g cur T _ hT hc=>(AQ w ⟨p,i,none⟩ u g (fun e=>by
  have e:g=p:=e;subst e;rw[hb]at hc;injection hc with hc;injection hc with _ hc _
  have:=hT hc.symm
  omega)).trans hc) σ
theorem iZ.push (h:iZ w base R N g0 g1 g2 g3 rows gts cs) {vA vG vC:Value} (hb:w.heap[R]?=some (.cells (wB g0 g1 g2 g3 vA vG vC) 77 (0,0))) (hC:aK 66 5 qR w base vC cs) {a5:Array Value} {x:C5} {v5:Value} (ho:aK 66 5 qR w5 base v5 (cs++[x])) (hg:(w.alloc (.cells a5 66)).grownBy w5 vC.ownBlock) :
  iZ (w5.setCell ⟨R,6,none⟩ v5) base R N g0 g1 g2 g3 rows gts (cs++[x])/\fI R w (w5.setCell ⟨R,6,none⟩ v5)/\Below base w (w5.setCell ⟨R,6,none⟩ v5)/\w5.heap[R]?=some (.cells (wB g0 g1 g2 g3 vA vG vC) 77 (0,0)):=by
 have ab:=h.gf;obtain⟨⟨vA',vG',vC',h1,h2,h3,h4⟩,h5,h6,h7,h8⟩:=h;rw[hb]at h1;injection h1 with h1;injection h1 with h1 _ _;injection h1 with h1;simp only[EY,and_true,true_and]at h1;obtain⟨rfl,rfl,rfl⟩:=h1;have b:Below w.heap.size w (w.alloc (.cells a5 66)):=(AB _ _).alloc (Af _) _;have aa:=hC.below b (Af _);have b5:=aJ aa hg (aC b hb) fun cur=>aH δ;have k5:fI R w w5:=(fI.below b).trans (.own aa hg);have k6:=k5.trans (fI.set (w:=w5) 6 v5);refine⟨⟨⟨_,_,_,Ba w5 R 6 _ _ v5 b5,k6.oE hb h2 δ δ,k6.oE hb h3 δ δ,?_⟩,fun r hr=>(h5 r hr).fp fun g cur _ _ hc=>k6.row hb hc δ δ,fun r hr=>(h6 r hr).fp fun g cur _ _ hc=>k6.row hb hc δ δ,h7,Ah h8 k6.size⟩,k6,?_,b5⟩
 ·exact Bf ho (aF (AO _ _) 6 _) (qn ho b5 fun cur=>aH δ)
 ·exact(((b.mono ab).grown hg (Ah ab b.size) (fun k e=>(Br aa k e).1)).setCell h7 v5)
theorem fI.oU (h:fI R w w') {p:Nat} (hp:w.heap.size<=p) (u:Value):fI R w (w'.setCell ⟨p,i,none⟩ u):=⟨by have:=h.size;simpa using this,fun g _ h1 h2 h3=>(AQ w' ⟨p,i,none⟩ u g (fun e=>by
 have e:g=p:=e
 have:=(Ad.1 h1).1
 omega)).trans (h.fp g _ h1 h2 h3)⟩
theorem iZ.fin (h:iZ w' base R N g0 g1 g2 g3 rows gts cs) (hk:fI R w w') (hb:Below base w w') {p:Nat} {a0 b0:Value} (hp:w'.heap[p]?=some (.cells #[a0,b0] 63 (0,0))) (hw:w.heap.size<=p) (hN:N<=w.heap.size) (hl:base<=w.heap.size) (a b:Value) :
  iZ ((w'.setCell ⟨p,0,none⟩ a).setCell ⟨p,1,none⟩ b) base R N g0 g1 g2 g3 rows gts cs/\fI R w ((w'.setCell ⟨p,0,none⟩ a).setCell ⟨p,1,none⟩ b)/\Below base w ((w'.setCell ⟨p,0,none⟩ a).setCell ⟨p,1,none⟩ b)/\((w'.setCell ⟨p,0,none⟩ a).setCell ⟨p,1,none⟩ b).heap[p]?=some (.cells #[a,b] 63 (0,0)):=by
 have h0:=Ba w' p 0 _ _ a hp;exact⟨(h.sJ hp ω a).sJ h0 ω b,(hk.oU hw a).oU hw b,(hb.setCell (p:=⟨p,0,none⟩) (by simp only;omega) a).setCell (p:=⟨p,1,none⟩) (by simp only;omega) b,Ba _ p 1 _ _ b h0⟩
end
namespace Tb
def tM (q:Int) (l:List Cf):List C5:=l.map fun c=>(q,c.1,c.2.1,c.2.2.1,c.2.2.2)
theorem ua (G:Gm.Gr) (x:Ce) (t:Int):cell G x t []=(x,[]):=rfl
theorem uc (G:Gm.Gr) (x:Ce) (t k:Int) (r:List Int) (h:x.1=0):cell G x t (k::r)=((2,k),r.map fun j=>(t,5,j,k)):=by
 unfold cell;simp only;rw[Az h]
theorem sS (G:Gm.Gr) (x:Ce) (t k:Int) (r:List Int) (h:x.1≠0):cell G x t (k::r)=(if nF G k t=1 then(2,k) else if nF G k t=3 then(0,0) else x,(r.map fun j=>(t,5,j,k))++[(t,nF G k t,k,-1)]):=by
 unfold cell;simp only;rw[AJ h]
def ord (q t k:Int) (r:List Int):List C5:=r.map fun j=>(q,t,5,j,k)
theorem uN {q k:Int} (h:i<r.length) (cs:List C5):cs++ord q t k (r.take (i+1))=(cs++ord q t k (r.take i))++[(q,t,5,r[i],k)]:=by
 unfold ord;rw[AP h,Bi,Cd];rfl
theorem rY (q t k:Int) (r:List Int):tM q (r.map fun j=>(t,5,j,k))=ord q t k r:=by
 unfold tM ord;rw[Ee];rfl
theorem wY (q:Int) (a b:List Cf):tM q (a++b)=tM q a++tM q b:=Bi
end Tb
theorem RX (w:World):(Instr.build 63 #[]).run prog w=.ok (.agg #[.int .i64 0,.int .i64 0]) w:=EC w 63 _ _ κ
theorem PM (w:World) (base R N B kb:Nat) (G:Gm.Gr) (g0 g1 g2 g3:Value) (rows:List (RW (Int×Int))) (gts:List (RW Int)) (cs:List C5) (q t:Nat) (sh:Int×Int) (ks:List Int) (A:Option Addr) (c:Nat) (h:iZ w base R N g0 g1 g2 g3 rows gts cs) (hg:aT w B (.agg #[g0,g1,g2,g3]) G) (hB:B<=base) (ho:aV w kb (.slice A ks.length c) ks) (aj:ks.length<=40) (bl:cs.length<=900000) (ak:∀k∈ks,0<=k/\k<G.rs.length) (ht:t<=G.ts.length) (hp:∀i (hi:i<G.rs.length),(G.rs[i]).p<G.ts.length) :
  Calls prog 59 #[.pointer (some ⟨R,0,none⟩),.int .i64 q,.int .i64 t,.agg #[.int .i64 sh.1,.int .i64 sh.2],.slice A ks.length c] w fun e w'=>e=.returned (.agg #[.int .i64 (Tb.cell G sh t ks).1.1,.int .i64 (Tb.cell G sh t ks).1.2])/\iZ w' base R N g0 g1 g2 g3 rows gts (cs++Tb.tM q (Tb.cell G sh t ks).2)/\fI R w w'/\Below base w w':=by
 have l:=aA h.gf;have I:=aA h.hN;have bz:=aA h.lt;have bb:=aA bl;have ay:=aA (fun(x:World) (hx:Below base w x) (k:Nat) (hk:k<G.rs.length)=>LL (.agg #[g0,g1,g2,g3]) G B k t x (hg.below hx hB) (Ah hB (Ah l.o hx.size)) hk ht (hp k hk));obtain⟨s0,s1⟩:=sh;simp only;obtain⟨w1,C⟩:∃y,y=(w.alloc (.cells #[.int .i64 s0,.int .i64 s1] 63)).alloc (.cells #[.int .i64 0,.int .i64 0] 63):=⟨_,rfl⟩
 have az:Hid (bA 63 63 w #[.int .i64 s0,.int .i64 s1] #[.int .i64 0,.int .i64 0] w1):=aA (by rw[C];exact bA.start _ _ _ _ _);have U:Hid (β w w1):=aA az.o.below;have J:Hid (w1.heap[w.heap.size]?=some (.cells #[.int .i64 s0,.int .i64 s1] 63 (0,0))):=aA (by rw[C];exact aC ((AB _ _).alloc (Af _) _) (AI w _))
 have u:Hid (w1.heap[w.heap.size+1]?=some (.cells #[.int .i64 0,.int .i64 0] 63 (0,0))):=aA (by
  have:=AI (w.alloc (.cells #[.int .i64 s0,.int .i64 s1] 63)) (.cells #[.int .i64 0,.int .i64 0] 63)
  rw[C]
  simpa using this)
 have V:=aA (h.below U.o);have X:=aA (ho.below U.o (Af _));have al:Hid (fI R w w1):=aA (.below U.o);have aa:Hid (Below base w w1):=aA (U.o.mono l.o);clear h hg ho U
 match ks,aj,ak,X with
 | [],_,_,_ =>
  have HF:=aA (V.o.fin al.o aa.o u.o ω I.o l.o (.int .i64 s0) (.int .i64 s1));have x0:=aQ J.o;have x1:=aU J.o;have y0:=aQ u.o;have y1:=aU u.o;have f0:=AM w1 _ 0 _ _ u.o;have f1:=AM w1 _ 1 _ _ u.o;have ly:=(Ad.1 u.o).1;have lx:w.heap.size<w1.heap.size:=ω
  have e0:([]:List Int).length=0:=rfl;rw[e0];clear e0 V al aa J u az ay
  go_enter func59,ntmps59
  go_upto_region 1 with fail
  rw[<-C];clear C;obtain⟨wf,d⟩:∃y,y=(w1.setCell ⟨w.heap.size+1,0,none⟩ (.int .i64 s0)).setCell ⟨w.heap.size+1,1,none⟩ (.int .i64 s1):=⟨_,rfl⟩
  rw[<-d]at HF;go_wp2;rw[<-d];clear d;have j0:=aQ HF.o.2.2.2;have j1:=aU HF.o.2.2.2;have lf:=(Ad.1 HF.o.2.2.2).1;refine B3 (v:=.agg #[.int .i64 s0,.int .i64 s1]) (by simp[results,results59,go_sem,j0,j1]) rfl ?_;exact⟨rfl,by rw[Tb.ua];unfold Tb.tM;rw[Dh,CG];exact HF.o.1,HF.o.2.1,HF.o.2.2.1⟩
 | k::r,aj,ak,X =>
  have hk:=ak k Bn;obtain⟨kn,rfl⟩:∃kn:Nat,k=kn:=⟨k.toNat,ω⟩
  have bm:=aA (fun x hx=>ay.o x hx kn ω);have ab:Hid (r.length<=40):=aA (by rw[Bz]at aj;omega);obtain⟨gk,ck,ek,_,_,_⟩:=X.o.addr σ;injection ek with ek1 _ ek3;subst ek1 ek3;obtain⟨n,hn⟩:∃n,r.length=n:=⟨_,rfl⟩
  have am:((kn:Int)::r).length=n+1:=by rw[Bz,hn]
  have ao:Hid (aV w1 kb (.slice (some ⟨gk,0,none⟩) (n+1) c) ((kn:Int)::r)):=aA (by have:=X.o;rw[am]at this;exact this);rw[am];have HN:=aA hn;have bD:(n:Int)<=40:=by have:=ab.o;omega
  have k0:=ao.o.cellAt am.symm 0 σ;rw[show((kn:Int)::r).getD 0 0=(kn:Int) from rfl]at k0;have S1:=fun y:World=>Hm y (some ⟨gk,0,none⟩) c (n+1) 1 ω;have lk:=(Ad.1 J.o).1
  have bn:n+1<=c:=by
   obtain⟨_,_,e,h1,_⟩:=ao.o.form;injection e with _ _ e;omega
  obtain⟨D,hD⟩:∃D,D=fY (some ⟨gk,0,none⟩) c 1:=⟨_,rfl⟩
  have S1:∀y:World,(Instr.sliceAt 51 (.slice (some ⟨gk,0,none⟩) (n+1) c) (some (.int .i64 1)) none none).run prog y=.ok (.slice D n (c-1)) y:=fun y=>by rw[hD];exact Hm y (some ⟨gk,0,none⟩) c (n+1) 1 ω
  have HD:Hid (0<n->D=some ⟨gk,1,none⟩):=aA (fun h0=>by rw[hD];unfold fY;rw[AJ ω];simp[Addr.add]);have lgk:gk<w1.heap.size:=Bl k0;have bo:((n:Int)+1==0)=false:=by rw[Bc];omega
  have bc:Hid (iZ w1 base R N g0 g1 g2 g3 rows gts (cs++Tb.ord q t kn (r.take 0))):=aA (by rw[D5];unfold Tb.ord;rw[Dh,CG];exact V.o);have bp:Hid (∀i,(Tb.ord q t kn (r.take i)).length<=40):=aA (fun i=>by unfold Tb.ord;rw[Bh,Bm];have:=ab.o;omega);obtain⟨⟨vA0,vG0,vC0,bd,_,_,_⟩,_,_,_,_⟩:=V.o;have a0:=aA bd;clear hD ak aj am bn hk ay az V X bd
  go_enter func59,ntmps59
  go_upto_region 1 with fail
  rw[<-C];clear C;go_wp2;clear S1 k0 lgk bo;go_loopw [26] (fun vi wr=>∃i:Nat,i<=n/\vi=.int .i64 i/\Hid (iZ wr base R N g0 g1 g2 g3 rows gts (cs++Tb.ord q t kn (r.take i)))/\Hid (fI R w1 wr)/\Hid (Below base w wr)) (fun vi _=>n-(intOf vi).toNat)
  case atStart=>exact⟨0,Bb _,rfl,bc,aA (.refl _ _),aa⟩
  case round =>
   clear bc;obtain⟨i,hi,rfl,HT,HK,HW⟩:=hrel;rename World=>wr;obtain⟨⟨vA,vG,vC,hb,hA,hG,hC⟩,ap,aq,hR,ar⟩:=HT.o;by_cases bf:i<n
   ·obtain rfl:=HD.o ω;have a1:i<r.length:=by have:=HN.o;omega
    have bg:aV wr kb (.slice (some ⟨gk,0,none⟩) (n+1) c) ((kn:Int)::r):=HK.o.oE a0.o ao.o δ δ;have kz:=bg.cellAt (by rw[Bz,HN.o]) (1+i) (by rw[Bz];omega);rw[show((kn:Int)::r).getD (1+i) 0=r[i] by rw[Nat.add_comm,List.getD_cons_succ,L.fy a1]]at kz;have bq:=aA (Tb.uN (q:=q) (t:=t) (k:=kn) a1 cs);have br:=aA (bp.o i);have bh:=aA bf;have bM:(i:Int)<(n:Int):=ω
    have lgk:=Bl kz;clear bg;generalize r[i]=z at *;clear a1;have Z:(cs++Tb.ord q t kn (r.take i)).length<=1000000:=by rw[AZ];have:=br.o;have:=bb.o;omega
    have a2:=aA Z;clear Z;generalize cs++Tb.ord q t kn (r.take i)=xs at *;obtain⟨AC,cC,rfl,_,_,_⟩:=hC.form yy;have c6:=yQ hb;have fR:=AM _ R 6 _ _ hb;have lR:=(Ad.1 hb).1;have E:Hid (Below wr.heap.size wr (wr.alloc (.cells #[.int .i64 (q:Int),.int .i64 (t:Int),.int .i64 5,.int .i64 z,.int .i64 (kn:Int)] 66))):=aA ((AB _ _).alloc (Af _) _);have ad:=aA (hC.below E.o (Af _));have m:=aA (AI wr (.cells #[.int .i64 (q:Int),.int .i64 (t:Int),.int .i64 5,.int .i64 z,.int .i64 (kn:Int)] 66));have ae:Hid (base<=(wr.alloc (.cells #[.int .i64 (q:Int),.int .i64 (t:Int),.int .i64 5,.int .i64 z,.int .i64 (kn:Int)] 66)).heap.size):=aA (Ah (Ah l.o HW.o.size) E.o.size);have af:=aA (fun(v5:Value) (w5:World) (h1:aK 66 5 qR w5 base v5 (xs++[(((q:Int),(t:Int),5,z,(kn:Int)):C5)])) (h2:(wr.alloc (.cells #[.int .i64 (q:Int),.int .i64 (t:Int),.int .i64 5,.int .i64 z,.int .i64 (kn:Int)] 66)).grownBy w5 (Value.slice AC xs.length cC).ownBlock)=>HT.o.push hb hC h1 h2);clear hA hG hC ap aq hR ar hb;go_wp2_with (at_builtin;refine yz (f:=qR) rfl (.tmp 34) (.tmp 40) _ rfl underlying34 _ 40 Nz δ δ δ yy Nd base _ xs rfl ad.o _ _ (((q:Int),(t:Int),5,z,(kn:Int)):C5) rfl (LR (((q:Int),(t:Int),5,z,(kn:Int)):C5) _ _ m.o) a2.o ae.o ?_;intro v5 w5 F ag;obtain⟨A5,c5,rfl,_,_,_⟩:=aK.form F yy;have g:=aA (af.o _ _ F ag);have c5R:=yQ g.o.2.2.2;have f5R:=AM _ R 6 _ _ g.o.2.2.2;have l5R:=(Ad.1 g.o.2.2.2).1;clear ag F af c6 fR lR E ad m ae;generalize (xs++[(((q:Int),(t:Int),5,z,(kn:Int)):C5)]).length=ln at *)
    have bi:=aA g.o.1;rw[<-bq.o]at bi;have bs:=aA (HK.o.trans g.o.2.1);have bu:=aA (HW.o.trans g.o.2.2.1);clear g c5R f5R l5R kz lgk;go_roundw
    case rel=>exact⟨i+1,bh.o,ν,bi,bs,bu⟩
    case measure=>simp[intOf];have:=bh.o;omega
   ·obtain rfl:i=n:=ω
    have HT:Hid (iZ wr base R N g0 g1 g2 g3 rows gts (cs++Tb.ord q t kn r)):=aA (by have:=HT.o;rw[Cq (by have:=HN.o;omega)]at this;exact this);clear hA hG hC ap aq hR ar hb HD ao lk bf hi;obtain⟨wz,au⟩:=χ (wr.alloc (.cells #[.int .i64 2,.int .i64 (kn:Int)] 63))
    have a3:Hid (β wr wz):=aA (by rw[au];exact(AB _ _).alloc (Af _) _);have ah:Hid (wz.heap[wr.heap.size]?=some (.cells #[.int .i64 2,.int .i64 (kn:Int)] 63 (0,0))):=aA (by rw[au];exact AI wr _);have av:=aA (HT.o.below a3.o);have ac:=aA (HK.o.trans (.below a3.o));have a4:=aA (al.o.trans ac.o);have ai:=aA (HW.o.trans (a3.o.mono (Ah l.o HW.o.size)));have aw:=aA (ac.o.row a0.o J.o δ δ);have a5:=aA (ac.o.row a0.o u.o δ δ);have x0:=aQ aw.o;have lx:=(Ad.1 aw.o).1;go_upto_region 10 with fail
    rw[<-au];clear au;clear HT HK HW al aa J u;by_cases hs:s0=0
    ·have HE:=aA (Tb.uc G (s0,s1) t kn r hs);subst hs;have H:=av;have M:=a4;have O:=ai;have b:=a5;have z0:=aQ ah.o;have z1:=aU ah.o;have lz:=(Ad.1 ah.o).1;go_upto_region 11 with fail
     have HF:=aA (H.o.fin M.o O.o b.o ω I.o l.o (.int .i64 2) (.int .i64 (kn:Int)));have y0:=aQ b.o;have y1:=aU b.o;have f0:=AM _ _ 0 _ _ b.o;have f1:=AM _ _ 1 _ _ b.o;have ly:=(Ad.1 b.o).1;obtain⟨wf,d⟩:∃y,y=(wz.setCell ⟨w.heap.size+1,0,none⟩ (.int .i64 2)).setCell ⟨w.heap.size+1,1,none⟩ (.int .i64 (kn:Int)):=⟨_,rfl⟩
     rw[<-d]at HF;go_wp2;rw[<-d];clear d;have j0:=aQ HF.o.2.2.2;have j1:=aU HF.o.2.2.2;have lf:=(Ad.1 HF.o.2.2.2).1;refine B3 (v:=.agg #[.int .i64 2,.int .i64 (kn:Int)]) (by simp[results,results59,go_sem,j0,j1]) rfl ?_;exact⟨by rw[HE.o],by rw[HE.o,Tb.rY];exact HF.o.1,HF.o.2.1,HF.o.2.2.1⟩
    ·have HE:=aA (Tb.sS G (s0,s1) t kn r hs);have bv:(s0==0)=false:=by rw[Bc];exact hs
     have bw:=aA (Tb.za G kn t);have bx:=aA (bm.o wz ai.o);generalize Tb.nF G kn t=hw at *;obtain⟨⟨vA,vG,vC,hb,_,_,_⟩,_,_,_,_⟩:=av.o;have b0:=aQ hb;have b1:=aU hb;have b2:=bB hb;have b3:=bL hb;have lR:=(Ad.1 hb).1;have a6:=aA hb;clear hb hs;go_upto_region 12 with fail
     clear bv x0 lx;go_wp2_with fail
     refine bx.o.mono ?_;rintro _ w4 ⟨rfl,ax⟩;have HT:=aA (av.o.below ax);have bj:Hid (fI R wz w4):=aA (.below ax);have HW:=aA (ai.o.trans (ax.mono (Ah l.o ai.o.size)));clear b0 b1 b2 b3 lR ax;obtain⟨⟨vA,vG,vC,hb,hA,hG,hC⟩,ap,aq,hR,ar⟩:=HT.o;have Z:(cs++Tb.ord q t kn r).length<=1000000:=by rw[AZ];unfold Tb.ord;rw[Bh];have:=ab.o;have:=bb.o;omega
     have a2:=aA Z;clear Z;have bk:Hid (∀hw:Int,(cs++Tb.ord q t kn r)++[((q:Int),(t:Int),hw,(kn:Int),(-1:Int))]=cs++Tb.tM q ((r.map fun j=>((t:Int),5,j,(kn:Int)))++[((t:Int),hw,(kn:Int),-1)])):=aA (fun hw=>by rw[Tb.wY,Tb.rY,Cd];rfl);generalize cs++Tb.ord q t kn r=xs at *;obtain⟨AC,cC,rfl,_,_,_⟩:=hC.form yy;have c6:=yQ hb;have fR:=AM _ R 6 _ _ hb;have lR:=(Ad.1 hb).1;have E:Hid (Below w4.heap.size w4 (w4.alloc (.cells #[.int .i64 (q:Int),.int .i64 (t:Int),.int .i64 hw,.int .i64 (kn:Int),.int .i64 (-1)] 66))):=aA ((AB _ _).alloc (Af _) _);have ad:=aA (hC.below E.o (Af _));have m:=aA (AI w4 (.cells #[.int .i64 (q:Int),.int .i64 (t:Int),.int .i64 hw,.int .i64 (kn:Int),.int .i64 (-1)] 66));have ae:Hid (base<=(w4.alloc (.cells #[.int .i64 (q:Int),.int .i64 (t:Int),.int .i64 hw,.int .i64 (kn:Int),.int .i64 (-1)] 66)).heap.size):=aA (Ah (Ah l.o HW.o.size) E.o.size);have af:=aA (fun(v5:Value) (w5:World) (h1:aK 66 5 qR w5 base v5 (xs++[(((q:Int),(t:Int),hw,(kn:Int),-1):C5)])) (h2:(w4.alloc (.cells #[.int .i64 (q:Int),.int .i64 (t:Int),.int .i64 hw,.int .i64 (kn:Int),.int .i64 (-1)] 66)).grownBy w5 (Value.slice AC xs.length cC).ownBlock)=>HT.o.push hb hC h1 h2);clear hA hG hC ap aq hR ar hb;go_upto_region 14 with(at_builtin;refine yz (f:=qR) rfl (.tmp 62) (.tmp 68) _ rfl underlying34 _ 40 Nz δ δ δ yy Nd base _ xs rfl ad.o _ _ (((q:Int),(t:Int),hw,(kn:Int),-1):C5) rfl (LR (((q:Int),(t:Int),hw,(kn:Int),-1):C5) _ _ m.o) a2.o ae.o ?_;intro v5 w5 F ag;obtain⟨A5,c5,rfl,_,_,_⟩:=aK.form F yy;have g:=aA (af.o _ _ F ag);have c5R:=yQ g.o.2.2.2;have f5R:=AM _ R 6 _ _ g.o.2.2.2;have l5R:=(Ad.1 g.o.2.2.2).1;clear ag F af c6 fR lR E ad m ae;generalize (xs++[(((q:Int),(t:Int),hw,(kn:Int),-1):C5)]).length=ln at *)
     have H:=aA g.o.1;rw[bk.o hw]at H;have s:=aA (bj.o.trans g.o.2.1);have M:=aA (a4.o.trans s.o);have O:=aA (HW.o.trans g.o.2.2.1);have b:=aA (s.o.row a6.o a5.o δ δ);have a9:=aA (s.o.row a6.o aw.o δ δ);have ba:=aA (s.o.row a6.o ah.o δ δ);have bT:=RX;clear g bk HT HW s bj av a4 ai a5 aw ah;clear c5R f5R l5R;generalize w5.setCell ⟨R,6,none⟩ (.slice A5 ln c5)=wx at *;have x0:=aQ a9.o;have x1:=aU a9.o;have lx:=(Ad.1 a9.o).1;have z0:=aQ ba.o;have z1:=aU ba.o;have lz:=(Ad.1 ba.o).1;rcases bw.o with rfl|rfl|rfl|rfl
     ·have HF:=aA (H.o.fin M.o O.o b.o ω I.o l.o (.int .i64 2) (.int .i64 (kn:Int)));have y0:=aQ b.o;have y1:=aU b.o;have f0:=AM _ _ 0 _ _ b.o;have f1:=AM _ _ 1 _ _ b.o;have ly:=(Ad.1 b.o).1;obtain⟨wf,d⟩:∃y,y=(wx.setCell ⟨w.heap.size+1,0,none⟩ (.int .i64 2)).setCell ⟨w.heap.size+1,1,none⟩ (.int .i64 (kn:Int)):=⟨_,rfl⟩
      rw[<-d]at HF;go_wp2;rw[<-d];clear d;have j0:=aQ HF.o.2.2.2;have j1:=aU HF.o.2.2.2;have lf:=(Ad.1 HF.o.2.2.2).1;refine B3 (v:=.agg #[.int .i64 2,.int .i64 (kn:Int)]) (by simp[results,results59,go_sem,j0,j1]) rfl ?_;exact⟨by rw[HE.o];rfl,by rw[HE.o];exact HF.o.1,HF.o.2.1,HF.o.2.2.1⟩
     ·have HF:=aA (H.o.fin M.o O.o b.o ω I.o l.o (.int .i64 s0) (.int .i64 s1));have y0:=aQ b.o;have y1:=aU b.o;have f0:=AM _ _ 0 _ _ b.o;have f1:=AM _ _ 1 _ _ b.o;have ly:=(Ad.1 b.o).1;obtain⟨wf,d⟩:∃y,y=(wx.setCell ⟨w.heap.size+1,0,none⟩ (.int .i64 s0)).setCell ⟨w.heap.size+1,1,none⟩ (.int .i64 s1):=⟨_,rfl⟩
      rw[<-d]at HF;go_wp2;rw[<-d];clear d;have j0:=aQ HF.o.2.2.2;have j1:=aU HF.o.2.2.2;have lf:=(Ad.1 HF.o.2.2.2).1;refine B3 (v:=.agg #[.int .i64 s0,.int .i64 s1]) (by simp[results,results59,go_sem,j0,j1]) rfl ?_;exact⟨by rw[HE.o];rfl,by rw[HE.o];exact HF.o.1,HF.o.2.1,HF.o.2.2.1⟩
     ·have HF:=aA (H.o.fin M.o O.o b.o ω I.o l.o (.int .i64 0) (.int .i64 0));have y0:=aQ b.o;have y1:=aU b.o;have f0:=AM _ _ 0 _ _ b.o;have f1:=AM _ _ 1 _ _ b.o;have ly:=(Ad.1 b.o).1;obtain⟨wf,d⟩:∃y,y=(wx.setCell ⟨w.heap.size+1,0,none⟩ (.int .i64 0)).setCell ⟨w.heap.size+1,1,none⟩ (.int .i64 0):=⟨_,rfl⟩
      rw[<-d]at HF;go_wp2;rw[<-d];clear d;have j0:=aQ HF.o.2.2.2;have j1:=aU HF.o.2.2.2;have lf:=(Ad.1 HF.o.2.2.2).1;refine B3 (v:=.agg #[.int .i64 0,.int .i64 0]) (by simp[results,results59,go_sem,j0,j1]) rfl ?_;exact⟨by rw[HE.o];rfl,by rw[HE.o];exact HF.o.1,HF.o.2.1,HF.o.2.2.1⟩
     ·have HF:=aA (H.o.fin M.o O.o b.o ω I.o l.o (.int .i64 s0) (.int .i64 s1));have y0:=aQ b.o;have y1:=aU b.o;have f0:=AM _ _ 0 _ _ b.o;have f1:=AM _ _ 1 _ _ b.o;have ly:=(Ad.1 b.o).1;obtain⟨wf,d⟩:∃y,y=(wx.setCell ⟨w.heap.size+1,0,none⟩ (.int .i64 s0)).setCell ⟨w.heap.size+1,1,none⟩ (.int .i64 s1):=⟨_,rfl⟩
      rw[<-d]at HF;go_wp2;rw[<-d];clear d;have j0:=aQ HF.o.2.2.2;have j1:=aU HF.o.2.2.2;have lf:=(Ad.1 HF.o.2.2.2).1;refine B3 (v:=.agg #[.int .i64 s0,.int .i64 s1]) (by simp[results,results59,go_sem,j0,j1]) rfl ?_;exact⟨by rw[HE.o];rfl,by rw[HE.o];exact HF.o.1,HF.o.2.1,HF.o.2.2.1⟩
namespace S
def has (s:Nat) (n:Int):Bool:=decide (0<=n/\n<=31)&&s.testBit n.toNat
theorem oc (s:Nat) (n:Int):(s &&& bit n != 0)=has s n:=by
 unfold has bit;split
 ·rename_i h
  cases hb:s.testBit n.toNat
  ·have e:s &&& 2 ^ n.toNat=0:=by
    apply C9;intro i;rw[Ec,CI,Dl];by_cases hi:n.toNat=i
    ·rw[<-hi,hb];rfl
    ·simp[hi]
   rw[e];simp
  ·have e:s &&& 2 ^ n.toNat≠0:=by
    intro e
    have:=congrArg (fun z=>Nat.testBit z n.toNat) e
    simp only[Ec,CI,hb,Dl]at this;simp at this
   simp[h,e]
 ·rename_i h;simp[h]
end S
namespace Lk
def rl (l:List (Int×Int)) (n:Int):List Int:=(l.filter fun x=>S.has x.2.toNat n).map (·.1)
theorem xI {l:List (Int×Int)} {n:Int} (h:i<l.length):rl (l.take (i+1)) n=rl (l.take i) n++if S.has (l[i]).2.toNat n=true then [(l[i]).1] else []:=by
 unfold rl;rw[AP h,CH,Bi]
 congr 1
 rw[CA];split <;> rfl
theorem rD (l:List (Int×Int)) (n:Int):(rl l n).length<=l.length:=by
 unfold rl;rw[Bh];exact CD _ _
end Lk
def II (x:Int×Int):Prop:=Gm.In x.1/\0<=x.2/\x.2<4294967296
theorem PY (l:List (Int×Int)) (n:Int) (A:Option Addr) (c B:Nat) (w:World) (hr:iC 2 pa w B A l) (hB:B<=w.heap.size) (ak:∀x∈l,II x) (aa:l.length<=100000) :
  Calls prog 60 #[.slice A l.length c,.int .i64 n] w fun e w'=>∃u,e=.returned u/\aV w' w.heap.size u (Lk.rl l n)/\β w w':=by
 have HR:=aA hr;have HB:=aA hB;have ay:=aA ak;have ac:=aA aa;have a9:(l.length:Int)<=100000:=ω
 have az:Hid (aV w w.heap.size (.slice none 0 0) (Lk.rl (l.take 0) n)):=aA (aV.nil _ _);clear hr hB ak aa
 go_enter func60,ntmps60
 go_wp2;go_loopw [10,5] (fun vi vu wr=>∃i:Nat,i<=l.length/\vi=.int .i64 i/\Hid (aV wr w.heap.size vu (Lk.rl (l.take i) n))/\Hid (β w wr)) (fun vi _ _=>l.length-(intOf vi).toNat)
 case atStart=>exact⟨0,Bb _,rfl,az,aA (AB _ _)⟩
 case round =>
  obtain⟨i,hi,rfl,HO,HW⟩:=hrel;rename World=>wr;obtain⟨Au,cu,rfl,_,_,_⟩:=aV.form HO.o;by_cases d:i<l.length
  ·obtain⟨g,o,rfl,a0,hc⟩:=HR.o ω;have al:g<w.heap.size:=Aj a0 HB.o;have k0:=(HW.o.cell (p:=⟨g,o+i*2+0,none⟩) al).trans (hc i d 0 (.int .i64 (l[i]).1) rfl);have k1:=(HW.o.cell (p:=⟨g,o+i*2+1,none⟩) al).trans (hc i d 1 (.int .u32 (l[i]).2) rfl);rw[CB]at k0;have hx:=ay.o _ (AD d);have b:=aA (Lk.xI (n:=n) d);have ad:=aA (Ah (Lk.rD (l.take i) n) (by rw[Bm];omega:(l.take i).length<=l.length));have am:=aA d;have ba:((i:Nat):Int)<((l.length:Nat):Int):=ω
   have ae:0<=(l[i]).2/\(l[i]).2<4294967296:=hx.2;clear hx;clear hc;generalize (l[i]).2=zi at *;obtain⟨z,rfl⟩:∃z:Nat,zi=(z:Int):=⟨zi.toNat,by have:=ae.1;omega⟩
   have a1:z<4294967296:=by have:=ae.2;omega
   rw[Cj]at b;clear ae;generalize (l[i]).1=r at *;obtain⟨wi,ab⟩:=χ (wr.alloc (.cells #[.int .i64 r,.int .u32 (z:Int)] 109))
   have ao:Hid (β wr wi):=aA (by rw[ab];exact(AB _ _).alloc (Af _) _);have ap:Hid (wi.heap[wr.heap.size]?=some (.cells #[.int .i64 r,.int .u32 (z:Int)] 109 (0,0))):=aA (by rw[ab];exact AI wr _);have y1:=aU ap.o;have aq:=aA (HW.o.trans (ao.o.mono HW.o.size));have a2:=aA (HO.o.below ao.o (Af _));have e:=u32_and_nat z (S.bit n) a1 (S.qQ n)
   have ar:(((z &&& S.bit n:Nat):Int) != 0)=S.has z n:=by
    rw[<-S.oc,Bx,DW,DW];omega
   go_upto_region 5 with fail
   rw[<-ab];clear ab k0 k1;go_quiet ((go_at_call 99;exact DF (Jx _ _)))
   obtain⟨wq,af⟩:∃y,y=wi.drewN nq:=⟨_,rfl⟩
   rw[<-af];have ag:Hid (β wi wq):=aA (by rw[af];exact aB (AB _ _) _);clear af y1;have ah:=aA (aq.o.trans (ag.o.mono aq.o.size));have au:=aA (a2.o.below ag.o (Af _));cases hh:S.has z n
   ·rw[hh]at b;have ai:Hid (Lk.rl (l.take (i+1)) n=Lk.rl (l.take i) n):=aA (by rw[b.o];simp);rw[hh]at ar;clear hh b;go_wp2;go_roundw
    case rel=>exact⟨i+1,am.o,ν,by rw[ai.o];exact au,ah⟩
    case measure=>simp[intOf];omega
   ·rw[hh]at b;have ai:Hid (Lk.rl (l.take (i+1)) n=Lk.rl (l.take i) n++[r]):=aA (by rw[b.o];simp);rw[hh]at ar;clear hh b;have y0:=aQ (aC ag.o ap.o);have a3:Hid (Below wq.heap.size wq (wq.alloc (.cells #[.int .i64 r] 3))):=aA ((AB _ _).alloc (Af _) _);have av:=aA (au.o.alloc (.cells #[.int .i64 r] 3));have a4:Hid ((wq.alloc (.cells #[.int .i64 r] 3)).cell? ⟨wq.heap.size,0,none⟩=some (.int .i64 r)):=aA (AF _ _ 0 _ _ _ (AI wq _));have aj:=aA (ah.o.trans (a3.o.mono ah.o.size));generalize Lk.rl (l.take i) n=xs at *;go_wp2_with (at_builtin;refine yA rfl (.tmp 20) (.tmp 23) _ rfl underlying51 w.heap.size _ xs rfl av.o _ _ r rfl a4.o (by have:=ad.o;have:=ac.o;omega) aj.o.size ?_;intro v5 w5 aw ax;have a5:=aA aw;have a6:=aA (aj.o.grown ax aj.o.size (fun k e=>(Br av.o k e).1));clear aw ax)
    go_roundw
    case rel=>exact⟨i+1,am.o,ν,by rw[ai.o];exact a5,a6⟩
    case measure=>simp[intOf];omega
  ·obtain rfl:i=l.length:=ω
   rw[Bp]at HO ⊢;go_wp2;go_ret
   refine⟨_,?_,HO.o,HW.o⟩;rfl
namespace Tb
theorem RU (G:Gm.Gr) (x:Ce) (t:Int) (ks:List Int):(cell G x t ks).2.length<=ks.length:=by
 cases ks with
 | nil=>exact Af _
 | cons k r =>
  unfold cell;simp only;split <;> simp
def act (G:Gm.Gr) (f:Int->Ce) (l:List (Int×Int)) (t:Int):Ce×List Cf:=cell G (f t) t (Lk.rl l t)
def rW (q:Int) (G:Gm.Gr) (f:Int->Ce) (l:List (Int×Int)) (n:Nat):List C5:=(List.range n).flatMap fun t:Nat=>tM q (act G f l (t:Int)).2
theorem ud (q:Int) (G:Gm.Gr) (f:Int->Ce) (l:List (Int×Int)):rW q G f l 0=[]:=rfl
theorem po (q:Int) (G:Gm.Gr) (f:Int->Ce) (l:List (Int×Int)) (n:Nat):rW q G f l (n+1)=rW q G f l n++tM q (act G f l (n:Int)).2:=by
 unfold rW;rw[CM,BW,Ci]
theorem rX (q:Int) (G:Gm.Gr) (f:Int->Ce) (l:List (Int×Int)) (h:l.length<=40) (n:Nat):(rW q G f l n).length<=n*40:=by
 induction n with
 | zero=>simp[rW]
 | succ n ih =>
  rw[po,AZ];have h1:=RU G (f (n:Int)) n (Lk.rl l n);have h2:=Lk.rD l (n:Int);unfold tM act;rw[Bh];omega
def jK (G:Gm.Gr) (f:Int->Ce) (l:List (Int×Int)) (n i:Nat):List Ce:=fQ n fun t=>if t<(i:Int) then(act G f l t).1 else(0,0)
theorem te (G:Gm.Gr) (f:Int->Ce) (l:List (Int×Int)) (n:Nat):jK G f l n 0=List.replicate n (0,0):=mU _ fun t=>AJ ω
theorem vf (G:Gm.Gr) (f:Int->Ce) (l:List (Int×Int)) (n:Nat):jK G f l n n=fQ n fun t=>(act G f l t).1:=mj fun t ht=>by rw[Az ω]
theorem vp (G:Gm.Gr) (f:Int->Ce) (l:List (Int×Int)) (n i:Nat):(jK G f l n i).set i (act G f l i).1=jK G f l n (i+1):=lC (by rw[Az ω]) fun t ht=>by
 by_cases h:t<i
 ·rw[Az ω,Az ω]
 ·rw[AJ ω,AJ ω]
theorem vh (G:Gm.Gr) (f:Int->Ce) (l:List (Int×Int)) (n i:Nat):(jK G f l n i).length=n:=fW _ _
end Tb
theorem Nl {l:List (Int×Int)} {n k:Int} (h:k∈Lk.rl l n):∃x∈l,x.1=k:=by
 unfold Lk.rl at h;obtain⟨x,hx,e⟩:=Bo.1 h;exact⟨x,(Cc.1 hx).1,e⟩
structure iK (R:Nat) (w w':World):Prop where
 size:w.heap.size<=w'.heap.size
 fp:∀(g:Nat) (cs:Array Value) (T:TypeId),w.heap[g]?=some (.cells cs T (0,0))->g≠R->T≠66->T≠64->T≠51->w'.heap[g]?=some (.cells cs T (0,0))
section
variable {R:Nat} {w w' w2:World}
theorem iK.trans (h:iK R w w') (k:iK R w' w2):iK R w w2:=⟨Ah h.size k.size,fun g o T h1 h2 h3 h4 h5=>k.fp g o T (h.fp g o T h1 h2 h3 h4 h5) h2 h3 h4 h5⟩
theorem fI.GH (h:fI R w w'):iK R w w':=⟨h.size,fun _ _ _ h1 h2 h3 _ _=>h.cells h1 h2 h3⟩
theorem iK.refl (R:Nat) (w:World):iK R w w:=(fI.refl R w).GH
theorem iK.own {T:TypeId} (hT:T=64\/T=51) (h:w.ownsRow base T m v n xs) (hg:w.grownBy w' v.ownBlock):iK R w w':=⟨hg.size,fun _ _ _ h1 _ _ h4 h5=>aJ h hg h1 fun cur=>aH (by rcases hT with rfl|rfl <;> assumption)⟩
theorem iK.set (i:Nat) (u:Value):iK R w (w.setCell ⟨R,i,none⟩ u):=(fI.set i u).GH
end
section
variable {w w' w5:World} {base R N:Nat} {g0 g1 g2 g3:Value} {rows:List (RW (Int×Int))} {gts:List (RW Int)} {cs:List C5}
theorem iZ.uG (h:iZ w base R N g0 g1 g2 g3 rows gts cs) (h1:N<=N') (h2:N'<=w.heap.size):iZ w base R N' g0 g1 g2 g3 rows gts cs :=
 ⟨h.b,fun r hr=>(h.ra r hr).more h1,fun r hr=>(h.rg r hr).more h1,h.hR,h2⟩
theorem iZ.Gu (h:iZ w base R N g0 g1 g2 g3 rows gts cs) {vA vG vC:Value} (hb:w.heap[R]?=some (.cells (wB g0 g1 g2 g3 vA vG vC) 77 (0,0))) (hA:aK 64 1 jl w base vA rows) {a5:Array Value} {x:RW (Int×Int)} {v5:Value} (hx:bU 63 2 fM w base w.heap.size x) (ho:aK 64 1 jl w5 base v5 (rows++[x])) (hg:(w.alloc (.cells a5 64)).grownBy w5 vA.ownBlock) :
  iZ (w5.setCell ⟨R,4,none⟩ v5) base R w.heap.size g0 g1 g2 g3 (rows++[x]) gts cs/\iK R w (w5.setCell ⟨R,4,none⟩ v5)/\Below base w (w5.setCell ⟨R,4,none⟩ v5)/\w5.heap[R]?=some (.cells (wB g0 g1 g2 g3 vA vG vC) 77 (0,0)):=by
 have ac:=h.gf;obtain⟨⟨vA',vG',vC',h1,h2,h3,h4⟩,h5,h6,h7,h8⟩:=h;rw[hb]at h1;injection h1 with h1;injection h1 with h1 _ _;injection h1 with h1;simp only[EY,and_true,true_and]at h1;obtain⟨rfl,rfl,rfl⟩:=h1;have b:Below w.heap.size w (w.alloc (.cells a5 64)):=(AB _ _).alloc (Af _) _;have aa:=hA.below b (Af _);have b5:=aJ aa hg (aC b hb) fun cur=>aH δ
 have kk:∀(g:Nat) (cur:Array Value) (T:TypeId),T≠64->T≠77->w.heap[g]?=some (.cells cur T (0,0))->(w5.setCell ⟨R,4,none⟩ v5).heap[g]?=some (.cells cur T (0,0)):=fun g cur T hT ab hc=>by
  have c5:=aJ aa hg (aC b hc) fun cur=>aH hT;refine(AQ w5 ⟨R,4,none⟩ v5 g fun e=>?_).trans c5;have e:g=R:=e;rw[e,hb]at hc;injection hc with hc;injection hc with _ hc _;exact ab hc.symm
 have own:∀ {m n:Nat} {T:TypeId} {v:Value} {xs:List Value},w.ownsRow base T m v n xs->T≠64->T≠77->(w5.setCell ⟨R,4,none⟩ v5).ownsRow base T m v n xs:=fun {m n T v xs} ho hT ab=>by
  refine⟨ho.1,?_⟩;rcases ho.2 with h1|⟨g,cap,cur,h1,h2,h3,h4⟩
  ·exact .inl h1
  ·exact .inr ⟨g,cap,cur,h1,h2,kk g _ _ hT ab h3,h4⟩
 have k6:iK R w (w5.setCell ⟨R,4,none⟩ v5):=(((fI.below b).GH).trans (.own (.inl rfl) aa hg)).trans (.set 4 v5);refine⟨⟨⟨_,_,_,Ba w5 R 4 _ _ v5 b5,?_,own h3 δ δ,own h4 δ δ⟩,fun r hr=>?_,fun r hr=>((h6 r hr).fp fun g cur _ _ hc=>kk g cur _ δ δ hc).more h8,h7,k6.size⟩,k6,?_,b5⟩
 ·exact Bf ho (aF (AO _ _) 4 _) (qn ho b5 fun cur=>aH δ)
 ·rcases Bs.1 hr with hr|hr
  ·exact((h5 r hr).fp fun g cur _ _ hc=>kk g cur _ δ δ hc).more h8
  ·rw[AW.1 hr];exact hx.fp fun g cur _ _ hc=>kk g cur _ δ δ hc
 ·exact(((b.mono ac).grown hg (Ah ac b.size) (fun k e=>(Br aa k e).1)).setCell h7 v5)
theorem iZ.Gv (h:iZ w base R N g0 g1 g2 g3 rows gts cs) {vA vG vC:Value} (hb:w.heap[R]?=some (.cells (wB g0 g1 g2 g3 vA vG vC) 77 (0,0))) (hA:aK 51 1 jl w base vG gts) {a5:Array Value} {x:RW Int} {v5:Value} (hx:bU 3 1 xg w base w.heap.size x) (ho:aK 51 1 jl w5 base v5 (gts++[x])) (hg:(w.alloc (.cells a5 51)).grownBy w5 vG.ownBlock) :
  iZ (w5.setCell ⟨R,5,none⟩ v5) base R w.heap.size g0 g1 g2 g3 rows (gts++[x]) cs/\iK R w (w5.setCell ⟨R,5,none⟩ v5)/\Below base w (w5.setCell ⟨R,5,none⟩ v5)/\w5.heap[R]?=some (.cells (wB g0 g1 g2 g3 vA vG vC) 77 (0,0)):=by
 have ac:=h.gf;obtain⟨⟨vA',vG',vC',h1,h2,h3,h4⟩,h5,h6,h7,h8⟩:=h;rw[hb]at h1;injection h1 with h1;injection h1 with h1 _ _;injection h1 with h1;simp only[EY,and_true,true_and]at h1;obtain⟨rfl,rfl,rfl⟩:=h1;have b:Below w.heap.size w (w.alloc (.cells a5 51)):=(AB _ _).alloc (Af _) _;have aa:=hA.below b (Af _);have b5:=aJ aa hg (aC b hb) fun cur=>aH δ
 have kk:∀(g:Nat) (cur:Array Value) (T:TypeId),T≠51->T≠77->w.heap[g]?=some (.cells cur T (0,0))->(w5.setCell ⟨R,5,none⟩ v5).heap[g]?=some (.cells cur T (0,0)):=fun g cur T hT ab hc=>by
  have c5:=aJ aa hg (aC b hc) fun cur=>aH hT;refine(AQ w5 ⟨R,5,none⟩ v5 g fun e=>?_).trans c5;have e:g=R:=e;rw[e,hb]at hc;injection hc with hc;injection hc with _ hc _;exact ab hc.symm
 have own:∀ {m n:Nat} {T:TypeId} {v:Value} {xs:List Value},w.ownsRow base T m v n xs->T≠51->T≠77->(w5.setCell ⟨R,5,none⟩ v5).ownsRow base T m v n xs:=fun {m n T v xs} ho hT ab=>by
  refine⟨ho.1,?_⟩;rcases ho.2 with h1|⟨g,cap,cur,h1,h2,h3,h4⟩
  ·exact .inl h1
  ·exact .inr ⟨g,cap,cur,h1,h2,kk g _ _ hT ab h3,h4⟩
 have k6:iK R w (w5.setCell ⟨R,5,none⟩ v5):=(((fI.below b).GH).trans (.own (.inr rfl) aa hg)).trans (.set 5 v5);refine⟨⟨⟨_,_,_,Ba w5 R 5 _ _ v5 b5,own h2 δ δ,?_,own h4 δ δ⟩,fun r hr=>((h5 r hr).fp fun g cur _ _ hc=>kk g cur _ δ δ hc).more h8,fun r hr=>?_,h7,k6.size⟩,k6,?_,b5⟩
 ·exact Bf ho (aF (AO _ _) 5 _) (qn ho b5 fun cur=>aH δ)
 ·rcases Bs.1 hr with hr|hr
  ·exact((h6 r hr).fp fun g cur _ _ hc=>kk g cur _ δ δ hc).more h8
  ·rw[AW.1 hr];exact hx.fp fun g cur _ _ hc=>kk g cur _ δ δ hc
 ·exact(((b.mono ac).grown hg (Ah ac b.size) (fun k e=>(Br aa k e).1)).setCell h7 v5)
end
theorem TH:(prog.info? 64).map (fun i=>(i.zero,i.size,i.bytes))=some (some (.slice none 0 0),1,24):=κ
theorem TF:(prog.info? 51).map (fun i=>(i.zero,i.size,i.bytes))=some (some (.slice none 0 0),1,24):=κ
theorem Ll {α:Type} (r:RW α) (n:Nat) (hn:r.1.length=n) (w:World) (g:Nat) (T:TypeId) (hb:w.heap[g]?=some (.cells #[.slice r.2.1 n r.2.2] T (0,0))):∀j u,(jl r)[j]?=some u->w.cell? ⟨g,j,none⟩=some u:=fun j u hu=>by
 refine(AF w g j _ _ _ hb).trans ?_
 match j,hu with
 | 0,hu=>rw[<-hn];exact hu
 | j+1,hu=>simp[jl]at hu
theorem OH (w:World) (base R N B BL:Nat) (G:Gm.Gr) (g0 g1 g2 g3:Value) (rows:List (RW (Int×Int))) (gts:List (RW Int)) (cs:List C5) (q gs:Nat) (f:Int->Tb.Ce) (l:List (Int×Int)) (AL:Option Addr) (cL:Nat) (h:iZ w base R N g0 g1 g2 g3 rows gts cs) (hg:aT w B (.agg #[g0,g1,g2,g3]) G) (hB:B<=base) (hs:ia 63 fM w gs (Tb.fQ (G.ts.length+1) f)) (hl:iC 2 pa w BL AL l) (a3:BL<=base) (ar:∀x∈l,II x/\0<=x.1/\x.1<G.rs.length) (a4:l.length<=40) (hT:G.ts.length<=24) (ag:cs.length<=800000) (b6:rows.length<=1000) (hp:∀i (hi:i<G.rs.length),(G.rs[i]).p<G.ts.length) :
  Calls prog 29 #[.pointer (some ⟨R,0,none⟩),.int .i64 q,.slice (some ⟨gs,0,none⟩) (G.ts.length+1) (G.ts.length+1),.slice AL l.length cL] w fun e w'=>e=.returned (.tuple #[])/\(∃r:RW (Int×Int),r.1=Tb.fQ (G.ts.length+1) (fun t=>(Tb.act G f l t).1)/\iZ w' base R w'.heap.size g0 g1 g2 g3 (rows++[r]) gts (cs++Tb.rW q G f l (G.ts.length+1)))/\Below base w w'/\iK R w w':=by
 have b:=aA h.gf;have a5:=aA h.hN;have b7:=aA h.lt;have a6:=aA h;obtain⟨⟨vA0,vG0,vC0,a9,_,_,_⟩,_,_,cq,_⟩:=h;have b8:=aA a9;have ba:=aA hs;have cr:=aA ag;have b9:=aA (fun(x:World) (hx:Below base w x) (i:Nat)=>PY l (i:Int) AL cL BL x (hl.below hx a3) (Ah a3 (Ah b.o hx.size)) (fun y hy=>(ar y hy).1) ω);have bb:=aA (fun(x:World) (hx:Below base w x) (cs:List C5) (i kb:Nat) (sh:Int×Int) (A:Option Addr) (c:Nat) (hi:i<G.ts.length+1) (h:iZ x base R N g0 g1 g2 g3 rows gts cs) (ho:aV x kb (.slice A (Lk.rl l (i:Int)).length c) (Lk.rl l (i:Int))) (ag:cs.length<=900000)=>PM x base R N B kb G g0 g1 g2 g3 rows gts cs q i sh (Lk.rl l (i:Int)) A c h (hg.below hx hB) hB ho (Ah (Lk.rD l (i:Int)) a4) ag (fun k hk=>by obtain⟨y,hy,rfl⟩:=Nl hk;exact(ar y hy).2) ω hp)
 have bc:=aA (fun(i:Nat) (hi:i<G.ts.length+1)=>(show(cs++Tb.rW q G f l i).length<=900000 from by
  rw[AZ]
  have:=Tb.rX q G f l a4 i
  omega))
 have ca:=hT;have au:=aA b6;clear hg hs hl ar a9 ag hp;obtain⟨n,hn⟩:∃n,n=G.ts.length+1:=⟨_,rfl⟩
 rw[<-hn]at ba bb bc ⊢;have bd:n<=1000000:=ω
 have cu:(n:Int)<=25:=ω
 clear hn hT ca
 go_enter func29,ntmps29
 go_upto_region 1 with(at_make;refine GY (m:=2) (f:=fM) rfl (.tmp 12) (.tmp 12) _ rfl underlying64 _ 16 NA δ δ δ ((0,0):Int×Int) rfl n rfl rfl bd ?_;intro w2 bf ah)
 have bg:Hid (ia 63 fM w2 w.heap.size (Tb.jK G f l n 0)):=aA (by rw[Tb.te];exact bf);have bh:Hid (iZ w2 base R N g0 g1 g2 g3 rows gts (cs++Tb.rW q G f l 0)):=aA (by rw[Tb.ud,CG];exact a6.o.below ah);have bi:Hid (fI R w w2):=aA (.below ah);have bj:=aA (ah.mono b.o);clear bf ah bd a6;go_wp2;go_loopw [16] (fun vi wr=>∃i:Nat,i<=n/\vi=.int .i64 i/\Hid (iZ wr base R N g0 g1 g2 g3 rows gts (cs++Tb.rW q G f l i))/\Hid (ia 63 fM wr w.heap.size (Tb.jK G f l n i))/\Hid (fI R w wr)/\Hid (Below base w wr)) (fun vi _=>n-(intOf vi).toNat)
 case atStart=>exact⟨0,Bb _,rfl,bh,bg,bi,bj⟩
 case round =>
  clear bh bg bi bj;obtain⟨i,hi,rfl,HT,HU,HK,HW⟩:=hrel;rename World=>wr;by_cases E:i<n
  ·have C:i<(Tb.fQ n f).length:=by rw[Tb.fW];exact E
   have ai:ia 63 fM wr gs (Tb.fQ n f):=HK.o.row b8.o ba.o δ δ;have k0:=ai.cell (m:=2) aG i 0 C (.int .i64 (f i).1) (by rw[Tb.jE];rfl);have k1:=ai.cell (m:=2) aG i 1 C (.int .i64 (f i).2) (by rw[Tb.jE];rfl);rw[CB]at k0;have lgs:=ai.lt;have cb:=aA (Tb.po q G f l i);have cd:=aA (Tb.vp G f l n i);have ce:=aA (bc.o i E);have cf:Hid (Tb.act G f l (i:Int)=Tb.cell G (f i) i (Lk.rl l i)):=aA rfl;have av:=aA E;have cv:(i:Int)<(n:Int):=ω
   have bk:=aA (fun(x:World) (hx:Below base w x) (cs:List C5) (kb:Nat) (sh:Int×Int) (A:Option Addr) (c:Nat)=>bb.o x hx cs i kb sh A c E);have bl:=aA (fun(x:World) (hx:Below base w x)=>b9.o x hx i);clear C ai E hi;generalize f (i:Int)=sh at *;obtain⟨wi,aj⟩:=χ (wr.alloc (.cells #[.int .i64 sh.1,.int .i64 sh.2] 63))
   have ak:Hid (β wr wi):=aA (by rw[aj];exact(AB _ _).alloc (Af _) _);have F:Hid (wi.heap[wr.heap.size]?=some (.cells #[.int .i64 sh.1,.int .i64 sh.2] 63 (0,0))):=aA (by rw[aj];exact AI wr _);have bm:=aA (HT.o.below ak.o);have cg:=aA (HU.o.below ak.o HU.o.lt);have ch:=aA (HK.o.trans (.below ak.o));have bn:=aA (HW.o.trans (ak.o.mono (Ah b.o HW.o.size)));have ci:Hid (wr.heap.size≠R):=aA (by have:=HK.o.size;have:=b7.o;omega);have bo:Hid (w.heap.size<wr.heap.size):=aA HU.o.lt;go_upto_region 4 with fail
   rw[<-aj];clear aj k0 k1 lgs HT HU HK HW;have q0:=fun y:iR [wr.heap.size] wi=>y.row (j:=0) (u:=.int .i64 sh.1) σ F.o rfl;have q1:=fun y:iR [wr.heap.size] wi=>y.row (j:=1) (u:=.int .i64 sh.2) σ F.o rfl;have al:Hid (∀y:World,y.heap[wr.heap.size]?=wi.heap[wr.heap.size]?->∃z:iR [wr.heap.size] wi,y=z.1):=aA (fun y e=>⟨⟨y,fun g hg=>by rw[AW]at hg;subst hg;exact e⟩,rfl⟩);have cj:=aA (al.o wi.drew rfl);refine CalmN.fk (fun x=>∃y:iR [wr.heap.size] wi,x=y.1) (.one [0,1,2,3,4,5,6,7] 8 (.one [] 9 (.one [10] 11 (.fin [])))) cj.o ?_;simp only[CalmN.fS,CalmN.fu,CalmN.fo,Aq,Ai,Am];repeat (go_big_quiet_step (fail))
   refine Ap ?_;clear q0 q1;have HD:Hid (β wi wi.drew):=aA (aB (AB _ _) 1);generalize wi.drew=wd at *;have bp:=aA (bm.o.below HD.o);have am:=aA (bn.o.trans (HD.o.mono (Ah b.o bn.o.size)));have ao:=aA (bl.o wd am.o);intro KK v;rw[Az ε];go_wp2_with fail
   refine ao.o.mono ?_;rintro _ w6 ⟨u6,rfl,aw,ap⟩;obtain⟨A6,c6,rfl,_,_,_⟩:=aV.form aw;have bq:=aA (bp.o.below ap);have ax:=aA (am.o.trans (ap.mono (Ah b.o am.o.size)));have ab:=aA (HD.o.trans (ap.mono HD.o.size));have br:=aA aw;have ad:=aA (al.o w6 (ab.o.block _ (Ad.1 F.o).1));have bs:=aA (bk.o w6 ax.o _ _ sh A6 c6 bq.o br.o ce.o);clear ap aw ao bp am HD bl bk;generalize Lk.rl l (i:Int)=ks at *;go_wp2_with fail
   refine v _ _ ad.o _ ι ad.o ?_;clear v;repeat (go_big_quiet_step (fail))
   refine Ap ?_;intro KK v;rw[Az ε];go_wp2_with fail
   refine bs.o.mono ?_;rintro _ w7 ⟨rfl,aq,bu,bv⟩;rw[<-cf.o]at aq ⊢;rw[Cd,<-cb.o]at aq;have bw:=aA aq;have aa:fI R wi w7:=(fI.below ab.o).trans bu;have bx:=aA (ch.o.trans aa);have bz:=aA (ax.o.trans bv);have ay:=aA (aa.cells F.o ci.o δ);have ae:=aA (al.o w7 (ay.o.trans F.o.symm))
   have s:Hid (ia 63 fM w7 w.heap.size (Tb.jK G f l n i)):=aA (by
    obtain⟨⟨vA,vG,vC,hb,_⟩,_⟩:=bm.o;exact aa.row hb cg.o δ δ)
   clear aq bu bv aa bs ad bq ax br ab;generalize Tb.act G f l (i:Int)=ac at *;go_wp2_with fail
   refine v _ _ ae.o _ ι ae.o ?_;clear v;repeat (go_big_quiet_step (fail))
   refine Ap ?_;intro KK v;rw[Az ε];have C:i<(Tb.jK G f l n i).length:=by rw[Tb.vh];exact av.o
   have s0:=s.o.cell (m:=2) aG i 0 C _ rfl;rw[CB]at s0;have s1:=s.o.cell (m:=2) aG i 1 C _ rfl;have f0:=s.o.frozen (i*2);have f1:=s.o.frozen (i*2+1);have ls:=s.o.lt;have az:=aA (s.o.xK aG i ac.1 (.int .i64 ac.1.1) (.int .i64 ac.1.2) rfl);rw[cd.o]at az;have h8:=Ba w7 w.heap.size (i*2) _ _ (.int .i64 ac.1.1) s.o;have bD:=aA ((bw.o.sJ s.o a5.o (i:=i*2) (.int .i64 ac.1.1)).sJ h8 a5.o (i:=i*2+1) (.int .i64 ac.1.2));have bM:=aA ((bx.o.oU (p:=w.heap.size) (i:=i*2) (Af _) (.int .i64 ac.1.1)).oU (p:=w.heap.size) (i:=i*2+1) (Af _) (.int .i64 ac.1.2));have bT:=aA ((bz.o.setCell (p:=⟨w.heap.size,i*2,none⟩) b.o (.int .i64 ac.1.1)).setCell (p:=⟨w.heap.size,i*2+1,none⟩) b.o (.int .i64 ac.1.2));have a0:=aA (al.o ((w7.setCell ⟨w.heap.size,i*2,none⟩ (.int .i64 ac.1.1)).setCell ⟨w.heap.size,i*2+1,none⟩ (.int .i64 ac.1.2)) (((AQ _ ⟨w.heap.size,i*2+1,none⟩ _ wr.heap.size (by have:=bo.o;simp only;omega)).trans (AQ w7 ⟨w.heap.size,i*2,none⟩ _ wr.heap.size (by have:=bo.o;simp only;omega))).trans (ay.o.trans F.o.symm)));generalize (Tb.jK G f l n i)[i]=cc at s0 s1;clear C h8 s bw bx bz ay ae;go_wp2_with fail
   refine v _ _ a0.o _ ι a0.o ?_;clear v s0 s1 f0 f1 ls;refine Ap ?_;obtain⟨wk,bX⟩:∃y,y=(w7.setCell ⟨w.heap.size,i*2,none⟩ (.int .i64 ac.1.1)).setCell ⟨w.heap.size,i*2+1,none⟩ (.int .i64 ac.1.2):=⟨_,rfl⟩
   rw[<-bX]at az bD bM bT ⊢;clear bX a0;go_wp2;go_roundw
   case rel=>exact⟨i+1,av.o,ν,bD,az,bM,bT⟩
   case measure=>simp[intOf];have:=av.o;omega
  ·obtain rfl:i=n:=ω
   rw[Tb.vf]at HU;obtain⟨⟨vA,vG,vC,hb,hA,hG,hC⟩,ck,cl,hR,cm⟩:=HT.o;obtain⟨AA,cA,rfl,_,_,_⟩:=hA.form tE;have c4:=qJ hb;have fR:=AM _ R 4 _ _ hb;have lR:=(Ad.1 hb).1;obtain⟨x,hx⟩:∃x:RW (Int×Int),x=(Tb.fQ i (fun t=>(Tb.act G f l t).1),some ⟨w.heap.size,0,none⟩,i):=⟨_,rfl⟩
   have cn:Hid (bU 63 2 fM wr base wr.heap.size x):=aA (by
    rw[hx];exact⟨by rw[Tb.fW];exact Af _,by simp only;omega,HU.o.ve aG b.o HU.o.lt⟩)
   have co:Hid (x.1=Tb.fQ i (fun t=>(Tb.act G f l t).1)):=aA (by rw[hx]);have cp:Hid (x.1.length=i):=aA (by rw[hx,Tb.fW]);have b0:Hid (x.2.1=some ⟨w.heap.size,0,none⟩/\x.2.2=i):=aA (by rw[hx];exact⟨rfl,rfl⟩);have a1:Hid (Below wr.heap.size wr (wr.alloc (.cells #[.slice (some ⟨w.heap.size,0,none⟩) i i] 64))):=aA ((AB _ _).alloc (Af _) _);have b1:=aA (hA.below a1.o (Af _));have af:Hid (∀j u,(jl x)[j]?=some u->(wr.alloc (.cells #[.slice (some ⟨w.heap.size,0,none⟩) i i] 64)).cell? ⟨wr.heap.size,j,none⟩=some u):=aA (Ll x i cp.o _ _ _ (by rw[b0.o.1,b0.o.2];exact AI wr (.cells #[.slice (some ⟨w.heap.size,0,none⟩) i i] 64)));have b3:Hid (base<=(wr.alloc (.cells #[.slice (some ⟨w.heap.size,0,none⟩) i i] 64)).heap.size):=aA (Ah (Ah b.o HW.o.size) a1.o.size);have b4:=aA (fun(v5:Value) (w5:World) (h1:aK 64 1 jl w5 base v5 (rows++[x])) (h2:(wr.alloc (.cells #[.slice (some ⟨w.heap.size,0,none⟩) i i] 64)).grownBy w5 (Value.slice AA rows.length cA).ownBlock)=>HT.o.Gu hb hA cn.o h1 h2);have ao:Hid (rows.length<=1000000):=aA (by have:=au.o;omega);clear hA hG hC ck cl hR cm hb hx E hi;go_wp2_with (at_builtin;refine yz (f:=jl) rfl (.tmp 38) (.tmp 40) _ rfl underlying30 _ 24 TH δ δ δ tE MT base _ rows rfl b1.o _ _ x rfl af.o ao.o b3.o ?_;intro v5 w5 a2 b5;obtain⟨A5,c5,rfl,_,_,_⟩:=aK.form a2 tE;have D:=aA (b4.o _ _ a2 b5);have c5R:=qJ D.o.2.2.2;have f5R:=AM _ R 4 _ _ D.o.2.2.2;have l5R:=(Ad.1 D.o.2.2.2).1;clear b5 a2 b4 c4 fR lR a1 b1 af b3;generalize (rows++[x]).length=ln at *)
   go_end0
   refine⟨rfl,⟨x,co.o,D.o.1.uG ?_ (Af _)⟩,HW.o.trans D.o.2.2.1,HK.o.GH.trans D.o.2.1⟩;exact D.o.2.1.size
theorem Lk.vq {K:List (List Au.It)} {q:Nat} (ht:G.ts.length<=24) (hr:G.rs.length<=40) {x:Int×Int} (h:x∈Lk.gh G K E q):II x/\0<=x.1/\x.1<G.rs.length:=by
 unfold Lk.gh at h;obtain⟨k,hk,e⟩:=List.mem_filterMap.1 h;have hk:=BU.1 hk;unfold Lk.lW at e;split at e
 ·obtain rfl:=DG e
  have:=Lk.uB (G:=G) (E:=E) ht q (Lk.en G k)
  exact⟨⟨by unfold Gm.In;simp only;omega,by simp only;omega,by simp only;omega⟩,by simp only;omega,by simp only;omega⟩
 ·cases e
theorem Lk.sG (G:Gm.Gr) (K:List (List Au.It)) (E:List (List (Int×Int))) (q:Nat):(Lk.gh G K E q).length<=G.rs.length:=by
 rw[<-Lk.mK];exact Lk.mL _ _ _ _ _
theorem Au.sU {K:List (List Au.It)} (h:Au.Inv G K E) {q:Nat} (hq:q<E.length):(E[q].map (·.1)).Nodup/\∀e∈E[q],e.1<G.ts.length/\-1-e.1<G.ns.length:=by
 have e:=(h.ed q hq).1;refine⟨by rw[e];exact(Au.mY G).filter _,fun x hx=>?_⟩;have hm:x.1∈E[q].map (·.1):=Bo.2 ⟨x,hx,rfl⟩;rw[e]at hm;exact Gm.iN.1 (Au.iU.1 (Cc.1 hm).1)
namespace Tb
section
variable (G:Gm.Gr) (K:List (List Au.It)) (E:List (List (Int×Int)))
noncomputable def oP (q:Nat):List Ce:=fQ (G.ts.length+1) fun t=>(act G (shift G (K.getD q []) (E.getD q [])) (Lk.gh G K E q) t).1
def om (q:Nat):List Int:=fQ G.ns.length (pH (E.getD q []))
noncomputable def Fm (q:Nat):List C5:=rW q G (shift G (K.getD q []) (E.getD q [])) (Lk.gh G K E q) (G.ts.length+1)
noncomputable def o9 (n:Nat):List C5:=(List.range n).flatMap (Fm G K E)
theorem pw (n:Nat):o9 G K E (n+1)=o9 G K E n++Fm G K E n:=by
 unfold o9;rw[CM,BW,Ci]
theorem wW (hT:G.ts.length<=24) (hR:G.rs.length<=40) (n:Nat):(o9 G K E n).length<=n*1000:=by
 induction n with
 | zero=>simp[o9]
 | succ n ih =>
  rw[pw,AZ];have h1:=rX n G (shift G (K.getD n []) (E.getD n [])) (Lk.gh G K E n) (Ah (Lk.sG G K E n) hR) (G.ts.length+1);unfold Fm;omega
end
noncomputable def gI (G:Gm.Gr):List (List Ce):=if Gm.ja G=true then(match Au.ku G with|some p=>(List.range p.1.length).map (oP G p.1 p.2)|none=>[]) else []
noncomputable def ic (G:Gm.Gr):List (List Int):=if Gm.ja G=true then(match Au.ku G with|some p=>(List.range p.1.length).map (om G p.2)|none=>[]) else []
noncomputable def np (G:Gm.Gr):List C5:=if Gm.ja G=true then(match Au.ku G with|some p=>o9 G p.1 p.2 p.1.length|none=>[]) else []
theorem rH (h:Gm.ja G=false):gI G=[]/\ic G=[]/\np G=[]:=by unfold gI ic np;rw[h];exact⟨rfl,rfl,rfl⟩
theorem qf (h:Gm.ja G=true) (k:Au.ku G=none):gI G=[]/\ic G=[]/\np G=[]:=by unfold gI ic np;rw[h,k];exact⟨rfl,rfl,rfl⟩
theorem oV {K:List (List Au.It)} (h:Gm.ja G=true) (k:Au.ku G=some (K,E)):gI G=(List.range K.length).map (oP G K E)/\ic G=(List.range K.length).map (om G E)/\np G=o9 G K E K.length:=by unfold gI ic np;rw[h,k];exact⟨rfl,rfl,rfl⟩
end Tb
theorem aK.GB {α:Type} {f:α->List Value} {T T2:TypeId} {c:Nat} {rs:List (RW α)} (h:aK T 1 jl w base (.slice A n c) rs) (hr:∀r∈rs,bU T2 m f w base N r) (hN:N<=w.heap.size):mb m f w w.heap.size A (rs.map (·.1)):=by
 obtain⟨A',c',e,_,_,hq⟩:=h.form tE;injection e with e1 _ _;subst e1;intro hn;rw[Bh]at hn;obtain⟨g,o,rfl,hg,hc⟩:=hq hn;refine⟨g,o,rfl,hg,fun i hi=>?_⟩;rw[Bh]at hi;have h1:=hc i hi 0 _ rfl;have h2:=(hr _ (AD hi)).more hN;simp only[Cg];refine⟨rs[i].2.1,rs[i].2.2,?_,h2.1,h2.2.1,h2.2.2.rd⟩;rw[DS,CB]at h1;exact h1
def tS (w:World) (B:Nat) (v:Value) (as_:List (List Tb.Ce)) (gs:List (List Int)):Prop :=
 ∃AA cA AG cG,v=.agg #[.slice AA as_.length cA,.slice AG gs.length cG]/\as_.length<=cA/\cA<=9223372036854775807/\gs.length<=cG/\cG<=9223372036854775807/\mb 2 fM w B AA as_/\mb 1 xg w B AG gs
theorem tS.below {w w':World} {B B':Nat} {v:Value} {as_:List (List Tb.Ce)} {gs:List (List Int)} (h:tS w B v as_ gs) (hb:Below B' w w') (hB:B<=B'):tS w' B v as_ gs:=by
 obtain⟨AA,cA,AG,cG,e,h1,h2,h3,h4,h5,h6⟩:=h;exact⟨AA,cA,AG,cG,e,h1,h2,h3,h4,h5.below hb hB,h6.below hb hB⟩
theorem tS.more {w:World} {B B':Nat} {v:Value} {as_:List (List Tb.Ce)} {gs:List (List Int)} (h:tS w B v as_ gs) (hB:B<=B'):tS w B' v as_ gs:=by
 obtain⟨AA,cA,AG,cG,e,h1,h2,h3,h4,h5,h6⟩:=h;exact⟨AA,cA,AG,cG,e,h1,h2,h3,h4,h5.more hB,h6.more hB⟩
def FY (G:Gm.Gr) (w:World) (e:Ending) (w':World):Prop :=
 ∃v AC cC,e=.returned (.tuple #[v,.slice AC (Tb.np G).length cC,.int .i64 (Au.jo G)])/\tS w' w'.heap.size v (Tb.gI G) (Tb.ic G)/\(Tb.np G).length<=cC/\cC<=9223372036854775807/\iC 5 qR w' w'.heap.size AC (Tb.np G)/\β w w'
theorem FY.nil {G:Gm.Gr} {w w':World} {er:Int} (h:Au.jo G=er) (h2:Tb.gI G=[]/\Tb.ic G=[]/\Tb.np G=[]) (hb:β w w'):FY G w (.returned (.tuple #[.agg #[.slice none 0 0,.slice none 0 0],.slice none 0 0,.int .i64 er])) w':=by
 obtain⟨h2,h3,h4⟩:=h2;refine⟨_,none,0,?_,⟨none,0,none,0,rfl,?_⟩,?_,ω,?_,hb⟩
 ·rw[h,h2,h3,h4];rfl
 ·rw[h2,h3];exact⟨Af _,ω,Af _,ω,mb.nil _ _ _,mb.nil _ _ _⟩
 ·rw[h4];exact Af _
 ·rw[h4];exact fun h=>absurd rfl h
theorem iZ.start (w:World) (g0 g1 g2 g3:Value):iZ (w.alloc (.cells (wB g0 g1 g2 g3 (.slice none 0 0) (.slice none 0 0) (.slice none 0 0)) 77)) w.heap.size w.heap.size w.heap.size g0 g1 g2 g3 [] [] [] :=
 ⟨⟨_,_,_,AI w _,aK.nil _ _,aK.nil _ _,aK.nil _ _⟩,σ,σ,Af _,σ⟩
end Go.Proofs.YtjjbaehamplnaaaGreat
