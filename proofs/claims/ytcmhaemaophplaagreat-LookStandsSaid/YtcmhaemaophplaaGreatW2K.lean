/- Part of the proofs over this program: AuBegin, Sort, AuSort, AuClos, AuAsk, AuText, AuSt, AuNum, LkVisit, SetR, FstFn, FstGrow, FstKnown. -/
import Derived.Shelf.SlGeneric
import Derived.Shelf.SlSortCmp.NoneTotal
import Derived.Ground.SlsfProg
import Derived.Ground.NamesProg
import Derived.Test.YtcmhaemaophplaaGreatW2J
set_option linter.all false
namespace Go
def D4:=@List.length_reverse
end Go
set_option maxRecDepth 100000
set_option maxHeartbeats 40000000
variable {A:Option Go.Addr} {B B' D M N N' NE base base' g i n:Nat} {G:Go.Proofs.YtcmhaemaophplaaGreat.Gm.Gr} {P:Go.Program} {cs:Array Go.Value} {fr:Nat×Nat} {p:Go.Addr} {s z:Int} {v:Go.Value} {w w':Go.World} {x:Go.Proofs.YtcmhaemaophplaaGreat.Gm.Rl} {xs:List Go.Value}
namespace Go.Proofs.YtcmhaemaophplaaGreat
open Go.RowKit
namespace Au
def begT (G:Gm.Gr) (left:Int) (i:Nat):List It:=((List.range i).filter fun k=>decide ((G.rs.getD k ⟨0,[],0⟩).l=left)).map fun k:Nat=>((k:Int),(0:Int))
theorem begT_yes {left:Int} (hi:i<G.rs.length) (h:(G.rs[i]).l=left):begT G left (i+1)=begT G left i++[((i:Int),0)]:=by
 unfold begT;rw[C9,B3,Bf,BX,Az (by rw[Bc,Ap,AF hi,Bo];exact h)];rfl
theorem begT_no {left:Int} (hi:i<G.rs.length) (h:(G.rs[i]).l≠left):begT G left (i+1)=begT G left i:=by
 unfold begT;rw[C9,B3,Bf,BX,AG (by rw[Bc,Ap,AF hi,Bo];exact h)];simp
theorem begT_len (G:Gm.Gr) (left:Int) (i:Nat):(begT G left i).length<=i:=by
 unfold begT;rw[Bd]
 have:=B7 (fun k=>decide ((G.rs.getD k ⟨0,[],0⟩).l=left)) (List.range i)
 rw[DG]at this;exact this
theorem addE_beg {x:It} (h:nx G x=some s) (h0:s<0):addE G x=begT G (-1-s) G.rs.length:=by
 unfold addE begT;rw[h];simp only[Az h0]
theorem addE_no {x:It} (h:∀s,nx G x=some s->0<=s):addE G x=[]:=by
 unfold addE;cases hn:nx G x with
 | none=>rfl
 | some s =>
  have:=h s hn
  simp only;rw[AG (by omega)]
theorem addsX_up:∀ {zs xs:List It},(addsX xs zs).length<=xs.length+zs.length
 | [],_=>Af _
 | z::zs,xs=>by
  have h:=addsX_up (zs:=zs) (xs:=addX xs z)
  have h1:(addX xs z).length<=xs.length+1:=by
   unfold addX;split
   ·omega
   ·simp
  have e:addsX xs (z::zs)=addsX (addX xs z) zs:=rfl;rw[e,Bv];omega
end Au
theorem zgx (v:Value) (G:Gm.Gr) (B:Nat) (left:Int) (w:World) (base pA pT M:Nat) (xs:List Au.It) (hg:aR w B v G) (hB:B<=base) (hr:G.rs.length<=1000) (h:AdSt w base pA pT M xs) (aa:xs.length<=50000) :
  Calls Tryz.prog 107 #[v,.int .i64 left,.func (Fn.func 104) #[] #[.pointer (some ⟨pT,0,none⟩),.pointer (some ⟨pA,0,none⟩)]] w fun e w'=>e=.returned (.tuple #[])/\AdSt w' base pA pT M (Au.addsX xs (Au.begT G left G.rs.length))/\Below base w w'/\KeepI w w':=by
 obtain⟨AT,cT,AN,cN,AR,cR,rfl,_,_,⟨a5,a6⟩,_,_,hR⟩:=hg;obtain⟨wb,ab⟩:∃y,y=w.alloc (.cells #[.slice AT G.ts.length cT,.slice AN G.ns.length cN,.slice AR G.rs.length cR,.int .i64 G.st] 26):=⟨_,rfl⟩
 have ad:Hid (Below w.heap.size w wb):=aA (by rw[ab];exact(AB _ _).alloc (Af _) _);have ag:wb.heap[w.heap.size]?=some (.cells #[.slice AT G.ts.length cT,.slice AN G.ns.length cN,.slice AR G.rs.length cR,.int .i64 G.st] 26 (0,0)):=by rw[ab];exact AE w _
 have HR:=aA hR;have ah:=aA h.base_le;have HB:=aA hB;have HH:=aA (h.below ad.o);have x2:=aZ ag;have av:Hid (Below base w wb):=aA (ad.o.mono ah.o);have aw:Hid (KeepI w wb):=aA (.below ad.o);have ai:(G.rs.length:Int)<=1000:=by omega
 have HL:=aA aa;clear hR hB h ag aa
 go_enter Tryz.func107,Tryz.ntmps107
 go_upto_region 1 with fail
 rw[<-ab];clear ab;go_wp2;go_loopw [11] (fun vi wr=>∃i:Nat,i<=G.rs.length/\vi=.int .i64 i/\Hid (AdSt wr base pA pT M (Au.addsX xs (Au.begT G left i)))/\Hid (Below base w wr)/\Hid (KeepI w wr)) (fun vi _=>G.rs.length-(intOf vi).toNat)
 case atStart=>exact⟨0,AU _,rfl,HH,av,aw⟩
 case round =>
  obtain⟨i,hi,rfl,HA,HW,HK⟩:=hrel;by_cases b:i<G.rs.length
  ·obtain⟨g,o,rfl,ax,hc⟩:=HR.o (by omega);obtain⟨k0,⟨A',c',k1,ay,_,az⟩,k2⟩:=hc i b;have ae:g<base:=Ag ax HB.o;have k0:=(HW.o.cell (p:=⟨g,o+i*3,none⟩) ae).trans k0;have k1:=(HW.o.cell (p:=⟨g,o+i*3+1,none⟩) ae).trans k1;have k2:=(HW.o.cell (p:=⟨g,o+i*3+2,none⟩) ae).trans k2;have aj:=aA (show(Au.addsX xs (Au.begT G left i)).length<=100000 by have:=Au.addsX_up (xs:=xs) (zs:=Au.begT G left i);have:=Au.begT_len G left i;have:=HL.o;omega);obtain⟨wi,ac⟩:∃y,y=wr.alloc (.cells #[.int .i64 (G.rs[i]).l,.slice A' (G.rs[i]).r.length c',.int .i64 (G.rs[i]).p] 48):=⟨_,rfl⟩
   have af:Hid (Below wr.heap.size wr wi):=aA (by rw[ac];exact(AB _ _).alloc (Af _) _);have ak:wi.heap[wr.heap.size]?=some (.cells #[.int .i64 (G.rs[i]).l,.slice A' (G.rs[i]).r.length c',.int .i64 (G.rs[i]).p] 48 (0,0)):=by rw[ac];exact AE wr _
   have y0:=aT ak;have al:=aA (HW.o.trans (af.o.mono (Am ah.o HK.o.size)));have am:=aA (HK.o.trans (.below af.o));have ao:=aA (HA.o.below af.o);have ap:=aA (zfG wi base pA pT M _ ((i:Int),0) ao.o (by unfold Gm.In;simp only;omega) aj.o);have hY:=Au.begT_yes (left:=left) b;have hN:=Au.begT_no (left:=left) b;clear hc az ay ak aj;generalize (G.rs[i]).l=lf at *;generalize (G.rs[i]).r.length=rn at *;generalize (G.rs[i]).p=rp at *;go_upto_region 4 with fail
   rw[<-ac];clear ac k0 k1 k2;by_cases he:lf=left
   ·have a0:=aA (hY he);have hq:(lf==left)=true:=by rw[BI];exact he
    clear hY hN he;go_wp2_with fail
    refine ap.o.mono ?_;rintro _ w2 ⟨rfl,aq,ar,au⟩;have a1:=aA aq;have a2:=aA (al.o.trans ar);have a3:=aA (am.o.trans au);clear aq ar au y0;go_wp2;go_roundw
    case rel=>exact⟨i+1,b,by go_num,aA (by rw[a0.o,Au.addsX_snoc];exact a1.o),a2,a3⟩
    case measure=>simp[intOf];omega
   ·have a4:=aA (hN he);have hq:(lf==left)=false:=by rw[AY];exact he
    clear hY hN he ap;go_wp2;go_roundw
    case rel=>exact⟨i+1,b,by go_num,aA (by rw[a4.o];exact ao.o),al,am⟩
    case measure=>simp[intOf];omega
  ·obtain rfl:i=G.rs.length:=by omega
   go_wp2;go_end0
   exact⟨rfl,HA.o,HW.o,HK.o⟩
end Go.Proofs.YtcmhaemaophplaaGreat
namespace Go.Proofs
open Go.Shelf
def Tryz.sortIt_ren:Go.Shelf.Ren:=⟨fun|6=>109|15=>146|14=>145|28=>173|29=>174|20=>165|21=>166|22=>167|23=>168|24=>169|25=>170|26=>171|27=>172|46=>185|47=>186|48=>187|49=>188|50=>189|57=>196|n=>n,fun|22=>52|24=>60|25=>180|3=>3|39=>209|0=>0|53=>44|55=>231|4=>4|46=>224|45=>223|50=>57|5=>5|9=>9|66=>233|70=>237|76=>242|77=>243|n=>n,fun|n=>n⟩
theorem Tryz.sortIt:Go.Proofs.SlLaysF0.n6 Tryz.prog Tryz.sortIt_ren:={
 mixed:=by kernel_rfl
 f6:=⟨Tryz.f109.name,by decide,Tryz.func109.trans (congrArg some (by kernel_rfl))⟩
 f14:=⟨Tryz.f145.name,by decide,Tryz.func145.trans (congrArg some (by kernel_rfl))⟩
 f15:=Tryz.func146.trans (congrArg some (by kernel_rfl))
 f20:=⟨Tryz.f165.name,by decide,Tryz.func165.trans (congrArg some (by kernel_rfl))⟩
 f21:=⟨Tryz.f166.name,by decide,Tryz.func166.trans (congrArg some (by kernel_rfl))⟩
 f22:=⟨Tryz.f167.name,by decide,Tryz.func167.trans (congrArg some (by kernel_rfl))⟩
 f23:=⟨Tryz.f168.name,by decide,Tryz.func168.trans (congrArg some (by kernel_rfl))⟩
 f24:=⟨Tryz.f169.name,by decide,Tryz.func169.trans (congrArg some (by kernel_rfl))⟩
 f25:=⟨Tryz.f170.name,by decide,Tryz.func170.trans (congrArg some (by kernel_rfl))⟩
 f26:=⟨Tryz.f171.name,by decide,Tryz.func171.trans (congrArg some (by kernel_rfl))⟩
 f27:=⟨Tryz.f172.name,by decide,Tryz.func172.trans (congrArg some (by kernel_rfl))⟩
 f28:=Tryz.func173.trans (congrArg some (by kernel_rfl))
 f29:=Tryz.func174.trans (congrArg some (by kernel_rfl))
 f46:=⟨Tryz.f185.name,by decide,Tryz.func185.trans (congrArg some (by kernel_rfl))⟩
 f47:=Tryz.func186.trans (congrArg some (by kernel_rfl))
 f48:=Tryz.func187.trans (congrArg some (by kernel_rfl))
 f49:=⟨Tryz.f188.name,by decide,Tryz.func188.trans (congrArg some (by kernel_rfl))⟩
 f50:=⟨Tryz.f189.name,by decide,Tryz.func189.trans (congrArg some (by kernel_rfl))⟩
 f57:=⟨Tryz.f196.name,by decide,Tryz.func196.trans (congrArg some (by kernel_rfl))⟩
 t0:=Tryz.underlying0
 a0:=Tryz.isAgg0
 z0:=Tryz.sizeOf0
 v0:=Tryz.zeroValue0
 t3:=Tryz.underlying3
 a3:=Tryz.isAgg3
 z3:=Tryz.sizeOf3
 v3:=Tryz.zeroValue3
 t4:=Tryz.underlying4
 a4:=Tryz.isAgg4
 z4:=Tryz.sizeOf4
 v4:=Tryz.zeroValue4
 t5:=Tryz.underlying5
 a5:=Tryz.isAgg5
 z5:=Tryz.sizeOf5
 v5:=Tryz.zeroValue5
 t9:=Tryz.underlying9
 a9:=Tryz.isAgg9
 z9:=Tryz.sizeOf9
 v9:=Tryz.zeroValue9
 t22:=Tryz.underlying52
 a22:=Tryz.isAgg52
 z22:=Tryz.sizeOf52
 v22:=Tryz.zeroValue52
 t25:=Tryz.underlying180
 a25:=Tryz.isAgg180
 z25:=Tryz.sizeOf180
 v25:=Tryz.zeroValue180
 t39:=Tryz.underlying209
 a39:=Tryz.isAgg209
 z39:=Tryz.sizeOf209
 v39:=Tryz.zeroValue209
 t45:=Tryz.underlying223
 a45:=Tryz.isAgg223
 z45:=Tryz.sizeOf223
 v45:=Tryz.zeroValue223
 t46:=Tryz.underlying224
 a46:=Tryz.isAgg224
 z46:=Tryz.sizeOf224
 v46:=Tryz.zeroValue224
 t50:=Tryz.underlying57
 a50:=Tryz.isAgg57
 z50:=Tryz.sizeOf57
 v50:=Tryz.zeroValue57
 t53:=Tryz.underlying44
 a53:=Tryz.isAgg44
 z53:=Tryz.sizeOf44
 v53:=Tryz.zeroValue44
 t55:=Tryz.underlying231
 a55:=Tryz.isAgg231
 z55:=Tryz.sizeOf231
 v55:=Tryz.zeroValue231
 t66:=Tryz.underlying233
 a66:=Tryz.isAgg233
 z66:=Tryz.sizeOf233
 v66:=Tryz.zeroValue233
 t70:=Tryz.underlying237
 a70:=Tryz.isAgg237
 z70:=Tryz.sizeOf237
 v70:=Tryz.zeroValue237
 t76:=Tryz.underlying242
 a76:=Tryz.isAgg242
 z76:=Tryz.sizeOf242
 v76:=Tryz.zeroValue242
 t77:=Tryz.underlying243
 a77:=Tryz.isAgg243
 z77:=Tryz.sizeOf243
 v77:=Tryz.zeroValue243}
end Go.Proofs
namespace Go.Proofs.YtcmhaemaophplaaGreat
open Go.RowKit
theorem zk2 (a b r:Int) (hr:(if a=0 then b else a)=r) (g:Nat) (w:World) (h0:w.cell? ⟨g,0,none⟩=some (.int .i64 a)) (h1:w.cell? ⟨g,1,none⟩=some (.int .i64 b)) :
  Calls Tryz.prog 147 #[.slice (some ⟨g,0,none⟩) 2 2] w fun e w'=>e=.returned (.int .i64 r)/\w'=w:=by
 by_cases ha:a=0
 ·rw[Az ha]at hr;subst ha hr;by_cases hb:b=0
  ·subst hb
   go_enter Tryz.func147,Tryz.ntmps147
   go_wp2;go_loopw [8] (fun vi wr=>∃k:Nat,k<=2/\vi=.int .i64 k/\wr=w) (fun vi _=>2-(intOf vi).toNat)
   case atStart=>exact⟨0,by omega,rfl,by trivial⟩
   case round =>
    obtain⟨k,hk,rfl,rfl⟩:=hrel;by_cases aa:k<2
    ·have hc:wr.cell? ⟨g,k,none⟩=some (.int .i64 0):=by
      match k,aa with
      | 0,_=>exact h0
      | 1,_=>exact h1
     clear h0 h1;go_wp2;go_roundw
     case rel=>exact⟨k+1,aa,by go_num,by trivial⟩
     case measure=>simp[intOf];omega
    ·have:¬(k:Int)<2:=by omega
     go_wp2;go_ret
     exact⟨rfl,rfl⟩
  ·have hq:(b != 0)=true:=by rw[DZ];exact hb
   clear hb
   go_enter Tryz.func147,Tryz.ntmps147
   go_wp2;go_loopw [8] (fun vi wr=>∃k:Nat,k<=1/\vi=.int .i64 k/\wr=w) (fun vi _=>2-(intOf vi).toNat)
   case atStart=>exact⟨0,by omega,rfl,by trivial⟩
   case round =>
    obtain⟨k,hk,rfl,rfl⟩:=hrel;by_cases aa:k=0
    ·subst aa;clear h1;go_wp2;go_roundw
     case rel=>exact⟨1,by omega,by go_num,by trivial⟩
     case measure=>simp[intOf]
    ·obtain rfl:k=1:=by omega
     clear h0;go_wp2;go_ret
     exact⟨rfl,rfl⟩
 ·rw[AG ha]at hr;subst hr;have hq:(a != 0)=true:=by rw[DZ];exact ha
  clear h1 ha
  go_enter Tryz.func147,Tryz.ntmps147
  go_wp2;go_loopw [8] (fun vi wr=>vi=.int .i64 0/\wr=w) (fun _ _=>0)
  case atStart=>exact⟨rfl,by trivial⟩
  case round =>
   obtain⟨rfl,rfl⟩:=hrel;go_wp2;go_ret
   exact⟨rfl,rfl⟩
namespace Au
def cmpI (x y:It):Int:=if Lib.compareInt x.1 y.1=0 then Lib.compareInt x.2 y.2 else Lib.compareInt x.1 y.1
theorem cmpI_lt (x y:It):ltOf cmpI x y=lt x y:=by
 unfold ltOf cmpI Lib.compareInt lt;rw[Bt];simp only[Bc,CD,AV];split <;> split <;> (try split) <;> (try split) <;> omega
end Au
theorem zeE (x y:Au.It) (W:World) :
  Calls Tryz.prog 110 #[itV x,itV y] W fun e w'=>e=.returned (.int .i64 (Au.cmpI x y))/\∃q os',w'=Go.Sort.grow (W.drewN q) os':=by
 have ad:=aA (fun(w:World)=>Tryz.cmp_Compare_int x.1 y.1 w);have ae:=aA (fun(w:World)=>Tryz.cmp_Compare_int x.2 y.2 w);have HE:Hid (Au.cmpI x y=if Lib.compareInt x.1 y.1=0 then Lib.compareInt x.2 y.2 else Lib.compareInt x.1 y.1):=aA rfl;obtain⟨wb,ab⟩:∃z,z=(W.alloc (.cells #[.int .i64 x.1,.int .i64 x.2] 60)).alloc (.cells #[.int .i64 y.1,.int .i64 y.2] 60):=⟨_,rfl⟩
 have HT:Hid (bK 60 60 W #[.int .i64 x.1,.int .i64 x.2] #[.int .i64 y.1,.int .i64 y.2] wb):=aA (by rw[ab];exact bK.start _ _ _ _ _);have HG:Hid (∃os',wb=Go.Sort.grow W os'):=aA ⟨_,by rw[ab,Go.Sort.alloc_eq_grow,Go.Sort.alloc_eq_grow,Go.Sort.grow_grow]⟩;have hz:W.heap.size+2<=wb.heap.size:=HT.o.size;have HO:=aA (fun(g:Nat) (w:World)=>zk2 (Lib.compareInt x.1 y.1) (Lib.compareInt x.2 y.2) (Au.cmpI x y) HE.o.symm g w);generalize Au.cmpI x y=r at *;generalize Lib.compareInt x.1 y.1=c1 at *;generalize Lib.compareInt x.2 y.2=c2 at *;clear HE
 go_enter Tryz.func110,Tryz.ntmps110
 go_upto_region 1 with fail
 rw[<-ab];clear ab;have q0:∀z:Calm.On wb.heap.size wb,z.1.cell? ⟨W.heap.size,0,none⟩=some (.int .i64 x.1):=fun z=>(HT.o.on z.2).c1 0 _ rfl;have q1:∀z:Calm.On wb.heap.size wb,z.1.cell? ⟨W.heap.size,1,none⟩=some (.int .i64 x.2):=fun z=>(HT.o.on z.2).c1 1 _ rfl;have q2:∀z:Calm.On wb.heap.size wb,z.1.cell? ⟨W.heap.size+1,0,none⟩=some (.int .i64 y.1):=fun z=>(HT.o.on z.2).c2 0 _ rfl;have q3:∀z:Calm.On wb.heap.size wb,z.1.cell? ⟨W.heap.size+1,1,none⟩=some (.int .i64 y.2):=fun z=>(HT.o.on z.2).c2 1 _ rfl;have f:=zam wb;have ac:Hid (∀o:Obj,∃z:Calm.On wb.heap.size wb,wb.drew.alloc o=z.1):=aA (fun o=>⟨⟨wb.drew.alloc o,(aB (AB _ _) 1).alloc (Af _) o⟩,rfl⟩);refine CalmN.region_tree (fun x=>∃z:Calm.On wb.heap.size wb,x=z.1) (.one [0,1,2,3,5,6,7,8] 4 (.one [] 9 (.one [] 10 (.one [] 11 (.fin [12]))))) (by kernel_rfl) (by kernel_rfl) (fun _ _ d _ _ h=>by cases d <;> exact h) f.o ?_;simp only[CalmN.wpT,CalmN.wpSt,CalmN.pickOps,Aw,Ah,Aj];repeat (go_big_quiet_step (fail))
 refine Aq ?_;have HD:Hid (∃os',wb.drew=Go.Sort.grow (W.drewN 1) os'):=aA (by obtain⟨os',e⟩:=HG.o;exact⟨os',by rw[e];rfl⟩);clear q0 q1 q2 q3 HG;generalize wb.drew=wd at *;intro KK b;rw[Az (by rfl)];go_wp2_with fail
 refine(ad.o _).mono ?_;rintro _ wd ⟨rfl,rfl⟩;go_wp2_with fail
 refine b _ _ f.o _ (fun _ h=>h) f.o ?_;clear b;refine Aq ?_;intro KK b;rw[Az (by rfl)];go_wp2_with fail
 refine(ae.o _).mono ?_;rintro _ wd ⟨rfl,rfl⟩;go_wp2_with fail
 refine b _ _ f.o _ (fun _ h=>h) f.o ?_;clear b;refine Aq ?_;intro KK b;rw[Az (by rfl)];go_wp2_with fail
 refine b _ _ (ac.o _) _ (fun _ h=>h) (ac.o _) ?_;clear b;refine Aq ?_;intro KK b;rw[Az (by rfl)];have aa:=AE wd (.cells #[.int .i64 c1,.int .i64 c2] 3);have af:=aA (HO.o wd.heap.size _ (AD _ _ 0 _ _ _ aa) (AD _ _ 1 _ _ _ aa));clear aa;go_wp2_with fail
 refine af.o.mono ?_;rintro _ wz ⟨rfl,ag⟩;subst ag;go_wp2_with fail
 refine b _ _ (ac.o _) _ (fun _ h=>h) (ac.o _) ?_;clear b;repeat (go_big_quiet_step (fail))
 refine Aq ?_;obtain⟨os',e⟩:=HD.o;have HF:Hid (∃q os',wd.alloc (.cells #[.int .i64 c1,.int .i64 c2] 3)=Go.Sort.grow (W.drewN q) os'):=aA ⟨1,_,by rw[Go.Sort.alloc_eq_grow,e,Go.Sort.grow_grow]⟩;clear e;go_wp2;go_ret
 exact⟨rfl,HF.o⟩
theorem zfs (ts:List Au.It):Go.Sort.flatK prF 2 ts.toArray=(ts.flatMap prF).toArray:=by
 refine Go.Sort.ext_get! (by simp[zf1 aG]) fun t ht=>?_;rw[Go.Sort.size_flatK]at ht;rw[Go.Sort.get_flatK _ _ _ _ ht];have aa:t / 2<ts.length:=by simpa[Nat.div_lt_iff_lt_mul] using ht
 have h:=qat aG ts (t / 2) (t % 2) aa (Nat.mod_lt _ (by decide));rw[show t / 2*2+t % 2=t by omega]at h;have e1:ts.toArray[t / 2]! = ts[t / 2]:=by simp[aa]
 rw[e1];have hl:t<(ts.flatMap prF).length:=by rw[zf1 aG];omega
 have hm:t % 2<(prF ts[t / 2]).length:=by rw[aG];omega
 rw[AF hl,AF hm]at h;injection h with h;rw[getElem!_pos (prF ts[t / 2]) (t % 2) hm,getElem!_pos (ts.flatMap prF).toArray t (by simpa using hl)]
 simpa using h.symm
theorem ziD:Go.Sort.SWO (ltOf Au.cmpI) where
 irrefl x:=by rw[Au.cmpI_lt];exact Au.lt_irr x
 trans x y z h1 h2:=by rw[Au.cmpI_lt]at *;exact Au.lt_trans h1 h2
 ntrans x y z h1 h2:=by
  rw[Au.cmpI_lt]at *;cases h:Au.lt x z
  ·rfl
  ·have a:¬Au.lt x y=true:=by rw[h1];decide
   have b:¬Au.lt y z=true:=by rw[h2];decide
   rw[Au.lt_iff]at h a b;omega
def Au.srt (xs:List Au.It):List Au.It:=xs.mergeSort fun x y=>!Au.lt y x
theorem Au.srt_ok {xs:List Au.It} (h:xs.Nodup):Au.Srt (Au.srt xs)/\∀x,x∈Au.srt xs↔x∈xs:=by
 have hp:(Au.srt xs).Perm xs:=List.mergeSort_perm _ _;refine⟨Au.srt_of h hp ?_,fun x=>hp.mem_iff⟩
 have hs:=List.pairwise_mergeSort (le:=fun x y=>!Au.lt y x) (fun a b c h1 h2=>by
  simp only[En]at *;have a1:¬Au.lt b a=true:=by rw[h1];decide
  have b1:¬Au.lt c b=true:=by rw[h2];decide
  cases q:Au.lt c a
  ·rfl
  ·rw[Au.lt_iff]at q a1 b1
   omega) (fun a b=>by
  cases q:Au.lt b a
  ·rfl
  ·have:Au.lt a b=false:=by
    cases k:Au.lt a b
    ·rfl
    ·rw[Au.lt_iff]at q k;omega
   rw[this];rfl) xs
 exact hs.imp fun {a b} h=>by simpa using h
theorem zf2 {cap:Nat} {xs ts:List Au.It} (h:aJ 60 2 prF w base (.slice (some ⟨g,0,none⟩) xs.length cap) xs) (hl:ts.length=xs.length) (n:Nat) (os:Array Obj) :
  aJ 60 2 prF (sortWorldK prF 2 w g 0 n ts.toArray os) base (.slice (some ⟨g,0,none⟩) xs.length cap) ts/\w.grownBy (sortWorldK prF 2 w g 0 n ts.toArray os) (some g):=by
 have hF:(ts.flatMap prF).length=xs.length*2:=by rw[zf1 aG,hl]
 rcases h.2 with⟨e,h0⟩|⟨g',cap',cur,e,hb,hg,hn,hm,hs,ht⟩
 ·cases e
 ·injection e with e1 e2 e3;injection e1 with e1;injection e1 with e1;subst e1 e3;unfold sortWorldK Go.Sort.putRowK aJ;rw[zfs];have hq:(ts.flatMap prF).length=ts.length*2:=zf1 aG ts;generalize ts.flatMap prF=F at *;have aa:g<w.heap.size:=(Ad.1 hg).1;refine⟨?_,⟨rfl,rfl,rfl,by simp,fun k hk ab=>?_⟩⟩
  ·refine⟨hq,.inr ⟨g,cap,Go.Sort.putCells id 0 F.toArray cur,by rw[hl],hb,?_,by omega,hm,by simp[Go.Sort.putCells,hs],?_⟩⟩
   ·rw[Go.Sort.heap_grow_old _ _ (by simpa using aa)];simp[Go.Sort.putRow,Go.Sort.mapBlock,Go.Sort.ahead,Array.getElem?_modify,hg,Go.Sort.onCells]
   ·rw[hl,<-hF];have ac:F.length<=cur.size:=by rw[hF,hs];exact Dp 2 hn
    apply CS;intro j;by_cases hj:j<F.length
    ·rw[CX hj,Ek];simp[Go.Sort.putCells,hj,show j<cur.size by omega]
    ·rw[List.getElem?_take_eq_none (by omega),BD (by omega)]
  ·rw[Go.Sort.heap_grow_old _ _ (by simpa using hk)]
   have:g≠k:=fun e=>ab (by rw[e])
   simp[Go.Sort.putRow,Go.Sort.mapBlock,Go.Sort.ahead,Array.getElem?_modify,this]
theorem zhU {cap:Nat} {xs:List Au.It} (h:aJ 60 2 prF w base (.slice (some ⟨g,0,none⟩) xs.length cap) xs):Go.Sort.HoldsK prF 2 w g 0 xs.toArray:=by
 rcases h.2 with⟨e,h0⟩|⟨g',cap',cur,e,hb,hg,hn,hm,hs,ht⟩
 ·cases e
 ·injection e with e1 e2 e3;injection e1 with e1;injection e1 with e1;subst e1 e3;unfold Go.Sort.HoldsK;rw[zfs];intro j hj;have hj:j<(xs.flatMap prF).length:=by simpa using hj
  have aa:j<xs.length*2:=by rw[<-zf1 aG];exact hj
  refine⟨?_,AH w g _ _ _ hg⟩;rw[BA,AD w g j _ _ _ hg];have h2:(cur.toList.take (xs.length*2))[j]?=(xs.flatMap prF)[j]?:=by rw[ht]
  rw[CX aa,Ek]at h2;rw[h2,getElem!_pos (xs.flatMap prF).toArray j (by simpa using hj),AF hj];simp
theorem zis {xs:List Au.It} (h:aJ 60 2 prF w base v xs) (hl:xs.length<=1000000) :
  Calls Tryz.prog 109 #[v,.func (Fn.func 110) #[] #[]] w fun e w'=>e=.returned (.tuple #[])/\aJ 60 2 prF w' base v (Au.srt xs)/\w.grownBy w' v.ownBlock:=by
 have ab:(Au.srt xs).length=xs.length:=List.length_mergeSort _;rcases Dj xs.length with h0|h0
 ·have hx:xs=[]:=BC h0;subst hx;obtain⟨A,c,rfl,_⟩:=aJ.form h aG;refine(AnyF.slices_SortFunc_none Tryz.sortIt A c _ w).mono ?_;rintro e w' ⟨rfl,rfl⟩;exact⟨rfl,by rw[show Au.srt []=[] by simp[Au.srt]];exact h,AM _ _⟩
 ·obtain⟨g,c,rfl,ac,_,ad⟩:=aJ.addr h (by omega);have eg:∀args w,(callFunc 110 args).run Tryz.prog w=.ok (.enter 110 args) w:=enters_of Tryz.func110 (by kernel_rfl) rfl
  have aa:=AnyQ.slices_SortFunc_total Tryz.sortIt 2 (fun _=>by kernel_rfl) (fun _=>by kernel_rfl) prF aG zaG Au.cmpI ziD 110 #[] g 0 c xs.toArray w eg (fun _ _ _ _ x y=>zeE x y _) (zhU h) (aJ.lt h) (by simp;omega) (fun x y h1 h2=>by
   rw[Au.cmpI_lt]at h1 h2;exact BQ fun hn=>by rw[Au.lt_or h1 hn]at h2;cases h2)
  have e1:xs.toArray.size=xs.length:=by simp
  rw[e1]at aa;refine Calls.mono aa ?_;rintro e w' ⟨rfl,n,os,rfl⟩
  have e2:(xs.toArray.toList.mergeSort fun x y=>!(ltOf Au.cmpI) y x)=Au.srt xs:=by
   unfold Au.srt
   congr 1
   funext x y
   rw[Au.cmpI_lt]
  rw[e2];obtain⟨h1,h2⟩:=zf2 h ab n os;exact⟨rfl,h1,h2⟩
theorem zgv (v:Value) (G:Gm.Gr) (B:Nat) (l:List Au.It) (A:Option Addr) (c BL:Nat) (w:World) (hg:aR w B v G) (hf:Gm.Fit G) (a4:Gm.Ok G) (hB:B<=w.heap.size) (hl:RdQ 2 prF w BL A l) (a5:BL<=w.heap.size) (a6:∀x∈l,Gm.In x.1/\Gm.In x.2) (am:l.length<=1000) :
  Calls Tryz.prog 72 #[v,.slice A l.length c] w fun e w'=>∃v',e=.returned v'/\aJ 60 2 prF w' w.heap.size v' (Au.clo G (l.filter (Au.isI G)))/\Below w.heap.size w w':=by
 have HG:=aA hg;have HF:=aA hf;have F:=aA a4;have J:=aA hB;have HL:=aA hl;have br:=aA a5;have a9:=aA a6;obtain⟨AT,cT,AN,cN,AR,cR,rfl,_⟩:=hg;have ci:∀(fn:Fn) (first cap:Array Value) (w:World),(Instr.makeFunc fn first cap).run Tryz.prog w=.ok (.func fn first cap) w:=fun _ _ _ _=>rfl;have bs:=fun t w=>EP (P:=Tryz.prog) t w;obtain⟨w1,V⟩:∃y,y=w.alloc (.cells #[.slice AT G.ts.length cT,.slice AN G.ns.length cN,.slice AR G.rs.length cR,.int .i64 G.st] 26):=⟨_,rfl⟩
 have ao:w1.heap.size=w.heap.size+1:=by rw[V];simp
 have b1:Below w.heap.size w w1:=by rw[V];exact(AB _ _).alloc (Af _) _
 have g1:w1.heap[w.heap.size]?=some (.cells #[.slice AT G.ts.length cT,.slice AN G.ns.length cN,.slice AR G.rs.length cR,.int .i64 G.st] 26 (0,0)):=by rw[V];exact AE w _
 obtain⟨w2,X⟩:∃y,y=w1.alloc (.cells #[.slice none 0 0] 52):=⟨_,rfl⟩
 have ap:w2.heap.size=w.heap.size+2:=by rw[X];simp[ao]
 have b2:Below w1.heap.size w1 w2:=by rw[X];exact(AB _ _).alloc (Af _) _
 have g2:w2.heap[w.heap.size+1]?=some (.cells #[.slice none 0 0] 52 (0,0)):=by rw[X,<-ao];exact AE w1 _
 obtain⟨w3,E⟩:∃y,y=w2.alloc (.map #[] 0):=⟨_,rfl⟩
 have ba:w3.heap.size=w.heap.size+3:=by rw[E];simp[ap]
 have b3:Below w2.heap.size w2 w3:=by rw[E];exact(AB _ _).alloc (Af _) _
 have g3:Mw.MapIs itE w3 (w.heap.size+2) []:=by rw[E,<-ap];exact Mw.MapIs.made itE w2
 obtain⟨w4,N⟩:∃y,y=w3.alloc (.cells #[.map (some (w.heap.size+2))] 176):=⟨_,rfl⟩
 have b4:Below w3.heap.size w3 w4:=by rw[N];exact(AB _ _).alloc (Af _) _
 have g4:w4.heap[w.heap.size+3]?=some (.cells #[.map (some (w.heap.size+2))] 176 (0,0)):=by rw[N,<-ba];exact AE w3 _
 have bu:Hid (Below w.heap.size w w4):=aA (((b1.trans (b2.mono (by omega))).trans (b3.mono (by omega))).trans (b4.mono (by omega)));have bb:=aC b4 (aC b3 (aC b2 g1));have bc:=aA bb;have bd:Hid (AdSt w4 w.heap.size (w.heap.size+1) (w.heap.size+3) (w.heap.size+2) (Au.addsX [] ([].filter (Au.isI G)))):=aA ⟨⟨_,aC b4 (aC b3 g2),aJ.nil _ _⟩,g4,⟨[],g3.block (b4.block _ g3.lt),fun x=>by simp[Mw.asc,Au.addsX]⟩,by omega,by omega,by omega⟩;have cj:Hid (w.heap.size+4<=w4.heap.size):=aA (by have:=(Ad.1 g4).1;omega);clear hf a4 hB hl a5 a6 b1 b2 b3 b4 g1 g2 g3 g4 bb;have ab:(l.length:Int)<=1000:=by omega
 go_enter Tryz.func72,Tryz.ntmps72
 go_upto_region 1 with fail
 rw[<-V];clear V;go_upto_region 2 with fail
 rw[<-X];clear X;go_upto_region 3 with fail
 rw[<-E];rw[<-N];clear E N ao ap ba bs;rw[show w.heap.size+2+1=w.heap.size+3 from rfl];obtain⟨pT,aq⟩:∃p,p=w.heap.size+3:=⟨_,rfl⟩
 obtain⟨pA,ar⟩:∃p,p=w.heap.size+1:=⟨_,rfl⟩
 obtain⟨M,hM⟩:∃p,p=w.heap.size+2:=⟨_,rfl⟩
 rw[<-aq,<-ar,<-hM]at bd;rw[<-aq,<-ar,<-hM];clear aq ar hM;go_wp2;go_loopw [17] (fun vi wr=>∃i:Nat,i<=l.length/\vi=.int .i64 i/\Hid (AdSt wr w.heap.size pA pT M (Au.addsX [] ((l.take i).filter (Au.isI G))))/\Hid (Below w.heap.size w wr)/\Hid (KeepI w4 wr)) (fun vi _=>l.length-(intOf vi).toNat)
 case atStart=>exact⟨0,AU _,rfl,by simpa using bd,bu,aA (KeepI.refl _)⟩
 case round =>
  obtain⟨i,hi,rfl,HA,HW,HK⟩:=hrel;by_cases q:i<l.length
  ·obtain⟨g,o,rfl,bf,hc⟩:=HL.o (by omega);have au:g<w.heap.size:=Ag bf br.o;have k0:wr.cell? ⟨g,o+i*2,none⟩=some (.int .i64 (l[i]).1):=(HW.o.cell (p:=⟨g,o+i*2,none⟩) au).trans (hc i q 0 _ rfl);have k1:wr.cell? ⟨g,o+i*2+1,none⟩=some (.int .i64 (l[i]).2):=(HW.o.cell (p:=⟨g,o+i*2+1,none⟩) au).trans (hc i q 1 _ rfl);have bv:=aA (a9.o _ (AC q));have ae:Hid (l.take (i+1)=l.take i++[l[i]]):=aA (AI q)
   have bg:=aA (show(Au.addsX [] ((l.take i).filter (Au.isI G))).length<=100000 by
    have h1:=Au.addsX_up (xs:=[]) (zs:=(l.take i).filter (Au.isI G));have h2:=B7 (Au.isI G) (l.take i);rw[Bb]at h2;simp only[Ee]at h1
    omega)
   obtain⟨wi,af⟩:∃y,y=wr.alloc (.cells #[.int .i64 (l[i]).1,.int .i64 (l[i]).2] 60):=⟨_,rfl⟩
   have av:Hid (Below wr.heap.size wr wi):=aA (by rw[af];exact(AB _ _).alloc (Af _) _);have ag:wi.heap[wr.heap.size]?=some (.cells #[.int .i64 (l[i]).1,.int .i64 (l[i]).2] 60 (0,0)):=by rw[af];exact AE wr _
   have aw:=aA ag;have y0:=aT ag;have y1:=aU ag;have f:w.heap.size<=wr.heap.size:=HW.o.size;have O:=aA (HW.o.trans (av.o.mono f));have ax:=aA (HK.o.trans (.below av.o));have bh:=aA (HA.o.below av.o);have u:=ax.o.keep _ _ _ _ bc.o (by decide) (by decide);have z0:=aT u;have z1:=aU u;have z2:=aZ u;have z3:=bG u;have ah:=aA (zit _ G B l[i] wi (HG.o.below O.o J.o) HF.o (Am J.o O.o.size));clear hc ag u au bf;generalize l[i]=x at *;go_upto_region 7 with fail
   rw[<-af];clear af k0 k1;cases hI:Au.isI G x
   ·have HE:Hid ((l.take (i+1)).filter (Au.isI G)=(l.take i).filter (Au.isI G)):=aA (by rw[ae.o,B3,BX,AG (by rw[hI];decide)];simp);rw[hI]at ah;clear hI ae;go_wp2_with fail
    refine ah.o.mono ?_;rintro _ w2 ⟨rfl,b⟩;have H:=aA (bh.o.below b);have C:=aA (O.o.trans (b.mono O.o.size));have I:=aA (ax.o.trans (.below b));clear b y0 y1 z0 z1 z2 z3;go_wp2;go_roundw
    case rel=>exact⟨i+1,q,by go_num,aA (by rw[HE.o];exact H.o),C,I⟩
    case measure=>simp[intOf];omega
   ·have HE:Hid ((l.take (i+1)).filter (Au.isI G)=(l.take i).filter (Au.isI G)++[x]):=aA (by rw[ae.o,B3,BX,Az hI];simp);rw[hI]at ah;clear hI ae;go_wp2_with fail
    refine ah.o.mono ?_;rintro _ w2 ⟨rfl,b⟩;have H:=aA (bh.o.below b);have C:=aA (O.o.trans (b.mono O.o.size));have I:=aA (ax.o.trans (.below b));have aa:=aC b aw.o;have y0:=aT aa;have y1:=aU aa;have bw:=aA (zfG w2 w.heap.size pA pT M _ x H.o bv.o bg.o);clear b aa z0 z1 z2 z3;go_wp2_with fail
    refine bw.o.mono ?_;rintro _ w3 ⟨rfl,bi,bj,bk⟩;have bx:=aA bi;have bz:=aA (C.o.trans bj);have bD:=aA (I.o.trans bk);clear bi bj bk y0 y1;go_wp2;go_roundw
    case rel=>exact⟨i+1,q,by go_num,aA (by rw[HE.o,Au.addsX_snoc];exact bx.o),bz,bD⟩
    case measure=>simp[intOf];omega
  ·obtain rfl:i=l.length:=by omega
   rw[Bk]at HA;have ai:Hid (∀x∈l.filter (Au.isI G),Au.isI G x=true):=aA (fun x hx=>(BU.1 hx).2);generalize ay:l.filter (Au.isI G)=lf at *;have bM:=aA ay;clear ay;obtain⟨wo,bT⟩:∃wo:World,wo=wr:=⟨_,rfl⟩
   subst bT;clear a9 HL am ab;have bX:=aA (Au.PC.start G lf);generalize Au.addsX [] lf=xs0 at *;go_wp2;go_loopw [10] (fun vi wr=>∃(i:Nat) (xs:List Au.It),i<=xs.length/\vi=.int .i64 i/\Hid (Au.PC G lf i xs)/\Hid (AdSt wr w.heap.size pA pT M xs)/\Hid (Below w.heap.size w wr)/\Hid (KeepI w4 wr)) (fun vi _=>300-(intOf vi).toNat)
   case atStart=>exact⟨0,xs0,AU _,rfl,bX,HA,HW,HK⟩
   case round =>
    obtain⟨i,xs,hi,rfl,HP,HA,HW,HK⟩:=hrel;have ay:xs.length<=287:=Am (HP.o.le ai.o) (Au.allI_le F.o F.o.r40);obtain⟨v,h1,h2⟩:=HA.o.v;have H1:=aA h1;have H2:=aA h2;have f:w.heap.size<=wr.heap.size:=HW.o.size;have u:=HK.o.keep _ _ _ _ bc.o (by decide) (by decide);have Z:=aA u;by_cases q:i<xs.length
    ·obtain⟨g,c1,rfl,bY,bZ,_⟩:=aJ.addr h2 (by omega);have cA:=aT h1;have k0:wr.cell? ⟨g,i*2,none⟩=some (.int .i64 (xs[i]).1):=aJ.cellAt h2 aG i 0 q _ rfl;have k1:wr.cell? ⟨g,i*2+1,none⟩=some (.int .i64 (xs[i]).2):=aJ.cellAt h2 aG i 1 q _ rfl;have az:=aJ.lt h2;have bl:=(Ad.1 h1).1;have b0:=(Ad.1 u).1;have b5:(i:Int)<(xs.length:Int):=by omega
     have D:Hid (Au.PC G lf (i+1) (Au.addsX xs (Au.addE G xs[i]))):=aA (HP.o.next (AF q));have bm:Hid (Au.isI G xs[i]=true):=aA (Au.cl_is ai.o (HP.o.c _ (AC q)));have b6:Hid (xs.length<=(Au.addsX xs (Au.addE G xs[i])).length):=aA Au.addsX_len;have b7:=aA (fun(y:World) (h:Below wr.heap.size wr y)=>zc3 _ G B xs[i] y (HG.o.below (HW.o.trans (h.mono f)) J.o) HF.o (Am J.o (Am f h.size)));have bg:=aA (show xs.length<=50000 by omega);have aj:Hid (∃m,xs.drop m=[]/\i+1<=xs.reverse.length):=aA ⟨_,Et,by rw[D4];exact q⟩;generalize xs[i]=x at *;generalize xs.length=n at *;clear h1 h2 u;go_upto_region 13 with fail
     have qA:∀z:Calm.On wr.heap.size wr,z.1.cell? ⟨pA,0,none⟩=some (.slice (some ⟨g,0,none⟩) n c1):=fun z=>(z.2.cell (p:=⟨pA,0,none⟩) bl).trans cA;have q0:∀z:Calm.On wr.heap.size wr,z.1.cell? ⟨g,i*2,none⟩=some (.int .i64 x.1):=fun z=>(z.2.cell (p:=⟨g,i*2,none⟩) az).trans k0;have q1:∀z:Calm.On wr.heap.size wr,z.1.cell? ⟨g,i*2+1,none⟩=some (.int .i64 x.2):=fun z=>(z.2.cell (p:=⟨g,i*2+1,none⟩) az).trans k1;have z0:=fun z:Calm.On wr.heap.size wr=>aT (aC z.2 Z.o);have z1:=fun z:Calm.On wr.heap.size wr=>aU (aC z.2 Z.o);have z2:=fun z:Calm.On wr.heap.size wr=>aZ (aC z.2 Z.o);have z3:=fun z:Calm.On wr.heap.size wr=>bG (aC z.2 Z.o);have b8:=zam wr;clear k0 k1 cA;refine CalmN.region_tree (fun x=>∃z:Calm.On wr.heap.size wr,x=z.1) (.one [0,1,2,3,4] 5 (.fin [6,7,8,9,10])) (by kernel_rfl) (by kernel_rfl) (fun _ _ d _ _ h=>by cases d <;> exact h) b8.o ?_;simp only[CalmN.wpT,CalmN.wpSt,CalmN.pickOps,Aw,Ah,Aj];repeat (go_big_quiet_step (fail))
     refine Aq ?_;intro KK r;rw[Az (by rfl)];go_wp2_with fail
     refine(b7.o wr.drew (aB (AB _ _) 1)).mono ?_;rintro _ w2 ⟨rfl,b⟩;have b:Below wr.heap.size wr w2:=(aB (AB _ wr) 1).trans b;have U:=zbk b;have ck:=aA b;have ak:=aA (Au.nxP_is bm.o);have H:=aA (HA.o.below b);have C:=aA (HW.o.trans (b.mono f));have I:=aA (HK.o.trans (.below b));have j:=aA (aC b Z.o);clear b qA q0 q1 z0 z1 z2 z3 bl az b0 f;cases hq:Au.nxP G x with
     | none =>
      have hE:=Au.addE_no (G:=G) (x:=x) (fun s hs=>by rw[<-ak.o,hq]at hs;cases hs);rw[hE]at D;have D:Hid (Au.PC G lf (i+1) xs):=D;clear hE hq;go_wp2_with fail
      refine r _ _ U.o _ (fun _ h=>h) U.o ?_;clear r;repeat (go_big_quiet_step (fail))
      refine Aq ?_;go_wp2;go_roundw
      case rel=>exact⟨i+1,xs,by obtain⟨m,e,h⟩:=aj.o;rw[D4]at h;exact h,by go_num,D,H,C,I⟩
      case measure=>simp[intOf];omega
     | some s =>
      by_cases h0:s<0
      ·have hE:=Au.addE_beg (ak.o.symm.trans hq) h0;rw[hE]at D b6;have b9:=Gm.has_iff.1 (Au.syms_mem.1 (Au.nx_in F.o bm.o (ak.o.symm.trans hq)));have ca:=(Gm.nons_iff G).1 F.o.n;have ac:=aA (fun w=>zc4 s w);rw[AL h0]at ac;have cb:=aA (fun w=>zdx s (by omega) (by omega) w);have a0:Hid (i+1<=(Au.addsX xs (Au.begT G (-1-s) G.rs.length)).length):=aA (by obtain⟨m,e,h⟩:=aj.o;rw[D4]at h;exact Am h Au.addsX_len);have a1:=aA (zgx _ G B (-1-s) w2.drew w.heap.size pA pT M xs (HG.o.below (aB C.o 1) J.o) J.o (Am F.o.r40 (by omega)) (H.o.below (aB (AB _ _) 1)) (by obtain⟨m,e,h⟩:=aj.o;rw[D4]at h;have:=HP.o.le ai.o;have:=Au.allI_le F.o F.o.r40;omega));have z0:=fun z:Calm.OnB w.heap.size w2=>aT (z.2.trans j.o);have z1:=fun z:Calm.OnB w.heap.size w2=>aU (z.2.trans j.o);have z2:=fun z:Calm.OnB w.heap.size w2=>aZ (z.2.trans j.o);have z3:=fun z:Calm.OnB w.heap.size w2=>bG (z.2.trans j.o);have a2:Hid (∃z:Calm.OnB w.heap.size w2,w2.drew=z.1):=aA ⟨⟨w2.drew,rfl⟩,rfl⟩;clear hE hq b9 ca h0;go_wp2_with fail
       refine r _ _ U.o _ (fun _ h=>h) U.o ?_;clear r;repeat (go_big_quiet_step (fail))
       refine Aq ?_;go_wp2_with fail
       refine(ac.o _).mono ?_;rintro _ w3 ⟨rfl,E⟩;subst E;go_wp2_with fail
       refine CalmN.region_tree (fun x=>∃z:Calm.OnB w.heap.size w3,x=z.1) (.one [0,1,3] 2 (.one [] 4 (.fin []))) (by kernel_rfl) (by kernel_rfl) (fun _ _ d _ _ h=>by cases d <;> exact h) a2.o ?_;simp only[CalmN.wpT,CalmN.wpSt,CalmN.pickOps,Aw,Ah,Aj];repeat (go_big_quiet_step (fail))
       refine Aq ?_;clear z0 z1 z2 z3;intro KK r;rw[Az (by rfl)];go_wp2_with fail
       refine(cb.o _).mono ?_;rintro _ w4' ⟨rfl,N⟩;subst N;go_wp2_with fail
       refine r _ _ a2.o _ (fun _ h=>h) a2.o ?_;clear r;refine Aq ?_;intro KK r;rw[Az (by rfl)];go_wp2_with fail
       refine a1.o.mono ?_;rintro _ w5 ⟨rfl,bo,al,ad⟩;have al:Below w.heap.size w3 w5:=(aB (AB _ w3) 1).trans al;have ad:KeepI w3 w5:=(KeepI.below (aB (AB _ w3) 1)).trans ad;have cc:=aA bo;have cd:=aA (C.o.trans al);have ce:=aA (I.o.trans ad);have bp:Hid (∃z:Calm.OnB w.heap.size w3,w5=z.1):=aA ⟨⟨w5,(ad.keep _ _ _ _ j.o (by decide) (by decide)).trans j.o.symm⟩,rfl⟩;clear bo al ad;go_wp2_with fail
       refine r _ _ bp.o _ (fun _ h=>h) bp.o ?_;clear r;refine Aq ?_;go_wp2;go_roundw
       case rel=>exact⟨i+1,_,a0.o,by go_num,D,cc,cd,ce⟩
       case measure=>simp[intOf];omega
      ·have hE:=Au.addE_no (G:=G) (x:=x) (fun s' hs=>by rw[<-ak.o,hq]at hs;injection hs with hs;omega);rw[hE]at D;have D:Hid (Au.PC G lf (i+1) xs):=D;have ac:=aA (fun w=>zc4 s w);rw[AO h0]at ac;clear hE hq h0;go_wp2_with fail
       refine r _ _ U.o _ (fun _ h=>h) U.o ?_;clear r;repeat (go_big_quiet_step (fail))
       refine Aq ?_;go_wp2_with fail
       refine(ac.o _).mono ?_;rintro _ w3 ⟨rfl,E⟩;subst E;go_wp2;go_roundw
       case rel=>exact⟨i+1,xs,by obtain⟨m,e,h⟩:=aj.o;rw[D4]at h;exact h,by go_num,D,H,C,I⟩
       case measure=>simp[intOf];omega
    ·obtain rfl:i=xs.length:=by omega
     obtain⟨A1,c1,rfl,bY,bZ,_⟩:=aJ.form h2 aG;have cA:=aT h1;have cf:=aA (zis h2 (by omega));have hD:=HP.o;obtain⟨hs,hm⟩:=Au.srt_ok hD.nd;have HD:=aA (Au.PC.done ai.o hD hs hm);have cg:=aA (fun k (e:(Value.slice A1 xs.length c1).ownBlock=some k)=>(Bn h2 k e).1);generalize xs.length=n at *;clear hD hs hm h1 h2 u;go_wp2_with fail
     refine cf.o.mono ?_;rintro _ w2 ⟨rfl,bq,a3⟩;have h3:=aI H2.o a3 H1.o fun cur=>aH (by decide);have cA:=aT h3;have ch:=aA bq;have C:=aA (HW.o.grown a3 f (fun k e=>cg.o k e));clear bq a3 h3;go_wp2;go_ret
     exact⟨_,rfl,by rw[bM.o,<-HD.o];exact ch.o,C.o⟩
namespace Au
def hasB (G:Gm.Gr) (x:It):Bool:=Gm.right G&&isI G x
def nextO (G:Gm.Gr) (x:It):Option Int:=if Gm.right G=true then nxP G x else none
noncomputable def closL (G:Gm.Gr) (l:List It):List It:=if Gm.right G=true then clo G (l.filter (isI G)) else []
end Au
theorem zfJ (k:List Au.It) (A:Option Addr) (c B:Nat) (w:World) (hk:RdQ 2 prF w B A k) (hB:B<=w.heap.size) (hb:∀z∈Au.txt k,0<=z/\z<=255) (hl:k.length<=1000) :
  Calls Tryz.prog 71 #[.slice A k.length c] w fun e w'=>e=.returned (.string (K.str (Au.txt k)))/\Below w.heap.size w w':=by
 have HK:=aA hk;have HB:=aA hB;have aa:=aA hb;have aq:(k.length:Int)<=1000:=by omega
 clear hk hB hb
 go_enter Tryz.func71,Tryz.ntmps71
 go_wp2;go_loopw [3,8] (fun vb vi wr=>∃i:Nat,i<=k.length/\vi=.int .i64 i/\Hid (bO wr w.heap.size vb (Au.txt (k.take i)))/\Hid (Below w.heap.size w wr)) (fun _ vi _=>k.length-(intOf vi).toNat)
 case atStart=>exact⟨0,AU _,rfl,aA (bO.nil _ _),aA (AB _ _)⟩
 case round =>
  obtain⟨i,hi,rfl,HO,HW⟩:=hrel;obtain⟨A1,c1,rfl,ar,au,ab⟩:=bO.form HO.o;by_cases b:i<k.length
  ·obtain⟨g,o,rfl,ai,hc⟩:=HK.o (by omega);have ae:g<w.heap.size:=Ag ai HB.o;have k0:wr.cell? ⟨g,o+i*2,none⟩=some (.int .i64 (k[i]).1):=(HW.o.cell (p:=⟨g,o+i*2,none⟩) ae).trans (hc i b 0 _ rfl);have k1:wr.cell? ⟨g,o+i*2+1,none⟩=some (.int .i64 (k[i]).2):=(HW.o.cell (p:=⟨g,o+i*2+1,none⟩) ae).trans (hc i b 1 _ rfl);have aj:Hid (Au.txt (k.take (i+1))=Au.txt (k.take i)++[(k[i]).1+1,(k[i]).2]):=aA (by rw[AI b,Au.txt_snoc]);have h1:=aa.o ((k[i]).1+1) (CE.2 ⟨k[i],AC b,by simp⟩);have h2:=aa.o (k[i]).2 (CE.2 ⟨k[i],AC b,by simp⟩);have ak:Hid ((Au.txt (k.take i)).length<=2000):=aA (by rw[Au.txt_len,Bb];omega);clear hc ab;generalize k[i]=x at *;generalize Au.txt (k.take i)=t at *;have av:IntKind.i64.wrap (x.1 - -1)=x.1+1:=by rw[B5 _ (by omega)];omega
   have aw:IntKind.u8.wrap (x.1+1)=x.1+1:=IntWalk.u8_in _ (by omega);have ax:IntKind.u8.wrap x.2=x.2:=IntWalk.u8_in _ (by omega);have af:=aA ((HO.o.alloc (.cells #[.int .i64 x.1,.int .i64 x.2] 60)).alloc (zd6 [x.1+1,x.2]));have ac:=(znq (wr.alloc (.cells #[.int .i64 x.1,.int .i64 x.2] 60)) [x.1+1,x.2]).1;rw[show(wr.alloc (.cells #[.int .i64 x.1,.int .i64 x.2] 60)).heap.size=wr.heap.size+1 by simp]at ac;have al:=aA ac;clear ac;have ad:Hid (Below w.heap.size w ((wr.alloc (.cells #[.int .i64 x.1,.int .i64 x.2] 60)).alloc (zd6 [x.1+1,x.2]))):=aA ((HW.o.alloc HW.o.size _).alloc (by have:=HW.o.size;simp;omega) _);have HZ:=aA HW.o.size;go_wp2_with (at_builtin;refine zjs rfl (.tmp 12) (.tmp 20) _ rfl Tryz.underlying65 w.heap.size _ t rfl af.o _ 2 2 _ [x.1+1,x.2] rfl rfl al.o (by have:=ak.o;simp;omega) ad.o.size ?_;intro v2 w2 ag ah)
   have am:=aA ag;have ao:=aA (ad.o.grown ah ad.o.size (fun k e=>(Bn af.o k e).1));clear ag ah;go_roundw
   case rel=>exact⟨i+1,b,by go_num,aA (by rw[aj.o];exact am.o),ao⟩
   case measure=>simp[intOf];omega
  ·obtain rfl:i=k.length:=by omega
   rw[Bk]at *;have ap:Hid (K.Bytes (Au.txt k)):=aA (fun z hz=>by have:=aa.o z hz;omega);have cv:=zbp ab ap.o c1;generalize he:Au.txt k=t at *;have HE:=aA he;clear ab he;go_wp2;go_ret
   exact⟨by rw[HE.o];rfl,HW.o⟩
def bJ (T:TypeId) (w:World) (base N:Nat) (A:Option Addr) (xs:List (Int×Int)):Prop :=
 xs.length≠0->∃(g:Nat) (cur:Array Value),A=some ⟨g,0,none⟩/\base<=g/\g<N/\w.heap[g]?=some (.cells cur T (0,0))/\∀i (h:i<xs.length) j u,(prF xs[i])[j]?=some u->cur[i*2+j]?=some u
theorem bJ.nil (T:TypeId) (w:World) (base N:Nat) (A:Option Addr):bJ T w base N A []:=fun h=>absurd rfl h
theorem bJ.keep {T:TypeId} {xs:List (Int×Int)} (h:bJ T w base N A xs) (hk:∀g cur,g<N->w.heap[g]?=some (.cells cur T (0,0))->w'.heap[g]?=some (.cells cur T (0,0))):bJ T w' base N A xs:=fun hn=>by
 obtain⟨g,cur,e,hb,hN,hh,hc⟩:=h hn;exact⟨g,cur,e,hb,hN,hk g cur hN hh,hc⟩
theorem bJ.keepLo {T:TypeId} {xs:List (Int×Int)} (h:bJ T w base N A xs) (hk:∀g cur,base<=g->g<N->w.heap[g]?=some (.cells cur T (0,0))->w'.heap[g]?=some (.cells cur T (0,0))):bJ T w' base N A xs:=fun hn=>by
 obtain⟨g,cur,e,hb,hN,hh,hc⟩:=h hn;exact⟨g,cur,e,hb,hN,hk g cur hb hN hh,hc⟩
theorem bJ.more {T:TypeId} {xs:List (Int×Int)} (h:bJ T w base N A xs) (hN:N<=N'):bJ T w base N' A xs:=fun hn=>by
 obtain⟨g,cur,e,hb,h1,hh⟩:=h hn;exact⟨g,cur,e,hb,by omega,hh⟩
theorem bJ.less {T:TypeId} {xs:List (Int×Int)} (h:bJ T w base N A xs) (hb:base'<=base):bJ T w base' N A xs:=fun hn=>by
 obtain⟨g,cur,e,h1,hN,hh⟩:=h hn;exact⟨g,cur,e,by omega,hN,hh⟩
theorem bJ.rd {T:TypeId} {xs:List (Int×Int)} (h:bJ T w base N A xs):RdQ 2 prF w N A xs:=fun hn=>by
 obtain⟨g,cur,e,hb,hN,hh,hc⟩:=h hn;refine⟨g,0,e,hN,fun i hi j u hu=>?_⟩;rw[AD w g _ _ _ _ hh,BA];exact hc i hi j u hu
theorem aJ.rowP {T:TypeId} {c:Nat} {xs:List (Int×Int)} (h:aJ T 2 prF w base (.slice A n c) xs):bJ T w base w.heap.size A xs:=fun hn=>by
 rcases h.2 with⟨e,h0⟩|⟨g,cap,cur,e,hb,hg,h1,hm,hs,ht⟩
 ·exact absurd h0 hn
 ·injection e with e1 e2 e3;refine⟨g,cur,e1,hb,(Ad.1 hg).1,hg,fun i hi j u hu=>?_⟩;have hj:j<2:=by rw[<-aG xs[i]];exact(AZ.1 hu).1
  have h2:(cur.toList.take (xs.length*2))[i*2+j]?=(xs.flatMap prF)[i*2+j]?:=by rw[ht]
  rw[CX (by omega),Ek,qat aG xs i j hi hj]at h2;rw[h2];exact hu
abbrev QP:=List (Int×Int)×Option Addr×Nat
abbrev QS:=QP×QP
def qpC (q:QP):Value:=.slice q.2.1 q.1.length q.2.2
def stC (q:QS):List Value:=[qpC q.1,qpC q.2]
theorem zad (q:QS):(stC q).length=2:=rfl
theorem zgS (q:QS):∀u∈stC q,u.oneCell'=true:=fun u hu=>by
 simp[stC]at hu;rcases hu with rfl|rfl <;> rfl
def zjI (q:QS):StT:=(q.1.1,q.2.1)
def ziv (T:TypeId) (w:World) (base N:Nat) (q:QP):Prop:=q.1.length<=q.2.2/\q.2.2<=9223372036854775807/\bJ T w base N q.2.1 q.1
def zjA (w:World) (base N NE:Nat) (q:QS):Prop:=ziv 60 w base N q.1/\ziv 91 w base NE q.2
def zaZ (w:World) (base N NE:Nat) (v:Value) (qs:List QS):Prop:=aJ 56 2 stC w base v qs/\∀q∈qs,zjA w base N NE q
theorem zjS:(Tryz.prog.info? 56).map (fun i=>(i.zero,i.size,i.bytes))=some (some (.agg #[.slice none 0 0,.slice none 0 0]),2,48):=by kernel_rfl
theorem zhS:(Tryz.prog.info? 91).map (fun i=>(i.zero,i.size,i.bytes))=some (some (.agg #[.int .i64 0,.int .i64 0]),2,16):=by kernel_rfl
theorem zjA.keep {q:QS} (h:zjA w base N NE q) (hk:∀g cur T,((T=60/\g<N)\/(T=91/\g<NE))->w.heap[g]?=some (.cells cur T (0,0))->w'.heap[g]?=some (.cells cur T (0,0))):zjA w' base N NE q :=
 ⟨⟨h.1.1,h.1.2.1,h.1.2.2.keep fun g cur hg hc=>hk g cur _ (.inl ⟨rfl,hg⟩) hc⟩,⟨h.2.1,h.2.2.1,h.2.2.2.keep fun g cur hg hc=>hk g cur _ (.inr ⟨rfl,hg⟩) hc⟩⟩
theorem zjA.more {NE':Nat} {q:QS} (h:zjA w base N NE q) (hN:N<=N') (hE:NE<=NE'):zjA w base N' NE' q:=⟨⟨h.1.1,h.1.2.1,h.1.2.2.more hN⟩,⟨h.2.1,h.2.2.1,h.2.2.2.more hE⟩⟩
theorem zaZ.nil (w:World) (base N NE:Nat):zaZ w base N NE (.slice none 0 0) []:=⟨aJ.nil w base,by simp⟩
theorem zaZ.below {qs:List QS} (h:zaZ w base N NE v qs) (hb:Below w.heap.size w w'):zaZ w' base N NE v qs :=
 ⟨h.1.below hb (Af _),fun q hq=>(h.2 q hq).keep fun g _ _ _ hc=>(hb.block g (Ad.1 hc).1).trans hc⟩
theorem zaZ.rd {c:Nat} {qs:List QS} (h:zaZ w base N NE (.slice A n c) qs) (hN:N<=w.heap.size) (hE:NE<=w.heap.size):bW w w.heap.size A (qs.map zjI):=fun hn=>by
 have hn:qs.length≠0:=by simpa using hn
 obtain⟨A',c',e,_,_,ab⟩:=aJ.form h.1 zad;injection e with e1 e2 e3;subst e1;obtain⟨g,o,e,hg,hc⟩:=ab hn;refine⟨g,o,e,hg,fun i hi=>?_⟩;have aa:i<qs.length:=by simpa using hi
 have hq:=h.2 _ (AC aa);rw[Cs];exact⟨⟨_,_,hc i aa 0 _ rfl,hq.1.1,hq.1.2.1,hq.1.2.2.rd.more hN⟩,⟨_,_,hc i aa 1 _ rfl,hq.2.1,hq.2.2.1,hq.2.2.2.rd.more hE⟩⟩
theorem zlI (qs:List QS) (i:Nat) (y:QS) (hy:∀h:i<qs.length,y.1=(qs[i]).1):(qs.flatMap stC).set (i*2+1) (qpC y.2)=(qs.set i y).flatMap stC:=by
 induction qs generalizing i with
 | nil=>simp
 | cons x r ih =>
  cases i with
  | zero =>
   have this:y.1=x.1:=hy (by simp);simp[stC,this]
  | succ i =>
   have ih:=ih i fun h=>hy (Nat.succ_lt_succ h);rw[show(i+1)*2+1=(i*2+1)+1+1 by omega];simp only[Ce,stC,Cn,C7,CJ];rw[ih]
theorem zaZ.set1 {c:Nat} {qs:List QS} (h:zaZ w base N NE (.slice (some ⟨g,0,none⟩) n c) qs) (i:Nat) (y:QS) (hi:i<qs.length) (hy:y.1=(qs[i]).1) (hq:zjA w base N NE y):zaZ (w.setCell ⟨g,i*2+1,none⟩ (qpC y.2)) base N NE (.slice (some ⟨g,0,none⟩) n c) (qs.set i y):=by
 have hk:∀g' cur T,((T=60/\g'<N)\/(T=91/\g'<NE))->w.heap[g']?=some (.cells cur T (0,0))->(w.setCell ⟨g,i*2+1,none⟩ (qpC y.2)).heap[g']?=some (.cells cur T (0,0))   := fun g' cur T hT hc=>by
  refine(AP w ⟨g,i*2+1,none⟩ _ g' (fun e=>?_)).trans hc;have e:g'=g:=e;subst e;rcases h.1.2 with⟨e,_⟩|⟨g2,cap,cur2,e,hb,hg,_⟩
  ·cases e
  ·injection e with e _ _;injection e with e;injection e with e;subst e;rw[hg]at hc;injection hc with hc;injection hc with _ hc _;rcases hT with⟨rfl,_⟩|⟨rfl,_⟩ <;> exact absurd hc (by decide)
 refine⟨?_,fun q aa=>?_⟩
 ·rcases h.1.2 with⟨e,_⟩|⟨g2,cap,cur,e,hb,hg,h1,hm,hs,ht⟩
  ·cases e
  ·injection e with e1 e2 e3;injection e1 with e1;injection e1 with e1;subst e1 e3;have hl:(qs.set i y).length=qs.length:=Cu;unfold aJ;rw[hl];refine⟨by rw[zf1 zad,hl],.inr ⟨g,c,cur.setIfInBounds (i*2+1) (qpC y.2),by rw[e2],hb,AW w g _ _ _ _ hg,h1,hm,by simp[hs],?_⟩⟩;rw[<-zlI qs i y (fun _=>hy),<-ht];simp only[Array.toList_setIfInBounds];rw[List.take_set]
 ·rcases Dv aa with q'|q'
  ·exact(h.2 q q').keep hk
  ·rw[q'];exact hq.keep hk
def zfH (p:Addr) (w:World):Type:={x:World // x.cell? p=w.cell? p}
instance (p:Addr) (w:World):Nonempty (zfH p w):=⟨⟨w,rfl⟩⟩
theorem zaA {o:Oper} {a:Act} {Q:Exit->Act->World->Prop} {K:Act->World->Prop} (m x:Operand) (t:TypeId) (aa:o.op=Op.mapEntry t m x) {mv xv r:Value} (h:(Instr.mapEntry t mv xv).run P w=.ok r w') (hm:a.eval m=mv) (hx:a.eval x=xv) (hK:K (a.put o.dst r) w'):o.wp P a w K Q:=by
 unfold Oper.wp;simp[execOp,aa,hm,hx,h,Result.andThen];exact hK
theorem zbJ {o:Oper} {a:Act} {Q:Exit->Act->World->Prop} {K:Act->World->Prop} (m x v:Operand) (t:TypeId) (aa:o.op=Op.entryStore t m x v) {mv xv vv:Value} (h:(Instr.entryStore t mv xv vv).run P w=.ok () w') (hm:a.eval m=mv) (hx:a.eval x=xv) (hv:a.eval v=vv) (hK:K (a.put o.dst undef) w'):o.wp P a w K Q:=by
 unfold Oper.wp;simp[execOp,aa,hm,hx,hv,h,Result.andThen];exact hK
structure KeepN (R M:Nat) (w w':World):Prop where
 size:w.heap.size<=w'.heap.size
 keep:∀(g:Nat) (o:Obj),w.heap[g]?=some o->g≠R->g≠M->(∀cur fr,o ≠ .cells cur 56 fr)->w'.heap[g]?=some o
section
variable {R M:Nat} {w w' w2:World}
theorem KeepN.refl (R M:Nat) (w:World):KeepN R M w w:=⟨Af _,fun _ _ h _ _ _=>h⟩
theorem KeepN.trans (h:KeepN R M w w') (k:KeepN R M w' w2):KeepN R M w w2:=⟨Am h.size k.size,fun g o h1 h2 h3 h4=>k.keep g o (h.keep g o h1 h2 h3 h4) h2 h3 h4⟩
theorem KeepN.below (h:Below w.heap.size w w'):KeepN R M w w':=⟨h.size,fun g _ h1 _ _ _=>(h.block g (Ad.1 h1).1).trans h1⟩
theorem KeepN.own (h:w.ownsRow base 56 2 v n xs) (hg:w.grownBy w' v.ownBlock):KeepN R M w w':=⟨hg.size,fun _ _ h1 _ _ h4=>aI h hg h1 fun cur=>h4 cur _⟩
theorem KeepN.map (hg:w.grownBy w' (some M)):KeepN R M w w':=⟨hg.size,fun g _ h1 _ h3 _=>(hg.block g (Ad.1 h1).1 (fun e=>by injection e with e;exact h3 e)).trans h1⟩
theorem KeepN.set (i:Nat) (u:Value):KeepN R M w (w.setCell ⟨R,i,none⟩ u):=⟨by simp,fun g _ h1 h2 _ _=>(AP w ⟨R,i,none⟩ u g h2).trans h1⟩
theorem KeepN.setSt (h:w.heap[g]?=some (.cells cs 56 fr)) (u:Value):KeepN R M w (w.setCell ⟨g,i,none⟩ u):=⟨by simp,fun g' _ h1 _ _ h4=>(AP w ⟨g,i,none⟩ u g' (fun e=>by
 have e:g'=g:=e;rw[e,h]at h1;injection h1 with h1;exact h4 _ _ h1.symm)).trans h1⟩
end
def abC (g0 g1 g2 g3 vS:Value) (M:Nat):Array Value:=#[g0,g1,g2,g3,vS,.map (some M)]
def aV (qs:List QS):List (List Au.It):=qs.map fun q=>q.1.1
structure ABd (w:World) (base R M NE:Nat) (g0 g1 g2 g3:Value) (qs:List QS):Prop where
 b:∃vS,w.heap[R]?=some (.cells (abC g0 g1 g2 g3 vS M) 102 (0,0))/\zaZ w base w.heap.size NE vS qs
 m:∃l,Mw.MapSt zeT w M l/\Au.NumOk l (aV qs)
 hR:base<=R
 hM:base<=M
def bF (k:List Au.It) (A:Option Addr) (c:Nat):QS:=((k,A,c),([],none,0))
def ziw (qs:List QS) (k:List Au.It) (A:Option Addr) (c:Nat):List QS:=if Au.fnd (aV qs) k<0 then qs++[bF k A c] else qs
def zi6 (qs:List QS) (k:List Au.It):Int:=if Au.fnd (aV qs) k<0 then(qs.length:Int) else Au.fnd (aV qs) k
section
variable {w w':World} {base R M NE:Nat} {g0 g1 g2 g3:Value} {qs:List QS}
theorem ABd.below (h:ABd w base R M NE g0 g1 g2 g3 qs) (hb:Below w.heap.size w w'):ABd w' base R M NE g0 g1 g2 g3 qs:=by
 obtain⟨⟨vS,h1,h2⟩,⟨l,h3,h4⟩,h5,h6⟩:=h;have h7:=h2.below hb;exact⟨⟨vS,aC hb h1,h7.1,fun q hq=>(h7.2 q hq).more hb.size (Af _)⟩,⟨l,h3.block (hb.block _ h3.lt),h4⟩,h5,h6⟩
theorem ABd.more {NE':Nat} (h:ABd w base R M NE g0 g1 g2 g3 qs) (hE:NE<=NE'):ABd w base R M NE' g0 g1 g2 g3 qs:=by
 obtain⟨⟨vS,h1,h2⟩,h3,h5,h6⟩:=h;exact⟨⟨vS,h1,h2.1,fun q hq=>(h2.2 q hq).more (Af _) hE⟩,h3,h5,h6⟩
theorem ABd.base_le (h:ABd w base R M NE g0 g1 g2 g3 qs):base<=w.heap.size:=by
 obtain⟨⟨vS,h1,_⟩,_,h5,_⟩:=h
 have:=(Ad.1 h1).1
 omega
end
theorem zhQ {R:Nat} (h:KeepN R M w w') (hR:w.heap[R]?=some (.cells cs 102 (0,0))) (hM:∀(cur:Array Value) (T:TypeId),w.heap[M]? ≠ some (.cells cur T (0,0))):∀(g:Nat) (cur:Array Value) (T:TypeId),(T=60\/T=91)->w.heap[g]?=some (.cells cur T (0,0))->w'.heap[g]?=some (.cells cur T (0,0)):=fun g cur T hT hc=>by
 refine h.keep g _ hc (fun e=>?_) (fun e=>hM cur T (by rw[<-e];exact hc)) fun cur' fr e=>?_
 ·rw[e,hR]at hc;injection hc with hc;injection hc with _ hc _;rcases hT with rfl|rfl <;> exact absurd hc (by decide)
 ·injection e with _ e _;rcases hT with rfl|rfl <;> exact absurd e (by decide)
theorem zcw (w:World) (base R M NE:Nat) (g0 g1 g2 g3:Value) (qs:List QS) (k:List Au.It) (A:Option Addr) (c:Nat) (h:ABd w base R M NE g0 g1 g2 g3 qs) (hk:ziv 60 w base w.heap.size (k,A,c)) (hb:∀z∈Au.txt k,0<=z/\z<=255) (hl:k.length<=1000) (hq:qs.length<=100000) :
  Calls Tryz.prog 46 #[.pointer (some ⟨R,0,none⟩),.slice A k.length c] w fun e w'=>e=.returned (.int .i64 (zi6 qs k))/\ABd w' base R M NE g0 g1 g2 g3 (ziw qs k A c)/\Below base w w'/\KeepN R M w w':=by
 have HT:=aA (zfJ k A c w.heap.size w hk.2.2.rd (Af _) hb hl);have m:=aA h.base_le;have HH:=aA h;have HK:=aA hk;have HQ:=aA hq;have aw:Hid (K.Tx (Au.txt k)):=aA ⟨fun z hz=>by have:=hb z hz;omega,by rw[Au.txt_len];omega⟩;by_cases hf:Au.fnd (aV qs) k<0
 focus
  have HF:=aA hf;have HI:Hid (zi6 qs k=(qs.length:Int)):=aA (by unfold zi6;rw[Az hf]);have ax:Hid (ziw qs k A c=qs++[bF k A c]):=aA (by unfold ziw;rw[Az hf])
 rotate_left
 focus
  have HI:Hid (zi6 qs k=Au.fnd (aV qs) k):=aA (by unfold zi6;rw[AG hf]);have ax:Hid (ziw qs k A c=qs):=aA (by unfold ziw;rw[AG hf]);have HF:=aA hf
 rotate_left
 all_goals
  clear h hk hb hl hf hq;rw[HI.o,ax.o]
  go_enter Tryz.func46,Tryz.ntmps46
  go_wp2_with fail
  refine HT.o.mono ?_;rintro _ w1 ⟨rfl,aj⟩;have n:=aA aj;have ay:=aA (HH.o.below aj);obtain⟨⟨vS,h1,h2⟩,⟨l,h3,h4⟩,h5,h6⟩:=ay.o
 focus
  obtain⟨AS,cq,rfl,ba,bb,_⟩:=aJ.form h2.1 zad;have cM:=zkr h1;have cS:=zeY h1;have i:Mw.asc l (Au.txt k)=none:=by rw[h4 k,Az HF.o]
 rotate_left
 focus
  have cM:=zkr h1;have i:Mw.asc l (Au.txt k)=some (.int .i64 (Au.fnd (aV qs) k)):=by rw[h4 k,AG (by have:=HF.o;omega)]
 rotate_left
 all_goals
  have ad:zeT.enc (Au.txt k)=.string (K.str (Au.txt k)):=rfl;have lk:=Mw.run_look (E:=zeT) h3.is zm0 (t:=100) Tryz.underlying100 (z:=.int .i64 0) (by kernel_rfl) (x:=Au.txt k) aw.o true;rw[i,ad]at lk;simp at lk
 focus
  have H1:=aA h1;have bc:=aA h1;have H2:=aA h2;have H3:=aA h3;have H4:=aA h4;have H5:=aA h5;have H6:=aA h6;have am:=aA i;have bp:=aA (fun k (e:(Value.slice AS qs.length cq).ownBlock=some k)=>(Bn h2.1 k e).1);have ao:Hid (M≠R):=aA (fun e=>by rw[<-e]at h1;exact h3.is.not_cells h1);have bq:(qs.length:Int)<=100000:=by have:=HQ.o;omega
  have bd:=(Ad.1 h1).1;have fR:=AH w1 R 4 _ _ h1;clear h1 h2 h3 h4 h5 h6 aj i;generalize K.str (Au.txt k)=str at *;go_upto_region 5 with fail
  have qM:∀y:zfH ⟨R,5,none⟩ w1,y.1.cell? ⟨R,5,none⟩=some (.map (some M)):=fun y=>y.2.trans cM;have p:Hid (∀y:World,y.cell? ⟨R,5,none⟩=w1.cell? ⟨R,5,none⟩->∃z:zfH ⟨R,5,none⟩ w1,y=z.1):=aA (fun y e=>⟨⟨y,e⟩,rfl⟩);have ap:=aA (p.o w1.drew rfl);clear lk fR ba bb;refine CalmN.region_tree (fun x=>∃y:zfH ⟨R,5,none⟩ w1,x=y.1) (.two [0,1,2,3,4,5,6,7,8,9,11,12] 10 (.one [] 13 (.one [] 14 (.one [] 15 (.one [16] 17 (.one [18,19] 20 (.fin [])))))) 13 (.one [] 10 (.one [] 14 (.one [] 15 (.one [16] 17 (.one [18,19] 20 (.fin []))))))) (by kernel_rfl) (by kernel_rfl) (fun _ _ d _ _ h=>by cases d <;> exact h) ap.o ?_;rw[CalmN.wpT];simp only[CalmN.pickOps,Aw,Ah,Aj];repeat (go_big_quiet_step (fail))
  have aq:Hid (Below w1.heap.size w1 w1.drew):=aA (aB (AB _ _) 1);have H1:Hid (w1.drew.heap[R]?=some (.cells (abC g0 g1 g2 g3 (.slice AS qs.length cq) M) 102 (0,0))):=H1;have bf:Hid (aJ 56 2 stC w1.drew base (.slice AS qs.length cq) qs):=aA H2.o.1;have bg:Hid (Mw.MapSt zeT w1.drew M l):=aA (H3.o.block rfl);have c4:w1.drew.cell? ⟨R,4,none⟩=some (.slice AS qs.length cq):=cS;have B:Hid (w1.cell? ⟨R,5,none⟩=some (.map (some M))):=aA cM;have bh:R<w1.drew.heap.size:=bd;clear qM cS cM;generalize w1.drew=wd at *;have r:Hid (Below wd.heap.size wd (wd.alloc (.cells #[.slice A k.length c,.slice none 0 0] 56))):=aA ((AB _ _).alloc (Af _) _);have c4a:=zeY (aC r.o H1.o);have s:=aA (p.o (wd.alloc (.cells #[.slice A k.length c,.slice none 0 0] 56)) ((AD _ R 5 _ _ _ (aC r.o H1.o)).trans B.o.symm));refine Aq ⟨?_,?_⟩
  case' refine_1 =>
   simp only[CalmN.wpT,CalmN.wpSt,CalmN.pickOps,Aw,Ah,Aj];intro KK b;rw[Az (by rfl)];go_wp2_with fail
   refine b _ _ ap.o _ (fun _ h=>h) ap.o ?_;clear b;refine Aq ?_;intro KK b;rw[Az (by rfl)];go_wp2_with fail
   refine b _ _ s.o _ (fun _ h=>h) s.o ?_;clear b;refine Aq ?_
  case' refine_2 =>
   simp only[CalmN.wpT,CalmN.wpSt,CalmN.pickOps,Aw,Ah,Aj];intro KK b;rw[Az (by rfl)];go_wp2_with fail
   refine b _ _ s.o _ (fun _ h=>h) s.o ?_;clear b;refine Aq ?_;intro KK b;rw[Az (by rfl)];go_wp2_with fail
   refine b _ _ s.o _ (fun _ h=>h) s.o ?_;clear b;refine Aq ?_
  all_goals
   intro KK b;rw[Az (by rfl)];have C:=aA (bf.o.alloc (.cells #[.slice A k.length c,.slice none 0 0] 56));have b1:=aC r.o H1.o;obtain⟨es,ck,az,a0⟩:=bg.o;have bM:=aC r.o az;have ae:=AE wd (.cells #[.slice A k.length c,.slice none 0 0] 56);have ac:Hid (Below base w (wd.alloc (.cells #[.slice A k.length c,.slice none 0 0] 56))):=aA (((n.o.mono m.o).trans (aq.o.mono (Am m.o n.o.size))).trans (r.o.mono (Am m.o (Am n.o.size aq.o.size))));clear c4 c4a;refine zj9 (f:=stC) (.tmp 36) (.tmp 39) _ rfl Tryz.underlying49 _ 48 zjS (by decide) (by decide) (by decide) zad zgS base _ qs rfl C.o _ _ (bF k A c) rfl (fun j u hu=>?_) (by have:=HQ.o;omega) (Am m.o ac.o.size) ?_
   ·refine(AD _ wd.heap.size j _ _ _ ae).trans ?_
    match j,hu with
    | 0,hu=>exact hu
    | 1,hu=>exact hu
    | j+2,hu=>simp[stC]at hu
   intro v5 w5 ar D;obtain⟨A5,c5,rfl,_,_,_⟩:=aJ.form ar zad;have r5:=aI C.o D b1 fun cur=>aH (by decide);have m5:=aI C.o D bM fun cur e=>by cases e
   have bi:Hid (Mw.MapSt zeT w5 M l):=aA ⟨es,ck,m5,a0⟩;have a1:=aA (p.o w5 ((AD w5 R 5 _ _ _ r5).trans B.o.symm));have ak:Hid (Below base w w5):=aA (ac.o.grown D (Am m.o ac.o.size) (fun k e=>(Bn C.o k e).1));have bj:Hid (KeepN R M w1 w5):=aA (((KeepN.below aq.o).trans (.below r.o)).trans (.own C.o D));have br:=aA r5;have a2:=aA ar;obtain⟨c0,w6,aa,a3,v⟩:=Mw.run_entry bi.o zm0 Tryz.underlying100 (z:=.int .i64 0) (by kernel_rfl) aw.o am.o;rw[ad]at aa;obtain⟨w7,ab,a4,F⟩:=Mw.run_estore (t:=100) a3 (.int .i64 (qs.length:Int));have r6:=(v.block R (Ad.1 r5).1 (fun e=>by injection e with e;exact ao.o e.symm)).trans r5;have r7:=(F.block R (Ad.1 r6).1 (fun e=>by injection e with e;exact ao.o e.symm)).trans r6;have a5:=aA (p.o w6 ((AD w6 R 5 _ _ _ r6).trans B.o.symm));have a6:=aA (p.o w7 ((AD w7 R 5 _ _ _ r7).trans B.o.symm));have bk:=Am m.o ak.o.size;have bl:Hid (Below base w w7):=aA (zaa (zaa ak.o v H6.o (Am m.o ak.o.size)) F H6.o (Am (Am m.o ak.o.size) v.size));have af:=aA aa;have ag:=aA ab;have c47:=zeY r7;have f47:=AH w7 R 4 _ _ r7;have l47:=(Ad.1 r7).1;obtain⟨es6,z6,ah,_⟩:=a3;have ai:=a4;obtain⟨es7,ck7,au,_⟩:=a4;have o6:=Ba a2.o v (zah a2.o m5 fun cur e=>by cases e);have o7:=Ba o6 F (zah o6 ah fun cur e=>by cases e);have o8:aJ 56 2 stC (w7.setCell ⟨R,4,none⟩ (.slice A5 (qs++[bF k A c]).length c5)) base (.slice A5 (qs++[bF k A c]).length c5) (qs++[bF k A c]):=Ba o7 (aF (AM _ _) 4 _) (zah o7 r7 fun cur=>aH (by decide));have al:Hid (KeepN R M w1 (w7.setCell ⟨R,4,none⟩ (.slice A5 (qs++[bF k A c]).length c5))):=aA (((bj.o.trans (.map v)).trans (.map F)).trans (.set 4 _));have av:=zhQ al.o bc.o (fun cur T=>H3.o.is.not_cells)
   have HP:Hid (ABd (w7.setCell ⟨R,4,none⟩ (.slice A5 (qs++[bF k A c]).length c5)) base R M NE g0 g1 g2 g3 (qs++[bF k A c])):=aA (by
    refine⟨⟨_,AW w7 R 4 _ _ _ r7,o8,fun q hq=>?_⟩,⟨_,ai.block (AP w7 ⟨R,4,none⟩ _ M ao.o),?_⟩,H5.o,H6.o⟩
    ·rcases Bs.1 hq with hq|hq
     ·exact((H2.o.2 q hq).keep fun g cur T hT hc=>av g cur T (hT.imp (·.1) (·.1)) hc).more al.o.size (Af _)
     ·rw[AJ.1 hq];exact⟨⟨HK.o.1,HK.o.2.1,((HK.o.2.2.keep fun g cur hg hc=>(n.o.block g hg).trans hc).keep fun g cur _ hc=>av g cur _ (.inl rfl) hc).more (Am n.o.size al.o.size)⟩,⟨AU _,AU _,bJ.nil _ _ _ _ _⟩⟩
    ·have:=Au.NumOk.snoc H4.o HF.o
     have e1:(aV qs).length=qs.length:=by unfold aV;rw[Bd]
     have e2:aV (qs++[bF k A c])=aV qs++[k]:=by unfold aV;rw[Bf];rfl
     rw[e1]at this;rw[e2];exact this)
   have bm:Hid (Below base w (w7.setCell ⟨R,4,none⟩ (.slice A5 (qs++[bF k A c]).length c5))):=aA (bl.o.setCell H5.o _);have bo:Hid (KeepN R M w (w7.setCell ⟨R,4,none⟩ (.slice A5 (qs++[bF k A c]).length c5))):=aA ((KeepN.below n.o).trans al.o);have a9:=aA (p.o (w7.setCell ⟨R,4,none⟩ (.slice A5 (qs++[bF k A c]).length c5)) ((AD _ R 5 _ _ _ (AW w7 R 4 _ _ _ r7)).trans B.o.symm));clear r5 m5 ar D aa v ab F r6 r7 ah au o6 o7 o8 av b1 bM az a0 ae ai bk;generalize (qs++[bF k A c]).length=ln at *;refine b _ _ a1.o _ (fun _ h=>h) a1.o ?_;clear b;refine Aq ?_;intro KK b;rw[Az (by rfl)];refine zaA _ _ _ rfl af.o rfl rfl ?_;refine b _ _ a5.o _ (fun _ h=>h) a5.o ?_;clear b
   go_frame
   repeat (go_big_quiet_step (fail))
   refine Aq ?_;intro KK b;rw[Az (by rfl)];refine zbJ _ _ _ _ rfl ag.o rfl rfl rfl ?_;refine b _ _ a6.o _ (fun _ h=>h) a6.o ?_;clear b
   go_frame
   repeat (go_big_quiet_step (fail))
   refine Aq ?_;intro KK b;rw[Az (by rfl)];go_wp2_with fail
   refine b _ _ a9.o _ (fun _ h=>h) a9.o ?_;clear b c47 f47 l47;refine Aq ?_;go_wp2;go_ret
   exact⟨rfl,HP.o,bm.o,bo.o⟩
 focus
  clear h1 h2 h3 h4 h5 h6 aj i;generalize K.str (Au.txt k)=str at *;go_wp2;go_ret
  exact⟨rfl,ay.o,n.o.mono m.o,.below n.o⟩
end Go.Proofs.YtcmhaemaophplaaGreat
namespace Go.Proofs.YtcmhaemaophplaaGreat
open Go.RowKit
theorem zkM {y:World} {MM:Lk.MP} (h:Mw.MapIs wkE y M (Lk.encM MM)) (x:Int×Int) (hx:Gm.In x.1/\Gm.In x.2) :
  (Instr.lookup 108 (.map (some M)) (.agg #[.int .i64 x.1,.int .i64 x.2]) false).run Tryz.prog y=.ok (.int .u32 (Lk.gN MM x:Int)) y:=by
 have:=Mw.run_look (E:=wkE) h wkK (t:=108) Tryz.underlying108 (z:=.int .u32 0) (by kernel_rfl) (x:=x) hx false
 rw[Lk.gN_enc]at this;exact this
theorem zno {y:World} {DD:Lk.MP} (h:Mw.MapIs enE y D (Lk.encM DD)) (x:Int×Int) (hx:Gm.In x.1/\Gm.In x.2) :
  (Instr.lookup 67 (.map (some D)) (.agg #[.int .i64 x.1,.int .i64 x.2]) false).run Tryz.prog y=.ok (.int .u32 (Lk.gN DD x:Int)) y:=by
 have:=Mw.run_look (E:=enE) h enK (t:=67) Tryz.underlying67 (z:=.int .u32 0) (by kernel_rfl) (x:=x) hx false
 rw[Lk.gN_enc]at this;exact this
theorem Lk.enc_same (MM:Lk.MP) (x:Int×Int):Mw.asc (Mw.putA (Lk.encM MM) x ((Mw.asc (Lk.encM MM) x).getD (.int .u32 0))) x=some (.int .u32 (Lk.gN MM x:Int)):=by
 rw[Lk.gN_enc,Mw.asc_put,Az rfl]
theorem zcU (w:World) (base R gc T M D:Nat) (g0 g1 g2 g3 tv:Value) (tl:List ((Int×Int)×Value)) (MM DD:Lk.MP) (st:List (Int×Int)) (x:Int×Int) (more:Nat) (h:WkSt w base R gc T M D g0 g1 g2 g3 tv tl MM DD st) (hx:Gm.In x.1/\Gm.In x.2) (hm:more<4294967296) (hM:Lk.gN MM x<4294967296) (ad:st.length<=900000) :
  Calls Tryz.prog 77 #[itV x,.int .u32 (more:Int),.pointer (some ⟨R,0,none⟩),.pointer (some ⟨gc,0,none⟩)] w fun e w'=>e=.returned (.tuple #[])/\WkSt w' base R gc T M D g0 g1 g2 g3 tv tl (vM MM x more) DD (vS MM st x more)/\Below base w w'/\KeepG gc M D w w':=by
 obtain⟨wb,n⟩:∃y,y=w.alloc (.cells #[.int .i64 x.1,.int .i64 x.2] 112):=⟨_,rfl⟩
 have C:Hid (Below w.heap.size w wb):=aA (by rw[n];exact(AB _ _).alloc (Af _) _);have p:wb.heap[w.heap.size]?=some (.cells #[.int .i64 x.1,.int .i64 x.2] 112 (0,0)):=by rw[n];exact AE w _
 have am:=aA p;have HH:=aA (h.below C.o);have q:=aA h.base_le;have bq:=aA h.gcl;have bf:=aA h.m.lt;have br:=aA h.d.lt
 have bs:=aA (show ∀v,w.cell? ⟨gc,0,none⟩=some v->∀k,v.ownBlock=some k->k<w.heap.size from fun v hv k hk=>by
  obtain⟨v',h2,h3⟩:=h.v
  have:=AD w gc 0 _ _ _ h2
  rw[hv]at this;injection this with this;subst this;exact(Bn h3 k hk).2)
 have bu:=aA hx;have a0:Hid (KeepG gc M D w wb):=aA (.below C.o h.gcl);have cM:=zm2 HH.o.r;have x0:=aT p;have x1:=aU p;have lk:=zkM HH.o.m.is x hx;have bv:=u32_andNot_nat more (Lk.gN MM x) hm hM;by_cases hn:Lk.gN MM x ||| more=Lk.gN MM x
 ·have e1:vM MM x more=MM:=by unfold vM;rw[Az hn]
  have e2:vS MM st x more=st:=by unfold vS;rw[Az hn]
  have hz:(((more &&& (4294967295-Lk.gN MM x):Nat):Int) != 0)=false:=by rw[(Gm.new_iff hM hm).2 hn];rfl
  rw[e1,e2];clear e1 e2 hn h hx p hm hM ad;generalize Lk.gN MM x=a at *;generalize more &&& (4294967295-a)=d at *
  go_enter Tryz.func77,Tryz.ntmps77
  go_upto_region 1 with fail
  rw[<-n];clear n;go_wp2;go_end0
  exact⟨rfl,HH.o,C.o.mono q.o,a0.o⟩
 ·have e1:vM MM x more=Lk.orN MM x more:=by unfold vM;rw[AG hn]
  have e2:vS MM st x more=st++[x]:=by unfold vS;rw[AG hn]
  have hz:(((more &&& (4294967295-Lk.gN MM x):Nat):Int) != 0)=true:=by
   have:(more &&& (4294967295-Lk.gN MM x))≠0:=fun e=>hn ((Gm.new_iff hM hm).1 e)
   rw[DZ];omega
  have bw:=DI (Lk.gN MM x) more hM hm;rw[e1,e2];have a1:Hid (Mw.putA (Lk.encM MM) x (.int .u32 ((Lk.gN MM x ||| more:Nat):Int))=Lk.encM (Lk.orN MM x more)):=aA Lk.enc_put;have ao:=aA ad
  have ap:Hid (∀y:World,y.heap[R]?=wb.heap[R]?->y.heap[w.heap.size]?=wb.heap[w.heap.size]?->∃z:OnP [R,w.heap.size] wb,y=z.1):=aA (fun y e1 e2=>⟨⟨y,fun g hg=>by
   rcases Br.1 hg with rfl|hg
   ·exact e1
   ·rw[AJ.1 hg];exact e2⟩,rfl⟩)
  have aj:=HH.o.gcM;have a2:Hid (M≠w.heap.size):=aA (by have:=bf.o;omega);have a3:Hid (R≠M):=aA aj.2.2.2.1;have bg:Hid (gc≠M):=aA aj.1;have bx:Hid (gc≠D):=aA aj.2.1;have a4:Hid (w.heap.size<wb.heap.size):=aA (Ad.1 p).1;have HD:Hid (WkSt wb.drew base R gc T M D g0 g1 g2 g3 tv tl MM DD st):=aA (HH.o.below (aB (AB _ _) 1));have lkd:=zkM HD.o.m.is x hx;obtain⟨u,cc,w6,aa,ae,af,ak⟩:=Mw.run_met HD.o.m wkK Tryz.underlying108 (z:=.int .u32 0) (by kernel_rfl) (x:=x) hx
  have lk6:(Instr.lookup 108 (.map (some M)) (.agg #[.int .i64 x.1,.int .i64 x.2]) false).run Tryz.prog w6=.ok (.int .u32 (Lk.gN MM x:Int)) w6:=by
   have:=Mw.run_look (E:=wkE) af wkK (t:=108) Tryz.underlying108 (z:=.int .u32 0) (by kernel_rfl) (x:=x) hx false
   rw[Lk.enc_same]at this;exact this
  obtain⟨w7,ab,aq,a5⟩:=ae.2 w6 rfl (.int .u32 ((Lk.gN MM x ||| more:Nat):Int));have ag:wkE.enc x=.agg #[.int .i64 x.1,.int .i64 x.2]:=rfl;rw[ag]at aa;rw[a1.o]at aq;have i:=aA (zab ak a5);have H7:=aA (HD.o.mset i.o aq);have r6:=(ak.block R (Ad.1 HD.o.r).1 (fun e=>by injection e with e;exact a3.o e))
  have xb6:=(ak.block w.heap.size (show w.heap.size<wb.drew.heap.size from a4.o) (fun e=>by injection e with e;exact a2.o e.symm))
  have xb7:=(i.o.block w.heap.size (show w.heap.size<wb.drew.heap.size from a4.o) (fun e=>by injection e with e;exact a2.o e.symm))
  have r7:=(i.o.block R (Ad.1 HD.o.r).1 (fun e=>by injection e with e;exact a3.o e))
  have ar:=aA (ap.o wb.drew rfl rfl);have s:=aA (ap.o w6 r6 xb6);have a6:=aA (ap.o w7 r7 xb7);have a9:Hid (w7.heap[w.heap.size]?=some (.cells #[.int .i64 x.1,.int .i64 x.2] 112 (0,0))):=aA (xb7.trans am.o);have ac:=aA aa;have ah:=aA ab;have au:=aA lk6;have av:=aA lkd;have ba:Hid (Below base w w7):=aA (zaa ((C.o.trans (aB (AB _ _) 1)).mono q.o) i.o h.hM (Am q.o C.o.size));have bh:Hid (wb.heap[R]?=some (.cells (wrC g0 g1 g2 g3 tv T M D) 110 (0,0))):=aA HH.o.r;have bi:Hid (base<=gc):=aA h.hg;have bj:Hid (KeepG gc M D w w7):=aA ((a0.o.trans (.below (aB (AB _ _) 1) HH.o.gcl)).trans (.map i.o HD.o.gcl bg.o));clear e1 e2 hn h hx p hm hM ad aj aa ab ae af ak aq a5 r6 r7 xb6 xb7 lk6 lkd ag a1;generalize Lk.gN MM x=a at *;generalize more &&& (4294967295-a)=d at *;generalize bb:wb.drew=wd at *
  go_enter Tryz.func77,Tryz.ntmps77
  go_upto_region 1 with fail
  rw[<-n];clear n;go_upto_region 2 with fail
  have qM:∀y:OnP [R,w.heap.size] wb,y.1.cell? ⟨R,6,none⟩=some (.map (some M)):=fun y=>y.row (by simp) bh.o rfl;have q0:∀y:OnP [R,w.heap.size] wb,y.1.cell? ⟨w.heap.size,0,none⟩=some (.int .i64 x.1):=fun y=>y.row (by simp) am.o rfl;have q1:∀y:OnP [R,w.heap.size] wb,y.1.cell? ⟨w.heap.size,1,none⟩=some (.int .i64 x.2):=fun y=>y.row (by simp) am.o rfl;clear x0 x1 cM lk;have S0:∃y:OnP [R,w.heap.size] wb,wb.drew=y.1:=by rw[bb];exact ar.o
  refine CalmN.region_tree (fun x=>∃y:OnP [R,w.heap.size] wb,x=y.1) (.two [0,1,2,4] 3 (.one [5] 6 (.one [7] 8 (.fin []))) 6 (.one [7] 3 (.one [5] 8 (.fin [])))) (by kernel_rfl) (by kernel_rfl) (fun _ _ d _ _ h=>by cases d <;> exact h) S0 ?_;rw[CalmN.wpT];simp only[CalmN.pickOps,Aw,Ah,Aj];repeat (go_big_quiet_step (fail))
  rw[bb];clear S0;refine Aq ⟨?_,?_⟩
  case' refine_1 =>
   simp only[CalmN.wpT,CalmN.wpSt,CalmN.pickOps,Aw,Ah,Aj];intro KK b;rw[Az (by rfl)];have lkd:=av.o;go_wp2_with fail
   refine b _ _ ar.o _ (fun _ h=>h) ar.o ?_;clear b lkd;repeat (go_big_quiet_step (fail))
   refine Aq ?_;intro KK b;rw[Az (by rfl)];refine zaA _ _ _ rfl ac.o rfl rfl ?_;refine b _ _ s.o _ (fun _ h=>h) s.o ?_;clear b
   go_frame
   repeat (go_big_quiet_step (fail))
   refine Aq ?_
  case' refine_2 =>
   simp only[CalmN.wpT,CalmN.wpSt,CalmN.pickOps,Aw,Ah,Aj];intro KK b;rw[Az (by rfl)];refine zaA _ _ _ rfl ac.o rfl rfl ?_;refine b _ _ s.o _ (fun _ h=>h) s.o ?_;clear b
   go_frame
   repeat (go_big_quiet_step (fail))
   refine Aq ?_;intro KK b;rw[Az (by rfl)];have lk6:=au.o;go_wp2_with fail
   refine b _ _ s.o _ (fun _ h=>h) s.o ?_;clear b lk6;repeat (go_big_quiet_step (fail))
   refine Aq ?_
  all_goals
   intro KK b;rw[Az (by rfl)];refine zbJ _ _ _ _ rfl ah.o rfl rfl rfl ?_;refine b _ _ a6.o _ (fun _ h=>h) a6.o ?_;clear b qM q0 q1
   go_frame
   refine Aq ?_;obtain⟨v,aw,ax⟩:=H7.o.v;obtain⟨A,c,rfl,bk,bl,_⟩:=aJ.form ax aG;have c0:=aT aw;have x0:=aT a9.o;have x1:=aU a9.o;have al:Hid (Below w7.heap.size w7 (w7.alloc (.cells #[.int .i64 x.1,.int .i64 x.2] 112))):=aA ((AB _ _).alloc (Af _) _);have l:=aA (ax.alloc (.cells #[.int .i64 x.1,.int .i64 x.2] 112));have B:=aA (aC al.o aw);have ay:=aA (AE w7 (.cells #[.int .i64 x.1,.int .i64 x.2] 112));have az:Hid (Below base w (w7.alloc (.cells #[.int .i64 x.1,.int .i64 x.2] 112))):=aA (ba.o.trans (al.o.mono (Am q.o ba.o.size)));have bm:Hid (KeepG gc M D w (w7.alloc (.cells #[.int .i64 x.1,.int .i64 x.2] 112))):=aA (bj.o.trans (.below al.o H7.o.gcl));have bo:=aA (H7.o.below al.o);have bp:Hid (bS w7 gc=(Value.slice A st.length c).ownBlock):=aA (zbD c0);clear aw ax bk bl;go_wp2_with (at_builtin;refine zd9 (f:=prF) rfl (.tmp 21) (.tmp 23) _ rfl Tryz.underlying147 _ 16 zmm (by decide) (by decide) (by decide) aG zaG base _ st rfl l.o _ _ x rfl (ziA x _ _ ay.o) (by have:=ao.o;omega) (Am q.o az.o.size) ?_;intro v5 w5 bc bd ai;have j:=aA (B4 bc (B4 bd ai));clear bc bd ai;have c5:=AD w5 gc 0 _ _ _ (aI l.o j.o.2.1 B.o fun cur=>aH (by decide));have f5:=AH w5 gc 0 _ _ (aI l.o j.o.2.1 B.o fun cur=>aH (by decide));have l5:=(Ad.1 (aI l.o j.o.2.1 B.o fun cur=>aH (by decide))).1;obtain⟨A5,c5',rfl,_,_,_⟩:=aJ.form j.o.1 aG;generalize (st++[x]).length=ln at *)
   go_end0
   exact⟨rfl,bo.o.push B.o l.o j.o.1 j.o.2.1,(az.o.grown j.o.2.1 (Am q.o az.o.size) (fun k e=>(Bn l.o k e).1)).setCell bi.o _,bm.o.push (AD _ gc 0 _ _ _ B.o) j.o.2.1 j.o.2.2 (aI l.o j.o.2.1 B.o fun cur=>aH (by decide))⟩
def zi (s:List Nat):List Int:=s.map Int.ofNat
theorem zb3 (s:List Nat):(zi s).length=s.length:=by simp[zi]
theorem zgE (s:List Nat) (i:Nat):(zi s).getD i 0=((s.getD i 0:Nat):Int):=by
 unfold zi;rw[Ap,Ap,BH];cases s[i]? <;> rfl
theorem zln (s:List Nat) (i v:Nat):(zi s).set i (v:Int)=zi (s.set i v):=by unfold zi;rw[Cx];rfl
theorem zeS (n:Nat):zi (List.replicate n 0)=List.replicate n 0:=by simp[zi]
def RdZ (w:World) (B:Nat) (A:Option Addr) (s:List Nat):Prop:=RdU w B A (zi s)
def UBZ (w:World) (g:Nat) (s:List Nat):Prop:=UBU w g (zi s)
theorem UBZ.lt {s:List Nat} (h:UBZ w g s):g<w.heap.size:=UBU.lt h
theorem UBZ.cell {s:List Nat} (h:UBZ w g s) (i:Nat) (hi:i<s.length):w.cell? ⟨g,i,none⟩=some (.int .u32 ((s.getD i 0:Nat):Int)):=by
 have:=UBU.cell h i (by rw[zb3];exact hi)
 rwa [zgE]at this
theorem UBZ.frozen {s:List Nat} (h:UBZ w g s) (i:Nat):w.frozen? ⟨g,i,none⟩=false:=UBU.frozen h i
theorem UBZ.set_ {s:List Nat} (h:UBZ w g s) (i v:Nat):UBZ (w.setCell ⟨g,i,none⟩ (.int .u32 (v:Int))) g (s.set i v):=by
 have:=UBU.set_ h i (v:Int)
 rwa [zln]at this
theorem UBZ.alloc {s:List Nat} (h:UBZ w g s) (o:Obj):UBZ (w.alloc o) g s:=UBU.alloc h o
theorem UBZ.below {s:List Nat} (h:UBZ w g s) (hb:Below B w w') (hg:g<B):UBZ w' g s:=UBU.below h hb hg
theorem UBZ.far {s:List Nat} (h:UBZ w g s) (hp:g≠p.block) (u:Value):UBZ (w.setCell p u) g s:=UBU.far h hp u
theorem UBZ.drewN {s:List Nat} (h:UBZ w g s) (n:Nat):UBZ (w.drewN n) g s:=h
theorem UBZ.rd {s:List Nat} (h:UBZ w g s) (hB:g<B):RdZ w B (some ⟨g,0,none⟩) s:=UBU.rd0 h hB
theorem RdZ.cell {o:Nat} {s:List Nat} (h:RdZ w B (some ⟨g,o,none⟩) s) (i:Nat) (hi:i<s.length):w.cell? ⟨g,o+i,none⟩=some (.int .u32 ((s.getD i 0:Nat):Int)):=by
 have:=RdU.cell h i (by rw[zb3];exact hi)
 rwa [zgE]at this
theorem RdZ.addr {s:List Nat} (h:RdZ w B A s) (h0:s.length≠0):∃g o,A=some ⟨g,o,none⟩/\g<B/\∀i,i<s.length->w.cell? ⟨g,o+i,none⟩=some (.int .u32 ((s.getD i 0:Nat):Int)):=by
 obtain⟨g,o,e,hg,hc⟩:=h (by rw[zb3];exact h0);refine⟨g,o,e,hg,fun i hi=>?_⟩
 have:=hc i (by rw[zb3];exact hi)
 rwa [zgE]at this
theorem RdZ.keep {s:List Nat} (h:RdZ w B A s) (hk:∀g o,g<B->w'.cell? ⟨g,o,none⟩=w.cell? ⟨g,o,none⟩):RdZ w' B A s:=RdU.keep h hk
theorem RdZ.below {s:List Nat} (h:RdZ w B A s) (hb:Below B' w w') (hB:B<=B'):RdZ w' B A s:=RdU.below h hb hB
theorem RdZ.more {s:List Nat} (h:RdZ w B A s) (hB:B<=B'):RdZ w B' A s:=RdU.more h hB
def znF (w:World) (g:Nat):Nat:=match w.heap[g]? with
 | some (.cells cs _ _)=>(cs.toList.map fun v=>match v with | .int _ z=>4294967296-z.toNat|_=>0).sum
 | _=>0
theorem UBZ.cnt {s:List Nat} (h:UBZ w g s):znF w g=Gm.gap s:=by
 unfold znF Gm.gap;rw[show w.heap[g]?=_ from h];clear h;simp only[zi,DU]
 congr 1
def zeO (s:List Nat) (w:World) (e:Ending) (w':World):Prop:=∃g,e=.returned (.slice (some ⟨g,0,none⟩) s.length s.length)/\w.heap.size<=g/\UBZ w' g s/\Below w.heap.size w w'
def zjy (b:Bool) (s:List Nat) (w:World) (e:Ending) (w':World):Prop:=(b=true->zeO s w e w')/\(b=false->e=.returned (.slice none 0 0)/\Below w.heap.size w w')
def zmW (s:List Nat) (w:World) (e:Ending) (w':World):Prop:=∃A c,e=.returned (.slice A s.length c)/\RdZ w' w'.heap.size A s/\Below w.heap.size w w'
theorem zjy.rd {b:Bool} {s:List Nat} {e:Ending} (h:zjy b s w e w'):zmW (if b=true then s else []) w e w':=by
 cases b
 ·obtain⟨h1,h2⟩:=h.2 rfl;exact⟨none,0,h1,RdU.nil _ _ _,h2⟩
 ·obtain⟨g,h1,h2,h3,h4⟩:=h.1 rfl;exact⟨some ⟨g,0,none⟩,s.length,h1,h3.rd h3.lt,h4⟩
theorem zeO.rd {s:List Nat} {e:Ending} (h:zeO s w e w'):zmW s w e w':=by
 obtain⟨g,h1,h2,h3,h4⟩:=h;exact⟨some ⟨g,0,none⟩,s.length,h1,h3.rd h3.lt,h4⟩
theorem zcX (z:Int) (w:World) :
  Calls Tryz.prog 178 #[.int .i64 z] w fun e w'=>e=.returned (.bool (decide (z<0)))/\w'=w:=by
 go_enter Tryz.func178,Tryz.ntmps178
 go_wp2;go_ret
 exact⟨rfl,rfl⟩
theorem zft (z:Int) (hz:-9223372036854775808<=z) (aa:z<=9223372036854775807) (w:World) :
  Calls Tryz.prog 179 #[.int .i64 z] w fun e w'=>e=.returned (.int .i64 (-1-z))/\w'=w:=by
 have hs:IntKind.i64.wrap (-1-z) = -1-z:=B5 _ (by omega);clear hz aa
 go_enter Tryz.func179,Tryz.ntmps179
 go_wp2;go_ret
 exact⟨rfl,rfl⟩
theorem zh5 (n:Int) (w:World) :
  Calls Tryz.prog 180 #[.int .i64 n] w fun e w'=>e=.returned (.int .u32 (S.bit n))/\Below w.heap.size w w':=by
 have H:=aA (show Calls Tryz.prog 190 #[.slice (some ⟨w.heap.size,0,none⟩) 1 1] (w.alloc (.cells #[.int .i64 n] 3)) _ from zkn (some ⟨w.heap.size,0,none⟩) 1 (w.alloc (zbz [n])).heap.size [n] (w.alloc (zbz [n])) (zhD w [n]).1 (by simp));have HB:=aA (zhD w [n]).2;rw[S.of_one]at H
 go_enter Tryz.func180,Tryz.ntmps180
 go_wp2_with fail
 refine H.o.mono ?_;rintro _ w2 ⟨rfl,q,rfl⟩;go_wp2;go_ret
 exact⟨rfl,aB HB.o q⟩
def Gm.bgN (fs:List Nat) (z:Int):Nat:=if 0<=z then 2 ^ z.toNat else fs.getD (-1-z).toNat 0
def Gm.mbN (nu:List Bool) (z:Int):Bool:=decide (z<0)&&nu.getD (-1-z).toNat false
theorem Gm.ofN_cons (nu:List Bool) (fs:List Nat) (rest:Nat) (z:Int) (r:List Int):Gm.ofN nu fs rest (z::r)=Gm.bgN fs z ||| (if Gm.mbN nu z=true then Gm.ofN nu fs rest r else 0):=by
 rw[Gm.ofN];unfold Gm.bgN Gm.mbN;by_cases h:0<=z
 ·rw[Az h,Az h,AO (by omega)];simp
 ·rw[AG h,AG h,AL (by omega)];simp
theorem Gm.bgN_lt {fs:List Nat} (h:Gm.U32 fs) (hz:z<=31):Gm.bgN fs z<4294967296:=by
 unfold Gm.bgN;split
 ·have:=B6 (n:=2) (by decide) (show z.toNat<=31 by omega)
  omega
 ·exact h _
theorem zgt (z:Int) (fs:List Nat) (A A2:Option Addr) (n c c2 B:Nat) (w:World) (hz:Gm.In z) (ab:z<=31) (hs:z<0->-1-z<(fs.length:Int)) (hr:RdZ w B A2 fs) (hB:B<=w.heap.size) :
  Calls Tryz.prog 154 #[.agg #[.slice A n c,.slice A2 fs.length c2],.int .i64 z] w fun e w'=>e=.returned (.int .u32 (Gm.bgN fs z))/\Below w.heap.size w w':=by
 unfold Gm.In at hz;have HI:=aA (fun w=>zcX z w);have HX:=aA (fun w=>zft z hz.1 hz.2 w);have HO:=aA (fun w=>zh5 z w);have HB:=aA (fun o=>(AB w.heap.size w).alloc (Af _) o);by_cases h0:z<0
 ·have hm:=hs h0;have d:Gm.bgN fs z=fs.getD (-1-z).toNat 0:=by unfold Gm.bgN;rw[AG (by omega)]
  obtain⟨m,he⟩:∃m:Nat,-1-z=(m:Int):=⟨(-1-z).toNat,by omega⟩
  rw[d];rw[he]at HX hm ⊢;have ad:m<fs.length:=by omega
  obtain⟨g,o,rfl,af,hc⟩:=hr.addr (by omega);have k0:=hc m ad;have ag:g<w.heap.size:=by omega
  simp only[BP];rw[AL h0]at HI;generalize fs.getD m 0=b at *;clear hz hs hr hc h0 he ab d HO
  go_enter Tryz.func154,Tryz.ntmps154
  go_wp2_with fail
  refine(HI.o _).mono ?_;rintro _ w2 ⟨rfl,aa⟩;subst aa;go_wp2_with fail
  go_quiet ((go_at_call 179;exact Du (HX.o _)))
  go_wp2;go_ret
  exact⟨rfl,aB (HB.o _) _⟩
 ·have d:Gm.bgN fs z=S.bit z:=by unfold Gm.bgN S.bit;rw[Az (by omega),Az (by omega)]
  rw[d];rw[AO h0]at HI;clear hz hs hr h0 HX ab d
  go_enter Tryz.func154,Tryz.ntmps154
  go_wp2_with fail
  refine(HI.o _).mono ?_;rintro _ w2 ⟨rfl,aa⟩;subst aa;go_wp2_with fail
  refine(HO.o _).mono ?_;rintro _ w2 ⟨rfl,ac⟩;have ae:=aA ((HB.o _).trans (ac.mono (by simp)));clear ac;go_wp2;go_ret
  exact⟨rfl,ae.o⟩
theorem zhx (z:Int) (nu:List Bool) (A A2:Option Addr) (n c c2 B:Nat) (w:World) (hz:Gm.In z) (hs:z<0->-1-z<(nu.length:Int)) (hr:RdO w B A nu) (hB:B<=w.heap.size) :
  Calls Tryz.prog 155 #[.agg #[.slice A nu.length c,.slice A2 n c2],.int .i64 z] w fun e w'=>e=.returned (.bool (Gm.mbN nu z))/\Below w.heap.size w w':=by
 unfold Gm.In at hz;have HI:=aA (fun w=>zcX z w);have HX:=aA (fun w=>zft z hz.1 hz.2 w);have HB:=aA (fun o=>(AB w.heap.size w).alloc (Af _) o);by_cases h0:z<0
 ·have hm:=hs h0;have d:Gm.mbN nu z=nu.getD (-1-z).toNat false:=by unfold Gm.mbN;rw[AL h0,Cg]
  obtain⟨m,he⟩:∃m:Nat,-1-z=(m:Int):=⟨(-1-z).toNat,by omega⟩
  rw[d];rw[he]at HX hm ⊢;have aa:m<nu.length:=by omega
  obtain⟨g,o,rfl,ab,hc⟩:=hr (by omega);have k0:=hc m aa;have ac:g<w.heap.size:=by omega
  simp only[BP];rw[AL h0]at HI;generalize nu.getD m false=b at *;clear hz hs hr hc h0 he d
  go_enter Tryz.func155,Tryz.ntmps155
  go_wp2_with fail
  go_quiet (first|(go_at_call 179;exact Du (HX.o _))|(go_at_call 178;exact Du (HI.o _)))
  go_wp2;go_ret
  exact⟨rfl,aB (HB.o _) _⟩
 ·have d:Gm.mbN nu z=false:=by unfold Gm.mbN;rw[AO h0,C5]
  rw[d];rw[AO h0]at HI;clear hz hs hr h0 HX d
  go_enter Tryz.func155,Tryz.ntmps155
  go_wp2_with fail
  go_quiet ((go_at_call 178;exact Du (HI.o _)))
  go_wp2;go_ret
  exact⟨rfl,aB (HB.o _) _⟩
theorem Gm.ofN_step (nu:List Bool) (fs:List Nat) (rest:Nat) (l:List Int) (k:Nat) (hk:k<l.length) (s:Nat):s ||| Gm.ofN nu fs rest (l.drop k)=(s ||| Gm.bgN fs l[k]) ||| (if Gm.mbN nu l[k]=true then Gm.ofN nu fs rest (l.drop (k+1)) else 0):=by
 rw[BG hk,Gm.ofN_cons,Nat.or_assoc]
theorem zhO (l:List Int) (rest:Nat) (nu:List Bool) (fs:List Nat) (A A1 A2:Option Addr) (c c1 c2 B B1 B2:Nat) (w:World) (hr:RdI w B A l) (h1:RdO w B1 A1 nu) (h2:RdZ w B2 A2 fs) (hB:B<=w.heap.size) (ap:B1<=w.heap.size) (aq:B2<=w.heap.size) (ac:∀z∈l,Gm.In z) (ad:∀z∈l,z<=31) (hs:∀z∈l,z<0->-1-z<(fs.length:Int)) (hn:nu.length=fs.length) (hf:Gm.U32 fs) (aa:rest<4294967296) (hl:l.length<=9223372036854775807) :
  Calls Tryz.prog 116 #[.agg #[.slice A1 nu.length c1,.slice A2 fs.length c2],.slice A l.length c,.int .u32 rest] w fun e w'=>e=.returned (.int .u32 (Gm.ofN nu fs rest l))/\Below w.heap.size w w':=by
 have i:=aA ((AB w.heap.size w).alloc (Af _) (.cells #[.slice A1 nu.length c1,.slice A2 fs.length c2] 185));obtain⟨wk,j⟩:∃y,y=w.alloc (.cells #[.slice A1 nu.length c1,.slice A2 fs.length c2] 185):=⟨_,rfl⟩
 have HS:Hid (wk.heap.size=w.heap.size+1):=aA (by rw[j];simp);have hd:w.heap.size<wk.heap.size:=by rw[HS.o];omega
 have HK:=aA (show wk.heap[w.heap.size]?=some (.cells #[.slice A1 nu.length c1,.slice A2 fs.length c2] 185 (0,0)) by rw[j];exact AE w _);rw[<-j]at i;have ar:=aA (hr.below i.o hB);have au:=aA hB;have av:=aA (fun(y:World) (hy:Below wk.heap.size wk y) z (hz:z∈l)=>zgt z fs A1 A2 nu.length c1 c2 B2 y (ac z hz) (ad z hz) (hs z hz) (h2.keep fun g o hg=>((i.o.trans (hy.mono (CN hd))).cell (p:=⟨g,o,none⟩) (by simp only;omega))) (by have:=hy.size;omega));have aw:=aA (fun(y:World) (hy:Below wk.heap.size wk y) z (hz:z∈l)=>zhx z nu A1 A2 fs.length c1 c2 B1 y (ac z hz) (fun h=>by rw[hn];exact hs z hz h) (h1.keep fun g o hg=>((i.o.trans (hy.mono (CN hd))).cell (p:=⟨g,o,none⟩) (by simp only;omega))) (by have:=hy.size;omega));have ax:=aA (fun z hz=>Gm.bgN_lt hf (ad z hz));have ay:=aA aa;have az:=aA (Gm.ofN_step nu fs rest l);have ae:=aA (fun(k:Nat) (hk:k<l.length)=>AC hk);have h0:(l.length:Int)<=9223372036854775807:=by omega
 obtain⟨r,af⟩:∃r,r=Gm.ofN nu fs rest l:=⟨_,rfl⟩
 have a0:=aA af;rw[<-af];clear hr h1 h2 ac ad hs hn hf hB ap aq hl af aa
 go_enter Tryz.func116,Tryz.ntmps116
 go_upto_region 1 with fail
 rw[<-j];clear j;go_wp2;go_loopw [12,7] (fun vi vs wr=>∃(k s:Nat),k<=l.length/\vi=.int .i64 k/\vs=.int .u32 s/\Hid (s<4294967296)/\Hid (r=s ||| Gm.ofN nu fs rest (l.drop k))/\Hid (Below wk.heap.size wk wr)) (fun vi _ _=>l.length-(intOf vi).toNat)
 case atStart=>exact⟨0,0,AU _,rfl,rfl,aA (by decide),aA (by rw[a0.o];simp),aA (AB _ _)⟩
 case round =>
  obtain⟨k,s,hk,rfl,rfl,HL,HE,d⟩:=hrel;have kc:wr.heap[w.heap.size]?=some (.cells #[.slice A1 nu.length c1,.slice A2 fs.length c2] 185 (0,0)):=(d.o.block w.heap.size hd).trans HK.o;have q0:=AD wr _ 0 _ _ _ kc;have q1:=AD wr _ 1 _ _ _ kc;have a2:w.heap.size<wr.heap.size:=Ag hd d.o.size;by_cases f:k<l.length
  ·obtain⟨g,o,rfl,a3,hc⟩:=(ar.o.keep fun g o hg=>(d.o.cell (p:=⟨g,o,none⟩) (by have:=au.o;simp only;omega))) (by omega)
   have k0:=hc k f;rw[L.gd_lt f]at k0;have a1:=aA (fun y hy=>av.o y hy _ (ae.o k f));have ag:=aA (fun y hy=>aw.o y hy _ (ae.o k f));have ab:=aA (HE.o.trans (az.o k f s));have ah:=aA (ax.o _ (ae.o k f));clear hc;generalize l[k]=z at *;have ho:=aA (DI s (Gm.bgN fs z) HL.o ah.o);have ai:=aA (Gm.or32 HL.o ah.o);generalize Gm.bgN fs z=b at *;obtain⟨s2,aj⟩:∃s2,s2=s ||| b:=⟨_,rfl⟩
   rw[<-aj]at ho ai ab;clear aj;cases ak:Gm.mbN nu z
   all_goals
    rw[ak]at ag ab;clear ak;go_wp2_with fail
    refine(a1.o _ d.o).mono ?_;rintro _ w2 ⟨rfl,al⟩;have m:=aA (d.o.trans (al.mono d.o.size));have kc2:=(m.o.block w.heap.size hd).trans HK.o;have p0:=AD w2 _ 0 _ _ _ kc2;have p1:=AD w2 _ 1 _ _ _ kc2;have a4:w.heap.size<w2.heap.size:=Ag hd m.o.size;clear q0 q1 kc k0 al kc2;go_wp2_with fail
    refine(ag.o _ m.o).mono ?_;rintro _ w3 ⟨rfl,am⟩;have ao:=aA (m.o.trans (am.mono m.o.size));clear am;go_wp2_with fail
   focus
    go_ret
    refine⟨aQ ?_,i.o.trans (ao.o.mono (CN hd))⟩;rw[ho.o,ab.o];simp
   focus
    go_roundw
    case rel=>exact⟨k+1,s2,f,by go_num,by rw[ho.o],ai,aA (by rw[ab.o];simp),ao⟩
    case measure=>simp[intOf];omega
  ·obtain rfl:k=l.length:=by omega
   have ho:=aA (DI s rest HL.o ay.o);have HX:Hid (r=s ||| rest):=aA (by rw[HE.o,Et];rfl);go_wp2_with fail
   go_ret
   exact⟨aQ (by rw[ho.o,HX.o]),i.o.trans (d.o.mono (CN hd))⟩
structure GSt (w wr:World) (gk n ck:Nat) (s:List Nat) (b:Bool):Prop where
 u:UBZ wr gk s
 l:s.length=n
 q:wr.heap[w.heap.size]?=some (.cells #[.slice (some ⟨gk,0,none⟩) n ck] 41 (0,0))
 p:wr.heap[w.heap.size+1]?=some (.cells #[.bool b] 4 (0,0))
 g:w.grownBy wr (some gk)
 k:gk<w.heap.size
section
variable {w wr w':World} {gk n ck:Nat} {s:List Nat} {b:Bool}
theorem GSt.below (h:GSt w wr gk n ck s b) (hb:Below wr.heap.size wr w'):GSt w w' gk n ck s b:=⟨h.u.below hb h.u.lt,h.l,aC hb h.q,aC hb h.p,zab h.g (aL hb _),h.k⟩
theorem GSt.alloc (h:GSt w wr gk n ck s b) (o:Obj):GSt w (wr.alloc o) gk n ck s b:=h.below ((AB _ wr).alloc (Af _) o)
theorem GSt.drewN (h:GSt w wr gk n ck s b) (m:Nat):GSt w (wr.drewN m) gk n ck s b:=⟨h.u,h.l,h.q,h.p,zba h.g m,h.k⟩
theorem GSt.hs (h:GSt w wr gk n ck s b):w.heap.size+1<wr.heap.size:=(Ad.1 h.p).1
theorem GSt.grew (h:GSt w wr gk n ck s b) (b':Bool):GSt w (wr.setCell ⟨w.heap.size+1,0,none⟩ (.bool b')) gk n ck s b' :=
 ⟨h.u.far (by have:=h.k;simp only;omega) _,h.l,(AP wr ⟨w.heap.size+1,0,none⟩ _ _ (by simp only;omega)).trans h.q,AW wr _ 0 _ _ _ h.p,⟨h.g.os,h.g.tape,h.g.output,by have:=h.g.size;simpa using this,fun i hi aa=>(AP wr ⟨w.heap.size+1,0,none⟩ _ i (by simp only;omega)).trans (h.g.block i hi aa)⟩,h.k⟩
theorem GSt.put (h:GSt w wr gk n ck s b) (m v:Nat):GSt w (wr.setCell ⟨gk,m,none⟩ (.int .u32 (v:Int))) gk n ck (s.set m v) b :=
 ⟨h.u.set_ m v,by rw[Cu];exact h.l,(AP wr ⟨gk,m,none⟩ _ _ (by have:=h.k;simp only;omega)).trans h.q,(AP wr ⟨gk,m,none⟩ _ _ (by have:=h.k;simp only;omega)).trans h.p,aF h.g m _,h.k⟩
end
def bC (w:World) (g:Nat):Nat:=match w.heap[g]? with
 | some (.cells cs _ _)=>bN (cs.getD 0 undef)
 | _=>0
theorem zmS {b:Bool} {t:TypeId} {f:Nat×Nat} (h:w.heap[g]?=some (.cells #[.bool b] t f)):bC w g=if b=true then 1 else 0:=by
 unfold bC;rw[h];cases b <;> rfl
theorem zjk (w wr:World) (gk n ck:Nat) (s:List Nat) (b:Bool) (m v:Nat) (hm:m<n) (hv:v<4294967296) (hs:Gm.U32 s) (h:GSt w wr gk n ck s b) :
  Calls Tryz.prog 177 #[.int .i64 m,.int .u32 v,.pointer (some ⟨w.heap.size+1,0,none⟩),.pointer (some ⟨w.heap.size,0,none⟩)] wr fun e w'=>e=.returned (.tuple #[])/\GSt w w' gk n ck (Gm.addN s m v) (b||decide (Gm.addN s m v≠s))/\w'.heap.size=wr.heap.size/\∀i,i≠gk->i≠w.heap.size+1->w'.heap[i]?=wr.heap[i]?:=by
 have aa:m<s.length:=by rw[h.l];exact hm
 have HN:=aA (Gm.new_iff (hs m) hv);have HA:=aA (Gm.addN_same (v:=v) aa);have hx:=u32_andNot_nat v (s.getD m 0) hv (hs m);have ho:=DI (s.getD m 0) v (hs m) hv;have HH:=aA h;have c0:=aT h.q;have c1:=aT h.p;have f1:=AH wr _ 0 _ _ h.p;have cm:=h.u.cell m aa;have hd:=h.hs;have ad:=h.u.lt;have ae:(m:Int)<(n:Int):=by omega
 generalize hB:(b||decide (Gm.addN s m v≠s))=b2;have HB:=aA hB;obtain⟨wy,f⟩:∃y,y=wr.setCell ⟨w.heap.size+1,0,none⟩ (.bool b2):=⟨_,rfl⟩
 have hy:GSt w wy gk n ck s b2:=by rw[f];exact h.grew b2
 have HZ:=aA (show GSt w (wy.setCell ⟨gk,m,none⟩ (.int .u32 ((s.getD m 0 ||| v:Nat):Int))) gk n ck (Gm.addN s m v) b2 from hy.put m _);have ab:Hid (wy.heap.size=wr.heap.size):=aA (by rw[f];simp);have ac:Hid (∀i,i≠gk->i≠w.heap.size+1->(wy.setCell ⟨gk,m,none⟩ (.int .u32 ((s.getD m 0 ||| v:Nat):Int))).heap[i]?=wr.heap[i]?):=aA (fun i h1 h2=>by rw[AP _ _ _ _ (by simp only;exact h1),f,AP _ _ _ _ (by simp only;exact h2)]);have e0:=aT hy.q;have em:=hy.u.cell m aa;have fm:=hy.u.frozen m;have af:=hy.hs;have ag:=hy.u.lt;clear hy hB h hs hm aa hv;cases b
 ·rw[EO]at HB
  have ah:(((v &&& (4294967295-s.getD m 0):Nat):Int) != 0)=b2:=by
   have h1:=HN.o;have h2:=HA.o;rw[<-HB.o];by_cases e:v &&& (4294967295-s.getD m 0)=0
   ·rw[e,AO (p:=Gm.addN s m v≠s) (fun hn=>hn (h2.2 (h1.1 e)))];rfl
   ·rw[AL (p:=Gm.addN s m v≠s) (fun he=>e (h1.2 (h2.1 he)))];rw[DZ];omega
  generalize v &&& (4294967295-s.getD m 0)=d at *;generalize s.getD m 0 ||| v=d2 at *;generalize s.getD m 0=d3 at *;clear HN HA HB HH
  go_enter Tryz.func177,Tryz.ntmps177
  go_upto_region 1 with fail
  rw[<-f];clear f c0 c1 f1 cm;go_wp2;go_end0
  exact⟨rfl,HZ.o,by rw[<-ab.o];simp,ac.o⟩
 ·rw[DB]at HB;obtain rfl:=HB.o;generalize s.getD m 0 ||| v=d2 at *;generalize s.getD m 0=d3 at *;clear HN HA HB HH hx
  go_enter Tryz.func177,Tryz.ntmps177
  go_upto_region 1 with fail
  rw[<-f];clear f c0 c1 f1 cm;go_wp2;go_end0
  exact⟨rfl,HZ.o,by rw[<-ab.o];simp,ac.o⟩
theorem Gm.new_or {s s1 s2:List Nat} (h1:Gm.NLe s s1) (h2:Gm.NLe s1 s2):(decide (s1≠s)||decide (s2≠s1))=decide (s2≠s):=by
 by_cases e:s1=s
 ·subst e;simp
 ·rw[AL e,DB]
  symm
  rw[BZ];rintro rfl;exact e (h1.anti h2)
theorem zh4 (fb:Nat) (caps:Array Value) (hE:∀args w,Sem.run Tryz.prog (callFunc fb args) w=.ok (.enter fb args) w) (rs:List Gm.Rl) (AR:Option Addr) (cR ck B gk n:Nat) (w:World) (s0:List Nat) (P:List Nat->Prop) (br:List Nat->Gm.Rl->List Nat) (hR:zec w B AR rs) (hB:B<=w.heap.size) (ak:B<=gk) (hu:UBZ w gk s0) (hn:s0.length=n) (h0:P s0) (hl:rs.length<=1000000) (al:∀s x,Gm.NLe s (br s x)) (hP:∀s x,x∈rs->P s->P (br s x)) (am:∀s,P s->Gm.U32 s) (ao:∀(y:World) (s:List Nat) (b:Bool) (x:Gm.Rl) (A':Option Addr) (c':Nat),GSt w y gk n ck s b->P s->x∈rs->RdI y B A' x.r->x.r.length<=c'->Calls Tryz.prog fb (#[.agg #[.int .i64 x.l,.slice A' x.r.length c',.int .i64 x.p],.func (Fn.func 177) #[] #[.pointer (some ⟨w.heap.size+1,0,none⟩),.pointer (some ⟨w.heap.size,0,none⟩)]]++caps) y fun e w'=>e=.returned (.tuple #[])/\GSt w w' gk n ck (br s x) (b||decide (br s x≠s))/\y.heap.size<=w'.heap.size) :
  Calls Tryz.prog 152 #[.slice (some ⟨gk,0,none⟩) n ck,.slice AR rs.length cR,.func (Fn.func fb) #[] caps] w fun e w'=>e=.returned (.tuple #[])/\∃s,P s/\(∀x∈rs,br s x=s)/\UBZ w' gk s/\s.length=n/\w.grownBy w' (some gk):=by
 have HR:=aA hR;have HB:=aA hB;have HK:=aA ak;have ax:=aA ao;have ap:=aA al;have HP:=aA hP;have ay:=aA am;have az:(rs.length:Int)<=9223372036854775807:=by omega
 have ac:=AE w (.cells #[.slice (some ⟨gk,0,none⟩) n ck] 41);have ad:=hu.alloc (.cells #[.slice (some ⟨gk,0,none⟩) n ck] 41);obtain⟨w1,f⟩:∃y,y=w.alloc (.cells #[.slice (some ⟨gk,0,none⟩) n ck] 41):=⟨_,rfl⟩
 rw[<-f]at ac ad;have a0:w1.heap.size=w.heap.size+1:=by rw[f];simp
 have aq:w.grownBy w1 (some gk):=by rw[f];exact aK (AM _ _) _
 have ae:GSt w (w1.alloc (.cells #[.bool true] 4)) gk n ck s0 true :=
  ⟨ad.alloc _,hn,(Bu _ _ _ (by omega)).trans ac,by rw[<-a0];exact AE w1 _,aK aq _,hu.lt⟩
 obtain⟨w2,af⟩:∃y,y=w1.alloc (.cells #[.bool true] 4):=⟨_,rfl⟩
 rw[<-af]at ae;have a1:=aA ae;have H0:=aA h0;clear hR hB ak hu hn hl ao al hP am ac ad aq ae h0
 go_enter Tryz.func152,Tryz.ntmps152
 go_upto_region 1 with fail
 rw[<-f];clear f;go_upto_region 2 with fail
 rw[<-af];clear af;go_wp2;go_loopw [11] (fun _ wr=>∃(s:List Nat) (b:Bool),Hid (GSt w wr gk n ck s b)/\Hid (P s)/\Hid (b=false->∀x∈rs,br s x=s)) (fun _ wr=>2*znF wr gk+bC wr (w.heap.size+1))
 case atStart=>exact⟨s0,true,a1,H0,aA (fun h=>by cases h)⟩
 case round =>
  obtain⟨s,b,HG,HS,HC⟩:=hrel;obtain⟨wo,a2⟩:∃wo:World,wo=wr:=⟨_,rfl⟩
  subst a2;have c1:=aT HG.o.p;have f1:=AH wo _ 0 _ _ HG.o.p;have hd:=HG.o.hs;cases b
  ·go_wp2;go_end0
   exact⟨rfl,s,HS.o,HC.o (by trivial),HG.o.u,HG.o.l,HG.o.g⟩
  ·clear HC;obtain⟨wf,ag⟩:∃y,y=wo.setCell ⟨w.heap.size+1,0,none⟩ (.bool false):=⟨_,rfl⟩
   have HF:Hid (GSt w wf gk n ck s false):=aA (by rw[ag];exact HG.o.grew false);go_upto_region 5 with fail
   rw[<-ag];clear c1 f1 ag;go_wp2;go_loopw [14] (fun vi wr=>∃(s1:List Nat) (b1:Bool) (i:Nat),i<=rs.length/\vi=.int .i64 i/\Hid (GSt w wr gk n ck s1 b1)/\Hid (P s1)/\Hid (Gm.NLe s s1)/\Hid (b1=decide (s1≠s))/\Hid (s1=(rs.take i).foldl br s)) (fun vi _=>rs.length-(intOf vi).toNat)
   case atStart=>exact⟨s,false,0,AU _,rfl,HF,HS,aA (Gm.NLe.refl _),aA (by simp),aA rfl⟩
   case round =>
    obtain⟨s1,b1,i,hi,rfl,d,aa,ah,ab,ai⟩:=hrel;obtain⟨wi,a3⟩:∃wi:World,wi=wr:=⟨_,rfl⟩
    subst a3;by_cases j:i<rs.length
    ·obtain⟨g,o,rfl,aj,hc⟩:=HR.o (by omega);obtain⟨k0,⟨A',c',k1,ar,_,au⟩,k2⟩:=hc i j;have k0:=(zag d.o.g HB.o HK.o aj).trans k0;have k1:=(zag d.o.g HB.o HK.o aj).trans k1;have k2:=(zag d.o.g HB.o HK.o aj).trans k2;have a4:g<wi.heap.size:=by have:=d.o.g.size;have:=HB.o;omega
     have a5:=aA (fun(o:Obj)=>ax.o (wi.alloc o) s1 b1 rs[i] A' c' (d.o.alloc o) aa.o (AC j) (au.keep fun g o hg=>zag (d.o.alloc _).g HB.o HK.o hg) ar);have av:=aA (ap.o s1 rs[i]);have a6:=aA (HP.o s1 rs[i] (AC j) aa.o);have a9:Hid (rs.take (i+1)=rs.take i++[rs[i]]):=aA (AI j);clear hc au ar;generalize rs[i]=x at *;go_wp2_with fail
     refine(a5.o _).mono ?_;rintro _ w2 ⟨rfl,aw,ba⟩;have bb:=aA aw;clear aw ba k0 k1 k2 a4;go_wp2;go_roundw
     case rel=>exact⟨br s1 x,_,i+1,j,by go_num,bb,a6,aA (ah.o.trans av.o),aA (by rw[ab.o];exact Gm.new_or ah.o av.o),aA (by rw[a9.o,Dt,<-ai.o];rfl)⟩
     case measure=>simp[intOf];omega
    ·obtain rfl:i=rs.length:=by omega
     rw[Bk]at ai;go_wp2;go_roundw
     case rel=>exact⟨s1,b1,d,aa,aA fun e x hx=>by
      have e1:s1=s:=by
       have:=ab.o
       rw[e]at this;exact BQ fun h=>by rw[AL h]at this;cases this
      have h2:=ai.o;rw[e1]at h2 ⊢;exact Gm.fold_rest ap.o rs s h2.symm x hx⟩
     case measure =>
      have q1:=HG.o.u.cnt;have q2:=d.o.u.cnt;have q3:=zmS HG.o.p;have q4:=zmS d.o.p;rw[q1,q2,q3,q4];cases b1
      ·have e1:s1=s:=by
        have:=ab.o
        exact BQ fun h=>by rw[AL h]at this;cases this
       rw[e1];simp
      ·have e1:s1≠s:=Co ab.o.symm
       have:=Gm.gap_lt ah.o (ay.o s1 aa.o) (fun e=>e1 e.symm)
       simp;omega
end Go.Proofs.YtcmhaemaophplaaGreat
namespace Go.Proofs.YtcmhaemaophplaaGreat
open Go.RowKit
def ziy (g h:Nat) (w:World):Type:={x:World // x.heap[g]?=w.heap[g]?/\x.heap[h]?=w.heap[h]?}
instance (g h:Nat) (w:World):Nonempty (ziy g h w):=⟨⟨w,rfl,rfl⟩⟩
structure RlIn (nt nn:Nat) (x:Gm.Rl):Prop where
 i:∀z∈x.r,Gm.In z
 t:∀z∈x.r,z<=31
 n:∀z∈x.r,z<0->-1-z<(nn:Int)
 l0:0<=x.l
 l1:x.l<(nn:Int)
 c:x.r.length<=6
theorem zlC (hf:Gm.Fit G) (b:Gm.Ok G) (hx:x∈G.rs):RlIn G.ts.length G.ns.length x:=by
 have h1:=Gm.rule_in (b.rr x hx);have h2:=(Gm.terms_iff G.ts).1 b.t;exact⟨(hf.r x hx).2.2,fun z hz=>by have:=(h1.2.2.2 z hz).1;omega,fun z hz h=>b.sin x hx z hz h,(b.lin x hx).1,(b.lin x hx).2,h1.1⟩
theorem zga (w y:World) (gk n ck kp nt:Nat) (s:List Nat) (b:Bool) (nu:List Bool) (A1 A':Option Addr) (c1 c' B:Nat) (x:Gm.Rl) (h:GSt w y gk n ck s b) (ag:y.heap[kp]?=some (.cells #[.slice A1 n c1,.slice (some ⟨gk,0,none⟩) n ck] 185 (0,0))) (h1:RdO y y.heap.size A1 nu) (ac:nu.length=n) (ah:kp≠gk) (ai:kp<w.heap.size) (hr:RdI y B A' x.r) (hB:B<=y.heap.size) (hU:Gm.U32 s) (hx:RlIn nt n x) :
  Calls Tryz.prog 153 #[.agg #[.int .i64 x.l,.slice A' x.r.length c',.int .i64 x.p],.func (Fn.func 177) #[] #[.pointer (some ⟨w.heap.size+1,0,none⟩),.pointer (some ⟨w.heap.size,0,none⟩)],.pointer (some ⟨kp,0,none⟩)] y fun e w'=>e=.returned (.tuple #[])/\GSt w w' gk n ck (Gm.firstN1 nu s x) (b||decide (Gm.firstN1 nu s x≠s))/\y.heap.size<=w'.heap.size:=by
 obtain⟨y1,g⟩:∃z,z=y.alloc (.cells #[.int .i64 x.l,.slice A' x.r.length c',.int .i64 x.p] 48):=⟨_,rfl⟩
 have j:Below y.heap.size y y1:=by rw[g];exact(AB _ y).alloc (Af _) _
 have aj:y1.heap.size=y.heap.size+1:=by rw[g];simp
 have q:y1.heap[y.heap.size]?=some (.cells #[.int .i64 x.l,.slice A' x.r.length c',.int .i64 x.p] 48 (0,0)):=by rw[g];exact AE y _
 have aa:=aC j ag;have A:=h.below j;have hl:s.length=n:=h.l;obtain⟨l,r,p⟩:=x;obtain⟨m,rfl⟩:∃m:Nat,l=(m:Int):=⟨l.toNat,by have:=hx.l0;simp only at this;omega⟩
 simp only at hr q ⊢;have ak:m<n:=by have:=hx.l1;simp only at this;omega
 have HE:Hid (Gm.firstN1 nu s ⟨(m:Int),r,p⟩=Gm.addN s m (Gm.ofN nu s 0 r)):=aA (by unfold Gm.firstN1;simp);rw[HE.o];have hv:Gm.ofN nu s 0 r<4294967296:=Gm.U32.ofN hU (by decide) hx.t;have al:=aA (fun(z:World) (hz:Below y1.heap.size y1 z)=>zhO r 0 nu s A' A1 (some ⟨gk,0,none⟩) c' c1 ck B y.heap.size (gk+1) z ((hr.below j hB).below hz (by omega)) ((h1.below j (Af _)).below hz (by omega)) ((A.u.below hz A.u.lt).rd (by omega)) (by have:=hz.size;omega) (by have:=hz.size;omega) (by have:=hz.size;have:=A.u.lt;omega) hx.i hx.t (fun z hz h=>by rw[hl];exact hx.n z hz h) (by rw[ac,hl]) hU (by decide) (by have:=hx.c;simp only at this;omega));rw[ac,hl]at al;have av:=aA (fun(z:World) (hz:Below y1.heap.size y1 z)=>zjk w z gk n ck s b m (Gm.ofN nu s 0 r) ak hv hU (A.below hz));generalize Gm.ofN nu s 0 r=v at *;have C:=aA aj;have am:=aA (B4 ah ai);have HG:=aA (B4 h.k h.hs);have q0:=fun z:ziy y.heap.size kp y1=>AD z.1 _ 0 _ _ _ (z.2.1.trans q);have q1:=fun z:ziy y.heap.size kp y1=>AD z.1 _ 1 _ _ _ (z.2.1.trans q);have q3:=fun z:ziy y.heap.size kp y1=>AD z.1 _ 0 _ _ _ (z.2.2.trans aa);have q4:=fun z:ziy y.heap.size kp y1=>AD z.1 _ 1 _ _ _ (z.2.2.trans aa);have ay:=aA q;have ao:=aA aa;clear hr h1 hx hU hv ak hl j A h ag hB ac aj HE q aa ah ai
 go_enter Tryz.func153,Tryz.ntmps153
 go_upto_region 1 with fail
 rw[<-g];clear g;refine CalmN.region_tree (fun x=>∃z:ziy y.heap.size kp y1,x=z.1) (.one [0,1,2,3,4,5] 6 (.one [] 7 (.fin []))) (by kernel_rfl) (by kernel_rfl) (fun _ _ d _ _ h=>by cases d <;> exact h) ⟨⟨y1.drew,rfl,rfl⟩,rfl⟩ ?_;simp only[CalmN.wpT,CalmN.wpSt,CalmN.pickOps,Aw,Ah,Aj];repeat (go_big_quiet_step (fail))
 refine Aq ?_;have ab:Hid (Below y1.heap.size y1 y1.drew):=aA (aB (AB _ _) 1);obtain⟨yd,ap⟩:∃z,z=y1.drew:=⟨_,rfl⟩
 rw[<-ap]at ab ⊢;clear ap q0 q1 q3 q4;intro KK D;rw[Az (by rfl)];go_wp2_with fail
 refine(al.o _ ab.o).mono ?_;rintro _ w3 ⟨rfl,aq⟩;have f:=aA (ab.o.trans (aq.mono ab.o.size));clear aq;go_wp2_with fail
 have ad:∃z:ziy y.heap.size kp y1,w3=z.1:=⟨⟨w3,f.o.block _ (by have:=C.o;omega),f.o.block _ (Ad.1 ao.o).1⟩,rfl⟩
 refine D _ _ ad _ (fun _ h=>h) ad ?_;clear D ad;refine Aq ?_;intro KK D;rw[Az (by rfl)];go_wp2_with fail
 refine(av.o _ f.o).mono ?_;rintro _ w4 ⟨rfl,ar,au,ae⟩;have aw:=aA ar;have ax:Hid (y.heap.size<=w4.heap.size):=aA (by rw[au];have:=f.o.size;have:=C.o;omega);have af:∃z:ziy y.heap.size kp y1,w4=z.1:=⟨⟨w4,(ae _ (by have:=HG.o;have:=C.o;omega) (by have:=HG.o;have:=C.o;omega)).trans (f.o.block _ (by have:=C.o;omega)),(ae _ am.o.1 (by have:=am.o;omega)).trans (f.o.block _ (Ad.1 ao.o).1)⟩,rfl⟩
 clear ar au ae;go_wp2_with fail
 refine D _ _ af _ (fun _ h=>h) af ?_;clear D af;refine Aq ?_;go_wp2;go_end0
 exact⟨rfl,aw.o,ax.o⟩
end Go.Proofs.YtcmhaemaophplaaGreat
