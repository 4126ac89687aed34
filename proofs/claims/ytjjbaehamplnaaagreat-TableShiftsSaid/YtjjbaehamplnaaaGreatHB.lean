/- Part of the proofs over this program: CfgRef, CalmT, CfgRef2, CfgRef3, MapW, CfgNames, CfgLevels, CfgRules. -/
import Derived.Maps.OwnSet
import Derived.Test.YtjjbaehamplnaaaGreatHA
set_option linter.all false
namespace Go
def Fg:=@Go.RowKit.Below.trans
def Ef:=@Go.RowKit.Below.block
def CW:=@Bool.and_eq_false_iff
def E9:=@List.isEmpty_iff
def Cr:=@decide_eq_true_iff
def CV:=@Option.isSome_iff_exists
def AW:=@List.mem_singleton
def Fa:=@Go.wpOp_step
def Aq:=@List.getElem?_toArray
def Ai:=@List.getElem?_cons_zero
def Am:=@List.getElem?_cons_succ
def Ap:=@Go.wpQuiet_nil
def Eg:=@List.all_eq_false
def Fb:=@Int.not_lt
def EX:=@List.nodup_cons
def Cs:=@Go.MapKept.run_getObj_map
def C8:=@List.mem_of_getElem?
def B8:=@Go.ChangeMaps.heap_setBlock_same
def Cn:=@Go.ChangeMaps.heap_setBlock_other
def CT:=@Go.MapKept.run_setObj_map
def CK:=@Array.toList_push
def Cz:=@List.nodup_append
def DX:=@Array.toList_modify
def Ek:=@Go.ChangeMaps.modify_eq_set
def C3:=@List.ext_getElem?
def Dq:=@List.getElem?_set
def BC:=@List.length_singleton
def Cd:=@List.append_assoc
def ED:=@List.singleton_append
def Fh:=@Go.RowKit.run_makeMap
def DY:=@Go.World.grownBy_alloc
def Eh:=@Go.RowKit.Below.grown
def Bp:=@List.take_length
def D5:=@List.take_zero
def CG:=@List.append_nil
def D4:=@Go.WalkArith.wf_i64
def ER:=@List.any_eq_true
def EF:=@List.any_eq_false
end Go
open Go.RowKit Go.Proofs.Tryz
set_option maxRecDepth 100000
set_option maxHeartbeats 40000000
variable {G:Go.Proofs.YtjjbaehamplnaaaGreat.Gm.Gr} {P:Go.Program} {cs:Array Go.Value} {k:Nat} {ops:Array Go.Oper} {rs:List Go.Proofs.YtjjbaehamplnaaaGreat.Gm.Rl} {ts:List Go.Proofs.YtjjbaehamplnaaaGreat.Gm.Tm} {w w' wr:Go.World}
namespace Go.Proofs.YtjjbaehamplnaaaGreat
def One (w:World) (a:Array Value) (wr:World):Prop:=Below (w.heap.size+1) (w.alloc (.cells a 26)) wr
theorem One.start (w:World) (a:Array Value):One w a (w.alloc (.cells a 26)):=AB _ _
theorem One.size {w wr:World} {a:Array Value} (h:One w a wr):w.heap.size+1<=wr.heap.size:=by have:=Below.size h;simpa using this
theorem One.below {a:Array Value} (h:One w a wr):β w wr:=((AB w.heap.size w).alloc (Af _) _).trans (Below.mono h ω)
theorem One.on {wt:World} {a:Array Value} (h:One w a wr) (k:β wr wt):One w a wt:=Fg h (k.mono h.size)
theorem One.drewN {a:Array Value} (h:One w a wr) (n:Nat):One w a (wr.drewN n):=aB h n
theorem One.alloc {w wr:World} {a:Array Value} (h:One w a wr) (o:Obj):One w a (wr.alloc o):=Below.alloc h h.size o
theorem One.c {a:Array Value} (h:One w a wr) (j:Nat) (u:Value) (hj:a[j]?=some u):wr.cell? ⟨w.heap.size,j,none⟩=some u:=by
 have b0:=(Ef h w.heap.size ω).trans (AI w _);exact(AF wr _ j _ _ _ b0).trans hj
theorem Ic (s:List Int) (hs:K.Tx s) (w:World) :
  Calls prog 108 #[.string (K.str s)] w fun e w'=>e=.returned (.bool (Gm.named s))/\w=w':=by
 have HN:=aA (fun w=>Js s hs.1 w);have HL:=aA (fun w=>Jz s hs.1 w);unfold Gm.named;clear hs;cases q:T.isName s
 ·rw[q]at HN;clear q;generalize T.isLit s=b at *
  go_enter func108,ntmps108
  go_wp2_with fail
  refine(HN.o _).mono ?_;rintro _ _ ⟨rfl,rfl⟩;go_wp2_with fail
  refine(HL.o _).mono ?_;rintro _ _ ⟨rfl,rfl⟩;go_wp2;go_ret
  exact⟨aD σ,rfl⟩
 ·rw[q]at HN;clear q
  go_enter func108,ntmps108
  go_wp2_with fail
  refine(HN.o _).mono ?_;rintro _ _ ⟨rfl,rfl⟩;go_wp2;go_ret
  exact⟨aD σ,rfl⟩
theorem Sv {n:Int} (h:k<ts.length) (z:Int):Gm.nh n (ts.drop k) z=if ts[k].lv≠n then Gm.nh n (ts.drop (k+1)) z else if z≠0/\z≠ts[k].wy then false else Gm.nh n (ts.drop (k+1)) ts[k].wy:=by
 rw[BJ h,Gm.nh]
theorem SF {n:Int} (h:ts.length<=k) (z:Int):Gm.nh n (ts.drop k) z=(z != 0):=by
 rw[Cb h,Gm.nh]
theorem Qx (v:Value) (G:Gm.Gr) (n:Int) (B:Nat) (w:World) (hg:aT w B v G) (hB:B<=w.heap.size) :
  Calls prog 110 #[v,.int .i64 n] w fun e w'=>e=.returned (.bool (Gm.nh n G.ts 0))/\β w w':=by
 obtain⟨AT,cT,AN,cN,AR,cR,rfl,⟨hl,hm⟩,_,_,ht,_,_⟩:=hg;have HT:=aA ht;have ac:=aA (One.start w #[.slice AT G.ts.length cT,.slice AN G.ns.length cN,.slice AR G.rs.length cR,.int .i64 G.st]);clear ht
 go_enter func110,ntmps110
 go_wp2;go_loopw [5,6] (fun vw vi wr=>∃(k:Nat) (z:Int),k<=G.ts.length/\vi=.int .i64 k/\vw=.int .i64 z/\Hid (Gm.nh n G.ts 0=Gm.nh n (G.ts.drop k) z)/\One w #[.slice AT G.ts.length cT,.slice AN G.ns.length cN,.slice AR G.rs.length cR,.int .i64 G.st] wr) (fun _ vi _=>G.ts.length-(intOf vi).toNat)
 case atStart=>exact⟨0,0,Bb _,rfl,rfl,aA rfl,ac.o⟩
 case round =>
  obtain⟨k,z,hk,rfl,rfl,HE,hb⟩:=hrel;have HB:=aA hb;have q0:=hb.c 0 _ rfl;have hz:w.heap.size<wr.heap.size:=hb.size;have b:=hb.below;clear hb;by_cases aa:k<G.ts.length
  ·obtain⟨g,o,rfl,ab,hc⟩:=HT.o ω;have k0:=(b.cell (p:=⟨g,o+k*3,none⟩) (Aj ab hB)).trans (hc k aa).1;have k1:=(b.cell (p:=⟨g,o+k*3+1,none⟩) (Aj ab hB)).trans (hc k aa).2.1;have k2:=(b.cell (p:=⟨g,o+k*3+2,none⟩) (Aj ab hB)).trans (hc k aa).2.2;have af:g<wr.heap.size:=ω
   have HN:=aA (HE.o.trans (Sv aa z));clear hc b;generalize G.ts[k].nm=nm at *;generalize G.ts[k].lv=lv at *;generalize G.ts[k].wy=wy at *;by_cases hx:lv=n
   ·subst hx;have ad:(lv != lv)=false:=σ
    by_cases hy:z=0
    ·have HR:=aA (HN.o.trans ((AJ σ).trans (AJ (by simp[hy]))));subst hy;go_wp2;go_roundw
     case rel=>exact⟨k+1,wy,ω,ν,rfl,HR,HB.o.alloc _⟩
     case measure=>simp[intOf];omega
    ·have ag:(z != 0)=true:=by simpa using hy
     by_cases hq:z=wy
     ·have HR:=aA (HN.o.trans ((AJ σ).trans (AJ (by simp[hq]))));have ae:(z != wy)=false:=by simpa using hq
      clear hq hy;go_wp2;go_roundw
      case rel=>exact⟨k+1,wy,ω,ν,rfl,HR,HB.o.alloc _⟩
      case measure=>simp[intOf];omega
     ·have HR:=aA (HN.o.trans ((AJ σ).trans (Az ⟨hy,hq⟩)));have ae:(z != wy)=true:=by simpa using hq
      clear hq hy;go_wp2;go_ret
      exact⟨aD HR.o.symm,(HB.o.alloc _).below⟩
   ·have HR:=aA (HN.o.trans (Az hx));have ad:(lv != n)=true:=by simpa using hx
    clear hx;go_wp2;go_roundw
    case rel=>exact⟨k+1,z,ω,ν,rfl,HR,HB.o.alloc _⟩
    case measure=>simp[intOf];omega
  ·obtain rfl:k=G.ts.length:=ω
   have HR:=aA (HE.o.trans (SF (Af _) z));clear b;go_wp2;go_ret
   exact⟨aD HR.o.symm,HB.o.below⟩
theorem yB (h:k<ts.length) (hn:Gm.iV ts k ts[k]=false):Gm.gW ts=false:=by
 unfold Gm.gW;rw[CW];exact .inr (AU fun q=>by have:=q k h;rw[hn]at this;cases this)
theorem Pm (h:24<ts.length):Gm.gW ts=false:=by
 unfold Gm.gW;rw[AU ω];rfl
def F2 (ts:List Gm.Tm) (j:Nat):Prop:=∀m,m+1<j->Gm.nh ((m+1:Nat):Int) ts 0=true
def Be (ts:List Gm.Tm) (k:Nat):Prop:=∀i (h:i<ts.length),i<k->Gm.iV ts i ts[i]=true
theorem Be.next (h:Be ts k) (hk:k<ts.length) (hn:Gm.iV ts k ts[k]=true):Be ts (k+1):=fun i hi aa=>by
 rcases BM i k with q|q
 ·exact h i hi q
 ·obtain rfl:i=k:=ω
  exact hn
theorem Be.all (h:Be ts ts.length) (hl:ts.length<=24):Gm.gW ts=true:=by
 unfold Gm.gW;rw[AV hl,AV fun i hi=>h i hi hi];rfl
theorem O7 (v:Value) (G:Gm.Gr) (B:Nat) (w:World) (hg:aT w B v G) (hf:Gm.Fit G) (hB:B<=w.heap.size) :
  Calls prog 74 #[v] w fun e w'=>e=.returned (.bool (Gm.gW G.ts))/\β w w':=by
 have HG:=aA hg;obtain⟨AT,cT,AN,cN,AR,cR,rfl,⟨hl,hm⟩,_,_,ht,_,_⟩:=hg;have HT:=aA ht;have HF:=aA hf;have ad:=aA (One.start w #[.slice AT G.ts.length cT,.slice AN G.ns.length cN,.slice AR G.rs.length cR,.int .i64 G.st]);clear ht hf;by_cases af:24<G.ts.length
 ·rw[Pm af]
  go_enter func74,ntmps74
  go_wp2;go_ret
  exact⟨rfl,ad.o.below⟩
 go_enter func74,ntmps74
 go_wp2;go_loopw [3] (fun vi wr=>∃(k:Nat),k<=G.ts.length/\vi=.int .i64 k/\Be G.ts k/\One w #[.slice AT G.ts.length cT,.slice AN G.ns.length cN,.slice AR G.rs.length cR,.int .i64 G.st] wr) (fun vi _=>G.ts.length-(intOf vi).toNat)
 case atStart=>exact⟨0,Bb _,rfl,fun _ _ h=>by omega,ad.o⟩
 case round =>
  obtain⟨k,hk,rfl,HE,hb⟩:=hrel;have HE:=aA HE;have HB:=aA hb;have q0:=hb.c 0 _ rfl;have q1:=hb.c 1 _ rfl;have q2:=hb.c 2 _ rfl;have q3:=hb.c 3 _ rfl;have hz:w.heap.size<wr.heap.size:=hb.size;have y:=hb.below;clear hb;by_cases hlt:k<G.ts.length
  ·obtain⟨g,o,rfl,aa,hc⟩:=HT.o ω;have k0:=(y.cell (p:=⟨g,o+k*3,none⟩) (Aj aa hB)).trans (hc k hlt).1;have k1:=(y.cell (p:=⟨g,o+k*3+1,none⟩) (Aj aa hB)).trans (hc k hlt).2.1;have k2:=(y.cell (p:=⟨g,o+k*3+2,none⟩) (Aj aa hB)).trans (hc k hlt).2.2;have ak:g<wr.heap.size:=ω
   have z:=HF.o.t _ (AD hlt);have l:=aA (fun x=>Ic _ z.1 x);have r:=aA (fun(x:World) (h:One w #[.slice (some ⟨g,o,none⟩) G.ts.length cT,.slice AN G.ns.length cN,.slice AR G.rs.length cR,.int .i64 G.st] x)=>GQ _ G _ B x (HG.o.below h.below hB) HF.o z.1 (Ah hB h.below.size));have ag:=aA (fun(n:Int) (x:World) (h:One w #[.slice (some ⟨g,o,none⟩) G.ts.length cT,.slice AN G.ns.length cN,.slice AR G.rs.length cR,.int .i64 G.st] x)=>Qx _ G n B x (HG.o.below h.below hB) (Ah hB h.below.size));obtain⟨t,qt⟩:∃t,t=G.ts[k]:=⟨_,rfl⟩
   rw[<-qt]at k0 k1 k2 z l r;have QT:=aA qt.symm;have ae:=z.2.1;unfold Gm.In at ae;clear hc y qt z;unfold Gm.term at r;obtain⟨nm,lv,wy⟩:=t;simp only at k0 k1 k2 l r ae;by_cases c0:Gm.named nm=true
   case neg =>
    have c0':=Dz.2 c0;have HX:Hid (Gm.gW G.ts=false):=aA (yB hlt (by rw[QT.o];unfold Gm.iV;simp[c0']));rw[c0']at l;clear c0 c0';go_wp2_with fail
    refine(l.o _).mono ?_;rintro _ _ ⟨rfl,rfl⟩;go_wp2;go_ret
    exact⟨aD HX.o.symm,(HB.o.alloc _).below⟩
   rw[c0]at l;have C0:=aA c0;clear c0;by_cases c1:Gm.find (Gm.names G.ts) nm=(k:Int)
   case neg =>
    have HX:Hid (Gm.gW G.ts=false):=aA (yB hlt (by rw[QT.o];unfold Gm.iV;simp[c1]));have f1:(Gm.find (Gm.names G.ts) nm != (k:Int))=true:=by simpa using c1
    clear c1;go_wp2_with fail
    refine(l.o _).mono ?_;rintro _ _ ⟨rfl,rfl⟩;go_wp2_with fail
    refine(r.o _ (HB.o.alloc _)).mono ?_;rintro _ w2 ⟨rfl,f⟩;have i:=aA ((HB.o.alloc _).on f);have d:=(f.block wr.heap.size σ).trans (AI wr _);have z2:wr.heap.size<w2.heap.size:=(Ad.1 d).1;have d0:=AF w2 _ 0 _ _ _ d;have d1:=AF w2 _ 1 _ _ _ d;have d2:=AF w2 _ 2 _ _ _ d;have q0':=i.o.c 0 _ rfl;clear f d;go_wp2;go_ret
    exact⟨aD HX.o.symm,i.o.below⟩
   have f1:(Gm.find (Gm.names G.ts) nm != (k:Int))=false:=by simpa using c1
   have C1:=aA c1;clear c1;by_cases c2:0<=lv
   case neg =>
    have HX:Hid (Gm.gW G.ts=false):=aA (yB hlt (by rw[QT.o];unfold Gm.iV;simp[c2]));have f2:=Int.not_le.1 c2;clear c2;go_wp2_with fail
    refine(l.o _).mono ?_;rintro _ _ ⟨rfl,rfl⟩;go_wp2_with fail
    refine(r.o _ (HB.o.alloc _)).mono ?_;rintro _ w2 ⟨rfl,f⟩;have i:=aA ((HB.o.alloc _).on f);have d:=(f.block wr.heap.size σ).trans (AI wr _);have z2:wr.heap.size<w2.heap.size:=(Ad.1 d).1;have d0:=AF w2 _ 0 _ _ _ d;have d1:=AF w2 _ 1 _ _ _ d;have d2:=AF w2 _ 2 _ _ _ d;have q0':=i.o.c 0 _ rfl;clear f d;go_wp2;go_ret
    exact⟨aD HX.o.symm,i.o.below⟩
   by_cases c3:lv<=24
   case neg =>
    have HX:Hid (Gm.gW G.ts=false):=aA (yB hlt (by rw[QT.o];unfold Gm.iV;simp[c3]));have f3:=Int.not_le.1 c3;clear c3;go_wp2_with fail
    refine(l.o _).mono ?_;rintro _ _ ⟨rfl,rfl⟩;go_wp2_with fail
    refine(r.o _ (HB.o.alloc _)).mono ?_;rintro _ w2 ⟨rfl,f⟩;have i:=aA ((HB.o.alloc _).on f);have d:=(f.block wr.heap.size σ).trans (AI wr _);have z2:wr.heap.size<w2.heap.size:=(Ad.1 d).1;have d0:=AF w2 _ 0 _ _ _ d;have d1:=AF w2 _ 1 _ _ _ d;have d2:=AF w2 _ 2 _ _ _ d;have q0':=i.o.c 0 _ rfl;clear f d;go_wp2;go_ret
    exact⟨aD HX.o.symm,i.o.below⟩
   by_cases c4:0<=wy
   case neg =>
    have HX:Hid (Gm.gW G.ts=false):=aA (yB hlt (by rw[QT.o];unfold Gm.iV;simp[c4]));have f4:=Int.not_le.1 c4;clear c4;go_wp2_with fail
    refine(l.o _).mono ?_;rintro _ _ ⟨rfl,rfl⟩;go_wp2_with fail
    refine(r.o _ (HB.o.alloc _)).mono ?_;rintro _ w2 ⟨rfl,f⟩;have i:=aA ((HB.o.alloc _).on f);have d:=(f.block wr.heap.size σ).trans (AI wr _);have z2:wr.heap.size<w2.heap.size:=(Ad.1 d).1;have d0:=AF w2 _ 0 _ _ _ d;have d1:=AF w2 _ 1 _ _ _ d;have d2:=AF w2 _ 2 _ _ _ d;have q0':=i.o.c 0 _ rfl;clear f d;go_wp2;go_ret
    exact⟨aD HX.o.symm,i.o.below⟩
   by_cases c5:wy<=3
   case neg =>
    have HX:Hid (Gm.gW G.ts=false):=aA (yB hlt (by rw[QT.o];unfold Gm.iV;simp[c5]));have f5:=Int.not_le.1 c5;clear c5;go_wp2_with fail
    refine(l.o _).mono ?_;rintro _ _ ⟨rfl,rfl⟩;go_wp2_with fail
    refine(r.o _ (HB.o.alloc _)).mono ?_;rintro _ w2 ⟨rfl,f⟩;have i:=aA ((HB.o.alloc _).on f);have d:=(f.block wr.heap.size σ).trans (AI wr _);have z2:wr.heap.size<w2.heap.size:=(Ad.1 d).1;have d0:=AF w2 _ 0 _ _ _ d;have d1:=AF w2 _ 1 _ _ _ d;have d2:=AF w2 _ 2 _ _ _ d;have q0':=i.o.c 0 _ rfl;clear f d;go_wp2;go_ret
    exact⟨aD HX.o.symm,i.o.below⟩
   by_cases c6:((lv==0)==(wy==0))=true
   case neg =>
    have c6':=Dz.2 c6;have HX:Hid (Gm.gW G.ts=false):=aA (yB hlt (by rw[QT.o];unfold Gm.iV;simp[c6']));obtain⟨b6,e5,e6⟩:∃b:Bool,(lv==0)=b/\(wy==0) = !b:=⟨(lv==0),rfl,by revert c6';cases (lv==0) <;> cases (wy==0) <;> simp⟩
    clear c6 c6';go_wp2_with fail
    refine(l.o _).mono ?_;rintro _ _ ⟨rfl,rfl⟩;go_wp2_with fail
    refine(r.o _ (HB.o.alloc _)).mono ?_;rintro _ w2 ⟨rfl,f⟩;have i:=aA ((HB.o.alloc _).on f);have d:=(f.block wr.heap.size σ).trans (AI wr _);have z2:wr.heap.size<w2.heap.size:=(Ad.1 d).1;have d0:=AF w2 _ 0 _ _ _ d;have d1:=AF w2 _ 1 _ _ _ d;have d2:=AF w2 _ 2 _ _ _ d;have q0':=i.o.c 0 _ rfl;clear f d;go_wp2;go_ret
    exact⟨aD HX.o.symm,i.o.below⟩
   obtain⟨b6,e5,e6⟩:∃b:Bool,(lv==0)=b/\(wy==0)=b:=⟨(lv==0),rfl,by revert c6;cases (lv==0) <;> cases (wy==0) <;> simp⟩
   have C6:=aA c6;clear c6;go_wp2_with fail
   refine(l.o _).mono ?_;rintro _ _ ⟨rfl,rfl⟩;go_wp2_with fail
   refine(r.o _ (HB.o.alloc _)).mono ?_;rintro _ w2 ⟨rfl,f⟩;have i:=aA ((HB.o.alloc _).on f);have d:=(f.block wr.heap.size σ).trans (AI wr _);have z2:wr.heap.size<w2.heap.size:=(Ad.1 d).1;have d0:=AF w2 _ 0 _ _ _ d;have d1:=AF w2 _ 1 _ _ _ d;have d2:=AF w2 _ 2 _ _ _ d;have q0':=i.o.c 0 _ rfl;have s:Hid (w2.heap[wr.heap.size]?=some (.cells #[.string (K.str nm),.int .i64 lv,.int .i64 wy] 85 (0,0))):=aA d;clear f d;go_wp2;obtain⟨wo,ah⟩:∃x:World,x=wr:=⟨_,rfl⟩
   subst ah;go_loopw [5] (fun vn wr=>∃(j:Nat),1<=j/\j<=25/\vn=.int .i64 j/\F2 G.ts j/\One w #[.slice (some ⟨g,o,none⟩) G.ts.length cT,.slice AN G.ns.length cN,.slice AR G.rs.length cR,.int .i64 G.st] wr/\Hid (wr.heap[wo.heap.size]?=some (.cells #[.string (K.str nm),.int .i64 lv,.int .i64 wy] 85 (0,0)))) (fun vn _=>30-(intOf vn).toNat)
   case atStart=>exact⟨1,ω,ω,rfl,fun m h=>by omega,i.o,s⟩
   case round =>
    clear q0 q0' q1 q2 q3 k0 k1 k2 d0 d1 d2 z2 hz s i HB;obtain⟨j,al,am,rfl,HL,hb,s⟩:=hrel;have HL:=aA HL;have HB:=aA hb;have q0:=hb.c 0 _ rfl;have q1:=hb.c 1 _ rfl;have q2:=hb.c 2 _ rfl;have q3:=hb.c 3 _ rfl;have hz:w.heap.size<wr.heap.size:=hb.size;have z2:wo.heap.size<wr.heap.size:=(Ad.1 s.o).1;have d1:=AF wr _ 1 _ _ _ s.o;clear hb;by_cases ao:(j:Int)<=lv
    ·have HC:=aA (ag.o (j:Int) _ HB.o);cases q:Gm.nh (j:Int) G.ts 0
     ·have HX:Hid (Gm.gW G.ts=false):=aA (yB hlt (by
       rw[QT.o];unfold Gm.iV;rw[CW];refine .inr (AU fun ab=>?_)
       have:=ab (j-1) (by simp only;omega)
       rw[show j-1+1=j by omega,q]at this;cases this))
      rw[q]at HC;clear q;go_wp2_with fail
      refine HC.o.mono ?_;rintro _ w3 ⟨rfl,u⟩;have ac:=aA (HB.o.on u);clear u;go_wp2;go_ret
      exact⟨aD HX.o.symm,ac.o.below⟩
     ·rw[q]at HC
      have ai:Hid (F2 G.ts (j+1)):=aA (fun m h=>by
       rcases BM (m+1) j with h1|h1
       ·exact HL.o m h1
       ·obtain rfl:j=m+1:=ω
        exact q)
      clear q;go_wp2_with fail
      refine HC.o.mono ?_;rintro _ w3 ⟨rfl,u⟩;have ac:=aA (HB.o.on u);have aj:Hid (w3.heap[wo.heap.size]?=some (.cells #[.string (K.str nm),.int .i64 lv,.int .i64 wy] 85 (0,0))):=aA ((u.block wo.heap.size z2).trans s.o);clear u;go_wp2;go_roundw
      case rel=>exact⟨j+1,ω,ω,ν,ai.o,ac.o,aj⟩
      case measure=>simp[intOf];omega
    ·have HX:Hid (Be G.ts (k+1)):=aA (HE.o.next hlt (by
      rw[QT.o];unfold Gm.iV;simp only[Bd,Bj,BP];exact⟨⟨⟨⟨⟨⟨⟨C0.o,C1.o⟩,c2⟩,c3⟩,c4⟩,c5⟩,BP.1 C6.o⟩,fun n hn=>HL.o n ω⟩))
     go_wp2;go_roundw
     case rel=>exact⟨k+1,ω,ν,HX.o,HB.o⟩
     case measure=>simp[intOf];omega
  ·obtain rfl:k=G.ts.length:=ω
   have HX:=aA (HE.o.all ω);clear y;go_wp2;go_ret
   exact⟨aD HX.o.symm,HB.o.below⟩
end Go.Proofs.YtjjbaehamplnaaaGreat
namespace Go.Calm
section
variable {P:Program} {ops:Array Oper} {Q:Exit->Act->World->Prop} {md:Region.Mode}
inductive Ph where
 | fin (last:List Nat)
 | one (p:List Nat) (k:Nat) (t:Ph)
 | two (p:List Nat) (k:Nat) (t:Ph) (k2:Nat) (t2:Ph)
def fu (P:Program) (ops:Array Oper) (Q:Exit->Act->World->Prop) (o:Option Oper) (S:World->Prop) (T:(World->Prop)->Act->World->Prop) (a:Act) (w:World):Prop :=
 match o with
 | none=>True
 | some o=>∀K:Act->World->Prop,(∀a2 w2,S w2->∀S':World->Prop,(∀x,S' x->S x)->S' w2->T S' a2 w2->K a2 w2) ->
   if Region.wanted o (yielded ops a.tmps)=true then Oper.wp P o a w K Q else K (a.put o.dst undef) w
def fS (P:Program) (ops:Array Oper) (Q:Exit->Act->World->Prop):Ph->(World->Prop)->Act->World->Prop
 | .fin last,S,a,w=>wpQuiet P ops S (fun a'=>Q .normal a' w) (fo ops last) a
 | .one p k t,S,a,w=>wpQuiet P ops S (fun a'=>fu P ops Q ops[k]? S (fun S' a2 w2=>fS P ops Q t S' a2 w2) a' w) (fo ops p) a
 | .two p k t k2 t2,S,a,w=>wpQuiet P ops S (fun a'=>fu P ops Q ops[k]? S (fun S' a2 w2=>fS P ops Q t S' a2 w2) a' w/\fu P ops Q ops[k2]? S (fun S' a2 w2=>fS P ops Q t2 S' a2 w2) a' w) (fo ops p) a
def tB (md:Region.Mode) (ops:Array Oper):Ph->Array Bool->Nat->Bool
 | .fin last,l,n=>iq md ops last l&&(Region.ready md ops (marked last l)).isEmpty&&(last.length==n)
 | .one p k t,l,n=>iq md ops p l&&(match Region.ready md ops (marked p l) with | [j]=>j==k|_=>false)&&(ops[k]?).isSome&&decide (p.length+1<=n)&&tB md ops t ((marked p l).setIfInBounds k true) (n-(p.length+1))
 | .two p k t k2 t2,l,n=>iq md ops p l&&(match Region.ready md ops (marked p l) with | [j,j2]=>j==k&&j2==k2|_=>false)&&(ops[k]?).isSome&&(ops[k2]?).isSome&&decide (p.length+1<=n)&&tB md ops t ((marked p l).setIfInBounds k true) (n-(p.length+1))&&tB md ops t2 ((marked p l).setIfInBounds k2 true) (n-(p.length+1))
theorem quiet_mono {S:World->Prop} {Q1 Q2:Act->Prop} (h:∀a,Q1 a->Q2 a):∀ {l:List Oper} {a:Act},wpQuiet P ops S Q1 l a->wpQuiet P ops S Q2 l a
 | [],_,k=>h _ k
 | o::r,a,k=>by
  unfold wpQuiet at k ⊢;split
  ·rename_i hw;rw[Az hw]at k;obtain⟨v,h1,h2⟩:=k;exact⟨v,h1,quiet_mono h h2⟩
  ·rename_i hw;rw[AJ hw]at k;exact quiet_mono h k
theorem gK (hs:Region.noSelect ops=true) (hQ:∀c a d v w,Q (.panic c) (a.put d v) w->Q (.panic c) a w) :
  ∀(t:Ph) (S:World->Prop) (listed:Array Bool) (a:Act) (w:World) (n:Nat),tB md ops t listed n=true->S w->fS P ops Q t S a w->wpAnyH P md ops Q S n listed a w
 | .fin last,S,listed,a,w,n,hb,hS,h=>by
  unfold tB at hb;simp only[Bd,E9,BP]at hb;obtain⟨⟨h1,h2⟩,rfl⟩:=hb;have e:last.length=last.length+0:=rfl;rw[e];refine fJ hs hQ hS 0 last listed a h1 ?_;exact quiet_mono (fun a' hq=>wpAnyH_done h2 hq 0) h
 | .one p k t,S,listed,a,w,n,hb,hS,h=>by
  unfold tB at hb;simp only[Bd,Cr]at hb;obtain⟨⟨⟨⟨h1,h2⟩,h3⟩,h5⟩,h4⟩:=hb;obtain⟨o,ho⟩:=CV.1 h3
  have aa:Region.ready md ops (marked p listed)=[k]:=by
   split at h2
   ·rename_i j hj;rw[hj];rw[BP]at h2;rw[h2]
   ·cases h2
  obtain⟨m,rfl⟩:∃m,n=p.length+(m+1):=⟨n-(p.length+1),ω⟩
  rw[show p.length+(m+1)-(p.length+1)=m by omega]at h4;refine fJ hs hQ hS _ p listed a h1 ?_;unfold fS at h;refine quiet_mono (fun a' hq=>?_) h;refine wpAnyH_all aa σ fun i hi=>?_;rw[AW]at hi;subst hi;refine Fa ho fun K' hK=>?_;rw[ho]at hq;refine hq K' fun a2 w2 h6 S' b f h7=>hK _ _ ⟨h6,?_⟩;exact gV b _ _ _ _ (gK hs hQ t S' _ a2 w2 _ h4 f h7)
 | .two p k t k2 t2,S,listed,a,w,n,hb,hS,h=>by
  unfold tB at hb;simp only[Bd,Cr]at hb;obtain⟨⟨⟨⟨⟨⟨h1,h2⟩,h3⟩,ad⟩,h5⟩,h4⟩,ab⟩:=hb;obtain⟨o,ho⟩:=CV.1 h3;obtain⟨o2,ac⟩:=CV.1 ad
  have aa:Region.ready md ops (marked p listed)=[k,k2]:=by
   split at h2
   ·rename_i j j2 hj;rw[hj];simp only[Bd,BP]at h2;rw[h2.1,h2.2]
   ·cases h2
  obtain⟨m,rfl⟩:∃m,n=p.length+(m+1):=⟨n-(p.length+1),ω⟩
  rw[show p.length+(m+1)-(p.length+1)=m by omega]at h4 ab;refine fJ hs hQ hS _ p listed a h1 ?_;unfold fS at h;refine quiet_mono (fun a' hq=>?_) h;refine wpAnyH_all aa σ fun i hi=>?_;rw[ho,ac]at hq;rcases BB.1 hi with rfl|hi
  ·refine Fa ho fun K' hK=>?_;refine hq.1 K' fun a2 w2 h6 S' b f h7=>hK _ _ ⟨h6,?_⟩;exact gV b _ _ _ _ (gK hs hQ t S' _ a2 w2 _ h4 f h7)
  ·rw[AW]at hi;subst hi;refine Fa ac fun K' hK=>?_;refine hq.2 K' fun a2 w2 h6 S' b f h7=>hK _ _ ⟨h6,?_⟩;exact gV b _ _ _ _ (gK hs hQ t2 S' _ a2 w2 _ ab f h7)
theorem fk {id:Nat} {a:Act} {l:List Oper} (S:World->Prop) (t:Ph) (hS:S w.drew) (h:fS P l.toArray Q t S a w.drew) (hm:P.follows .mixedOrders=true:=by kernel_rfl) (hB:(Region.noSelect l.toArray&&tB .any l.toArray t (Array.replicate l.toArray.size false) l.toArray.size)=true:=by kernel_rfl) (hQ:∀c a d v w,Q (.panic c) (a.put d v) w->Q (.panic c) a w:=by intro _ _ d _ _ h;cases d<;>exact h):(Code.region id l.toArray true).wp P Q a w:=by
 simp only[Bd]at hB;refine wp_region_held (S:=S) hm ?_;exact gK hB.1 hQ t S _ a w.drew _ hB.2 hS h
end
def wJ (R:Nat) (w:World):Type:={x:World // w.grownBy x (some R)}
instance (R:Nat) (w:World):Nonempty (wJ R w):=⟨⟨w,AO _ _⟩⟩
def kC (g:Nat) (w:World):Type:={x:World // x.heap[g]?=w.heap[g]?}
instance (g:Nat) (w:World):Nonempty (kC g w):=⟨⟨w,rfl⟩⟩
end Go.Calm
namespace Go.Proofs.YtjjbaehamplnaaaGreat
theorem IC {c:Bool} {a b:Prop} (h:c=false):(if c=true then a else b)=b:=by rw[h];rfl
theorem JM (h:k<G.ns.length) (hn:Gm.nr G k G.ns[k]=false):Gm.jT G=false:=by
 unfold Gm.jT;rw[CW];exact .inr (AU fun q=>by have:=q k h;rw[hn]at this;cases this)
def Fj (G:Gm.Gr) (k:Nat):Prop:=∀i (h:i<G.ns.length),i<k->Gm.nr G i G.ns[i]=true
theorem Fj.next (h:Fj G k) (hk:k<G.ns.length) (hn:Gm.nr G k G.ns[k]=true):Fj G (k+1):=fun i hi aa=>by
 rcases BM i k with q|q
 ·exact h i hi q
 ·obtain rfl:i=k:=ω
  exact hn
theorem Fj.all (h:Fj G G.ns.length) (h1:1<=G.ns.length) (hl:G.ns.length<=16):Gm.jT G=true:=by
 unfold Gm.jT;rw[AV h1,AV hl,AV fun i hi=>h i hi hi];rfl
theorem QK (v:Value) (G:Gm.Gr) (B:Nat) (w:World) (hg:aT w B v G) (hf:Gm.Fit G) (hB:B<=w.heap.size) :
  Calls prog 75 #[v] w fun e w'=>e=.returned (.bool (Gm.jT G))/\β w w':=by
 have HG:=aA hg;obtain⟨AT,cT,AN,cN,AR,cR,rfl,_,⟨hl,hm⟩,_,_,ht,_⟩:=hg;have HT:=aA ht;have HF:=aA hf;have aa:=aA (One.start w #[.slice AT G.ts.length cT,.slice AN G.ns.length cN,.slice AR G.rs.length cR,.int .i64 G.st]);clear ht hf;by_cases h1:G.ns.length<1
 ·have HX:Hid (Gm.jT G=false):=aA (by unfold Gm.jT;rw[AU ω];rfl);rw[HX.o]
  go_enter func75,ntmps75
  go_wp2;go_ret
  exact⟨rfl,aa.o.below⟩
 by_cases ae:16<G.ns.length
 ·have HX:Hid (Gm.jT G=false):=aA (by unfold Gm.jT;rw[AU (show ¬G.ns.length<=16 by omega)];simp);rw[HX.o]
  go_enter func75,ntmps75
  go_wp2;go_ret
  exact⟨rfl,aa.o.below⟩
 go_enter func75,ntmps75
 go_wp2;go_loopw [3] (fun vi wr=>∃(k:Nat),k<=G.ns.length/\vi=.int .i64 k/\Fj G k/\One w #[.slice AT G.ts.length cT,.slice AN G.ns.length cN,.slice AR G.rs.length cR,.int .i64 G.st] wr) (fun vi _=>G.ns.length-(intOf vi).toNat)
 case atStart=>exact⟨0,Bb _,rfl,fun _ _ h=>by omega,aa.o⟩
 case round =>
  obtain⟨k,hk,rfl,HE,hb⟩:=hrel;have HE:=aA HE;have HB:=aA hb;have q1:=hb.c 1 _ rfl;have hz:w.heap.size<wr.heap.size:=hb.size;have ab:=hb.below;by_cases hlt:k<G.ns.length
  ·obtain⟨g,o,rfl,ac,hc⟩:=HT.o ω;have k0:=(ab.cell (p:=⟨g,o+k,none⟩) (Aj ac hB)).trans (hc k hlt);have ad:g<wr.heap.size:=ω
   have A:=HF.o.n _ (AD hlt);have l:=aA (fun x=>Js _ A.1 x);have u:=aA (fun(x:World) (h:One w #[.slice AT G.ts.length cT,.slice (some ⟨g,o,none⟩) G.ns.length cN,.slice AR G.rs.length cR,.int .i64 G.st] x)=>GQ _ G _ B x (HG.o.below h.below hB) HF.o A (Ah hB h.below.size));have z:=aA (fun(x:World) (h:One w #[.slice AT G.ts.length cT,.slice (some ⟨g,o,none⟩) G.ns.length cN,.slice AR G.rs.length cR,.int .i64 G.st] x)=>LF _ G _ B x (HG.o.below h.below hB) HF.o A (Ah hB h.below.size));obtain⟨s,qs⟩:∃t,t=G.ns[k]:=⟨_,rfl⟩
   rw[<-qs]at k0 A l u z;have QS:=aA qs.symm;have kk0:(0:Int)<=(k:Int):=ω
   have kk1:(k:Int)<(G.ns.length:Int):=ω
   have q0:=hb.c 0 _ rfl;have q2:=hb.c 2 _ rfl;have q3:=hb.c 3 _ rfl;have f:=aA (aB (AB wr.heap.size wr) 1);have A0:=fun y:Calm.On wr.heap.size wr=>(y.2.cell (p:=⟨g,o+k,none⟩) ad).trans k0;have Q0:=fun y:Calm.On wr.heap.size wr=>(y.2.cell (p:=⟨w.heap.size,0,none⟩) hz).trans q0;have Q1:=fun y:Calm.On wr.heap.size wr=>(y.2.cell (p:=⟨w.heap.size,1,none⟩) hz).trans q1;have Q2:=fun y:Calm.On wr.heap.size wr=>(y.2.cell (p:=⟨w.heap.size,2,none⟩) hz).trans q2;have Q3:=fun y:Calm.On wr.heap.size wr=>(y.2.cell (p:=⟨w.heap.size,3,none⟩) hz).trans q3;clear hc ab qs A hb q0 q2 q3;unfold Gm.term at u;unfold Gm.zk at z;by_cases c0:T.isName s=true
   case neg =>
    have HX:Hid (Gm.jT G=false):=aA (JM hlt (by rw[QS.o];unfold Gm.nr;simp[Dz.2 c0]));rw[Dz.2 c0]at l;clear c0 z u;go_wp2_with fail
    refine Calm.fk (fun x=>∃y:Calm.On wr.heap.size wr,x=y.1) (.one [0,1,2,3,4] 5 (.one [6,7,8,9,10,11,12,13,15] 14 (.one [16,17,18,19,20,21,22,23,24] 25 (.fin [26,27])))) ⟨⟨wr.drew,aB (AB _ _) 1⟩,rfl⟩ ?_;clear q1 k0;simp only[Calm.fS,Calm.fu,Calm.fo,Aq,Ai,Am];repeat (go_big_quiet_step (fail))
    refine Ap ?_;intro KK b;rw[Az ε];go_wp2_with fail
    refine(l.o _).mono ?_;rintro _ _ ⟨rfl,rfl⟩;go_wp2_with fail
    refine b _ _ ⟨⟨_,f.o⟩,rfl⟩ _ ι ⟨⟨_,f.o⟩,rfl⟩ ?_;repeat (go_big_quiet_step (fail))
    refine Ap ?_;intro KK b;rw[IC ε];refine b _ _ ⟨⟨_,f.o⟩,rfl⟩ _ ι ⟨⟨_,f.o⟩,rfl⟩ ?_
    go_frame
    repeat (go_big_quiet_step (fail))
    refine Ap ?_;intro KK b;rw[IC ε];refine b _ _ ⟨⟨_,f.o⟩,rfl⟩ _ ι ⟨⟨_,f.o⟩,rfl⟩ ?_
    go_frame
    repeat (go_big_quiet_step (fail))
    refine Ap ?_;clear b A0 Q0;have m:=aA (HB.o.on f.o);go_wp2;go_ret
    exact⟨aD HX.o.symm,m.o.below⟩
   rw[c0]at l;by_cases c1:Gm.find G.ns s=(k:Int)
   case neg =>
    have HX:Hid (Gm.jT G=false):=aA (JM hlt (by rw[QS.o];unfold Gm.nr Gm.zk;simp[c1]));have f1:(Gm.find G.ns s != (k:Int))=true:=by simpa using c1
    clear c0 c1 u;go_wp2_with fail
    refine Calm.fk (fun x=>∃y:Calm.On wr.heap.size wr,x=y.1) (.one [0,1,2,3,4] 5 (.one [6,7,8,9,10,11,12,13,15] 14 (.one [16,17,18,19,20,21,22,23,24] 25 (.fin [26,27])))) ⟨⟨wr.drew,aB (AB _ _) 1⟩,rfl⟩ ?_;clear q1 k0;simp only[Calm.fS,Calm.fu,Calm.fo,Aq,Ai,Am];repeat (go_big_quiet_step (fail))
    refine Ap ?_;intro KK b;rw[Az ε];go_wp2_with fail
    refine(l.o _).mono ?_;rintro _ _ ⟨rfl,rfl⟩;go_wp2_with fail
    refine b _ _ ⟨⟨_,f.o⟩,rfl⟩ _ ι ⟨⟨_,f.o⟩,rfl⟩ ?_;repeat (go_big_quiet_step (fail))
    refine Ap ?_;intro KK b;rw[Az ε];go_wp2_with fail
    refine(z.o _ (HB.o.on f.o)).mono ?_;rintro _ w2 ⟨rfl,j⟩;have i:=aA (f.o.trans (j.mono f.o.size));clear j;go_wp2_with fail
    refine b _ _ ⟨⟨_,i.o⟩,rfl⟩ _ ι ⟨⟨_,i.o⟩,rfl⟩ ?_;repeat (go_big_quiet_step (fail))
    refine Ap ?_;intro KK b;rw[IC ε];refine b _ _ ⟨⟨_,i.o⟩,rfl⟩ _ ι ⟨⟨_,i.o⟩,rfl⟩ ?_
    go_frame
    repeat (go_big_quiet_step (fail))
    refine Ap ?_;clear b A0 Q0;have m:=aA (HB.o.on i.o);go_wp2;go_ret
    exact⟨aD HX.o.symm,m.o.below⟩
   have f1:(Gm.find G.ns s != (k:Int))=false:=by simpa using c1
   by_cases c2:Gm.find (Gm.names G.ts) s<0
   case neg =>
    have HX:Hid (Gm.jT G=false):=aA (JM hlt (by rw[QS.o];unfold Gm.nr Gm.term;rw[AU c2];simp));have f2:decide (0<=Gm.find (Gm.names G.ts) s)=true:=by simp;omega
    clear c0 c1 c2;go_wp2_with fail
    refine Calm.fk (fun x=>∃y:Calm.On wr.heap.size wr,x=y.1) (.one [0,1,2,3,4] 5 (.one [6,7,8,9,10,11,12,13,15] 14 (.one [16,17,18,19,20,21,22,23,24] 25 (.fin [26,27])))) ⟨⟨wr.drew,aB (AB _ _) 1⟩,rfl⟩ ?_;clear q1 k0;simp only[Calm.fS,Calm.fu,Calm.fo,Aq,Ai,Am];repeat (go_big_quiet_step (fail))
    refine Ap ?_;intro KK b;rw[Az ε];go_wp2_with fail
    refine(l.o _).mono ?_;rintro _ _ ⟨rfl,rfl⟩;go_wp2_with fail
    refine b _ _ ⟨⟨_,f.o⟩,rfl⟩ _ ι ⟨⟨_,f.o⟩,rfl⟩ ?_;repeat (go_big_quiet_step (fail))
    refine Ap ?_;intro KK b;rw[Az ε];go_wp2_with fail
    refine(z.o _ (HB.o.on f.o)).mono ?_;rintro _ w2 ⟨rfl,j⟩;have i:=aA (f.o.trans (j.mono f.o.size));clear j;go_wp2_with fail
    refine b _ _ ⟨⟨_,i.o⟩,rfl⟩ _ ι ⟨⟨_,i.o⟩,rfl⟩ ?_;repeat (go_big_quiet_step (fail))
    refine Ap ?_;intro KK b;rw[Az ε];go_wp2_with fail
    refine(u.o _ (HB.o.on i.o)).mono ?_;rintro _ w3 ⟨rfl,C⟩;have r:=aA (i.o.trans (C.mono i.o.size));clear C;go_wp2_with fail
    refine b _ _ ⟨⟨_,r.o⟩,rfl⟩ _ ι ⟨⟨_,r.o⟩,rfl⟩ ?_;repeat (go_big_quiet_step (fail))
    refine Ap ?_;clear b A0 Q0;have m:=aA (HB.o.on r.o);go_wp2;go_ret
    exact⟨aD HX.o.symm,m.o.below⟩
   have HX:Hid (Fj G (k+1)):=aA (HE.o.next hlt (by rw[QS.o];unfold Gm.nr Gm.zk Gm.term;rw[c0,AV c2,c1];simp));have f2:decide (0<=Gm.find (Gm.names G.ts) s)=false:=by simp;omega
   clear c0 c1 c2;go_wp2_with fail
   refine Calm.fk (fun x=>∃y:Calm.On wr.heap.size wr,x=y.1) (.one [0,1,2,3,4] 5 (.one [6,7,8,9,10,11,12,13,15] 14 (.one [16,17,18,19,20,21,22,23,24] 25 (.fin [26,27])))) ⟨⟨wr.drew,aB (AB _ _) 1⟩,rfl⟩ ?_;clear q1 k0;simp only[Calm.fS,Calm.fu,Calm.fo,Aq,Ai,Am];repeat (go_big_quiet_step (fail))
   refine Ap ?_;intro KK b;rw[Az ε];go_wp2_with fail
   refine(l.o _).mono ?_;rintro _ _ ⟨rfl,rfl⟩;go_wp2_with fail
   refine b _ _ ⟨⟨_,f.o⟩,rfl⟩ _ ι ⟨⟨_,f.o⟩,rfl⟩ ?_;repeat (go_big_quiet_step (fail))
   refine Ap ?_;intro KK b;rw[Az ε];go_wp2_with fail
   refine(z.o _ (HB.o.on f.o)).mono ?_;rintro _ w2 ⟨rfl,j⟩;have i:=aA (f.o.trans (j.mono f.o.size));clear j;go_wp2_with fail
   refine b _ _ ⟨⟨_,i.o⟩,rfl⟩ _ ι ⟨⟨_,i.o⟩,rfl⟩ ?_;repeat (go_big_quiet_step (fail))
   refine Ap ?_;intro KK b;rw[Az ε];go_wp2_with fail
   refine(u.o _ (HB.o.on i.o)).mono ?_;rintro _ w3 ⟨rfl,C⟩;have r:=aA (i.o.trans (C.mono i.o.size));clear C;go_wp2_with fail
   refine b _ _ ⟨⟨_,r.o⟩,rfl⟩ _ ι ⟨⟨_,r.o⟩,rfl⟩ ?_;repeat (go_big_quiet_step (fail))
   refine Ap ?_;clear b A0 Q0;have m:=aA (HB.o.on r.o);go_wp2;go_roundw
   case rel=>exact⟨k+1,ω,ν,HX.o,m.o⟩
   case measure=>simp[intOf];omega
  ·obtain rfl:k=G.ns.length:=ω
   have HX:=aA (HE.o.all ω ω);clear ab hb;go_wp2;go_ret
   exact⟨aD HX.o.symm,HB.o.below⟩
theorem MV {x:Gm.Rl} (h:k<x.r.length) (hn:(Gm.has G x.r[k] && !(decide (0<=x.r[k])&&x.p == -1))=false):Gm.gu G x=false:=by
 unfold Gm.gu;rw[CW];refine .inr ?_;rw[Eg];exact⟨_,AD h,by rw[hn];simp⟩
def yR (G:Gm.Gr) (x:Gm.Rl) (k:Nat):Prop:=∀i (h:i<x.r.length),i<k->(Gm.has G x.r[i] && !(decide (0<=x.r[i])&&x.p == -1))=true
theorem yR.next {x:Gm.Rl} (h:yR G x k) (hk:k<x.r.length) (hn:(Gm.has G x.r[k] && !(decide (0<=x.r[k])&&x.p == -1))=true):yR G x (k+1):=fun i hi aa=>by
 rcases BM i k with q|q
 ·exact h i hi q
 ·obtain rfl:i=k:=ω
  exact hn
theorem yR.all {x:Gm.Rl} (h:yR G x x.r.length) (h1:x.r.length<=6) (h2:-1<=x.p) (h3:x.p<G.ts.length):Gm.gu G x=true:=by
 unfold Gm.gu;rw[AV h1,AV h2,AV h3];simp only[Cw];rw[B6];intro z hz;obtain⟨i,hi,rfl⟩:=BG hz;exact h i hi hi
theorem QI (v:Value) (G:Gm.Gr) (B:Nat) (x:Gm.Rl) (A:Option Addr) (c:Nat) (w:World) (hg:aT w B v G) (hr:gg w B A x.r) (hx:∀z∈x.r,Gm.In z) (hB:B<=w.heap.size) :
  Calls prog 76 #[v,.agg #[.int .i64 x.l,.slice A x.r.length c,.int .i64 x.p]] w fun e w'=>e=.returned (.bool (Gm.gu G x))/\β w w':=by
 have HG:=aA hg;obtain⟨AT,cT,AN,cN,AR,cR,rfl,_,_,_,_,_,_⟩:=hg;have HT:=aA hr;have HF:=aA hx;have aa:=aA ((One.start w #[.slice AT G.ts.length cT,.slice AN G.ns.length cN,.slice AR G.rs.length cR,.int .i64 G.st]).alloc (.cells #[.int .i64 x.l,.slice A x.r.length c,.int .i64 x.p] 74))
 have ae:Hid (((w.alloc (.cells #[.slice AT G.ts.length cT,.slice AN G.ns.length cN,.slice AR G.rs.length cR,.int .i64 G.st] 26)).alloc (.cells #[.int .i64 x.l,.slice A x.r.length c,.int .i64 x.p] 74)).heap[w.heap.size+1]?=some (.cells #[.int .i64 x.l,.slice A x.r.length c,.int .i64 x.p] 74 (0,0))):=aA (by
  have:=AI (w.alloc (.cells #[.slice AT G.ts.length cT,.slice AN G.ns.length cN,.slice AR G.rs.length cR,.int .i64 G.st] 26)) (.cells #[.int .i64 x.l,.slice A x.r.length c,.int .i64 x.p] 74)
  simpa using this)
 clear hr hx;by_cases h1:6<x.r.length
 ·have HX:Hid (Gm.gu G x=false):=aA (by unfold Gm.gu;rw[AU (show ¬x.r.length<=6 by omega)];rfl);rw[HX.o]
  go_enter func76,ntmps76
  go_wp2;go_ret
  exact⟨rfl,aa.o.below⟩
 by_cases h2:x.p < -1
 ·have HX:Hid (Gm.gu G x=false):=aA (by unfold Gm.gu;rw[AU (show ¬ -1<=x.p by omega)];simp);rw[HX.o]
  go_enter func76,ntmps76
  go_wp2;go_ret
  exact⟨rfl,aa.o.below⟩
 by_cases h3:(G.ts.length:Int)<=x.p
 ·have HX:Hid (Gm.gu G x=false):=aA (by unfold Gm.gu;rw[AU (show ¬x.p<(G.ts.length:Int) by omega)];simp);rw[HX.o]
  go_enter func76,ntmps76
  go_wp2;go_ret
  exact⟨rfl,aa.o.below⟩
 go_enter func76,ntmps76
 go_wp2;go_loopw [5] (fun vi wr=>∃(k:Nat),k<=x.r.length/\vi=.int .i64 k/\yR G x k/\One w #[.slice AT G.ts.length cT,.slice AN G.ns.length cN,.slice AR G.rs.length cR,.int .i64 G.st] wr/\Hid (wr.heap[w.heap.size+1]?=some (.cells #[.int .i64 x.l,.slice A x.r.length c,.int .i64 x.p] 74 (0,0)))) (fun vi _=>x.r.length-(intOf vi).toNat)
 case atStart=>exact⟨0,Bb _,rfl,fun _ _ h=>by omega,aa.o,ae⟩
 case round =>
  obtain⟨k,hk,rfl,HE,hb,m⟩:=hrel;have HE:=aA HE;have HB:=aA hb;have hz:w.heap.size<wr.heap.size:=hb.size;have n:w.heap.size+1<wr.heap.size:=(Ad.1 m.o).1;have ac:=hb.below;have q0:=hb.c 0 _ rfl;have q1:=hb.c 1 _ rfl;have q2:=hb.c 2 _ rfl;have q3:=hb.c 3 _ rfl;have d0:=AF wr _ 0 _ _ _ m.o;have d1:=AF wr _ 1 _ _ _ m.o;have d2:=AF wr _ 2 _ _ _ m.o;clear hb;by_cases hlt:k<x.r.length
  ·obtain⟨g,o,rfl,af,hc⟩:=HT.o ω;have k0:=(ac.cell (p:=⟨g,o+k,none⟩) (Aj af hB)).trans (hc k hlt);rw[L.fy hlt]at k0;have ag:g<wr.heap.size:=ω
   have ad:=HF.o _ (AD hlt);have HH:=aA (fun(y:World) (h:One w #[.slice AT G.ts.length cT,.slice AN G.ns.length cN,.slice AR G.rs.length cR,.int .i64 G.st] y)=>QM _ G B x.r[k] ad y (HG.o.below h.below hB));obtain⟨z,qz⟩:∃t,t=x.r[k]:=⟨_,rfl⟩
   rw[<-qz]at k0 HH;have QZ:=aA qz.symm;have kk0:(0:Int)<=(k:Int):=ω
   have kk1:(k:Int)<(x.r.length:Int):=ω
   have f:=aA (aB (AB wr.heap.size wr) 1);have A0:=fun y:Calm.On wr.heap.size wr=>(y.2.cell (p:=⟨g,o+k,none⟩) ag).trans k0;have Q0:=fun y:Calm.On wr.heap.size wr=>(y.2.cell (p:=⟨w.heap.size,0,none⟩) hz).trans q0;have Q1:=fun y:Calm.On wr.heap.size wr=>(y.2.cell (p:=⟨w.heap.size,1,none⟩) hz).trans q1;have Q2:=fun y:Calm.On wr.heap.size wr=>(y.2.cell (p:=⟨w.heap.size,2,none⟩) hz).trans q2;have Q3:=fun y:Calm.On wr.heap.size wr=>(y.2.cell (p:=⟨w.heap.size,3,none⟩) hz).trans q3;have D0:=fun y:Calm.On wr.heap.size wr=>(y.2.cell (p:=⟨w.heap.size+1,0,none⟩) n).trans d0;have D1:=fun y:Calm.On wr.heap.size wr=>(y.2.cell (p:=⟨w.heap.size+1,1,none⟩) n).trans d1;have D2:=fun y:Calm.On wr.heap.size wr=>(y.2.cell (p:=⟨w.heap.size+1,2,none⟩) n).trans d2;clear hc ac qz ad;cases c0:Gm.has G z
   ·have HX:Hid (Gm.gu G x=false):=aA (MV hlt (by rw[QZ.o];simp[c0]));rw[c0]at HH;clear c0;go_wp2_with fail
    refine Calm.fk (fun x=>∃y:Calm.On wr.heap.size wr,x=y.1) (.one [0,1,2,3,4,5] 6 (.fin [7,8,9,10,11,12,13,14,15,16,17,18,19,20])) ⟨⟨wr.drew,aB (AB _ _) 1⟩,rfl⟩ ?_;clear q0 q1 q2 q3 d0 d1 d2 k0;simp only[Calm.fS,Calm.fu,Calm.fo,Aq,Ai,Am];repeat (go_big_quiet_step (fail))
    refine Ap ?_;intro KK i;rw[Az ε];go_wp2_with fail
    refine(HH.o _ (HB.o.on f.o)).mono ?_;rintro _ w2 ⟨rfl,j⟩;have b:=aA (f.o.trans (j.mono f.o.size));clear j;go_wp2_with fail
    refine i _ _ ⟨⟨_,b.o⟩,rfl⟩ _ ι ⟨⟨_,b.o⟩,rfl⟩ ?_;repeat (go_big_quiet_step (fail))
    refine Ap ?_;clear i A0 Q0 Q1 Q2 Q3 D0 D1 D2;have s:=aA (HB.o.on b.o);have ab:=aA ((b.o.block (w.heap.size+1) (Nat.lt_of_succ_le n)).trans m.o);go_wp2;go_ret
    exact⟨aD HX.o.symm,s.o.below⟩
   ·rw[c0]at HH;have C0:=aA c0;clear c0;by_cases c1:0<=z
    ·by_cases c2:x.p = -1
     focus
      have HX:Hid (Gm.gu G x=false):=aA (MV hlt (by rw[QZ.o];simp[c1,c2]));have f2:(x.p == -1)=true:=by simpa using c2
     rotate_left
     focus
      have HX:Hid (yR G x (k+1)):=aA (HE.o.next hlt (by rw[QZ.o,C0.o];simp[c2]));have f2:(x.p == -1)=false:=by simpa using c2
     rotate_left
     all_goals
      have f1:decide (0<=z)=true:=AV c1;clear c2;go_wp2_with fail
      refine Calm.fk (fun x=>∃y:Calm.On wr.heap.size wr,x=y.1) (.one [0,1,2,3,4,5] 6 (.fin [7,8,9,10,11,12,13,14,15,16,17,18,19,20])) ⟨⟨wr.drew,aB (AB _ _) 1⟩,rfl⟩ ?_;clear q0 q1 q2 q3 d0 d1 d2 k0;simp only[Calm.fS,Calm.fu,Calm.fo,Aq,Ai,Am];repeat (go_big_quiet_step (fail))
      refine Ap ?_;intro KK i;rw[Az ε];go_wp2_with fail
      refine(HH.o _ (HB.o.on f.o)).mono ?_;rintro _ w2 ⟨rfl,j⟩;have b:=aA (f.o.trans (j.mono f.o.size));clear j;go_wp2_with fail
      refine i _ _ ⟨⟨_,b.o⟩,rfl⟩ _ ι ⟨⟨_,b.o⟩,rfl⟩ ?_;repeat (go_big_quiet_step (fail))
      refine Ap ?_;clear i A0 Q0 Q1 Q2 Q3 D0 D1 D2;have s:=aA (HB.o.on b.o);have ab:=aA ((b.o.block (w.heap.size+1) (Nat.lt_of_succ_le n)).trans m.o);go_wp2
     focus
      go_ret
      exact⟨aD HX.o.symm,s.o.below⟩
     focus
      go_roundw
      case rel=>exact⟨k+1,ω,ν,HX.o,s.o,ab⟩
      case measure=>simp[intOf];omega
    ·have HX:Hid (yR G x (k+1)):=aA (HE.o.next hlt (by rw[QZ.o,C0.o];simp[c1]));have f1:decide (0<=z)=false:=AU c1;go_wp2_with fail
     refine Calm.fk (fun x=>∃y:Calm.On wr.heap.size wr,x=y.1) (.one [0,1,2,3,4,5] 6 (.fin [7,8,9,10,11,12,13,14,15,16,17,18,19,20])) ⟨⟨wr.drew,aB (AB _ _) 1⟩,rfl⟩ ?_;clear q0 q1 q2 q3 d0 d1 d2 k0;simp only[Calm.fS,Calm.fu,Calm.fo,Aq,Ai,Am];repeat (go_big_quiet_step (fail))
     refine Ap ?_;intro KK i;rw[Az ε];go_wp2_with fail
     refine(HH.o _ (HB.o.on f.o)).mono ?_;rintro _ w2 ⟨rfl,j⟩;have b:=aA (f.o.trans (j.mono f.o.size));clear j;go_wp2_with fail
     refine i _ _ ⟨⟨_,b.o⟩,rfl⟩ _ ι ⟨⟨_,b.o⟩,rfl⟩ ?_;repeat (go_big_quiet_step (fail))
     refine Ap ?_;clear i A0 Q0 Q1 Q2 Q3 D0 D1 D2;have s:=aA (HB.o.on b.o);have ab:=aA ((b.o.block (w.heap.size+1) (Nat.lt_of_succ_le n)).trans m.o);go_wp2;go_roundw
     case rel=>exact⟨k+1,ω,ν,HX.o,s.o,ab⟩
     case measure=>simp[intOf];omega
  ·obtain rfl:k=x.r.length:=ω
   have HX:=aA (HE.o.all ω ω ω);clear ac;go_wp2;go_ret
   exact⟨aD HX.o.symm,HB.o.below⟩
theorem O6 (h:k<rs.length) (z:Int):Gm.rules G (rs.drop k) z=if rs[k].l<0\/z+1<rs[k].l\/Gm.gu G rs[k]=false then false else Gm.rules G (rs.drop (k+1)) (if z<rs[k].l then rs[k].l else z):=by
 rw[BJ h,Gm.rules]
theorem QE (h:rs.length<=k) (z:Int):Gm.rules G (rs.drop k) z=(z==(G.ns.length:Int)-1):=by
 rw[Cb h,Gm.rules]
theorem Ib (v:Value) (G:Gm.Gr) (B:Nat) (w:World) (hg:aT w B v G) (hf:Gm.Fit G) (hB:B<=w.heap.size) :
  Calls prog 38 #[v] w fun e w'=>e=.returned (.bool (Gm.right G))/\β w w':=by
 have HG:=aA hg;obtain⟨AT,cT,AN,cN,AR,cR,rfl,⟨ak,al⟩,⟨am,ao⟩,⟨ap,aq⟩,_,_,ht⟩:=hg;have HT:=aA ht;have HF:=aA hf;have f:=aA (One.start w #[.slice AT G.ts.length cT,.slice AN G.ns.length cN,.slice AR G.rs.length cR,.int .i64 G.st]);have j:=aA (fun(x:World) (h:One w #[.slice AT G.ts.length cT,.slice AN G.ns.length cN,.slice AR G.rs.length cR,.int .i64 G.st] x)=>O7 _ G B x (HG.o.below h.below hB) HF.o (Ah hB h.below.size));have m:=aA (fun(x:World) (h:One w #[.slice AT G.ts.length cT,.slice AN G.ns.length cN,.slice AR G.rs.length cR,.int .i64 G.st] x)=>QK _ G B x (HG.o.below h.below hB) HF.o (Ah hB h.below.size));clear ht hf;cases q1:Gm.gW G.ts
 ·have HX:Hid (Gm.right G=false):=aA (by unfold Gm.right;rw[q1];rfl);rw[HX.o];rw[q1]at j;clear q1
  go_enter func38,ntmps38
  go_wp2_with fail
  refine(j.o _ f.o).mono ?_;rintro _ w2 ⟨rfl,hb⟩;have b:=aA (f.o.on hb);clear hb;go_wp2;go_ret
  exact⟨rfl,b.o.below⟩
 rw[q1]at j;cases q2:Gm.jT G
 ·have HX:Hid (Gm.right G=false):=aA (by unfold Gm.right;rw[q2];simp);rw[HX.o];rw[q2]at m;clear q1 q2
  go_enter func38,ntmps38
  go_wp2_with fail
  refine(j.o _ f.o).mono ?_;rintro _ w2 ⟨rfl,hb⟩;have b:=aA (f.o.on hb);have hz:w.heap.size<w2.heap.size:=b.o.size;have d0:=b.o.c 0 _ rfl;have d1:=b.o.c 1 _ rfl;have d2:=b.o.c 2 _ rfl;have d3:=b.o.c 3 _ rfl;clear hb;go_wp2_with fail
  refine(m.o _ b.o).mono ?_;rintro _ w3 ⟨rfl,hb⟩;have d:=aA (b.o.on hb);clear hb;go_wp2;go_ret
  exact⟨rfl,d.o.below⟩
 rw[q2]at m;have ag:(G.rs.length:Int)<=9223372036854775807:=ω
 by_cases h1:1<=G.rs.length/\G.rs.length<=40/\0<=G.st/\G.st<G.ns.length
 case neg =>
  have HX:Hid (Gm.right G=false):=aA (by
   unfold Gm.right;by_cases a1:1<=G.rs.length
   ·by_cases a2:G.rs.length<=40
    ·by_cases a3:0<=G.st
     ·have a4:¬G.st<G.ns.length:=fun a4=>h1 ⟨a1,a2,a3,a4⟩;rw[AU a4];simp
     ·rw[AU a3];simp
    ·rw[AU a2];simp
   ·rw[AU a1];simp)
  rw[HX.o];clear q1 q2;by_cases a1:1<=G.rs.length
  ·by_cases a2:G.rs.length<=40
   ·by_cases a3:0<=G.st
    focus
     have a4:¬G.st<G.ns.length:=fun a4=>h1 ⟨a1,a2,a3,a4⟩;have a4:=Fb.1 a4
    rotate_left
    focus
     have a3:=Int.not_le.1 a3
    all_goals
     clear h1
     go_enter func38,ntmps38
     go_wp2_with fail
     refine(j.o _ f.o).mono ?_;rintro _ w2 ⟨rfl,hb⟩;have b:=aA (f.o.on hb);have hz:w.heap.size<w2.heap.size:=b.o.size;have d0:=b.o.c 0 _ rfl;have d1:=b.o.c 1 _ rfl;have d2:=b.o.c 2 _ rfl;have d3:=b.o.c 3 _ rfl;clear hb;go_wp2_with fail
     refine(m.o _ b.o).mono ?_;rintro _ w3 ⟨rfl,hb⟩;have d:=aA (b.o.on hb);have aa:w.heap.size<w3.heap.size:=d.o.size;have e1:=d.o.c 1 _ rfl;have e2:=d.o.c 2 _ rfl;have e3:=d.o.c 3 _ rfl;clear hb;go_wp2;go_ret
     exact⟨rfl,d.o.below⟩
   ·have a2:=Nat.not_le.1 a2;clear h1
    go_enter func38,ntmps38
    go_wp2_with fail
    refine(j.o _ f.o).mono ?_;rintro _ w2 ⟨rfl,hb⟩;have b:=aA (f.o.on hb);have hz:w.heap.size<w2.heap.size:=b.o.size;have d0:=b.o.c 0 _ rfl;have d1:=b.o.c 1 _ rfl;have d2:=b.o.c 2 _ rfl;have d3:=b.o.c 3 _ rfl;clear hb;go_wp2_with fail
    refine(m.o _ b.o).mono ?_;rintro _ w3 ⟨rfl,hb⟩;have d:=aA (b.o.on hb);have aa:w.heap.size<w3.heap.size:=d.o.size;have e2:=d.o.c 2 _ rfl;clear hb;go_wp2;go_ret
    exact⟨rfl,d.o.below⟩
  ·have a1:G.rs.length<1:=ω
   clear h1
   go_enter func38,ntmps38
   go_wp2_with fail
   refine(j.o _ f.o).mono ?_;rintro _ w2 ⟨rfl,hb⟩;have b:=aA (f.o.on hb);have hz:w.heap.size<w2.heap.size:=b.o.size;have d0:=b.o.c 0 _ rfl;have d1:=b.o.c 1 _ rfl;have d2:=b.o.c 2 _ rfl;have d3:=b.o.c 3 _ rfl;clear hb;go_wp2_with fail
   refine(m.o _ b.o).mono ?_;rintro _ w3 ⟨rfl,hb⟩;have d:=aA (b.o.on hb);have aa:w.heap.size<w3.heap.size:=d.o.size;have e2:=d.o.c 2 _ rfl;clear hb;go_wp2;go_ret
   exact⟨rfl,d.o.below⟩
 have ah:Hid (Gm.right G=Gm.rules G (G.rs.drop 0) (-1)):=aA (by unfold Gm.right;rw[q1,q2,AV h1.1,AV h1.2.1,AV h1.2.2.1,AV h1.2.2.2];rfl);clear q1 q2;obtain⟨g1,g2,g3,g4⟩:=h1
 go_enter func38,ntmps38
 go_wp2_with fail
 refine(j.o _ f.o).mono ?_;rintro _ w2 ⟨rfl,hb⟩;have b:=aA (f.o.on hb);have hz:w.heap.size<w2.heap.size:=b.o.size;have d0:=b.o.c 0 _ rfl;have d1:=b.o.c 1 _ rfl;have d2:=b.o.c 2 _ rfl;have d3:=b.o.c 3 _ rfl;clear hb;go_wp2_with fail
 refine(m.o _ b.o).mono ?_;rintro _ w3 ⟨rfl,hb⟩;have d:=aA (b.o.on hb);have aa:w.heap.size<w3.heap.size:=d.o.size;have e1:=d.o.c 1 _ rfl;have e2:=d.o.c 2 _ rfl;have e3:=d.o.c 3 _ rfl;clear hb d0 d1 d2 d3 hz b;go_wp2;go_loopw [3,4] (fun vt vi wr=>∃(k:Nat) (z:Int),k<=G.rs.length/\vi=.int .i64 k/\vt=.int .i64 z/\(-1<=z/\z<=100+k)/\Hid (Gm.right G=Gm.rules G (G.rs.drop k) z)/\One w #[.slice AT G.ts.length cT,.slice AN G.ns.length cN,.slice AR G.rs.length cR,.int .i64 G.st] wr) (fun _ vi _=>G.rs.length-(intOf vi).toNat)
 case atStart=>exact⟨0,-1,Bb _,rfl,rfl,ω,ah,d.o⟩
 case round =>
  clear e1 e2 e3 aa d;obtain⟨k,z,hk,rfl,rfl,ar,HE,hb⟩:=hrel;have HB:=aA hb;have hz:w.heap.size<wr.heap.size:=hb.size;have s:=hb.below;have q0:=hb.c 0 _ rfl;have q1:=hb.c 1 _ rfl;have q2:=hb.c 2 _ rfl;have q3:=hb.c 3 _ rfl;clear hb;by_cases ab:k<G.rs.length
  ·obtain⟨g,o,rfl,ac,hc⟩:=HT.o ω;obtain⟨k0,⟨A',c',k1,_,_,ae⟩,k2⟩:=hc k ab;have k0:=(s.cell (p:=⟨g,o+k*3,none⟩) (Aj ac hB)).trans k0;have k1:=(s.cell (p:=⟨g,o+k*3+1,none⟩) (Aj ac hB)).trans k1;have k2:=(s.cell (p:=⟨g,o+k*3+2,none⟩) (Aj ac hB)).trans k2;have au:g<wr.heap.size:=ω
   have ad:=HF.o.r _ (AD ab);have t:=aA (fun(y:World) (h:One w #[.slice AT G.ts.length cT,.slice AN G.ns.length cN,.slice (some ⟨g,o,none⟩) G.rs.length cR,.int .i64 G.st] y)=>QI _ G B G.rs[k] A' c' y (HG.o.below h.below hB) (ae.fp fun g o hg=>h.below.cell (p:=⟨g,o,none⟩) (Aj hg hB)) ad.2.2 (Ah hB h.below.size));have HN:=aA (HE.o.trans (O6 ab z));have ai:=ad.1;unfold Gm.In at ai;clear hc s ad ae;generalize G.rs[k]=x at *;by_cases c1:x.l<0
   ·have HX:Hid (Gm.right G=false):=aA (HN.o.trans (Az (.inl c1)));go_wp2;go_ret
    exact⟨aD HX.o.symm,(HB.o.alloc _).below⟩
   have c1':=Fb.1 c1;by_cases c2:z+1<x.l
   ·have HX:Hid (Gm.right G=false):=aA (HN.o.trans (Az (.inr (.inl c2))));go_wp2;go_ret
    exact⟨aD HX.o.symm,(HB.o.alloc _).below⟩
   have c2':=Fb.1 c2;cases c3:Gm.gu G x
   ·have HX:Hid (Gm.right G=false):=aA (HN.o.trans (Az (.inr (.inr c3))));rw[c3]at t;clear c3 c1 c2;go_wp2_with fail
    refine(t.o _ (HB.o.alloc _)).mono ?_;rintro _ w4 ⟨rfl,i⟩;have u:=aA ((HB.o.alloc _).on i);clear i;go_wp2;go_ret
    exact⟨aD HX.o.symm,u.o.below⟩
   ·have af:=aA (HN.o.trans (AJ (by rw[c3];simp;omega)));rw[c3]at t;clear c3 c1 c2;by_cases c4:z<x.l
    ·have HX:=aA (af.o.trans (by rw[Az c4]));go_wp2_with fail
     refine(t.o _ (HB.o.alloc _)).mono ?_;rintro _ w4 ⟨rfl,i⟩;have u:=aA ((HB.o.alloc _).on i);have n:=(i.block wr.heap.size σ).trans (AI wr _);have aj:wr.heap.size<w4.heap.size:=(Ad.1 n).1;have f0:=AF w4 _ 0 _ _ _ n;clear i n;go_wp2;go_roundw
     case rel=>exact⟨k+1,x.l,ω,ν,rfl,ω,HX,u.o⟩
     case measure=>simp[intOf];omega
    ·have HX:=aA (af.o.trans (by rw[AJ c4]));have c4':=Fb.1 c4;clear c4;go_wp2_with fail
     refine(t.o _ (HB.o.alloc _)).mono ?_;rintro _ w4 ⟨rfl,i⟩;have u:=aA ((HB.o.alloc _).on i);have n:=(i.block wr.heap.size σ).trans (AI wr _);have aj:wr.heap.size<w4.heap.size:=(Ad.1 n).1;have f0:=AF w4 _ 0 _ _ _ n;clear i n;go_wp2;go_roundw
     case rel=>exact⟨k+1,z,ω,ν,rfl,ω,HX,u.o⟩
     case measure=>simp[intOf];omega
  ·obtain rfl:k=G.rs.length:=ω
   have HX:=aA (HE.o.trans (QE (Af _) z));clear s;go_wp2;go_ret
   exact⟨aD HX.o.symm,HB.o.below⟩
end Go.Proofs.YtjjbaehamplnaaaGreat
namespace Go.Mw
open Go.RowKit Go.Maps
structure qO (P:Program) (kt:TypeId) (κ:Type) where
 enc:κ->Value
 ok:κ->Prop
 key:∀x,ok x->∃l,keyOf P kt (enc x)=some l
 inj:∀x y,ok x->ok y->enc x=enc y->x=y
section
variable {κ:Type} [DecidableEq κ] {α:Type}
def fH:List (κ×α)->κ->Option α
 | [],_=>none
 | (k,v)::r,x=>if k=x then some v else fH r x
theorem FF {l:List (κ×α)} {x:κ}:fH l x=none ↔ ∀p∈l,p.1≠x:=by
 induction l with
 | nil=>simp[fH]
 | cons p r ih =>
  obtain⟨k,v⟩:=p;unfold fH;by_cases h:k=x
  ·rw[Az h];simp[h]
  ·rw[AJ h,ih];simp[h]
theorem og {l:List (κ×α)} {x:κ} {v:α} (h:fH l x=some v):(x,v)∈l:=by
 induction l with
 | nil=>simp[fH]at h
 | cons p r ih =>
  obtain⟨k,u⟩:=p;unfold fH at h;by_cases hk:k=x
  ·rw[Az hk]at h;injection h with h;subst h hk;simp
  ·rw[AJ hk]at h;exact Bq _ (ih h)
theorem my {l:List (κ×α)} {x:κ} {v:α} (hn:(l.map Prod.fst).Nodup) (h:(x,v)∈l):fH l x=some v:=by
 induction l with
 | nil=>simp at h
 | cons p r ih =>
  obtain⟨k,u⟩:=p;rw[Bw,EX]at hn;unfold fH;rcases BB.1 h with e|e
  ·injection e with e1 e2;subst e1 e2;rw[Az rfl]
  ·have:k≠x:=fun q=>hn.1 (by rw[q];exact Bo.2 ⟨(x,v),e,rfl⟩)
   rw[AJ this];exact ih hn.2 e
theorem kS {l:List (κ×α)} {k x:κ} {v:α} (h:fH l k=none):fH (l++[(k,v)]) x=if k=x then some v else fH l x:=by
 induction l with
 | nil=>simp[fH]
 | cons p r ih =>
  obtain⟨k',u⟩:=p;unfold fH at h;split at h
  ·cases h
  ·rename_i hk
   rw[Ct]
   show(if k'=x then some u else fH (r++[(k,v)]) x)=if k=x then some v else if k'=x then some u else fH r x
   rw[ih h];by_cases h1:k'=x
   ·rw[Az h1,Az h1,AJ (fun e=>hk (h1.trans e.symm))]
   ·rw[AJ h1,AJ h1]
end
section
variable {P:Program} {kt:TypeId} {κ:Type}
def fw (E:qO P kt κ) (w:World) (b:Nat) (l:List (κ×Value)):Prop :=
 ∃es clock,w.heap[b]?=some (.map es clock)/\es.toList.map (fun e=>(e.key,e.val))=l.map (fun p=>(E.enc p.1,p.2))/\(∀p∈l,E.ok p.1)/\(l.map Prod.fst).Nodup
variable {E:qO P kt κ} {w:World} {b:Nat} {l:List (κ×Value)}
theorem fw.made (E:qO P kt κ) (w:World):fw E (w.alloc (.map #[] 0)) w.heap.size [] :=
 ⟨#[],0,(MapKept.heap_alloc w _).1,rfl,σ,σ⟩
theorem fw.lt (h:fw E w b l):b<w.heap.size:=by
 obtain⟨es,clock,hb,_⟩:=h;exact(Ad.1 hb).1
theorem fw.kept {row:Option Nat} (h:fw E w b l) (hg:w.grownBy w' row) (aa:some b≠row):fw E w' b l:=by
 have ab:=h.lt;obtain⟨es,clock,hb,r⟩:=h;exact⟨es,clock,(hg.block b ab aa).trans hb,r⟩
theorem fw.block (h:fw E w b l) (hg:w'.heap[b]?=w.heap[b]?):fw E w' b l:=by
 obtain⟨es,clock,hb,r⟩:=h;exact⟨es,clock,hg.trans hb,r⟩
theorem fw.fD (h:fw E w b l) {t:TypeId} {f:Nat×Nat}:w.heap[b]? ≠ some (.cells cs t f):=by
 obtain⟨es,clock,hb,_⟩:=h;rw[hb];intro e;cases e
theorem sH {t e:TypeId} (h:fw E w b l) (ht:P.underlying t=some (.map kt e)) (ty:TypeId):(Builtin.len_ #[t] ty #[.map (some b)]).run P w=.ok (.int .i64 (l.length:Nat)) w:=by
 obtain⟨es,clock,hb,he,_⟩:=h;have e1:es.size=l.length:=by have:=congrArg List.length he;simpa using this
 simp[Builtin.len_,Dc ht,Cs hb,goInt,Result.andThen,e1]
variable [DecidableEq κ]
theorem jz (h:fw E w b l) (K:Keyed P kt) {x:κ} (hx:E.ok x):∃es clock,w.heap[b]?=some (.map es clock)/\es.toList.map (fun e=>(e.key,e.val))=l.map (fun p=>(E.enc p.1,p.2)) /\
  (((Instr.findKey kt (E.enc x) es.toList).run P w=.ok none w/\fH l x=none) \/ ∃(j:Nat) (e:MapEntry),(Instr.findKey kt (E.enc x) es.toList).run P w=.ok (some (j,e.val)) w/\es.toList[j]?=some e/\e.key=E.enc x/\fH l x=some e.val/\l[j]?=some (x,e.val)):=by
 obtain⟨es,clock,hb,he,hk,hn⟩:=h;refine⟨es,clock,hb,he,?_⟩;obtain⟨lx,ac⟩:=E.key x hx
 have aa:∀e∈es.toList,∃l,keyOf P kt e.key=some l:=by
  intro e hm
  have:(e.key,e.val)∈es.toList.map (fun e=>(e.key,e.val)):=Bo.2 ⟨e,hm,rfl⟩
  rw[he]at this;obtain⟨p,hp,e1⟩:=Bo.1 this;injection e1 with e1 _;rw[<-e1];exact E.key p.1 (hk p hp)
 rcases K.find w ac es.toList aa with⟨h1,h2⟩|⟨j,e,h1,h2,h3⟩
 ·refine .inl ⟨h1,FF.2 fun p hp q=>?_⟩
  have:(E.enc p.1,p.2)∈es.toList.map (fun e=>(e.key,e.val)):=by rw[he];exact Bo.2 ⟨p,hp,rfl⟩
  obtain⟨e,hm,e1⟩:=Bo.1 this;injection e1 with e1 _;exact h2 e hm (by rw[e1,q])
 ·refine .inr ⟨j,e,h1,h2,h3,?_⟩;have hj:(es.toList.map (fun e=>(e.key,e.val)))[j]?=some (e.key,e.val):=by rw[BO,h2];rfl
  rw[he,BO]at hj;obtain⟨p,hp,e1⟩:=Dk.1 hj;injection e1 with e1 e2;have ab:p∈l:=C8 hp;have ad:p.1=x:=E.inj _ _ (hk p ab) hx (e1.trans h3);have ae:p=(x,e.val):=by rw[<-ad,<-e2]
  rw[ae]at hp ab;exact⟨my hn ab,hp⟩
theorem gP {t e:TypeId} (h:fw E w b l) (K:Keyed P kt) (ht:P.underlying t=some (.map kt e)) {z:Value} (hz:(zeroValue e).run P w=.ok z w) {x:κ} (hx:E.ok x) (c:Bool) :
  (Instr.lookup t (.map (some b)) (E.enc x) c).run P w=.ok (if c then .tuple #[(fH l x).getD z,.bool (fH l x).isSome] else(fH l x).getD z) w:=by
 obtain⟨lx,aa⟩:=E.key x hx;obtain⟨es,clock,hb,_,hf⟩:=jz h K hx;rcases hf with⟨h1,h2⟩|⟨j,e0,h1,_,_,h2,_⟩
 ·rw[h2];simp[Instr.lookup,Dc ht,Cs hb,K.check w _ aa,h1,hz,Result.andThen]
 ·rw[h2];simp[Instr.lookup,Dc ht,Cs hb,K.check w _ aa,h1,Result.andThen]
theorem run_store {t e:TypeId} (h:fw E w b l) (K:Keyed P kt) (ht:P.underlying t=some (.map kt e)) {x:κ} (hx:E.ok x) (v:Value) (hv:fH l x=none\/fH l x=some v) :
  ∃w',(Instr.mapUpdate t (.map (some b)) (E.enc x) v).run P w=.ok () w'/\fw E w' b (if fH l x=none then l++[(x,v)] else l)/\w.grownBy w' (some b):=by
 obtain⟨lx,aa⟩:=E.key x hx;have h0:=h;obtain⟨es,clock,hb,he,hf⟩:=jz h K hx;obtain⟨es0,clock0,d,ag,hk,hn⟩:=h0;rw[hb]at d;injection d with d;injection d with d ad;subst d ad;rcases hf with⟨h1,h2⟩|⟨j,e0,h1,h2,h3,h4,h5⟩
 ·rw[Az h2];refine⟨ChangeMaps.setBlock w b (.map (es.push ⟨E.enc x,v,clock⟩) (clock+1)),?_,⟨_,_,B8 hb _,?_,?_,?_⟩,⟨rfl,rfl,rfl,by simp[ChangeMaps.setBlock],fun i _ hi=>Cn hb _ (fun e=>hi (by rw[e]))⟩⟩
  ·simp[Instr.mapUpdate,Dc ht,Cs hb,K.check w false aa,h1,CT _ hb,Result.andThen,ChangeMaps.setBlock]
  ·rw[CK,Bi,Bi,he];rfl
  ·intro p hp;rcases Bs.1 hp with q|q
   ·exact hk p q
   ·rw[AW]at q;subst q;exact hx
  ·rw[Bi,Cz];refine⟨hn,σ,fun a ha c hc=>?_⟩;obtain⟨p,hp,rfl⟩:=Bo.1 ha;simp only[Bw,Dh,AW]at hc;subst hc;exact FF.1 h2 p hp
 ·have ae:v=e0.val:=by
   rcases hv with q|q
   ·rw[h4]at q;cases q
   ·rw[h4]at q;injection q with q;exact q.symm
  rw[AJ (by rw[h4];simp)];have hj:es[j]?=some e0:=by simpa using h2
  have ab:(es.modify j (fun e=>{e with key:=E.enc x,val:=v})).toList.map (fun e=>(e.key,e.val))=es.toList.map (fun e=>(e.key,e.val)):=by
   rw[DX,Ek _ _ _ _ h2,Cy];have af:j<(es.toList.map (fun e=>(e.key,e.val))).length:=by rw[Bh];exact(Bk.1 h2).1
   apply C3;intro i;rw[Dq];by_cases ac:j=i
   ·subst ac;rw[Az rfl,Az af,BO,h2,<-h3,ae];rfl
   ·rw[AJ ac]
  refine⟨ChangeMaps.setBlock w b (.map (es.modify j (fun e=>{e with key:=E.enc x,val:=v})) clock),?_,⟨_,_,B8 hb _,ab.trans he,hk,hn⟩,⟨rfl,rfl,rfl,by simp[ChangeMaps.setBlock],fun i _ hi=>Cn hb _ (fun e=>hi (by rw[e]))⟩⟩;simp[Instr.mapUpdate,Dc ht,Cs hb,K.check w false aa,h1,hj,h3,K.stays w aa,CT _ hb,Result.andThen,ChangeMaps.setBlock]
end
theorem iy {rest:List Oper} {o:Oper} {a:Act} {Q:Exit->Act->World->Prop} (hg:o.guard=none) (m x v:Operand) (t:TypeId) (ab:o.op=Op.mapUpdate t m x v) {mv xv vv:Value} {R:World->Prop} (h:∃w',(Instr.mapUpdate t mv xv vv).run P w=.ok () w'/\R w') (hm:a.eval m=mv) (hx:a.eval x=xv) (hv:a.eval v=vv) (hK:∀w',R w'->wpList P ops Q rest (a.put o.dst undef) w'):wpList P ops Q (o::rest) a w:=by
 refine E5 hg fun K' ac=>?_;obtain⟨w',aa,hR⟩:=h;unfold Oper.wp;simp[execOp,ab,hm,hx,hv,aa,Result.andThen];exact ac _ _ (hK w' hR)
end Go.Mw
namespace Go.Proofs.YtjjbaehamplnaaaGreat
def sM:Mw.qO prog 9 (List Int) where
 enc s:=.string (K.str s)
 ok:=K.Tx
 key s h:=⟨_,Go.WideMaps.keyOf_string_mk underlying9 (by rw[K.gQ];unfold maxLen;exact h.2)⟩
 inj x y hx hy h:=by injection h with h;exact(K.zJ hx.1 hy.1).1 h
theorem IJ:Maps.Keyed prog 9:=Maps.string_keyed underlying9
theorem OL (s:List Int) (hs:K.Tx s) (w:World) :
  Calls prog 102 #[.string (K.str s)] w fun e w'=>e=.returned (.bool (Gm.named s))/\β w w':=by
 have HN:=aA (fun w=>Ma s hs.1 w);have HL:=aA (fun w=>SE s hs.1 hs.2 w);unfold Gm.named;clear hs;cases q:T.isName s
 ·rw[q]at HN;clear q;generalize T.isLit s=b at *
  go_enter func102,ntmps102
  go_wp2_with fail
  refine(HN.o _).mono ?_;rintro _ w1 ⟨rfl,hb⟩;have HB:=aA hb;clear hb;go_wp2_with fail
  refine(HL.o _).mono ?_;rintro _ _ ⟨rfl,rfl⟩;go_wp2;go_ret
  exact⟨aD σ,HB.o⟩
 ·rw[q]at HN;clear q
  go_enter func102,ntmps102
  go_wp2_with fail
  refine(HN.o _).mono ?_;rintro _ w1 ⟨rfl,hb⟩;have HB:=aA hb;clear hb;go_wp2;go_ret
  exact⟨aD σ,HB.o⟩
def dd:List (List Int)->List (List Int)->List (List Int)
 | acc,[]=>acc
 | acc,s::r=>dd (if s∈acc then acc else acc++[s]) r
theorem TQ (acc l:List (List Int)) (s:List Int):dd acc (l++[s])=if s∈dd acc l then dd acc l else dd acc l++[s]:=by
 induction l generalizing acc with
 | nil=>rfl
 | cons x r ih=>rw[Ct,dd,dd,ih]
theorem Vg (acc l:List (List Int)) (hn:acc.Nodup):(dd acc l).length<=acc.length+l.length/\((dd acc l).length=acc.length+l.length↔(acc++l).Nodup):=by
 induction l generalizing acc with
 | nil=>simp[dd,hn]
 | cons x r ih =>
  rw[dd];by_cases hx:x∈acc
  ·rw[Az hx]
   have:=(ih acc hn).1
   refine⟨by rw[Bz];omega,⟨fun e=>by rw[Bz]at e;omega,fun h=>?_⟩⟩;rw[Cz]at h;exact absurd rfl (h.2.2 x hx x σ)
  ·rw[AJ hx]
   have aa:(acc++[x]).Nodup:=by
    rw[Cz];exact⟨hn,σ,fun a ha b hb e=>by rw[AW]at hb;subst hb e;exact hx ha⟩
   have:=ih (acc++[x]) aa
   rw[AZ,BC,Cd,ED]at this;refine⟨by have:=this.1;rw[Bz];omega,?_⟩;rw[<-this.2,Bz];omega
def gZ (l:List (List Int)):List (List Int×Value):=(dd [] l).map fun s=>(s,.bool true)
theorem MZ (l:List (List Int)) (s:List Int):Mw.fH (gZ l) s=if s∈dd [] l then some (.bool true) else none:=by
 unfold gZ;generalize dd [] l=m;induction m with
 | nil=>rfl
 | cons x r ih =>
  rw[Bw,Mw.fH,ih];by_cases h:x=s
  ·subst h;simp
  ·rw[AJ h]
   have:s≠x:=fun e=>h e.symm
   simp[this]
theorem L9 (l:List (List Int)) (s:List Int):(if Mw.fH (gZ l) s=none then gZ l++[(s,.bool true)] else gZ l)=gZ (l++[s]):=by
 rw[MZ];unfold gZ;rw[TQ];by_cases h:s∈dd [] l
 ·rw[Az h,Az h];rfl
 ·rw[AJ h,AJ h,Az rfl,Bi];rfl
theorem NK (l:List (List Int)) (s:List Int):Mw.fH (gZ l) s=none\/Mw.fH (gZ l) s=some (.bool true):=by
 rw[MZ];split
 ·exact .inr rfl
 ·exact .inl rfl
def p9 (G:Gm.Gr):Bool:=decide (G.ts.length<=24)&&decide (1<=G.ns.length)&&decide (G.ns.length<=16)&&(G.ts.all fun t=>Gm.named t.nm)&&(G.ns.all T.isName)&&decide ((gZ (Gm.names G.ts++G.ns)).length=G.ts.length+G.ns.length)
theorem Jg (h:k<G.ts.length) (hn:Gm.named G.ts[k].nm=false):p9 G=false:=by
 unfold p9
 have:(G.ts.all fun t=>Gm.named t.nm)=false:=Eg.2 ⟨_,AD h,by rw[hn];simp⟩
 rw[this];simp
theorem Jf (h:k<G.ns.length) (hn:T.isName G.ns[k]=false):p9 G=false:=by
 unfold p9
 have:(G.ns.all T.isName)=false:=Eg.2 ⟨_,AD h,by rw[hn];simp⟩
 rw[this];simp
def rP {α:Type} (l:List α) (f:α->Bool) (k:Nat):Prop:=∀i (h:i<l.length),i<k->f l[i]=true
theorem rP.zero {α:Type} (l:List α) (f:α->Bool):rP l f 0:=fun _ _ h=>by omega
theorem rP.next {α:Type} {l:List α} {f:α->Bool} (h:rP l f k) (hk:k<l.length) (hn:f l[k]=true):rP l f (k+1):=fun i hi aa=>by
 rcases BM i k with q|q
 ·exact h i hi q
 ·obtain rfl:i=k:=ω
  exact hn
theorem rP.all {α:Type} {l:List α} {f:α->Bool} (h:rP l f l.length):l.all f=true:=by
 rw[B6];intro x hx;obtain⟨i,hi,rfl⟩:=BG hx;exact h i hi hi
theorem Lz {α:Type} {l:List α} (h:k<l.length):l.take (k+1)=l.take k++[l[k]]:=AP h
theorem Oj (v:Value) (G:Gm.Gr) (B:Nat) (w:World) (hg:aT w B v G) (hf:Gm.Fit G) (hB:B<=w.heap.size) :
  Calls prog 66 #[v] w fun e w'=>e=.returned (.bool (p9 G))/\β w w':=by
 obtain⟨AT,cT,AN,cN,AR,cR,rfl,⟨aw,ax⟩,⟨ay,az⟩,_,ht,hn,_⟩:=hg;have HT:=aA ht;have HN:=aA hn;have HF:=aA hf;have aa:=aA (One.start w #[.slice AT G.ts.length cT,.slice AN G.ns.length cN,.slice AR G.rs.length cR,.int .i64 G.st]);have ak:(G.ts.length:Int)<=9223372036854775807:=ω
 have al:(G.ns.length:Int)<=9223372036854775807:=ω
 clear ht hn hf;by_cases a0:24<G.ts.length
 ·have HX:Hid (p9 G=false):=aA (by unfold p9;rw[AU (show ¬G.ts.length<=24 by omega)];rfl);rw[HX.o]
  go_enter func66,ntmps66
  go_wp2;go_ret
  exact⟨rfl,aa.o.below⟩
 by_cases h0:G.ns.length<1
 ·have HX:Hid (p9 G=false):=aA (by unfold p9;rw[AU (show ¬1<=G.ns.length by omega)];simp);have e0:((G.ns.length:Int)==0)=true:=BP.2 ω;rw[HX.o];clear h0
  go_enter func66,ntmps66
  go_wp2;go_ret
  exact⟨rfl,aa.o.below⟩
 have e0:((G.ns.length:Int)==0)=false:=Bc.2 ω;by_cases a1:16<G.ns.length
 ·have HX:Hid (p9 G=false):=aA (by unfold p9;rw[AU (show ¬G.ns.length<=16 by omega)];simp);rw[HX.o];clear h0
  go_enter func66,ntmps66
  go_wp2;go_ret
  exact⟨rfl,aa.o.below⟩
 clear h0;have a2:=@Fh prog;have am:=aA (Mw.fw.made sM (w.alloc (.cells #[.slice AT G.ts.length cT,.slice AN G.ns.length cN,.slice AR G.rs.length cR,.int .i64 G.st] 26)));have ao:(w.alloc (.cells #[.slice AT G.ts.length cT,.slice AN G.ns.length cN,.slice AR G.rs.length cR,.int .i64 G.st] 26)).heap.size=w.heap.size+1:=σ
 rw[ao]at am;have aq:=aA (aa.o.alloc (.map #[] 0));clear ao
 go_enter func66,ntmps66
 go_wp2;go_loopw [28] (fun vi wr=>∃(k:Nat),k<=G.ts.length/\vi=.int .i64 k/\Hid (rP G.ts (fun t=>Gm.named t.nm) k)/\One w #[.slice AT G.ts.length cT,.slice AN G.ns.length cN,.slice AR G.rs.length cR,.int .i64 G.st] wr/\Hid (Mw.fw sM wr (w.heap.size+1) (gZ (Gm.names (G.ts.take k))))) (fun vi _=>G.ts.length-(intOf vi).toNat)
 case atStart=>exact⟨0,Bb _,rfl,aA (rP.zero _ _),aq.o,am⟩
 case round =>
  obtain⟨k,hk,rfl,HA,hb,HM⟩:=hrel;have HB:=aA hb;have hz:w.heap.size<wr.heap.size:=hb.size;have ap:w.heap.size+1<wr.heap.size:=HM.o.lt;have f:=hb.below;have q1:=hb.c 1 _ rfl;clear hb;by_cases hlt:k<G.ts.length
  ·obtain⟨g,o,rfl,l,hc⟩:=HT.o ω;have k0:=(f.cell (p:=⟨g,o+k*3,none⟩) (Aj l hB)).trans (hc k hlt).1;have k1:=(f.cell (p:=⟨g,o+k*3+1,none⟩) (Aj l hB)).trans (hc k hlt).2.1;have k2:=(f.cell (p:=⟨g,o+k*3+2,none⟩) (Aj l hB)).trans (hc k hlt).2.2;have ar:g<wr.heap.size:=ω
   have j:=(HF.o.t _ (AD hlt)).1;have d:=aA (fun x=>OL _ j x);have ab:=aA j;have ac:=aA (fun h=>HA.o.next hlt h);have ad:=aA (fun h=>Jg hlt h);have ae:Hid (gZ (Gm.names (G.ts.take k)++[G.ts[k].nm])=gZ (Gm.names (G.ts.take (k+1)))):=aA (by rw[Lz hlt];unfold Gm.names;rw[Bi];rfl);clear hc f j;generalize G.ts[k].nm=nm at *;generalize G.ts[k].lv=lv at *;generalize G.ts[k].wy=wy at *;cases q:Gm.named nm
   ·have HX:=aA (ad.o q);rw[q]at d;clear q;go_wp2_with fail
    refine(d.o _).mono ?_;rintro _ w2 ⟨rfl,b⟩;have i:=aA ((HB.o.alloc _).on b);clear b;go_wp2;go_ret
    exact⟨aD HX.o.symm,i.o.below⟩
   ·have HX:=aA (ac.o q);rw[q]at d;clear q;go_wp2_with fail
    refine(d.o _).mono ?_;rintro _ w2 ⟨rfl,b⟩;have i:=aA ((HB.o.alloc _).on b);have af:=(b.block wr.heap.size σ).trans (AI wr _);have a3:wr.heap.size<w2.heap.size:=(Ad.1 af).1;have f0:=AF w2 _ 0 _ _ _ af;have ag:=aA ((HM.o.kept (DY wr _ none) σ).kept (aL b none) σ);clear b af;have ah:=aA (Mw.run_store (x:=nm) ag.o IJ underlying181 ab.o (.bool true) (NK _ _));go_wp2_with (at_mapUpdate;refine Mw.iy rfl _ _ _ _ rfl ah.o rfl rfl rfl ?_;rintro w3 ⟨r,u⟩)
    have ai:=aA (Eh i.o u i.o.size (fun k e=>by injection e with e;omega));have aj:Hid (Mw.fw sM w3 (w.heap.size+1) (gZ (Gm.names (G.ts.take (k+1))))):=aA (by rw[<-ae.o,<-L9];exact r);clear r u;go_roundw
    case rel=>exact⟨k+1,ω,ν,HX,ai.o,aj⟩
    case measure=>simp[intOf];omega
  ·obtain rfl:k=G.ts.length:=ω
   have au:=aA HA.o.all;have y:Hid (Mw.fw sM wr (w.heap.size+1) (gZ (Gm.names G.ts++G.ns.take 0))):=aA (by have h:=HM.o;rw[Bp]at h;rw[D5,CG];exact h);clear f hk hlt HA HM;go_wp2;go_loopw [43] (fun vi wr=>∃(k:Nat),k<=G.ns.length/\vi=.int .i64 k/\Hid (rP G.ns T.isName k)/\One w #[.slice AT G.ts.length cT,.slice AN G.ns.length cN,.slice AR G.rs.length cR,.int .i64 G.st] wr/\Hid (Mw.fw sM wr (w.heap.size+1) (gZ (Gm.names G.ts++G.ns.take k)))) (fun vi _=>G.ns.length-(intOf vi).toNat)
   case atStart=>exact⟨0,Bb _,rfl,aA (rP.zero _ _),HB.o,y⟩
   case round =>
    clear q1 hz ap HB y;obtain⟨k,hk,rfl,HA,hb,HM⟩:=hrel;have HB:=aA hb;have hz:w.heap.size<wr.heap.size:=hb.size;have ap:w.heap.size+1<wr.heap.size:=HM.o.lt;have f:=hb.below;have q0:=hb.c 0 _ rfl;have q1:=hb.c 1 _ rfl;clear hb;by_cases hlt:k<G.ns.length
    ·obtain⟨g,o,rfl,l,hc⟩:=HN.o ω;have k0:=(f.cell (p:=⟨g,o+k,none⟩) (Aj l hB)).trans (hc k hlt);have ar:g<wr.heap.size:=ω
     have j:=HF.o.n _ (AD hlt);have d:=aA (fun x=>Ma _ j.1 x);have ab:=aA j;have ac:=aA (fun h=>HA.o.next hlt h);have ad:=aA (fun h=>Jf hlt h);have ae:Hid (gZ (Gm.names G.ts++G.ns.take k++[G.ns[k]])=gZ (Gm.names G.ts++G.ns.take (k+1))):=aA (by rw[Lz hlt,Cd]);obtain⟨s,qs⟩:∃t,t=G.ns[k]:=⟨_,rfl⟩
     rw[<-qs]at k0 d ab ac ad ae;clear hc f j qs;cases q:T.isName s
     ·have HX:=aA (ad.o q);rw[q]at d;clear q;go_wp2_with fail
      refine(d.o _).mono ?_;rintro _ w2 ⟨rfl,b⟩;have i:=aA (HB.o.on b);clear b;go_wp2;go_ret
      exact⟨aD HX.o.symm,i.o.below⟩
     ·have HX:=aA (ac.o q);rw[q]at d;clear q;go_wp2_with fail
      refine(d.o _).mono ?_;rintro _ w2 ⟨rfl,b⟩;have i:=aA (HB.o.on b);have ag:=aA (HM.o.kept (aL b none) σ);clear b;have ah:=aA (Mw.run_store (x:=s) ag.o IJ underlying181 ab.o (.bool true) (NK _ _));go_wp2_with (at_mapUpdate;refine Mw.iy rfl _ _ _ _ rfl ah.o rfl rfl rfl ?_;rintro w3 ⟨r,u⟩)
      have ai:=aA (Eh i.o u i.o.size (fun k e=>by injection e with e;omega));have aj:Hid (Mw.fw sM w3 (w.heap.size+1) (gZ (Gm.names G.ts++G.ns.take (k+1)))):=aA (by rw[<-ae.o,<-L9];exact r);clear r u;go_roundw
      case rel=>exact⟨k+1,ω,ν,HX,ai.o,aj⟩
      case measure=>simp[intOf];omega
    ·obtain rfl:k=G.ns.length:=ω
     have av:=aA HA.o.all;have y:Hid (Mw.fw sM wr (w.heap.size+1) (gZ (Gm.names G.ts++G.ns))):=aA (by have h:=HM.o;rw[Bp]at h;exact h);have hL:=Mw.sH y.o underlying181 3
     have HX:Hid (p9 G=(((gZ (Gm.names G.ts++G.ns)).length:Int)==(G.ts.length:Int)+(G.ns.length:Int))):=aA (by
      unfold p9;rw[au.o,av.o,AV (show G.ts.length<=24 by omega),AV (show 1<=G.ns.length by have:=Bc.1 e0;omega),AV (show G.ns.length<=16 by omega)];simp only[Cw];rw[Bx];simp only[Bj,BP]
      omega)
     generalize (gZ (Gm.names G.ts++G.ns)).length=m at *;clear f hk hlt HA HM y;go_wp2_with (simp only[hL])
     go_ret
     exact⟨aD HX.o.symm,HB.o.below⟩
def tJ:Mw.qO prog 3 Int where
 enc z:=.int .i64 z
 ok:=Gm.In
 key z h:=⟨_,Maps.keyOf_int_mk underlying3 (D4 (by unfold Gm.In at h;omega))⟩
 inj x y _ _ h:=by injection h
theorem Hc:Maps.Keyed prog 3:=Maps.int_keyed underlying3
def sR (t:Gm.Tm):Bool:=if t.wy=0 then t.lv==0 else if t.wy=1\/t.wy=2\/t.wy=3 then decide (0<t.lv) else false
theorem Ol (t:Gm.Tm) (w:World) :
  Calls prog 104 #[.agg #[.string (K.str t.nm),.int .i64 t.lv,.int .i64 t.wy]] w fun e w'=>e=.returned (.bool (sR t))/\β w w':=by
 have HB:=aA (fun o=>(AB w.heap.size w).alloc (Af _) o);obtain⟨nm,lv,wy⟩:=t;unfold sR;simp only;generalize K.str nm=s at *;by_cases h0:wy=0
 ·subst h0;rw[Az rfl]
  go_enter func104,ntmps104
  go_wp2;go_ret
  exact⟨rfl,HB.o _⟩
 rw[AJ h0];by_cases h1:wy=1
 ·subst h1;rw[Az σ]
  go_enter func104,ntmps104
  go_wp2;go_ret
  exact⟨rfl,HB.o _⟩
 by_cases h2:wy=2
 ·subst h2;rw[Az σ]
  go_enter func104,ntmps104
  go_wp2;go_ret
  exact⟨rfl,HB.o _⟩
 by_cases h3:wy=3
 ·subst h3;rw[Az σ]
  go_enter func104,ntmps104
  go_wp2;go_ret
  exact⟨rfl,HB.o _⟩
 rw[AJ ω];have e0:(wy==0)=false:=Bc.2 h0;have e1:(wy==1)=false:=Bc.2 h1;have e2:(wy==2)=false:=Bc.2 h2;have e3:(wy==3)=false:=Bc.2 h3
 go_enter func104,ntmps104
 go_wp2;go_ret
 exact⟨rfl,HB.o _⟩
def yN (m:List (Int×Int)) (t:Gm.Tm):List (Int×Int):=if 0<t.lv then(if Mw.fH m t.lv=none then m++[(t.lv,t.wy)] else m) else m
def sF:List Gm.Tm->List (Int×Int)->Int->Bool
 | [],m,g=>(m.length:Int)==g
 | t::r,m,g=>if sR t=false then false else if(Mw.fH m t.lv).isSome=true/\(Mw.fH m t.lv).getD 0≠t.wy then false else sF r (yN m t) (max g t.lv)
theorem R7 (h:k<ts.length) (m:List (Int×Int)) (g:Int):sF (ts.drop k) m g=if sR ts[k]=false then false else if(Mw.fH m ts[k].lv).isSome=true/\(Mw.fH m ts[k].lv).getD 0≠ts[k].wy then false else sF (ts.drop (k+1)) (yN m ts[k]) (max g ts[k].lv):=by
 rw[BJ h,sF]
theorem SY (h:ts.length<=k) (m:List (Int×Int)) (g:Int):sF (ts.drop k) m g=((m.length:Int)==g):=by
 rw[Cb h,sF]
def sv (m:List (Int×Int)):List (Int×Value):=m.map fun p=>(p.1,.int .i64 p.2)
theorem JT (m:List (Int×Int)) (z:Int):Mw.fH (sv m) z=(Mw.fH m z).map (fun y=>.int .i64 y):=by
 unfold sv;induction m with
 | nil=>rfl
 | cons p r ih =>
  obtain⟨k,v⟩:=p;rw[Bw,Mw.fH,Mw.fH,ih];by_cases h:k=z
  ·rw[Az h,Az h];rfl
  ·rw[AJ h,AJ h]
theorem Me (m:List (Int×Int)) (z:Int):(Mw.fH (sv m) z).getD (.int .i64 0)=.int .i64 ((Mw.fH m z).getD 0)/\(Mw.fH (sv m) z).isSome=(Mw.fH m z).isSome:=by
 rw[JT];cases Mw.fH m z <;> exact⟨rfl,rfl⟩
theorem Rk (w:World):(zeroValue 3).run prog w=.ok (.int .i64 0) w:=κ
theorem Og (A:Option Addr) (c B:Nat) (ts:List Gm.Tm) (w:World) (ht:rO w B A ts) (hf:∀x∈ts,K.Tx x.nm/\Gm.In x.lv/\Gm.In x.wy) (hB:B<=w.heap.size) (ap:(ts.length:Int)<=9223372036854775807) :
  Calls prog 67 #[.slice A ts.length c] w fun e w'=>e=.returned (.bool (sF ts [] 0))/\β w w':=by
 have HT:=aA ht;have HF:=aA hf;have ay:=@Fh prog;have aq:=aA (Mw.fw.made tJ w);have ar:=aA ((AB w.heap.size w).alloc (Af _) (.map #[] 0));clear ht hf
 go_enter func67,ntmps67
 go_wp2;go_loopw [4,12] (fun vg vi wr=>∃(k:Nat) (m:List (Int×Int)) (g:Int),k<=ts.length/\vi=.int .i64 k/\vg=.int .i64 g/\Hid (sF ts [] 0=sF (ts.drop k) m g)/\β w wr/\Hid (Mw.fw tJ wr w.heap.size (sv m))) (fun _ vi _=>ts.length-(intOf vi).toNat)
 case atStart=>exact⟨0,[],0,Bb _,rfl,rfl,aA rfl,ar.o,aq⟩
 case round =>
  obtain⟨k,m,g,hk,rfl,rfl,HE,hb,HM⟩:=hrel;have HB:=aA hb;have hz:w.heap.size<wr.heap.size:=HM.o.lt;by_cases l:k<ts.length
  ·obtain⟨gb,o,rfl,ab,hc⟩:=HT.o ω;have k0:=(hb.cell (p:=⟨gb,o+k*3,none⟩) (Aj ab hB)).trans (hc k l).1;have k1:=(hb.cell (p:=⟨gb,o+k*3+1,none⟩) (Aj ab hB)).trans (hc k l).2.1;have k2:=(hb.cell (p:=⟨gb,o+k*3+2,none⟩) (Aj ab hB)).trans (hc k l).2.2;have az:gb<wr.heap.size:=ω
   have al:=(HF.o _ (AD l)).2;have ac:=aA al;have r:=aA (fun x=>Ol ts[k] x);have HR:=aA (R7 l m g);clear hc al;generalize ts[k]=t at *;obtain⟨nm,lv,wy⟩:=t;simp only at k0 k1 k2 ac r HR;have ad:=aA (HM.o.kept (DY wr (.cells #[.string (K.str nm),.int .i64 lv,.int .i64 wy] 85) none) σ);have ae:=Mw.gP (x:=lv) ad.o Hc underlying183 (Rk _) ac.o.1 true;rw[Az rfl,(Me m lv).1,(Me m lv).2]at ae;have f:(Instr.lookup 183 (.map (some w.heap.size)) (.int .i64 lv) true).run prog (wr.alloc (.cells #[.string (K.str nm),.int .i64 lv,.int .i64 wy] 85))=.ok (.tuple #[.int .i64 ((Mw.fH m lv).getD 0),.bool (Mw.fH m lv).isSome]) (wr.alloc (.cells #[.string (K.str nm),.int .i64 lv,.int .i64 wy] 85)):=ae;have i:=aA (fun o=>HB.o.alloc HB.o.size o);clear ae hb;generalize qa:sR ⟨nm,lv,wy⟩=ba at *;clear qa;cases ba
   ·have HX:=aA (HE.o.trans (HR.o.trans (Az rfl)));go_wp2_with fail
    refine(r.o _).mono ?_;rintro _ w2 ⟨rfl,b⟩;have j:=aA ((i.o _).trans (b.mono (i.o _).size));clear b;go_wp2;go_ret
    exact⟨aD HX.o.symm,j.o⟩
   have af:=aA (HE.o.trans (HR.o.trans (AJ σ)))
   have ag:Hid (¬((Mw.fH m lv).isSome=true/\(Mw.fH m lv).getD 0≠wy)->Mw.fH (sv m) lv=none\/Mw.fH (sv m) lv=some (.int .i64 wy)):=aA (fun h=>by
    rw[JT];cases q:Mw.fH m lv with
    | none=>exact .inl rfl
    | some y =>
     rw[q]at h
     have:y=wy:=BX fun n=>h ⟨rfl,n⟩
     rw[this];exact .inr rfl)
   have ah:Hid (¬0<lv->yN m ⟨nm,lv,wy⟩=m):=aA (fun h=>by unfold yN;rw[AJ h])
   have aa:Hid (0<lv->sv (yN m ⟨nm,lv,wy⟩)=if Mw.fH (sv m) lv=none then sv m++[(lv,.int .i64 wy)] else sv m):=aA (fun h=>by
    unfold yN;rw[Az h,JT];cases q:Mw.fH m lv with
    | none=>simp[sv]
    | some y=>simp)
   by_cases h2:(Mw.fH m lv).isSome=true/\(Mw.fH m lv).getD 0≠wy
   ·have HX:=aA (af.o.trans (Az h2));obtain⟨h3,h4⟩:=h2;rw[h3]at f;have h5:((Mw.fH m lv).getD 0 != wy)=true:=by simpa using h4
    clear h3 h4 ag;generalize (Mw.fH m lv).getD 0=zs at *;go_wp2_with fail
    refine(r.o _).mono ?_;rintro _ w2 ⟨rfl,b⟩;have j:=aA ((i.o _).trans (b.mono (i.o _).size));have d:=(b.block wr.heap.size σ).trans (AI wr _);have ai:wr.heap.size<w2.heap.size:=(Ad.1 d).1;have f1:=AF w2 _ 1 _ _ _ d;have f2:=AF w2 _ 2 _ _ _ d;clear b d;go_wp2;go_ret
    exact⟨aD HX.o.symm,j.o⟩
   ·have HX:=aA (af.o.trans (AJ h2));have au:=aA (ag.o h2)
    have h3:((Mw.fH m lv).isSome&&((Mw.fH m lv).getD 0 != wy))=false:=by
     cases q:(Mw.fH m lv).isSome
     ·rfl
     ·rw[Cw];by_cases q2:(Mw.fH m lv).getD 0=wy
      ·rw[q2];simp
      ·exact absurd ⟨q,q2⟩ h2
    generalize qs:(Mw.fH m lv).isSome=kn at f h3;generalize qg:(Mw.fH m lv).getD 0=zs at f h3;clear h2 qs qg ag af HR HE;by_cases hp:0<lv
    ·have HP:=aA (aa.o hp);cases kn
     rotate_left
     focus
      have h4:(zs != wy)=false:=by simpa using h3
      clear h3
     all_goals
      go_wp2_with fail
      refine(r.o _).mono ?_;rintro _ w2 ⟨rfl,b⟩;have j:=aA ((i.o _).trans (b.mono (i.o _).size));have d:=(b.block wr.heap.size σ).trans (AI wr _);have ai:wr.heap.size<w2.heap.size:=(Ad.1 d).1;have f1:=AF w2 _ 1 _ _ _ d;have f2:=AF w2 _ 2 _ _ _ d;have aj:=aA (ad.o.kept (aL b none) σ);have av:=aA (fun(x:World) (h:w2.grownBy x (some w.heap.size))=>(AF x _ 1 _ _ _ ((h.block wr.heap.size ai (fun e=>by injection e with e;omega)).trans d)));clear b d;have am:=aA (Mw.run_store (x:=lv) aj.o Hc underlying183 ac.o.1 (.int .i64 wy) au.o);rw[<-HP.o]at am;clear f;go_wp2_with (at_mapUpdate;refine Mw.iy rfl _ _ _ _ rfl am.o rfl rfl rfl ?_;rintro w3 ⟨ao,ak⟩;have f3:=av.o _ ak)
      have aw:=aA (Eh j.o ak j.o.size (fun k e=>by injection e with e;omega));have ax:=aA ao;clear ao ak;go_roundw
      case rel=>exact⟨k+1,_,_,ω,ν,rfl,HX,aw.o,ax⟩
      case measure=>simp[intOf];omega
    ·have HP:=aA (ah.o hp);have a0:=Fb.1 hp;clear hp;cases kn
     rotate_left
     focus
      have h4:(zs != wy)=false:=by simpa using h3
      clear h3
     all_goals
      go_wp2_with fail
      refine(r.o _).mono ?_;rintro _ w2 ⟨rfl,b⟩;have j:=aA ((i.o _).trans (b.mono (i.o _).size));have d:=(b.block wr.heap.size σ).trans (AI wr _);have ai:wr.heap.size<w2.heap.size:=(Ad.1 d).1;have f1:=AF w2 _ 1 _ _ _ d;have f2:=AF w2 _ 2 _ _ _ d;have aj:=aA (ad.o.kept (aL b none) σ);clear b d;rw[HP.o]at HX;clear f;go_wp2;go_roundw
      case rel=>exact⟨k+1,_,_,ω,ν,rfl,HX,j.o,aj⟩
      case measure=>simp[intOf];omega
  ·obtain rfl:k=ts.length:=ω
   have hL:=Mw.sH HM.o underlying183 3;have HX:=aA (HE.o.trans (SY (Af _) m g));rw[show(sv m).length=m.length by simp[sv]]at hL;generalize m.length=q at *;clear hb;go_wp2_with (simp only[hL])
   go_ret
   exact⟨aD HX.o.symm,HB.o⟩
def oo (z:Int):Bool:=decide (0<=z)
def tF (G:Gm.Gr) (z:Int):Bool:=!Gm.has G z
theorem P4 (A:Option Addr) (c B:Nat) (l:List Int) (w:World) (hr:gg w B A l) (hB:B<=w.heap.size) (ab:(l.length:Int)<=9223372036854775807) :
  Calls prog 107 #[.slice A l.length c,.func (Fn.func 157) #[] #[]] w fun e w'=>∃n:Int,e=.returned (.int .i64 n)/\decide (0<=n)=l.any oo/\β w w':=by
 have HT:=aA hr;have ac:=aA (AB w.heap.size w);clear hr
 go_enter func107,ntmps107
 go_wp2;go_loopw [8] (fun vi wr=>∃(k:Nat),k<=l.length/\vi=.int .i64 k/\Hid (rP l (fun z=>!oo z) k)/\β w wr) (fun vi _=>l.length-(intOf vi).toNat)
 case atStart=>exact⟨0,Bb _,rfl,aA (rP.zero _ _),ac.o⟩
 case round =>
  obtain⟨k,hk,rfl,HA,hb⟩:=hrel;have HB:=aA hb;by_cases hlt:k<l.length
  ·obtain⟨g,o,rfl,ad,hc⟩:=HT.o ω;have k0:=(hb.cell (p:=⟨g,o+k,none⟩) (Aj ad hB)).trans (hc k hlt);rw[L.fy hlt]at k0;have HC:=aA (fun(x:World) (_:β w x)=>(K5 l[k] x).mono (fun e w' h=>⟨h.1,by rw[h.2];exact AB _ _⟩:∀e w',_->(e=.returned (.bool (oo l[k]))/\β x w')));have HN:=aA (fun h=>HA.o.next hlt h);have HY:=aA (fun(h:oo l[k]=true)=>(ER.2 ⟨_,AD hlt,h⟩:l.any oo=true));clear hb hc;obtain⟨z,qz⟩:∃z,z=l[k]:=⟨_,rfl⟩
   rw[<-qz]at k0 HC HN HY;clear qz;cases q:oo z
   ·have HX:=aA (HN.o (by simp only[q];rfl));rw[q]at HC;clear q HN HY;go_wp2_with fail
    refine(HC.o _ HB.o).mono ?_;rintro _ w2 ⟨rfl,b⟩;have aa:=aA (HB.o.trans (b.mono HB.o.size));clear b;go_wp2;go_roundw
    case rel=>exact⟨k+1,ω,ν,HX,aa.o⟩
    case measure=>simp[intOf];omega
   ·have HX:=aA (HY.o q);rw[q]at HC;clear q HN HY;go_wp2_with fail
    refine(HC.o _ HB.o).mono ?_;rintro _ w2 ⟨rfl,b⟩;have aa:=aA (HB.o.trans (b.mono HB.o.size));clear b;go_wp2;go_ret
    exact⟨k,rfl,by rw[HX.o];simp,aa.o⟩
  ·obtain rfl:k=l.length:=ω
   have HX:Hid (l.any oo=false):=aA (by
    rw[EF];intro z hz;obtain⟨i,hi,rfl⟩:=BG hz
    have:=HA.o i hi hi
    simpa using this)
   clear hb;go_wp2;go_ret
   exact⟨-1,rfl,by rw[HX.o];rfl,HB.o⟩
theorem OG (A:Option Addr) (c B:Nat) (l:List Int) (w:World) (hr:gg w B A l) (hB:B<=w.heap.size) (aa:(l.length:Int)<=9223372036854775807) :
  Calls prog 72 #[.slice A l.length c,.func (Fn.func 157) #[] #[]] w fun e w'=>e=.returned (.bool (l.any oo))/\β w w':=by
 have HI:=aA (P4 A c B l w hr hB aa);clear hr aa
 go_enter func72,ntmps72
 go_wp2_with fail
 refine HI.o.mono ?_;rintro _ w2 ⟨n,rfl,hn,hb⟩;have HN:=aA hn;have HB:=aA hb;clear hn hb;go_wp2;go_ret
 exact⟨aD HN.o,HB.o⟩
theorem P5 (v:Value) (G:Gm.Gr) (B gb:Nat) (z:Int) (a:Array Value) (hv:v=.agg a) (hz:Gm.In z) (w:World) (hg:aT w B v G) (hb:w.heap[gb]?=some (.cells a 26 (0,0))) :
  Calls prog 155 #[.int .i64 z,.pointer (some ⟨gb,0,none⟩)] w fun e w'=>e=.returned (.bool (tF G z))/\β w w':=by
 have HH:=aA (JQ v G B z hz w hg);obtain⟨AT,cT,AN,cN,AR,cR,rfl,_⟩:=hg;injection hv with hv;subst hv;have c0:=AF w gb 0 _ _ _ hb;have c1:=AF w gb 1 _ _ _ hb;have c2:=AF w gb 2 _ _ _ hb;have c3:=AF w gb 3 _ _ _ hb;clear hb hz
 go_enter func155,ntmps155
 go_wp2_with fail
 refine HH.o.mono ?_;rintro _ w2 ⟨rfl,hb⟩;have HB:=aA hb;clear hb;go_wp2;go_ret
 exact⟨rfl,HB.o⟩
theorem Qj (A:Option Addr) (c B:Nat) (l:List Int) (w:World) (G:Gm.Gr) (gb B2:Nat) (a:Array Value) (ac:∀z∈l,Gm.In z) (hg:∀x:World,β w x->aT x B2 (.agg a) G) (aa:∀x:World,β w x->x.heap[gb]?=some (.cells a 26 (0,0))) (hr:gg w B A l) (hB:B<=w.heap.size) (ad:(l.length:Int)<=9223372036854775807) :
  Calls prog 107 #[.slice A l.length c,.func (Fn.func 155) #[] #[.pointer (some ⟨gb,0,none⟩)]] w fun e w'=>∃n:Int,e=.returned (.int .i64 n)/\decide (0<=n)=l.any (tF G)/\β w w':=by
 have HT:=aA hr;have ae:=aA (AB w.heap.size w);have af:=aA ac;have HG:=aA hg;have ag:=aA aa;clear ac hg aa;clear hr
 go_enter func107,ntmps107
 go_wp2;go_loopw [8] (fun vi wr=>∃(k:Nat),k<=l.length/\vi=.int .i64 k/\Hid (rP l (fun z=>!(tF G) z) k)/\β w wr) (fun vi _=>l.length-(intOf vi).toNat)
 case atStart=>exact⟨0,Bb _,rfl,aA (rP.zero _ _),ae.o⟩
 case round =>
  obtain⟨k,hk,rfl,HA,hb⟩:=hrel;have HB:=aA hb;by_cases hlt:k<l.length
  ·obtain⟨g,o,rfl,aa,hc⟩:=HT.o ω;have k0:=(hb.cell (p:=⟨g,o+k,none⟩) (Aj aa hB)).trans (hc k hlt);rw[L.fy hlt]at k0;have HC:=aA (fun(x:World) (h:β w x)=>P5 (.agg a) G B2 gb l[k] a rfl (af.o _ (AD hlt)) x (HG.o x h) (ag.o x h));have HN:=aA (fun h=>HA.o.next hlt h);have HY:=aA (fun(h:(tF G) l[k]=true)=>(ER.2 ⟨_,AD hlt,h⟩:l.any (tF G)=true));clear hb hc;obtain⟨z,qz⟩:∃z,z=l[k]:=⟨_,rfl⟩
   rw[<-qz]at k0 HC HN HY;clear qz;cases q:(tF G) z
   ·have HX:=aA (HN.o (by simp only[q];rfl));rw[q]at HC;clear q HN HY;go_wp2_with fail
    refine(HC.o _ HB.o).mono ?_;rintro _ w2 ⟨rfl,b⟩;have ab:=aA (HB.o.trans (b.mono HB.o.size));clear b;go_wp2;go_roundw
    case rel=>exact⟨k+1,ω,ν,HX,ab.o⟩
    case measure=>simp[intOf];omega
   ·have HX:=aA (HY.o q);rw[q]at HC;clear q HN HY;go_wp2_with fail
    refine(HC.o _ HB.o).mono ?_;rintro _ w2 ⟨rfl,b⟩;have ab:=aA (HB.o.trans (b.mono HB.o.size));clear b;go_wp2;go_ret
    exact⟨k,rfl,by rw[HX.o];simp,ab.o⟩
  ·obtain rfl:k=l.length:=ω
   have HX:Hid (l.any (tF G)=false):=aA (by
    rw[EF];intro z hz;obtain⟨i,hi,rfl⟩:=BG hz
    have:=HA.o i hi hi
    simpa using this)
   clear hb;go_wp2;go_ret
   exact⟨-1,rfl,by rw[HX.o];rfl,HB.o⟩
theorem Ou (A:Option Addr) (c B:Nat) (l:List Int) (w:World) (G:Gm.Gr) (gb B2:Nat) (a:Array Value) (ab:∀z∈l,Gm.In z) (hg:∀x:World,β w x->aT x B2 (.agg a) G) (ac:∀x:World,β w x->x.heap[gb]?=some (.cells a 26 (0,0))) (hr:gg w B A l) (hB:B<=w.heap.size) (aa:(l.length:Int)<=9223372036854775807) :
  Calls prog 72 #[.slice A l.length c,.func (Fn.func 155) #[] #[.pointer (some ⟨gb,0,none⟩)]] w fun e w'=>e=.returned (.bool (l.any (tF G)))/\β w w':=by
 have HI:=aA (Qj A c B l w G gb B2 a ab hg ac hr hB aa);clear hr aa ab hg ac
 go_enter func72,ntmps72
 go_wp2_with fail
 refine HI.o.mono ?_;rintro _ w2 ⟨n,rfl,hn,hb⟩;have HN:=aA hn;have HB:=aA hb;clear hn hb;go_wp2;go_ret
 exact⟨aD HN.o,HB.o⟩
end Go.Proofs.YtjjbaehamplnaaaGreat
