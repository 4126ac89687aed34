/- Part of the proofs over this program: CfgRef, CalmT, CfgRef2, CfgRef3, MapW, CfgNames, CfgLevels, CfgRules. -/
import Derived.Maps.OwnSet
import Derived.Test.YtjjbaehamplnaaaGreatMA
set_option linter.all false
namespace Go
def Ei:=@Go.RowKit.Below.block
def CG:=@Bool.and_eq_false_iff
def EI:=@List.isEmpty_iff
def Ca:=@decide_eq_true_iff
def CE:=@Option.isSome_iff_exists
def AF:=@List.mem_singleton
def EK:=@Go.wpOp_step
def Am:=@List.getElem?_toArray
def Af:=@List.getElem?_cons_zero
def Ah:=@List.getElem?_cons_succ
def Aj:=@Go.wpQuiet_nil
def DH:=@List.all_eq_false
def EL:=@Int.not_lt
def EA:=@List.nodup_cons
def B8:=@Go.MapKept.run_getObj_map
def CL:=@List.mem_of_getElem?
def BG:=@Go.ChangeMaps.heap_setBlock_same
def B0:=@Go.ChangeMaps.heap_setBlock_other
def Cz:=@Go.MapKept.run_setObj_map
def Cn:=@Array.toList_push
def Ci:=@List.nodup_append
def Dq:=@Array.toList_modify
def DM:=@Go.ChangeMaps.modify_eq_set
def CX:=@List.ext_getElem?
def Dn:=@List.getElem?_set
def BQ:=@List.length_singleton
def BW:=@List.append_assoc
def D7:=@List.singleton_append
def EP:=@Go.RowKit.run_makeMap
def DP:=@Go.World.grownBy_alloc
def Bo:=@List.take_length
def Ej:=@List.take_zero
def Co:=@List.append_nil
def Dt:=@Go.WalkArith.wf_i64
def DS:=@List.any_eq_true
def DI:=@List.any_eq_false
end Go
set_option maxRecDepth 100000
set_option maxHeartbeats 40000000
variable {G:Go.Proofs.YtjjbaehamplnaaaGreat.Gm.Gr} {P:Go.Program} {cs:Array Go.Value} {k:Nat} {ops:Array Go.Oper} {rs:List Go.Proofs.YtjjbaehamplnaaaGreat.Gm.Rl} {ts:List Go.Proofs.YtjjbaehamplnaaaGreat.Gm.Tm} {w w' wr:Go.World}
namespace Go.Proofs.YtjjbaehamplnaaaGreat
open Go.RowKit
def One (w:World) (a:Array Value) (wr:World):Prop:=Below (w.heap.size+1) (w.alloc (.cells a 26)) wr
theorem One.start (w:World) (a:Array Value):One w a (w.alloc (.cells a 26)):=Aq _ _
theorem One.size {w wr:World} {a:Array Value} (h:One w a wr):w.heap.size+1<=wr.heap.size:=by have:=Below.size h;simpa using this
theorem One.below {a:Array Value} (h:One w a wr):Below w.heap.size w wr:=((Aq w.heap.size w).alloc (Ad _) _).trans (Below.mono h (by omega))
theorem One.on {wt:World} {a:Array Value} (h:One w a wr) (k:Below wr.heap.size wr wt):One w a wt:=Below.trans h (k.mono h.size)
theorem One.drewN {a:Array Value} (h:One w a wr) (n:Nat):One w a (wr.drewN n):=aB h n
theorem One.alloc {w wr:World} {a:Array Value} (h:One w a wr) (o:Obj):One w a (wr.alloc o):=Below.alloc h h.size o
theorem One.c {a:Array Value} (h:One w a wr) (j:Nat) (u:Value) (hj:a[j]?=some u):wr.cell? ⟨w.heap.size,j,none⟩=some u:=by
 have b0:=(Ei h w.heap.size (by omega)).trans (Az w _);exact(Aw wr _ j _ _ _ b0).trans hj
theorem za4 (s:List Int) (hs:K.Tx s) (w:World) :
  Calls Tryz.prog 108 #[.string (K.str s)] w fun e w'=>e=.returned (.bool (Gm.named s))/\w=w':=by
 have HN:=aA (fun w=>zbY s hs.1 w);have HL:=aA (fun w=>zcW s hs.1 w);unfold Gm.named;clear hs;cases q:T.isName s
 ·rw[q]at HN;clear q;generalize T.isLit s=b at *
  go_enter Tryz.func108,Tryz.ntmps108
  go_wp2_with fail
  refine(HN.o _).mono ?_;rintro _ _ ⟨rfl,rfl⟩;go_wp2_with fail
  refine(HL.o _).mono ?_;rintro _ _ ⟨rfl,rfl⟩;go_wp2;go_ret
  exact⟨aD (by simp),rfl⟩
 ·rw[q]at HN;clear q
  go_enter Tryz.func108,Tryz.ntmps108
  go_wp2_with fail
  refine(HN.o _).mono ?_;rintro _ _ ⟨rfl,rfl⟩;go_wp2;go_ret
  exact⟨aD (by simp),rfl⟩
theorem zjb {n:Int} (h:k<ts.length) (z:Int):Gm.lev n (ts.drop k) z=if ts[k].lv≠n then Gm.lev n (ts.drop (k+1)) z else if z≠0/\z≠ts[k].wy then false else Gm.lev n (ts.drop (k+1)) ts[k].wy:=by
 rw[Bx h,Gm.lev]
theorem zkI {n:Int} (h:ts.length<=k) (z:Int):Gm.lev n (ts.drop k) z=(z != 0):=by
 rw[BV h,Gm.lev]
theorem zhs (v:Value) (G:Gm.Gr) (n:Int) (B:Nat) (w:World) (hg:aQ w B v G) (hB:B<=w.heap.size) :
  Calls Tryz.prog 110 #[v,.int .i64 n] w fun e w'=>e=.returned (.bool (Gm.lev n G.ts 0))/\Below w.heap.size w w':=by
 obtain⟨AT,cT,AN,cN,AR,cR,rfl,⟨hl,hm⟩,_,_,ht,_,_⟩:=hg;have HT:=aA ht;have ac:=aA (One.start w #[.slice AT G.ts.length cT,.slice AN G.ns.length cN,.slice AR G.rs.length cR,.int .i64 G.st]);clear ht
 go_enter Tryz.func110,Tryz.ntmps110
 go_wp2;go_loopw [5,6] (fun vw vi wr=>∃(k:Nat) (z:Int),k<=G.ts.length/\vi=.int .i64 k/\vw=.int .i64 z/\Hid (Gm.lev n G.ts 0=Gm.lev n (G.ts.drop k) z)/\One w #[.slice AT G.ts.length cT,.slice AN G.ns.length cN,.slice AR G.rs.length cR,.int .i64 G.st] wr) (fun _ vi _=>G.ts.length-(intOf vi).toNat)
 case atStart=>exact⟨0,0,AX _,rfl,rfl,aA rfl,ac.o⟩
 case round =>
  obtain⟨k,z,hk,rfl,rfl,HE,hb⟩:=hrel;have HB:=aA hb;have q0:=hb.c 0 _ rfl;have hz:w.heap.size<wr.heap.size:=hb.size;have b:=hb.below;clear hb;by_cases aa:k<G.ts.length
  ·obtain⟨g,o,rfl,ab,hc⟩:=HT.o (by omega);have k0:=(b.cell (p:=⟨g,o+k*3,none⟩) (Ao ab hB)).trans (hc k aa).1;have k1:=(b.cell (p:=⟨g,o+k*3+1,none⟩) (Ao ab hB)).trans (hc k aa).2.1;have k2:=(b.cell (p:=⟨g,o+k*3+2,none⟩) (Ao ab hB)).trans (hc k aa).2.2;have af:g<wr.heap.size:=by omega
   have HN:=aA (HE.o.trans (zjb aa z));clear hc b;generalize G.ts[k].nm=nm at *;generalize G.ts[k].lv=lv at *;generalize G.ts[k].wy=wy at *;by_cases hx:lv=n
   ·subst hx;have ad:(lv != lv)=false:=by simp
    by_cases hy:z=0
    ·have HR:=aA (HN.o.trans ((AB (by simp)).trans (AB (by simp[hy]))));subst hy;go_wp2;go_roundw
     case rel=>exact⟨k+1,wy,by omega,by go_num,rfl,HR,HB.o.alloc _⟩
     case measure=>simp[intOf];omega
    ·have ag:(z != 0)=true:=by simpa using hy
     by_cases hq:z=wy
     ·have HR:=aA (HN.o.trans ((AB (by simp)).trans (AB (by simp[hq]))));have ae:(z != wy)=false:=by simpa using hq
      clear hq hy;go_wp2;go_roundw
      case rel=>exact⟨k+1,wy,by omega,by go_num,rfl,HR,HB.o.alloc _⟩
      case measure=>simp[intOf];omega
     ·have HR:=aA (HN.o.trans ((AB (by simp)).trans (Ap ⟨hy,hq⟩)));have ae:(z != wy)=true:=by simpa using hq
      clear hq hy;go_wp2;go_ret
      exact⟨aD HR.o.symm,(HB.o.alloc _).below⟩
   ·have HR:=aA (HN.o.trans (Ap hx));have ad:(lv != n)=true:=by simpa using hx
    clear hx;go_wp2;go_roundw
    case rel=>exact⟨k+1,z,by omega,by go_num,rfl,HR,HB.o.alloc _⟩
    case measure=>simp[intOf];omega
  ·obtain rfl:k=G.ts.length:=by omega
   have HR:=aA (HE.o.trans (zkI (Ad _) z));clear b;go_wp2;go_ret
   exact⟨aD HR.o.symm,HB.o.below⟩
theorem zaG (h:k<ts.length) (hn:Gm.term1 ts k ts[k]=false):Gm.terms ts=false:=by
 unfold Gm.terms;rw[CG];exact .inr (AM fun q=>by have:=q k h;rw[hn]at this;cases this)
theorem zfC (h:24<ts.length):Gm.terms ts=false:=by
 unfold Gm.terms;rw[AM (by omega)];rfl
def LvOk (ts:List Gm.Tm) (j:Nat):Prop:=∀m,m+1<j->Gm.lev ((m+1:Nat):Int) ts 0=true
def zle (ts:List Gm.Tm) (k:Nat):Prop:=∀i (h:i<ts.length),i<k->Gm.term1 ts i ts[i]=true
theorem zle.next (h:zle ts k) (hk:k<ts.length) (hn:Gm.term1 ts k ts[k]=true):zle ts (k+1):=fun i hi aa=>by
 rcases Bz i k with q|q
 ·exact h i hi q
 ·obtain rfl:i=k:=by omega
  exact hn
theorem zle.all (h:zle ts ts.length) (hl:ts.length<=24):Gm.terms ts=true:=by
 unfold Gm.terms;rw[AJ hl,AJ fun i hi=>h i hi hi];rfl
theorem zfN (v:Value) (G:Gm.Gr) (B:Nat) (w:World) (hg:aQ w B v G) (hf:Gm.Fit G) (hB:B<=w.heap.size) :
  Calls Tryz.prog 74 #[v] w fun e w'=>e=.returned (.bool (Gm.terms G.ts))/\Below w.heap.size w w':=by
 have HG:=aA hg;obtain⟨AT,cT,AN,cN,AR,cR,rfl,⟨hl,hm⟩,_,_,ht,_,_⟩:=hg;have HT:=aA ht;have HF:=aA hf;have ad:=aA (One.start w #[.slice AT G.ts.length cT,.slice AN G.ns.length cN,.slice AR G.rs.length cR,.int .i64 G.st]);clear ht hf;by_cases af:24<G.ts.length
 ·rw[zfC af]
  go_enter Tryz.func74,Tryz.ntmps74
  go_wp2;go_ret
  exact⟨rfl,ad.o.below⟩
 go_enter Tryz.func74,Tryz.ntmps74
 go_wp2;go_loopw [3] (fun vi wr=>∃(k:Nat),k<=G.ts.length/\vi=.int .i64 k/\zle G.ts k/\One w #[.slice AT G.ts.length cT,.slice AN G.ns.length cN,.slice AR G.rs.length cR,.int .i64 G.st] wr) (fun vi _=>G.ts.length-(intOf vi).toNat)
 case atStart=>exact⟨0,AX _,rfl,fun _ _ h=>by omega,ad.o⟩
 case round =>
  obtain⟨k,hk,rfl,HE,hb⟩:=hrel;have HE:=aA HE;have HB:=aA hb;have q0:=hb.c 0 _ rfl;have q1:=hb.c 1 _ rfl;have q2:=hb.c 2 _ rfl;have q3:=hb.c 3 _ rfl;have hz:w.heap.size<wr.heap.size:=hb.size;have y:=hb.below;clear hb;by_cases hlt:k<G.ts.length
  ·obtain⟨g,o,rfl,aa,hc⟩:=HT.o (by omega);have k0:=(y.cell (p:=⟨g,o+k*3,none⟩) (Ao aa hB)).trans (hc k hlt).1;have k1:=(y.cell (p:=⟨g,o+k*3+1,none⟩) (Ao aa hB)).trans (hc k hlt).2.1;have k2:=(y.cell (p:=⟨g,o+k*3+2,none⟩) (Ao aa hB)).trans (hc k hlt).2.2;have ak:g<wr.heap.size:=by omega
   have z:=HF.o.t _ (Ay hlt);have l:=aA (fun x=>za4 _ z.1 x);have r:=aA (fun(x:World) (h:One w #[.slice (some ⟨g,o,none⟩) G.ts.length cT,.slice AN G.ns.length cN,.slice AR G.rs.length cR,.int .i64 G.st] x)=>zbk _ G _ B x (HG.o.below h.below hB) HF.o z.1 (Ag hB h.below.size));have ag:=aA (fun(n:Int) (x:World) (h:One w #[.slice (some ⟨g,o,none⟩) G.ts.length cT,.slice AN G.ns.length cN,.slice AR G.rs.length cR,.int .i64 G.st] x)=>zhs _ G n B x (HG.o.below h.below hB) (Ag hB h.below.size));obtain⟨t,qt⟩:∃t,t=G.ts[k]:=⟨_,rfl⟩
   rw[<-qt]at k0 k1 k2 z l r;have QT:=aA qt.symm;have ae:=z.2.1;unfold Gm.In at ae;clear hc y qt z;unfold Gm.term at r;obtain⟨nm,lv,wy⟩:=t;simp only at k0 k1 k2 l r ae;by_cases c0:Gm.named nm=true
   case neg =>
    have c0':=Eb.2 c0;have HX:Hid (Gm.terms G.ts=false):=aA (zaG hlt (by rw[QT.o];unfold Gm.term1;simp[c0']));rw[c0']at l;clear c0 c0';go_wp2_with fail
    refine(l.o _).mono ?_;rintro _ _ ⟨rfl,rfl⟩;go_wp2;go_ret
    exact⟨aD HX.o.symm,(HB.o.alloc _).below⟩
   rw[c0]at l;have C0:=aA c0;clear c0;by_cases c1:Gm.find (Gm.names G.ts) nm=(k:Int)
   case neg =>
    have HX:Hid (Gm.terms G.ts=false):=aA (zaG hlt (by rw[QT.o];unfold Gm.term1;simp[c1]));have f1:(Gm.find (Gm.names G.ts) nm != (k:Int))=true:=by simpa using c1
    clear c1;go_wp2_with fail
    refine(l.o _).mono ?_;rintro _ _ ⟨rfl,rfl⟩;go_wp2_with fail
    refine(r.o _ (HB.o.alloc _)).mono ?_;rintro _ w2 ⟨rfl,f⟩;have i:=aA ((HB.o.alloc _).on f);have d:=(f.block wr.heap.size (by simp)).trans (Az wr _);have z2:wr.heap.size<w2.heap.size:=(Ac.1 d).1;have d0:=Aw w2 _ 0 _ _ _ d;have d1:=Aw w2 _ 1 _ _ _ d;have d2:=Aw w2 _ 2 _ _ _ d;have q0':=i.o.c 0 _ rfl;clear f d;go_wp2;go_ret
    exact⟨aD HX.o.symm,i.o.below⟩
   have f1:(Gm.find (Gm.names G.ts) nm != (k:Int))=false:=by simpa using c1
   have C1:=aA c1;clear c1;by_cases c2:0<=lv
   case neg =>
    have HX:Hid (Gm.terms G.ts=false):=aA (zaG hlt (by rw[QT.o];unfold Gm.term1;simp[c2]));have f2:=Int.not_le.1 c2;clear c2;go_wp2_with fail
    refine(l.o _).mono ?_;rintro _ _ ⟨rfl,rfl⟩;go_wp2_with fail
    refine(r.o _ (HB.o.alloc _)).mono ?_;rintro _ w2 ⟨rfl,f⟩;have i:=aA ((HB.o.alloc _).on f);have d:=(f.block wr.heap.size (by simp)).trans (Az wr _);have z2:wr.heap.size<w2.heap.size:=(Ac.1 d).1;have d0:=Aw w2 _ 0 _ _ _ d;have d1:=Aw w2 _ 1 _ _ _ d;have d2:=Aw w2 _ 2 _ _ _ d;have q0':=i.o.c 0 _ rfl;clear f d;go_wp2;go_ret
    exact⟨aD HX.o.symm,i.o.below⟩
   by_cases c3:lv<=24
   case neg =>
    have HX:Hid (Gm.terms G.ts=false):=aA (zaG hlt (by rw[QT.o];unfold Gm.term1;simp[c3]));have f3:=Int.not_le.1 c3;clear c3;go_wp2_with fail
    refine(l.o _).mono ?_;rintro _ _ ⟨rfl,rfl⟩;go_wp2_with fail
    refine(r.o _ (HB.o.alloc _)).mono ?_;rintro _ w2 ⟨rfl,f⟩;have i:=aA ((HB.o.alloc _).on f);have d:=(f.block wr.heap.size (by simp)).trans (Az wr _);have z2:wr.heap.size<w2.heap.size:=(Ac.1 d).1;have d0:=Aw w2 _ 0 _ _ _ d;have d1:=Aw w2 _ 1 _ _ _ d;have d2:=Aw w2 _ 2 _ _ _ d;have q0':=i.o.c 0 _ rfl;clear f d;go_wp2;go_ret
    exact⟨aD HX.o.symm,i.o.below⟩
   by_cases c4:0<=wy
   case neg =>
    have HX:Hid (Gm.terms G.ts=false):=aA (zaG hlt (by rw[QT.o];unfold Gm.term1;simp[c4]));have f4:=Int.not_le.1 c4;clear c4;go_wp2_with fail
    refine(l.o _).mono ?_;rintro _ _ ⟨rfl,rfl⟩;go_wp2_with fail
    refine(r.o _ (HB.o.alloc _)).mono ?_;rintro _ w2 ⟨rfl,f⟩;have i:=aA ((HB.o.alloc _).on f);have d:=(f.block wr.heap.size (by simp)).trans (Az wr _);have z2:wr.heap.size<w2.heap.size:=(Ac.1 d).1;have d0:=Aw w2 _ 0 _ _ _ d;have d1:=Aw w2 _ 1 _ _ _ d;have d2:=Aw w2 _ 2 _ _ _ d;have q0':=i.o.c 0 _ rfl;clear f d;go_wp2;go_ret
    exact⟨aD HX.o.symm,i.o.below⟩
   by_cases c5:wy<=3
   case neg =>
    have HX:Hid (Gm.terms G.ts=false):=aA (zaG hlt (by rw[QT.o];unfold Gm.term1;simp[c5]));have f5:=Int.not_le.1 c5;clear c5;go_wp2_with fail
    refine(l.o _).mono ?_;rintro _ _ ⟨rfl,rfl⟩;go_wp2_with fail
    refine(r.o _ (HB.o.alloc _)).mono ?_;rintro _ w2 ⟨rfl,f⟩;have i:=aA ((HB.o.alloc _).on f);have d:=(f.block wr.heap.size (by simp)).trans (Az wr _);have z2:wr.heap.size<w2.heap.size:=(Ac.1 d).1;have d0:=Aw w2 _ 0 _ _ _ d;have d1:=Aw w2 _ 1 _ _ _ d;have d2:=Aw w2 _ 2 _ _ _ d;have q0':=i.o.c 0 _ rfl;clear f d;go_wp2;go_ret
    exact⟨aD HX.o.symm,i.o.below⟩
   by_cases c6:((lv==0)==(wy==0))=true
   case neg =>
    have c6':=Eb.2 c6;have HX:Hid (Gm.terms G.ts=false):=aA (zaG hlt (by rw[QT.o];unfold Gm.term1;simp[c6']));obtain⟨b6,e5,e6⟩:∃b:Bool,(lv==0)=b/\(wy==0) = !b:=⟨(lv==0),rfl,by revert c6';cases (lv==0) <;> cases (wy==0) <;> simp⟩
    clear c6 c6';go_wp2_with fail
    refine(l.o _).mono ?_;rintro _ _ ⟨rfl,rfl⟩;go_wp2_with fail
    refine(r.o _ (HB.o.alloc _)).mono ?_;rintro _ w2 ⟨rfl,f⟩;have i:=aA ((HB.o.alloc _).on f);have d:=(f.block wr.heap.size (by simp)).trans (Az wr _);have z2:wr.heap.size<w2.heap.size:=(Ac.1 d).1;have d0:=Aw w2 _ 0 _ _ _ d;have d1:=Aw w2 _ 1 _ _ _ d;have d2:=Aw w2 _ 2 _ _ _ d;have q0':=i.o.c 0 _ rfl;clear f d;go_wp2;go_ret
    exact⟨aD HX.o.symm,i.o.below⟩
   obtain⟨b6,e5,e6⟩:∃b:Bool,(lv==0)=b/\(wy==0)=b:=⟨(lv==0),rfl,by revert c6;cases (lv==0) <;> cases (wy==0) <;> simp⟩
   have C6:=aA c6;clear c6;go_wp2_with fail
   refine(l.o _).mono ?_;rintro _ _ ⟨rfl,rfl⟩;go_wp2_with fail
   refine(r.o _ (HB.o.alloc _)).mono ?_;rintro _ w2 ⟨rfl,f⟩;have i:=aA ((HB.o.alloc _).on f);have d:=(f.block wr.heap.size (by simp)).trans (Az wr _);have z2:wr.heap.size<w2.heap.size:=(Ac.1 d).1;have d0:=Aw w2 _ 0 _ _ _ d;have d1:=Aw w2 _ 1 _ _ _ d;have d2:=Aw w2 _ 2 _ _ _ d;have q0':=i.o.c 0 _ rfl;have s:Hid (w2.heap[wr.heap.size]?=some (.cells #[.string (K.str nm),.int .i64 lv,.int .i64 wy] 85 (0,0))):=aA d;clear f d;go_wp2;obtain⟨wo,ah⟩:∃x:World,x=wr:=⟨_,rfl⟩
   subst ah;go_loopw [5] (fun vn wr=>∃(j:Nat),1<=j/\j<=25/\vn=.int .i64 j/\LvOk G.ts j/\One w #[.slice (some ⟨g,o,none⟩) G.ts.length cT,.slice AN G.ns.length cN,.slice AR G.rs.length cR,.int .i64 G.st] wr/\Hid (wr.heap[wo.heap.size]?=some (.cells #[.string (K.str nm),.int .i64 lv,.int .i64 wy] 85 (0,0)))) (fun vn _=>30-(intOf vn).toNat)
   case atStart=>exact⟨1,by omega,by omega,rfl,fun m h=>by omega,i.o,s⟩
   case round =>
    clear q0 q0' q1 q2 q3 k0 k1 k2 d0 d1 d2 z2 hz s i HB;obtain⟨j,al,am,rfl,HL,hb,s⟩:=hrel;have HL:=aA HL;have HB:=aA hb;have q0:=hb.c 0 _ rfl;have q1:=hb.c 1 _ rfl;have q2:=hb.c 2 _ rfl;have q3:=hb.c 3 _ rfl;have hz:w.heap.size<wr.heap.size:=hb.size;have z2:wo.heap.size<wr.heap.size:=(Ac.1 s.o).1;have d1:=Aw wr _ 1 _ _ _ s.o;clear hb;by_cases ao:(j:Int)<=lv
    ·have HC:=aA (ag.o (j:Int) _ HB.o);cases q:Gm.lev (j:Int) G.ts 0
     ·have HX:Hid (Gm.terms G.ts=false):=aA (zaG hlt (by
       rw[QT.o];unfold Gm.term1;rw[CG];refine .inr (AM fun ab=>?_)
       have:=ab (j-1) (by simp only;omega)
       rw[show j-1+1=j by omega,q]at this;cases this))
      rw[q]at HC;clear q;go_wp2_with fail
      refine HC.o.mono ?_;rintro _ w3 ⟨rfl,u⟩;have ac:=aA (HB.o.on u);clear u;go_wp2;go_ret
      exact⟨aD HX.o.symm,ac.o.below⟩
     ·rw[q]at HC
      have ai:Hid (LvOk G.ts (j+1)):=aA (fun m h=>by
       rcases Bz (m+1) j with h1|h1
       ·exact HL.o m h1
       ·obtain rfl:j=m+1:=by omega
        exact q)
      clear q;go_wp2_with fail
      refine HC.o.mono ?_;rintro _ w3 ⟨rfl,u⟩;have ac:=aA (HB.o.on u);have aj:Hid (w3.heap[wo.heap.size]?=some (.cells #[.string (K.str nm),.int .i64 lv,.int .i64 wy] 85 (0,0))):=aA ((u.block wo.heap.size z2).trans s.o);clear u;go_wp2;go_roundw
      case rel=>exact⟨j+1,by omega,by omega,by go_num,ai.o,ac.o,aj⟩
      case measure=>simp[intOf];omega
    ·have HX:Hid (zle G.ts (k+1)):=aA (HE.o.next hlt (by
      rw[QT.o];unfold Gm.term1;simp only[AQ,AV,BH];exact⟨⟨⟨⟨⟨⟨⟨C0.o,C1.o⟩,c2⟩,c3⟩,c4⟩,c5⟩,BH.1 C6.o⟩,fun n hn=>HL.o n (by omega)⟩))
     go_wp2;go_roundw
     case rel=>exact⟨k+1,by omega,by go_num,HX.o,HB.o⟩
     case measure=>simp[intOf];omega
  ·obtain rfl:k=G.ts.length:=by omega
   have HX:=aA (HE.o.all (by omega));clear y;go_wp2;go_ret
   exact⟨aD HX.o.symm,HB.o.below⟩
end Go.Proofs.YtjjbaehamplnaaaGreat
namespace Go.Calm
open Go.RowKit
section
variable {P:Program} {ops:Array Oper} {Q:Exit->Act->World->Prop} {md:Region.Mode}
inductive Ph where
 | fin (last:List Nat)
 | one (p:List Nat) (k:Nat) (t:Ph)
 | two (p:List Nat) (k:Nat) (t:Ph) (k2:Nat) (t2:Ph)
def wpSt (P:Program) (ops:Array Oper) (Q:Exit->Act->World->Prop) (o:Option Oper) (S:World->Prop) (T:(World->Prop)->Act->World->Prop) (a:Act) (w:World):Prop :=
 match o with
 | none=>True
 | some o=>∀K:Act->World->Prop,(∀a2 w2,S w2->∀S':World->Prop,(∀x,S' x->S x)->S' w2->T S' a2 w2->K a2 w2) ->
   if Region.wanted o (yielded ops a.tmps)=true then Oper.wp P o a w K Q else K (a.put o.dst undef) w
def wpT (P:Program) (ops:Array Oper) (Q:Exit->Act->World->Prop):Ph->(World->Prop)->Act->World->Prop
 | .fin last,S,a,w=>wpQuiet P ops S (fun a'=>Q .normal a' w) (pickOps ops last) a
 | .one p k t,S,a,w=>wpQuiet P ops S (fun a'=>wpSt P ops Q ops[k]? S (fun S' a2 w2=>wpT P ops Q t S' a2 w2) a' w) (pickOps ops p) a
 | .two p k t k2 t2,S,a,w=>wpQuiet P ops S (fun a'=>wpSt P ops Q ops[k]? S (fun S' a2 w2=>wpT P ops Q t S' a2 w2) a' w/\wpSt P ops Q ops[k2]? S (fun S' a2 w2=>wpT P ops Q t2 S' a2 w2) a' w) (pickOps ops p) a
def tB (md:Region.Mode) (ops:Array Oper):Ph->Array Bool->Nat->Bool
 | .fin last,l,n=>stillB md ops last l&&(Region.ready md ops (marked last l)).isEmpty&&(last.length==n)
 | .one p k t,l,n=>stillB md ops p l&&(match Region.ready md ops (marked p l) with | [j]=>j==k|_=>false)&&(ops[k]?).isSome&&decide (p.length+1<=n)&&tB md ops t ((marked p l).setIfInBounds k true) (n-(p.length+1))
 | .two p k t k2 t2,l,n=>stillB md ops p l&&(match Region.ready md ops (marked p l) with | [j,j2]=>j==k&&j2==k2|_=>false)&&(ops[k]?).isSome&&(ops[k2]?).isSome&&decide (p.length+1<=n)&&tB md ops t ((marked p l).setIfInBounds k true) (n-(p.length+1))&&tB md ops t2 ((marked p l).setIfInBounds k2 true) (n-(p.length+1))
theorem quiet_mono {S:World->Prop} {Q1 Q2:Act->Prop} (h:∀a,Q1 a->Q2 a):∀ {l:List Oper} {a:Act},wpQuiet P ops S Q1 l a->wpQuiet P ops S Q2 l a
 | [],_,k=>h _ k
 | o::r,a,k=>by
  unfold wpQuiet at k ⊢;split
  ·rename_i hw;rw[Ap hw]at k;obtain⟨v,h1,h2⟩:=k;exact⟨v,h1,quiet_mono h h2⟩
  ·rename_i hw;rw[AB hw]at k;exact quiet_mono h k
theorem any_of_t (hs:Region.noSelect ops=true) (hQ:∀c a d v w,Q (.panic c) (a.put d v) w->Q (.panic c) a w) :
  ∀(t:Ph) (S:World->Prop) (listed:Array Bool) (a:Act) (w:World) (n:Nat),tB md ops t listed n=true->S w->wpT P ops Q t S a w->wpAnyH P md ops Q S n listed a w
 | .fin last,S,listed,a,w,n,hb,hS,h=>by
  unfold tB at hb;simp only[AQ,EI,BH]at hb;obtain⟨⟨h1,h2⟩,rfl⟩:=hb;have e:last.length=last.length+0:=rfl;rw[e];refine still_block hs hQ hS 0 last listed a h1 ?_;exact quiet_mono (fun a' hq=>wpAnyH_done h2 hq 0) h
 | .one p k t,S,listed,a,w,n,hb,hS,h=>by
  unfold tB at hb;simp only[AQ,Ca]at hb;obtain⟨⟨⟨⟨h1,h2⟩,h3⟩,h5⟩,h4⟩:=hb;obtain⟨o,ho⟩:=CE.1 h3
  have aa:Region.ready md ops (marked p listed)=[k]:=by
   split at h2
   ·rename_i j hj;rw[hj];rw[BH]at h2;rw[h2]
   ·cases h2
  obtain⟨m,rfl⟩:∃m,n=p.length+(m+1):=⟨n-(p.length+1),by omega⟩
  rw[show p.length+(m+1)-(p.length+1)=m by omega]at h4;refine still_block hs hQ hS _ p listed a h1 ?_;unfold wpT at h;refine quiet_mono (fun a' hq=>?_) h;refine wpAnyH_all aa (by simp) fun i hi=>?_;rw[AF]at hi;subst hi;refine EK ho fun K' hK=>?_;rw[ho]at hq;refine hq K' fun a2 w2 h6 S' b f h7=>hK _ _ ⟨h6,?_⟩;exact anyH_mono b _ _ _ _ (any_of_t hs hQ t S' _ a2 w2 _ h4 f h7)
 | .two p k t k2 t2,S,listed,a,w,n,hb,hS,h=>by
  unfold tB at hb;simp only[AQ,Ca]at hb;obtain⟨⟨⟨⟨⟨⟨h1,h2⟩,h3⟩,ad⟩,h5⟩,h4⟩,ab⟩:=hb;obtain⟨o,ho⟩:=CE.1 h3;obtain⟨o2,ac⟩:=CE.1 ad
  have aa:Region.ready md ops (marked p listed)=[k,k2]:=by
   split at h2
   ·rename_i j j2 hj;rw[hj];simp only[AQ,BH]at h2;rw[h2.1,h2.2]
   ·cases h2
  obtain⟨m,rfl⟩:∃m,n=p.length+(m+1):=⟨n-(p.length+1),by omega⟩
  rw[show p.length+(m+1)-(p.length+1)=m by omega]at h4 ab;refine still_block hs hQ hS _ p listed a h1 ?_;unfold wpT at h;refine quiet_mono (fun a' hq=>?_) h;refine wpAnyH_all aa (by simp) fun i hi=>?_;rw[ho,ac]at hq;rcases Bq.1 hi with rfl|hi
  ·refine EK ho fun K' hK=>?_;refine hq.1 K' fun a2 w2 h6 S' b f h7=>hK _ _ ⟨h6,?_⟩;exact anyH_mono b _ _ _ _ (any_of_t hs hQ t S' _ a2 w2 _ h4 f h7)
  ·rw[AF]at hi;subst hi;refine EK ac fun K' hK=>?_;refine hq.2 K' fun a2 w2 h6 S' b f h7=>hK _ _ ⟨h6,?_⟩;exact anyH_mono b _ _ _ _ (any_of_t hs hQ t2 S' _ a2 w2 _ ab f h7)
theorem region_tree {id:Nat} {a:Act} {l:List Oper} (S:World->Prop) (t:Ph) (hm:P.follows .mixedOrders=true) (hB:(Region.noSelect l.toArray&&tB .any l.toArray t (Array.replicate l.toArray.size false) l.toArray.size)=true) (hQ:∀c a d v w,Q (.panic c) (a.put d v) w->Q (.panic c) a w) (hS:S w.drew) (h:wpT P l.toArray Q t S a w.drew):(Code.region id l.toArray true).wp P Q a w:=by
 simp only[AQ]at hB;refine wp_region_held (S:=S) hm ?_;exact any_of_t hB.1 hQ t S _ a w.drew _ hB.2 hS h
end
def OnR (R:Nat) (w:World):Type:={x:World // w.grownBy x (some R)}
instance (R:Nat) (w:World):Nonempty (OnR R w):=⟨⟨w,AI _ _⟩⟩
def OnB (g:Nat) (w:World):Type:={x:World // x.heap[g]?=w.heap[g]?}
instance (g:Nat) (w:World):Nonempty (OnB g w):=⟨⟨w,rfl⟩⟩
end Go.Calm
namespace Go.Proofs.YtjjbaehamplnaaaGreat
open Go.RowKit
theorem zfa {c:Bool} {a b:Prop} (h:c=false):(if c=true then a else b)=b:=by rw[h];rfl
theorem zel (h:k<G.ns.length) (hn:Gm.non1 G k G.ns[k]=false):Gm.nons G=false:=by
 unfold Gm.nons;rw[CG];exact .inr (AM fun q=>by have:=q k h;rw[hn]at this;cases this)
def zlj (G:Gm.Gr) (k:Nat):Prop:=∀i (h:i<G.ns.length),i<k->Gm.non1 G i G.ns[i]=true
theorem zlj.next (h:zlj G k) (hk:k<G.ns.length) (hn:Gm.non1 G k G.ns[k]=true):zlj G (k+1):=fun i hi aa=>by
 rcases Bz i k with q|q
 ·exact h i hi q
 ·obtain rfl:i=k:=by omega
  exact hn
theorem zlj.all (h:zlj G G.ns.length) (h1:1<=G.ns.length) (hl:G.ns.length<=16):Gm.nons G=true:=by
 unfold Gm.nons;rw[AJ h1,AJ hl,AJ fun i hi=>h i hi hi];rfl
theorem zgX (v:Value) (G:Gm.Gr) (B:Nat) (w:World) (hg:aQ w B v G) (hf:Gm.Fit G) (hB:B<=w.heap.size) :
  Calls Tryz.prog 75 #[v] w fun e w'=>e=.returned (.bool (Gm.nons G))/\Below w.heap.size w w':=by
 have HG:=aA hg;obtain⟨AT,cT,AN,cN,AR,cR,rfl,_,⟨hl,hm⟩,_,_,ht,_⟩:=hg;have HT:=aA ht;have HF:=aA hf;have aa:=aA (One.start w #[.slice AT G.ts.length cT,.slice AN G.ns.length cN,.slice AR G.rs.length cR,.int .i64 G.st]);clear ht hf;by_cases h1:G.ns.length<1
 ·have HX:Hid (Gm.nons G=false):=aA (by unfold Gm.nons;rw[AM (by omega)];rfl);rw[HX.o]
  go_enter Tryz.func75,Tryz.ntmps75
  go_wp2;go_ret
  exact⟨rfl,aa.o.below⟩
 by_cases ae:16<G.ns.length
 ·have HX:Hid (Gm.nons G=false):=aA (by unfold Gm.nons;rw[AM (show ¬G.ns.length<=16 by omega)];simp);rw[HX.o]
  go_enter Tryz.func75,Tryz.ntmps75
  go_wp2;go_ret
  exact⟨rfl,aa.o.below⟩
 go_enter Tryz.func75,Tryz.ntmps75
 go_wp2;go_loopw [3] (fun vi wr=>∃(k:Nat),k<=G.ns.length/\vi=.int .i64 k/\zlj G k/\One w #[.slice AT G.ts.length cT,.slice AN G.ns.length cN,.slice AR G.rs.length cR,.int .i64 G.st] wr) (fun vi _=>G.ns.length-(intOf vi).toNat)
 case atStart=>exact⟨0,AX _,rfl,fun _ _ h=>by omega,aa.o⟩
 case round =>
  obtain⟨k,hk,rfl,HE,hb⟩:=hrel;have HE:=aA HE;have HB:=aA hb;have q1:=hb.c 1 _ rfl;have hz:w.heap.size<wr.heap.size:=hb.size;have ab:=hb.below;by_cases hlt:k<G.ns.length
  ·obtain⟨g,o,rfl,ac,hc⟩:=HT.o (by omega);have k0:=(ab.cell (p:=⟨g,o+k,none⟩) (Ao ac hB)).trans (hc k hlt);have ad:g<wr.heap.size:=by omega
   have A:=HF.o.n _ (Ay hlt);have l:=aA (fun x=>zbY _ A.1 x);have u:=aA (fun(x:World) (h:One w #[.slice AT G.ts.length cT,.slice (some ⟨g,o,none⟩) G.ns.length cN,.slice AR G.rs.length cR,.int .i64 G.st] x)=>zbk _ G _ B x (HG.o.below h.below hB) HF.o A (Ag hB h.below.size));have z:=aA (fun(x:World) (h:One w #[.slice AT G.ts.length cT,.slice (some ⟨g,o,none⟩) G.ns.length cN,.slice AR G.rs.length cR,.int .i64 G.st] x)=>zeO _ G _ B x (HG.o.below h.below hB) HF.o A (Ag hB h.below.size));obtain⟨s,qs⟩:∃t,t=G.ns[k]:=⟨_,rfl⟩
   rw[<-qs]at k0 A l u z;have QS:=aA qs.symm;have kk0:(0:Int)<=(k:Int):=by omega
   have kk1:(k:Int)<(G.ns.length:Int):=by omega
   have q0:=hb.c 0 _ rfl;have q2:=hb.c 2 _ rfl;have q3:=hb.c 3 _ rfl;have f:=aA (aB (Aq wr.heap.size wr) 1);have A0:=fun y:Calm.On wr.heap.size wr=>(y.2.cell (p:=⟨g,o+k,none⟩) ad).trans k0;have Q0:=fun y:Calm.On wr.heap.size wr=>(y.2.cell (p:=⟨w.heap.size,0,none⟩) hz).trans q0;have Q1:=fun y:Calm.On wr.heap.size wr=>(y.2.cell (p:=⟨w.heap.size,1,none⟩) hz).trans q1;have Q2:=fun y:Calm.On wr.heap.size wr=>(y.2.cell (p:=⟨w.heap.size,2,none⟩) hz).trans q2;have Q3:=fun y:Calm.On wr.heap.size wr=>(y.2.cell (p:=⟨w.heap.size,3,none⟩) hz).trans q3;clear hc ab qs A hb q0 q2 q3;unfold Gm.term at u;unfold Gm.non at z;by_cases c0:T.isName s=true
   case neg =>
    have HX:Hid (Gm.nons G=false):=aA (zel hlt (by rw[QS.o];unfold Gm.non1;simp[Eb.2 c0]));rw[Eb.2 c0]at l;clear c0 z u;go_wp2_with fail
    refine Calm.region_tree (fun x=>∃y:Calm.On wr.heap.size wr,x=y.1) (.one [0,1,2,3,4] 5 (.one [6,7,8,9,10,11,12,13,15] 14 (.one [16,17,18,19,20,21,22,23,24] 25 (.fin [26,27])))) (by kernel_rfl) (by kernel_rfl) (fun _ _ d _ _ h=>by cases d <;> exact h) ⟨⟨wr.drew,aB (Aq _ _) 1⟩,rfl⟩ ?_;clear q1 k0;simp only[Calm.wpT,Calm.wpSt,Calm.pickOps,Am,Af,Ah];repeat (go_big_quiet_step (fail))
    refine Aj ?_;intro KK b;rw[Ap (by rfl)];go_wp2_with fail
    refine(l.o _).mono ?_;rintro _ _ ⟨rfl,rfl⟩;go_wp2_with fail
    refine b _ _ ⟨⟨_,f.o⟩,rfl⟩ _ (fun _ h=>h) ⟨⟨_,f.o⟩,rfl⟩ ?_;repeat (go_big_quiet_step (fail))
    refine Aj ?_;intro KK b;rw[zfa (by rfl)];refine b _ _ ⟨⟨_,f.o⟩,rfl⟩ _ (fun _ h=>h) ⟨⟨_,f.o⟩,rfl⟩ ?_
    go_frame
    repeat (go_big_quiet_step (fail))
    refine Aj ?_;intro KK b;rw[zfa (by rfl)];refine b _ _ ⟨⟨_,f.o⟩,rfl⟩ _ (fun _ h=>h) ⟨⟨_,f.o⟩,rfl⟩ ?_
    go_frame
    repeat (go_big_quiet_step (fail))
    refine Aj ?_;clear b A0 Q0;have m:=aA (HB.o.on f.o);go_wp2;go_ret
    exact⟨aD HX.o.symm,m.o.below⟩
   rw[c0]at l;by_cases c1:Gm.find G.ns s=(k:Int)
   case neg =>
    have HX:Hid (Gm.nons G=false):=aA (zel hlt (by rw[QS.o];unfold Gm.non1 Gm.non;simp[c1]));have f1:(Gm.find G.ns s != (k:Int))=true:=by simpa using c1
    clear c0 c1 u;go_wp2_with fail
    refine Calm.region_tree (fun x=>∃y:Calm.On wr.heap.size wr,x=y.1) (.one [0,1,2,3,4] 5 (.one [6,7,8,9,10,11,12,13,15] 14 (.one [16,17,18,19,20,21,22,23,24] 25 (.fin [26,27])))) (by kernel_rfl) (by kernel_rfl) (fun _ _ d _ _ h=>by cases d <;> exact h) ⟨⟨wr.drew,aB (Aq _ _) 1⟩,rfl⟩ ?_;clear q1 k0;simp only[Calm.wpT,Calm.wpSt,Calm.pickOps,Am,Af,Ah];repeat (go_big_quiet_step (fail))
    refine Aj ?_;intro KK b;rw[Ap (by rfl)];go_wp2_with fail
    refine(l.o _).mono ?_;rintro _ _ ⟨rfl,rfl⟩;go_wp2_with fail
    refine b _ _ ⟨⟨_,f.o⟩,rfl⟩ _ (fun _ h=>h) ⟨⟨_,f.o⟩,rfl⟩ ?_;repeat (go_big_quiet_step (fail))
    refine Aj ?_;intro KK b;rw[Ap (by rfl)];go_wp2_with fail
    refine(z.o _ (HB.o.on f.o)).mono ?_;rintro _ w2 ⟨rfl,j⟩;have i:=aA (f.o.trans (j.mono f.o.size));clear j;go_wp2_with fail
    refine b _ _ ⟨⟨_,i.o⟩,rfl⟩ _ (fun _ h=>h) ⟨⟨_,i.o⟩,rfl⟩ ?_;repeat (go_big_quiet_step (fail))
    refine Aj ?_;intro KK b;rw[zfa (by rfl)];refine b _ _ ⟨⟨_,i.o⟩,rfl⟩ _ (fun _ h=>h) ⟨⟨_,i.o⟩,rfl⟩ ?_
    go_frame
    repeat (go_big_quiet_step (fail))
    refine Aj ?_;clear b A0 Q0;have m:=aA (HB.o.on i.o);go_wp2;go_ret
    exact⟨aD HX.o.symm,m.o.below⟩
   have f1:(Gm.find G.ns s != (k:Int))=false:=by simpa using c1
   by_cases c2:Gm.find (Gm.names G.ts) s<0
   case neg =>
    have HX:Hid (Gm.nons G=false):=aA (zel hlt (by rw[QS.o];unfold Gm.non1 Gm.term;rw[AM c2];simp));have f2:decide (0<=Gm.find (Gm.names G.ts) s)=true:=by simp;omega
    clear c0 c1 c2;go_wp2_with fail
    refine Calm.region_tree (fun x=>∃y:Calm.On wr.heap.size wr,x=y.1) (.one [0,1,2,3,4] 5 (.one [6,7,8,9,10,11,12,13,15] 14 (.one [16,17,18,19,20,21,22,23,24] 25 (.fin [26,27])))) (by kernel_rfl) (by kernel_rfl) (fun _ _ d _ _ h=>by cases d <;> exact h) ⟨⟨wr.drew,aB (Aq _ _) 1⟩,rfl⟩ ?_;clear q1 k0;simp only[Calm.wpT,Calm.wpSt,Calm.pickOps,Am,Af,Ah];repeat (go_big_quiet_step (fail))
    refine Aj ?_;intro KK b;rw[Ap (by rfl)];go_wp2_with fail
    refine(l.o _).mono ?_;rintro _ _ ⟨rfl,rfl⟩;go_wp2_with fail
    refine b _ _ ⟨⟨_,f.o⟩,rfl⟩ _ (fun _ h=>h) ⟨⟨_,f.o⟩,rfl⟩ ?_;repeat (go_big_quiet_step (fail))
    refine Aj ?_;intro KK b;rw[Ap (by rfl)];go_wp2_with fail
    refine(z.o _ (HB.o.on f.o)).mono ?_;rintro _ w2 ⟨rfl,j⟩;have i:=aA (f.o.trans (j.mono f.o.size));clear j;go_wp2_with fail
    refine b _ _ ⟨⟨_,i.o⟩,rfl⟩ _ (fun _ h=>h) ⟨⟨_,i.o⟩,rfl⟩ ?_;repeat (go_big_quiet_step (fail))
    refine Aj ?_;intro KK b;rw[Ap (by rfl)];go_wp2_with fail
    refine(u.o _ (HB.o.on i.o)).mono ?_;rintro _ w3 ⟨rfl,C⟩;have r:=aA (i.o.trans (C.mono i.o.size));clear C;go_wp2_with fail
    refine b _ _ ⟨⟨_,r.o⟩,rfl⟩ _ (fun _ h=>h) ⟨⟨_,r.o⟩,rfl⟩ ?_;repeat (go_big_quiet_step (fail))
    refine Aj ?_;clear b A0 Q0;have m:=aA (HB.o.on r.o);go_wp2;go_ret
    exact⟨aD HX.o.symm,m.o.below⟩
   have HX:Hid (zlj G (k+1)):=aA (HE.o.next hlt (by rw[QS.o];unfold Gm.non1 Gm.non Gm.term;rw[c0,AJ c2,c1];simp));have f2:decide (0<=Gm.find (Gm.names G.ts) s)=false:=by simp;omega
   clear c0 c1 c2;go_wp2_with fail
   refine Calm.region_tree (fun x=>∃y:Calm.On wr.heap.size wr,x=y.1) (.one [0,1,2,3,4] 5 (.one [6,7,8,9,10,11,12,13,15] 14 (.one [16,17,18,19,20,21,22,23,24] 25 (.fin [26,27])))) (by kernel_rfl) (by kernel_rfl) (fun _ _ d _ _ h=>by cases d <;> exact h) ⟨⟨wr.drew,aB (Aq _ _) 1⟩,rfl⟩ ?_;clear q1 k0;simp only[Calm.wpT,Calm.wpSt,Calm.pickOps,Am,Af,Ah];repeat (go_big_quiet_step (fail))
   refine Aj ?_;intro KK b;rw[Ap (by rfl)];go_wp2_with fail
   refine(l.o _).mono ?_;rintro _ _ ⟨rfl,rfl⟩;go_wp2_with fail
   refine b _ _ ⟨⟨_,f.o⟩,rfl⟩ _ (fun _ h=>h) ⟨⟨_,f.o⟩,rfl⟩ ?_;repeat (go_big_quiet_step (fail))
   refine Aj ?_;intro KK b;rw[Ap (by rfl)];go_wp2_with fail
   refine(z.o _ (HB.o.on f.o)).mono ?_;rintro _ w2 ⟨rfl,j⟩;have i:=aA (f.o.trans (j.mono f.o.size));clear j;go_wp2_with fail
   refine b _ _ ⟨⟨_,i.o⟩,rfl⟩ _ (fun _ h=>h) ⟨⟨_,i.o⟩,rfl⟩ ?_;repeat (go_big_quiet_step (fail))
   refine Aj ?_;intro KK b;rw[Ap (by rfl)];go_wp2_with fail
   refine(u.o _ (HB.o.on i.o)).mono ?_;rintro _ w3 ⟨rfl,C⟩;have r:=aA (i.o.trans (C.mono i.o.size));clear C;go_wp2_with fail
   refine b _ _ ⟨⟨_,r.o⟩,rfl⟩ _ (fun _ h=>h) ⟨⟨_,r.o⟩,rfl⟩ ?_;repeat (go_big_quiet_step (fail))
   refine Aj ?_;clear b A0 Q0;have m:=aA (HB.o.on r.o);go_wp2;go_roundw
   case rel=>exact⟨k+1,by omega,by go_num,HX.o,m.o⟩
   case measure=>simp[intOf];omega
  ·obtain rfl:k=G.ns.length:=by omega
   have HX:=aA (HE.o.all (by omega) (by omega));clear ab hb;go_wp2;go_ret
   exact⟨aD HX.o.symm,HB.o.below⟩
theorem zgR {x:Gm.Rl} (h:k<x.r.length) (hn:(Gm.has G x.r[k] && !(decide (0<=x.r[k])&&x.p == -1))=false):Gm.rule G x=false:=by
 unfold Gm.rule;rw[CG];refine .inr ?_;rw[DH];exact⟨_,Ay h,by rw[hn];simp⟩
def zj3 (G:Gm.Gr) (x:Gm.Rl) (k:Nat):Prop:=∀i (h:i<x.r.length),i<k->(Gm.has G x.r[i] && !(decide (0<=x.r[i])&&x.p == -1))=true
theorem zj3.next {x:Gm.Rl} (h:zj3 G x k) (hk:k<x.r.length) (hn:(Gm.has G x.r[k] && !(decide (0<=x.r[k])&&x.p == -1))=true):zj3 G x (k+1):=fun i hi aa=>by
 rcases Bz i k with q|q
 ·exact h i hi q
 ·obtain rfl:i=k:=by omega
  exact hn
theorem zj3.all {x:Gm.Rl} (h:zj3 G x x.r.length) (h1:x.r.length<=6) (h2:-1<=x.p) (h3:x.p<G.ts.length):Gm.rule G x=true:=by
 unfold Gm.rule;rw[AJ h1,AJ h2,AJ h3];simp only[Cj];rw[BP];intro z hz;obtain⟨i,hi,rfl⟩:=BB hz;exact h i hi hi
theorem zgU (v:Value) (G:Gm.Gr) (B:Nat) (x:Gm.Rl) (A:Option Addr) (c:Nat) (w:World) (hg:aQ w B v G) (hr:RdI w B A x.r) (hx:∀z∈x.r,Gm.In z) (hB:B<=w.heap.size) :
  Calls Tryz.prog 76 #[v,.agg #[.int .i64 x.l,.slice A x.r.length c,.int .i64 x.p]] w fun e w'=>e=.returned (.bool (Gm.rule G x))/\Below w.heap.size w w':=by
 have HG:=aA hg;obtain⟨AT,cT,AN,cN,AR,cR,rfl,_,_,_,_,_,_⟩:=hg;have HT:=aA hr;have HF:=aA hx;have aa:=aA ((One.start w #[.slice AT G.ts.length cT,.slice AN G.ns.length cN,.slice AR G.rs.length cR,.int .i64 G.st]).alloc (.cells #[.int .i64 x.l,.slice A x.r.length c,.int .i64 x.p] 74))
 have ae:Hid (((w.alloc (.cells #[.slice AT G.ts.length cT,.slice AN G.ns.length cN,.slice AR G.rs.length cR,.int .i64 G.st] 26)).alloc (.cells #[.int .i64 x.l,.slice A x.r.length c,.int .i64 x.p] 74)).heap[w.heap.size+1]?=some (.cells #[.int .i64 x.l,.slice A x.r.length c,.int .i64 x.p] 74 (0,0))):=aA (by
  have:=Az (w.alloc (.cells #[.slice AT G.ts.length cT,.slice AN G.ns.length cN,.slice AR G.rs.length cR,.int .i64 G.st] 26)) (.cells #[.int .i64 x.l,.slice A x.r.length c,.int .i64 x.p] 74)
  simpa using this)
 clear hr hx;by_cases h1:6<x.r.length
 ·have HX:Hid (Gm.rule G x=false):=aA (by unfold Gm.rule;rw[AM (show ¬x.r.length<=6 by omega)];rfl);rw[HX.o]
  go_enter Tryz.func76,Tryz.ntmps76
  go_wp2;go_ret
  exact⟨rfl,aa.o.below⟩
 by_cases h2:x.p < -1
 ·have HX:Hid (Gm.rule G x=false):=aA (by unfold Gm.rule;rw[AM (show ¬ -1<=x.p by omega)];simp);rw[HX.o]
  go_enter Tryz.func76,Tryz.ntmps76
  go_wp2;go_ret
  exact⟨rfl,aa.o.below⟩
 by_cases h3:(G.ts.length:Int)<=x.p
 ·have HX:Hid (Gm.rule G x=false):=aA (by unfold Gm.rule;rw[AM (show ¬x.p<(G.ts.length:Int) by omega)];simp);rw[HX.o]
  go_enter Tryz.func76,Tryz.ntmps76
  go_wp2;go_ret
  exact⟨rfl,aa.o.below⟩
 go_enter Tryz.func76,Tryz.ntmps76
 go_wp2;go_loopw [5] (fun vi wr=>∃(k:Nat),k<=x.r.length/\vi=.int .i64 k/\zj3 G x k/\One w #[.slice AT G.ts.length cT,.slice AN G.ns.length cN,.slice AR G.rs.length cR,.int .i64 G.st] wr/\Hid (wr.heap[w.heap.size+1]?=some (.cells #[.int .i64 x.l,.slice A x.r.length c,.int .i64 x.p] 74 (0,0)))) (fun vi _=>x.r.length-(intOf vi).toNat)
 case atStart=>exact⟨0,AX _,rfl,fun _ _ h=>by omega,aa.o,ae⟩
 case round =>
  obtain⟨k,hk,rfl,HE,hb,m⟩:=hrel;have HE:=aA HE;have HB:=aA hb;have hz:w.heap.size<wr.heap.size:=hb.size;have n:w.heap.size+1<wr.heap.size:=(Ac.1 m.o).1;have ac:=hb.below;have q0:=hb.c 0 _ rfl;have q1:=hb.c 1 _ rfl;have q2:=hb.c 2 _ rfl;have q3:=hb.c 3 _ rfl;have d0:=Aw wr _ 0 _ _ _ m.o;have d1:=Aw wr _ 1 _ _ _ m.o;have d2:=Aw wr _ 2 _ _ _ m.o;clear hb;by_cases hlt:k<x.r.length
  ·obtain⟨g,o,rfl,af,hc⟩:=HT.o (by omega);have k0:=(ac.cell (p:=⟨g,o+k,none⟩) (Ao af hB)).trans (hc k hlt);rw[L.gd_lt hlt]at k0;have ag:g<wr.heap.size:=by omega
   have ad:=HF.o _ (Ay hlt);have HH:=aA (fun(y:World) (h:One w #[.slice AT G.ts.length cT,.slice AN G.ns.length cN,.slice AR G.rs.length cR,.int .i64 G.st] y)=>zg0 _ G B x.r[k] ad y (HG.o.below h.below hB));obtain⟨z,qz⟩:∃t,t=x.r[k]:=⟨_,rfl⟩
   rw[<-qz]at k0 HH;have QZ:=aA qz.symm;have kk0:(0:Int)<=(k:Int):=by omega
   have kk1:(k:Int)<(x.r.length:Int):=by omega
   have f:=aA (aB (Aq wr.heap.size wr) 1);have A0:=fun y:Calm.On wr.heap.size wr=>(y.2.cell (p:=⟨g,o+k,none⟩) ag).trans k0;have Q0:=fun y:Calm.On wr.heap.size wr=>(y.2.cell (p:=⟨w.heap.size,0,none⟩) hz).trans q0;have Q1:=fun y:Calm.On wr.heap.size wr=>(y.2.cell (p:=⟨w.heap.size,1,none⟩) hz).trans q1;have Q2:=fun y:Calm.On wr.heap.size wr=>(y.2.cell (p:=⟨w.heap.size,2,none⟩) hz).trans q2;have Q3:=fun y:Calm.On wr.heap.size wr=>(y.2.cell (p:=⟨w.heap.size,3,none⟩) hz).trans q3;have D0:=fun y:Calm.On wr.heap.size wr=>(y.2.cell (p:=⟨w.heap.size+1,0,none⟩) n).trans d0;have D1:=fun y:Calm.On wr.heap.size wr=>(y.2.cell (p:=⟨w.heap.size+1,1,none⟩) n).trans d1;have D2:=fun y:Calm.On wr.heap.size wr=>(y.2.cell (p:=⟨w.heap.size+1,2,none⟩) n).trans d2;clear hc ac qz ad;cases c0:Gm.has G z
   ·have HX:Hid (Gm.rule G x=false):=aA (zgR hlt (by rw[QZ.o];simp[c0]));rw[c0]at HH;clear c0;go_wp2_with fail
    refine Calm.region_tree (fun x=>∃y:Calm.On wr.heap.size wr,x=y.1) (.one [0,1,2,3,4,5] 6 (.fin [7,8,9,10,11,12,13,14,15,16,17,18,19,20])) (by kernel_rfl) (by kernel_rfl) (fun _ _ d _ _ h=>by cases d <;> exact h) ⟨⟨wr.drew,aB (Aq _ _) 1⟩,rfl⟩ ?_;clear q0 q1 q2 q3 d0 d1 d2 k0;simp only[Calm.wpT,Calm.wpSt,Calm.pickOps,Am,Af,Ah];repeat (go_big_quiet_step (fail))
    refine Aj ?_;intro KK i;rw[Ap (by rfl)];go_wp2_with fail
    refine(HH.o _ (HB.o.on f.o)).mono ?_;rintro _ w2 ⟨rfl,j⟩;have b:=aA (f.o.trans (j.mono f.o.size));clear j;go_wp2_with fail
    refine i _ _ ⟨⟨_,b.o⟩,rfl⟩ _ (fun _ h=>h) ⟨⟨_,b.o⟩,rfl⟩ ?_;repeat (go_big_quiet_step (fail))
    refine Aj ?_;clear i A0 Q0 Q1 Q2 Q3 D0 D1 D2;have s:=aA (HB.o.on b.o);have ab:=aA ((b.o.block (w.heap.size+1) (Nat.lt_of_succ_le n)).trans m.o);go_wp2;go_ret
    exact⟨aD HX.o.symm,s.o.below⟩
   ·rw[c0]at HH;have C0:=aA c0;clear c0;by_cases c1:0<=z
    ·by_cases c2:x.p = -1
     focus
      have HX:Hid (Gm.rule G x=false):=aA (zgR hlt (by rw[QZ.o];simp[c1,c2]));have f2:(x.p == -1)=true:=by simpa using c2
     rotate_left
     focus
      have HX:Hid (zj3 G x (k+1)):=aA (HE.o.next hlt (by rw[QZ.o,C0.o];simp[c2]));have f2:(x.p == -1)=false:=by simpa using c2
     rotate_left
     all_goals
      have f1:decide (0<=z)=true:=AJ c1;clear c2;go_wp2_with fail
      refine Calm.region_tree (fun x=>∃y:Calm.On wr.heap.size wr,x=y.1) (.one [0,1,2,3,4,5] 6 (.fin [7,8,9,10,11,12,13,14,15,16,17,18,19,20])) (by kernel_rfl) (by kernel_rfl) (fun _ _ d _ _ h=>by cases d <;> exact h) ⟨⟨wr.drew,aB (Aq _ _) 1⟩,rfl⟩ ?_;clear q0 q1 q2 q3 d0 d1 d2 k0;simp only[Calm.wpT,Calm.wpSt,Calm.pickOps,Am,Af,Ah];repeat (go_big_quiet_step (fail))
      refine Aj ?_;intro KK i;rw[Ap (by rfl)];go_wp2_with fail
      refine(HH.o _ (HB.o.on f.o)).mono ?_;rintro _ w2 ⟨rfl,j⟩;have b:=aA (f.o.trans (j.mono f.o.size));clear j;go_wp2_with fail
      refine i _ _ ⟨⟨_,b.o⟩,rfl⟩ _ (fun _ h=>h) ⟨⟨_,b.o⟩,rfl⟩ ?_;repeat (go_big_quiet_step (fail))
      refine Aj ?_;clear i A0 Q0 Q1 Q2 Q3 D0 D1 D2;have s:=aA (HB.o.on b.o);have ab:=aA ((b.o.block (w.heap.size+1) (Nat.lt_of_succ_le n)).trans m.o);go_wp2
     focus
      go_ret
      exact⟨aD HX.o.symm,s.o.below⟩
     focus
      go_roundw
      case rel=>exact⟨k+1,by omega,by go_num,HX.o,s.o,ab⟩
      case measure=>simp[intOf];omega
    ·have HX:Hid (zj3 G x (k+1)):=aA (HE.o.next hlt (by rw[QZ.o,C0.o];simp[c1]));have f1:decide (0<=z)=false:=AM c1;go_wp2_with fail
     refine Calm.region_tree (fun x=>∃y:Calm.On wr.heap.size wr,x=y.1) (.one [0,1,2,3,4,5] 6 (.fin [7,8,9,10,11,12,13,14,15,16,17,18,19,20])) (by kernel_rfl) (by kernel_rfl) (fun _ _ d _ _ h=>by cases d <;> exact h) ⟨⟨wr.drew,aB (Aq _ _) 1⟩,rfl⟩ ?_;clear q0 q1 q2 q3 d0 d1 d2 k0;simp only[Calm.wpT,Calm.wpSt,Calm.pickOps,Am,Af,Ah];repeat (go_big_quiet_step (fail))
     refine Aj ?_;intro KK i;rw[Ap (by rfl)];go_wp2_with fail
     refine(HH.o _ (HB.o.on f.o)).mono ?_;rintro _ w2 ⟨rfl,j⟩;have b:=aA (f.o.trans (j.mono f.o.size));clear j;go_wp2_with fail
     refine i _ _ ⟨⟨_,b.o⟩,rfl⟩ _ (fun _ h=>h) ⟨⟨_,b.o⟩,rfl⟩ ?_;repeat (go_big_quiet_step (fail))
     refine Aj ?_;clear i A0 Q0 Q1 Q2 Q3 D0 D1 D2;have s:=aA (HB.o.on b.o);have ab:=aA ((b.o.block (w.heap.size+1) (Nat.lt_of_succ_le n)).trans m.o);go_wp2;go_roundw
     case rel=>exact⟨k+1,by omega,by go_num,HX.o,s.o,ab⟩
     case measure=>simp[intOf];omega
  ·obtain rfl:k=x.r.length:=by omega
   have HX:=aA (HE.o.all (by omega) (by omega) (by omega));clear ac;go_wp2;go_ret
   exact⟨aD HX.o.symm,HB.o.below⟩
theorem zfM (h:k<rs.length) (z:Int):Gm.rules G (rs.drop k) z=if rs[k].l<0\/z+1<rs[k].l\/Gm.rule G rs[k]=false then false else Gm.rules G (rs.drop (k+1)) (if z<rs[k].l then rs[k].l else z):=by
 rw[Bx h,Gm.rules]
theorem zgQ (h:rs.length<=k) (z:Int):Gm.rules G (rs.drop k) z=(z==(G.ns.length:Int)-1):=by
 rw[BV h,Gm.rules]
theorem zfO (v:Value) (G:Gm.Gr) (B:Nat) (w:World) (hg:aQ w B v G) (hf:Gm.Fit G) (hB:B<=w.heap.size) :
  Calls Tryz.prog 38 #[v] w fun e w'=>e=.returned (.bool (Gm.right G))/\Below w.heap.size w w':=by
 have HG:=aA hg;obtain⟨AT,cT,AN,cN,AR,cR,rfl,⟨ak,al⟩,⟨am,ao⟩,⟨ap,aq⟩,_,_,ht⟩:=hg;have HT:=aA ht;have HF:=aA hf;have f:=aA (One.start w #[.slice AT G.ts.length cT,.slice AN G.ns.length cN,.slice AR G.rs.length cR,.int .i64 G.st]);have j:=aA (fun(x:World) (h:One w #[.slice AT G.ts.length cT,.slice AN G.ns.length cN,.slice AR G.rs.length cR,.int .i64 G.st] x)=>zfN _ G B x (HG.o.below h.below hB) HF.o (Ag hB h.below.size));have m:=aA (fun(x:World) (h:One w #[.slice AT G.ts.length cT,.slice AN G.ns.length cN,.slice AR G.rs.length cR,.int .i64 G.st] x)=>zgX _ G B x (HG.o.below h.below hB) HF.o (Ag hB h.below.size));clear ht hf;cases q1:Gm.terms G.ts
 ·have HX:Hid (Gm.right G=false):=aA (by unfold Gm.right;rw[q1];rfl);rw[HX.o];rw[q1]at j;clear q1
  go_enter Tryz.func38,Tryz.ntmps38
  go_wp2_with fail
  refine(j.o _ f.o).mono ?_;rintro _ w2 ⟨rfl,hb⟩;have b:=aA (f.o.on hb);clear hb;go_wp2;go_ret
  exact⟨rfl,b.o.below⟩
 rw[q1]at j;cases q2:Gm.nons G
 ·have HX:Hid (Gm.right G=false):=aA (by unfold Gm.right;rw[q2];simp);rw[HX.o];rw[q2]at m;clear q1 q2
  go_enter Tryz.func38,Tryz.ntmps38
  go_wp2_with fail
  refine(j.o _ f.o).mono ?_;rintro _ w2 ⟨rfl,hb⟩;have b:=aA (f.o.on hb);have hz:w.heap.size<w2.heap.size:=b.o.size;have d0:=b.o.c 0 _ rfl;have d1:=b.o.c 1 _ rfl;have d2:=b.o.c 2 _ rfl;have d3:=b.o.c 3 _ rfl;clear hb;go_wp2_with fail
  refine(m.o _ b.o).mono ?_;rintro _ w3 ⟨rfl,hb⟩;have d:=aA (b.o.on hb);clear hb;go_wp2;go_ret
  exact⟨rfl,d.o.below⟩
 rw[q2]at m;have ag:(G.rs.length:Int)<=9223372036854775807:=by omega
 by_cases h1:1<=G.rs.length/\G.rs.length<=40/\0<=G.st/\G.st<G.ns.length
 case neg =>
  have HX:Hid (Gm.right G=false):=aA (by
   unfold Gm.right;by_cases a1:1<=G.rs.length
   ·by_cases a2:G.rs.length<=40
    ·by_cases a3:0<=G.st
     ·have a4:¬G.st<G.ns.length:=fun a4=>h1 ⟨a1,a2,a3,a4⟩;rw[AM a4];simp
     ·rw[AM a3];simp
    ·rw[AM a2];simp
   ·rw[AM a1];simp)
  rw[HX.o];clear q1 q2;by_cases a1:1<=G.rs.length
  ·by_cases a2:G.rs.length<=40
   ·by_cases a3:0<=G.st
    focus
     have a4:¬G.st<G.ns.length:=fun a4=>h1 ⟨a1,a2,a3,a4⟩;have a4:=EL.1 a4
    rotate_left
    focus
     have a3:=Int.not_le.1 a3
    all_goals
     clear h1
     go_enter Tryz.func38,Tryz.ntmps38
     go_wp2_with fail
     refine(j.o _ f.o).mono ?_;rintro _ w2 ⟨rfl,hb⟩;have b:=aA (f.o.on hb);have hz:w.heap.size<w2.heap.size:=b.o.size;have d0:=b.o.c 0 _ rfl;have d1:=b.o.c 1 _ rfl;have d2:=b.o.c 2 _ rfl;have d3:=b.o.c 3 _ rfl;clear hb;go_wp2_with fail
     refine(m.o _ b.o).mono ?_;rintro _ w3 ⟨rfl,hb⟩;have d:=aA (b.o.on hb);have aa:w.heap.size<w3.heap.size:=d.o.size;have e1:=d.o.c 1 _ rfl;have e2:=d.o.c 2 _ rfl;have e3:=d.o.c 3 _ rfl;clear hb;go_wp2;go_ret
     exact⟨rfl,d.o.below⟩
   ·have a2:=Nat.not_le.1 a2;clear h1
    go_enter Tryz.func38,Tryz.ntmps38
    go_wp2_with fail
    refine(j.o _ f.o).mono ?_;rintro _ w2 ⟨rfl,hb⟩;have b:=aA (f.o.on hb);have hz:w.heap.size<w2.heap.size:=b.o.size;have d0:=b.o.c 0 _ rfl;have d1:=b.o.c 1 _ rfl;have d2:=b.o.c 2 _ rfl;have d3:=b.o.c 3 _ rfl;clear hb;go_wp2_with fail
    refine(m.o _ b.o).mono ?_;rintro _ w3 ⟨rfl,hb⟩;have d:=aA (b.o.on hb);have aa:w.heap.size<w3.heap.size:=d.o.size;have e2:=d.o.c 2 _ rfl;clear hb;go_wp2;go_ret
    exact⟨rfl,d.o.below⟩
  ·have a1:G.rs.length<1:=by omega
   clear h1
   go_enter Tryz.func38,Tryz.ntmps38
   go_wp2_with fail
   refine(j.o _ f.o).mono ?_;rintro _ w2 ⟨rfl,hb⟩;have b:=aA (f.o.on hb);have hz:w.heap.size<w2.heap.size:=b.o.size;have d0:=b.o.c 0 _ rfl;have d1:=b.o.c 1 _ rfl;have d2:=b.o.c 2 _ rfl;have d3:=b.o.c 3 _ rfl;clear hb;go_wp2_with fail
   refine(m.o _ b.o).mono ?_;rintro _ w3 ⟨rfl,hb⟩;have d:=aA (b.o.on hb);have aa:w.heap.size<w3.heap.size:=d.o.size;have e2:=d.o.c 2 _ rfl;clear hb;go_wp2;go_ret
   exact⟨rfl,d.o.below⟩
 have ah:Hid (Gm.right G=Gm.rules G (G.rs.drop 0) (-1)):=aA (by unfold Gm.right;rw[q1,q2,AJ h1.1,AJ h1.2.1,AJ h1.2.2.1,AJ h1.2.2.2];rfl);clear q1 q2;obtain⟨g1,g2,g3,g4⟩:=h1
 go_enter Tryz.func38,Tryz.ntmps38
 go_wp2_with fail
 refine(j.o _ f.o).mono ?_;rintro _ w2 ⟨rfl,hb⟩;have b:=aA (f.o.on hb);have hz:w.heap.size<w2.heap.size:=b.o.size;have d0:=b.o.c 0 _ rfl;have d1:=b.o.c 1 _ rfl;have d2:=b.o.c 2 _ rfl;have d3:=b.o.c 3 _ rfl;clear hb;go_wp2_with fail
 refine(m.o _ b.o).mono ?_;rintro _ w3 ⟨rfl,hb⟩;have d:=aA (b.o.on hb);have aa:w.heap.size<w3.heap.size:=d.o.size;have e1:=d.o.c 1 _ rfl;have e2:=d.o.c 2 _ rfl;have e3:=d.o.c 3 _ rfl;clear hb d0 d1 d2 d3 hz b;go_wp2;go_loopw [3,4] (fun vt vi wr=>∃(k:Nat) (z:Int),k<=G.rs.length/\vi=.int .i64 k/\vt=.int .i64 z/\(-1<=z/\z<=100+k)/\Hid (Gm.right G=Gm.rules G (G.rs.drop k) z)/\One w #[.slice AT G.ts.length cT,.slice AN G.ns.length cN,.slice AR G.rs.length cR,.int .i64 G.st] wr) (fun _ vi _=>G.rs.length-(intOf vi).toNat)
 case atStart=>exact⟨0,-1,AX _,rfl,rfl,by omega,ah,d.o⟩
 case round =>
  clear e1 e2 e3 aa d;obtain⟨k,z,hk,rfl,rfl,ar,HE,hb⟩:=hrel;have HB:=aA hb;have hz:w.heap.size<wr.heap.size:=hb.size;have s:=hb.below;have q0:=hb.c 0 _ rfl;have q1:=hb.c 1 _ rfl;have q2:=hb.c 2 _ rfl;have q3:=hb.c 3 _ rfl;clear hb;by_cases ab:k<G.rs.length
  ·obtain⟨g,o,rfl,ac,hc⟩:=HT.o (by omega);obtain⟨k0,⟨A',c',k1,_,_,ae⟩,k2⟩:=hc k ab;have k0:=(s.cell (p:=⟨g,o+k*3,none⟩) (Ao ac hB)).trans k0;have k1:=(s.cell (p:=⟨g,o+k*3+1,none⟩) (Ao ac hB)).trans k1;have k2:=(s.cell (p:=⟨g,o+k*3+2,none⟩) (Ao ac hB)).trans k2;have au:g<wr.heap.size:=by omega
   have ad:=HF.o.r _ (Ay ab);have t:=aA (fun(y:World) (h:One w #[.slice AT G.ts.length cT,.slice AN G.ns.length cN,.slice (some ⟨g,o,none⟩) G.rs.length cR,.int .i64 G.st] y)=>zgU _ G B G.rs[k] A' c' y (HG.o.below h.below hB) (ae.keep fun g o hg=>h.below.cell (p:=⟨g,o,none⟩) (Ao hg hB)) ad.2.2 (Ag hB h.below.size));have HN:=aA (HE.o.trans (zfM ab z));have ai:=ad.1;unfold Gm.In at ai;clear hc s ad ae;generalize G.rs[k]=x at *;by_cases c1:x.l<0
   ·have HX:Hid (Gm.right G=false):=aA (HN.o.trans (Ap (.inl c1)));go_wp2;go_ret
    exact⟨aD HX.o.symm,(HB.o.alloc _).below⟩
   have c1':=EL.1 c1;by_cases c2:z+1<x.l
   ·have HX:Hid (Gm.right G=false):=aA (HN.o.trans (Ap (.inr (.inl c2))));go_wp2;go_ret
    exact⟨aD HX.o.symm,(HB.o.alloc _).below⟩
   have c2':=EL.1 c2;cases c3:Gm.rule G x
   ·have HX:Hid (Gm.right G=false):=aA (HN.o.trans (Ap (.inr (.inr c3))));rw[c3]at t;clear c3 c1 c2;go_wp2_with fail
    refine(t.o _ (HB.o.alloc _)).mono ?_;rintro _ w4 ⟨rfl,i⟩;have u:=aA ((HB.o.alloc _).on i);clear i;go_wp2;go_ret
    exact⟨aD HX.o.symm,u.o.below⟩
   ·have af:=aA (HN.o.trans (AB (by rw[c3];simp;omega)));rw[c3]at t;clear c3 c1 c2;by_cases c4:z<x.l
    ·have HX:=aA (af.o.trans (by rw[Ap c4]));go_wp2_with fail
     refine(t.o _ (HB.o.alloc _)).mono ?_;rintro _ w4 ⟨rfl,i⟩;have u:=aA ((HB.o.alloc _).on i);have n:=(i.block wr.heap.size (by simp)).trans (Az wr _);have aj:wr.heap.size<w4.heap.size:=(Ac.1 n).1;have f0:=Aw w4 _ 0 _ _ _ n;clear i n;go_wp2;go_roundw
     case rel=>exact⟨k+1,x.l,by omega,by go_num,rfl,by omega,HX,u.o⟩
     case measure=>simp[intOf];omega
    ·have HX:=aA (af.o.trans (by rw[AB c4]));have c4':=EL.1 c4;clear c4;go_wp2_with fail
     refine(t.o _ (HB.o.alloc _)).mono ?_;rintro _ w4 ⟨rfl,i⟩;have u:=aA ((HB.o.alloc _).on i);have n:=(i.block wr.heap.size (by simp)).trans (Az wr _);have aj:wr.heap.size<w4.heap.size:=(Ac.1 n).1;have f0:=Aw w4 _ 0 _ _ _ n;clear i n;go_wp2;go_roundw
     case rel=>exact⟨k+1,z,by omega,by go_num,rfl,by omega,HX,u.o⟩
     case measure=>simp[intOf];omega
  ·obtain rfl:k=G.rs.length:=by omega
   have HX:=aA (HE.o.trans (zgQ (Ad _) z));clear s;go_wp2;go_ret
   exact⟨aD HX.o.symm,HB.o.below⟩
end Go.Proofs.YtjjbaehamplnaaaGreat
namespace Go.Mw
open Go.RowKit Go.Maps
structure Enc (P:Program) (kt:TypeId) (κ:Type) where
 enc:κ->Value
 ok:κ->Prop
 key:∀x,ok x->∃l,keyOf P kt (enc x)=some l
 inj:∀x y,ok x->ok y->enc x=enc y->x=y
section
variable {κ:Type} [DecidableEq κ] {α:Type}
def asc:List (κ×α)->κ->Option α
 | [],_=>none
 | (k,v)::r,x=>if k=x then some v else asc r x
theorem zba {l:List (κ×α)} {x:κ}:asc l x=none ↔ ∀p∈l,p.1≠x:=by
 induction l with
 | nil=>simp[asc]
 | cons p r ih =>
  obtain⟨k,v⟩:=p;unfold asc;by_cases h:k=x
  ·rw[Ap h];simp[h]
  ·rw[AB h,ih];simp[h]
theorem asc_mem {l:List (κ×α)} {x:κ} {v:α} (h:asc l x=some v):(x,v)∈l:=by
 induction l with
 | nil=>simp[asc]at h
 | cons p r ih =>
  obtain⟨k,u⟩:=p;unfold asc at h;by_cases hk:k=x
  ·rw[Ap hk]at h;injection h with h;subst h hk;simp
  ·rw[AB hk]at h;exact Bh _ (ih h)
theorem asc_of_mem {l:List (κ×α)} {x:κ} {v:α} (hn:(l.map Prod.fst).Nodup) (h:(x,v)∈l):asc l x=some v:=by
 induction l with
 | nil=>simp at h
 | cons p r ih =>
  obtain⟨k,u⟩:=p;rw[Bp,EA]at hn;unfold asc;rcases Bq.1 h with e|e
  ·injection e with e1 e2;subst e1 e2;rw[Ap rfl]
  ·have:k≠x:=fun q=>hn.1 (by rw[q];exact Bi.2 ⟨(x,v),e,rfl⟩)
   rw[AB this];exact ih hn.2 e
theorem asc_snoc {l:List (κ×α)} {k x:κ} {v:α} (h:asc l k=none):asc (l++[(k,v)]) x=if k=x then some v else asc l x:=by
 induction l with
 | nil=>simp[asc]
 | cons p r ih =>
  obtain⟨k',u⟩:=p;unfold asc at h;split at h
  ·cases h
  ·rename_i hk
   rw[Cx]
   show(if k'=x then some u else asc (r++[(k,v)]) x)=if k=x then some v else if k'=x then some u else asc r x
   rw[ih h];by_cases h1:k'=x
   ·rw[Ap h1,Ap h1,AB (fun e=>hk (h1.trans e.symm))]
   ·rw[AB h1,AB h1]
end
section
variable {P:Program} {kt:TypeId} {κ:Type}
def MapIs (E:Enc P kt κ) (w:World) (b:Nat) (l:List (κ×Value)):Prop :=
 ∃es clock,w.heap[b]?=some (.map es clock)/\es.toList.map (fun e=>(e.key,e.val))=l.map (fun p=>(E.enc p.1,p.2))/\(∀p∈l,E.ok p.1)/\(l.map Prod.fst).Nodup
variable {E:Enc P kt κ} {w:World} {b:Nat} {l:List (κ×Value)}
theorem MapIs.made (E:Enc P kt κ) (w:World):MapIs E (w.alloc (.map #[] 0)) w.heap.size [] :=
 ⟨#[],0,(MapKept.heap_alloc w _).1,rfl,by simp,by simp⟩
theorem MapIs.lt (h:MapIs E w b l):b<w.heap.size:=by
 obtain⟨es,clock,hb,_⟩:=h;exact(Ac.1 hb).1
theorem MapIs.kept {row:Option Nat} (h:MapIs E w b l) (hg:w.grownBy w' row) (aa:some b≠row):MapIs E w' b l:=by
 have ab:=h.lt;obtain⟨es,clock,hb,r⟩:=h;exact⟨es,clock,(hg.block b ab aa).trans hb,r⟩
theorem MapIs.block (h:MapIs E w b l) (hg:w'.heap[b]?=w.heap[b]?):MapIs E w' b l:=by
 obtain⟨es,clock,hb,r⟩:=h;exact⟨es,clock,hg.trans hb,r⟩
theorem MapIs.not_cells (h:MapIs E w b l) {t:TypeId} {f:Nat×Nat}:w.heap[b]? ≠ some (.cells cs t f):=by
 obtain⟨es,clock,hb,_⟩:=h;rw[hb];intro e;cases e
theorem run_len {t e:TypeId} (h:MapIs E w b l) (ht:P.underlying t=some (.map kt e)) (ty:TypeId):(Builtin.len_ #[t] ty #[.map (some b)]).run P w=.ok (.int .i64 (l.length:Nat)) w:=by
 obtain⟨es,clock,hb,he,_⟩:=h;have e1:es.size=l.length:=by have:=congrArg List.length he;simpa using this
 simp[Builtin.len_,CO ht,B8 hb,goInt,Result.andThen,e1]
variable [DecidableEq κ]
theorem find_in (h:MapIs E w b l) (K:Keyed P kt) {x:κ} (hx:E.ok x):∃es clock,w.heap[b]?=some (.map es clock)/\es.toList.map (fun e=>(e.key,e.val))=l.map (fun p=>(E.enc p.1,p.2)) /\
  (((Instr.findKey kt (E.enc x) es.toList).run P w=.ok none w/\asc l x=none) \/ ∃(j:Nat) (e:MapEntry),(Instr.findKey kt (E.enc x) es.toList).run P w=.ok (some (j,e.val)) w/\es.toList[j]?=some e/\e.key=E.enc x/\asc l x=some e.val/\l[j]?=some (x,e.val)):=by
 obtain⟨es,clock,hb,he,hk,hn⟩:=h;refine⟨es,clock,hb,he,?_⟩;obtain⟨lx,ac⟩:=E.key x hx
 have aa:∀e∈es.toList,∃l,keyOf P kt e.key=some l:=by
  intro e hm
  have:(e.key,e.val)∈es.toList.map (fun e=>(e.key,e.val)):=Bi.2 ⟨e,hm,rfl⟩
  rw[he]at this;obtain⟨p,hp,e1⟩:=Bi.1 this;injection e1 with e1 _;rw[<-e1];exact E.key p.1 (hk p hp)
 rcases K.find w ac es.toList aa with⟨h1,h2⟩|⟨j,e,h1,h2,h3⟩
 ·refine .inl ⟨h1,zba.2 fun p hp q=>?_⟩
  have:(E.enc p.1,p.2)∈es.toList.map (fun e=>(e.key,e.val)):=by rw[he];exact Bi.2 ⟨p,hp,rfl⟩
  obtain⟨e,hm,e1⟩:=Bi.1 this;injection e1 with e1 _;exact h2 e hm (by rw[e1,q])
 ·refine .inr ⟨j,e,h1,h2,h3,?_⟩;have hj:(es.toList.map (fun e=>(e.key,e.val)))[j]?=some (e.key,e.val):=by rw[BC,h2];rfl
  rw[he,BC]at hj;obtain⟨p,hp,e1⟩:=CT.1 hj;injection e1 with e1 e2;have ab:p∈l:=CL hp;have ad:p.1=x:=E.inj _ _ (hk p ab) hx (e1.trans h3);have ae:p=(x,e.val):=by rw[<-ad,<-e2]
  rw[ae]at hp ab;exact⟨asc_of_mem hn ab,hp⟩
theorem run_look {t e:TypeId} (h:MapIs E w b l) (K:Keyed P kt) (ht:P.underlying t=some (.map kt e)) {z:Value} (hz:(zeroValue e).run P w=.ok z w) {x:κ} (hx:E.ok x) (c:Bool) :
  (Instr.lookup t (.map (some b)) (E.enc x) c).run P w=.ok (if c then .tuple #[(asc l x).getD z,.bool (asc l x).isSome] else(asc l x).getD z) w:=by
 obtain⟨lx,aa⟩:=E.key x hx;obtain⟨es,clock,hb,_,hf⟩:=find_in h K hx;rcases hf with⟨h1,h2⟩|⟨j,e0,h1,_,_,h2,_⟩
 ·rw[h2];simp[Instr.lookup,CO ht,B8 hb,K.check w _ aa,h1,hz,Result.andThen]
 ·rw[h2];simp[Instr.lookup,CO ht,B8 hb,K.check w _ aa,h1,Result.andThen]
theorem run_store {t e:TypeId} (h:MapIs E w b l) (K:Keyed P kt) (ht:P.underlying t=some (.map kt e)) {x:κ} (hx:E.ok x) (v:Value) (hv:asc l x=none\/asc l x=some v) :
  ∃w',(Instr.mapUpdate t (.map (some b)) (E.enc x) v).run P w=.ok () w'/\MapIs E w' b (if asc l x=none then l++[(x,v)] else l)/\w.grownBy w' (some b):=by
 obtain⟨lx,aa⟩:=E.key x hx;have h0:=h;obtain⟨es,clock,hb,he,hf⟩:=find_in h K hx;obtain⟨es0,clock0,d,ag,hk,hn⟩:=h0;rw[hb]at d;injection d with d;injection d with d ad;subst d ad;rcases hf with⟨h1,h2⟩|⟨j,e0,h1,h2,h3,h4,h5⟩
 ·rw[Ap h2];refine⟨ChangeMaps.setBlock w b (.map (es.push ⟨E.enc x,v,clock⟩) (clock+1)),?_,⟨_,_,BG hb _,?_,?_,?_⟩,⟨rfl,rfl,rfl,by simp[ChangeMaps.setBlock],fun i _ hi=>B0 hb _ (fun e=>hi (by rw[e]))⟩⟩
  ·simp[Instr.mapUpdate,CO ht,B8 hb,K.check w false aa,h1,Cz _ hb,Result.andThen,ChangeMaps.setBlock]
  ·rw[Cn,AW,AW,he];rfl
  ·intro p hp;rcases Bj.1 hp with q|q
   ·exact hk p q
   ·rw[AF]at q;subst q;exact hx
  ·rw[AW,Ci];refine⟨hn,by simp,fun a ha c hc=>?_⟩;obtain⟨p,hp,rfl⟩:=Bi.1 ha;simp only[Bp,CU,AF]at hc;subst hc;exact zba.1 h2 p hp
 ·have ae:v=e0.val:=by
   rcases hv with q|q
   ·rw[h4]at q;cases q
   ·rw[h4]at q;injection q with q;exact q.symm
  rw[AB (by rw[h4];simp)];have hj:es[j]?=some e0:=by simpa using h2
  have ab:(es.modify j (fun e=>{e with key:=E.enc x,val:=v})).toList.map (fun e=>(e.key,e.val))=es.toList.map (fun e=>(e.key,e.val)):=by
   rw[Dq,DM _ _ _ _ h2,Cs];have af:j<(es.toList.map (fun e=>(e.key,e.val))).length:=by rw[Bb];exact(Ba.1 h2).1
   apply CX;intro i;rw[Dn];by_cases ac:j=i
   ·subst ac;rw[Ap rfl,Ap af,BC,h2,<-h3,ae];rfl
   ·rw[AB ac]
  refine⟨ChangeMaps.setBlock w b (.map (es.modify j (fun e=>{e with key:=E.enc x,val:=v})) clock),?_,⟨_,_,BG hb _,ab.trans he,hk,hn⟩,⟨rfl,rfl,rfl,by simp[ChangeMaps.setBlock],fun i _ hi=>B0 hb _ (fun e=>hi (by rw[e]))⟩⟩;simp[Instr.mapUpdate,CO ht,B8 hb,K.check w false aa,h1,hj,h3,K.stays w aa,Cz _ hb,Result.andThen,ChangeMaps.setBlock]
end
theorem wpList_store {rest:List Oper} {o:Oper} {a:Act} {Q:Exit->Act->World->Prop} (hg:o.guard=none) (m x v:Operand) (t:TypeId) (ab:o.op=Op.mapUpdate t m x v) {mv xv vv:Value} {R:World->Prop} (h:∃w',(Instr.mapUpdate t mv xv vv).run P w=.ok () w'/\R w') (hm:a.eval m=mv) (hx:a.eval x=xv) (hv:a.eval v=vv) (hK:∀w',R w'->wpList P ops Q rest (a.put o.dst undef) w'):wpList P ops Q (o::rest) a w:=by
 refine wpList_plain hg fun K' ac=>?_;obtain⟨w',aa,hR⟩:=h;unfold Oper.wp;simp[execOp,ab,hm,hx,hv,aa,Result.andThen];exact ac _ _ (hK w' hR)
end Go.Mw
namespace Go.Proofs.YtjjbaehamplnaaaGreat
end Go.Proofs.YtjjbaehamplnaaaGreat
namespace Go.Proofs.YtjjbaehamplnaaaGreat
open Go.RowKit
def zeK:Mw.Enc Tryz.prog 9 (List Int) where
 enc s:=.string (K.str s)
 ok:=K.Tx
 key s h:=⟨_,Go.WideMaps.keyOf_string_mk Tryz.underlying9 (by rw[K.str_size];unfold maxLen;exact h.2)⟩
 inj x y hx hy h:=by injection h with h;exact(K.str_eq hx.1 hy.1).1 h
theorem zm1:Maps.Keyed Tryz.prog 9:=Maps.string_keyed Tryz.underlying9
theorem zer (s:List Int) (hs:K.Tx s) (w:World) :
  Calls Tryz.prog 102 #[.string (K.str s)] w fun e w'=>e=.returned (.bool (Gm.named s))/\Below w.heap.size w w':=by
 have HN:=aA (fun w=>ze1 s hs.1 w);have HL:=aA (fun w=>zkH s hs.1 hs.2 w);unfold Gm.named;clear hs;cases q:T.isName s
 ·rw[q]at HN;clear q;generalize T.isLit s=b at *
  go_enter Tryz.func102,Tryz.ntmps102
  go_wp2_with fail
  refine(HN.o _).mono ?_;rintro _ w1 ⟨rfl,hb⟩;have HB:=aA hb;clear hb;go_wp2_with fail
  refine(HL.o _).mono ?_;rintro _ _ ⟨rfl,rfl⟩;go_wp2;go_ret
  exact⟨aD (by simp),HB.o⟩
 ·rw[q]at HN;clear q
  go_enter Tryz.func102,Tryz.ntmps102
  go_wp2_with fail
  refine(HN.o _).mono ?_;rintro _ w1 ⟨rfl,hb⟩;have HB:=aA hb;clear hb;go_wp2;go_ret
  exact⟨aD (by simp),HB.o⟩
def dd:List (List Int)->List (List Int)->List (List Int)
 | acc,[]=>acc
 | acc,s::r=>dd (if s∈acc then acc else acc++[s]) r
theorem zk0 (acc l:List (List Int)) (s:List Int):dd acc (l++[s])=if s∈dd acc l then dd acc l else dd acc l++[s]:=by
 induction l generalizing acc with
 | nil=>rfl
 | cons x r ih=>rw[Cx,dd,dd,ih]
theorem zmI (acc l:List (List Int)) (hn:acc.Nodup):(dd acc l).length<=acc.length+l.length/\((dd acc l).length=acc.length+l.length↔(acc++l).Nodup):=by
 induction l generalizing acc with
 | nil=>simp[dd,hn]
 | cons x r ih =>
  rw[dd];by_cases hx:x∈acc
  ·rw[Ap hx]
   have:=(ih acc hn).1
   refine⟨by rw[Bt];omega,⟨fun e=>by rw[Bt]at e;omega,fun h=>?_⟩⟩;rw[Ci]at h;exact absurd rfl (h.2.2 x hx x (by simp))
  ·rw[AB hx]
   have aa:(acc++[x]).Nodup:=by
    rw[Ci];exact⟨hn,by simp,fun a ha b hb e=>by rw[AF]at hb;subst hb e;exact hx ha⟩
   have:=ih (acc++[x]) aa
   rw[AU,BQ,BW,D7]at this;refine⟨by have:=this.1;rw[Bt];omega,?_⟩;rw[<-this.2,Bt];omega
def nmL (l:List (List Int)):List (List Int×Value):=(dd [] l).map fun s=>(s,.bool true)
theorem zia (l:List (List Int)) (s:List Int):Mw.asc (nmL l) s=if s∈dd [] l then some (.bool true) else none:=by
 unfold nmL;generalize dd [] l=m;induction m with
 | nil=>rfl
 | cons x r ih =>
  rw[Bp,Mw.asc,ih];by_cases h:x=s
  ·subst h;simp
  ·rw[AB h]
   have:s≠x:=fun e=>h e.symm
   simp[this]
theorem ze0 (l:List (List Int)) (s:List Int):(if Mw.asc (nmL l) s=none then nmL l++[(s,.bool true)] else nmL l)=nmL (l++[s]):=by
 rw[zia];unfold nmL;rw[zk0];by_cases h:s∈dd [] l
 ·rw[Ap h,Ap h];rfl
 ·rw[AB h,AB h,Ap rfl,AW];rfl
theorem zj0 (l:List (List Int)) (s:List Int):Mw.asc (nmL l) s=none\/Mw.asc (nmL l) s=some (.bool true):=by
 rw[zia];split
 ·exact .inr rfl
 ·exact .inl rfl
def rnB (G:Gm.Gr):Bool:=decide (G.ts.length<=24)&&decide (1<=G.ns.length)&&decide (G.ns.length<=16)&&(G.ts.all fun t=>Gm.named t.nm)&&(G.ns.all T.isName)&&decide ((nmL (Gm.names G.ts++G.ns)).length=G.ts.length+G.ns.length)
theorem rn_t (h:k<G.ts.length) (hn:Gm.named G.ts[k].nm=false):rnB G=false:=by
 unfold rnB
 have:(G.ts.all fun t=>Gm.named t.nm)=false:=DH.2 ⟨_,Ay h,by rw[hn];simp⟩
 rw[this];simp
theorem rn_n (h:k<G.ns.length) (hn:T.isName G.ns[k]=false):rnB G=false:=by
 unfold rnB
 have:(G.ns.all T.isName)=false:=DH.2 ⟨_,Ay h,by rw[hn];simp⟩
 rw[this];simp
def zeG {α:Type} (l:List α) (f:α->Bool) (k:Nat):Prop:=∀i (h:i<l.length),i<k->f l[i]=true
theorem zeG.zero {α:Type} (l:List α) (f:α->Bool):zeG l f 0:=fun _ _ h=>by omega
theorem zeG.next {α:Type} {l:List α} {f:α->Bool} (h:zeG l f k) (hk:k<l.length) (hn:f l[k]=true):zeG l f (k+1):=fun i hi aa=>by
 rcases Bz i k with q|q
 ·exact h i hi q
 ·obtain rfl:i=k:=by omega
  exact hn
theorem zeG.all {α:Type} {l:List α} {f:α->Bool} (h:zeG l f l.length):l.all f=true:=by
 rw[BP];intro x hx;obtain⟨i,hi,rfl⟩:=BB hx;exact h i hi hi
theorem zdj {α:Type} {l:List α} (h:k<l.length):l.take (k+1)=l.take k++[l[k]]:=AO h
theorem zck (v:Value) (G:Gm.Gr) (B:Nat) (w:World) (hg:aQ w B v G) (hf:Gm.Fit G) (hB:B<=w.heap.size) :
  Calls Tryz.prog 66 #[v] w fun e w'=>e=.returned (.bool (rnB G))/\Below w.heap.size w w':=by
 obtain⟨AT,cT,AN,cN,AR,cR,rfl,⟨aw,ax⟩,⟨ay,az⟩,_,ht,hn,_⟩:=hg;have HT:=aA ht;have HN:=aA hn;have HF:=aA hf;have aa:=aA (One.start w #[.slice AT G.ts.length cT,.slice AN G.ns.length cN,.slice AR G.rs.length cR,.int .i64 G.st]);have ak:(G.ts.length:Int)<=9223372036854775807:=by omega
 have al:(G.ns.length:Int)<=9223372036854775807:=by omega
 clear ht hn hf;by_cases a0:24<G.ts.length
 ·have HX:Hid (rnB G=false):=aA (by unfold rnB;rw[AM (show ¬G.ts.length<=24 by omega)];rfl);rw[HX.o]
  go_enter Tryz.func66,Tryz.ntmps66
  go_wp2;go_ret
  exact⟨rfl,aa.o.below⟩
 by_cases h0:G.ns.length<1
 ·have HX:Hid (rnB G=false):=aA (by unfold rnB;rw[AM (show ¬1<=G.ns.length by omega)];simp);have e0:((G.ns.length:Int)==0)=true:=BH.2 (by omega);rw[HX.o];clear h0
  go_enter Tryz.func66,Tryz.ntmps66
  go_wp2;go_ret
  exact⟨rfl,aa.o.below⟩
 have e0:((G.ns.length:Int)==0)=false:=AY.2 (by omega);by_cases a1:16<G.ns.length
 ·have HX:Hid (rnB G=false):=aA (by unfold rnB;rw[AM (show ¬G.ns.length<=16 by omega)];simp);rw[HX.o];clear h0
  go_enter Tryz.func66,Tryz.ntmps66
  go_wp2;go_ret
  exact⟨rfl,aa.o.below⟩
 clear h0;have a2:=@EP Tryz.prog;have am:=aA (Mw.MapIs.made zeK (w.alloc (.cells #[.slice AT G.ts.length cT,.slice AN G.ns.length cN,.slice AR G.rs.length cR,.int .i64 G.st] 26)));have ao:(w.alloc (.cells #[.slice AT G.ts.length cT,.slice AN G.ns.length cN,.slice AR G.rs.length cR,.int .i64 G.st] 26)).heap.size=w.heap.size+1:=by simp
 rw[ao]at am;have aq:=aA (aa.o.alloc (.map #[] 0));clear ao
 go_enter Tryz.func66,Tryz.ntmps66
 go_wp2;go_loopw [28] (fun vi wr=>∃(k:Nat),k<=G.ts.length/\vi=.int .i64 k/\Hid (zeG G.ts (fun t=>Gm.named t.nm) k)/\One w #[.slice AT G.ts.length cT,.slice AN G.ns.length cN,.slice AR G.rs.length cR,.int .i64 G.st] wr/\Hid (Mw.MapIs zeK wr (w.heap.size+1) (nmL (Gm.names (G.ts.take k))))) (fun vi _=>G.ts.length-(intOf vi).toNat)
 case atStart=>exact⟨0,AX _,rfl,aA (zeG.zero _ _),aq.o,am⟩
 case round =>
  obtain⟨k,hk,rfl,HA,hb,HM⟩:=hrel;have HB:=aA hb;have hz:w.heap.size<wr.heap.size:=hb.size;have ap:w.heap.size+1<wr.heap.size:=HM.o.lt;have f:=hb.below;have q1:=hb.c 1 _ rfl;clear hb;by_cases hlt:k<G.ts.length
  ·obtain⟨g,o,rfl,l,hc⟩:=HT.o (by omega);have k0:=(f.cell (p:=⟨g,o+k*3,none⟩) (Ao l hB)).trans (hc k hlt).1;have k1:=(f.cell (p:=⟨g,o+k*3+1,none⟩) (Ao l hB)).trans (hc k hlt).2.1;have k2:=(f.cell (p:=⟨g,o+k*3+2,none⟩) (Ao l hB)).trans (hc k hlt).2.2;have ar:g<wr.heap.size:=by omega
   have j:=(HF.o.t _ (Ay hlt)).1;have d:=aA (fun x=>zer _ j x);have ab:=aA j;have ac:=aA (fun h=>HA.o.next hlt h);have ad:=aA (fun h=>rn_t hlt h);have ae:Hid (nmL (Gm.names (G.ts.take k)++[G.ts[k].nm])=nmL (Gm.names (G.ts.take (k+1)))):=aA (by rw[zdj hlt];unfold Gm.names;rw[AW];rfl);clear hc f j;generalize G.ts[k].nm=nm at *;generalize G.ts[k].lv=lv at *;generalize G.ts[k].wy=wy at *;cases q:Gm.named nm
   ·have HX:=aA (ad.o q);rw[q]at d;clear q;go_wp2_with fail
    refine(d.o _).mono ?_;rintro _ w2 ⟨rfl,b⟩;have i:=aA ((HB.o.alloc _).on b);clear b;go_wp2;go_ret
    exact⟨aD HX.o.symm,i.o.below⟩
   ·have HX:=aA (ac.o q);rw[q]at d;clear q;go_wp2_with fail
    refine(d.o _).mono ?_;rintro _ w2 ⟨rfl,b⟩;have i:=aA ((HB.o.alloc _).on b);have af:=(b.block wr.heap.size (by simp)).trans (Az wr _);have a3:wr.heap.size<w2.heap.size:=(Ac.1 af).1;have f0:=Aw w2 _ 0 _ _ _ af;have ag:=aA ((HM.o.kept (DP wr _ none) (by simp)).kept (zab b none) (by simp));clear b af;have ah:=aA (Mw.run_store (x:=nm) ag.o zm1 Tryz.underlying181 ab.o (.bool true) (zj0 _ _));go_wp2_with (at_mapUpdate;refine Mw.wpList_store rfl _ _ _ _ rfl ah.o rfl rfl rfl ?_;rintro w3 ⟨r,u⟩)
    have ai:=aA (Below.grown i.o u i.o.size (fun k e=>by injection e with e;omega));have aj:Hid (Mw.MapIs zeK w3 (w.heap.size+1) (nmL (Gm.names (G.ts.take (k+1))))):=aA (by rw[<-ae.o,<-ze0];exact r);clear r u;go_roundw
    case rel=>exact⟨k+1,by omega,by go_num,HX,ai.o,aj⟩
    case measure=>simp[intOf];omega
  ·obtain rfl:k=G.ts.length:=by omega
   have au:=aA HA.o.all;have y:Hid (Mw.MapIs zeK wr (w.heap.size+1) (nmL (Gm.names G.ts++G.ns.take 0))):=aA (by have h:=HM.o;rw[Bo]at h;rw[Ej,Co];exact h);clear f hk hlt HA HM;go_wp2;go_loopw [43] (fun vi wr=>∃(k:Nat),k<=G.ns.length/\vi=.int .i64 k/\Hid (zeG G.ns T.isName k)/\One w #[.slice AT G.ts.length cT,.slice AN G.ns.length cN,.slice AR G.rs.length cR,.int .i64 G.st] wr/\Hid (Mw.MapIs zeK wr (w.heap.size+1) (nmL (Gm.names G.ts++G.ns.take k)))) (fun vi _=>G.ns.length-(intOf vi).toNat)
   case atStart=>exact⟨0,AX _,rfl,aA (zeG.zero _ _),HB.o,y⟩
   case round =>
    clear q1 hz ap HB y;obtain⟨k,hk,rfl,HA,hb,HM⟩:=hrel;have HB:=aA hb;have hz:w.heap.size<wr.heap.size:=hb.size;have ap:w.heap.size+1<wr.heap.size:=HM.o.lt;have f:=hb.below;have q0:=hb.c 0 _ rfl;have q1:=hb.c 1 _ rfl;clear hb;by_cases hlt:k<G.ns.length
    ·obtain⟨g,o,rfl,l,hc⟩:=HN.o (by omega);have k0:=(f.cell (p:=⟨g,o+k,none⟩) (Ao l hB)).trans (hc k hlt);have ar:g<wr.heap.size:=by omega
     have j:=HF.o.n _ (Ay hlt);have d:=aA (fun x=>ze1 _ j.1 x);have ab:=aA j;have ac:=aA (fun h=>HA.o.next hlt h);have ad:=aA (fun h=>rn_n hlt h);have ae:Hid (nmL (Gm.names G.ts++G.ns.take k++[G.ns[k]])=nmL (Gm.names G.ts++G.ns.take (k+1))):=aA (by rw[zdj hlt,BW]);obtain⟨s,qs⟩:∃t,t=G.ns[k]:=⟨_,rfl⟩
     rw[<-qs]at k0 d ab ac ad ae;clear hc f j qs;cases q:T.isName s
     ·have HX:=aA (ad.o q);rw[q]at d;clear q;go_wp2_with fail
      refine(d.o _).mono ?_;rintro _ w2 ⟨rfl,b⟩;have i:=aA (HB.o.on b);clear b;go_wp2;go_ret
      exact⟨aD HX.o.symm,i.o.below⟩
     ·have HX:=aA (ac.o q);rw[q]at d;clear q;go_wp2_with fail
      refine(d.o _).mono ?_;rintro _ w2 ⟨rfl,b⟩;have i:=aA (HB.o.on b);have ag:=aA (HM.o.kept (zab b none) (by simp));clear b;have ah:=aA (Mw.run_store (x:=s) ag.o zm1 Tryz.underlying181 ab.o (.bool true) (zj0 _ _));go_wp2_with (at_mapUpdate;refine Mw.wpList_store rfl _ _ _ _ rfl ah.o rfl rfl rfl ?_;rintro w3 ⟨r,u⟩)
      have ai:=aA (Below.grown i.o u i.o.size (fun k e=>by injection e with e;omega));have aj:Hid (Mw.MapIs zeK w3 (w.heap.size+1) (nmL (Gm.names G.ts++G.ns.take (k+1)))):=aA (by rw[<-ae.o,<-ze0];exact r);clear r u;go_roundw
      case rel=>exact⟨k+1,by omega,by go_num,HX,ai.o,aj⟩
      case measure=>simp[intOf];omega
    ·obtain rfl:k=G.ns.length:=by omega
     have av:=aA HA.o.all;have y:Hid (Mw.MapIs zeK wr (w.heap.size+1) (nmL (Gm.names G.ts++G.ns))):=aA (by have h:=HM.o;rw[Bo]at h;exact h);have hL:=Mw.run_len y.o Tryz.underlying181 3
     have HX:Hid (rnB G=(((nmL (Gm.names G.ts++G.ns)).length:Int)==(G.ts.length:Int)+(G.ns.length:Int))):=aA (by
      unfold rnB;rw[au.o,av.o,AJ (show G.ts.length<=24 by omega),AJ (show 1<=G.ns.length by have:=AY.1 e0;omega),AJ (show G.ns.length<=16 by omega)];simp only[Cj];rw[Bn];simp only[AV,BH]
      omega)
     generalize (nmL (Gm.names G.ts++G.ns)).length=m at *;clear f hk hlt HA HM y;go_wp2_with (simp only[hL])
     go_ret
     exact⟨aD HX.o.symm,HB.o.below⟩
def zf2:Mw.Enc Tryz.prog 3 Int where
 enc z:=.int .i64 z
 ok:=Gm.In
 key z h:=⟨_,Maps.keyOf_int_mk Tryz.underlying3 (Dt (by unfold Gm.In at h;omega))⟩
 inj x y _ _ h:=by injection h
theorem zmk:Maps.Keyed Tryz.prog 3:=Maps.int_keyed Tryz.underlying3
def asB (t:Gm.Tm):Bool:=if t.wy=0 then t.lv==0 else if t.wy=1\/t.wy=2\/t.wy=3 then decide (0<t.lv) else false
theorem zcl (t:Gm.Tm) (w:World) :
  Calls Tryz.prog 104 #[.agg #[.string (K.str t.nm),.int .i64 t.lv,.int .i64 t.wy]] w fun e w'=>e=.returned (.bool (asB t))/\Below w.heap.size w w':=by
 have HB:=aA (fun o=>(Aq w.heap.size w).alloc (Ad _) o);obtain⟨nm,lv,wy⟩:=t;unfold asB;simp only;generalize K.str nm=s at *;by_cases h0:wy=0
 ·subst h0;rw[Ap rfl]
  go_enter Tryz.func104,Tryz.ntmps104
  go_wp2;go_ret
  exact⟨rfl,HB.o _⟩
 rw[AB h0];by_cases h1:wy=1
 ·subst h1;rw[Ap (by simp)]
  go_enter Tryz.func104,Tryz.ntmps104
  go_wp2;go_ret
  exact⟨rfl,HB.o _⟩
 by_cases h2:wy=2
 ·subst h2;rw[Ap (by simp)]
  go_enter Tryz.func104,Tryz.ntmps104
  go_wp2;go_ret
  exact⟨rfl,HB.o _⟩
 by_cases h3:wy=3
 ·subst h3;rw[Ap (by simp)]
  go_enter Tryz.func104,Tryz.ntmps104
  go_wp2;go_ret
  exact⟨rfl,HB.o _⟩
 rw[AB (by omega)];have e0:(wy==0)=false:=AY.2 h0;have e1:(wy==1)=false:=AY.2 h1;have e2:(wy==2)=false:=AY.2 h2;have e3:(wy==3)=false:=AY.2 h3
 go_enter Tryz.func104,Tryz.ntmps104
 go_wp2;go_ret
 exact⟨rfl,HB.o _⟩
def zdJ (m:List (Int×Int)) (t:Gm.Tm):List (Int×Int):=if 0<t.lv then(if Mw.asc m t.lv=none then m++[(t.lv,t.wy)] else m) else m
def rlF:List Gm.Tm->List (Int×Int)->Int->Bool
 | [],m,g=>(m.length:Int)==g
 | t::r,m,g=>if asB t=false then false else if(Mw.asc m t.lv).isSome=true/\(Mw.asc m t.lv).getD 0≠t.wy then false else rlF r (zdJ m t) (max g t.lv)
theorem ziJ (h:k<ts.length) (m:List (Int×Int)) (g:Int):rlF (ts.drop k) m g=if asB ts[k]=false then false else if(Mw.asc m ts[k].lv).isSome=true/\(Mw.asc m ts[k].lv).getD 0≠ts[k].wy then false else rlF (ts.drop (k+1)) (zdJ m ts[k]) (max g ts[k].lv):=by
 rw[Bx h,rlF]
theorem zkp (h:ts.length<=k) (m:List (Int×Int)) (g:Int):rlF (ts.drop k) m g=((m.length:Int)==g):=by
 rw[BV h,rlF]
def lvL (m:List (Int×Int)):List (Int×Value):=m.map fun p=>(p.1,.int .i64 p.2)
theorem zeB (m:List (Int×Int)) (z:Int):Mw.asc (lvL m) z=(Mw.asc m z).map (fun y=>.int .i64 y):=by
 unfold lvL;induction m with
 | nil=>rfl
 | cons p r ih =>
  obtain⟨k,v⟩:=p;rw[Bp,Mw.asc,Mw.asc,ih];by_cases h:k=z
  ·rw[Ap h,Ap h];rfl
  ·rw[AB h,AB h]
theorem ze6 (m:List (Int×Int)) (z:Int):(Mw.asc (lvL m) z).getD (.int .i64 0)=.int .i64 ((Mw.asc m z).getD 0)/\(Mw.asc (lvL m) z).isSome=(Mw.asc m z).isSome:=by
 rw[zeB];cases Mw.asc m z <;> exact⟨rfl,rfl⟩
theorem zir (w:World):(zeroValue 3).run Tryz.prog w=.ok (.int .i64 0) w:=by kernel_rfl
theorem zbZ (A:Option Addr) (c B:Nat) (ts:List Gm.Tm) (w:World) (ht:zeE w B A ts) (hf:∀x∈ts,K.Tx x.nm/\Gm.In x.lv/\Gm.In x.wy) (hB:B<=w.heap.size) (ap:(ts.length:Int)<=9223372036854775807) :
  Calls Tryz.prog 67 #[.slice A ts.length c] w fun e w'=>e=.returned (.bool (rlF ts [] 0))/\Below w.heap.size w w':=by
 have HT:=aA ht;have HF:=aA hf;have ay:=@EP Tryz.prog;have aq:=aA (Mw.MapIs.made zf2 w);have ar:=aA ((Aq w.heap.size w).alloc (Ad _) (.map #[] 0));clear ht hf
 go_enter Tryz.func67,Tryz.ntmps67
 go_wp2;go_loopw [4,12] (fun vg vi wr=>∃(k:Nat) (m:List (Int×Int)) (g:Int),k<=ts.length/\vi=.int .i64 k/\vg=.int .i64 g/\Hid (rlF ts [] 0=rlF (ts.drop k) m g)/\Below w.heap.size w wr/\Hid (Mw.MapIs zf2 wr w.heap.size (lvL m))) (fun _ vi _=>ts.length-(intOf vi).toNat)
 case atStart=>exact⟨0,[],0,AX _,rfl,rfl,aA rfl,ar.o,aq⟩
 case round =>
  obtain⟨k,m,g,hk,rfl,rfl,HE,hb,HM⟩:=hrel;have HB:=aA hb;have hz:w.heap.size<wr.heap.size:=HM.o.lt;by_cases l:k<ts.length
  ·obtain⟨gb,o,rfl,ab,hc⟩:=HT.o (by omega);have k0:=(hb.cell (p:=⟨gb,o+k*3,none⟩) (Ao ab hB)).trans (hc k l).1;have k1:=(hb.cell (p:=⟨gb,o+k*3+1,none⟩) (Ao ab hB)).trans (hc k l).2.1;have k2:=(hb.cell (p:=⟨gb,o+k*3+2,none⟩) (Ao ab hB)).trans (hc k l).2.2;have az:gb<wr.heap.size:=by omega
   have al:=(HF.o _ (Ay l)).2;have ac:=aA al;have r:=aA (fun x=>zcl ts[k] x);have HR:=aA (ziJ l m g);clear hc al;generalize ts[k]=t at *;obtain⟨nm,lv,wy⟩:=t;simp only at k0 k1 k2 ac r HR;have ad:=aA (HM.o.kept (DP wr (.cells #[.string (K.str nm),.int .i64 lv,.int .i64 wy] 85) none) (by simp));have ae:=Mw.run_look (x:=lv) ad.o zmk Tryz.underlying183 (zir _) ac.o.1 true;rw[Ap rfl,(ze6 m lv).1,(ze6 m lv).2]at ae;have f:(Instr.lookup 183 (.map (some w.heap.size)) (.int .i64 lv) true).run Tryz.prog (wr.alloc (.cells #[.string (K.str nm),.int .i64 lv,.int .i64 wy] 85))=.ok (.tuple #[.int .i64 ((Mw.asc m lv).getD 0),.bool (Mw.asc m lv).isSome]) (wr.alloc (.cells #[.string (K.str nm),.int .i64 lv,.int .i64 wy] 85)):=ae;have i:=aA (fun o=>HB.o.alloc HB.o.size o);clear ae hb;generalize qa:asB ⟨nm,lv,wy⟩=ba at *;clear qa;cases ba
   ·have HX:=aA (HE.o.trans (HR.o.trans (Ap rfl)));go_wp2_with fail
    refine(r.o _).mono ?_;rintro _ w2 ⟨rfl,b⟩;have j:=aA ((i.o _).trans (b.mono (i.o _).size));clear b;go_wp2;go_ret
    exact⟨aD HX.o.symm,j.o⟩
   have af:=aA (HE.o.trans (HR.o.trans (AB (by simp))))
   have ag:Hid (¬((Mw.asc m lv).isSome=true/\(Mw.asc m lv).getD 0≠wy)->Mw.asc (lvL m) lv=none\/Mw.asc (lvL m) lv=some (.int .i64 wy)):=aA (fun h=>by
    rw[zeB];cases q:Mw.asc m lv with
    | none=>exact .inl rfl
    | some y =>
     rw[q]at h
     have:y=wy:=BO fun n=>h ⟨rfl,n⟩
     rw[this];exact .inr rfl)
   have ah:Hid (¬0<lv->zdJ m ⟨nm,lv,wy⟩=m):=aA (fun h=>by unfold zdJ;rw[AB h])
   have aa:Hid (0<lv->lvL (zdJ m ⟨nm,lv,wy⟩)=if Mw.asc (lvL m) lv=none then lvL m++[(lv,.int .i64 wy)] else lvL m):=aA (fun h=>by
    unfold zdJ;rw[Ap h,zeB];cases q:Mw.asc m lv with
    | none=>simp[lvL]
    | some y=>simp)
   by_cases h2:(Mw.asc m lv).isSome=true/\(Mw.asc m lv).getD 0≠wy
   ·have HX:=aA (af.o.trans (Ap h2));obtain⟨h3,h4⟩:=h2;rw[h3]at f;have h5:((Mw.asc m lv).getD 0 != wy)=true:=by simpa using h4
    clear h3 h4 ag;generalize (Mw.asc m lv).getD 0=zs at *;go_wp2_with fail
    refine(r.o _).mono ?_;rintro _ w2 ⟨rfl,b⟩;have j:=aA ((i.o _).trans (b.mono (i.o _).size));have d:=(b.block wr.heap.size (by simp)).trans (Az wr _);have ai:wr.heap.size<w2.heap.size:=(Ac.1 d).1;have f1:=Aw w2 _ 1 _ _ _ d;have f2:=Aw w2 _ 2 _ _ _ d;clear b d;go_wp2;go_ret
    exact⟨aD HX.o.symm,j.o⟩
   ·have HX:=aA (af.o.trans (AB h2));have au:=aA (ag.o h2)
    have h3:((Mw.asc m lv).isSome&&((Mw.asc m lv).getD 0 != wy))=false:=by
     cases q:(Mw.asc m lv).isSome
     ·rfl
     ·rw[Cj];by_cases q2:(Mw.asc m lv).getD 0=wy
      ·rw[q2];simp
      ·exact absurd ⟨q,q2⟩ h2
    generalize qs:(Mw.asc m lv).isSome=kn at f h3;generalize qg:(Mw.asc m lv).getD 0=zs at f h3;clear h2 qs qg ag af HR HE;by_cases hp:0<lv
    ·have HP:=aA (aa.o hp);cases kn
     rotate_left
     focus
      have h4:(zs != wy)=false:=by simpa using h3
      clear h3
     all_goals
      go_wp2_with fail
      refine(r.o _).mono ?_;rintro _ w2 ⟨rfl,b⟩;have j:=aA ((i.o _).trans (b.mono (i.o _).size));have d:=(b.block wr.heap.size (by simp)).trans (Az wr _);have ai:wr.heap.size<w2.heap.size:=(Ac.1 d).1;have f1:=Aw w2 _ 1 _ _ _ d;have f2:=Aw w2 _ 2 _ _ _ d;have aj:=aA (ad.o.kept (zab b none) (by simp));have av:=aA (fun(x:World) (h:w2.grownBy x (some w.heap.size))=>(Aw x _ 1 _ _ _ ((h.block wr.heap.size ai (fun e=>by injection e with e;omega)).trans d)));clear b d;have am:=aA (Mw.run_store (x:=lv) aj.o zmk Tryz.underlying183 ac.o.1 (.int .i64 wy) au.o);rw[<-HP.o]at am;clear f;go_wp2_with (at_mapUpdate;refine Mw.wpList_store rfl _ _ _ _ rfl am.o rfl rfl rfl ?_;rintro w3 ⟨ao,ak⟩;have f3:=av.o _ ak)
      have aw:=aA (Below.grown j.o ak j.o.size (fun k e=>by injection e with e;omega));have ax:=aA ao;clear ao ak;go_roundw
      case rel=>exact⟨k+1,_,_,by omega,by go_num,rfl,HX,aw.o,ax⟩
      case measure=>simp[intOf];omega
    ·have HP:=aA (ah.o hp);have a0:=EL.1 hp;clear hp;cases kn
     rotate_left
     focus
      have h4:(zs != wy)=false:=by simpa using h3
      clear h3
     all_goals
      go_wp2_with fail
      refine(r.o _).mono ?_;rintro _ w2 ⟨rfl,b⟩;have j:=aA ((i.o _).trans (b.mono (i.o _).size));have d:=(b.block wr.heap.size (by simp)).trans (Az wr _);have ai:wr.heap.size<w2.heap.size:=(Ac.1 d).1;have f1:=Aw w2 _ 1 _ _ _ d;have f2:=Aw w2 _ 2 _ _ _ d;have aj:=aA (ad.o.kept (zab b none) (by simp));clear b d;rw[HP.o]at HX;clear f;go_wp2;go_roundw
      case rel=>exact⟨k+1,_,_,by omega,by go_num,rfl,HX,j.o,aj⟩
      case measure=>simp[intOf];omega
  ·obtain rfl:k=ts.length:=by omega
   have hL:=Mw.run_len HM.o Tryz.underlying183 3;have HX:=aA (HE.o.trans (zkp (Ad _) m g));rw[show(lvL m).length=m.length by simp[lvL]]at hL;generalize m.length=q at *;clear hb;go_wp2_with (simp only[hL])
   go_ret
   exact⟨aD HX.o.symm,HB.o⟩
def isT (z:Int):Bool:=decide (0<=z)
def zbv (G:Gm.Gr) (z:Int):Bool:=!Gm.has G z
theorem zf3 (A:Option Addr) (c B:Nat) (l:List Int) (w:World) (hr:RdI w B A l) (hB:B<=w.heap.size) (ab:(l.length:Int)<=9223372036854775807) :
  Calls Tryz.prog 107 #[.slice A l.length c,.func (Fn.func 157) #[] #[]] w fun e w'=>∃n:Int,e=.returned (.int .i64 n)/\decide (0<=n)=l.any isT/\Below w.heap.size w w':=by
 have HT:=aA hr;have ac:=aA (Aq w.heap.size w);clear hr
 go_enter Tryz.func107,Tryz.ntmps107
 go_wp2;go_loopw [8] (fun vi wr=>∃(k:Nat),k<=l.length/\vi=.int .i64 k/\Hid (zeG l (fun z=>!isT z) k)/\Below w.heap.size w wr) (fun vi _=>l.length-(intOf vi).toNat)
 case atStart=>exact⟨0,AX _,rfl,aA (zeG.zero _ _),ac.o⟩
 case round =>
  obtain⟨k,hk,rfl,HA,hb⟩:=hrel;have HB:=aA hb;by_cases hlt:k<l.length
  ·obtain⟨g,o,rfl,ad,hc⟩:=HT.o (by omega);have k0:=(hb.cell (p:=⟨g,o+k,none⟩) (Ao ad hB)).trans (hc k hlt);rw[L.gd_lt hlt]at k0;have HC:=aA (fun(x:World) (_:Below w.heap.size w x)=>(zcG l[k] x).mono (fun e w' h=>⟨h.1,by rw[h.2];exact Aq _ _⟩:∀e w',_->(e=.returned (.bool (isT l[k]))/\Below x.heap.size x w')));have HN:=aA (fun h=>HA.o.next hlt h);have HY:=aA (fun(h:isT l[k]=true)=>(DS.2 ⟨_,Ay hlt,h⟩:l.any isT=true));clear hb hc;obtain⟨z,qz⟩:∃z,z=l[k]:=⟨_,rfl⟩
   rw[<-qz]at k0 HC HN HY;clear qz;cases q:isT z
   ·have HX:=aA (HN.o (by simp only[q];rfl));rw[q]at HC;clear q HN HY;go_wp2_with fail
    refine(HC.o _ HB.o).mono ?_;rintro _ w2 ⟨rfl,b⟩;have aa:=aA (HB.o.trans (b.mono HB.o.size));clear b;go_wp2;go_roundw
    case rel=>exact⟨k+1,by omega,by go_num,HX,aa.o⟩
    case measure=>simp[intOf];omega
   ·have HX:=aA (HY.o q);rw[q]at HC;clear q HN HY;go_wp2_with fail
    refine(HC.o _ HB.o).mono ?_;rintro _ w2 ⟨rfl,b⟩;have aa:=aA (HB.o.trans (b.mono HB.o.size));clear b;go_wp2;go_ret
    exact⟨k,rfl,by rw[HX.o];simp,aa.o⟩
  ·obtain rfl:k=l.length:=by omega
   have HX:Hid (l.any isT=false):=aA (by
    rw[DI];intro z hz;obtain⟨i,hi,rfl⟩:=BB hz
    have:=HA.o i hi hi
    simpa using this)
   clear hb;go_wp2;go_ret
   exact⟨-1,rfl,by rw[HX.o];rfl,HB.o⟩
theorem zda (A:Option Addr) (c B:Nat) (l:List Int) (w:World) (hr:RdI w B A l) (hB:B<=w.heap.size) (aa:(l.length:Int)<=9223372036854775807) :
  Calls Tryz.prog 72 #[.slice A l.length c,.func (Fn.func 157) #[] #[]] w fun e w'=>e=.returned (.bool (l.any isT))/\Below w.heap.size w w':=by
 have HI:=aA (zf3 A c B l w hr hB aa);clear hr aa
 go_enter Tryz.func72,Tryz.ntmps72
 go_wp2_with fail
 refine HI.o.mono ?_;rintro _ w2 ⟨n,rfl,hn,hb⟩;have HN:=aA hn;have HB:=aA hb;clear hn hb;go_wp2;go_ret
 exact⟨aD HN.o,HB.o⟩
theorem zf4 (v:Value) (G:Gm.Gr) (B gb:Nat) (z:Int) (a:Array Value) (hv:v=.agg a) (hz:Gm.In z) (w:World) (hg:aQ w B v G) (hb:w.heap[gb]?=some (.cells a 26 (0,0))) :
  Calls Tryz.prog 155 #[.int .i64 z,.pointer (some ⟨gb,0,none⟩)] w fun e w'=>e=.returned (.bool (zbv G z))/\Below w.heap.size w w':=by
 have HH:=aA (zew v G B z hz w hg);obtain⟨AT,cT,AN,cN,AR,cR,rfl,_⟩:=hg;injection hv with hv;subst hv;have c0:=Aw w gb 0 _ _ _ hb;have c1:=Aw w gb 1 _ _ _ hb;have c2:=Aw w gb 2 _ _ _ hb;have c3:=Aw w gb 3 _ _ _ hb;clear hb hz
 go_enter Tryz.func155,Tryz.ntmps155
 go_wp2_with fail
 refine HH.o.mono ?_;rintro _ w2 ⟨rfl,hb⟩;have HB:=aA hb;clear hb;go_wp2;go_ret
 exact⟨rfl,HB.o⟩
theorem zhF (A:Option Addr) (c B:Nat) (l:List Int) (w:World) (G:Gm.Gr) (gb B2:Nat) (a:Array Value) (ac:∀z∈l,Gm.In z) (hg:∀x:World,Below w.heap.size w x->aQ x B2 (.agg a) G) (aa:∀x:World,Below w.heap.size w x->x.heap[gb]?=some (.cells a 26 (0,0))) (hr:RdI w B A l) (hB:B<=w.heap.size) (ad:(l.length:Int)<=9223372036854775807) :
  Calls Tryz.prog 107 #[.slice A l.length c,.func (Fn.func 155) #[] #[.pointer (some ⟨gb,0,none⟩)]] w fun e w'=>∃n:Int,e=.returned (.int .i64 n)/\decide (0<=n)=l.any (zbv G)/\Below w.heap.size w w':=by
 have HT:=aA hr;have ae:=aA (Aq w.heap.size w);have af:=aA ac;have HG:=aA hg;have ag:=aA aa;clear ac hg aa;clear hr
 go_enter Tryz.func107,Tryz.ntmps107
 go_wp2;go_loopw [8] (fun vi wr=>∃(k:Nat),k<=l.length/\vi=.int .i64 k/\Hid (zeG l (fun z=>!(zbv G) z) k)/\Below w.heap.size w wr) (fun vi _=>l.length-(intOf vi).toNat)
 case atStart=>exact⟨0,AX _,rfl,aA (zeG.zero _ _),ae.o⟩
 case round =>
  obtain⟨k,hk,rfl,HA,hb⟩:=hrel;have HB:=aA hb;by_cases hlt:k<l.length
  ·obtain⟨g,o,rfl,aa,hc⟩:=HT.o (by omega);have k0:=(hb.cell (p:=⟨g,o+k,none⟩) (Ao aa hB)).trans (hc k hlt);rw[L.gd_lt hlt]at k0;have HC:=aA (fun(x:World) (h:Below w.heap.size w x)=>zf4 (.agg a) G B2 gb l[k] a rfl (af.o _ (Ay hlt)) x (HG.o x h) (ag.o x h));have HN:=aA (fun h=>HA.o.next hlt h);have HY:=aA (fun(h:(zbv G) l[k]=true)=>(DS.2 ⟨_,Ay hlt,h⟩:l.any (zbv G)=true));clear hb hc;obtain⟨z,qz⟩:∃z,z=l[k]:=⟨_,rfl⟩
   rw[<-qz]at k0 HC HN HY;clear qz;cases q:(zbv G) z
   ·have HX:=aA (HN.o (by simp only[q];rfl));rw[q]at HC;clear q HN HY;go_wp2_with fail
    refine(HC.o _ HB.o).mono ?_;rintro _ w2 ⟨rfl,b⟩;have ab:=aA (HB.o.trans (b.mono HB.o.size));clear b;go_wp2;go_roundw
    case rel=>exact⟨k+1,by omega,by go_num,HX,ab.o⟩
    case measure=>simp[intOf];omega
   ·have HX:=aA (HY.o q);rw[q]at HC;clear q HN HY;go_wp2_with fail
    refine(HC.o _ HB.o).mono ?_;rintro _ w2 ⟨rfl,b⟩;have ab:=aA (HB.o.trans (b.mono HB.o.size));clear b;go_wp2;go_ret
    exact⟨k,rfl,by rw[HX.o];simp,ab.o⟩
  ·obtain rfl:k=l.length:=by omega
   have HX:Hid (l.any (zbv G)=false):=aA (by
    rw[DI];intro z hz;obtain⟨i,hi,rfl⟩:=BB hz
    have:=HA.o i hi hi
    simpa using this)
   clear hb;go_wp2;go_ret
   exact⟨-1,rfl,by rw[HX.o];rfl,HB.o⟩
theorem zdS (A:Option Addr) (c B:Nat) (l:List Int) (w:World) (G:Gm.Gr) (gb B2:Nat) (a:Array Value) (ab:∀z∈l,Gm.In z) (hg:∀x:World,Below w.heap.size w x->aQ x B2 (.agg a) G) (ac:∀x:World,Below w.heap.size w x->x.heap[gb]?=some (.cells a 26 (0,0))) (hr:RdI w B A l) (hB:B<=w.heap.size) (aa:(l.length:Int)<=9223372036854775807) :
  Calls Tryz.prog 72 #[.slice A l.length c,.func (Fn.func 155) #[] #[.pointer (some ⟨gb,0,none⟩)]] w fun e w'=>e=.returned (.bool (l.any (zbv G)))/\Below w.heap.size w w':=by
 have HI:=aA (zhF A c B l w G gb B2 a ab hg ac hr hB aa);clear hr aa ab hg ac
 go_enter Tryz.func72,Tryz.ntmps72
 go_wp2_with fail
 refine HI.o.mono ?_;rintro _ w2 ⟨n,rfl,hn,hb⟩;have HN:=aA hn;have HB:=aA hb;clear hn hb;go_wp2;go_ret
 exact⟨aD HN.o,HB.o⟩
end Go.Proofs.YtjjbaehamplnaaaGreat
