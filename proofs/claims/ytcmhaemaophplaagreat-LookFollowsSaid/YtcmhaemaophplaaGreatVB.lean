/- Part of the proofs over this program: CfgRef, CalmT, CfgRef2, CfgRef3, MapW, CfgNames, CfgLevels, CfgRules. -/
import Derived.Maps.OwnSet
import Derived.Test.YtcmhaemaophplaaGreatVA
namespace Go.Proofs.YtcmhaemaophplaaGreat
set_option maxRecDepth 100000
set_option maxHeartbeats 40000000
open Go.RowKit
def One (w:World) (a:Array Value) (wr:World):Prop:=Below (w.heap.size+1) (w.alloc (.cells a 26)) wr
theorem One.start (w:World) (a:Array Value):One w a (w.alloc (.cells a 26)):=Below.refl _ _
theorem One.size {w wr:World} {a:Array Value} (h:One w a wr):w.heap.size+1<=wr.heap.size:=by have:=Below.size h;simpa using this
theorem One.below {w wr:World} {a:Array Value} (h:One w a wr):Below w.heap.size w wr:=((Below.refl w.heap.size w).alloc (Nat.le_refl _) _).trans (Below.mono h (by omega))
theorem One.on {w wr wt:World} {a:Array Value} (h:One w a wr) (k:Below wr.heap.size wr wt):One w a wt:=Below.trans h (k.mono h.size)
theorem One.drewN {w wr:World} {a:Array Value} (h:One w a wr) (n:Nat):One w a (wr.drewN n):=aB h n
theorem One.alloc {w wr:World} {a:Array Value} (h:One w a wr) (o:Obj):One w a (wr.alloc o):=Below.alloc h h.size o
theorem One.c {w wr:World} {a:Array Value} (h:One w a wr) (j:Nat) (u:Value) (hj:a[j]?=some u):wr.cell? ⟨w.heap.size,j,none⟩=some u:=by
 have b0:=(Below.block h w.heap.size (by omega)).trans (heap_alloc_new w _);exact(cell_of_row wr _ j _ _ _ b0).trans hj
theorem zas (s:List Int) (hs:K.Tx s) (w:World) :
  Calls Tryz.prog 81 #[.string (K.str s)] w fun e w'=>e=.returned (.bool (Gm.named s))/\w=w':=by
 have HN:=aA (fun w=>zb0 s hs.1 w);have HL:=aA (fun w=>zcS s hs.1 w);unfold Gm.named;clear hs;cases q:T.isName s
 ·rw[q]at HN;clear q;generalize T.isLit s=b at *
  go_enter Tryz.func81,Tryz.ntmps81
  go_wp2_with fail
  refine(HN.o _).mono ?_;rintro _ _ ⟨rfl,rfl⟩;go_wp2_with fail
  refine(HL.o _).mono ?_;rintro _ _ ⟨rfl,rfl⟩;go_wp2;go_ret
  exact⟨aE (by simp),rfl⟩
 ·rw[q]at HN;clear q
  go_enter Tryz.func81,Tryz.ntmps81
  go_wp2_with fail
  refine(HN.o _).mono ?_;rintro _ _ ⟨rfl,rfl⟩;go_wp2;go_ret
  exact⟨aE (by simp),rfl⟩
theorem ziI {n:Int} {ts:List Gm.Tm} {k:Nat} (h:k<ts.length) (z:Int):Gm.lev n (ts.drop k) z=if ts[k].lv≠n then Gm.lev n (ts.drop (k+1)) z else if z≠0/\z≠ts[k].wy then false else Gm.lev n (ts.drop (k+1)) ts[k].wy:=by
 rw[List.drop_eq_getElem_cons h,Gm.lev]
theorem zkk {n:Int} {ts:List Gm.Tm} {k:Nat} (h:ts.length<=k) (z:Int):Gm.lev n (ts.drop k) z=(z != 0):=by
 rw[List.drop_eq_nil_of_le h,Gm.lev]
theorem zhc (v:Value) (G:Gm.Gr) (n:Int) (B:Nat) (w:World) (hg:aT w B v G) (hB:B<=w.heap.size) :
  Calls Tryz.prog 83 #[v,.int .i64 n] w fun e w'=>e=.returned (.bool (Gm.lev n G.ts 0))/\Below w.heap.size w w':=by
 obtain⟨AT,cT,AN,cN,AR,cR,rfl,⟨hl,hm⟩,_,_,ht,_,_⟩:=hg;have HT:=aA ht;have HS0:=aA (One.start w #[.slice AT G.ts.length cT,.slice AN G.ns.length cN,.slice AR G.rs.length cR,.int .i64 G.st]);clear ht
 go_enter Tryz.func83,Tryz.ntmps83
 go_wp2;go_loopw [5,6] (fun vw vi wr=>∃(k:Nat) (z:Int),k<=G.ts.length/\vi=.int .i64 k/\vw=.int .i64 z/\Hid (Gm.lev n G.ts 0=Gm.lev n (G.ts.drop k) z)/\One w #[.slice AT G.ts.length cT,.slice AN G.ns.length cN,.slice AR G.rs.length cR,.int .i64 G.st] wr) (fun _ vi _=>G.ts.length-(intOf vi).toNat)
 case atStart=>exact⟨0,0,Nat.zero_le _,rfl,rfl,aA rfl,HS0.o⟩
 case round =>
  obtain⟨k,z,hk,rfl,rfl,HE,hb⟩:=hrel;have HB:=aA hb;have q0:=hb.c 0 _ rfl;have hz:w.heap.size<wr.heap.size:=hb.size;have hbw:=hb.below;clear hb;by_cases hlt:k<G.ts.length
  ·obtain⟨g,o,rfl,hgb,hc⟩:=HT.o (by omega);have k0:=(hbw.cell (p:=⟨g,o+k*3,none⟩) (Nat.lt_of_lt_of_le hgb hB)).trans (hc k hlt).1;have k1:=(hbw.cell (p:=⟨g,o+k*3+1,none⟩) (Nat.lt_of_lt_of_le hgb hB)).trans (hc k hlt).2.1;have k2:=(hbw.cell (p:=⟨g,o+k*3+2,none⟩) (Nat.lt_of_lt_of_le hgb hB)).trans (hc k hlt).2.2;have hgs:g<wr.heap.size:=by omega
   have HN:=aA (HE.o.trans (ziI hlt z));clear hc hbw;generalize G.ts[k].nm=nm at *;generalize G.ts[k].lv=lv at *;generalize G.ts[k].wy=wy at *;by_cases hx:lv=n
   ·subst hx;have hx':(lv != lv)=false:=by simp
    by_cases hy:z=0
    ·have HR:=aA (HN.o.trans ((if_neg (by simp)).trans (if_neg (by simp[hy]))));subst hy;go_wp2;go_roundw
     case rel=>exact⟨k+1,wy,by omega,by go_num,rfl,HR,HB.o.alloc _⟩
     case measure=>simp[intOf];omega
    ·have hy':(z != 0)=true:=by simpa using hy
     by_cases hq:z=wy
     ·have HR:=aA (HN.o.trans ((if_neg (by simp)).trans (if_neg (by simp[hq]))));have hq':(z != wy)=false:=by simpa using hq
      clear hq hy;go_wp2;go_roundw
      case rel=>exact⟨k+1,wy,by omega,by go_num,rfl,HR,HB.o.alloc _⟩
      case measure=>simp[intOf];omega
     ·have HR:=aA (HN.o.trans ((if_neg (by simp)).trans (if_pos ⟨hy,hq⟩)));have hq':(z != wy)=true:=by simpa using hq
      clear hq hy;go_wp2;go_ret
      exact⟨aE HR.o.symm,(HB.o.alloc _).below⟩
   ·have HR:=aA (HN.o.trans (if_pos hx));have hx':(lv != n)=true:=by simpa using hx
    clear hx;go_wp2;go_roundw
    case rel=>exact⟨k+1,z,by omega,by go_num,rfl,HR,HB.o.alloc _⟩
    case measure=>simp[intOf];omega
  ·obtain rfl:k=G.ts.length:=by omega
   have HR:=aA (HE.o.trans (zkk (Nat.le_refl _) z));clear hbw;go_wp2;go_ret
   exact⟨aE HR.o.symm,HB.o.below⟩
theorem zaE {ts:List Gm.Tm} {k:Nat} (h:k<ts.length) (hn:Gm.term1 ts k ts[k]=false):Gm.terms ts=false:=by
 unfold Gm.terms;rw[Bool.and_eq_false_iff];exact .inr (decide_eq_false fun q=>by have:=q k h;rw[hn]at this;cases this)
theorem zfw {ts:List Gm.Tm} (h:24<ts.length):Gm.terms ts=false:=by
 unfold Gm.terms;rw[decide_eq_false (by omega)];rfl
def LvOk (ts:List Gm.Tm) (j:Nat):Prop:=∀m,m+1<j->Gm.lev ((m+1:Nat):Int) ts 0=true
def zkD (ts:List Gm.Tm) (k:Nat):Prop:=∀i (h:i<ts.length),i<k->Gm.term1 ts i ts[i]=true
theorem zkD.next {ts:List Gm.Tm} {k:Nat} (h:zkD ts k) (hk:k<ts.length) (hn:Gm.term1 ts k ts[k]=true):zkD ts (k+1):=fun i hi hik=>by
 rcases Nat.lt_or_ge i k with q|q
 ·exact h i hi q
 ·obtain rfl:i=k:=by omega
  exact hn
theorem zkD.all {ts:List Gm.Tm} (h:zkD ts ts.length) (hl:ts.length<=24):Gm.terms ts=true:=by
 unfold Gm.terms;rw[decide_eq_true hl,decide_eq_true fun i hi=>h i hi hi];rfl
theorem zfF (v:Value) (G:Gm.Gr) (B:Nat) (w:World) (hg:aT w B v G) (hf:Gm.Fit G) (hB:B<=w.heap.size) :
  Calls Tryz.prog 52 #[v] w fun e w'=>e=.returned (.bool (Gm.terms G.ts))/\Below w.heap.size w w':=by
 have HG:=aA hg;obtain⟨AT,cT,AN,cN,AR,cR,rfl,⟨hl,hm⟩,_,_,ht,_,_⟩:=hg;have HT:=aA ht;have HF:=aA hf;have HS0:=aA (One.start w #[.slice AT G.ts.length cT,.slice AN G.ns.length cN,.slice AR G.rs.length cR,.int .i64 G.st]);clear ht hf;by_cases h24:24<G.ts.length
 ·rw[zfw h24]
  go_enter Tryz.func52,Tryz.ntmps52
  go_wp2;go_ret
  exact⟨rfl,HS0.o.below⟩
 go_enter Tryz.func52,Tryz.ntmps52
 go_wp2;go_loopw [3] (fun vi wr=>∃(k:Nat),k<=G.ts.length/\vi=.int .i64 k/\zkD G.ts k/\One w #[.slice AT G.ts.length cT,.slice AN G.ns.length cN,.slice AR G.rs.length cR,.int .i64 G.st] wr) (fun vi _=>G.ts.length-(intOf vi).toNat)
 case atStart=>exact⟨0,Nat.zero_le _,rfl,fun _ _ h=>by omega,HS0.o⟩
 case round =>
  obtain⟨k,hk,rfl,HE,hb⟩:=hrel;have HE:=aA HE;have HB:=aA hb;have q0:=hb.c 0 _ rfl;have q1:=hb.c 1 _ rfl;have q2:=hb.c 2 _ rfl;have q3:=hb.c 3 _ rfl;have hz:w.heap.size<wr.heap.size:=hb.size;have hbw:=hb.below;clear hb;by_cases hlt:k<G.ts.length
  ·obtain⟨g,o,rfl,hgb,hc⟩:=HT.o (by omega);have k0:=(hbw.cell (p:=⟨g,o+k*3,none⟩) (Nat.lt_of_lt_of_le hgb hB)).trans (hc k hlt).1;have k1:=(hbw.cell (p:=⟨g,o+k*3+1,none⟩) (Nat.lt_of_lt_of_le hgb hB)).trans (hc k hlt).2.1;have k2:=(hbw.cell (p:=⟨g,o+k*3+2,none⟩) (Nat.lt_of_lt_of_le hgb hB)).trans (hc k hlt).2.2;have hgs:g<wr.heap.size:=by omega
   have hft:=HF.o.t _ (List.getElem_mem hlt);have HNM:=aA (fun x=>zas _ hft.1 x);have HTM:=aA (fun(x:World) (h:One w #[.slice (some ⟨g,o,none⟩) G.ts.length cT,.slice AN G.ns.length cN,.slice AR G.rs.length cR,.int .i64 G.st] x)=>zbh _ G _ B x (HG.o.below h.below hB) HF.o hft.1 (Nat.le_trans hB h.below.size));have HLV:=aA (fun(n:Int) (x:World) (h:One w #[.slice (some ⟨g,o,none⟩) G.ts.length cT,.slice AN G.ns.length cN,.slice AR G.rs.length cR,.int .i64 G.st] x)=>zhc _ G n B x (HG.o.below h.below hB) (Nat.le_trans hB h.below.size));obtain⟨t,qt⟩:∃t,t=G.ts[k]:=⟨_,rfl⟩
   rw[<-qt]at k0 k1 k2 hft HNM HTM;have QT:=aA qt.symm;have hlb:=hft.2.1;unfold Gm.In at hlb;clear hc hbw qt hft;unfold Gm.term at HTM;obtain⟨nm,lv,wy⟩:=t;simp only at k0 k1 k2 HNM HTM hlb;by_cases c0:Gm.named nm=true
   case neg =>
    have c0':=Bool.eq_false_iff.2 c0;have HX:Hid (Gm.terms G.ts=false):=aA (zaE hlt (by rw[QT.o];unfold Gm.term1;simp[c0']));rw[c0']at HNM;clear c0 c0';go_wp2_with fail
    refine(HNM.o _).mono ?_;rintro _ _ ⟨rfl,rfl⟩;go_wp2;go_ret
    exact⟨aE HX.o.symm,(HB.o.alloc _).below⟩
   rw[c0]at HNM;have C0:=aA c0;clear c0;by_cases c1:Gm.find (Gm.names G.ts) nm=(k:Int)
   case neg =>
    have HX:Hid (Gm.terms G.ts=false):=aA (zaE hlt (by rw[QT.o];unfold Gm.term1;simp[c1]));have f1:(Gm.find (Gm.names G.ts) nm != (k:Int))=true:=by simpa using c1
    clear c1;go_wp2_with fail
    refine(HNM.o _).mono ?_;rintro _ _ ⟨rfl,rfl⟩;go_wp2_with fail
    refine(HTM.o _ (HB.o.alloc _)).mono ?_;rintro _ w2 ⟨rfl,hb2⟩;have HB2:=aA ((HB.o.alloc _).on hb2);have hb2b:=(hb2.block wr.heap.size (by simp)).trans (heap_alloc_new wr _);have z2:wr.heap.size<w2.heap.size:=(Array.getElem?_eq_some_iff.1 hb2b).1;have d0:=cell_of_row w2 _ 0 _ _ _ hb2b;have d1:=cell_of_row w2 _ 1 _ _ _ hb2b;have d2:=cell_of_row w2 _ 2 _ _ _ hb2b;have q0':=HB2.o.c 0 _ rfl;clear hb2 hb2b;go_wp2;go_ret
    exact⟨aE HX.o.symm,HB2.o.below⟩
   have f1:(Gm.find (Gm.names G.ts) nm != (k:Int))=false:=by simpa using c1
   have C1:=aA c1;clear c1;by_cases c2:0<=lv
   case neg =>
    have HX:Hid (Gm.terms G.ts=false):=aA (zaE hlt (by rw[QT.o];unfold Gm.term1;simp[c2]));have f2:=Int.not_le.1 c2;clear c2;go_wp2_with fail
    refine(HNM.o _).mono ?_;rintro _ _ ⟨rfl,rfl⟩;go_wp2_with fail
    refine(HTM.o _ (HB.o.alloc _)).mono ?_;rintro _ w2 ⟨rfl,hb2⟩;have HB2:=aA ((HB.o.alloc _).on hb2);have hb2b:=(hb2.block wr.heap.size (by simp)).trans (heap_alloc_new wr _);have z2:wr.heap.size<w2.heap.size:=(Array.getElem?_eq_some_iff.1 hb2b).1;have d0:=cell_of_row w2 _ 0 _ _ _ hb2b;have d1:=cell_of_row w2 _ 1 _ _ _ hb2b;have d2:=cell_of_row w2 _ 2 _ _ _ hb2b;have q0':=HB2.o.c 0 _ rfl;clear hb2 hb2b;go_wp2;go_ret
    exact⟨aE HX.o.symm,HB2.o.below⟩
   by_cases c3:lv<=24
   case neg =>
    have HX:Hid (Gm.terms G.ts=false):=aA (zaE hlt (by rw[QT.o];unfold Gm.term1;simp[c3]));have f3:=Int.not_le.1 c3;clear c3;go_wp2_with fail
    refine(HNM.o _).mono ?_;rintro _ _ ⟨rfl,rfl⟩;go_wp2_with fail
    refine(HTM.o _ (HB.o.alloc _)).mono ?_;rintro _ w2 ⟨rfl,hb2⟩;have HB2:=aA ((HB.o.alloc _).on hb2);have hb2b:=(hb2.block wr.heap.size (by simp)).trans (heap_alloc_new wr _);have z2:wr.heap.size<w2.heap.size:=(Array.getElem?_eq_some_iff.1 hb2b).1;have d0:=cell_of_row w2 _ 0 _ _ _ hb2b;have d1:=cell_of_row w2 _ 1 _ _ _ hb2b;have d2:=cell_of_row w2 _ 2 _ _ _ hb2b;have q0':=HB2.o.c 0 _ rfl;clear hb2 hb2b;go_wp2;go_ret
    exact⟨aE HX.o.symm,HB2.o.below⟩
   by_cases c4:0<=wy
   case neg =>
    have HX:Hid (Gm.terms G.ts=false):=aA (zaE hlt (by rw[QT.o];unfold Gm.term1;simp[c4]));have f4:=Int.not_le.1 c4;clear c4;go_wp2_with fail
    refine(HNM.o _).mono ?_;rintro _ _ ⟨rfl,rfl⟩;go_wp2_with fail
    refine(HTM.o _ (HB.o.alloc _)).mono ?_;rintro _ w2 ⟨rfl,hb2⟩;have HB2:=aA ((HB.o.alloc _).on hb2);have hb2b:=(hb2.block wr.heap.size (by simp)).trans (heap_alloc_new wr _);have z2:wr.heap.size<w2.heap.size:=(Array.getElem?_eq_some_iff.1 hb2b).1;have d0:=cell_of_row w2 _ 0 _ _ _ hb2b;have d1:=cell_of_row w2 _ 1 _ _ _ hb2b;have d2:=cell_of_row w2 _ 2 _ _ _ hb2b;have q0':=HB2.o.c 0 _ rfl;clear hb2 hb2b;go_wp2;go_ret
    exact⟨aE HX.o.symm,HB2.o.below⟩
   by_cases c5:wy<=3
   case neg =>
    have HX:Hid (Gm.terms G.ts=false):=aA (zaE hlt (by rw[QT.o];unfold Gm.term1;simp[c5]));have f5:=Int.not_le.1 c5;clear c5;go_wp2_with fail
    refine(HNM.o _).mono ?_;rintro _ _ ⟨rfl,rfl⟩;go_wp2_with fail
    refine(HTM.o _ (HB.o.alloc _)).mono ?_;rintro _ w2 ⟨rfl,hb2⟩;have HB2:=aA ((HB.o.alloc _).on hb2);have hb2b:=(hb2.block wr.heap.size (by simp)).trans (heap_alloc_new wr _);have z2:wr.heap.size<w2.heap.size:=(Array.getElem?_eq_some_iff.1 hb2b).1;have d0:=cell_of_row w2 _ 0 _ _ _ hb2b;have d1:=cell_of_row w2 _ 1 _ _ _ hb2b;have d2:=cell_of_row w2 _ 2 _ _ _ hb2b;have q0':=HB2.o.c 0 _ rfl;clear hb2 hb2b;go_wp2;go_ret
    exact⟨aE HX.o.symm,HB2.o.below⟩
   by_cases c6:((lv==0)==(wy==0))=true
   case neg =>
    have c6':=Bool.eq_false_iff.2 c6;have HX:Hid (Gm.terms G.ts=false):=aA (zaE hlt (by rw[QT.o];unfold Gm.term1;simp[c6']));obtain⟨b6,e5,e6⟩:∃b:Bool,(lv==0)=b/\(wy==0) = !b:=⟨(lv==0),rfl,by revert c6';cases (lv==0) <;> cases (wy==0) <;> simp⟩
    clear c6 c6';go_wp2_with fail
    refine(HNM.o _).mono ?_;rintro _ _ ⟨rfl,rfl⟩;go_wp2_with fail
    refine(HTM.o _ (HB.o.alloc _)).mono ?_;rintro _ w2 ⟨rfl,hb2⟩;have HB2:=aA ((HB.o.alloc _).on hb2);have hb2b:=(hb2.block wr.heap.size (by simp)).trans (heap_alloc_new wr _);have z2:wr.heap.size<w2.heap.size:=(Array.getElem?_eq_some_iff.1 hb2b).1;have d0:=cell_of_row w2 _ 0 _ _ _ hb2b;have d1:=cell_of_row w2 _ 1 _ _ _ hb2b;have d2:=cell_of_row w2 _ 2 _ _ _ hb2b;have q0':=HB2.o.c 0 _ rfl;clear hb2 hb2b;go_wp2;go_ret
    exact⟨aE HX.o.symm,HB2.o.below⟩
   obtain⟨b6,e5,e6⟩:∃b:Bool,(lv==0)=b/\(wy==0)=b:=⟨(lv==0),rfl,by revert c6;cases (lv==0) <;> cases (wy==0) <;> simp⟩
   have C6:=aA c6;clear c6;go_wp2_with fail
   refine(HNM.o _).mono ?_;rintro _ _ ⟨rfl,rfl⟩;go_wp2_with fail
   refine(HTM.o _ (HB.o.alloc _)).mono ?_;rintro _ w2 ⟨rfl,hb2⟩;have HB2:=aA ((HB.o.alloc _).on hb2);have hb2b:=(hb2.block wr.heap.size (by simp)).trans (heap_alloc_new wr _);have z2:wr.heap.size<w2.heap.size:=(Array.getElem?_eq_some_iff.1 hb2b).1;have d0:=cell_of_row w2 _ 0 _ _ _ hb2b;have d1:=cell_of_row w2 _ 1 _ _ _ hb2b;have d2:=cell_of_row w2 _ 2 _ _ _ hb2b;have q0':=HB2.o.c 0 _ rfl;have HBK:Hid (w2.heap[wr.heap.size]?=some (.cells #[.string (K.str nm),.int .i64 lv,.int .i64 wy] 81 (0,0))):=aA hb2b;clear hb2 hb2b;go_wp2;obtain⟨wo,hwo⟩:∃x:World,x=wr:=⟨_,rfl⟩
   subst hwo;go_loopw [5] (fun vn wr=>∃(j:Nat),1<=j/\j<=25/\vn=.int .i64 j/\LvOk G.ts j/\One w #[.slice (some ⟨g,o,none⟩) G.ts.length cT,.slice AN G.ns.length cN,.slice AR G.rs.length cR,.int .i64 G.st] wr/\Hid (wr.heap[wo.heap.size]?=some (.cells #[.string (K.str nm),.int .i64 lv,.int .i64 wy] 81 (0,0)))) (fun vn _=>30-(intOf vn).toNat)
   case atStart=>exact⟨1,by omega,by omega,rfl,fun m h=>by omega,HB2.o,HBK⟩
   case round =>
    clear q0 q0' q1 q2 q3 k0 k1 k2 d0 d1 d2 z2 hz HBK HB2 HB;obtain⟨j,hj1,hj2,rfl,HL,hb,HBK⟩:=hrel;have HL:=aA HL;have HB:=aA hb;have q0:=hb.c 0 _ rfl;have q1:=hb.c 1 _ rfl;have q2:=hb.c 2 _ rfl;have q3:=hb.c 3 _ rfl;have hz:w.heap.size<wr.heap.size:=hb.size;have z2:wo.heap.size<wr.heap.size:=(Array.getElem?_eq_some_iff.1 HBK.o).1;have d1:=cell_of_row wr _ 1 _ _ _ HBK.o;clear hb;by_cases hjl:(j:Int)<=lv
    ·have HC:=aA (HLV.o (j:Int) _ HB.o);cases q:Gm.lev (j:Int) G.ts 0
     ·have HX:Hid (Gm.terms G.ts=false):=aA (zaE hlt (by
       rw[QT.o];unfold Gm.term1;rw[Bool.and_eq_false_iff];refine .inr (decide_eq_false fun hall=>?_)
       have:=hall (j-1) (by simp only;omega)
       rw[show j-1+1=j by omega,q]at this;cases this))
      rw[q]at HC;clear q;go_wp2_with fail
      refine HC.o.mono ?_;rintro _ w3 ⟨rfl,hb3⟩;have HB3:=aA (HB.o.on hb3);clear hb3;go_wp2;go_ret
      exact⟨aE HX.o.symm,HB3.o.below⟩
     ·rw[q]at HC
      have HL2:Hid (LvOk G.ts (j+1)):=aA (fun m h=>by
       rcases Nat.lt_or_ge (m+1) j with h1|h1
       ·exact HL.o m h1
       ·obtain rfl:j=m+1:=by omega
        exact q)
      clear q;go_wp2_with fail
      refine HC.o.mono ?_;rintro _ w3 ⟨rfl,hb3⟩;have HB3:=aA (HB.o.on hb3);have HK3:Hid (w3.heap[wo.heap.size]?=some (.cells #[.string (K.str nm),.int .i64 lv,.int .i64 wy] 81 (0,0))):=aA ((hb3.block wo.heap.size z2).trans HBK.o);clear hb3;go_wp2;go_roundw
      case rel=>exact⟨j+1,by omega,by omega,by go_num,HL2.o,HB3.o,HK3⟩
      case measure=>simp[intOf];omega
    ·have HX:Hid (zkD G.ts (k+1)):=aA (HE.o.next hlt (by
      rw[QT.o];unfold Gm.term1;simp only[Bool.and_eq_true,decide_eq_true_eq,beq_iff_eq];exact⟨⟨⟨⟨⟨⟨⟨C0.o,C1.o⟩,c2⟩,c3⟩,c4⟩,c5⟩,beq_iff_eq.1 C6.o⟩,fun n hn=>HL.o n (by omega)⟩))
     go_wp2;go_roundw
     case rel=>exact⟨k+1,by omega,by go_num,HX.o,HB.o⟩
     case measure=>simp[intOf];omega
  ·obtain rfl:k=G.ts.length:=by omega
   have HX:=aA (HE.o.all (by omega));clear hbw;go_wp2;go_ret
   exact⟨aE HX.o.symm,HB.o.below⟩
end Go.Proofs.YtcmhaemaophplaaGreat
namespace Go.Calm
open Go.RowKit
section
variable {P:Program} {ops:Array Oper} {Q:Exit->Act->World->Prop} {md:Region.Mode}
inductive Ph where
 | fin (last:List Nat)
 | one (p:List Nat) (k:Nat) (t:Ph)
 | two (p:List Nat) (k:Nat) (t:Ph) (k2:Nat) (t2:Ph)
def wpSt (P:Program) (ops:Array Oper) (Q:Exit->Act->World->Prop) (o:Option Oper) (S:World->Prop) (T:(World->Prop)->Act->World->Prop) (a:Act) (w:World):Prop :=
 match o with
 | none=>True
 | some o=>∀K:Act->World->Prop,(∀a2 w2,S w2->∀S':World->Prop,(∀x,S' x->S x)->S' w2->T S' a2 w2->K a2 w2) ->
   if Region.wanted o (yielded ops a.tmps)=true then Oper.wp P o a w K Q else K (a.put o.dst undef) w
def wpT (P:Program) (ops:Array Oper) (Q:Exit->Act->World->Prop):Ph->(World->Prop)->Act->World->Prop
 | .fin last,S,a,w=>wpQuiet P ops S (fun a'=>Q .normal a' w) (pickOps ops last) a
 | .one p k t,S,a,w=>wpQuiet P ops S (fun a'=>wpSt P ops Q ops[k]? S (fun S' a2 w2=>wpT P ops Q t S' a2 w2) a' w) (pickOps ops p) a
 | .two p k t k2 t2,S,a,w=>wpQuiet P ops S (fun a'=>wpSt P ops Q ops[k]? S (fun S' a2 w2=>wpT P ops Q t S' a2 w2) a' w/\wpSt P ops Q ops[k2]? S (fun S' a2 w2=>wpT P ops Q t2 S' a2 w2) a' w) (pickOps ops p) a
def tB (md:Region.Mode) (ops:Array Oper):Ph->Array Bool->Nat->Bool
 | .fin last,l,n=>stillB md ops last l&&(Region.ready md ops (marked last l)).isEmpty&&(last.length==n)
 | .one p k t,l,n=>stillB md ops p l&&(match Region.ready md ops (marked p l) with | [j]=>j==k|_=>false)&&(ops[k]?).isSome&&decide (p.length+1<=n)&&tB md ops t ((marked p l).setIfInBounds k true) (n-(p.length+1))
 | .two p k t k2 t2,l,n=>stillB md ops p l&&(match Region.ready md ops (marked p l) with | [j,j2]=>j==k&&j2==k2|_=>false)&&(ops[k]?).isSome&&(ops[k2]?).isSome&&decide (p.length+1<=n)&&tB md ops t ((marked p l).setIfInBounds k true) (n-(p.length+1))&&tB md ops t2 ((marked p l).setIfInBounds k2 true) (n-(p.length+1))
theorem quiet_mono {S:World->Prop} {Q1 Q2:Act->Prop} (h:∀a,Q1 a->Q2 a):∀ {l:List Oper} {a:Act},wpQuiet P ops S Q1 l a->wpQuiet P ops S Q2 l a
 | [],_,k=>h _ k
 | o::r,a,k=>by
  unfold wpQuiet at k ⊢;split
  ·rename_i hw;rw[if_pos hw]at k;obtain⟨v,h1,h2⟩:=k;exact⟨v,h1,quiet_mono h h2⟩
  ·rename_i hw;rw[if_neg hw]at k;exact quiet_mono h k
theorem any_of_t (hs:Region.noSelect ops=true) (hQ:∀c a d v w,Q (.panic c) (a.put d v) w->Q (.panic c) a w) :
  ∀(t:Ph) (S:World->Prop) (listed:Array Bool) (a:Act) (w:World) (n:Nat),tB md ops t listed n=true->S w->wpT P ops Q t S a w->wpAnyH P md ops Q S n listed a w
 | .fin last,S,listed,a,w,n,hb,hS,h=>by
  unfold tB at hb;simp only[Bool.and_eq_true,List.isEmpty_iff,beq_iff_eq]at hb;obtain⟨⟨h1,h2⟩,rfl⟩:=hb;have e:last.length=last.length+0:=rfl;rw[e];refine still_block hs hQ hS 0 last listed a h1 ?_;exact quiet_mono (fun a' hq=>wpAnyH_done h2 hq 0) h
 | .one p k t,S,listed,a,w,n,hb,hS,h=>by
  unfold tB at hb;simp only[Bool.and_eq_true,decide_eq_true_iff]at hb;obtain⟨⟨⟨⟨h1,h2⟩,h3⟩,h5⟩,h4⟩:=hb;obtain⟨o,ho⟩:=Option.isSome_iff_exists.1 h3
  have hrd:Region.ready md ops (marked p listed)=[k]:=by
   split at h2
   ·rename_i j hj;rw[hj];rw[beq_iff_eq]at h2;rw[h2]
   ·cases h2
  obtain⟨m,rfl⟩:∃m,n=p.length+(m+1):=⟨n-(p.length+1),by omega⟩
  rw[show p.length+(m+1)-(p.length+1)=m by omega]at h4;refine still_block hs hQ hS _ p listed a h1 ?_;unfold wpT at h;refine quiet_mono (fun a' hq=>?_) h;refine wpAnyH_all hrd (by simp) fun i hi=>?_;rw[List.mem_singleton]at hi;subst hi;refine wpOp_step ho fun K' hK=>?_;rw[ho]at hq;refine hq K' fun a2 w2 h6 S' hS' hS2 h7=>hK _ _ ⟨h6,?_⟩;exact anyH_mono hS' _ _ _ _ (any_of_t hs hQ t S' _ a2 w2 _ h4 hS2 h7)
 | .two p k t k2 t2,S,listed,a,w,n,hb,hS,h=>by
  unfold tB at hb;simp only[Bool.and_eq_true,decide_eq_true_iff]at hb;obtain⟨⟨⟨⟨⟨⟨h1,h2⟩,h3⟩,h32⟩,h5⟩,h4⟩,h42⟩:=hb;obtain⟨o,ho⟩:=Option.isSome_iff_exists.1 h3;obtain⟨o2,ho2⟩:=Option.isSome_iff_exists.1 h32
  have hrd:Region.ready md ops (marked p listed)=[k,k2]:=by
   split at h2
   ·rename_i j j2 hj;rw[hj];simp only[Bool.and_eq_true,beq_iff_eq]at h2;rw[h2.1,h2.2]
   ·cases h2
  obtain⟨m,rfl⟩:∃m,n=p.length+(m+1):=⟨n-(p.length+1),by omega⟩
  rw[show p.length+(m+1)-(p.length+1)=m by omega]at h4 h42;refine still_block hs hQ hS _ p listed a h1 ?_;unfold wpT at h;refine quiet_mono (fun a' hq=>?_) h;refine wpAnyH_all hrd (by simp) fun i hi=>?_;rw[ho,ho2]at hq;rcases List.mem_cons.1 hi with rfl|hi
  ·refine wpOp_step ho fun K' hK=>?_;refine hq.1 K' fun a2 w2 h6 S' hS' hS2 h7=>hK _ _ ⟨h6,?_⟩;exact anyH_mono hS' _ _ _ _ (any_of_t hs hQ t S' _ a2 w2 _ h4 hS2 h7)
  ·rw[List.mem_singleton]at hi;subst hi;refine wpOp_step ho2 fun K' hK=>?_;refine hq.2 K' fun a2 w2 h6 S' hS' hS2 h7=>hK _ _ ⟨h6,?_⟩;exact anyH_mono hS' _ _ _ _ (any_of_t hs hQ t2 S' _ a2 w2 _ h42 hS2 h7)
theorem region_tree {id:Nat} {a:Act} {w:World} {l:List Oper} (S:World->Prop) (t:Ph) (hm:P.follows .mixedOrders=true)
  (hB:(Region.noSelect l.toArray&&tB .any l.toArray t (Array.replicate l.toArray.size false) l.toArray.size)=true)
  (hQ:∀c a d v w,Q (.panic c) (a.put d v) w->Q (.panic c) a w) (hS:S w.drew)
  (h:wpT P l.toArray Q t S a w.drew):(Code.region id l.toArray true).wp P Q a w:=by
 simp only[Bool.and_eq_true]at hB;refine wp_region_held (S:=S) hm ?_;exact any_of_t hB.1 hQ t S _ a w.drew _ hB.2 hS h
end
def OnR (R:Nat) (w:World):Type:={x:World // w.grownBy x (some R)}
instance (R:Nat) (w:World):Nonempty (OnR R w):=⟨⟨w,World.grownBy.refl _ _⟩⟩
def OnB (g:Nat) (w:World):Type:={x:World // x.heap[g]?=w.heap[g]?}
instance (g:Nat) (w:World):Nonempty (OnB g w):=⟨⟨w,rfl⟩⟩
end Go.Calm
namespace Go.Proofs.YtcmhaemaophplaaGreat
set_option maxRecDepth 100000
set_option maxHeartbeats 40000000
open Go.RowKit
theorem zho {c:Bool} {a b:Prop} (h:c=false):(if c=true then a else b)=b:=by rw[h];rfl
theorem zen {G:Gm.Gr} {k:Nat} (h:k<G.ns.length) (hn:Gm.non1 G k G.ns[k]=false):Gm.nons G=false:=by
 unfold Gm.nons;rw[Bool.and_eq_false_iff];exact .inr (decide_eq_false fun q=>by have:=q k h;rw[hn]at this;cases this)
def zkI (G:Gm.Gr) (k:Nat):Prop:=∀i (h:i<G.ns.length),i<k->Gm.non1 G i G.ns[i]=true
theorem zkI.next {G:Gm.Gr} {k:Nat} (h:zkI G k) (hk:k<G.ns.length) (hn:Gm.non1 G k G.ns[k]=true):zkI G (k+1):=fun i hi hik=>by
 rcases Nat.lt_or_ge i k with q|q
 ·exact h i hi q
 ·obtain rfl:i=k:=by omega
  exact hn
theorem zkI.all {G:Gm.Gr} (h:zkI G G.ns.length) (h1:1<=G.ns.length) (hl:G.ns.length<=16):Gm.nons G=true:=by
 unfold Gm.nons;rw[decide_eq_true h1,decide_eq_true hl,decide_eq_true fun i hi=>h i hi hi];rfl
theorem zgI (v:Value) (G:Gm.Gr) (B:Nat) (w:World) (hg:aT w B v G) (hf:Gm.Fit G) (hB:B<=w.heap.size) :
  Calls Tryz.prog 53 #[v] w fun e w'=>e=.returned (.bool (Gm.nons G))/\Below w.heap.size w w':=by
 have HG:=aA hg;obtain⟨AT,cT,AN,cN,AR,cR,rfl,_,⟨hl,hm⟩,_,_,ht,_⟩:=hg;have HT:=aA ht;have HF:=aA hf;have HS0:=aA (One.start w #[.slice AT G.ts.length cT,.slice AN G.ns.length cN,.slice AR G.rs.length cR,.int .i64 G.st]);clear ht hf;by_cases h1:G.ns.length<1
 ·have HX:Hid (Gm.nons G=false):=aA (by unfold Gm.nons;rw[decide_eq_false (by omega)];rfl);rw[HX.o]
  go_enter Tryz.func53,Tryz.ntmps53
  go_wp2;go_ret
  exact⟨rfl,HS0.o.below⟩
 by_cases h16:16<G.ns.length
 ·have HX:Hid (Gm.nons G=false):=aA (by unfold Gm.nons;rw[decide_eq_false (show ¬G.ns.length<=16 by omega)];simp);rw[HX.o]
  go_enter Tryz.func53,Tryz.ntmps53
  go_wp2;go_ret
  exact⟨rfl,HS0.o.below⟩
 go_enter Tryz.func53,Tryz.ntmps53
 go_wp2;go_loopw [3] (fun vi wr=>∃(k:Nat),k<=G.ns.length/\vi=.int .i64 k/\zkI G k/\One w #[.slice AT G.ts.length cT,.slice AN G.ns.length cN,.slice AR G.rs.length cR,.int .i64 G.st] wr) (fun vi _=>G.ns.length-(intOf vi).toNat)
 case atStart=>exact⟨0,Nat.zero_le _,rfl,fun _ _ h=>by omega,HS0.o⟩
 case round =>
  obtain⟨k,hk,rfl,HE,hb⟩:=hrel;have HE:=aA HE;have HB:=aA hb;have q1:=hb.c 1 _ rfl;have hz:w.heap.size<wr.heap.size:=hb.size;have hbw:=hb.below;by_cases hlt:k<G.ns.length
  ·obtain⟨g,o,rfl,hgb,hc⟩:=HT.o (by omega);have k0:=(hbw.cell (p:=⟨g,o+k,none⟩) (Nat.lt_of_lt_of_le hgb hB)).trans (hc k hlt);have hgs:g<wr.heap.size:=by omega
   have hft:=HF.o.n _ (List.getElem_mem hlt);have HNM:=aA (fun x=>zb0 _ hft.1 x);have HTM:=aA (fun(x:World) (h:One w #[.slice AT G.ts.length cT,.slice (some ⟨g,o,none⟩) G.ns.length cN,.slice AR G.rs.length cR,.int .i64 G.st] x)=>zbh _ G _ B x (HG.o.below h.below hB) HF.o hft (Nat.le_trans hB h.below.size));have HNO:=aA (fun(x:World) (h:One w #[.slice AT G.ts.length cT,.slice (some ⟨g,o,none⟩) G.ns.length cN,.slice AR G.rs.length cR,.int .i64 G.st] x)=>zeP _ G _ B x (HG.o.below h.below hB) HF.o hft (Nat.le_trans hB h.below.size));obtain⟨s,qs⟩:∃t,t=G.ns[k]:=⟨_,rfl⟩
   rw[<-qs]at k0 hft HNM HTM HNO;have QS:=aA qs.symm;have kk0:(0:Int)<=(k:Int):=by omega
   have kk1:(k:Int)<(G.ns.length:Int):=by omega
   have q0:=hb.c 0 _ rfl;have q2:=hb.c 2 _ rfl;have q3:=hb.c 3 _ rfl;have HD1:=aA (aB (Below.refl wr.heap.size wr) 1);have A0:=fun y:Calm.On wr.heap.size wr=>(y.2.cell (p:=⟨g,o+k,none⟩) hgs).trans k0;have Q0:=fun y:Calm.On wr.heap.size wr=>(y.2.cell (p:=⟨w.heap.size,0,none⟩) hz).trans q0;have Q1:=fun y:Calm.On wr.heap.size wr=>(y.2.cell (p:=⟨w.heap.size,1,none⟩) hz).trans q1;have Q2:=fun y:Calm.On wr.heap.size wr=>(y.2.cell (p:=⟨w.heap.size,2,none⟩) hz).trans q2;have Q3:=fun y:Calm.On wr.heap.size wr=>(y.2.cell (p:=⟨w.heap.size,3,none⟩) hz).trans q3;clear hc hbw qs hft hb q0 q2 q3;unfold Gm.term at HTM;unfold Gm.non at HNO;by_cases c0:T.isName s=true
   case neg =>
    have HX:Hid (Gm.nons G=false):=aA (zen hlt (by rw[QS.o];unfold Gm.non1;simp[Bool.eq_false_iff.2 c0]));rw[Bool.eq_false_iff.2 c0]at HNM;clear c0 HNO HTM;go_wp2_with fail
    refine Calm.region_tree (fun x=>∃y:Calm.On wr.heap.size wr,x=y.1) (.one [0,1,2,3,4] 5 (.one [6,7,8,9,10,11,12,13,15] 14 (.one [16,17,18,19,20,21,22,23,24] 25 (.fin [26,27])))) (by kernel_rfl) (by kernel_rfl) (fun _ _ d _ _ h=>by cases d <;> exact h) ⟨⟨wr.drew,aB (Below.refl _ _) 1⟩,rfl⟩ ?_;clear q1 k0;simp only[Calm.wpT,Calm.wpSt,Calm.pickOps,List.getElem?_toArray,List.getElem?_cons_zero,List.getElem?_cons_succ];repeat (go_big_quiet_step (fail))
    refine wpQuiet_nil ?_;intro KK hKK;rw[if_pos (by rfl)];go_wp2_with fail
    refine(HNM.o _).mono ?_;rintro _ _ ⟨rfl,rfl⟩;go_wp2_with fail
    refine hKK _ _ ⟨⟨_,HD1.o⟩,rfl⟩ (fun x=>∃y:Calm.On wr.heap.size wr,x=y.1) (fun _ h=>h) ⟨⟨_,HD1.o⟩,rfl⟩ ?_;repeat (go_big_quiet_step (fail))
    refine wpQuiet_nil ?_;intro KK hKK;rw[zho (by rfl)];refine hKK _ _ ⟨⟨_,HD1.o⟩,rfl⟩ (fun x=>∃y:Calm.On wr.heap.size wr,x=y.1) (fun _ h=>h) ⟨⟨_,HD1.o⟩,rfl⟩ ?_
    go_frame
    repeat (go_big_quiet_step (fail))
    refine wpQuiet_nil ?_;intro KK hKK;rw[zho (by rfl)];refine hKK _ _ ⟨⟨_,HD1.o⟩,rfl⟩ (fun x=>∃y:Calm.On wr.heap.size wr,x=y.1) (fun _ h=>h) ⟨⟨_,HD1.o⟩,rfl⟩ ?_
    go_frame
    repeat (go_big_quiet_step (fail))
    refine wpQuiet_nil ?_;clear hKK A0 Q0;have HE2:=aA (HB.o.on HD1.o);go_wp2;go_ret
    exact⟨aE HX.o.symm,HE2.o.below⟩
   rw[c0]at HNM;by_cases c1:Gm.find G.ns s=(k:Int)
   case neg =>
    have HX:Hid (Gm.nons G=false):=aA (zen hlt (by rw[QS.o];unfold Gm.non1 Gm.non;simp[c1]));have f1:(Gm.find G.ns s != (k:Int))=true:=by simpa using c1
    clear c0 c1 HTM;go_wp2_with fail
    refine Calm.region_tree (fun x=>∃y:Calm.On wr.heap.size wr,x=y.1) (.one [0,1,2,3,4] 5 (.one [6,7,8,9,10,11,12,13,15] 14 (.one [16,17,18,19,20,21,22,23,24] 25 (.fin [26,27])))) (by kernel_rfl) (by kernel_rfl) (fun _ _ d _ _ h=>by cases d <;> exact h) ⟨⟨wr.drew,aB (Below.refl _ _) 1⟩,rfl⟩ ?_;clear q1 k0;simp only[Calm.wpT,Calm.wpSt,Calm.pickOps,List.getElem?_toArray,List.getElem?_cons_zero,List.getElem?_cons_succ];repeat (go_big_quiet_step (fail))
    refine wpQuiet_nil ?_;intro KK hKK;rw[if_pos (by rfl)];go_wp2_with fail
    refine(HNM.o _).mono ?_;rintro _ _ ⟨rfl,rfl⟩;go_wp2_with fail
    refine hKK _ _ ⟨⟨_,HD1.o⟩,rfl⟩ (fun x=>∃y:Calm.On wr.heap.size wr,x=y.1) (fun _ h=>h) ⟨⟨_,HD1.o⟩,rfl⟩ ?_;repeat (go_big_quiet_step (fail))
    refine wpQuiet_nil ?_;intro KK hKK;rw[if_pos (by rfl)];go_wp2_with fail
    refine(HNO.o _ (HB.o.on HD1.o)).mono ?_;rintro _ w2 ⟨rfl,hb2⟩;have HD2:=aA (HD1.o.trans (hb2.mono HD1.o.size));clear hb2;go_wp2_with fail
    refine hKK _ _ ⟨⟨_,HD2.o⟩,rfl⟩ (fun x=>∃y:Calm.On wr.heap.size wr,x=y.1) (fun _ h=>h) ⟨⟨_,HD2.o⟩,rfl⟩ ?_;repeat (go_big_quiet_step (fail))
    refine wpQuiet_nil ?_;intro KK hKK;rw[zho (by rfl)];refine hKK _ _ ⟨⟨_,HD2.o⟩,rfl⟩ (fun x=>∃y:Calm.On wr.heap.size wr,x=y.1) (fun _ h=>h) ⟨⟨_,HD2.o⟩,rfl⟩ ?_
    go_frame
    repeat (go_big_quiet_step (fail))
    refine wpQuiet_nil ?_;clear hKK A0 Q0;have HE2:=aA (HB.o.on HD2.o);go_wp2;go_ret
    exact⟨aE HX.o.symm,HE2.o.below⟩
   have f1:(Gm.find G.ns s != (k:Int))=false:=by simpa using c1
   by_cases c2:Gm.find (Gm.names G.ts) s<0
   case neg =>
    have HX:Hid (Gm.nons G=false):=aA (zen hlt (by rw[QS.o];unfold Gm.non1 Gm.term;rw[decide_eq_false c2];simp));have f2:decide (0<=Gm.find (Gm.names G.ts) s)=true:=by simp;omega
    clear c0 c1 c2;go_wp2_with fail
    refine Calm.region_tree (fun x=>∃y:Calm.On wr.heap.size wr,x=y.1) (.one [0,1,2,3,4] 5 (.one [6,7,8,9,10,11,12,13,15] 14 (.one [16,17,18,19,20,21,22,23,24] 25 (.fin [26,27])))) (by kernel_rfl) (by kernel_rfl) (fun _ _ d _ _ h=>by cases d <;> exact h) ⟨⟨wr.drew,aB (Below.refl _ _) 1⟩,rfl⟩ ?_;clear q1 k0;simp only[Calm.wpT,Calm.wpSt,Calm.pickOps,List.getElem?_toArray,List.getElem?_cons_zero,List.getElem?_cons_succ];repeat (go_big_quiet_step (fail))
    refine wpQuiet_nil ?_;intro KK hKK;rw[if_pos (by rfl)];go_wp2_with fail
    refine(HNM.o _).mono ?_;rintro _ _ ⟨rfl,rfl⟩;go_wp2_with fail
    refine hKK _ _ ⟨⟨_,HD1.o⟩,rfl⟩ (fun x=>∃y:Calm.On wr.heap.size wr,x=y.1) (fun _ h=>h) ⟨⟨_,HD1.o⟩,rfl⟩ ?_;repeat (go_big_quiet_step (fail))
    refine wpQuiet_nil ?_;intro KK hKK;rw[if_pos (by rfl)];go_wp2_with fail
    refine(HNO.o _ (HB.o.on HD1.o)).mono ?_;rintro _ w2 ⟨rfl,hb2⟩;have HD2:=aA (HD1.o.trans (hb2.mono HD1.o.size));clear hb2;go_wp2_with fail
    refine hKK _ _ ⟨⟨_,HD2.o⟩,rfl⟩ (fun x=>∃y:Calm.On wr.heap.size wr,x=y.1) (fun _ h=>h) ⟨⟨_,HD2.o⟩,rfl⟩ ?_;repeat (go_big_quiet_step (fail))
    refine wpQuiet_nil ?_;intro KK hKK;rw[if_pos (by rfl)];go_wp2_with fail
    refine(HTM.o _ (HB.o.on HD2.o)).mono ?_;rintro _ w3 ⟨rfl,hb3⟩;have HD3:=aA (HD2.o.trans (hb3.mono HD2.o.size));clear hb3;go_wp2_with fail
    refine hKK _ _ ⟨⟨_,HD3.o⟩,rfl⟩ (fun x=>∃y:Calm.On wr.heap.size wr,x=y.1) (fun _ h=>h) ⟨⟨_,HD3.o⟩,rfl⟩ ?_;repeat (go_big_quiet_step (fail))
    refine wpQuiet_nil ?_;clear hKK A0 Q0;have HE2:=aA (HB.o.on HD3.o);go_wp2;go_ret
    exact⟨aE HX.o.symm,HE2.o.below⟩
   have HX:Hid (zkI G (k+1)):=aA (HE.o.next hlt (by rw[QS.o];unfold Gm.non1 Gm.non Gm.term;rw[c0,decide_eq_true c2,c1];simp));have f2:decide (0<=Gm.find (Gm.names G.ts) s)=false:=by simp;omega
   clear c0 c1 c2;go_wp2_with fail
   refine Calm.region_tree (fun x=>∃y:Calm.On wr.heap.size wr,x=y.1) (.one [0,1,2,3,4] 5 (.one [6,7,8,9,10,11,12,13,15] 14 (.one [16,17,18,19,20,21,22,23,24] 25 (.fin [26,27])))) (by kernel_rfl) (by kernel_rfl) (fun _ _ d _ _ h=>by cases d <;> exact h) ⟨⟨wr.drew,aB (Below.refl _ _) 1⟩,rfl⟩ ?_;clear q1 k0;simp only[Calm.wpT,Calm.wpSt,Calm.pickOps,List.getElem?_toArray,List.getElem?_cons_zero,List.getElem?_cons_succ];repeat (go_big_quiet_step (fail))
   refine wpQuiet_nil ?_;intro KK hKK;rw[if_pos (by rfl)];go_wp2_with fail
   refine(HNM.o _).mono ?_;rintro _ _ ⟨rfl,rfl⟩;go_wp2_with fail
   refine hKK _ _ ⟨⟨_,HD1.o⟩,rfl⟩ (fun x=>∃y:Calm.On wr.heap.size wr,x=y.1) (fun _ h=>h) ⟨⟨_,HD1.o⟩,rfl⟩ ?_;repeat (go_big_quiet_step (fail))
   refine wpQuiet_nil ?_;intro KK hKK;rw[if_pos (by rfl)];go_wp2_with fail
   refine(HNO.o _ (HB.o.on HD1.o)).mono ?_;rintro _ w2 ⟨rfl,hb2⟩;have HD2:=aA (HD1.o.trans (hb2.mono HD1.o.size));clear hb2;go_wp2_with fail
   refine hKK _ _ ⟨⟨_,HD2.o⟩,rfl⟩ (fun x=>∃y:Calm.On wr.heap.size wr,x=y.1) (fun _ h=>h) ⟨⟨_,HD2.o⟩,rfl⟩ ?_;repeat (go_big_quiet_step (fail))
   refine wpQuiet_nil ?_;intro KK hKK;rw[if_pos (by rfl)];go_wp2_with fail
   refine(HTM.o _ (HB.o.on HD2.o)).mono ?_;rintro _ w3 ⟨rfl,hb3⟩;have HD3:=aA (HD2.o.trans (hb3.mono HD2.o.size));clear hb3;go_wp2_with fail
   refine hKK _ _ ⟨⟨_,HD3.o⟩,rfl⟩ (fun x=>∃y:Calm.On wr.heap.size wr,x=y.1) (fun _ h=>h) ⟨⟨_,HD3.o⟩,rfl⟩ ?_;repeat (go_big_quiet_step (fail))
   refine wpQuiet_nil ?_;clear hKK A0 Q0;have HE2:=aA (HB.o.on HD3.o);go_wp2;go_roundw
   case rel=>exact⟨k+1,by omega,by go_num,HX.o,HE2.o⟩
   case measure=>simp[intOf];omega
  ·obtain rfl:k=G.ns.length:=by omega
   have HX:=aA (HE.o.all (by omega) (by omega));clear hbw hb;go_wp2;go_ret
   exact⟨aE HX.o.symm,HB.o.below⟩
theorem zgD {G:Gm.Gr} {x:Gm.Rl} {k:Nat} (h:k<x.r.length) (hn:(Gm.has G x.r[k] && !(decide (0<=x.r[k])&&x.p == -1))=false):Gm.rule G x=false:=by
 unfold Gm.rule;rw[Bool.and_eq_false_iff];refine .inr ?_;rw[List.all_eq_false];exact⟨_,List.getElem_mem h,by rw[hn];simp⟩
def zjF (G:Gm.Gr) (x:Gm.Rl) (k:Nat):Prop:=∀i (h:i<x.r.length),i<k->(Gm.has G x.r[i] && !(decide (0<=x.r[i])&&x.p == -1))=true
theorem zjF.next {G:Gm.Gr} {x:Gm.Rl} {k:Nat} (h:zjF G x k) (hk:k<x.r.length) (hn:(Gm.has G x.r[k] && !(decide (0<=x.r[k])&&x.p == -1))=true):zjF G x (k+1):=fun i hi hik=>by
 rcases Nat.lt_or_ge i k with q|q
 ·exact h i hi q
 ·obtain rfl:i=k:=by omega
  exact hn
theorem zjF.all {G:Gm.Gr} {x:Gm.Rl} (h:zjF G x x.r.length) (h1:x.r.length<=6) (h2:-1<=x.p) (h3:x.p<G.ts.length):Gm.rule G x=true:=by
 unfold Gm.rule;rw[decide_eq_true h1,decide_eq_true h2,decide_eq_true h3];simp only[Bool.true_and];rw[List.all_eq_true];intro z hz;obtain⟨i,hi,rfl⟩:=List.getElem_of_mem hz;exact h i hi hi
theorem zgG (v:Value) (G:Gm.Gr) (B:Nat) (x:Gm.Rl) (A:Option Addr) (c:Nat) (w:World) (hg:aT w B v G) (hr:RdI w B A x.r) (hx:∀z∈x.r,Gm.In z) (hB:B<=w.heap.size) :
  Calls Tryz.prog 54 #[v,.agg #[.int .i64 x.l,.slice A x.r.length c,.int .i64 x.p]] w fun e w'=>e=.returned (.bool (Gm.rule G x))/\Below w.heap.size w w':=by
 have HG:=aA hg;obtain⟨AT,cT,AN,cN,AR,cR,rfl,_,_,_,_,_,_⟩:=hg;have HT:=aA hr;have HF:=aA hx;have HB0:=aA ((One.start w #[.slice AT G.ts.length cT,.slice AN G.ns.length cN,.slice AR G.rs.length cR,.int .i64 G.st]).alloc (.cells #[.int .i64 x.l,.slice A x.r.length c,.int .i64 x.p] 48))
 have HK0:Hid (((w.alloc (.cells #[.slice AT G.ts.length cT,.slice AN G.ns.length cN,.slice AR G.rs.length cR,.int .i64 G.st] 26)).alloc (.cells #[.int .i64 x.l,.slice A x.r.length c,.int .i64 x.p] 48)).heap[w.heap.size+1]?=some (.cells #[.int .i64 x.l,.slice A x.r.length c,.int .i64 x.p] 48 (0,0))):=aA (by
  have:=heap_alloc_new (w.alloc (.cells #[.slice AT G.ts.length cT,.slice AN G.ns.length cN,.slice AR G.rs.length cR,.int .i64 G.st] 26)) (.cells #[.int .i64 x.l,.slice A x.r.length c,.int .i64 x.p] 48)
  simpa using this)
 clear hr hx;by_cases h1:6<x.r.length
 ·have HX:Hid (Gm.rule G x=false):=aA (by unfold Gm.rule;rw[decide_eq_false (show ¬x.r.length<=6 by omega)];rfl);rw[HX.o]
  go_enter Tryz.func54,Tryz.ntmps54
  go_wp2;go_ret
  exact⟨rfl,HB0.o.below⟩
 by_cases h2:x.p < -1
 ·have HX:Hid (Gm.rule G x=false):=aA (by unfold Gm.rule;rw[decide_eq_false (show ¬ -1<=x.p by omega)];simp);rw[HX.o]
  go_enter Tryz.func54,Tryz.ntmps54
  go_wp2;go_ret
  exact⟨rfl,HB0.o.below⟩
 by_cases h3:(G.ts.length:Int)<=x.p
 ·have HX:Hid (Gm.rule G x=false):=aA (by unfold Gm.rule;rw[decide_eq_false (show ¬x.p<(G.ts.length:Int) by omega)];simp);rw[HX.o]
  go_enter Tryz.func54,Tryz.ntmps54
  go_wp2;go_ret
  exact⟨rfl,HB0.o.below⟩
 go_enter Tryz.func54,Tryz.ntmps54
 go_wp2;go_loopw [5] (fun vi wr=>∃(k:Nat),k<=x.r.length/\vi=.int .i64 k/\zjF G x k/\One w #[.slice AT G.ts.length cT,.slice AN G.ns.length cN,.slice AR G.rs.length cR,.int .i64 G.st] wr/\Hid (wr.heap[w.heap.size+1]?=some (.cells #[.int .i64 x.l,.slice A x.r.length c,.int .i64 x.p] 48 (0,0)))) (fun vi _=>x.r.length-(intOf vi).toNat)
 case atStart=>exact⟨0,Nat.zero_le _,rfl,fun _ _ h=>by omega,HB0.o,HK0⟩
 case round =>
  obtain⟨k,hk,rfl,HE,hb,HBK⟩:=hrel;have HE:=aA HE;have HB:=aA hb;have hz:w.heap.size<wr.heap.size:=hb.size;have hz1:w.heap.size+1<wr.heap.size:=(Array.getElem?_eq_some_iff.1 HBK.o).1;have hbw:=hb.below;have q0:=hb.c 0 _ rfl;have q1:=hb.c 1 _ rfl;have q2:=hb.c 2 _ rfl;have q3:=hb.c 3 _ rfl;have d0:=cell_of_row wr _ 0 _ _ _ HBK.o;have d1:=cell_of_row wr _ 1 _ _ _ HBK.o;have d2:=cell_of_row wr _ 2 _ _ _ HBK.o;clear hb;by_cases hlt:k<x.r.length
  ·obtain⟨g,o,rfl,hgb,hc⟩:=HT.o (by omega);have k0:=(hbw.cell (p:=⟨g,o+k,none⟩) (Nat.lt_of_lt_of_le hgb hB)).trans (hc k hlt);rw[L.gd_lt hlt]at k0;have hgs:g<wr.heap.size:=by omega
   have hft:=HF.o _ (List.getElem_mem hlt);have HH:=aA (fun(y:World) (h:One w #[.slice AT G.ts.length cT,.slice AN G.ns.length cN,.slice AR G.rs.length cR,.int .i64 G.st] y)=>zgL _ G B x.r[k] hft y (HG.o.below h.below hB));obtain⟨z,qz⟩:∃t,t=x.r[k]:=⟨_,rfl⟩
   rw[<-qz]at k0 HH;have QZ:=aA qz.symm;have kk0:(0:Int)<=(k:Int):=by omega
   have kk1:(k:Int)<(x.r.length:Int):=by omega
   have HD1:=aA (aB (Below.refl wr.heap.size wr) 1);have A0:=fun y:Calm.On wr.heap.size wr=>(y.2.cell (p:=⟨g,o+k,none⟩) hgs).trans k0;have Q0:=fun y:Calm.On wr.heap.size wr=>(y.2.cell (p:=⟨w.heap.size,0,none⟩) hz).trans q0;have Q1:=fun y:Calm.On wr.heap.size wr=>(y.2.cell (p:=⟨w.heap.size,1,none⟩) hz).trans q1;have Q2:=fun y:Calm.On wr.heap.size wr=>(y.2.cell (p:=⟨w.heap.size,2,none⟩) hz).trans q2;have Q3:=fun y:Calm.On wr.heap.size wr=>(y.2.cell (p:=⟨w.heap.size,3,none⟩) hz).trans q3;have D0:=fun y:Calm.On wr.heap.size wr=>(y.2.cell (p:=⟨w.heap.size+1,0,none⟩) hz1).trans d0;have D1:=fun y:Calm.On wr.heap.size wr=>(y.2.cell (p:=⟨w.heap.size+1,1,none⟩) hz1).trans d1;have D2:=fun y:Calm.On wr.heap.size wr=>(y.2.cell (p:=⟨w.heap.size+1,2,none⟩) hz1).trans d2;clear hc hbw qz hft;cases c0:Gm.has G z
   ·have HX:Hid (Gm.rule G x=false):=aA (zgD hlt (by rw[QZ.o];simp[c0]));rw[c0]at HH;clear c0;go_wp2_with fail
    refine Calm.region_tree (fun x=>∃y:Calm.On wr.heap.size wr,x=y.1) (.one [0,1,2,3,4,5] 6 (.fin [7,8,9,10,11,12,13,14,15,16,17,18,19,20])) (by kernel_rfl) (by kernel_rfl) (fun _ _ d _ _ h=>by cases d <;> exact h) ⟨⟨wr.drew,aB (Below.refl _ _) 1⟩,rfl⟩ ?_;clear q0 q1 q2 q3 d0 d1 d2 k0;simp only[Calm.wpT,Calm.wpSt,Calm.pickOps,List.getElem?_toArray,List.getElem?_cons_zero,List.getElem?_cons_succ];repeat (go_big_quiet_step (fail))
    refine wpQuiet_nil ?_;intro KK hKK;rw[if_pos (by rfl)];go_wp2_with fail
    refine(HH.o _ (HB.o.on HD1.o)).mono ?_;rintro _ w2 ⟨rfl,hb2⟩;have HD2:=aA (HD1.o.trans (hb2.mono HD1.o.size));clear hb2;go_wp2_with fail
    refine hKK _ _ ⟨⟨_,HD2.o⟩,rfl⟩ (fun x=>∃y:Calm.On wr.heap.size wr,x=y.1) (fun _ h=>h) ⟨⟨_,HD2.o⟩,rfl⟩ ?_;repeat (go_big_quiet_step (fail))
    refine wpQuiet_nil ?_;clear hKK A0 Q0 Q1 Q2 Q3 D0 D1 D2;have HE2:=aA (HB.o.on HD2.o);have HK2:=aA ((HD2.o.block (w.heap.size+1) (Nat.lt_of_succ_le hz1)).trans HBK.o);go_wp2;go_ret
    exact⟨aE HX.o.symm,HE2.o.below⟩
   ·rw[c0]at HH;have C0:=aA c0;clear c0;by_cases c1:0<=z
    ·by_cases c2:x.p = -1
     ·have HX:Hid (Gm.rule G x=false):=aA (zgD hlt (by rw[QZ.o];simp[c1,c2]));have f2:(x.p == -1)=true:=by simpa using c2
      have f1:decide (0<=z)=true:=decide_eq_true c1;clear c2;go_wp2_with fail
      refine Calm.region_tree (fun x=>∃y:Calm.On wr.heap.size wr,x=y.1) (.one [0,1,2,3,4,5] 6 (.fin [7,8,9,10,11,12,13,14,15,16,17,18,19,20])) (by kernel_rfl) (by kernel_rfl) (fun _ _ d _ _ h=>by cases d <;> exact h) ⟨⟨wr.drew,aB (Below.refl _ _) 1⟩,rfl⟩ ?_;clear q0 q1 q2 q3 d0 d1 d2 k0;simp only[Calm.wpT,Calm.wpSt,Calm.pickOps,List.getElem?_toArray,List.getElem?_cons_zero,List.getElem?_cons_succ];repeat (go_big_quiet_step (fail))
      refine wpQuiet_nil ?_;intro KK hKK;rw[if_pos (by rfl)];go_wp2_with fail
      refine(HH.o _ (HB.o.on HD1.o)).mono ?_;rintro _ w2 ⟨rfl,hb2⟩;have HD2:=aA (HD1.o.trans (hb2.mono HD1.o.size));clear hb2;go_wp2_with fail
      refine hKK _ _ ⟨⟨_,HD2.o⟩,rfl⟩ (fun x=>∃y:Calm.On wr.heap.size wr,x=y.1) (fun _ h=>h) ⟨⟨_,HD2.o⟩,rfl⟩ ?_;repeat (go_big_quiet_step (fail))
      refine wpQuiet_nil ?_;clear hKK A0 Q0 Q1 Q2 Q3 D0 D1 D2;have HE2:=aA (HB.o.on HD2.o);have HK2:=aA ((HD2.o.block (w.heap.size+1) (Nat.lt_of_succ_le hz1)).trans HBK.o);go_wp2;go_ret
      exact⟨aE HX.o.symm,HE2.o.below⟩
     ·have HX:Hid (zjF G x (k+1)):=aA (HE.o.next hlt (by rw[QZ.o,C0.o];simp[c2]));have f2:(x.p == -1)=false:=by simpa using c2
      have f1:decide (0<=z)=true:=decide_eq_true c1;clear c2;go_wp2_with fail
      refine Calm.region_tree (fun x=>∃y:Calm.On wr.heap.size wr,x=y.1) (.one [0,1,2,3,4,5] 6 (.fin [7,8,9,10,11,12,13,14,15,16,17,18,19,20])) (by kernel_rfl) (by kernel_rfl) (fun _ _ d _ _ h=>by cases d <;> exact h) ⟨⟨wr.drew,aB (Below.refl _ _) 1⟩,rfl⟩ ?_;clear q0 q1 q2 q3 d0 d1 d2 k0;simp only[Calm.wpT,Calm.wpSt,Calm.pickOps,List.getElem?_toArray,List.getElem?_cons_zero,List.getElem?_cons_succ];repeat (go_big_quiet_step (fail))
      refine wpQuiet_nil ?_;intro KK hKK;rw[if_pos (by rfl)];go_wp2_with fail
      refine(HH.o _ (HB.o.on HD1.o)).mono ?_;rintro _ w2 ⟨rfl,hb2⟩;have HD2:=aA (HD1.o.trans (hb2.mono HD1.o.size));clear hb2;go_wp2_with fail
      refine hKK _ _ ⟨⟨_,HD2.o⟩,rfl⟩ (fun x=>∃y:Calm.On wr.heap.size wr,x=y.1) (fun _ h=>h) ⟨⟨_,HD2.o⟩,rfl⟩ ?_;repeat (go_big_quiet_step (fail))
      refine wpQuiet_nil ?_;clear hKK A0 Q0 Q1 Q2 Q3 D0 D1 D2;have HE2:=aA (HB.o.on HD2.o);have HK2:=aA ((HD2.o.block (w.heap.size+1) (Nat.lt_of_succ_le hz1)).trans HBK.o);go_wp2;go_roundw
      case rel=>exact⟨k+1,by omega,by go_num,HX.o,HE2.o,HK2⟩
      case measure=>simp[intOf];omega
    ·have HX:Hid (zjF G x (k+1)):=aA (HE.o.next hlt (by rw[QZ.o,C0.o];simp[c1]));have f1:decide (0<=z)=false:=decide_eq_false c1;go_wp2_with fail
     refine Calm.region_tree (fun x=>∃y:Calm.On wr.heap.size wr,x=y.1) (.one [0,1,2,3,4,5] 6 (.fin [7,8,9,10,11,12,13,14,15,16,17,18,19,20])) (by kernel_rfl) (by kernel_rfl) (fun _ _ d _ _ h=>by cases d <;> exact h) ⟨⟨wr.drew,aB (Below.refl _ _) 1⟩,rfl⟩ ?_;clear q0 q1 q2 q3 d0 d1 d2 k0;simp only[Calm.wpT,Calm.wpSt,Calm.pickOps,List.getElem?_toArray,List.getElem?_cons_zero,List.getElem?_cons_succ];repeat (go_big_quiet_step (fail))
     refine wpQuiet_nil ?_;intro KK hKK;rw[if_pos (by rfl)];go_wp2_with fail
     refine(HH.o _ (HB.o.on HD1.o)).mono ?_;rintro _ w2 ⟨rfl,hb2⟩;have HD2:=aA (HD1.o.trans (hb2.mono HD1.o.size));clear hb2;go_wp2_with fail
     refine hKK _ _ ⟨⟨_,HD2.o⟩,rfl⟩ (fun x=>∃y:Calm.On wr.heap.size wr,x=y.1) (fun _ h=>h) ⟨⟨_,HD2.o⟩,rfl⟩ ?_;repeat (go_big_quiet_step (fail))
     refine wpQuiet_nil ?_;clear hKK A0 Q0 Q1 Q2 Q3 D0 D1 D2;have HE2:=aA (HB.o.on HD2.o);have HK2:=aA ((HD2.o.block (w.heap.size+1) (Nat.lt_of_succ_le hz1)).trans HBK.o);go_wp2;go_roundw
     case rel=>exact⟨k+1,by omega,by go_num,HX.o,HE2.o,HK2⟩
     case measure=>simp[intOf];omega
  ·obtain rfl:k=x.r.length:=by omega
   have HX:=aA (HE.o.all (by omega) (by omega) (by omega));clear hbw;go_wp2;go_ret
   exact⟨aE HX.o.symm,HB.o.below⟩
theorem zfE {G:Gm.Gr} {rs:List Gm.Rl} {k:Nat} (h:k<rs.length) (z:Int):Gm.rules G (rs.drop k) z=if rs[k].l<0\/z+1<rs[k].l\/Gm.rule G rs[k]=false then false else Gm.rules G (rs.drop (k+1)) (if z<rs[k].l then rs[k].l else z):=by
 rw[List.drop_eq_getElem_cons h,Gm.rules]
theorem zgC {G:Gm.Gr} {rs:List Gm.Rl} {k:Nat} (h:rs.length<=k) (z:Int):Gm.rules G (rs.drop k) z=(z==(G.ns.length:Int)-1):=by
 rw[List.drop_eq_nil_of_le h,Gm.rules]
theorem zbr (v:Value) (G:Gm.Gr) (B:Nat) (w:World) (hg:aT w B v G) (hf:Gm.Fit G) (hB:B<=w.heap.size) :
  Calls Tryz.prog 32 #[v] w fun e w'=>e=.returned (.bool (Gm.right G))/\Below w.heap.size w w':=by
 have HG:=aA hg;obtain⟨AT,cT,AN,cN,AR,cR,rfl,⟨hlT,hmT⟩,⟨hlN,hmN⟩,⟨hlR,hmR⟩,_,_,ht⟩:=hg;have HT:=aA ht;have HF:=aA hf;have HS0:=aA (One.start w #[.slice AT G.ts.length cT,.slice AN G.ns.length cN,.slice AR G.rs.length cR,.int .i64 G.st]);have HTS:=aA (fun(x:World) (h:One w #[.slice AT G.ts.length cT,.slice AN G.ns.length cN,.slice AR G.rs.length cR,.int .i64 G.st] x)=>zfF _ G B x (HG.o.below h.below hB) HF.o (Nat.le_trans hB h.below.size));have HNS:=aA (fun(x:World) (h:One w #[.slice AT G.ts.length cT,.slice AN G.ns.length cN,.slice AR G.rs.length cR,.int .i64 G.st] x)=>zgI _ G B x (HG.o.below h.below hB) HF.o (Nat.le_trans hB h.below.size));clear ht hf;cases q1:Gm.terms G.ts
 ·have HX:Hid (Gm.right G=false):=aA (by unfold Gm.right;rw[q1];rfl);rw[HX.o];rw[q1]at HTS;clear q1
  go_enter Tryz.func32,Tryz.ntmps32
  go_wp2_with fail
  refine(HTS.o _ HS0.o).mono ?_;rintro _ w2 ⟨rfl,hb⟩;have HB2:=aA (HS0.o.on hb);clear hb;go_wp2;go_ret
  exact⟨rfl,HB2.o.below⟩
 rw[q1]at HTS;cases q2:Gm.nons G
 ·have HX:Hid (Gm.right G=false):=aA (by unfold Gm.right;rw[q2];simp);rw[HX.o];rw[q2]at HNS;clear q1 q2
  go_enter Tryz.func32,Tryz.ntmps32
  go_wp2_with fail
  refine(HTS.o _ HS0.o).mono ?_;rintro _ w2 ⟨rfl,hb⟩;have HB2:=aA (HS0.o.on hb);have hz:w.heap.size<w2.heap.size:=HB2.o.size;have d0:=HB2.o.c 0 _ rfl;have d1:=HB2.o.c 1 _ rfl;have d2:=HB2.o.c 2 _ rfl;have d3:=HB2.o.c 3 _ rfl;clear hb;go_wp2_with fail
  refine(HNS.o _ HB2.o).mono ?_;rintro _ w3 ⟨rfl,hb⟩;have HB3:=aA (HB2.o.on hb);clear hb;go_wp2;go_ret
  exact⟨rfl,HB3.o.below⟩
 rw[q2]at HNS;have hlen:(G.rs.length:Int)<=9223372036854775807:=by omega
 by_cases h1:1<=G.rs.length/\G.rs.length<=40/\0<=G.st/\G.st<G.ns.length
 case neg =>
  have HX:Hid (Gm.right G=false):=aA (by
   unfold Gm.right;by_cases a1:1<=G.rs.length
   ·by_cases a2:G.rs.length<=40
    ·by_cases a3:0<=G.st
     ·have a4:¬G.st<G.ns.length:=fun a4=>h1 ⟨a1,a2,a3,a4⟩;rw[decide_eq_false a4];simp
     ·rw[decide_eq_false a3];simp
    ·rw[decide_eq_false a2];simp
   ·rw[decide_eq_false a1];simp)
  rw[HX.o];clear q1 q2;by_cases a1:1<=G.rs.length
  ·by_cases a2:G.rs.length<=40
   ·by_cases a3:0<=G.st
    ·have a4:¬G.st<G.ns.length:=fun a4=>h1 ⟨a1,a2,a3,a4⟩;have a4:=Int.not_lt.1 a4;clear h1
     go_enter Tryz.func32,Tryz.ntmps32
     go_wp2_with fail
     refine(HTS.o _ HS0.o).mono ?_;rintro _ w2 ⟨rfl,hb⟩;have HB2:=aA (HS0.o.on hb);have hz:w.heap.size<w2.heap.size:=HB2.o.size;have d0:=HB2.o.c 0 _ rfl;have d1:=HB2.o.c 1 _ rfl;have d2:=HB2.o.c 2 _ rfl;have d3:=HB2.o.c 3 _ rfl;clear hb;go_wp2_with fail
     refine(HNS.o _ HB2.o).mono ?_;rintro _ w3 ⟨rfl,hb⟩;have HB3:=aA (HB2.o.on hb);have hz3:w.heap.size<w3.heap.size:=HB3.o.size;have e1:=HB3.o.c 1 _ rfl;have e2:=HB3.o.c 2 _ rfl;have e3:=HB3.o.c 3 _ rfl;clear hb;go_wp2;go_ret
     exact⟨rfl,HB3.o.below⟩
    ·have a3:=Int.not_le.1 a3;clear h1
     go_enter Tryz.func32,Tryz.ntmps32
     go_wp2_with fail
     refine(HTS.o _ HS0.o).mono ?_;rintro _ w2 ⟨rfl,hb⟩;have HB2:=aA (HS0.o.on hb);have hz:w.heap.size<w2.heap.size:=HB2.o.size;have d0:=HB2.o.c 0 _ rfl;have d1:=HB2.o.c 1 _ rfl;have d2:=HB2.o.c 2 _ rfl;have d3:=HB2.o.c 3 _ rfl;clear hb;go_wp2_with fail
     refine(HNS.o _ HB2.o).mono ?_;rintro _ w3 ⟨rfl,hb⟩;have HB3:=aA (HB2.o.on hb);have hz3:w.heap.size<w3.heap.size:=HB3.o.size;have e1:=HB3.o.c 1 _ rfl;have e2:=HB3.o.c 2 _ rfl;have e3:=HB3.o.c 3 _ rfl;clear hb;go_wp2;go_ret
     exact⟨rfl,HB3.o.below⟩
   ·have a2:=Nat.not_le.1 a2;clear h1
    go_enter Tryz.func32,Tryz.ntmps32
    go_wp2_with fail
    refine(HTS.o _ HS0.o).mono ?_;rintro _ w2 ⟨rfl,hb⟩;have HB2:=aA (HS0.o.on hb);have hz:w.heap.size<w2.heap.size:=HB2.o.size;have d0:=HB2.o.c 0 _ rfl;have d1:=HB2.o.c 1 _ rfl;have d2:=HB2.o.c 2 _ rfl;have d3:=HB2.o.c 3 _ rfl;clear hb;go_wp2_with fail
    refine(HNS.o _ HB2.o).mono ?_;rintro _ w3 ⟨rfl,hb⟩;have HB3:=aA (HB2.o.on hb);have hz3:w.heap.size<w3.heap.size:=HB3.o.size;have e2:=HB3.o.c 2 _ rfl;clear hb;go_wp2;go_ret
    exact⟨rfl,HB3.o.below⟩
  ·have a1:G.rs.length<1:=by omega
   clear h1
   go_enter Tryz.func32,Tryz.ntmps32
   go_wp2_with fail
   refine(HTS.o _ HS0.o).mono ?_;rintro _ w2 ⟨rfl,hb⟩;have HB2:=aA (HS0.o.on hb);have hz:w.heap.size<w2.heap.size:=HB2.o.size;have d0:=HB2.o.c 0 _ rfl;have d1:=HB2.o.c 1 _ rfl;have d2:=HB2.o.c 2 _ rfl;have d3:=HB2.o.c 3 _ rfl;clear hb;go_wp2_with fail
   refine(HNS.o _ HB2.o).mono ?_;rintro _ w3 ⟨rfl,hb⟩;have HB3:=aA (HB2.o.on hb);have hz3:w.heap.size<w3.heap.size:=HB3.o.size;have e2:=HB3.o.c 2 _ rfl;clear hb;go_wp2;go_ret
   exact⟨rfl,HB3.o.below⟩
 have HRR:Hid (Gm.right G=Gm.rules G (G.rs.drop 0) (-1)):=aA (by unfold Gm.right;rw[q1,q2,decide_eq_true h1.1,decide_eq_true h1.2.1,decide_eq_true h1.2.2.1,decide_eq_true h1.2.2.2];rfl);clear q1 q2;obtain⟨g1,g2,g3,g4⟩:=h1
 go_enter Tryz.func32,Tryz.ntmps32
 go_wp2_with fail
 refine(HTS.o _ HS0.o).mono ?_;rintro _ w2 ⟨rfl,hb⟩;have HB2:=aA (HS0.o.on hb);have hz:w.heap.size<w2.heap.size:=HB2.o.size;have d0:=HB2.o.c 0 _ rfl;have d1:=HB2.o.c 1 _ rfl;have d2:=HB2.o.c 2 _ rfl;have d3:=HB2.o.c 3 _ rfl;clear hb;go_wp2_with fail
 refine(HNS.o _ HB2.o).mono ?_;rintro _ w3 ⟨rfl,hb⟩;have HB3:=aA (HB2.o.on hb);have hz3:w.heap.size<w3.heap.size:=HB3.o.size;have e1:=HB3.o.c 1 _ rfl;have e2:=HB3.o.c 2 _ rfl;have e3:=HB3.o.c 3 _ rfl;clear hb d0 d1 d2 d3 hz HB2;go_wp2;go_loopw [3,4] (fun vt vi wr=>∃(k:Nat) (z:Int),k<=G.rs.length/\vi=.int .i64 k/\vt=.int .i64 z/\(-1<=z/\z<=100+k)/\Hid (Gm.right G=Gm.rules G (G.rs.drop k) z)/\One w #[.slice AT G.ts.length cT,.slice AN G.ns.length cN,.slice AR G.rs.length cR,.int .i64 G.st] wr) (fun _ vi _=>G.rs.length-(intOf vi).toNat)
 case atStart=>exact⟨0,-1,Nat.zero_le _,rfl,rfl,by omega,HRR,HB3.o⟩
 case round =>
  clear e1 e2 e3 hz3 HB3;obtain⟨k,z,hk,rfl,rfl,hzz,HE,hb⟩:=hrel;have HB:=aA hb;have hz:w.heap.size<wr.heap.size:=hb.size;have hbw:=hb.below;have q0:=hb.c 0 _ rfl;have q1:=hb.c 1 _ rfl;have q2:=hb.c 2 _ rfl;have q3:=hb.c 3 _ rfl;clear hb;by_cases hlt:k<G.rs.length
  ·obtain⟨g,o,rfl,hgb,hc⟩:=HT.o (by omega);obtain⟨k0,⟨A',c',k1,_,_,hri⟩,k2⟩:=hc k hlt;have k0:=(hbw.cell (p:=⟨g,o+k*3,none⟩) (Nat.lt_of_lt_of_le hgb hB)).trans k0;have k1:=(hbw.cell (p:=⟨g,o+k*3+1,none⟩) (Nat.lt_of_lt_of_le hgb hB)).trans k1;have k2:=(hbw.cell (p:=⟨g,o+k*3+2,none⟩) (Nat.lt_of_lt_of_le hgb hB)).trans k2;have hgs:g<wr.heap.size:=by omega
   have hft:=HF.o.r _ (List.getElem_mem hlt);have HRU:=aA (fun(y:World) (h:One w #[.slice AT G.ts.length cT,.slice AN G.ns.length cN,.slice (some ⟨g,o,none⟩) G.rs.length cR,.int .i64 G.st] y)=>zgG _ G B G.rs[k] A' c' y (HG.o.below h.below hB) (hri.keep fun g o hg=>h.below.cell (p:=⟨g,o,none⟩) (Nat.lt_of_lt_of_le hg hB)) hft.2.2 (Nat.le_trans hB h.below.size));have HN:=aA (HE.o.trans (zfE hlt z));have hil:=hft.1;unfold Gm.In at hil;clear hc hbw hft hri;generalize G.rs[k]=x at *;by_cases c1:x.l<0
   ·have HX:Hid (Gm.right G=false):=aA (HN.o.trans (if_pos (.inl c1)));go_wp2;go_ret
    exact⟨aE HX.o.symm,(HB.o.alloc _).below⟩
   have c1':=Int.not_lt.1 c1;by_cases c2:z+1<x.l
   ·have HX:Hid (Gm.right G=false):=aA (HN.o.trans (if_pos (.inr (.inl c2))));go_wp2;go_ret
    exact⟨aE HX.o.symm,(HB.o.alloc _).below⟩
   have c2':=Int.not_lt.1 c2;cases c3:Gm.rule G x
   ·have HX:Hid (Gm.right G=false):=aA (HN.o.trans (if_pos (.inr (.inr c3))));rw[c3]at HRU;clear c3 c1 c2;go_wp2_with fail
    refine(HRU.o _ (HB.o.alloc _)).mono ?_;rintro _ w4 ⟨rfl,hb4⟩;have HB4:=aA ((HB.o.alloc _).on hb4);clear hb4;go_wp2;go_ret
    exact⟨aE HX.o.symm,HB4.o.below⟩
   ·have HN2:=aA (HN.o.trans (if_neg (by rw[c3];simp;omega)));rw[c3]at HRU;clear c3 c1 c2;by_cases c4:z<x.l
    ·have HX:=aA (HN2.o.trans (by rw[if_pos c4]));go_wp2_with fail
     refine(HRU.o _ (HB.o.alloc _)).mono ?_;rintro _ w4 ⟨rfl,hb4⟩;have HB4:=aA ((HB.o.alloc _).on hb4);have hbb:=(hb4.block wr.heap.size (by simp)).trans (heap_alloc_new wr _);have hz4:wr.heap.size<w4.heap.size:=(Array.getElem?_eq_some_iff.1 hbb).1;have f0:=cell_of_row w4 _ 0 _ _ _ hbb;clear hb4 hbb;go_wp2;go_roundw
     case rel=>exact⟨k+1,x.l,by omega,by go_num,rfl,by omega,HX,HB4.o⟩
     case measure=>simp[intOf];omega
    ·have HX:=aA (HN2.o.trans (by rw[if_neg c4]));have c4':=Int.not_lt.1 c4;clear c4;go_wp2_with fail
     refine(HRU.o _ (HB.o.alloc _)).mono ?_;rintro _ w4 ⟨rfl,hb4⟩;have HB4:=aA ((HB.o.alloc _).on hb4);have hbb:=(hb4.block wr.heap.size (by simp)).trans (heap_alloc_new wr _);have hz4:wr.heap.size<w4.heap.size:=(Array.getElem?_eq_some_iff.1 hbb).1;have f0:=cell_of_row w4 _ 0 _ _ _ hbb;clear hb4 hbb;go_wp2;go_roundw
     case rel=>exact⟨k+1,z,by omega,by go_num,rfl,by omega,HX,HB4.o⟩
     case measure=>simp[intOf];omega
  ·obtain rfl:k=G.rs.length:=by omega
   have HX:=aA (HE.o.trans (zgC (Nat.le_refl _) z));clear hbw;go_wp2;go_ret
   exact⟨aE HX.o.symm,HB.o.below⟩
end Go.Proofs.YtcmhaemaophplaaGreat
namespace Go.Mw
open Go.RowKit Go.Maps
structure Enc (P:Program) (kt:TypeId) (κ:Type) where
 enc:κ->Value
 ok:κ->Prop
 key:∀x,ok x->∃l,keyOf P kt (enc x)=some l
 inj:∀x y,ok x->ok y->enc x=enc y->x=y
section
variable {κ:Type} [DecidableEq κ] {α:Type}
def asc:List (κ×α)->κ->Option α
 | [],_=>none
 | (k,v)::r,x=>if k=x then some v else asc r x
theorem za8 {l:List (κ×α)} {x:κ}:asc l x=none ↔ ∀p∈l,p.1≠x:=by
 induction l with
 | nil=>simp[asc]
 | cons p r ih =>
  obtain⟨k,v⟩:=p;unfold asc;by_cases h:k=x
  ·rw[if_pos h];simp[h]
  ·rw[if_neg h,ih];simp[h]
theorem asc_mem {l:List (κ×α)} {x:κ} {v:α} (h:asc l x=some v):(x,v)∈l:=by
 induction l with
 | nil=>simp[asc]at h
 | cons p r ih =>
  obtain⟨k,u⟩:=p;unfold asc at h;by_cases hk:k=x
  ·rw[if_pos hk]at h;injection h with h;subst h hk;simp
  ·rw[if_neg hk]at h;exact List.mem_cons_of_mem _ (ih h)
theorem asc_of_mem {l:List (κ×α)} {x:κ} {v:α} (hn:(l.map Prod.fst).Nodup) (h:(x,v)∈l):asc l x=some v:=by
 induction l with
 | nil=>simp at h
 | cons p r ih =>
  obtain⟨k,u⟩:=p;rw[List.map_cons,List.nodup_cons]at hn;unfold asc;rcases List.mem_cons.1 h with e|e
  ·injection e with e1 e2;subst e1 e2;rw[if_pos rfl]
  ·have:k≠x:=fun q=>hn.1 (by rw[q];exact List.mem_map.2 ⟨(x,v),e,rfl⟩)
   rw[if_neg this];exact ih hn.2 e
theorem asc_snoc {l:List (κ×α)} {k x:κ} {v:α} (h:asc l k=none):asc (l++[(k,v)]) x=if k=x then some v else asc l x:=by
 induction l with
 | nil=>simp[asc]
 | cons p r ih =>
  obtain⟨k',u⟩:=p;unfold asc at h;split at h
  ·cases h
  ·rename_i hk
   rw[List.cons_append]
   show(if k'=x then some u else asc (r++[(k,v)]) x)=if k=x then some v else if k'=x then some u else asc r x
   rw[ih h];by_cases h1:k'=x
   ·rw[if_pos h1,if_pos h1,if_neg (fun e=>hk (h1.trans e.symm))]
   ·rw[if_neg h1,if_neg h1]
end
section
variable {P:Program} {kt:TypeId} {κ:Type}
def MapIs (E:Enc P kt κ) (w:World) (b:Nat) (l:List (κ×Value)):Prop :=
 ∃es clock,w.heap[b]?=some (.map es clock)/\es.toList.map (fun e=>(e.key,e.val))=l.map (fun p=>(E.enc p.1,p.2))/\(∀p∈l,E.ok p.1)/\(l.map Prod.fst).Nodup
variable {E:Enc P kt κ} {w:World} {b:Nat} {l:List (κ×Value)}
theorem MapIs.made (E:Enc P kt κ) (w:World):MapIs E (w.alloc (.map #[] 0)) w.heap.size [] :=
 ⟨#[],0,(MapKept.heap_alloc w _).1,rfl,by simp,by simp⟩
theorem MapIs.lt (h:MapIs E w b l):b<w.heap.size:=by
 obtain⟨es,clock,hb,_⟩:=h;exact(Array.getElem?_eq_some_iff.1 hb).1
theorem MapIs.kept {w':World} {row:Option Nat} (h:MapIs E w b l) (hg:w.grownBy w' row) (hne:some b≠row):MapIs E w' b l:=by
 have hlt:=h.lt;obtain⟨es,clock,hb,r⟩:=h;exact⟨es,clock,(hg.block b hlt hne).trans hb,r⟩
theorem MapIs.block {w':World} (h:MapIs E w b l) (hg:w'.heap[b]?=w.heap[b]?):MapIs E w' b l:=by
 obtain⟨es,clock,hb,r⟩:=h;exact⟨es,clock,hg.trans hb,r⟩
theorem MapIs.not_cells (h:MapIs E w b l) {cs:Array Value} {t:TypeId} {f:Nat×Nat}:w.heap[b]? ≠ some (.cells cs t f):=by
 obtain⟨es,clock,hb,_⟩:=h;rw[hb];intro e;cases e
theorem run_len {t e:TypeId} (h:MapIs E w b l) (ht:P.underlying t=some (.map kt e)) (ty:TypeId):(Builtin.len_ #[t] ty #[.map (some b)]).run P w=.ok (.int .i64 (l.length:Nat)) w:=by
 obtain⟨es,clock,hb,he,_⟩:=h;have e1:es.size=l.length:=by have:=congrArg List.length he;simpa using this
 simp[Builtin.len_,run_underlying ht,MapKept.run_getObj_map hb,goInt,Result.andThen,e1]
variable [DecidableEq κ]
theorem find_in (h:MapIs E w b l) (K:Keyed P kt) {x:κ} (hx:E.ok x):∃es clock,w.heap[b]?=some (.map es clock)/\es.toList.map (fun e=>(e.key,e.val))=l.map (fun p=>(E.enc p.1,p.2)) /\
  (((Instr.findKey kt (E.enc x) es.toList).run P w=.ok none w/\asc l x=none) \/ ∃(j:Nat) (e:MapEntry),(Instr.findKey kt (E.enc x) es.toList).run P w=.ok (some (j,e.val)) w/\es.toList[j]?=some e/\e.key=E.enc x/\asc l x=some e.val/\l[j]?=some (x,e.val)):=by
 obtain⟨es,clock,hb,he,hk,hn⟩:=h;refine⟨es,clock,hb,he,?_⟩;obtain⟨lx,hlx⟩:=E.key x hx
 have hkeys:∀e∈es.toList,∃l,keyOf P kt e.key=some l:=by
  intro e hm
  have:(e.key,e.val)∈es.toList.map (fun e=>(e.key,e.val)):=List.mem_map.2 ⟨e,hm,rfl⟩
  rw[he]at this;obtain⟨p,hp,e1⟩:=List.mem_map.1 this;injection e1 with e1 _;rw[<-e1];exact E.key p.1 (hk p hp)
 rcases K.find w hlx es.toList hkeys with⟨h1,h2⟩|⟨j,e,h1,h2,h3⟩
 ·refine .inl ⟨h1,za8.2 fun p hp q=>?_⟩
  have:(E.enc p.1,p.2)∈es.toList.map (fun e=>(e.key,e.val)):=by rw[he];exact List.mem_map.2 ⟨p,hp,rfl⟩
  obtain⟨e,hm,e1⟩:=List.mem_map.1 this;injection e1 with e1 _;exact h2 e hm (by rw[e1,q])
 ·refine .inr ⟨j,e,h1,h2,h3,?_⟩;have hj:(es.toList.map (fun e=>(e.key,e.val)))[j]?=some (e.key,e.val):=by rw[List.getElem?_map,h2];rfl
  rw[he,List.getElem?_map]at hj;obtain⟨p,hp,e1⟩:=Option.map_eq_some_iff.1 hj;injection e1 with e1 e2;have hpm:p∈l:=List.mem_of_getElem? hp;have hpx:p.1=x:=E.inj _ _ (hk p hpm) hx (e1.trans h3);have hpe:p=(x,e.val):=by rw[<-hpx,<-e2]
  rw[hpe]at hp hpm;exact⟨asc_of_mem hn hpm,hp⟩
theorem run_look {t e:TypeId} (h:MapIs E w b l) (K:Keyed P kt) (ht:P.underlying t=some (.map kt e)) {z:Value} (hz:(zeroValue e).run P w=.ok z w) {x:κ} (hx:E.ok x) (c:Bool) :
  (Instr.lookup t (.map (some b)) (E.enc x) c).run P w=.ok (if c then .tuple #[(asc l x).getD z,.bool (asc l x).isSome] else(asc l x).getD z) w:=by
 obtain⟨lx,hlx⟩:=E.key x hx;obtain⟨es,clock,hb,_,hf⟩:=find_in h K hx;rcases hf with⟨h1,h2⟩|⟨j,e0,h1,_,_,h2,_⟩
 ·rw[h2];simp[Instr.lookup,run_underlying ht,MapKept.run_getObj_map hb,K.check w _ hlx,h1,hz,Result.andThen]
 ·rw[h2];simp[Instr.lookup,run_underlying ht,MapKept.run_getObj_map hb,K.check w _ hlx,h1,Result.andThen]
theorem run_store {t e:TypeId} (h:MapIs E w b l) (K:Keyed P kt) (ht:P.underlying t=some (.map kt e)) {x:κ} (hx:E.ok x) (v:Value) (hv:asc l x=none\/asc l x=some v) :
  ∃w',(Instr.mapUpdate t (.map (some b)) (E.enc x) v).run P w=.ok () w'/\MapIs E w' b (if asc l x=none then l++[(x,v)] else l)/\w.grownBy w' (some b):=by
 obtain⟨lx,hlx⟩:=E.key x hx;have h0:=h;obtain⟨es,clock,hb,he,hf⟩:=find_in h K hx;obtain⟨es0,clock0,hb0,he0,hk,hn⟩:=h0;rw[hb]at hb0;injection hb0 with hb0;injection hb0 with hb0 hb1;subst hb0 hb1;rcases hf with⟨h1,h2⟩|⟨j,e0,h1,h2,h3,h4,h5⟩
 ·rw[if_pos h2];refine⟨ChangeMaps.setBlock w b (.map (es.push ⟨E.enc x,v,clock⟩) (clock+1)),?_,⟨_,_,ChangeMaps.heap_setBlock_same hb _,?_,?_,?_⟩,⟨rfl,rfl,rfl,by simp[ChangeMaps.setBlock],fun i _ hi=>ChangeMaps.heap_setBlock_other hb _ (fun e=>hi (by rw[e]))⟩⟩
  ·simp[Instr.mapUpdate,run_underlying ht,MapKept.run_getObj_map hb,K.check w false hlx,h1,MapKept.run_setObj_map _ hb,Result.andThen,ChangeMaps.setBlock]
  ·rw[Array.toList_push,List.map_append,List.map_append,he];rfl
  ·intro p hp;rcases List.mem_append.1 hp with q|q
   ·exact hk p q
   ·rw[List.mem_singleton]at q;subst q;exact hx
  ·rw[List.map_append,List.nodup_append];refine⟨hn,by simp,fun a ha c hc=>?_⟩;obtain⟨p,hp,rfl⟩:=List.mem_map.1 ha;simp only[List.map_cons,List.map_nil,List.mem_singleton]at hc;subst hc;exact za8.1 h2 p hp
 ·have hve:v=e0.val:=by
   rcases hv with q|q
   ·rw[h4]at q;cases q
   ·rw[h4]at q;injection q with q;exact q.symm
  rw[if_neg (by rw[h4];simp)];have hj:es[j]?=some e0:=by simpa using h2
  have hmod:(es.modify j (fun e=>{e with key:=E.enc x,val:=v})).toList.map (fun e=>(e.key,e.val))=es.toList.map (fun e=>(e.key,e.val)):=by
   rw[Array.toList_modify,ChangeMaps.modify_eq_set _ _ _ _ h2,List.map_set];have hjl:j<(es.toList.map (fun e=>(e.key,e.val))).length:=by rw[List.length_map];exact(List.getElem?_eq_some_iff.1 h2).1
   apply List.ext_getElem?;intro i;rw[List.getElem?_set];by_cases hij:j=i
   ·subst hij;rw[if_pos rfl,if_pos hjl,List.getElem?_map,h2,<-h3,hve];rfl
   ·rw[if_neg hij]
  refine⟨ChangeMaps.setBlock w b (.map (es.modify j (fun e=>{e with key:=E.enc x,val:=v})) clock),?_,⟨_,_,ChangeMaps.heap_setBlock_same hb _,hmod.trans he,hk,hn⟩,⟨rfl,rfl,rfl,by simp[ChangeMaps.setBlock],fun i _ hi=>ChangeMaps.heap_setBlock_other hb _ (fun e=>hi (by rw[e]))⟩⟩;simp[Instr.mapUpdate,run_underlying ht,MapKept.run_getObj_map hb,K.check w false hlx,h1,hj,h3,K.stays w hlx,MapKept.run_setObj_map _ hb,Result.andThen,ChangeMaps.setBlock]
end
theorem wpList_store {P:Program} {w:World} {ops:Array Oper} {rest:List Oper} {o:Oper} {a:Act} {Q:Exit->Act->World->Prop}
  (hg:o.guard=none) (m x v:Operand) (t:TypeId) (hop:o.op=Op.mapUpdate t m x v) {mv xv vv:Value} {R:World->Prop} (h:∃w',(Instr.mapUpdate t mv xv vv).run P w=.ok () w'/\R w') (hm:a.eval m=mv) (hx:a.eval x=xv) (hv:a.eval v=vv)
  (hK:∀w',R w'->wpList P ops Q rest (a.put o.dst undef) w'):wpList P ops Q (o::rest) a w:=by
 refine wpList_plain hg fun K' hK'=>?_;obtain⟨w',hrun,hR⟩:=h;unfold Oper.wp;simp[execOp,hop,hm,hx,hv,hrun,Result.andThen];exact hK' _ _ (hK w' hR)
end Go.Mw
namespace Go.Proofs.YtcmhaemaophplaaGreat
end Go.Proofs.YtcmhaemaophplaaGreat
namespace Go.Proofs.YtcmhaemaophplaaGreat
set_option maxRecDepth 100000
set_option maxHeartbeats 40000000
open Go.RowKit
def zd4:Mw.Enc Tryz.prog 9 (List Int) where
 enc s:=.string (K.str s)
 ok:=K.Tx
 key s h:=⟨_,Go.WideMaps.keyOf_string_mk Tryz.underlying9 (by rw[K.str_size];unfold maxLen;exact h.2)⟩
 inj x y hx hy h:=by injection h with h;exact(K.str_eq hx.1 hy.1).1 h
theorem zkW:Maps.Keyed Tryz.prog 9:=Maps.string_keyed Tryz.underlying9
theorem zeu (s:List Int) (hs:K.Tx s) (w:World) :
  Calls Tryz.prog 157 #[.string (K.str s)] w fun e w'=>e=.returned (.bool (Gm.named s))/\Below w.heap.size w w':=by
 have HN:=aA (fun w=>zeZ s hs.1 w);have HL:=aA (fun w=>zkj s hs.1 hs.2 w);unfold Gm.named;clear hs;cases q:T.isName s
 ·rw[q]at HN;clear q;generalize T.isLit s=b at *
  go_enter Tryz.func157,Tryz.ntmps157
  go_wp2_with fail
  refine(HN.o _).mono ?_;rintro _ w1 ⟨rfl,hb⟩;have HB:=aA hb;clear hb;go_wp2_with fail
  refine(HL.o _).mono ?_;rintro _ _ ⟨rfl,rfl⟩;go_wp2;go_ret
  exact⟨aE (by simp),HB.o⟩
 ·rw[q]at HN;clear q
  go_enter Tryz.func157,Tryz.ntmps157
  go_wp2_with fail
  refine(HN.o _).mono ?_;rintro _ w1 ⟨rfl,hb⟩;have HB:=aA hb;clear hb;go_wp2;go_ret
  exact⟨aE (by simp),HB.o⟩
def dd:List (List Int)->List (List Int)->List (List Int)
 | acc,[]=>acc
 | acc,s::r=>dd (if s∈acc then acc else acc++[s]) r
theorem zkv (acc l:List (List Int)) (s:List Int):dd acc (l++[s])=if s∈dd acc l then dd acc l else dd acc l++[s]:=by
 induction l generalizing acc with
 | nil=>rfl
 | cons x r ih=>rw[List.cons_append,dd,dd,ih]
theorem zma (acc l:List (List Int)) (hn:acc.Nodup):(dd acc l).length<=acc.length+l.length/\((dd acc l).length=acc.length+l.length↔(acc++l).Nodup):=by
 induction l generalizing acc with
 | nil=>simp[dd,hn]
 | cons x r ih =>
  rw[dd];by_cases hx:x∈acc
  ·rw[if_pos hx]
   have:=(ih acc hn).1
   refine⟨by rw[List.length_cons];omega,⟨fun e=>by rw[List.length_cons]at e;omega,fun h=>?_⟩⟩;rw[List.nodup_append]at h;exact absurd rfl (h.2.2 x hx x (by simp))
  ·rw[if_neg hx]
   have hn':(acc++[x]).Nodup:=by
    rw[List.nodup_append];exact⟨hn,by simp,fun a ha b hb e=>by rw[List.mem_singleton]at hb;subst hb e;exact hx ha⟩
   have:=ih (acc++[x]) hn'
   rw[List.length_append,List.length_singleton,List.append_assoc,List.singleton_append]at this;refine⟨by have:=this.1;rw[List.length_cons];omega,?_⟩;rw[<-this.2,List.length_cons];omega
def nmL (l:List (List Int)):List (List Int×Value):=(dd [] l).map fun s=>(s,.bool true)
theorem zhP (l:List (List Int)) (s:List Int):Mw.asc (nmL l) s=if s∈dd [] l then some (.bool true) else none:=by
 unfold nmL;generalize dd [] l=m;induction m with
 | nil=>rfl
 | cons x r ih =>
  rw[List.map_cons,Mw.asc,ih];by_cases h:x=s
  ·subst h;simp
  ·rw[if_neg h]
   have:s≠x:=fun e=>h e.symm
   simp[this]
theorem zeY (l:List (List Int)) (s:List Int):(if Mw.asc (nmL l) s=none then nmL l++[(s,.bool true)] else nmL l)=nmL (l++[s]):=by
 rw[zhP];unfold nmL;rw[zkv];by_cases h:s∈dd [] l
 ·rw[if_pos h,if_pos h];rfl
 ·rw[if_neg h,if_neg h,if_pos rfl,List.map_append];rfl
theorem zjA (l:List (List Int)) (s:List Int):Mw.asc (nmL l) s=none\/Mw.asc (nmL l) s=some (.bool true):=by
 rw[zhP];split
 ·exact .inr rfl
 ·exact .inl rfl
def rnB (G:Gm.Gr):Bool:=decide (G.ts.length<=24)&&decide (1<=G.ns.length)&&decide (G.ns.length<=16)&&(G.ts.all fun t=>Gm.named t.nm)&&(G.ns.all T.isName)&&decide ((nmL (Gm.names G.ts++G.ns)).length=G.ts.length+G.ns.length)
theorem rn_t {G:Gm.Gr} {k:Nat} (h:k<G.ts.length) (hn:Gm.named G.ts[k].nm=false):rnB G=false:=by
 unfold rnB
 have:(G.ts.all fun t=>Gm.named t.nm)=false:=List.all_eq_false.2 ⟨_,List.getElem_mem h,by rw[hn];simp⟩
 rw[this];simp
theorem rn_n {G:Gm.Gr} {k:Nat} (h:k<G.ns.length) (hn:T.isName G.ns[k]=false):rnB G=false:=by
 unfold rnB
 have:(G.ns.all T.isName)=false:=List.all_eq_false.2 ⟨_,List.getElem_mem h,by rw[hn];simp⟩
 rw[this];simp
def zeI {α:Type} (l:List α) (f:α->Bool) (k:Nat):Prop:=∀i (h:i<l.length),i<k->f l[i]=true
theorem zeI.zero {α:Type} (l:List α) (f:α->Bool):zeI l f 0:=fun _ _ h=>by omega
theorem zeI.next {α:Type} {l:List α} {f:α->Bool} {k:Nat} (h:zeI l f k) (hk:k<l.length) (hn:f l[k]=true):zeI l f (k+1):=fun i hi hik=>by
 rcases Nat.lt_or_ge i k with q|q
 ·exact h i hi q
 ·obtain rfl:i=k:=by omega
  exact hn
theorem zeI.all {α:Type} {l:List α} {f:α->Bool} (h:zeI l f l.length):l.all f=true:=by
 rw[List.all_eq_true];intro x hx;obtain⟨i,hi,rfl⟩:=List.getElem_of_mem hx;exact h i hi hi
theorem zdp {α:Type} {l:List α} {k:Nat} (h:k<l.length):l.take (k+1)=l.take k++[l[k]]:=List.take_succ_eq_append_getElem h
theorem zck (v:Value) (G:Gm.Gr) (B:Nat) (w:World) (hg:aT w B v G) (hf:Gm.Fit G) (hB:B<=w.heap.size) :
  Calls Tryz.prog 133 #[v] w fun e w'=>e=.returned (.bool (rnB G))/\Below w.heap.size w w':=by
 obtain⟨AT,cT,AN,cN,AR,cR,rfl,⟨hlT,hmT⟩,⟨hlN,hmN⟩,_,ht,hn,_⟩:=hg;have HT:=aA ht;have HN:=aA hn;have HF:=aA hf;have HS0:=aA (One.start w #[.slice AT G.ts.length cT,.slice AN G.ns.length cN,.slice AR G.rs.length cR,.int .i64 G.st]);have hlenT:(G.ts.length:Int)<=9223372036854775807:=by omega
 have hlenN:(G.ns.length:Int)<=9223372036854775807:=by omega
 clear ht hn hf;by_cases h24:24<G.ts.length
 ·have HX:Hid (rnB G=false):=aA (by unfold rnB;rw[decide_eq_false (show ¬G.ts.length<=24 by omega)];rfl);rw[HX.o]
  go_enter Tryz.func133,Tryz.ntmps133
  go_wp2;go_ret
  exact⟨rfl,HS0.o.below⟩
 by_cases h0:G.ns.length<1
 ·have HX:Hid (rnB G=false):=aA (by unfold rnB;rw[decide_eq_false (show ¬1<=G.ns.length by omega)];simp);have e0:((G.ns.length:Int)==0)=true:=beq_iff_eq.2 (by omega);rw[HX.o];clear h0
  go_enter Tryz.func133,Tryz.ntmps133
  go_wp2;go_ret
  exact⟨rfl,HS0.o.below⟩
 have e0:((G.ns.length:Int)==0)=false:=beq_eq_false_iff_ne.2 (by omega);by_cases h16:16<G.ns.length
 ·have HX:Hid (rnB G=false):=aA (by unfold rnB;rw[decide_eq_false (show ¬G.ns.length<=16 by omega)];simp);rw[HX.o];clear h0
  go_enter Tryz.func133,Tryz.ntmps133
  go_wp2;go_ret
  exact⟨rfl,HS0.o.below⟩
 clear h0;have hmm:=@run_makeMap Tryz.prog;have HM0:=aA (Mw.MapIs.made zd4 (w.alloc (.cells #[.slice AT G.ts.length cT,.slice AN G.ns.length cN,.slice AR G.rs.length cR,.int .i64 G.st] 26)));have hs1:(w.alloc (.cells #[.slice AT G.ts.length cT,.slice AN G.ns.length cN,.slice AR G.rs.length cR,.int .i64 G.st] 26)).heap.size=w.heap.size+1:=by simp
 rw[hs1]at HM0;have HS1:=aA (HS0.o.alloc (.map #[] 0));clear hs1
 go_enter Tryz.func133,Tryz.ntmps133
 go_wp2;go_loopw [28] (fun vi wr=>∃(k:Nat),k<=G.ts.length/\vi=.int .i64 k/\Hid (zeI G.ts (fun t=>Gm.named t.nm) k)/\One w #[.slice AT G.ts.length cT,.slice AN G.ns.length cN,.slice AR G.rs.length cR,.int .i64 G.st] wr/\Hid (Mw.MapIs zd4 wr (w.heap.size+1) (nmL (Gm.names (G.ts.take k))))) (fun vi _=>G.ts.length-(intOf vi).toNat)
 case atStart=>exact⟨0,Nat.zero_le _,rfl,aA (zeI.zero _ _),HS1.o,HM0⟩
 case round =>
  obtain⟨k,hk,rfl,HA,hb,HM⟩:=hrel;have HB:=aA hb;have hz:w.heap.size<wr.heap.size:=hb.size;have hz1:w.heap.size+1<wr.heap.size:=HM.o.lt;have hbw:=hb.below;have q1:=hb.c 1 _ rfl;clear hb;by_cases hlt:k<G.ts.length
  ·obtain⟨g,o,rfl,hgb,hc⟩:=HT.o (by omega);have k0:=(hbw.cell (p:=⟨g,o+k*3,none⟩) (Nat.lt_of_lt_of_le hgb hB)).trans (hc k hlt).1;have k1:=(hbw.cell (p:=⟨g,o+k*3+1,none⟩) (Nat.lt_of_lt_of_le hgb hB)).trans (hc k hlt).2.1;have k2:=(hbw.cell (p:=⟨g,o+k*3+2,none⟩) (Nat.lt_of_lt_of_le hgb hB)).trans (hc k hlt).2.2;have hgs:g<wr.heap.size:=by omega
   have hft:=(HF.o.t _ (List.getElem_mem hlt)).1;have HNM:=aA (fun x=>zeu _ hft x);have HTX:=aA hft;have HA':=aA (fun h=>HA.o.next hlt h);have HNO:=aA (fun h=>rn_t hlt h);have HNX:Hid (nmL (Gm.names (G.ts.take k)++[G.ts[k].nm])=nmL (Gm.names (G.ts.take (k+1)))):=aA (by rw[zdp hlt];unfold Gm.names;rw[List.map_append];rfl);clear hc hbw hft;generalize G.ts[k].nm=nm at *;generalize G.ts[k].lv=lv at *;generalize G.ts[k].wy=wy at *;cases q:Gm.named nm
   ·have HX:=aA (HNO.o q);rw[q]at HNM;clear q;go_wp2_with fail
    refine(HNM.o _).mono ?_;rintro _ w2 ⟨rfl,hb2⟩;have HB2:=aA ((HB.o.alloc _).on hb2);clear hb2;go_wp2;go_ret
    exact⟨aE HX.o.symm,HB2.o.below⟩
   ·have HX:=aA (HA'.o q);rw[q]at HNM;clear q;go_wp2_with fail
    refine(HNM.o _).mono ?_;rintro _ w2 ⟨rfl,hb2⟩;have HB2:=aA ((HB.o.alloc _).on hb2);have hbb:=(hb2.block wr.heap.size (by simp)).trans (heap_alloc_new wr _);have hz2:wr.heap.size<w2.heap.size:=(Array.getElem?_eq_some_iff.1 hbb).1;have f0:=cell_of_row w2 _ 0 _ _ _ hbb;have HM2:=aA ((HM.o.kept (World.grownBy_alloc wr _ none) (by simp)).kept (aM hb2 none) (by simp));clear hb2 hbb;have HST:=aA (Mw.run_store (x:=nm) HM2.o zkW Tryz.underlying217 HTX.o (.bool true) (zjA _ _));go_wp2_with (at_mapUpdate;refine Mw.wpList_store rfl _ _ _ _ rfl HST.o rfl rfl rfl ?_;rintro w3 ⟨hm3,hg3⟩)
    have HB3:=aA (Below.grown HB2.o hg3 HB2.o.size (fun k e=>by injection e with e;omega));have HM3:Hid (Mw.MapIs zd4 w3 (w.heap.size+1) (nmL (Gm.names (G.ts.take (k+1))))):=aA (by rw[<-HNX.o,<-zeY];exact hm3);clear hm3 hg3;go_roundw
    case rel=>exact⟨k+1,by omega,by go_num,HX,HB3.o,HM3⟩
    case measure=>simp[intOf];omega
  ·obtain rfl:k=G.ts.length:=by omega
   have HA1:=aA HA.o.all;have HM1:Hid (Mw.MapIs zd4 wr (w.heap.size+1) (nmL (Gm.names G.ts++G.ns.take 0))):=aA (by have h:=HM.o;rw[List.take_length]at h;rw[List.take_zero,List.append_nil];exact h);clear hbw hk hlt HA HM;go_wp2;go_loopw [43] (fun vi wr=>∃(k:Nat),k<=G.ns.length/\vi=.int .i64 k/\Hid (zeI G.ns T.isName k)/\One w #[.slice AT G.ts.length cT,.slice AN G.ns.length cN,.slice AR G.rs.length cR,.int .i64 G.st] wr/\Hid (Mw.MapIs zd4 wr (w.heap.size+1) (nmL (Gm.names G.ts++G.ns.take k)))) (fun vi _=>G.ns.length-(intOf vi).toNat)
   case atStart=>exact⟨0,Nat.zero_le _,rfl,aA (zeI.zero _ _),HB.o,HM1⟩
   case round =>
    clear q1 hz hz1 HB HM1;obtain⟨k,hk,rfl,HA,hb,HM⟩:=hrel;have HB:=aA hb;have hz:w.heap.size<wr.heap.size:=hb.size;have hz1:w.heap.size+1<wr.heap.size:=HM.o.lt;have hbw:=hb.below;have q0:=hb.c 0 _ rfl;have q1:=hb.c 1 _ rfl;clear hb;by_cases hlt:k<G.ns.length
    ·obtain⟨g,o,rfl,hgb,hc⟩:=HN.o (by omega);have k0:=(hbw.cell (p:=⟨g,o+k,none⟩) (Nat.lt_of_lt_of_le hgb hB)).trans (hc k hlt);have hgs:g<wr.heap.size:=by omega
     have hft:=HF.o.n _ (List.getElem_mem hlt);have HNM:=aA (fun x=>zeZ _ hft.1 x);have HTX:=aA hft;have HA':=aA (fun h=>HA.o.next hlt h);have HNO:=aA (fun h=>rn_n hlt h);have HNX:Hid (nmL (Gm.names G.ts++G.ns.take k++[G.ns[k]])=nmL (Gm.names G.ts++G.ns.take (k+1))):=aA (by rw[zdp hlt,List.append_assoc]);obtain⟨s,qs⟩:∃t,t=G.ns[k]:=⟨_,rfl⟩
     rw[<-qs]at k0 HNM HTX HA' HNO HNX;clear hc hbw hft qs;cases q:T.isName s
     ·have HX:=aA (HNO.o q);rw[q]at HNM;clear q;go_wp2_with fail
      refine(HNM.o _).mono ?_;rintro _ w2 ⟨rfl,hb2⟩;have HB2:=aA (HB.o.on hb2);clear hb2;go_wp2;go_ret
      exact⟨aE HX.o.symm,HB2.o.below⟩
     ·have HX:=aA (HA'.o q);rw[q]at HNM;clear q;go_wp2_with fail
      refine(HNM.o _).mono ?_;rintro _ w2 ⟨rfl,hb2⟩;have HB2:=aA (HB.o.on hb2);have HM2:=aA (HM.o.kept (aM hb2 none) (by simp));clear hb2;have HST:=aA (Mw.run_store (x:=s) HM2.o zkW Tryz.underlying217 HTX.o (.bool true) (zjA _ _));go_wp2_with (at_mapUpdate;refine Mw.wpList_store rfl _ _ _ _ rfl HST.o rfl rfl rfl ?_;rintro w3 ⟨hm3,hg3⟩)
      have HB3:=aA (Below.grown HB2.o hg3 HB2.o.size (fun k e=>by injection e with e;omega));have HM3:Hid (Mw.MapIs zd4 w3 (w.heap.size+1) (nmL (Gm.names G.ts++G.ns.take (k+1)))):=aA (by rw[<-HNX.o,<-zeY];exact hm3);clear hm3 hg3;go_roundw
      case rel=>exact⟨k+1,by omega,by go_num,HX,HB3.o,HM3⟩
      case measure=>simp[intOf];omega
    ·obtain rfl:k=G.ns.length:=by omega
     have HA2:=aA HA.o.all;have HM1:Hid (Mw.MapIs zd4 wr (w.heap.size+1) (nmL (Gm.names G.ts++G.ns))):=aA (by have h:=HM.o;rw[List.take_length]at h;exact h);have hL:=Mw.run_len HM1.o Tryz.underlying217 3
     have HX:Hid (rnB G=(((nmL (Gm.names G.ts++G.ns)).length:Int)==(G.ts.length:Int)+(G.ns.length:Int))):=aA (by
      unfold rnB;rw[HA1.o,HA2.o,decide_eq_true (show G.ts.length<=24 by omega),decide_eq_true (show 1<=G.ns.length by have:=beq_eq_false_iff_ne.1 e0;omega),decide_eq_true (show G.ns.length<=16 by omega)];simp only[Bool.true_and];rw[Bool.eq_iff_iff];simp only[decide_eq_true_eq,beq_iff_eq]
      omega)
     generalize (nmL (Gm.names G.ts++G.ns)).length=m at *;clear hbw hk hlt HA HM HM1;go_wp2_with (simp only[hL])
     go_ret
     exact⟨aE HX.o.symm,HB.o.below⟩
def zfU:Mw.Enc Tryz.prog 3 Int where
 enc z:=.int .i64 z
 ok:=Gm.In
 key z h:=⟨_,Maps.keyOf_int_mk Tryz.underlying3 (WalkArith.wf_i64 (by unfold Gm.In at h;omega))⟩
 inj x y _ _ h:=by injection h
theorem zkN:Maps.Keyed Tryz.prog 3:=Maps.int_keyed Tryz.underlying3
def asB (t:Gm.Tm):Bool:=if t.wy=0 then t.lv==0 else if t.wy=1\/t.wy=2\/t.wy=3 then decide (0<t.lv) else false
theorem zcl (t:Gm.Tm) (w:World) :
  Calls Tryz.prog 159 #[.agg #[.string (K.str t.nm),.int .i64 t.lv,.int .i64 t.wy]] w fun e w'=>e=.returned (.bool (asB t))/\Below w.heap.size w w':=by
 have HB:=aA (fun o=>(Below.refl w.heap.size w).alloc (Nat.le_refl _) o);obtain⟨nm,lv,wy⟩:=t;unfold asB;simp only;generalize K.str nm=s at *;by_cases h0:wy=0
 ·subst h0;rw[if_pos rfl]
  go_enter Tryz.func159,Tryz.ntmps159
  go_wp2;go_ret
  exact⟨rfl,HB.o _⟩
 rw[if_neg h0];by_cases h1:wy=1
 ·subst h1;rw[if_pos (by simp)]
  go_enter Tryz.func159,Tryz.ntmps159
  go_wp2;go_ret
  exact⟨rfl,HB.o _⟩
 by_cases h2:wy=2
 ·subst h2;rw[if_pos (by simp)]
  go_enter Tryz.func159,Tryz.ntmps159
  go_wp2;go_ret
  exact⟨rfl,HB.o _⟩
 by_cases h3:wy=3
 ·subst h3;rw[if_pos (by simp)]
  go_enter Tryz.func159,Tryz.ntmps159
  go_wp2;go_ret
  exact⟨rfl,HB.o _⟩
 rw[if_neg (by omega)];have e0:(wy==0)=false:=beq_eq_false_iff_ne.2 h0;have e1:(wy==1)=false:=beq_eq_false_iff_ne.2 h1;have e2:(wy==2)=false:=beq_eq_false_iff_ne.2 h2;have e3:(wy==3)=false:=beq_eq_false_iff_ne.2 h3
 go_enter Tryz.func159,Tryz.ntmps159
 go_wp2;go_ret
 exact⟨rfl,HB.o _⟩
def zdO (m:List (Int×Int)) (t:Gm.Tm):List (Int×Int):=if 0<t.lv then(if Mw.asc m t.lv=none then m++[(t.lv,t.wy)] else m) else m
def rlF:List Gm.Tm->List (Int×Int)->Int->Bool
 | [],m,g=>(m.length:Int)==g
 | t::r,m,g=>if asB t=false then false else if(Mw.asc m t.lv).isSome=true/\(Mw.asc m t.lv).getD 0≠t.wy then false else rlF r (zdO m t) (max g t.lv)
theorem zij {ts:List Gm.Tm} {k:Nat} (h:k<ts.length) (m:List (Int×Int)) (g:Int):rlF (ts.drop k) m g=if asB ts[k]=false then false else if(Mw.asc m ts[k].lv).isSome=true/\(Mw.asc m ts[k].lv).getD 0≠ts[k].wy then false else rlF (ts.drop (k+1)) (zdO m ts[k]) (max g ts[k].lv):=by
 rw[List.drop_eq_getElem_cons h,rlF]
theorem zjZ {ts:List Gm.Tm} {k:Nat} (h:ts.length<=k) (m:List (Int×Int)) (g:Int):rlF (ts.drop k) m g=((m.length:Int)==g):=by
 rw[List.drop_eq_nil_of_le h,rlF]
def lvL (m:List (Int×Int)):List (Int×Value):=m.map fun p=>(p.1,.int .i64 p.2)
theorem zeD (m:List (Int×Int)) (z:Int):Mw.asc (lvL m) z=(Mw.asc m z).map (fun y=>.int .i64 y):=by
 unfold lvL;induction m with
 | nil=>rfl
 | cons p r ih =>
  obtain⟨k,v⟩:=p;rw[List.map_cons,Mw.asc,Mw.asc,ih];by_cases h:k=z
  ·rw[if_pos h,if_pos h];rfl
  ·rw[if_neg h,if_neg h]
theorem ze4 (m:List (Int×Int)) (z:Int):(Mw.asc (lvL m) z).getD (.int .i64 0)=.int .i64 ((Mw.asc m z).getD 0)/\(Mw.asc (lvL m) z).isSome=(Mw.asc m z).isSome:=by
 rw[zeD];cases Mw.asc m z <;> exact⟨rfl,rfl⟩
theorem zh3 (w:World):(zeroValue 3).run Tryz.prog w=.ok (.int .i64 0) w:=by kernel_rfl
theorem zb2 (A:Option Addr) (c B:Nat) (ts:List Gm.Tm) (w:World) (ht:zeG w B A ts) (hf:∀x∈ts,K.Tx x.nm/\Gm.In x.lv/\Gm.In x.wy) (hB:B<=w.heap.size) (hlen:(ts.length:Int)<=9223372036854775807) :
  Calls Tryz.prog 134 #[.slice A ts.length c] w fun e w'=>e=.returned (.bool (rlF ts [] 0))/\Below w.heap.size w w':=by
 have HT:=aA ht;have HF:=aA hf;have hmm:=@run_makeMap Tryz.prog;have HM0:=aA (Mw.MapIs.made zfU w);have HS0:=aA ((Below.refl w.heap.size w).alloc (Nat.le_refl _) (.map #[] 0));clear ht hf
 go_enter Tryz.func134,Tryz.ntmps134
 go_wp2;go_loopw [4,12] (fun vg vi wr=>∃(k:Nat) (m:List (Int×Int)) (g:Int),k<=ts.length/\vi=.int .i64 k/\vg=.int .i64 g/\Hid (rlF ts [] 0=rlF (ts.drop k) m g)/\Below w.heap.size w wr/\Hid (Mw.MapIs zfU wr w.heap.size (lvL m))) (fun _ vi _=>ts.length-(intOf vi).toNat)
 case atStart=>exact⟨0,[],0,Nat.zero_le _,rfl,rfl,aA rfl,HS0.o,HM0⟩
 case round =>
  obtain⟨k,m,g,hk,rfl,rfl,HE,hb,HM⟩:=hrel;have HB:=aA hb;have hz:w.heap.size<wr.heap.size:=HM.o.lt;by_cases hlt:k<ts.length
  ·obtain⟨gb,o,rfl,hgb,hc⟩:=HT.o (by omega);have k0:=(hb.cell (p:=⟨gb,o+k*3,none⟩) (Nat.lt_of_lt_of_le hgb hB)).trans (hc k hlt).1;have k1:=(hb.cell (p:=⟨gb,o+k*3+1,none⟩) (Nat.lt_of_lt_of_le hgb hB)).trans (hc k hlt).2.1;have k2:=(hb.cell (p:=⟨gb,o+k*3+2,none⟩) (Nat.lt_of_lt_of_le hgb hB)).trans (hc k hlt).2.2;have hgs:gb<wr.heap.size:=by omega
   have hft:=(HF.o _ (List.getElem_mem hlt)).2;have HIN:=aA hft;have HAS:=aA (fun x=>zcl ts[k] x);have HR:=aA (zij hlt m g);clear hc hft;generalize ts[k]=t at *;obtain⟨nm,lv,wy⟩:=t;simp only at k0 k1 k2 HIN HAS HR;have HM1:=aA (HM.o.kept (World.grownBy_alloc wr (.cells #[.string (K.str nm),.int .i64 lv,.int .i64 wy] 81) none) (by simp));have HLK:=Mw.run_look (x:=lv) HM1.o zkN Tryz.underlying218 (zh3 _) HIN.o.1 true;rw[if_pos rfl,(ze4 m lv).1,(ze4 m lv).2]at HLK;have HLK':(Instr.lookup 218 (.map (some w.heap.size)) (.int .i64 lv) true).run Tryz.prog (wr.alloc (.cells #[.string (K.str nm),.int .i64 lv,.int .i64 wy] 81))=.ok (.tuple #[.int .i64 ((Mw.asc m lv).getD 0),.bool (Mw.asc m lv).isSome]) (wr.alloc (.cells #[.string (K.str nm),.int .i64 lv,.int .i64 wy] 81)):=HLK;have HBA:=aA (fun o=>HB.o.alloc HB.o.size o);clear HLK hb;generalize qa:asB ⟨nm,lv,wy⟩=ba at *;clear qa;cases ba
   ·have HX:=aA (HE.o.trans (HR.o.trans (if_pos rfl)));go_wp2_with fail
    refine(HAS.o _).mono ?_;rintro _ w2 ⟨rfl,hb2⟩;have HB2:=aA ((HBA.o _).trans (hb2.mono (HBA.o _).size));clear hb2;go_wp2;go_ret
    exact⟨aE HX.o.symm,HB2.o⟩
   have HR1:=aA (HE.o.trans (HR.o.trans (if_neg (by simp))))
   have HSO:Hid (¬((Mw.asc m lv).isSome=true/\(Mw.asc m lv).getD 0≠wy)->Mw.asc (lvL m) lv=none\/Mw.asc (lvL m) lv=some (.int .i64 wy)):=aA (fun h=>by
    rw[zeD];cases q:Mw.asc m lv with
    | none=>exact .inl rfl
    | some y =>
     rw[q]at h
     have:y=wy:=Classical.byContradiction fun n=>h ⟨rfl,n⟩
     rw[this];exact .inr rfl)
   have HPUT:Hid (¬0<lv->zdO m ⟨nm,lv,wy⟩=m):=aA (fun h=>by unfold zdO;rw[if_neg h])
   have HPUT2:Hid (0<lv->lvL (zdO m ⟨nm,lv,wy⟩)=if Mw.asc (lvL m) lv=none then lvL m++[(lv,.int .i64 wy)] else lvL m):=aA (fun h=>by
    unfold zdO;rw[if_pos h,zeD];cases q:Mw.asc m lv with
    | none=>simp[lvL]
    | some y=>simp)
   by_cases h2:(Mw.asc m lv).isSome=true/\(Mw.asc m lv).getD 0≠wy
   ·have HX:=aA (HR1.o.trans (if_pos h2));obtain⟨h3,h4⟩:=h2;rw[h3]at HLK';have h5:((Mw.asc m lv).getD 0 != wy)=true:=by simpa using h4
    clear h3 h4 HSO;generalize (Mw.asc m lv).getD 0=zs at *;go_wp2_with fail
    refine(HAS.o _).mono ?_;rintro _ w2 ⟨rfl,hb2⟩;have HB2:=aA ((HBA.o _).trans (hb2.mono (HBA.o _).size));have hbb:=(hb2.block wr.heap.size (by simp)).trans (heap_alloc_new wr _);have hz2:wr.heap.size<w2.heap.size:=(Array.getElem?_eq_some_iff.1 hbb).1;have f1:=cell_of_row w2 _ 1 _ _ _ hbb;have f2:=cell_of_row w2 _ 2 _ _ _ hbb;clear hb2 hbb;go_wp2;go_ret
    exact⟨aE HX.o.symm,HB2.o⟩
   ·have HX:=aA (HR1.o.trans (if_neg h2));have HSS:=aA (HSO.o h2)
    have h3:((Mw.asc m lv).isSome&&((Mw.asc m lv).getD 0 != wy))=false:=by
     cases q:(Mw.asc m lv).isSome
     ·rfl
     ·rw[Bool.true_and];by_cases q2:(Mw.asc m lv).getD 0=wy
      ·rw[q2];simp
      ·exact absurd ⟨q,q2⟩ h2
    generalize qs:(Mw.asc m lv).isSome=kn at HLK' h3;generalize qg:(Mw.asc m lv).getD 0=zs at HLK' h3;clear h2 qs qg HSO HR1 HR HE;by_cases hp:0<lv
    ·have HP:=aA (HPUT2.o hp);cases kn
     ·go_wp2_with fail
      refine(HAS.o _).mono ?_;rintro _ w2 ⟨rfl,hb2⟩;have HB2:=aA ((HBA.o _).trans (hb2.mono (HBA.o _).size));have hbb:=(hb2.block wr.heap.size (by simp)).trans (heap_alloc_new wr _);have hz2:wr.heap.size<w2.heap.size:=(Array.getElem?_eq_some_iff.1 hbb).1;have f1:=cell_of_row w2 _ 1 _ _ _ hbb;have f2:=cell_of_row w2 _ 2 _ _ _ hbb;have HM2:=aA (HM1.o.kept (aM hb2 none) (by simp));have HBC:=aA (fun(x:World) (h:w2.grownBy x (some w.heap.size))=>(cell_of_row x _ 1 _ _ _ ((h.block wr.heap.size hz2 (fun e=>by injection e with e;omega)).trans hbb)));clear hb2 hbb;have HST:=aA (Mw.run_store (x:=lv) HM2.o zkN Tryz.underlying218 HIN.o.1 (.int .i64 wy) HSS.o);rw[<-HP.o]at HST;clear HLK';go_wp2_with (at_mapUpdate;refine Mw.wpList_store rfl _ _ _ _ rfl HST.o rfl rfl rfl ?_;rintro w3 ⟨hm3,hg3⟩;have f3:=HBC.o _ hg3)
      have HB3:=aA (Below.grown HB2.o hg3 HB2.o.size (fun k e=>by injection e with e;omega));have HM3:=aA hm3;clear hm3 hg3;go_roundw
      case rel=>exact⟨k+1,_,_,by omega,by go_num,rfl,HX,HB3.o,HM3⟩
      case measure=>simp[intOf];omega
     ·have h4:(zs != wy)=false:=by simpa using h3
      clear h3;go_wp2_with fail
      refine(HAS.o _).mono ?_;rintro _ w2 ⟨rfl,hb2⟩;have HB2:=aA ((HBA.o _).trans (hb2.mono (HBA.o _).size));have hbb:=(hb2.block wr.heap.size (by simp)).trans (heap_alloc_new wr _);have hz2:wr.heap.size<w2.heap.size:=(Array.getElem?_eq_some_iff.1 hbb).1;have f1:=cell_of_row w2 _ 1 _ _ _ hbb;have f2:=cell_of_row w2 _ 2 _ _ _ hbb;have HM2:=aA (HM1.o.kept (aM hb2 none) (by simp));have HBC:=aA (fun(x:World) (h:w2.grownBy x (some w.heap.size))=>(cell_of_row x _ 1 _ _ _ ((h.block wr.heap.size hz2 (fun e=>by injection e with e;omega)).trans hbb)));clear hb2 hbb;have HST:=aA (Mw.run_store (x:=lv) HM2.o zkN Tryz.underlying218 HIN.o.1 (.int .i64 wy) HSS.o);rw[<-HP.o]at HST;clear HLK';go_wp2_with (at_mapUpdate;refine Mw.wpList_store rfl _ _ _ _ rfl HST.o rfl rfl rfl ?_;rintro w3 ⟨hm3,hg3⟩;have f3:=HBC.o _ hg3)
      have HB3:=aA (Below.grown HB2.o hg3 HB2.o.size (fun k e=>by injection e with e;omega));have HM3:=aA hm3;clear hm3 hg3;go_roundw
      case rel=>exact⟨k+1,_,_,by omega,by go_num,rfl,HX,HB3.o,HM3⟩
      case measure=>simp[intOf];omega
    ·have HP:=aA (HPUT.o hp);have hp':=Int.not_lt.1 hp;clear hp;cases kn
     ·go_wp2_with fail
      refine(HAS.o _).mono ?_;rintro _ w2 ⟨rfl,hb2⟩;have HB2:=aA ((HBA.o _).trans (hb2.mono (HBA.o _).size));have hbb:=(hb2.block wr.heap.size (by simp)).trans (heap_alloc_new wr _);have hz2:wr.heap.size<w2.heap.size:=(Array.getElem?_eq_some_iff.1 hbb).1;have f1:=cell_of_row w2 _ 1 _ _ _ hbb;have f2:=cell_of_row w2 _ 2 _ _ _ hbb;have HM2:=aA (HM1.o.kept (aM hb2 none) (by simp));clear hb2 hbb;rw[HP.o]at HX;clear HLK';go_wp2;go_roundw
      case rel=>exact⟨k+1,_,_,by omega,by go_num,rfl,HX,HB2.o,HM2⟩
      case measure=>simp[intOf];omega
     ·have h4:(zs != wy)=false:=by simpa using h3
      clear h3;go_wp2_with fail
      refine(HAS.o _).mono ?_;rintro _ w2 ⟨rfl,hb2⟩;have HB2:=aA ((HBA.o _).trans (hb2.mono (HBA.o _).size));have hbb:=(hb2.block wr.heap.size (by simp)).trans (heap_alloc_new wr _);have hz2:wr.heap.size<w2.heap.size:=(Array.getElem?_eq_some_iff.1 hbb).1;have f1:=cell_of_row w2 _ 1 _ _ _ hbb;have f2:=cell_of_row w2 _ 2 _ _ _ hbb;have HM2:=aA (HM1.o.kept (aM hb2 none) (by simp));clear hb2 hbb;rw[HP.o]at HX;clear HLK';go_wp2;go_roundw
      case rel=>exact⟨k+1,_,_,by omega,by go_num,rfl,HX,HB2.o,HM2⟩
      case measure=>simp[intOf];omega
  ·obtain rfl:k=ts.length:=by omega
   have hL:=Mw.run_len HM.o Tryz.underlying218 3;have HX:=aA (HE.o.trans (zjZ (Nat.le_refl _) m g));rw[show(lvL m).length=m.length by simp[lvL]]at hL;generalize m.length=q at *;clear hb;go_wp2_with (simp only[hL])
   go_ret
   exact⟨aE HX.o.symm,HB.o⟩
def isT (z:Int):Bool:=decide (0<=z)
def zbt (G:Gm.Gr) (z:Int):Bool:=!Gm.has G z
theorem zfV (A:Option Addr) (c B:Nat) (l:List Int) (w:World) (hr:RdI w B A l) (hB:B<=w.heap.size) (hlen:(l.length:Int)<=9223372036854775807) :
  Calls Tryz.prog 150 #[.slice A l.length c,.func (Fn.func 184) #[] #[]] w fun e w'=>∃n:Int,e=.returned (.int .i64 n)/\decide (0<=n)=l.any isT/\Below w.heap.size w w':=by
 have HT:=aA hr;have HB0:=aA (Below.refl w.heap.size w);clear hr
 go_enter Tryz.func150,Tryz.ntmps150
 go_wp2;go_loopw [8] (fun vi wr=>∃(k:Nat),k<=l.length/\vi=.int .i64 k/\Hid (zeI l (fun z=>!isT z) k)/\Below w.heap.size w wr) (fun vi _=>l.length-(intOf vi).toNat)
 case atStart=>exact⟨0,Nat.zero_le _,rfl,aA (zeI.zero _ _),HB0.o⟩
 case round =>
  obtain⟨k,hk,rfl,HA,hb⟩:=hrel;have HB:=aA hb;by_cases hlt:k<l.length
  ·obtain⟨g,o,rfl,hgb,hc⟩:=HT.o (by omega);have k0:=(hb.cell (p:=⟨g,o+k,none⟩) (Nat.lt_of_lt_of_le hgb hB)).trans (hc k hlt);rw[L.gd_lt hlt]at k0;have HC:=aA (fun(x:World) (_:Below w.heap.size w x)=>(zcC l[k] x).mono (fun e w' h=>⟨h.1,by rw[h.2];exact Below.refl _ _⟩:∀e w',_->(e=.returned (.bool (isT l[k]))/\Below x.heap.size x w')));have HN:=aA (fun h=>HA.o.next hlt h);have HY:=aA (fun(h:isT l[k]=true)=>(List.any_eq_true.2 ⟨_,List.getElem_mem hlt,h⟩:l.any isT=true));clear hb hc;obtain⟨z,qz⟩:∃z,z=l[k]:=⟨_,rfl⟩
   rw[<-qz]at k0 HC HN HY;clear qz;cases q:isT z
   ·have HX:=aA (HN.o (by simp only[q];rfl));rw[q]at HC;clear q HN HY;go_wp2_with fail
    refine(HC.o _ HB.o).mono ?_;rintro _ w2 ⟨rfl,hb2⟩;have HB2:=aA (HB.o.trans (hb2.mono HB.o.size));clear hb2;go_wp2;go_roundw
    case rel=>exact⟨k+1,by omega,by go_num,HX,HB2.o⟩
    case measure=>simp[intOf];omega
   ·have HX:=aA (HY.o q);rw[q]at HC;clear q HN HY;go_wp2_with fail
    refine(HC.o _ HB.o).mono ?_;rintro _ w2 ⟨rfl,hb2⟩;have HB2:=aA (HB.o.trans (hb2.mono HB.o.size));clear hb2;go_wp2;go_ret
    exact⟨k,rfl,by rw[HX.o];simp,HB2.o⟩
  ·obtain rfl:k=l.length:=by omega
   have HX:Hid (l.any isT=false):=aA (by
    rw[List.any_eq_false];intro z hz;obtain⟨i,hi,rfl⟩:=List.getElem_of_mem hz
    have:=HA.o i hi hi
    simpa using this)
   clear hb;go_wp2;go_ret
   exact⟨-1,rfl,by rw[HX.o];rfl,HB.o⟩
theorem zdb (A:Option Addr) (c B:Nat) (l:List Int) (w:World) (hr:RdI w B A l) (hB:B<=w.heap.size) (hlen:(l.length:Int)<=9223372036854775807) :
  Calls Tryz.prog 114 #[.slice A l.length c,.func (Fn.func 184) #[] #[]] w fun e w'=>e=.returned (.bool (l.any isT))/\Below w.heap.size w w':=by
 have HI:=aA (zfV A c B l w hr hB hlen);clear hr hlen
 go_enter Tryz.func114,Tryz.ntmps114
 go_wp2_with fail
 refine HI.o.mono ?_;rintro _ w2 ⟨n,rfl,hn,hb⟩;have HN:=aA hn;have HB:=aA hb;clear hn hb;go_wp2;go_ret
 exact⟨aE HN.o,HB.o⟩
theorem zfW (v:Value) (G:Gm.Gr) (B gb:Nat) (z:Int) (a:Array Value) (hv:v=.agg a) (hz:Gm.In z) (w:World) (hg:aT w B v G) (hb:w.heap[gb]?=some (.cells a 26 (0,0))) :
  Calls Tryz.prog 183 #[.int .i64 z,.pointer (some ⟨gb,0,none⟩)] w fun e w'=>e=.returned (.bool (zbt G z))/\Below w.heap.size w w':=by
 have HH:=aA (zex v G B z hz w hg);obtain⟨AT,cT,AN,cN,AR,cR,rfl,_⟩:=hg;injection hv with hv;subst hv;have c0:=cell_of_row w gb 0 _ _ _ hb;have c1:=cell_of_row w gb 1 _ _ _ hb;have c2:=cell_of_row w gb 2 _ _ _ hb;have c3:=cell_of_row w gb 3 _ _ _ hb;clear hb hz
 go_enter Tryz.func183,Tryz.ntmps183
 go_wp2_with fail
 refine HH.o.mono ?_;rintro _ w2 ⟨rfl,hb⟩;have HB:=aA hb;clear hb;go_wp2;go_ret
 exact⟨rfl,HB.o⟩
theorem zhp (A:Option Addr) (c B:Nat) (l:List Int) (w:World) (G:Gm.Gr) (gb B2:Nat) (a:Array Value) (hin:∀z∈l,Gm.In z) (hg:∀x:World,Below w.heap.size w x->aT x B2 (.agg a) G) (hgb:∀x:World,Below w.heap.size w x->x.heap[gb]?=some (.cells a 26 (0,0))) (hr:RdI w B A l) (hB:B<=w.heap.size) (hlen:(l.length:Int)<=9223372036854775807) :
  Calls Tryz.prog 150 #[.slice A l.length c,.func (Fn.func 183) #[] #[.pointer (some ⟨gb,0,none⟩)]] w fun e w'=>∃n:Int,e=.returned (.int .i64 n)/\decide (0<=n)=l.any (zbt G)/\Below w.heap.size w w':=by
 have HT:=aA hr;have HB0:=aA (Below.refl w.heap.size w);have HIN:=aA hin;have HG:=aA hg;have HGB:=aA hgb;clear hin hg hgb;clear hr
 go_enter Tryz.func150,Tryz.ntmps150
 go_wp2;go_loopw [8] (fun vi wr=>∃(k:Nat),k<=l.length/\vi=.int .i64 k/\Hid (zeI l (fun z=>!(zbt G) z) k)/\Below w.heap.size w wr) (fun vi _=>l.length-(intOf vi).toNat)
 case atStart=>exact⟨0,Nat.zero_le _,rfl,aA (zeI.zero _ _),HB0.o⟩
 case round =>
  obtain⟨k,hk,rfl,HA,hb⟩:=hrel;have HB:=aA hb;by_cases hlt:k<l.length
  ·obtain⟨g,o,rfl,hgb,hc⟩:=HT.o (by omega);have k0:=(hb.cell (p:=⟨g,o+k,none⟩) (Nat.lt_of_lt_of_le hgb hB)).trans (hc k hlt);rw[L.gd_lt hlt]at k0;have HC:=aA (fun(x:World) (h:Below w.heap.size w x)=>zfW (.agg a) G B2 gb l[k] a rfl (HIN.o _ (List.getElem_mem hlt)) x (HG.o x h) (HGB.o x h));have HN:=aA (fun h=>HA.o.next hlt h);have HY:=aA (fun(h:(zbt G) l[k]=true)=>(List.any_eq_true.2 ⟨_,List.getElem_mem hlt,h⟩:l.any (zbt G)=true));clear hb hc;obtain⟨z,qz⟩:∃z,z=l[k]:=⟨_,rfl⟩
   rw[<-qz]at k0 HC HN HY;clear qz;cases q:(zbt G) z
   ·have HX:=aA (HN.o (by simp only[q];rfl));rw[q]at HC;clear q HN HY;go_wp2_with fail
    refine(HC.o _ HB.o).mono ?_;rintro _ w2 ⟨rfl,hb2⟩;have HB2:=aA (HB.o.trans (hb2.mono HB.o.size));clear hb2;go_wp2;go_roundw
    case rel=>exact⟨k+1,by omega,by go_num,HX,HB2.o⟩
    case measure=>simp[intOf];omega
   ·have HX:=aA (HY.o q);rw[q]at HC;clear q HN HY;go_wp2_with fail
    refine(HC.o _ HB.o).mono ?_;rintro _ w2 ⟨rfl,hb2⟩;have HB2:=aA (HB.o.trans (hb2.mono HB.o.size));clear hb2;go_wp2;go_ret
    exact⟨k,rfl,by rw[HX.o];simp,HB2.o⟩
  ·obtain rfl:k=l.length:=by omega
   have HX:Hid (l.any (zbt G)=false):=aA (by
    rw[List.any_eq_false];intro z hz;obtain⟨i,hi,rfl⟩:=List.getElem_of_mem hz
    have:=HA.o i hi hi
    simpa using this)
   clear hb;go_wp2;go_ret
   exact⟨-1,rfl,by rw[HX.o];rfl,HB.o⟩
theorem zdY (A:Option Addr) (c B:Nat) (l:List Int) (w:World) (G:Gm.Gr) (gb B2:Nat) (a:Array Value) (hin:∀z∈l,Gm.In z) (hg:∀x:World,Below w.heap.size w x->aT x B2 (.agg a) G) (hgb:∀x:World,Below w.heap.size w x->x.heap[gb]?=some (.cells a 26 (0,0))) (hr:RdI w B A l) (hB:B<=w.heap.size) (hlen:(l.length:Int)<=9223372036854775807) :
  Calls Tryz.prog 114 #[.slice A l.length c,.func (Fn.func 183) #[] #[.pointer (some ⟨gb,0,none⟩)]] w fun e w'=>e=.returned (.bool (l.any (zbt G)))/\Below w.heap.size w w':=by
 have HI:=aA (zhp A c B l w G gb B2 a hin hg hgb hr hB hlen);clear hr hlen hin hg hgb
 go_enter Tryz.func114,Tryz.ntmps114
 go_wp2_with fail
 refine HI.o.mono ?_;rintro _ w2 ⟨n,rfl,hn,hb⟩;have HN:=aA hn;have HB:=aA hb;clear hn hb;go_wp2;go_ret
 exact⟨aE HN.o,HB.o⟩
end Go.Proofs.YtcmhaemaophplaaGreat
