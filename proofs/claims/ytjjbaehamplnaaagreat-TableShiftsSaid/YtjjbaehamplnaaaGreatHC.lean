/- Part of the proofs over this program: CfgRight, LexQuo, LexPiece2, Floats, PlaceFn, PlaceAt, LexTok, LexScan, YaccL, CfgL, CfgR, CfgR2, CfgEq, TrimL, TrimR, TrimD, TrimK, AutoL, TrimM, AutoB, FirstL. -/
import Derived.ScopeJumps
import Derived.WalkMore
import Derived.Laws.FloatArith
import Derived.Test.YtjjbaehamplnaaaGreatHB
set_option linter.all false
namespace Go
def DH:=@Option.map_some
def DU:=@Go.run_sliceAt_slice
def Ei:=@List.foldl_append
def CR:=@Bool.or_eq_true
def B7:=@List.flatMap_cons
def BW:=@List.flatMap_append
def Ci:=@List.flatMap_singleton
def EZ:=@List.length_modify
def Da:=@List.pairwise_iff_getElem
def Bv:=@List.mem_of_mem_erase
def DL:=@Bool.false_eq_true
def Bu:=@Option.getD_some
def BZ:=@List.nodup_iff_pairwise_ne
def CS:=@List.nil_append
def EG:=@Bool.not_eq_true'
def Es:=@decide_eq_false_iff_not
def EN:=@Bool.and_false
def Dt:=@List.foldl_cons
def Aw:=@List.getD_eq_getElem?_getD
def CO:=@List.getElem?_replicate
def BH:=@Int.toNat_of_nonneg
def EO:=@List.getElem?_set_ne
def Ch:=@List.getElem?_eq_none
def ET:=@List.mem_map_of_mem
def Dw:=@List.mem_append_left
def Cc:=@List.mem_filter
def Dr:=@List.pairwise_map
def CA:=@List.filter_cons
def BU:=@List.mem_range
def EA:=@Prod.ext
def Du:=@List.pairwise_cons
def CJ:=@List.mem_flatMap
def Ej:=@List.pairwise_append
def CD:=@List.length_filter_le
def CH:=@List.filter_append
def DV:=@List.length_range
def E6:=@Option.some.injEq
def DJ:=@List.mem_append_right
def Db:=@List.getElem_append_right
def DB:=@Nat.sub_self
end Go
open Go.RowKit Go.Proofs.Tryz
set_option maxRecDepth 100000
set_option maxHeartbeats 40000000
variable {B base i k n:Nat} {E es:List (List (Int×Int))} {G:Go.Proofs.YtjjbaehamplnaaaGreat.Gm.Gr} {j s t z:Int} {ks r:List Int} {ns ns':List (List Int)} {ops:Array Go.Oper} {rs:List Go.Proofs.YtjjbaehamplnaaaGreat.Gm.Rl} {tm:Bool} {v:Go.Value} {w w':Go.World}
namespace Go.Proofs.YtjjbaehamplnaaaGreat
def tR (G:Gm.Gr) (x:Gm.Rl):Bool:=decide (x.r.length<=6) && !x.r.any (tF G)&&(if x.p = -1 then !x.r.any oo else oo x.p&&Gm.has G x.p)
theorem OD (v:Value) (G:Gm.Gr) (B:Nat) (x:Gm.Rl) (A:Option Addr) (c:Nat) (w:World) (hg:aT w B v G) (hr:gg w B A x.r) (hx:∀z∈x.r,Gm.In z) (hp:Gm.In x.p) (hB:B<=w.heap.size) :
  Calls prog 105 #[v,.agg #[.int .i64 x.l,.slice A x.r.length c,.int .i64 x.p]] w fun e w'=>e=.returned (.bool (tR G x))/\β w w':=by
 have HG:=aA hg;obtain⟨AT,cT,AN,cN,AR,cR,rfl,_⟩:=hg;have i:=aA ((One.start w #[.slice AT G.ts.length cT,.slice AN G.ns.length cN,.slice AR G.rs.length cR,.int .i64 G.st]).alloc (.cells #[.int .i64 x.l,.slice A x.r.length c,.int .i64 x.p] 74))
 have ac:Hid (((w.alloc (.cells #[.slice AT G.ts.length cT,.slice AN G.ns.length cN,.slice AR G.rs.length cR,.int .i64 G.st] 26)).alloc (.cells #[.int .i64 x.l,.slice A x.r.length c,.int .i64 x.p] 74)).heap[w.heap.size+1]?=some (.cells #[.int .i64 x.l,.slice A x.r.length c,.int .i64 x.p] 74 (0,0))):=aA (by
  have:=AI (w.alloc (.cells #[.slice AT G.ts.length cT,.slice AN G.ns.length cN,.slice AR G.rs.length cR,.int .i64 G.st] 26)) (.cells #[.int .i64 x.l,.slice A x.r.length c,.int .i64 x.p] 74)
  simpa using this)
 by_cases h6:6<x.r.length
 ·have HX:Hid (tR G x=false):=aA (by unfold tR;rw[AU (show ¬x.r.length<=6 by omega)];rfl);rw[HX.o];clear hr hx hp
  go_enter func105,ntmps105
  go_wp2;go_ret
  exact⟨rfl,i.o.below⟩
 have ag:=aA (fun(y:World) (h:One w #[.slice AT G.ts.length cT,.slice AN G.ns.length cN,.slice AR G.rs.length cR,.int .i64 G.st] y)=>(Ef h w.heap.size ω).trans (AI w _));have j:=aA (fun(y:World) (h:One w #[.slice AT G.ts.length cT,.slice AN G.ns.length cN,.slice AR G.rs.length cR,.int .i64 G.st] y)=>Ou A c B x.r y G w.heap.size B _ hx (fun z hz=>HG.o.below (h.on hz).below hB) (fun z hz=>ag.o _ (h.on hz)) (hr.fp fun g o hg=>h.below.cell (p:=⟨g,o,none⟩) (Aj hg hB)) (Ah hB h.below.size) ω);have af:=aA (fun(y:World) (h:One w #[.slice AT G.ts.length cT,.slice AN G.ns.length cN,.slice AR G.rs.length cR,.int .i64 G.st] y)=>OG A c B x.r y (hr.fp fun g o hg=>h.below.cell (p:=⟨g,o,none⟩) (Aj hg hB)) (Ah hB h.below.size) ω);have k:=aA (fun y=>K5 x.p y);have ad:=aA (fun(y:World) (h:One w #[.slice AT G.ts.length cT,.slice AN G.ns.length cN,.slice AR G.rs.length cR,.int .i64 G.st] y)=>JQ _ G B x.p hp y (HG.o.below h.below hB));have aa:Hid (tR G x=(!x.r.any (tF G)&&(if x.p = -1 then !x.r.any oo else oo x.p&&Gm.has G x.p))):=aA (by unfold tR;rw[AV (show x.r.length<=6 by omega)];rfl);clear hr hx hp HG;cases q1:x.r.any (tF G)
 case true =>
  have HX:Hid (tR G x=false):=aA (by rw[aa.o,q1];rfl);rw[q1]at j;rw[HX.o];clear q1 aa
  go_enter func105,ntmps105
  go_wp2_with fail
  refine(j.o _ i.o).mono ?_;rintro _ w2 ⟨rfl,hb⟩;have f:=aA (i.o.on hb);clear hb;go_wp2;go_ret
  exact⟨rfl,f.o.below⟩
 rw[q1]at j;have ab:Hid (tR G x=(if x.p = -1 then !x.r.any oo else oo x.p&&Gm.has G x.p)):=aA (by rw[aa.o,q1];rfl);clear q1 aa;by_cases h1:x.p = -1
 ·have HX:=aA (ab.o.trans (Az h1));have e1:(x.p == -1)=true:=BP.2 h1;rw[HX.o];generalize x.r.any oo=b at *;clear h1 k ad ab HX
  go_enter func105,ntmps105
  go_wp2_with fail
  refine(j.o _ i.o).mono ?_;rintro _ w2 ⟨rfl,hb⟩;have f:=aA (i.o.on hb);have d:=(hb.block (w.heap.size+1) σ).trans ac.o;have d1:=AF w2 _ 1 _ _ _ d;have d2:=AF w2 _ 2 _ _ _ d;have hz:w.heap.size+1<w2.heap.size:=(Ad.1 d).1;clear hb d;go_wp2_with fail
  refine(af.o _ f.o).mono ?_;rintro _ w3 ⟨rfl,hb⟩;have ae:=aA (f.o.on hb);clear hb;go_wp2;go_ret
  exact⟨rfl,ae.o.below⟩
 ·have HX:=aA (ab.o.trans (AJ h1));have e1:(x.p == -1)=false:=Bc.2 h1;rw[HX.o];unfold oo;clear h1 af ab HX;cases q2:decide (0<=x.p)
  ·rw[q2]at k;clear q2 ad
   go_enter func105,ntmps105
   go_wp2_with fail
   refine(j.o _ i.o).mono ?_;rintro _ w2 ⟨rfl,hb⟩;have f:=aA (i.o.on hb);have d:=(hb.block (w.heap.size+1) σ).trans ac.o;have d1:=AF w2 _ 1 _ _ _ d;have d2:=AF w2 _ 2 _ _ _ d;have hz:w.heap.size+1<w2.heap.size:=(Ad.1 d).1;clear hb d;go_wp2_with fail
   refine(k.o _).mono ?_;rintro _ _ ⟨rfl,rfl⟩;go_wp2;go_ret
   exact⟨rfl,f.o.below⟩
  ·rw[q2]at k;clear q2;generalize Gm.has G x.p=b at *
   go_enter func105,ntmps105
   go_wp2_with fail
   refine(j.o _ i.o).mono ?_;rintro _ w2 ⟨rfl,hb⟩;have f:=aA (i.o.on hb);have d:=(hb.block (w.heap.size+1) σ).trans ac.o;have d1:=AF w2 _ 1 _ _ _ d;have d2:=AF w2 _ 2 _ _ _ d;have hz:w.heap.size+1<w2.heap.size:=(Ad.1 d).1;have q0:=f.o.c 0 _ rfl;have q1:=f.o.c 1 _ rfl;have q2:=f.o.c 2 _ rfl;have q3:=f.o.c 3 _ rfl;clear hb d;go_wp2_with fail
   refine(k.o _).mono ?_;rintro _ w5 ⟨rfl,ah⟩;subst ah;go_wp2_with fail
   refine(ad.o _ f.o).mono ?_;rintro _ w3 ⟨rfl,hb⟩;have ae:=aA (f.o.on hb);clear hb;go_wp2;go_ret
   exact⟨aD σ,ae.o.below⟩
def tQ (G:Gm.Gr):List Gm.Rl->Int->Bool
 | [],n=>n==G.ns.length
 | x::r,n=>if x.l<0\/n<x.l\/tR G x=false then false else tQ G r (max n (x.l+1))
theorem Re (h:k<rs.length) (n:Int):tQ G (rs.drop k) n=if rs[k].l<0\/n<rs[k].l\/tR G rs[k]=false then false else tQ G (rs.drop (k+1)) (max n (rs[k].l+1)):=by
 rw[BJ h,tQ]
theorem SR (h:rs.length<=k) (n:Int):tQ G (rs.drop k) n=(n==(G.ns.length:Int)):=by
 rw[Cb h,tQ]
def tP (G:Gm.Gr):Bool:=decide (G.rs.length<=40)&&tQ G G.rs 0
theorem Oi (v:Value) (G:Gm.Gr) (B:Nat) (w:World) (hg:aT w B v G) (hf:Gm.Fit G) (hB:B<=w.heap.size) :
  Calls prog 68 #[v] w fun e w'=>e=.returned (.bool (tP G))/\β w w':=by
 have HG:=aA hg;obtain⟨AT,cT,AN,cN,AR,cR,rfl,⟨al,am⟩,⟨ao,ap⟩,⟨aq,ar⟩,_,_,ht⟩:=hg;have HT:=aA ht;have HF:=aA hf;have ag:=aA (One.start w #[.slice AT G.ts.length cT,.slice AN G.ns.length cN,.slice AR G.rs.length cR,.int .i64 G.st]);have ah:(G.ns.length:Int)<=9223372036854775807:=ω
 clear ht hf;by_cases au:40<G.rs.length
 ·have HX:Hid (tP G=false):=aA (by unfold tP;rw[AU (show ¬G.rs.length<=40 by omega)];rfl);rw[HX.o]
  go_enter func68,ntmps68
  go_wp2;go_ret
  exact⟨rfl,ag.o.below⟩
 have aj:Hid (tP G=tQ G (G.rs.drop 0) 0):=aA (by unfold tP;rw[AV (show G.rs.length<=40 by omega)];rfl)
 go_enter func68,ntmps68
 go_wp2;go_loopw [3,13] (fun vt vi wr=>∃(k:Nat) (z:Int),k<=G.rs.length/\vi=.int .i64 k/\vt=.int .i64 z/\(0<=z/\z<=100+k)/\Hid (tP G=tQ G (G.rs.drop k) z)/\One w #[.slice AT G.ts.length cT,.slice AN G.ns.length cN,.slice AR G.rs.length cR,.int .i64 G.st] wr) (fun _ vi _=>G.rs.length-(intOf vi).toNat)
 case atStart=>exact⟨0,0,Bb _,rfl,rfl,ω,aj,ag.o⟩
 case round =>
  obtain⟨k,z,hk,rfl,rfl,av,HE,hb⟩:=hrel;have HB:=aA hb;have hz:w.heap.size<wr.heap.size:=hb.size;have d:=hb.below;have q0:=hb.c 0 _ rfl;have q1:=hb.c 1 _ rfl;have q2:=hb.c 2 _ rfl;have q3:=hb.c 3 _ rfl;clear hb;by_cases ac:k<G.rs.length
  ·obtain⟨g,o,rfl,ad,hc⟩:=HT.o ω;obtain⟨k0,⟨A',c',k1,_,_,ai⟩,k2⟩:=hc k ac;have k0:=(d.cell (p:=⟨g,o+k*3,none⟩) (Aj ad hB)).trans k0;have k1:=(d.cell (p:=⟨g,o+k*3+1,none⟩) (Aj ad hB)).trans k1;have k2:=(d.cell (p:=⟨g,o+k*3+2,none⟩) (Aj ad hB)).trans k2;have aw:g<wr.heap.size:=ω
   have aa:=HF.o.r _ (AD ac);have ab:=aA (fun(y:World) (h:One w #[.slice AT G.ts.length cT,.slice AN G.ns.length cN,.slice (some ⟨g,o,none⟩) G.rs.length cR,.int .i64 G.st] y)=>OD _ G B G.rs[k] A' c' y (HG.o.below h.below hB) (ai.fp fun g o hg=>h.below.cell (p:=⟨g,o,none⟩) (Aj hg hB)) aa.2.2 aa.2.1 (Ah hB h.below.size));have HN:=aA (HE.o.trans (Re ac z));have ak:=aa.1;unfold Gm.In at ak;clear hc d aa ai;generalize G.rs[k]=x at *;by_cases c1:x.l<0
   ·have HX:Hid (tP G=false):=aA (HN.o.trans (Az (.inl c1)));go_wp2;go_ret
    exact⟨aD HX.o.symm,(HB.o.alloc _).below⟩
   have c1':=Fb.1 c1;by_cases c2:z<x.l
   ·have HX:Hid (tP G=false):=aA (HN.o.trans (Az (.inr (.inl c2))));go_wp2;go_ret
    exact⟨aD HX.o.symm,(HB.o.alloc _).below⟩
   have c2':=Fb.1 c2;cases c3:tR G x
   ·have HX:Hid (tP G=false):=aA (HN.o.trans (Az (.inr (.inr c3))));rw[c3]at ab;clear c3 c1 c2;go_wp2_with fail
    refine(ab.o _ (HB.o.alloc _)).mono ?_;rintro _ w4 ⟨rfl,b⟩;have ae:=aA ((HB.o.alloc _).on b);clear b;go_wp2;go_ret
    exact⟨aD HX.o.symm,ae.o.below⟩
   ·have HX:=aA (HN.o.trans (AJ (by rw[c3];simp;omega)));rw[c3]at ab;clear c3 c1 c2;go_wp2_with fail
    refine(ab.o _ (HB.o.alloc _)).mono ?_;rintro _ w4 ⟨rfl,b⟩;have ae:=aA ((HB.o.alloc _).on b);have af:=(b.block wr.heap.size σ).trans (AI wr _);have ax:wr.heap.size<w4.heap.size:=(Ad.1 af).1;have f0:=AF w4 _ 0 _ _ _ af;clear b af;go_wp2;go_roundw
    case rel=>exact⟨k+1,max z (x.l+1),ω,ν,rfl,ω,HX,ae.o⟩
    case measure=>simp[intOf];omega
  ·obtain rfl:k=G.rs.length:=ω
   have HX:=aA (HE.o.trans (SR (Af _) z));clear d;go_wp2;go_ret
   exact⟨aD HX.o.symm,HB.o.below⟩
def Hp (G:Gm.Gr):Bool:=p9 G&&sF G.ts [] 0&&tP G&&decide (0<=G.st)&&decide (G.st<G.ns.length)
theorem P6 (v:Value) (G:Gm.Gr) (B:Nat) (w:World) (hg:aT w B v G) (hf:Gm.Fit G) (hB:B<=w.heap.size) :
  Calls prog 35 #[v] w fun e w'=>e=.returned (.bool (Hp G))/\β w w':=by
 have HG:=aA hg;have HF:=aA hf;obtain⟨AT,cT,AN,cN,AR,cR,rfl,⟨ac,ad⟩,⟨ae,af⟩,⟨ag,ah⟩,aa,_,_⟩:=hg;have f:=aA (One.start w #[.slice AT G.ts.length cT,.slice AN G.ns.length cN,.slice AR G.rs.length cR,.int .i64 G.st]);have H1:=aA (fun(x:World) (h:One w #[.slice AT G.ts.length cT,.slice AN G.ns.length cN,.slice AR G.rs.length cR,.int .i64 G.st] x)=>Oj _ G B x (HG.o.below h.below hB) HF.o (Ah hB h.below.size));have H2:=aA (fun(x:World) (h:One w #[.slice AT G.ts.length cT,.slice AN G.ns.length cN,.slice AR G.rs.length cR,.int .i64 G.st] x)=>Og AT cT B G.ts x (aa.fp fun g o hg=>h.below.cell (p:=⟨g,o,none⟩) (Aj hg hB)) HF.o.t (Ah hB h.below.size) ω);have H3:=aA (fun(x:World) (h:One w #[.slice AT G.ts.length cT,.slice AN G.ns.length cN,.slice AR G.rs.length cR,.int .i64 G.st] x)=>Oi _ G B x (HG.o.below h.below hB) HF.o (Ah hB h.below.size));have ab:(G.ns.length:Int)<=9223372036854775807:=ω
 unfold Hp;clear hf aa HG HF ac ad ae af ag ah hB;cases p1:p9 G
 ·rw[p1]at H1;clear p1 H2 H3
  go_enter func35,ntmps35
  go_wp2_with fail
  refine(H1.o _ f.o).mono ?_;rintro _ w2 ⟨rfl,hb⟩;have d:=aA (f.o.on hb);clear hb;go_wp2;go_ret
  exact⟨rfl,d.o.below⟩
 rw[p1]at H1;clear p1;cases p2:sF G.ts [] 0
 ·rw[p2]at H2;clear p2 H3
  go_enter func35,ntmps35
  go_wp2_with fail
  refine(H1.o _ f.o).mono ?_;rintro _ w2 ⟨rfl,hb⟩;have d:=aA (f.o.on hb);have q0:=d.o.c 0 _ rfl;have z2:w.heap.size<w2.heap.size:=d.o.size;clear hb;go_wp2_with fail
  refine(H2.o _ d.o).mono ?_;rintro _ w3 ⟨rfl,hb⟩;have b:=aA (d.o.on hb);clear hb;go_wp2;go_ret
  exact⟨rfl,b.o.below⟩
 rw[p2]at H2;clear p2;cases p3:tP G
 ·rw[p3]at H3;clear p3
  go_enter func35,ntmps35
  go_wp2_with fail
  refine(H1.o _ f.o).mono ?_;rintro _ w2 ⟨rfl,hb⟩;have d:=aA (f.o.on hb);have q0:=d.o.c 0 _ rfl;have z2:w.heap.size<w2.heap.size:=d.o.size;clear hb;go_wp2_with fail
  refine(H2.o _ d.o).mono ?_;rintro _ w3 ⟨rfl,hb⟩;have b:=aA (d.o.on hb);have r0:=b.o.c 0 _ rfl;have r1:=b.o.c 1 _ rfl;have r2:=b.o.c 2 _ rfl;have r3:=b.o.c 3 _ rfl;have z3:w.heap.size<w3.heap.size:=b.o.size;clear hb;go_wp2_with fail
  refine(H3.o _ b.o).mono ?_;rintro _ w4 ⟨rfl,hb⟩;have i:=aA (b.o.on hb);clear hb;go_wp2;go_ret
  exact⟨rfl,i.o.below⟩
 rw[p3]at H3;clear p3;by_cases h4:0<=G.st
 focus
  rw[AV h4]
 rotate_left
 focus
  rw[AU h4];have ai:=Int.not_le.1 h4;clear h4
 rotate_left
 all_goals
  go_enter func35,ntmps35
  go_wp2_with fail
  refine(H1.o _ f.o).mono ?_;rintro _ w2 ⟨rfl,hb⟩;have d:=aA (f.o.on hb);have q0:=d.o.c 0 _ rfl;have z2:w.heap.size<w2.heap.size:=d.o.size;clear hb;go_wp2_with fail
  refine(H2.o _ d.o).mono ?_;rintro _ w3 ⟨rfl,hb⟩;have b:=aA (d.o.on hb);have r0:=b.o.c 0 _ rfl;have r1:=b.o.c 1 _ rfl;have r2:=b.o.c 2 _ rfl;have r3:=b.o.c 3 _ rfl;have z3:w.heap.size<w3.heap.size:=b.o.size;clear hb;go_wp2_with fail
  refine(H3.o _ b.o).mono ?_;rintro _ w4 ⟨rfl,hb⟩;have i:=aA (b.o.on hb);have s1:=i.o.c 1 _ rfl;have s3:=i.o.c 3 _ rfl;have z4:w.heap.size<w4.heap.size:=i.o.size;clear hb;go_wp2;go_ret
 focus
  exact⟨aD σ,i.o.below⟩
 focus
  exact⟨rfl,i.o.below⟩
def fY (A:Option Addr) (c k:Nat):Option Addr:=if c=k then A else A.map fun x=>x.add k
theorem ij.fY {w:World} {B c:Nat} {A:Option Addr} {l:List Int} (h:ij w B A l) (hc:l.length<=c) (k:Nat):ij w B (fY A c k) (l.drop k):=by
 intro hn;rw[Bt]at hn;obtain⟨g,o,rfl,hg,aa⟩:=h ω;refine⟨g,o+k,?_,hg,fun j hj=>?_⟩
 ·have e:((⟨g,o,none⟩:Addr).add k)=⟨g,o+k,none⟩:=by unfold Addr.add;by_cases h0:k=0 <;> simp[h0]
  unfold Go.Proofs.YtjjbaehamplnaaaGreat.fY;rw[AJ ω,DH,e]
 ·rw[Bt]at hj;rw[show o+k+j=o+(k+j) by omega,aa (k+j) ω,L.fy (by omega:k+j<l.length),L.fy (by rw[Bt];exact hj),Dy]
def kx (r:Option Nat):Value:=match r with|none=>.tuple #[.int .i64 0,.int .i64 4]|some m=>.tuple #[.int .i64 ((m+1:Nat):Int),.int .i64 0]
theorem Q5 (w:World) (A:Option Addr) (c n j:Nat) (h2:j<=c):(Instr.sliceAt 72 (.slice A n c) none (some (.int .i64 j)) none).run prog w=.ok (.slice A j c) w:=by
 rw[DU _ _ _ _ _ _ κ,run_slice_h _ _ _ _ _ κ .i64 (j:Int) ω ω];have hs:(sizeOf (prog.elem 72)).run prog w=.ok 1 w:=κ
 rw[hs]
 have e:∀A:Option Addr,A.map (fun x=>x.add 0)=A:=fun A=>by
  cases A with
  | none=>rfl
  | some x=>simp[Addr.add]
 simp[Result.andThen,sliced,e]
end Go.Proofs.YtjjbaehamplnaaaGreat
namespace Go.Proofs.YtjjbaehamplnaaaGreat.Fl
open Ieee
def fl (n:Int):Nat:=floatOfInt .f64 n
def St (d:Datum) (n k:Nat):Prop:=d=.number false (n*2 ^ k) (-(k:Int))
theorem lp:double.leastPlace = -1074:=δ
theorem fb:double.fractionBits=52:=rfl
end Go.Proofs.YtjjbaehamplnaaaGreat.Fl
namespace Go.Proofs.YtjjbaehamplnaaaGreat
def pl (l c:Int):Value:=.complex .f64 (Fl.fl l) (Fl.fl c)
def zx (n:Int):Prop:=1<=n/\n<=1073741824
theorem zx.in {n:Int} (h:zx n):0<=n/\n<=1073741824:=by unfold zx at h;omega
def Kp (l c m d:Int):Bool:=decide (l<m)||(decide (l=m)&&decide (c<d))
theorem SU (l c:Int) (w:World) (hl:zx l) (hc:zx c) :
  Calls prog 166 #[.int .i64 l,.int .i64 c] w fun e w'=>e=.returned (.complex .f64 (Fl.fl l) (Fl.fl c))/\w=w':=by
 have C2:∀n w,(convert 3 264 (.int .i64 n)).run prog w=.ok (.float .f64 (Fl.fl n)) w:=fun n w=>run_convert_int_float w _ _ .i64 .f64 _ (by rw[underlying3];rfl) underlying264;obtain⟨h1,h2⟩:=hl;obtain⟨h3,h4⟩:=hc
 go_enter func166,ntmps166
 go_wp2_with (simp only[C2])
 go_ret
 exact⟨rfl,rfl⟩
namespace Pl
def xM (p:Int×Int) (z:Int):Int×Int:=if z=10 then(p.1+1,1) else(p.1,p.2+1)
def pos (l:List Int):Int×Int:=l.foldl xM (1,1)
theorem lo (l:List Int) (z:Int):pos (l++[z])=xM (pos l) z:=by unfold pos;rw[Ei];rfl
theorem mQ (l:List Int) (k:Nat) (h:k<l.length):pos (l.take (k+1))=xM (pos (l.take k)) (l.getD k 0):=by rw[L.jt l k h,lo]
theorem zB (l:List Int) (k:Nat) (h:k<=l.length):1<=(pos (l.take k)).1/\(pos (l.take k)).1<=1+k/\1<=(pos (l.take k)).2/\(pos (l.take k)).2<=1+k:=by
 induction k with
 | zero=>simp[pos]
 | succ k ih =>
  have:=ih ω
  rw[mQ l k ω];unfold xM;split <;> simp only <;> omega
theorem kJ (l:List Int) (i k:Nat) (h:i<k) (hk:k<=l.length):Kp (pos (l.take i)).1 (pos (l.take i)).2 (pos (l.take k)).1 (pos (l.take k)).2=true:=by
 induction k with
 | zero=>omega
 | succ k ih =>
  rw[mQ l k ω];by_cases e:i=k
  ·subst e;unfold xM Kp;split <;> simp
   all_goals omega
  ·have:=ih ω ω
   unfold Kp at this ⊢;unfold xM;simp only[CR,Bd,Bj]at this ⊢;split <;> simp only <;> omega
end Pl
theorem FK (A:Option Addr) (c B:Nat) (l:List Int) (i:Nat) (w:World) (hr:ij w B A l) (hn:l.length<=2000) (hi:i<=l.length) :
  Calls prog 122 #[.slice A l.length c,.int .i64 i] w fun e w'=>e=.returned (.complex .f64 (Fl.fl (Pl.pos (l.take i)).1) (Fl.fl (Pl.pos (l.take i)).2))/\w=w':=by
 have ae:¬(l.length:Int)<i:=ω
 go_enter func122,ntmps122
 go_wp2
 go_loop [7,5,6] (fun vi vl vc=>∃(k:Nat),k<=i/\vi=.int .i64 k/\vl=.int .i64 (Pl.pos (l.take k)).1/\vc=.int .i64 (Pl.pos (l.take k)).2) (fun vi _ _=>i-(intOf vi).toNat)
 case atStart=>exact⟨0,ω,rfl,rfl,rfl⟩
 case round =>
  obtain⟨k,hk,rfl,rfl,rfl⟩:=hrel;have hb:=Pl.zB l k ω;by_cases af:k<i
  ·obtain⟨g,o,rfl,_,ac⟩:=hr ω;have ad:=ac k ω;have aa:=aA (Pl.mQ l k ω);have ag:k<l.length:=ω
   generalize l.getD k 0=z at *;generalize Pl.pos (l.take k)=p at *;obtain⟨x,y⟩:=p;simp only at hb;obtain⟨b1,b2,b3,b4⟩:=hb;clear ac;by_cases ab:z=10
   ·subst ab;go_wp2
    go_round
    case rel=>exact⟨k+1,ω,ν,by rw[aa.o];rfl,by rw[aa.o];rfl⟩
    case measure=>simp[intOf];omega
   ·have ah:(z==10)=false:=by simpa using ab
    have HN:=aA ab;clear ab;go_wp2
    go_round
    case rel=>exact⟨k+1,ω,ν,by rw[aa.o];unfold Pl.xM;rw[AJ HN.o],by rw[aa.o];unfold Pl.xM;rw[AJ HN.o]⟩
    case measure=>simp[intOf];omega
  ·obtain rfl:k=i:=ω
   clear hr;have HS:=aA (fun w=>SU (Pl.pos (l.take k)).1 (Pl.pos (l.take k)).2 w (by unfold zx;omega) (by unfold zx;omega));clear hb;go_wp2_with fail
   refine(HS.o _).mono ?_;rintro _ w' ⟨rfl,rfl⟩;go_wp2;go_ret
   exact⟨rfl,rfl⟩
namespace Pl
def go (p:Int×Int) (l:List Int):Int×Int:=l.foldl xM p
end Pl
theorem UN:(prog.info? 198).map (fun i=>(i.zero,i.size,i.bytes))=some (some (.agg #[.int .i64 0,.string ⟨#[]⟩,.complex .f64 0 0]),3,40):=κ
def bH (k:Int) (l:List Int):List Int:=if k=1\/k=2 then l else []
def bY:Obj:=.cells #[.int .i64 0,.string ⟨#[]⟩,.complex .f64 0 0] 198
structure fv where
 k:Int
 t:List Int
 o:Nat
inductive Out where
 | ok:List fv->Out
 | bad:Nat->Int->Out
def more (acc:List fv) (k:Nat) (x:T.P3) (l:List Int):List fv:=if x.1=0 then acc else acc++[⟨x.1,bH x.1 (l.take x.2.1),k⟩]
def FA (m:Nat) (x:T.P3):Nat:=if x.1=9 then m+1 else m
def tG:Nat->List Int->Nat->Nat->List fv->Out
 | 0,_,_,_,acc=>.ok acc
 | f+1,l,k,m,acc=>if l.length=0\/m=2 then .ok acc else if(T.piece l).2.2≠0 then .bad k (T.piece l).2.2 else tG f (l.drop (T.piece l).2.1) (k+(T.piece l).2.1) (FA m (T.piece l)) (more acc k (T.piece l) l)
theorem LC (f:Nat) (l:List Int) (k m:Nat) (acc:List fv) (h:l.length=0\/m=2):tG f l k m acc=.ok acc:=by
 cases f with
 | zero=>rfl
 | succ f=>unfold tG;rw[Az h]
theorem LD (f:Nat) (l:List Int) (k m:Nat) (acc:List fv) (h:¬(l.length=0\/m=2)) (hb:(T.piece l).2.2≠0):tG (f+1) l k m acc=.bad k (T.piece l).2.2:=by
 rw[tG,AJ h,Az hb]
theorem MS (f:Nat) (l:List Int) (k m:Nat) (acc:List fv) (h:¬(l.length=0\/m=2)) (hb:(T.piece l).2.2=0):tG (f+1) l k m acc=tG f (l.drop (T.piece l).2.1) (k+(T.piece l).2.1) (FA m (T.piece l)) (more acc k (T.piece l) l):=by
 rw[tG,AJ h,AJ (by simpa using hb)]
def As (l:List Int):Out:=tG (l.length+1) l 0 0 []
def tx (L:List Int) (x:fv):List Value:=[.int .i64 x.k,.string (K.str x.t),.complex .f64 (Fl.fl (Pl.pos (L.take x.o)).1) (Fl.fl (Pl.pos (L.take x.o)).2)]
theorem PJ (L:List Int) (xs:List fv) (i j:Nat) (hi:i<xs.length) (hj:j<3):(xs.flatMap (tx L))[i*3+j]?=(tx L xs[i])[j]?:=by
 induction xs generalizing i with
 | nil=>simp at hi
 | cons x r ih =>
  rw[B7];have hl:(tx L x).length=3:=rfl;cases i with
  | zero=>rw[BQ ω];simp
  | succ i =>
   rw[Cp ω,hl,show(i+1)*3+j-3=i*3+j by omega]
   simpa using ih i (by simpa using hi)
def bZ (L:List Int) (w:World) (base:Nat) (v:Value) (xs:List fv):Prop:=w.ownsRow base 198 3 v xs.length (xs.flatMap (tx L))
theorem bZ.nil (L:List Int) (w:World) (base:Nat):bZ L w base (.slice none 0 0) []:=Dg w base _ _
theorem bZ.alloc {L:List Int} {xs:List fv} (h:bZ L w base v xs) (o:Obj):bZ L (w.alloc o) base v xs:=Dm h o
theorem bZ.drewN {L:List Int} {xs:List fv} (h:bZ L w base v xs) (n:Nat):bZ L (w.drewN n) base v xs:=h
theorem bZ.below {L:List Int} {xs:List fv} (h:bZ L w base v xs) (hb:Below B w w') (hB:w.heap.size<=B):bZ L w' base v xs:=by
 refine⟨h.1,?_⟩;rcases h.2 with h0|⟨g,cap,cur,e,aa,hg,hr⟩
 ·exact .inl h0
 ·exact .inr ⟨g,cap,cur,e,aa,(hb.block g (Aj (Ad.1 hg).1 hB)).trans hg,hr⟩
theorem bZ.form {L:List Int} {xs:List fv} (h:bZ L w base v xs):∃A c,v=.slice A xs.length c/\xs.length<=c/\c<=maxLen:=by
 rcases h.2 with⟨rfl,h0⟩|⟨g,cap,cur,rfl,hb,hg,hn,hm,hs,ht⟩
 ·exact⟨none,0,by rw[h0],ω,by unfold maxLen;omega⟩
 ·exact⟨_,cap,rfl,hn,hm⟩
theorem bZ.addr {L:List Int} {xs:List fv} (h:bZ L w base v xs) (h0:xs.length≠0):∃g c,v=.slice (some ⟨g,0,none⟩) xs.length c/\xs.length<=c/\c<=maxLen/\base<=g/\g<w.heap.size /\
  ∀i j u,i<xs.length->j<3->(xs[i]?.map (tx L)).bind (·[j]?)=some u->w.cell? ⟨g,i*3+j,none⟩=some u:=by
 rcases h.2 with⟨_,h1⟩|⟨g,cap,cur,rfl,hb,hg,hn,hm,hs,ht⟩
 ·exact absurd h1 h0
 ·refine⟨g,cap,rfl,hn,hm,hb,(Ad.1 hg).1,fun i j u hi hj hu=>?_⟩;have hx:xs[i]?=some xs[i]:=AH hi;rw[hx]at hu;have hc:=CQ h (g:=g) rfl (i*3+j) u (by rw[PJ L xs i j hi hj];exact hu);rw[Go.WideShapes.add_plain,BF]at hc;exact hc
theorem Ov {L:List Int} {a:World} {xs:List fv} (h:Below B a w) (ho:bZ L w B v xs) (hg:w.grownBy w' v.ownBlock) (hs:B<=w.heap.size):Below B a w' :=
 h.grown hg hs (fun k e=>(Br ho k e).1)
theorem Tq {rest:List Oper} {o:Oper} {a:Act} {Q:Exit->Act->World->Prop} (ac:o.guard=none) (s x:Operand) (t:TypeId) (ho:o.op=.call {callee:=.builtin .append,args:=#[s,x],argTypes:=#[t,t]}) (ht:prog.underlying t=some (.slice 198)) (L:List Int) (base:Nat) (v:Value) (xs:List fv) (hs:a.eval s=v) (ab:bZ L w base v xs) (g c:Nat) (y:fv) (hx:a.eval x=.slice (some ⟨g,0,none⟩) 1 c) (hz:∀j u,(tx L y)[j]?=some u->w.cell? ⟨g,j,none⟩=some u) (ad:xs.length<=1000000) (aa:base<=w.heap.size) (hK:∀v' w',bZ L w' base v' (xs++[y])->w.grownBy w' v.ownBlock->wpList prog ops Q rest (a.put o.dst v') w') :
  wpList prog ops Q (o::rest) a w:=by
 obtain⟨i,hi,ae,af,ag⟩:=CF UN;refine Dp w ac s x t ho base 198 i _ 3 40 ht hi ae af ag rfl δ v xs.length (xs.flatMap (tx L)) hs ab ⟨g,0,none⟩ 1 c (tx L y) hx rfl ?_ ?_ (by unfold maxLen;omega) ω aa fun v' w' h1 h2 _=>hK v' w' ?_ h2
 ·intro j u hj;rw[Go.WideShapes.add_plain,BF];exact hz j u hj
 ·intro u hu;simp[tx]at hu;rcases hu with rfl|rfl|rfl <;> rfl
 ·unfold bZ;rw[AZ,BW,Ci];exact h1
namespace Y
inductive ng (α:Type) where
 | ok:α->List fv->ng α
 | bad:Option fv->ng α
def ng.bind {α β:Type} (r:ng α) (f:α->List fv->ng β):ng β:=match r with | .ok a l=>f a l | .bad p=>.bad p
theorem rU {α β:Type} (a:α) (l:List fv) (f:α->List fv->ng β):(ng.ok a l).bind f=f a l:=rfl
structure jL where
 k:Int
 ns:List fv
structure iu where
 l:fv
 r:List fv
 p:Option fv
def is (ks:List Int):List fv->Bool
 | []=>false
 | t::_=>ks.contains t.k
def take (ks:List Int):List fv->ng fv
 | []=>.bad none
 | t::r=>if ks.contains t.k then .ok t r else .bad (some t)
def isRef (t:fv):Bool:=[(1:Int),2].contains t.k
def decl (ts:List fv):ng jL:=(take [3,4,5,6,7] ts).bind fun t r=>if t.k=7 then(take [1] r).bind fun n r=>.ok ⟨7,[n]⟩ r else(take [1,2] r).bind fun n r=>.ok ⟨t.k,n::r.takeWhile isRef⟩ (r.dropWhile isRef)
def decls:Nat->List jL->List fv->ng (List jL)
 | 0,acc,ts=>.ok acc ts
 | f+1,acc,ts=>if is [9] ts then .ok acc ts else(decl ts).bind fun d r=>decls f (acc++[d]) r
def qc (left:fv) (rs r:List fv):ng iu:=if is [8] r then(take [8] r).bind fun _ r=>(take [1,2] r).bind fun p r=>.ok ⟨left,rs,some p⟩ r else .ok ⟨left,rs,none⟩ r
def gu (left:fv) (ts:List fv):ng iu:=qc left (ts.takeWhile isRef) (ts.dropWhile isRef)
def alts:Nat->fv->List iu->List fv->ng (List iu)
 | 0,_,acc,ts=>.ok acc ts
 | f+1,left,acc,ts=>(gu left ts).bind fun p r=>(take [11,12] r).bind fun t r=>if t.k=11 then alts f left (acc++[p]) r else .ok (acc++[p]) r
def group (acc:List iu) (ts:List fv):ng (List iu):=(take [1] ts).bind fun left r=>(take [10] r).bind fun _ r=>alts (r.length+1) left acc r
def NB:Nat->List iu->List fv->ng (List iu)
 | 0,acc,ts=>.ok acc ts
 | f+1,acc,ts=>if ts.length≠0/\is [9] ts=false then(group acc ts).bind fun ps r=>NB f ps r else .ok acc ts
def NO (ts:List fv):ng Unit:=if ts.length=0 then .ok () ts else(take [] ts).bind fun _ r=>.ok () r
def tail (ts:List fv):ng Unit:=if is [9] ts then(take [9] ts).bind fun _ r=>NO r else NO ts
def source (ts:List fv):ng (List jL×List iu):=(decls (ts.length+1) [] ts).bind fun ds r=>(take [9] r).bind fun _ r=>(group [] r).bind fun ps r=>(NB (r.length+1) ps r).bind fun ps r=>(tail r).bind fun _ r=>.ok (ds,ps) r
theorem take_cons (ks:List Int) (x:fv) (xs:List fv):take ks (x::xs)=if ks.contains x.k then .ok x xs else .bad (some x):=rfl
theorem gH {ts:List fv} {t:fv} {r:List fv} (h:take ks ts=.ok t r):ts=t::r/\ks.contains t.k=true:=by
 cases ts with
 | nil=>cases h
 | cons x xs =>
  rw[take_cons]at h;by_cases hx:ks.contains x.k=true
  ·rw[Az hx]at h;injection h with h1 h2;subst h1 h2;exact⟨rfl,hx⟩
  ·rw[AJ hx]at h;cases h
theorem se {ts:List fv} (h:is ks ts=true):∃t r,ts=t::r/\take ks ts=.ok t r/\ks.contains t.k=true:=by
 cases ts with
 | nil=>cases h
 | cons x xs=>exact⟨x,xs,rfl,by rw[take_cons,Az (show ks.contains x.k=true from h)],h⟩
theorem uZ {ts:List fv} (h:is [1,2] ts=false):ts.takeWhile isRef=[]/\ts.dropWhile isRef=ts:=by
 cases ts with
 | nil=>exact⟨rfl,rfl⟩
 | cons t r =>
  have h':isRef t=false:=h;rw[List.takeWhile_cons,List.dropWhile_cons,h'];exact⟨rfl,rfl⟩
theorem fx {α β:Type} {x:ng α} {f:α->List fv->ng β} {b:β} {r:List fv} (h:x.bind f=.ok b r):∃a m,x=.ok a m/\f a m=.ok b r:=by
 cases x with
 | ok a m=>exact⟨a,m,rfl,h⟩
 | bad p=>cases h
end Y
namespace Gm
inductive R (α:Type) where
 | ok:α->R α
 | bad:fv->Int->R α
def R.bind {α β:Type} (r:R α) (f:α->R β):R β:=match r with | .ok a=>f a | .bad x e=>.bad x e
theorem R.rU {α β:Type} (a:α) (f:α->R β):(R.ok a).bind f=f a:=rfl
theorem R.bind_eq {α β:Type} {x:R α} {f:α->R β} {b:β} (h:x.bind f=.ok b):∃a,x=.ok a/\f a=.ok b:=by
 cases x with
 | ok a=>exact⟨a,rfl,h⟩
 | bad x e=>cases h
def put (ts:List Tm) (x:fv):R (List Tm×Int) :=
 if 0<=find (names ts) x.t then .ok (ts,find (names ts) x.t) else if ts.length=24 then .bad x 5 else .ok (ts++[⟨x.t,0,0⟩],ts.length)
structure S1 where
 ts:List Tm
 tk:List (List Int)
 st:Option fv
 lv:Int
def mB (k:Int) (S:S1) (x:fv):R S1 :=
 if k=7 then(if S.st.isSome then .bad x 7 else .ok {S with st:=some x})
 else if k=3 then(if x.t∈S.tk then .bad x 7 else(put S.ts x).bind fun p=>.ok {S with ts:=p.1,tk:=S.tk++[x.t]})
 else if 0<=find (names S.ts) x.t/\0<(S.ts.map Tm.lv).getD (find (names S.ts) x.t).toNat 0 then .bad x 7
 else(put S.ts x).bind fun p=>.ok {S with ts:=p.1.modify p.2.toNat fun t=>⟨t.nm,S.lv,k-3⟩}
def je (k:Int):S1->List fv->R S1
 | S,[]=>.ok S
 | S,x::r=>(mB k S x).bind fun S=>je k S r
def up (k:Int) (S:S1):S1:=if k=3\/k=7 then S else {S with lv:=S.lv+1}
def decls:S1->List Y.jL->R S1
 | S,[]=>.ok S
 | S,d::r=>(je d.k (up d.k S) d.ns).bind fun S=>decls S r
def lS (ts:List Tm) (ns:List (List Int)) (x:fv):R (List (List Int)) :=
 if 0<=find (names ts) x.t then .bad x 7 else if 0<=find ns x.t then .ok ns else if ns.length=16 then .bad x 5 else .ok (ns++[x.t])
def kE (ts:List Tm):List (List Int)->List Y.iu->R (List (List Int))
 | ns,[]=>.ok ns
 | ns,p::r=>(lS ts ns p.l).bind fun ns=>kE ts ns r
def sym (ts:List Tm) (x:fv):R (List Tm×Int) :=
 if 0<=find (names ts) x.t\/T.isLit x.t=true\/x.t=[101,114,114,111,114] then put ts x else .bad x 6
def tj (ns:List (List Int)) (ts:List Tm) (x:fv):R (List Tm×Int):=if 0<=find ns x.t then .ok (ts,-1-find ns x.t) else sym ts x
def ti (ns:List (List Int)) (ts:List Tm) (x:fv):R (List Tm×Int):=if 0<=find ns x.t then .bad x 6 else sym ts x
def jC (ns:List (List Int)):List Tm->List Int->Int->List fv->R (List Tm×List Int×Int)
 | ts,acc,p,[]=>.ok (ts,acc,p)
 | ts,acc,p,x::r=>if acc.length=6 then .bad x 5 else(tj ns ts x).bind fun q=>jC ns q.1 (acc++[q.2]) (if 0<=q.2 then q.2 else p) r
def nH (ns:List (List Int)) (ts:List Tm) (rs:List Rl) (p:Y.iu):R (List Tm×List Rl) :=
 if rs.length=40 then .bad p.l 5 else(jC ns ts [] (-1) p.r).bind fun q=>match p.p with
  | none=>.ok (q.1,rs++[⟨find ns p.l.t,q.2.1,q.2.2⟩])
  | some x=>(ti ns q.1 x).bind fun y=>.ok (y.1,rs++[⟨find ns p.l.t,q.2.1,y.2⟩])
def lT (ns:List (List Int)):List Tm->List Rl->List Y.iu->R (List Tm×List Rl)
 | ts,rs,[]=>.ok (ts,rs)
 | ts,rs,p::r=>(nH ns ts rs p).bind fun q=>lT ns q.1 q.2 r
def start (ns:List (List Int)):Option fv->R Int
 | none=>.ok 0
 | some x=>if 0<=find ns x.t then .ok (find ns x.t) else .bad x 8
def build (ds:List Y.jL) (ps:List Y.iu):R Gr :=
 (decls ⟨[],[],none,0⟩ ds).bind fun S=>(kE S.ts [] ps).bind fun ns=>(lT ns S.ts [] ps).bind fun q=>(start ns S.st).bind fun z=>.ok ⟨q.1,ns,q.2,z⟩
theorem Jv (ts:List Tm):(names ts).length=ts.length:=by simp[names]
theorem ru {ts ts':List Tm} {x:fv} {n:Int} (h:put ts x=.ok (ts',n)):(∃j:Nat,find (names ts) x.t=(j:Int)/\ts'=ts/\n=(j:Int)/\∃hj:j<ts.length,(ts[j]).nm=x.t)\/(x.t ∉ names ts/\ts'=ts++[⟨x.t,0,0⟩]/\n=(ts.length:Int)/\ts.length≠24):=by
 unfold put at h;split at h
 ·rename_i h0
  injection h with h;injection h with h1 h2;obtain⟨i,e,hi,hs⟩:=Rt h0;rw[Jv]at hi;exact .inl ⟨i,e,h1.symm,by rw[<-h2,e],hi,by simpa[names] using hs⟩
 ·rename_i h0
  split at h
  ·cases h
  ·rename_i aa
   injection h with h;injection h with h1 h2;exact .inr ⟨Fu.1 ω,h1.symm,h2.symm,aa⟩
theorem mem_modify {l:List Tm} {f:Tm->Tm} {t:Tm} (h:t∈l.modify n f):t∈l \/ ∃hn:n<l.length,t=f l[n]:=by
 obtain⟨i,hi,rfl⟩:=BG h;rw[EZ]at hi;rw[List.getElem_modify];split
 ·rename_i e;subst e;exact .inr ⟨hi,rfl⟩
 ·exact .inl (AD _)
theorem I1:∀(L:Nat) (ts:List Tm),(∀n:Nat,1<=n->n<=L->∃t∈ts,t.lv=(n:Int))->L<=ts.length
 | 0,_,_=>Bb _
 | L+1,ts,h=>by
  obtain⟨t,ht,e⟩:=h (L+1) ω ω;obtain⟨a,b,rfl⟩:=List.append_of_mem ht
  have:=I1 L (a++b) (fun n h1 h2=>by
   obtain⟨u,hu,eu⟩:=h n h1 ω;refine⟨u,?_,eu⟩;simp only[Bs,BB]at hu ⊢;rcases hu with q|q|q
   ·exact .inl q
   ·subst q;omega
   ·exact .inr q)
  simp at this ⊢;omega
theorem JF {n w:Int} (hw:w≠0):∀(ts:List Tm) (way:Int),(∀t∈ts,t.lv=n->t.wy=w)->way=0\/way=w->way=w\/(∃t∈ts,t.lv=n)->nh n ts way=true
 | [],way,_,_,h=>by
  unfold nh;rcases h with h|⟨t,ht,_⟩
  ·subst h;simpa using hw
  ·simp at ht
 | t::r,way,h1,h2,h3=>by
  rw[nh];by_cases hl:t.lv=n
  ·have e:=h1 t (Bn ..) hl;rw[AJ (show ¬t.lv≠n from fun q=>q hl),AJ (show ¬(way≠0/\way≠t.wy) from fun q=>by rcases h2 with p|p;exact q.1 p;exact q.2 (p.trans e.symm))];exact JF hw r t.wy (fun u hu=>h1 u (Bq _ hu)) (.inr e) (.inl e)
  ·rw[Az hl];refine JF hw r way (fun u hu=>h1 u (Bq _ hu)) h2 ?_;rcases h3 with h3|⟨u,hu,eu⟩
   ·exact .inl h3
   ·rcases BB.1 hu with q|q
    ·subst q;exact absurd eu hl
    ·exact .inr ⟨u,q,eu⟩
theorem Lh {l:List (List Int)} (hn:l.Nodup) (i:Nat) (hi:i<l.length):find l l[i]=(i:Int) :=
 mF i hi rfl fun k hk=>fun e=>Da.1 hn k i ω hi hk e
def ya (n:Nat):List Int->Int->Bool
 | [],top=>top==n-1
 | l::r,top=>if l<0\/top+1<l then false else ya n r (if top<l then l else top)
theorem pN {ts:List Tm} {x:fv} (h:lS ts ns x=.ok ns'):(ns'=ns/\0<=find ns x.t)\/(ns'=ns++[x.t]/\x.t ∉ ns/\x.t ∉ names ts/\ns.length≠16):=by
 unfold lS at h;split at h
 ·cases h
 ·rename_i h1
  split at h
  ·rename_i h2
   injection h with h;exact .inl ⟨h.symm,h2⟩
  ·rename_i h2
   split at h
   ·cases h
   ·rename_i h3
    injection h with h;exact .inr ⟨h.symm,Fu.1 ω,Fu.1 ω,h3⟩
theorem KU (G:Gr):∀(rs:List Rl) (top:Int),(∀r∈rs,gu G r=true)->ya G.ns.length (rs.map Rl.l) top=true->rules G rs top=true
 | [],_,_,h=>h
 | r::rs,top,hr,h=>by
  rw[Bw,ya]at h;rw[rules];split at h
  ·cases h
  ·rename_i h1
   rw[AJ (by rw[hr r (Bn ..)];simp;omega)];exact KU G rs _ (fun y hy=>hr y (Bq _ hy)) h
theorem ke:∀(g:Nat) (l:List Int),l.Nodup->(∀x∈l,1<=x/\x<=g)->l.length<=g/\(l.length=g->∀n:Nat,1<=n->n<=g->(n:Int)∈l)
 | 0,l,_,hb=>by
  have:l=[]:=by
   rcases l with _|⟨x,r⟩
   ·rfl
   ·have:=hb x σ;omega
  subst this;exact⟨Af _,fun _ n h1 h2=>by omega⟩
 | g+1,l,hn,hb=>by
  by_cases hm:((g+1:Nat):Int)∈l
  ·have hl:=List.length_erase_of_mem hm;have ab:0<l.length:=List.length_pos_of_mem hm
   obtain⟨h1,h2⟩:=ke g (l.erase ((g+1:Nat):Int)) (hn.erase _) (fun x hx=>by
    have aa:=(hn.mem_erase_iff).1 hx
    have:=hb x aa.2
    have:=aa.1
    omega)
   refine⟨ω,fun e n q1 q2=>?_⟩;by_cases hg:n=g+1
   ·subst hg;exact hm
   ·exact Bv (h2 ω n q1 ω)
  ·obtain⟨h1,_⟩:=ke g l hn (fun x hx=>by
    have:=hb x hx
    have:x≠((g+1:Nat):Int):=fun e=>hm (e▸hx)
    omega)
   exact⟨ω,fun e=>by omega⟩
structure tV (ts:List Tm):Prop where
 a:∀t∈ts,sR t=true
 b:∀t∈ts,∀u∈ts,0<t.lv->t.lv=u.lv->t.wy=u.wy
 c:∀t∈ts,∀n:Nat,1<=n->(n:Int)<=t.lv->∃u∈ts,u.lv=(n:Int)
theorem Ix (t:Tm):sR t=true↔0<=t.lv/\0<=t.wy/\t.wy<=3/\(t.lv=0↔t.wy=0):=by
 unfold sR;by_cases h0:t.wy=0
 ·rw[Az h0];simp only[BP];omega
 ·rw[AJ h0];by_cases h1:t.wy=1\/t.wy=2\/t.wy=3
  ·rw[Az h1];simp only[Bj];omega
  ·rw[AJ h1];simp only[DL,false_iff];omega
structure Inv (pre:List Tm) (m:List (Int×Int)) (g:Int):Prop where
 n:(m.map Prod.fst).Nodup
 f:∀t∈pre,0<t.lv->Mw.fH m t.lv=some t.wy
 r:∀l w,Mw.fH m l=some w->0<l/\∃t∈pre,t.lv=l/\t.wy=w
 a:∀t∈pre,sR t=true
 g0:0<=g
 g1:∀t∈pre,t.lv<=g
 g2:g=0 \/ ∃t∈pre,t.lv=g
theorem Inv.nil:Inv [] [] 0:=⟨σ,σ,fun _ _ h=>by simp[Mw.fH]at h,σ,Int.le_refl _,σ,.inl rfl⟩
theorem Inv.key {pre:List Tm} {m:List (Int×Int)} {g:Int} (h:Inv pre m g) {x:Int} (hx:x∈m.map Prod.fst):∃w,Mw.fH m x=some w:=by
 obtain⟨p,hp,rfl⟩:=Bo.1 hx;exact⟨p.2,Mw.my h.n hp⟩
theorem Inv.next {pre:List Tm} {m:List (Int×Int)} {g:Int} {t:Tm} (h:Inv pre m g) (ha:sR t=true) (hc:¬((Mw.fH m t.lv).isSome=true/\(Mw.fH m t.lv).getD 0≠t.wy)):Inv (pre++[t]) (yN m t) (max g t.lv):=by
 have hl:=((Ix t).1 ha).1;have b:∀u,u∈pre++[t]↔u∈pre\/u=t:=fun u=>by simp
 have ac:=h.g0
 have d:0<=max g t.lv/\(∀u∈pre++[t],u.lv<=max g t.lv)/\(max g t.lv=0 \/ ∃u∈pre++[t],u.lv=max g t.lv):=by
  refine⟨ω,fun u hu=>?_,?_⟩
  ·rcases(b u).1 hu with q|rfl
   ·have:=h.g1 u q;omega
   ·omega
  ·by_cases ad:g<=t.lv
   ·exact .inr ⟨t,(b t).2 (.inr rfl),ω⟩
   ·rcases h.g2 with q|⟨u,hu,e⟩
    ·omega
    ·exact .inr ⟨u,(b u).2 (.inl hu),ω⟩
 have aa:∀u∈pre++[t],sR u=true:=fun u hu=>by
  rcases(b u).1 hu with q|rfl
  ·exact h.a u q
  ·exact ha
 unfold yN;by_cases hp:0<t.lv
 ·rw[Az hp];cases hq:Mw.fH m t.lv with
  | none =>
   rw[Az rfl];refine⟨?_,?_,?_,aa,d.1,d.2.1,d.2.2⟩
   ·rw[Bi,Cz];refine⟨h.n,σ,fun x hx y hy e=>?_⟩;simp only[Bw,Dh,AW]at hy;obtain⟨w,hw⟩:=h.key hx;rw[e,hy,hq]at hw;cases hw
   ·intro u hu h0;rw[Mw.kS hq];rcases(b u).1 hu with q|rfl
    ·have:=h.f u q h0
     by_cases e:t.lv=u.lv
     ·rw[<-e,hq]at this;cases this
     ·rw[AJ e];exact this
    ·rw[Az rfl]
   ·intro l w hw;rw[Mw.kS hq]at hw;by_cases e:t.lv=l
    ·rw[Az e]at hw;injection hw with hw;exact⟨ω,t,(b t).2 (.inr rfl),e,hw⟩
    ·rw[AJ e]at hw;obtain⟨h1,u,hu,h2⟩:=h.r l w hw;exact⟨h1,u,(b u).2 (.inl hu),h2⟩
  | some w =>
   rw[AJ σ];have ab:w=t.wy:=BX fun e=>hc (by rw[hq];exact⟨rfl,e⟩);refine⟨h.n,?_,?_,aa,d.1,d.2.1,d.2.2⟩
   ·intro u hu h0;rcases(b u).1 hu with q|rfl
    ·exact h.f u q h0
    ·rw[hq,ab]
   ·intro l w hw;obtain⟨h1,u,hu,h2⟩:=h.r l w hw;exact⟨h1,u,(b u).2 (.inl hu),h2⟩
 ·rw[AJ hp];refine⟨h.n,?_,?_,aa,d.1,d.2.1,d.2.2⟩
  ·intro u hu h0;rcases(b u).1 hu with q|rfl
   ·exact h.f u q h0
   ·exact absurd h0 hp
  ·intro l w hw;obtain⟨h1,u,hu,h2⟩:=h.r l w hw;exact⟨h1,u,(b u).2 (.inl hu),h2⟩
theorem MW:∀(r pre:List Tm) (m:List (Int×Int)) (g:Int),Inv pre m g->(sF r m g=true↔tV (pre++r))
 | [],pre,m,g,h=>by
  rw[CG,sF,BP]
  have aa:∀x∈m.map Prod.fst,1<=x/\x<=(g.toNat:Int):=fun x hx=>by
   obtain⟨w,hw⟩:=h.key hx;obtain⟨h1,u,hu,h2,_⟩:=h.r x w hw
   have:=h.g1 u hu
   have:=h.g0
   omega
  obtain⟨p1,p2⟩:=ke g.toNat (m.map Prod.fst) h.n aa;rw[Bh]at p1 p2;have ac:=h.g0
  constructor
  ·intro e;refine⟨h.a,fun t ht u hu h0 e'=>?_,fun t ht n q1 q2=>?_⟩
   ·have a1:=h.f t ht h0;have a2:=h.f u hu ω;rw[e',a2]at a1;injection a1 with a1;exact a1.symm
   ·have:=h.g1 t ht
    have hk:=p2 ω n q1 ω;obtain⟨w,hw⟩:=h.key hk;obtain⟨_,u,hu,h2,_⟩:=h.r _ w hw;exact⟨u,hu,h2⟩
  ·intro ab;rcases h.g2 with q|⟨t,ht,e⟩
   ·omega
   ·have:g.toNat<=(m.map Prod.fst).length:=by
     have hh:∀n:Nat,1<=n->n<=g.toNat->∃t∈m.map (fun p=>(⟨[],p.1,0⟩:Tm)),t.lv=(n:Int):=fun n q1 q2=>by
      obtain⟨u,hu,e2⟩:=ab.c t ht n q1 ω
      have:=h.f u hu ω
      rw[e2]at this;exact⟨_,Bo.2 ⟨_,Mw.og this,rfl⟩,rfl⟩
     have:=I1 g.toNat _ hh
     simpa using this
    rw[Bh]at this;omega
 | t::r,pre,m,g,h=>by
  rw[sF];by_cases ha:sR t=false
  ·rw[Az ha];simp only[DL,false_iff];intro q
   have:=q.a t σ
   rw[ha]at this;cases this
  ·rw[AJ ha];have ha:sR t=true:=by simpa using ha
   by_cases hc:(Mw.fH m t.lv).isSome=true/\(Mw.fH m t.lv).getD 0≠t.wy
   ·rw[Az hc];simp only[DL,false_iff];intro q;cases hq:Mw.fH m t.lv with
    | none=>rw[hq]at hc;simp at hc
    | some w =>
     rw[hq]at hc;obtain⟨h1,u,hu,h2,h3⟩:=h.r _ w hq
     have:=q.b u (by simp[hu]) t σ ω h2
     exact hc.2 (by simp only[Bu];omega)
   ·rw[AJ hc,MW r (pre++[t]) _ _ (h.next ha hc),Cd,ED]
theorem Iv {n:Int}:∀(ts:List Tm) (way:Int),(∀t∈ts,t.lv=n->t.wy≠0)->nh n ts way=true->(way≠0 \/ ∃t∈ts,t.lv=n)/\∃w,(way=0\/way=w)/\∀t∈ts,t.lv=n->t.wy=w
 | [],way,_,h=>by
  rw[nh]at h
  have:way≠0:=by simpa using h
  exact⟨.inl this,way,.inr rfl,σ⟩
 | t::r,way,hn,h=>by
  rw[nh]at h;by_cases h1:t.lv≠n
  ·rw[Az h1]at h;obtain⟨a,w,b,c⟩:=Iv r way (fun u hu=>hn u (by simp[hu])) h;refine⟨?_,w,b,fun u hu e=>?_⟩
   ·rcases a with a|⟨u,hu,e⟩
    ·exact .inl a
    ·exact .inr ⟨u,by simp[hu],e⟩
   ·rcases BB.1 hu with rfl|hu
    ·exact absurd e h1
    ·exact c u hu e
  ·rw[AJ h1]at h;have h1:t.lv=n:=BX h1;by_cases h2:way≠0/\way≠t.wy
   ·rw[Az h2]at h;cases h
   ·rw[AJ h2]at h;obtain⟨a,w,b,c⟩:=Iv r t.wy (fun u hu=>hn u (by simp[hu])) h
    have hw:t.wy=w:=by
     rcases b with b|b
     ·exact absurd b (hn t σ h1)
     ·exact b
    refine⟨.inr ⟨t,σ,h1⟩,w,?_,fun u hu e=>?_⟩
    ·by_cases aa:way=0
     ·exact .inl aa
     ·refine .inr (BX fun q=>h2 ⟨aa,fun e=>q (e.trans hw)⟩)
    ·rcases BB.1 hu with rfl|hu
     ·exact hw
     ·exact c u hu e
def N9 (ts:List Tm):Prop:=∀t∈ts,0<=t.lv/\t.lv<=24/\0<=t.wy/\t.wy<=3/\(t.lv=0↔t.wy=0)/\∀n:Nat,n<t.lv.toNat->nh ((n+1:Nat):Int) ts 0=true
theorem Ns {ts:List Tm} (hl:ts.length<=24):tV ts↔N9 ts:=by
 constructor
 ·intro h t ht;have ha:=(Ix t).1 (h.a t ht);have aa:t.lv.toNat<=ts.length:=I1 t.lv.toNat ts fun n q1 q2=>h.c t ht n q1 ω;refine⟨ha.1,ω,ha.2.1,ha.2.2.1,ha.2.2.2,fun n hn=>?_⟩;obtain⟨u,hu,e⟩:=h.c t ht (n+1) ω ω;have ab:=(Ix u).1 (h.a u hu);exact JF (w:=u.wy) ω ts 0 (fun x hx ex=>(h.b u hu x hx ω ω).symm) (.inl rfl) (.inr ⟨u,hu,e⟩)
 ·intro h;refine⟨fun t ht=>(Ix t).2 ?_,fun t ht u hu h0 e=>?_,fun t ht n q1 q2=>?_⟩
  ·obtain⟨h1,h2,h3,h4,h5,_⟩:=h t ht;exact⟨h1,h3,h4,h5⟩
  ·obtain⟨h1,h2,h3,h4,h5,h6⟩:=h t ht;have hl:=h6 (t.lv.toNat-1) ω;have hn:((t.lv.toNat-1+1:Nat):Int)=t.lv:=ω
   rw[hn]at hl;obtain⟨_,w,_,c⟩:=Iv ts 0 (fun x hx ex q=>by have:=(h x hx).2.2.2.2.1;omega) hl;rw[c t ht rfl,c u hu e.symm]
  ·obtain⟨h1,h2,h3,h4,h5,h6⟩:=h t ht;have hl:=h6 (n-1) ω;have hn:((n-1+1:Nat):Int)=(n:Int):=ω
   rw[hn]at hl;obtain⟨a,_⟩:=Iv ts 0 (fun x hx ex q=>by have:=(h x hx).2.2.2.2.1;omega) hl;rcases a with a|a
   ·exact absurd rfl a
   ·exact a
theorem K2 {l:List (List Int)} (h:∀i (hi:i<l.length),find l l[i]=(i:Int)):l.Nodup:=by
 rw[BZ,Da];intro i j hi hj aa e;have h1:=h i hi;have h2:=h j hj;rw[e,h2]at h1;omega
theorem fK (ts:List Tm):gW ts=true↔ts.length<=24/\(∀t∈ts,named t.nm=true)/\(names ts).Nodup/\N9 ts:=by
 unfold gW;rw[Bd,Bj,Bj];have ab:(names ts).length=ts.length:=Jv ts;have aa:∀i (h:i<ts.length),(names ts)[i]'ω=ts[i].nm:=fun i h=>by simp[names]
 constructor
 ·rintro⟨h1,h2⟩
  have h3:∀i (h:i<ts.length),named ts[i].nm=true/\find (names ts) ts[i].nm=(i:Int)/\0<=ts[i].lv/\ts[i].lv<=24/\0<=ts[i].wy/\ts[i].wy<=3/\(ts[i].lv=0↔ts[i].wy=0)/\∀n:Nat,n<ts[i].lv.toNat->nh ((n+1:Nat):Int) ts 0=true:=fun i h=>by
   have:=h2 i h
   unfold iV at this;simp only[Bd,Bj,BP]at this;obtain⟨⟨⟨⟨⟨⟨⟨a,b⟩,c⟩,d⟩,e⟩,f⟩,g⟩,k⟩:=this;refine⟨a,b,c,d,e,f,?_,k⟩;rw[Bx,BP,BP]at g;exact g
  refine⟨h1,fun t ht=>?_,K2 fun i hi=>?_,fun t ht=>?_⟩
  ·obtain⟨i,hi,rfl⟩:=BG ht;exact(h3 i hi).1
  ·rw[aa i ω];exact(h3 i ω).2.1
  ·obtain⟨i,hi,rfl⟩:=BG ht;exact(h3 i hi).2.2
 ·rintro⟨h1,h2,h3,h4⟩;refine⟨h1,fun i hi=>?_⟩;unfold iV;simp only[Bd,Bj,BP];obtain⟨c,d,e,f,g,k⟩:=h4 _ (AD hi);refine⟨⟨⟨⟨⟨⟨⟨h2 _ (AD hi),?_⟩,c⟩,d⟩,e⟩,f⟩,?_⟩,k⟩
  ·rw[<-aa i hi];exact Lh h3 i ω
  ·rw[Bx,BP,BP];exact g
theorem fF (G:Gr):jT G=true↔1<=G.ns.length/\G.ns.length<=16/\(∀s∈G.ns,T.isName s=true)/\G.ns.Nodup/\∀s∈G.ns,s ∉ names G.ts:=by
 unfold jT;rw[Bd,Bd,Bj,Bj,Bj]
 constructor
 ·rintro⟨⟨h1,h2⟩,h3⟩
  have h4:∀i (h:i<G.ns.length),T.isName G.ns[i]=true/\find G.ns G.ns[i]=(i:Int)/\find (names G.ts) G.ns[i]<0:=fun i h=>by
   have:=h3 i h
   unfold nr zk term at this;simp only[Bd,Bj,BP]at this;exact⟨this.1.1,this.1.2,this.2⟩
  refine⟨h1,h2,fun s hs=>?_,K2 fun i hi=>(h4 i hi).2.1,fun s hs=>?_⟩
  ·obtain⟨i,hi,rfl⟩:=BG hs;exact(h4 i hi).1
  ·obtain⟨i,hi,rfl⟩:=BG hs;exact Fu.1 (h4 i hi).2.2
 ·rintro⟨h1,h2,h3,h4,h5⟩;refine⟨⟨h1,h2⟩,fun i hi=>?_⟩;unfold nr zk term;simp only[Bd,Bj,BP];exact⟨⟨h3 _ (AD hi),Lh h4 i hi⟩,Fu.2 (h5 _ (AD hi))⟩
theorem Ut (G:Gr):p9 G=true↔G.ts.length<=24/\1<=G.ns.length/\G.ns.length<=16/\(∀t∈G.ts,named t.nm=true)/\(∀s∈G.ns,T.isName s=true)/\(names G.ts++G.ns).Nodup:=by
 unfold p9 gZ;simp only[Bd,Bj,B6,Bh];have h:=(Vg [] (names G.ts++G.ns) σ).2;simp only[Ey,BF,CS,AZ,Jv]at h;rw[h]
 constructor
 ·rintro⟨⟨⟨⟨⟨a,b⟩,c⟩,d⟩,e⟩,f⟩;exact⟨a,b,c,d,e,f⟩
 ·rintro⟨a,b,c,d,e,f⟩;exact⟨⟨⟨⟨⟨a,b⟩,c⟩,d⟩,e⟩,f⟩
theorem UU (G:Gr) (x:Rl):tR G x=gu G x:=by
 rw[Bx];unfold tR gu
 have hn:x.r.any (tF G)=false ↔ ∀z∈x.r,has G z=true:=by
  rw[EF];unfold tF
  constructor
  ·intro h z hz;have:=h z hz;simpa using this
  ·intro h z hz;rw[h z hz];simp
 have ht:x.r.any oo=false ↔ ∀z∈x.r,¬0<=z:=by
  rw[EF];unfold oo
  constructor
  ·intro h z hz;simpa using h z hz
  ·intro h z hz;simpa using h z hz
 simp only[Bd,Bj,EG,B6,hn];by_cases hp:x.p = -1
 ·rw[Az hp];simp only[EG,ht,hp,beq_self_eq_true,Bool.and_true,Es]
  constructor
  ·rintro⟨⟨a,b⟩,c⟩;exact⟨⟨⟨a,ω⟩,ω⟩,fun z hz=>⟨b z hz,c z hz⟩⟩
  ·rintro⟨⟨⟨a,_⟩,_⟩,b⟩;exact⟨⟨a,fun z hz=>(b z hz).1⟩,fun z hz=>(b z hz).2⟩
 ·rw[AJ hp];have aa:(x.p == -1)=false:=by simpa using hp
  simp only[aa,EN,and_true,Bd];unfold oo has;rw[Bj]
  constructor
  ·rintro⟨⟨a,b⟩,c,d⟩;rw[Az c,Bj]at d;exact⟨⟨⟨a,ω⟩,d⟩,b⟩
  ·rintro⟨⟨⟨a,b⟩,c⟩,d⟩;have h0:0<=x.p:=ω
   exact⟨⟨a,d⟩,h0,by rw[Az h0,Bj];exact c⟩
theorem NY (G:Gr):∀(rs:List Rl) (top:Int),tQ G rs (top+1)=rules G rs top
 | [],top=>by
  rw[tQ,rules,Bx,BP,BP];omega
 | r::rs,top=>by
  rw[tQ,rules,UU];by_cases h:r.l<0\/top+1<r.l\/gu G r=false
  ·rw[Az h,Az h]
  ·rw[AJ h,AJ h];rw[<-NY G rs]
   congr 1
   by_cases h2:top<r.l
   ·rw[Az h2];omega
   ·rw[AJ h2];omega
theorem u5 (G:Gr):Hp G=right G:=by
 rw[Bx];unfold Hp right tP;have aa:=NY G G.rs (-1);rw[show(-1:Int)+1=0 from rfl]at aa;simp only[Bd,Bj,aa,Ut,fK,fF];have ab:=MW G.ts [] [] 0 Inv.nil;rw[CS]at ab;rw[ab,Cz]
 constructor
 ·rintro⟨⟨⟨⟨⟨a,b,c,d,e,f1,f2,f3⟩,g⟩,h,k⟩,l⟩,m⟩;refine⟨⟨⟨⟨⟨⟨⟨a,d,f1,(Ns a).1 g⟩,b,c,e,f2,fun s hs q=>f3 s q s hs rfl⟩,?_⟩,h⟩,l⟩,m⟩,k⟩;rcases hz:G.rs with _|⟨x,r⟩
  ·rw[hz,rules,BP]at k;omega
  ·simp
 ·rintro⟨⟨⟨⟨⟨⟨⟨a,d,f1,g⟩,b,c,e,f2,f3⟩,_⟩,h⟩,l⟩,m⟩,k⟩;exact⟨⟨⟨⟨⟨a,b,c,d,e,f1,f2,fun s hs q hq ee=>f3 q hq (ee▸hs)⟩,(Ns a).2 g⟩,h,k⟩,l⟩,m⟩
end Gm
theorem zT (v:Value) (G:Gm.Gr) (B:Nat) (w:World) (hg:aT w B v G) (hf:Gm.Fit G) (hB:B<=w.heap.size) :
  Calls prog 35 #[v] w fun e w'=>e=.returned (.bool (Gm.right G))/\β w w':=by
 rw[<-Gm.u5];exact P6 v G B w hg hf hB
namespace Gm
noncomputable def tr (p:Prop):Bool:=@decide p (Classical.propDecidable p)
theorem fV {p:Prop}:tr p=true↔p:=by unfold tr;exact @Cr p (Classical.propDecidable p)
inductive Gn (tm:Bool) (rs:List Rl):Int->Prop
 | mk (x:Rl) (hx:x∈rs) (ht:∀z∈x.r,0<=z->tm=true) (hn:∀z∈x.r,z<0->Gn tm rs (-1-z)):Gn tm rs x.l
def Al (tm:Bool) (rs:List Rl) (r:List Int):Prop:=(∀z∈r,0<=z->tm=true)/\∀z∈r,z<0->Gn tm rs (-1-z)
theorem Gn.of {rs:List Rl} {x:Rl} (hx:x∈rs) (h:Al tm rs x.r):Gn tm rs x.l:=.mk x hx h.1 h.2
theorem Gn.gu {rs:List Rl} (h:Gn tm rs j):∃x∈rs,x.l=j/\Al tm rs x.r:=by
 cases h with
 | mk x hx ht hn=>exact⟨x,hx,rfl,ht,hn⟩
theorem Gn.more {rs rs':List Rl} (hs:∀x∈rs,x∈rs') (h:Gn tm rs j):Gn tm rs' j:=by
 induction h with
 | mk x hx ht _ ih=>exact .mk x (hs x hx) ht ih
inductive Rc (G:Gr):Int->Prop
 | st:Rc G G.st
 | on (x:Rl) (hx:x∈G.rs) (h:Rc G x.l) (hp:Al true G.rs x.r) (z:Int) (hz:z∈x.r) (hn:z<0):Rc G (-1-z)
theorem Al.more {tm:Bool} {rs rs':List Rl} (hs:∀x∈rs,x∈rs') {r:List Int} (h:Al tm rs r):Al tm rs' r:=⟨h.1,fun z hz hn=>(h.2 z hz hn).more hs⟩
theorem Rc.more {G H:Gr} (hs:∀x∈G.rs,x∈H.rs) (he:G.st=H.st) {j:Int} (h:Rc G j):Rc H j:=by
 induction h with
 | st=>rw[he];exact .st
 | on x hx _ hp z hz hn ih=>exact .on x (hs x hx) ih (hp.more hs) z hz hn
noncomputable def gn (tm:Bool) (rs:List Rl) (n:Nat):List Bool:=(List.range n).map fun i:Nat=>tr (Gn tm rs (i:Int))
noncomputable def rc (G:Gr):List Bool:=(List.range G.ns.length).map fun i:Nat=>tr (Rc G (i:Int))
theorem iJ (tm:Bool) (rs:List Rl) (n:Nat):(gn tm rs n).length=n:=by simp[gn]
theorem mR (G:Gr):(rc G).length=G.ns.length:=by simp[rc]
theorem mH (tm:Bool) (rs:List Rl) (n i:Nat) (h:i<n):(gn tm rs n).getD i false=tr (Gn tm rs (i:Int)):=by simp[gn,h]
theorem yn (G:Gr) (i:Nat) (h:i<G.ns.length):(rc G).getD i false=tr (Rc G (i:Int)):=by simp[rc,h]
def Le:List Bool->List Bool->Prop
 | [],[]=>True
 | a::r,b::s=>(a=true->b=true)/\Le r s
 | _,_=>False
theorem Le.refl:∀s,Le s s
 | []=>trivial
 | _::s=>⟨id,Le.refl s⟩
theorem Le.trans:∀ {a b c:List Bool},Le a b->Le b c->Le a c
 | [],[],[],_,_=>trivial
 | _::_,_::_,_::_,h,k=>⟨fun e=>k.1 (h.1 e),h.2.trans k.2⟩
 | [],_::_,_,h,_=>h.elim
 | _::_,[],_,h,_=>h.elim
 | [],[],_::_,_,k=>k.elim
 | _::_,_::_,[],_,k=>k.elim
theorem Le.len:∀ {a b:List Bool},Le a b->a.length=b.length
 | [],[],_=>rfl
 | _::_,_::_,h=>by simp[h.2.len]
 | [],_::_,h=>h.elim
 | _::_,[],h=>h.elim
theorem Le.nj:∀ {a b:List Bool},Le a b->Le b a->a=b
 | [],[],_,_=>rfl
 | x::a,y::b,h,k=>by
  rw[h.2.nj k.2];cases x <;> cases y <;> simp_all [Le]
 | [],_::_,h,_=>h.elim
 | _::_,[],h,_=>h.elim
theorem Le.get:∀ {a b:List Bool} (i:Nat),Le a b->a.getD i false=true->b.getD i false=true
 | [],[],_,_,h=>h
 | _::_,_::_,0,h,e=>h.1 e
 | _::_,_::_,i+1,h,e=>by
  simp only[List.getD_cons_succ]at e ⊢;exact h.2.get i e
 | [],_::_,_,h,_=>h.elim
 | _::_,[],_,h,_=>h.elim
theorem Le.of:∀ {a b:List Bool},a.length=b.length->(∀i,a.getD i false=true->b.getD i false=true)->Le a b
 | [],[],_,_=>trivial
 | x::a,y::b,h,k=>⟨fun e=>k 0 e,Le.of (by simpa using h) fun i e=>by simpa using k (i+1) (by simpa using e)⟩
 | [],_::_,h,_=>by simp at h
 | _::_,[],h,_=>by simp at h
theorem Le.set:∀(s:List Bool) (i:Nat),Le s (s.set i true)
 | [],_=>trivial
 | _::s,0=>⟨fun _=>rfl,Le.refl s⟩
 | _::s,i+1=>⟨id,Le.set s i⟩
def ct (s:List Bool):Nat:=s.count true
theorem Le.ct:∀ {a b:List Bool},Le a b->ct a<=ct b
 | [],[],_=>Af _
 | x::a,y::b,h=>by
  have:=h.2.ct
  unfold Gm.ct at *;cases x <;> cases y <;> simp_all [Le] <;> omega
 | [],_::_,h=>h.elim
 | _::_,[],h=>h.elim
theorem Le.uf:∀ {a b:List Bool},Le a b->Gm.ct b<=Gm.ct a->a=b
 | [],[],_,_=>rfl
 | x::a,y::b,h,k=>by
  have h2:=h.2.ct;have h3:=h.2.uf;unfold Gm.ct at *;cases x <;> cases y <;> simp_all [Le] <;> omega
 | [],_::_,h,_=>h.elim
 | _::_,[],h,_=>h.elim
theorem Vy (s:List Bool):ct s<=s.length:=List.count_le_length
def times (f:List Bool->List Bool):Nat->List Bool->List Bool
 | 0,s=>s
 | n+1,s=>f (times f n s)
theorem iW {f:List Bool->List Bool} (h:∀s,Le s (f s)) (n:Nat) (s:List Bool):Le s (times f n s):=by
 induction n with
 | zero=>exact Le.refl s
 | succ n ih=>exact ih.trans (h _)
theorem Jl {f:List Bool->List Bool} (h:∀s,Le s (f s)) (s:List Bool):f (times f s.length s)=times f s.length s:=by
 have key:∀n,f (times f n s)=times f n s\/n<=ct (times f n s):=by
  intro n;induction n with
  | zero=>exact .inr (Bb _)
  | succ n ih =>
   by_cases hf:f (times f n s)=times f n s
   ·left;show f (f (times f n s))=f (times f n s);rw[hf,hf]
   ·right
    rcases ih with ih|ih
    ·exact absurd ih hf
    ·have h1:=(h (times f n s)).ct;have h2:¬ct (f (times f n s))<=ct (times f n s):=fun hc=>hf ((h _).uf hc).symm
     show n+1<=ct (f (times f n s))
     omega
 rcases key s.length with h1|h1
 ·exact h1
 ·refine((h _).uf ?_).symm
  have:=(iW h s.length s).len
  have h2:=Vy (f (times f s.length s));have h3:=(h (times f s.length s)).len;omega
theorem ib {α:Type} (g:List Bool->α->List Bool) (h:∀s x,Le s (g s x)):∀(xs:List α) (s:List Bool),Le s (xs.foldl g s)
 | [],s=>Le.refl s
 | x::xs,s=>(h s x).trans (ib g h xs _)
theorem Il {α:Type} (g:List Bool->α->List Bool) (h:∀s x,Le s (g s x)):∀(xs:List α) (s:List Bool),xs.foldl g s=s->∀x∈xs,g s x=s
 | [],_,_=>by simp
 | x::xs,s,e=>by
  have h1:Le (g s x) s:=by
   have:=ib g h xs (g s x)
   rw[Dt]at e
   rwa [e]at this
  have h2:g s x=s:=h1.nj (h s x);intro y hy;rcases BB.1 hy with rfl|hy
  ·exact h2
  ·rw[Dt,h2]at e;exact Il g h xs s e y hy
def iv (tm:Bool) (is:List Bool) (r:List Int):Bool:=r.all fun z=>if 0<=z then tm else is.getD (-1-z).toNat false
def lH (tm:Bool) (rs:List Rl) (is:List Bool):Prop:=∀i:Nat,is.getD i false=true->Gn tm rs (i:Int)
def Fk (tm:Bool) (rs:List Rl) (is:List Bool):Prop:=∀x∈rs,iv tm is x.r=true->is.getD x.l.toNat false=true
theorem lH.none (tm:Bool) (rs:List Rl) (n:Nat):lH tm rs (List.replicate n false):=fun i h=>by
 rw[Aw,CO]at h;split at h <;> cases h
theorem lH.all {rs:List Rl} {is:List Bool} (h:lH tm rs is) (e:iv tm is r=true):Al tm rs r:=by
 unfold iv at e;rw[B6]at e;refine⟨fun z hz h0=>?_,fun z hz h0=>?_⟩
 ·have:=e z hz
  rwa [Az h0]at this
 ·have:=e z hz
  rw[AJ ω]at this
  have:=h _ this
  rwa [BH ω]at this
theorem jq (s:List Bool) (i j:Nat) (h:(s.set i true).getD j false=true):s.getD j false=true\/j=i:=by
 by_cases e:i=j
 ·exact .inr e.symm
 ·left
  rwa [Aw,EO e,<-Aw]at h
theorem js (s:List Bool) (i:Nat) (h:i<s.length):(s.set i true).getD i false=true:=by
 simp[Aw,h]
theorem lH.set {rs:List Rl} {is:List Bool} (h:lH tm rs is) {x:Rl} (hx:x∈rs) (h0:0<=x.l) (e:iv tm is x.r=true):lH tm rs (is.set x.l.toNat true):=fun i hi=>by
 rcases jq _ _ _ hi with h1|h1
 ·exact h i h1
 ·subst h1;rw[BH h0];exact Gn.of hx (h.all e)
def ma (n:Nat) (rs:List Rl):Prop:=∀x∈rs,0<=x.l/\x.l<(n:Int)
theorem T0 {rs:List Rl} {is:List Bool} (h:Fk tm rs is) (hj:Gn tm rs j):is.getD j.toNat false=true:=by
 induction hj with
 | mk x hx ht _ ih =>
  refine h x hx ?_;unfold iv;rw[B6];intro z hz;by_cases h0:0<=z
  ·rw[Az h0];exact ht z hz h0
  ·rw[AJ h0];exact ih z hz ω
theorem uk {rs:List Rl} {is:List Bool} (hn:is.length=n) (hs:lH tm rs is) (hc:Fk tm rs is):is=gn tm rs n:=by
 refine Cu (by rw[hn,iJ]) fun i h1 h2=>?_;have e1:is.getD i false=is[i]:=by simp[Aw,h1]
 have e2:(gn tm rs n).getD i false=(gn tm rs n)[i]:=by simp[Aw,h2]
 rw[<-e1,<-e2,mH _ _ _ _ ω];rw[Bx,fV];refine⟨hs i,fun h=>?_⟩
 have:=T0 hc h
 simpa using this
def iw (tm:Bool) (is:List Bool) (x:Rl):List Bool:=if iv tm is x.r=true then is.set x.l.toNat true else is
def jQ (tm:Bool) (rs:List Rl) (is:List Bool):List Bool:=rs.foldl (iw tm) is
theorem kW (tm:Bool) (is:List Bool) (x:Rl):Le is (iw tm is x):=by
 unfold iw;split
 ·exact Le.set _ _
 ·exact Le.refl _
theorem Mi {tm:Bool} {rs:List Rl} {n:Nat} (hl:ma n rs):∀(xs:List Rl) (is:List Bool),(∀x∈xs,x∈rs)->lH tm rs is->lH tm rs (xs.foldl (iw tm) is)
 | [],_,_,h=>h
 | x::xs,is,hx,h=>by
  refine Mi hl xs _ (fun y hy=>hx y (Bq _ hy)) ?_;unfold iw;split
  ·rename_i e
   exact h.set (hx x (Bn ..)) (hl x (hx x (Bn ..))).1 e
  ·exact h
theorem PI {rs:List Rl} (hl:ma n rs) (k:Nat) {is:List Bool} (h:lH tm rs is):lH tm rs (times (jQ tm rs) k is):=by
 induction k with
 | zero=>exact h
 | succ k ih=>exact Mi hl rs _ ι ih
theorem TL {rs:List Rl} (hl:ma n rs) {is:List Bool} (hn:is.length=n) (h:jQ tm rs is=is):Fk tm rs is:=fun x hx e=>by
 have:=Il (iw tm) (kW tm) rs is h x hx
 unfold iw at this;rw[Az e]at this;rw[<-this]
 have:=hl x hx
 exact js _ _ ω
theorem kX {rs:List Rl} (hl:ma n rs):times (jQ tm rs) n (List.replicate n false)=gn tm rs n:=by
 have aa:∀s,Le s (jQ tm rs s):=fun s=>ib _ (kW tm) rs s;have h0:(List.replicate n false).length=n:=σ
 have h1:(times (jQ tm rs) n (List.replicate n false)).length=n:=by rw[<-(iW aa n _).len,h0]
 refine uk h1 (PI hl n (lH.none tm rs n)) (TL hl h1 ?_)
 have:=Jl aa (List.replicate n false)
 rwa [h0]at this
theorem Gn.iO {rs:List Rl} (hl:ma n rs) (h:Gn tm rs j):0<=j/\j<n:=by
 obtain⟨x,hx,rfl,_⟩:=h.gu;exact hl x hx
theorem FL {rs:List Rl} (hl:ma n rs) (h0:0<=j):(gn tm rs n).getD j.toNat false=true↔Gn tm rs j:=by
 constructor
 ·intro h;rcases BM j.toNat n with h1|h1
  ·rw[mH _ _ _ _ h1,fV,BH h0]at h;exact h
  ·rw[Aw,Ch (by rw[iJ];omega)]at h;cases h
 ·intro h
  have:=h.iO hl
  rw[mH _ _ _ _ ω,fV,BH h0];exact h
theorem kR {rs:List Rl} (hl:ma n rs) (r:List Int):iv tm (gn tm rs n) r=true↔Al tm rs r:=by
 constructor
 ·intro e;unfold iv at e;rw[B6]at e;refine⟨fun z hz h0=>?_,fun z hz h0=>?_⟩
  ·have:=e z hz;rwa [Az h0]at this
  ·have:=e z hz
   rw[AJ ω]at this;exact(FL hl ω).1 this
 ·intro h;unfold iv;rw[B6];intro z hz;by_cases h0:0<=z
  ·rw[Az h0];exact h.1 z hz h0
  ·rw[AJ h0];exact(FL hl ω).2 (h.2 z hz ω)
def F6 (n:Nat) (r:List Int):Prop:=∀z∈r,z<0->-1-z<(n:Int)
def FZ (G:Gr) (is:List Bool):Prop:=∀i:Nat,is.getD i false=true->Rc G (i:Int)
def F1 (G:Gr) (is:List Bool):Prop:=is.getD G.st.toNat false=true/\∀x∈G.rs,is.getD x.l.toNat false=true->Al true G.rs x.r->∀z∈x.r,z<0->is.getD (-1-z).toNat false=true
theorem Uw {G:Gr} {is:List Bool} (h:F1 G is) (hj:Rc G j):is.getD j.toNat false=true:=by
 induction hj with
 | st=>exact h.1
 | on x hx _ hp z hz hn ih=>exact h.2 x hx ih hp z hz hn
theorem uX {G:Gr} {is:List Bool} (hn:is.length=G.ns.length) (hs:FZ G is) (hc:F1 G is):is=rc G:=by
 refine Cu (by rw[hn,mR]) fun i h1 h2=>?_;have e1:is.getD i false=is[i]:=by simp[Aw,h1]
 have e2:(rc G).getD i false=(rc G)[i]:=by simp[Aw,h2]
 rw[<-e1,<-e2,yn _ _ ω];rw[Bx,fV];refine⟨hs i,fun h=>?_⟩
 have:=Uw hc h
 simpa using this
def jR (s:List Bool) (z:Int):List Bool:=if z<0 then s.set (-1-z).toNat true else s
def marks (s:List Bool) (r:List Int):List Bool:=r.foldl jR s
theorem Md (s:List Bool) (z:Int):Le s (jR s z):=by
 unfold jR;split
 ·exact Le.set _ _
 ·exact Le.refl _
theorem kZ (s:List Bool) (r:List Int):Le s (marks s r):=ib _ Md r s
theorem Mc:∀(r:List Int) (s:List Bool) (i:Nat),(marks s r).getD i false=true->s.getD i false=true \/ ∃z∈r,z<0/\i=(-1-z).toNat
 | [],_,_,h=>.inl h
 | z::r,s,i,h=>by
  rcases Mc r (jR s z) i h with h1|⟨y,hy,h1⟩
  ·unfold jR at h1;split at h1
   ·rcases jq _ _ _ h1 with h2|h2
    ·exact .inl h2
    ·exact .inr ⟨z,Bn ..,by assumption,h2⟩
   ·exact .inl h1
  ·exact .inr ⟨y,Bq _ hy,h1⟩
theorem Lu:∀(r:List Int) (s:List Bool),F6 s.length r->∀z∈r,z<0->(marks s r).getD (-1-z).toNat false=true
 | [],_,_=>by simp
 | y::r,s,hi=>by
  intro z hz hn;have hl:(jR s y).length=s.length:=(Md s y).len.symm;rcases BB.1 hz with rfl|hz
  ·refine(kZ (jR s z) r).get _ ?_;unfold jR;rw[Az hn]
   have:=hi z (Bn ..) hn
   exact js _ _ ω
  ·exact Lu r _ (by rw[hl];exact fun u hu h=>hi u (Bq _ hu) h) z hz hn
def gE (p is:List Bool) (x:Rl):List Bool:=if is.getD x.l.toNat false=true/\iv true p x.r=true then marks is x.r else is
def jj (p:List Bool) (rs:List Rl) (is:List Bool):List Bool:=rs.foldl (gE p) is
theorem kg (p is:List Bool) (x:Rl):Le is (gE p is x):=by
 unfold gE;split
 ·exact kZ _ _
 ·exact Le.refl _
theorem Lp {G:Gr} (hl:ma G.ns.length G.rs):∀(xs:List Rl) (is:List Bool),(∀x∈xs,x∈G.rs)->FZ G is->FZ G (xs.foldl (gE (gn true G.rs G.ns.length)) is)
 | [],_,_,h=>h
 | x::xs,is,hx,h=>by
  refine Lp hl xs _ (fun y hy=>hx y (Bq _ hy)) ?_;have hm:=hx x (Bn ..);unfold gE;split
  ·rename_i e
   intro i hi;rcases Mc _ _ _ hi with h1|⟨z,hz,hn,rfl⟩
   ·exact h i h1
   ·rw[BH ω];refine .on x hm ?_ ((kR hl _).1 e.2) z hz hn
    have:=h _ e.1
    rwa [BH (hl x hm).1]at this
  ·exact h
theorem Pg {G:Gr} (hl:ma G.ns.length G.rs) (k:Nat) {is:List Bool} (h:FZ G is):FZ G (times (jj (gn true G.rs G.ns.length) G.rs) k is):=by
 induction k with
 | zero=>exact h
 | succ k ih=>exact Lp hl G.rs _ ι ih
theorem mS {G:Gr} (hl:ma G.ns.length G.rs) (hi:∀x∈G.rs,F6 G.ns.length x.r) (h0:0<=G.st) (h1:G.st<G.ns.length) :
  times (jj (gn true G.rs G.ns.length) G.rs) G.ns.length ((List.replicate G.ns.length false).set G.st.toNat true)=rc G:=by
 have ac:∀s,Le s (jj (gn true G.rs G.ns.length) G.rs s):=fun s=>ib _ (kg _) G.rs s;generalize ad:(List.replicate G.ns.length false).set G.st.toNat true=s0;have aa:s0.length=G.ns.length:=by rw[<-ad];simp
 have ag:s0.getD G.st.toNat false=true:=by rw[<-ad];exact js _ _ (by simp;omega)
 have ae:FZ G s0:=fun i hi=>by
  rw[<-ad]at hi;rcases jq _ _ _ hi with h2|h2
  ·rw[Aw,CO]at h2;split at h2 <;> cases h2
  ·rw[h2,BH h0];exact .st
 have ab:=Jl ac s0;rw[aa]at ab;have af:(times (jj (gn true G.rs G.ns.length) G.rs) G.ns.length s0).length=G.ns.length:=by rw[<-(iW ac _ s0).len,aa]
 refine uX af (Pg hl _ ae) ⟨(iW ac _ s0).get _ ag,fun x hx e ha z hz hn=>?_⟩
 have:=Il _ (kg _) G.rs _ ab x hx
 unfold gE at this;rw[Az ⟨e,(kR hl _).2 ha⟩]at this;rw[<-this];exact Lu x.r _ (by rw[af];exact hi x hx) z hz hn
structure Ok (G:Gr):Prop where
 t:gW G.ts=true
 n:jT G=true
 r1:1<=G.rs.length
 kL:G.rs.length<=40
 s0:0<=G.st
 s1:G.st<G.ns.length
 rr:∀x∈G.rs,gu G x=true
 tp:ya G.ns.length (G.rs.map Rl.l) (-1)=true
theorem KQ (G:Gr):∀(rs:List Rl) (top:Int),rules G rs top=true->(∀r∈rs,gu G r=true)/\ya G.ns.length (rs.map Rl.l) top=true
 | [],_,h=>⟨σ,h⟩
 | r::rs,top,h=>by
  rw[rules]at h;split at h
  ·cases h
  ·rename_i h1
   have h2:=KQ G rs _ h;have h3:gu G r=true:=by cases hr:gu G r <;> simp_all
   refine⟨fun x hx=>?_,?_⟩
   ·rcases BB.1 hx with rfl|hx
    ·exact h3
    ·exact h2.1 x hx
   ·rw[Bw,ya,AJ ω];exact h2.2
theorem fq {G:Gr}:right G=true↔Ok G:=by
 constructor
 ·intro h;unfold right at h;simp only[Bd,Bj]at h;obtain⟨⟨⟨⟨⟨⟨h1,h2⟩,h3⟩,h4⟩,h5⟩,h6⟩,h7⟩:=h
  have:=KQ G _ _ h7
  exact⟨h1,h2,h3,h4,h5,h6,this.1,this.2⟩
 ·intro h;unfold right;simp only[Bd,Bj];exact⟨⟨⟨⟨⟨⟨h.t,h.n⟩,h.r1⟩,h.kL⟩,h.s0⟩,h.s1⟩,KU G _ _ h.rr h.tp⟩
theorem MB {n:Nat}:∀(ls:List Int) (top:Int),ya n ls top=true->top<=n-1/\∀l∈ls,0<=l/\l<n
 | [],top,h=>by
  rw[ya]at h
  have:top=n-1:=by simpa using h
  exact⟨ω,σ⟩
 | l::r,top,h=>by
  rw[ya]at h;split at h
  ·cases h
  ·have h2:=MB r _ h;refine⟨by have:=h2.1;split at this <;> omega,fun x hx=>?_⟩;rcases BB.1 hx with rfl|hx
   ·have:=h2.1;split at this <;> omega
   ·exact h2.2 x hx
theorem Ok.iO {G:Gr} (h:Ok G):ma G.ns.length G.rs:=fun x hx=>(MB _ _ h.tp).2 x.l (ET hx)
theorem fT {G:Gr} {x:Rl} (h:gu G x=true):x.r.length<=6/\-1<=x.p/\x.p<G.ts.length/\∀z∈x.r,z<G.ts.length/\-1-z<G.ns.length/\(0<=z->x.p ≠ -1):=by
 unfold gu at h;simp only[Bd,Bj,B6]at h;obtain⟨⟨⟨h1,h2⟩,h3⟩,h4⟩:=h;refine⟨h1,h2,h3,fun z hz=>?_⟩;have h5:=h4 z hz;unfold has at h5;by_cases h0:0<=z
 ·rw[Az h0]at h5;simp[h0]at h5;exact⟨h5.1,ω,fun _=>h5.2⟩
 ·rw[AJ h0]at h5;simp[h0]at h5;exact⟨ω,h5,fun h=>absurd h h0⟩
theorem Ok.sin {G:Gr} (h:Ok G):∀x∈G.rs,F6 G.ns.length x.r:=fun x hx z hz _=>((fT (h.rr x hx)).2.2.2 z hz).2.1
def ord:List Int->List Int->List Int
 | acc,[]=>acc
 | acc,l::r=>ord (if l∈acc then acc else acc++[l]) r
def pos (o:List Int) (l:Int):Int:=if l∈o then(o.idxOf l:Int) else -1
theorem mi:∀(ls acc:List Int) (x:Int),x∈ord acc ls↔x∈acc\/x∈ls
 | [],acc,x=>by rw[ord];simp
 | l::r,acc,x=>by
  rw[ord,mi r];split
  ·simp only[BB]
   constructor
   ·rintro(h|h)
    ·exact .inl h
    ·exact .inr (.inr h)
   ·rintro(h|rfl|h)
    ·exact .inl h
    ·exact .inl (by assumption)
    ·exact .inr h
  ·simp only[Bs,BB,List.not_mem_nil,or_false]
   constructor
   ·rintro((h|h)|h)
    ·exact .inl h
    ·exact .inr (.inl h)
    ·exact .inr (.inr h)
   ·rintro(h|h|h)
    ·exact .inl (.inl h)
    ·exact .inl (.inr h)
    ·exact .inr h
theorem j9:∀(ls acc:List Int),acc.Nodup->(ord acc ls).Nodup
 | [],acc,h=>by rw[ord];exact h
 | l::r,acc,h=>by
  rw[ord];refine j9 r _ ?_;split
  ·exact h
  ·rename_i hn
   rw[Cz];refine⟨h,σ,fun a ha b hb=>?_⟩;simp at hb;subst hb;exact fun e=>hn (e▸ha)
theorem Iy {o:List Int} {l:Int} (h:l∈o):pos o l=(o.idxOf l:Int):=by unfold pos;rw[Az h]
theorem kJ {o:List Int} {l:Int} (h:l∈o):0<=pos o l/\pos o l<o.length:=by
 rw[Iy h]
 have:=List.idxOf_lt_length_of_mem h
 omega
theorem xC {acc t:List Int} {l:Int} (h:l∈acc):pos (acc++t) l=pos acc l:=by
 rw[Iy h,Iy (Dw _ h),List.idxOf_append,Az h]
theorem xD {acc t:List Int} {l:Int} (h:l ∉ acc):pos (acc++l::t) l=acc.length:=by
 rw[Iy σ,List.idxOf_append,AJ h];simp
noncomputable def use (G:Gr) (x:Rl):Bool:=tr (Rc G x.l/\Al true G.rs x.r)
noncomputable def iB (G:Gr):List Rl:=G.rs.filter (use G)
noncomputable def kept (G:Gr):List Nat:=(List.range G.rs.length).filter fun i=>(G.rs[i]?).any (use G)
noncomputable def ft (G:Gr):List Int:=ord [] ((iB G).map Rl.l)
def lY (o:List Int) (z:Int):Int:=if z<0 then -1-pos o (-1-z) else z
def re (o:List Int) (x:Rl):Rl:=⟨pos o x.l,x.r.map (lY o),x.p⟩
noncomputable def reduce (G:Gr):Gr:=⟨G.ts,(ft G).map fun l=>G.ns.getD l.toNat [],(iB G).map (re (ft G)),pos (ft G) G.st⟩
theorem iG {G:Gr} {x:Rl}:x∈iB G↔x∈G.rs/\Rc G x.l/\Al true G.rs x.r:=by
 unfold iB use;rw[Cc,fV]
theorem JE {G:Gr} {l:Int}:l∈ft G ↔ ∃x∈iB G,x.l=l:=by
 unfold ft;rw[mi];simp
theorem PS (G:Gr):(ft G).Nodup:=j9 _ _ σ
theorem ML {G:Gr} (h:Rc G j) (hp:Gn true G.rs j):j∈ft G:=by
 obtain⟨x,hx,rfl,ha⟩:=hp.gu;exact JE.2 ⟨x,iG.2 ⟨hx,h,ha⟩,rfl⟩
theorem S9 {G:Gr} (h:j∈ft G):Rc G j/\Gn true G.rs j:=by
 obtain⟨x,hx,rfl⟩:=JE.1 h;obtain⟨h1,h2,h3⟩:=iG.1 hx;exact⟨h2,.of h1 h3⟩
theorem oW {G:Gr} {x:Rl} (hx:x∈iB G) (hz:z∈x.r) (hn:z<0):-1-z∈ft G:=by
 obtain⟨h1,h2,h3⟩:=iG.1 hx;exact ML (.on x h1 h2 h3 z hz hn) (h3.2 z hz hn)
theorem qj {G:Gr} {x:Rl} (hx:x∈iB G):x.l∈ft G:=JE.2 ⟨x,hx,rfl⟩
theorem TZ {G:Gr} (hp:Gn true G.rs j):Rc G j->Gn true (reduce G).rs (pos (ft G) j):=by
 induction hp with
 | mk x hx ht hn ih =>
  intro hr;have ha:Al true G.rs x.r:=⟨ht,hn⟩
  have hk:x∈iB G:=iG.2 ⟨hx,hr,ha⟩;have hm:re (ft G) x∈(reduce G).rs:=ET hk;refine Gn.of hm ⟨fun _ _ _=>rfl,fun z hz h0=>?_⟩;obtain⟨y,hy,rfl⟩:=Bo.1 hz;unfold lY at h0 ⊢;by_cases h1:y<0
  ·rw[Az h1]at h0 ⊢;rw[show -1-(-1-pos (ft G) (-1-y))=pos (ft G) (-1-y) by omega];exact ih y hy h1 (.on x hx hr ha y hy h1)
  ·rw[AJ h1]at h0;omega
theorem NN {G:Gr} {x:Rl} (hk:x∈iB G):Al true (reduce G).rs (re (ft G) x).r:=by
 obtain⟨hx,hr,ha⟩:=iG.1 hk;refine⟨fun _ _ _=>rfl,fun z hz h0=>?_⟩;obtain⟨y,hy,rfl⟩:=Bo.1 hz;unfold lY at h0 ⊢;by_cases h1:y<0
 ·rw[Az h1]at h0 ⊢;rw[show -1-(-1-pos (ft G) (-1-y))=pos (ft G) (-1-y) by omega];exact TZ (ha.2 y hy h1) (.on x hx hr ha y hy h1)
 ·rw[AJ h1]at h0;omega
theorem Uv {G:Gr} (h:Rc G j):Rc (reduce G) (pos (ft G) j):=by
 induction h with
 | st=>exact .st
 | on x hx hr hp z hz hn ih =>
  have hk:x∈iB G:=iG.2 ⟨hx,hr,hp⟩;have hm:re (ft G) x∈(reduce G).rs:=ET hk;have h1:=kJ (oW hk hz hn)
  have:=Rc.on (G:=reduce G) (re (ft G) x) hm ih (NN hk) (-1-pos (ft G) (-1-z)) (Bo.2 ⟨z,hz,by unfold lY;rw[Az hn]⟩) ω
  rwa [show -1-(-1-pos (ft G) (-1-z))=pos (ft G) (-1-z) by omega]at this
theorem xH {G:Gr} {y:Rl} (hy:y∈(reduce G).rs):use (reduce G) y=true:=by
 obtain⟨x,hx,rfl⟩:=Bo.1 hy;unfold use;rw[fV];exact⟨Uv (iG.1 hx).2.1,NN hx⟩
theorem yw {G:Gr} (hp:Gn true G.rs G.st):G.st∈ft G:=ML .st hp
theorem sB {G:Gr} (h:Ok G) (hj:j∈ft G):0<=j/\j<G.ns.length:=(S9 hj).2.iO h.iO
theorem oD {G:Gr} (h:Ok G):(ft G).length<=G.ns.length:=by
 have h1:=ke G.ns.length ((ft G).map (· + 1)) ?_ ?_
 ·simpa using h1.1
 ·refine BZ.2 ?_;rw[Dr];exact(BZ.1 (PS G)).imp fun h e=>h ω
 ·intro x hx;obtain⟨y,hy,rfl⟩:=Bo.1 hx
  have:=sB h hy
  omega
theorem MG (G:Gr):(kept G).map (fun i=>G.rs.getD i ⟨0,[],0⟩)=iB G:=by
 unfold kept iB;generalize use G=f
 have key:∀(rs pre:List Rl),((List.range' pre.length rs.length).filter fun i=>((pre++rs)[i]?).any f).map (fun i=>(pre++rs).getD i ⟨0,[],0⟩)=rs.filter f:=by
  intro rs;induction rs with
  | nil=>intro pre;simp
  | cons x rs ih =>
   intro pre;have h1:=ih (pre++[x]);simp only[Cd,ED,AZ,BC]at h1;rw[Bz,List.range'_succ,CA,CA];have h2:(pre++x::rs)[pre.length]?=some x:=σ
   rw[h2];simp only[Option.any_some];split
   ·rw[Bw,h1]
    congr 1
    simp
   ·exact h1
 have:=key G.rs []
 simpa[List.range_eq_range'] using this
theorem kY (G:Gr):(kept G).length=(iB G).length:=by rw[<-MG];simp
theorem xi {G:Gr} (h:i∈kept G):i<G.rs.length:=by
 have:=Cc.1 h
 exact BU.1 this.1
theorem xh {G:Gr} (i:Nat) (h:i<(kept G).length) (h2:(kept G)[i]<G.rs.length):(iB G)[i]'(by rw[<-kY];exact h)=G.rs[(kept G)[i]]:=by
 have:(iB G)[i]?=some (G.rs[(kept G)[i]]):=by
  rw[<-MG,BO,AH h];simp[h2]
 rw[AH (by rw[<-kY];exact h)]at this;exact DG this
end Gm
namespace Au
abbrev It:=Int×Int
def sy (G:Gm.Gr) (r:Int):List Int:=if r = -1 then [-1-G.st] else(G.rs.getD r.toNat ⟨0,[],0⟩).r
def ir (G:Gm.Gr) (x:It):Bool:=decide (-1<=x.1)&&decide (x.1<G.rs.length)&&decide (0<=x.2)&&decide (x.2<=(sy G x.1).length)
def nx (G:Gm.Gr) (x:It):Option Int:=(sy G x.1)[x.2.toNat]?
def lt (a b:It):Bool:=decide (a.1<b.1)||(decide (a.1=b.1)&&decide (a.2<b.2))
def jY (l:List It):Prop:=l.Pairwise fun a b=>lt a b=true
theorem lt_iff {a b:It}:lt a b=true↔a.1<b.1\/a.1=b.1/\a.2<b.2:=by
 unfold lt;simp only[CR,Bd,Bj]
theorem lt_trans {a b c:It} (h:lt a b=true) (k:lt b c=true):lt a c=true:=by
 rw[lt_iff]at *;omega
theorem kI (a:It):lt a a=false:=by
 cases h:lt a a
 ·rfl
 ·rw[lt_iff]at h;omega
theorem uE {a b:It} (h:lt a b=false) (hn:a≠b):lt b a=true:=by
 cases k:lt b a
 ·exfalso
  have h1:¬lt a b=true:=by rw[h];decide
  have k1:¬lt b a=true:=by rw[k];decide
  rw[lt_iff]at h1 k1;refine hn (EA ?_ ?_) <;> omega
 ·rfl
def put:List It->It->List It
 | [],x=>[x]
 | y::l,x=>if lt y x=true then y::put l x else if y=x then y::l else x::y::l
theorem GV {z x:It}:∀ {l:List It},z∈put l x↔z=x\/z∈l
 | []=>by simp[put]
 | y::l=>by
  unfold put;split
  ·rw[BB,GV (l:=l),BB]
   constructor
   ·rintro(h|h|h)
    ·exact .inr (.inl h)
    ·exact .inl h
    ·exact .inr (.inr h)
   ·rintro(h|h|h)
    ·exact .inr (.inl h)
    ·exact .inl h
    ·exact .inr (.inr h)
  ·split
   ·rename_i e
    subst e;rw[BB]
    constructor
    ·exact fun h=>.inr h
    ·rintro(h|h)
     ·exact .inl h
     ·exact h
   ·rw[BB]
theorem JX {x:It}:∀ {l:List It},jY l->jY (put l x)
 | [],_=>by simp[put,jY]
 | y::l,h=>by
  obtain⟨h1,h2⟩:=Du.1 h;unfold put;split
  ·rename_i hy
   refine Du.2 ⟨fun z hz=>?_,JX h2⟩;rcases GV.1 hz with rfl|hz
   ·exact hy
   ·exact h1 z hz
  ·rename_i hy
   split
   ·exact h
   ·rename_i hn
    have hl:=uE (by simpa using hy) hn;refine Du.2 ⟨fun z hz=>?_,h⟩;rcases BB.1 hz with rfl|hz
    ·exact hl
    ·exact lt_trans hl (h1 z hz)
theorem LJ {x:It}:∀ {l:List It},(∀y∈l,lt y x=true)->put l x=l++[x]
 | [],_=>rfl
 | y::l,h=>by
  rw[put,Az (h y Bn),LJ fun z hz=>h z (Bq _ hz),Ct]
theorem Nn {x:It}:∀ {l:List It},jY l->x∈l->put l x=l
 | y::l,h,hx=>by
  obtain⟨h1,h2⟩:=Du.1 h;rw[put];rcases BB.1 hx with rfl|hx
  ·rw[AJ (by rw[kI];decide),Az rfl]
  ·rw[Az (h1 x hx),Nn h2 hx]
theorem Ip {x:It}:∀ {l:List It},x ∉ l->(put l x).length=l.length+1
 | [],_=>rfl
 | y::l,h=>by
  rw[put];split
  ·rw[Bz,Ip fun k=>h (Bq _ k),Bz]
  ·split
   ·rename_i e;exact absurd (e▸Bn) h
   ·rfl
theorem Io:∀ {a b:List It},jY a->jY b->(∀z,z∈a↔z∈b)->a=b
 | [],[],_,_,_=>rfl
 | [],y::b,_,_,h=>by have:=(h y).2 Bn;cases this
 | x::a,[],_,_,h=>by have:=(h x).1 Bn;cases this
 | x::a,y::b,ha,hb,h=>by
  obtain⟨a1,a2⟩:=Du.1 ha;obtain⟨b1,b2⟩:=Du.1 hb
  have e:x=y:=by
   rcases BB.1 ((h x).1 Bn) with e|e
   ·exact e
   ·rcases BB.1 ((h y).2 Bn) with k|k
    ·exact k.symm
    ·have:=lt_trans (b1 x e) (a1 y k)
     rw[kI]at this;cases this
  subst e
  congr 1
  refine Io a2 b2 fun z=>⟨fun hz=>?_,fun hz=>?_⟩
  ·rcases BB.1 ((h z).1 (Bq _ hz)) with rfl|k
   ·have:=a1 z hz;rw[kI]at this;cases this
   ·exact k
  ·rcases BB.1 ((h z).2 (Bq _ hz)) with rfl|k
   ·have:=b1 z hz;rw[kI]at this;cases this
   ·exact k
theorem Py {l:List It} (h:jY l):l.Nodup:=BZ.2 (h.imp fun k e=>by rw[e,kI]at k;cases k)
def im (out l:List It):List It:=l.foldl put out
theorem yC {z:It}:∀ {l out:List It},z∈im out l↔z∈out\/z∈l
 | [],out=>by simp[im]
 | x::l,out=>by
  have:=yC (z:=z) (l:=l) (out:=put out x)
  rw[show im out (x::l)=im (put out x) l from rfl,this,GV,BB]
  constructor
  ·rintro((h|h)|h)
   ·exact .inr (.inl h)
   ·exact .inl h
   ·exact .inr (.inr h)
  ·rintro(h|h|h)
   ·exact .inl (.inr h)
   ·exact .inl (.inl h)
   ·exact .inr h
theorem Hw:∀ {l out:List It},jY out->jY (im out l)
 | [],_,h=>h
 | _::l,_,h=>Hw (l:=l) (JX h)
theorem nK (out l:List It) (x:It):im out (l++[x])=put (im out l) x:=by simp[im]
def tO (G:Gm.Gr):List Int:=-1::(List.range G.rs.length).map fun k:Nat=>(k:Int)
def vV (G:Gm.Gr):List It:=(tO G).flatMap fun r=>(List.range ((sy G r).length+1)).map fun d:Nat=>(r,(d:Int))
theorem gj {x:It}:ir G x=true↔(-1<=x.1/\x.1<G.rs.length)/\0<=x.2/\x.2<=(sy G x.1).length:=by
 unfold ir;simp only[Bd,Bj]
 constructor
 ·rintro⟨⟨⟨h1,h2⟩,h3⟩,h4⟩;exact⟨⟨h1,h2⟩,h3,h4⟩
 ·rintro⟨⟨h1,h2⟩,h3,h4⟩;exact⟨⟨⟨h1,h2⟩,h3⟩,h4⟩
theorem jD {r:Int}:r∈tO G ↔ -1<=r/\r<G.rs.length:=by
 unfold tO;rw[BB,Bo]
 constructor
 ·rintro(rfl|⟨k,hk,rfl⟩)
  ·omega
  ·have:=BU.1 hk;omega
 ·rintro⟨h1,h2⟩;by_cases e:r = -1
  ·exact .inl e
  ·exact .inr ⟨r.toNat,BU.2 ω,ω⟩
theorem Hq {x:It}:x∈vV G↔ir G x=true:=by
 unfold vV;rw[CJ,gj]
 constructor
 ·rintro⟨r,hr,hx⟩;obtain⟨d,hd,rfl⟩:=Bo.1 hx
  have:=BU.1 hd
  refine⟨jD.1 hr,?_,?_⟩
  ·show(0:Int)<=(d:Int)
   omega
  ·exact Int.ofNat_le.2 (Nat.le_of_lt_succ this)
 ·rintro⟨h1,h2,h3⟩;refine⟨x.1,jD.2 h1,Bo.2 ⟨x.2.toNat,BU.2 ω,?_⟩⟩;refine EA rfl ?_;simp only;omega
theorem GU (n:Nat):(List.range n).Pairwise (· < ·):=List.pairwise_lt_range
theorem Mm {f:Int->List It} (hf:∀r,jY (f r)) (h1:∀r x,x∈f r->x.1=r):∀ {l:List Int},l.Pairwise (· < ·)->jY (l.flatMap f)
 | [],_=>List.Pairwise.nil
 | r::l,h=>by
  obtain⟨a,b⟩:=Du.1 h;rw[B7];refine Ej.2 ⟨hf r,Mm hf h1 b,fun x hx y hy=>?_⟩;obtain⟨q,hq,hy⟩:=CJ.1 hy;have e1:=h1 r x hx;have e2:=h1 q y hy
  have:=a q hq
  rw[lt_iff];omega
theorem LY (G:Gm.Gr):jY (vV G):=by
 refine Mm (fun r=>?_) (fun r x hx=>?_) ?_
 ·unfold jY;rw[Dr];refine(GU _).imp fun {a b} h=>?_;rw[lt_iff];exact .inr ⟨rfl,Int.ofNat_lt.2 h⟩
 ·obtain⟨d,_,rfl⟩:=Bo.1 hx;rfl
 ·unfold tO;refine Du.2 ⟨fun z hz=>?_,?_⟩
  ·obtain⟨k,_,rfl⟩:=Bo.1 hz;omega
  ·rw[Dr];exact(GU _).imp fun {a b} h=>by omega
theorem Nk {l:List It} (h:jY l) (hi:∀x∈l,ir G x=true):l.length<=(vV G).length:=by
 have e:l=(vV G).filter fun x=>Gm.tr (x∈l):=Io h ((LY G).filter _) fun z=>by
  rw[Cc,Gm.fV,Hq];exact⟨fun k=>⟨hi z k,k⟩,fun k=>k.2⟩
 rw[e];exact CD _ _
inductive Cl (G:Gm.Gr) (l:List It):It->Prop
 | of (x:It) (h:x∈l):Cl G l x
 | on (x:It) (h:Cl G l x) (s:Int) (hs:nx G x=some s) (h0:s<0) (k:Nat) (hk:k<G.rs.length) (hl:(G.rs[k]).l = -1-s):Cl G l ((k:Int),0)
noncomputable def jb (G:Gm.Gr) (l:List It):List It:=(vV G).filter fun x=>Gm.tr (Cl G l x)
theorem kT (G:Gm.Gr) (l:List It):jY (jb G l):=(LY G).filter _
theorem Tc (hk:k<G.rs.length):ir G ((k:Int),0)=true:=by
 rw[gj];simp only;omega
theorem pB {l:List It} (hl:∀x∈l,ir G x=true) {x:It} (h:Cl G l x):ir G x=true:=by
 cases h with
 | of _ h=>exact hl x h
 | on y _ s _ _ k hk _=>exact Tc hk
theorem vL {l:List It} (hl:∀x∈l,ir G x=true) {x:It}:x∈jb G l↔Cl G l x:=by
 unfold jb;rw[Cc,Hq,Gm.fV];exact⟨fun h=>h.2,fun h=>⟨pB hl h,h⟩⟩
theorem mA {l:List It} {x:It} (h:x∈jb G l):ir G x=true:=Hq.1 (Cc.1 h).1
theorem NI {l out:List It} (hl:∀x∈l,ir G x=true) (hs:jY out) (h1:∀x∈l,x∈out) (h2:∀x∈out,Cl G l x) (h3:∀x∈out,∀s,nx G x=some s->s<0->∀k:Nat,∀hk:k<G.rs.length,(G.rs[k]).l = -1-s->((k:Int),0)∈out):out=jb G l:=by
 refine Io hs (kT G l) fun z=>?_;rw[vL hl];refine⟨h2 z,fun h=>?_⟩;induction h with
 | of x h=>exact h1 x h
 | on x _ s hs h0 k hk hl ih=>exact h3 x ih s hs h0 k hk hl
def mv (G:Gm.Gr) (l:List It) (s:Int):List It:=(l.filter fun x=>nx G x==some s).map fun x=>(x.1,x.2+1)
theorem T8 {l:List It} (h:jY l) (s:Int):jY (mv G l s):=by
 unfold mv jY;rw[Dr];refine(List.Pairwise.filter _ h).imp fun {a b} k=>?_;rw[lt_iff]at k ⊢;simp only;omega
theorem G4 {l:List It} {y:It}:y∈mv G l s ↔ ∃x∈l,nx G x=some s/\y=(x.1,x.2+1):=by
 unfold mv;rw[Bo]
 constructor
 ·rintro⟨x,hx,rfl⟩;obtain⟨h1,h2⟩:=Cc.1 hx;exact⟨x,h1,by simpa using h2,rfl⟩
 ·rintro⟨x,h1,h2,rfl⟩;exact⟨x,Cc.2 ⟨h1,by simpa using h2⟩,rfl⟩
theorem N5 {x:It} (hx:0<=x.2) (h:nx G x=some s):x.2<(sy G x.1).length:=by
 unfold nx at h
 have:=(Bk.1 h).1
 omega
theorem ym {l:List It} (hl:∀x∈l,ir G x=true) {y:It} (hy:y∈mv G l s):ir G y=true:=by
 obtain⟨x,hx,hs,rfl⟩:=G4.1 hy;have h:=gj.1 (hl x hx)
 have:=N5 h.2.1 hs
 rw[gj];simp only;omega
theorem xx {l:List It} {x:It} (h:jY (l++[x])) (s:Int):mv G (l++[x]) s=if nx G x=some s then put (mv G l s) (x.1,x.2+1) else mv G l s:=by
 obtain⟨h1,_,h3⟩:=Ej.1 h;unfold mv;rw[CH,Bi];split
 ·rename_i e
  rw[CA,Az (by rw[e];simp),LJ]
  ·simp
  ·intro y hy;obtain⟨z,hz,rfl⟩:=Bo.1 hy
   have:=h3 z (Cc.1 hz).1 x Bn
   rw[lt_iff]at this ⊢;simp only;omega
 ·rename_i e
  rw[CA,AJ (by simpa using e)];simp
end Au
namespace Gm
theorem iN {G:Gr}:has G z=true↔z<G.ts.length/\-1-z<G.ns.length:=by
 unfold has;split
 ·simp only[Bj];omega
 ·simp only[Bj];omega
end Gm
namespace Au
def syms (G:Gm.Gr):List Int:=(List.range G.ts.length).map (fun i:Nat=>(i:Int))++(List.range G.ns.length).map fun i:Nat=>-1-(i:Int)
theorem iU:s∈syms G↔Gm.has G s=true:=by
 rw[Gm.iN];unfold syms;rw[Bs,Bo,Bo]
 constructor
 ·rintro(⟨i,hi,rfl⟩|⟨i,hi,rfl⟩)
  ·have:=BU.1 hi;omega
  ·have:=BU.1 hi;omega
 ·rintro⟨h1,h2⟩;by_cases h:0<=s
  ·exact .inl ⟨s.toNat,BU.2 ω,ω⟩
  ·exact .inr ⟨(-1-s).toNat,BU.2 ω,ω⟩
theorem mY (G:Gm.Gr):(syms G).Nodup:=by
 unfold syms;refine BZ.2 (Ej.2 ⟨?_,?_,fun x hx y hy=>?_⟩)
 ·rw[Dr];exact(GU _).imp fun {a b} h=>by omega
 ·rw[Dr];exact(GU _).imp fun {a b} h=>by omega
 ·obtain⟨i,_,rfl⟩:=Bo.1 hx;obtain⟨k,_,rfl⟩:=Bo.1 hy;omega
theorem lE (G:Gm.Gr):(syms G).length=G.ts.length+G.ns.length:=by simp[syms]
theorem xN (h:i<G.ts.length+G.ns.length):(syms G)[i]?=some (if(i:Int)<G.ts.length then(i:Int) else -1-((i:Int)-G.ts.length)):=by
 unfold syms;by_cases hi:i<G.ts.length
 ·rw[BQ (by simpa using hi),Az ω];simp[hi]
 ·rw[Cp (by simpa using hi),AJ ω,BO,Bh,DV,List.getElem?_range ω];simp only[DH,E6];omega
def ig:List (List It)->List It->Int
 | [],_=>-1
 | y::l,k=>if y=k then 0 else if ig l k<0 then -1 else ig l k+1
theorem qU {k:List It}:∀ {l:List (List It)},ig l k<0↔k ∉ l
 | []=>by simp[ig]
 | y::l=>by
  have ih:=qU (k:=k) (l:=l);rw[ig,BB];split
  ·rename_i e
   simp[e]
  ·rename_i e
   split
   ·rename_i h
    have:=ih.1 h
    simp[this,Ne.symm e]
   ·rename_i h
    have:k∈l:=BX fun q=>h (ih.2 q)
    simp[this];omega
theorem NG {k:List It}:∀ {l:List (List It)},0<=ig l k->l[(ig l k).toNat]?=some k
 | [],h=>by simp[ig]at h
 | y::l,h=>by
  rw[ig]at h ⊢;by_cases e:y=k
  ·rw[Az e,e];rfl
  ·rw[AJ e]at h ⊢;by_cases q:ig l k<0
   ·rw[Az q]at h;omega
   ·rw[AJ q];rw[show(ig l k+1).toNat=(ig l k).toNat+1 by omega,Am];exact NG ω
def ji (G:Gm.Gr) (l:List It) (p:List (List It)×List (Int×Int)) (s:Int):List (List It)×List (Int×Int) :=
 if mv G l s=[] then p
 else if 0<=ig p.1 (mv G l s) then(p.1,p.2++[(s,ig p.1 (mv G l s))])
 else(p.1++[mv G l s],p.2++[(s,(p.1.length:Int))])
def fZ (G:Gm.Gr) (l:List It) (p:List (List It)×List (Int×Int)) (ss:List Int):List (List It)×List (Int×Int):=ss.foldl (ji G l) p
theorem mE (G:Gm.Gr) (l:List It) (p:List (List It)×List (Int×Int)) (ss:List Int) (s:Int):fZ G l p (ss++[s])=ji G l (fZ G l p ss) s:=by simp[fZ]
noncomputable def one (G:Gm.Gr) (ks:List (List It)) (n:Nat):List (List It)×List (Int×Int):=fZ G (jb G (ks.getD n [])) (ks,[]) (syms G)
noncomputable def run (G:Gm.Gr):Nat->List (List It)->List (List (Int×Int))->Option (List (List It)×List (List (Int×Int)))
 | 0,_,_=>none
 | f+1,ks,es=>if es.length<ks.length then(if 300<(one G ks es.length).1.length then none else run G f (one G ks es.length).1 (es++[(one G ks es.length).2])) else some (ks,es)
noncomputable def ku (G:Gm.Gr):Option (List (List It)×List (List (Int×Int))):=run G 302 [[(-1,0)]] []
structure nX (G:Gm.Gr) (ks:List (List It)) (l:List It) (ss:List Int) (p:List (List It)×List (Int×Int)):Prop where
 pre:∃new,p.1=ks++new
 nd:p.1.Nodup
 it:∀k∈p.1,jY k/\∀x∈k,ir G x=true
 sy:p.2.map (·.1)=ss.filter fun s=>mv G l s != []
 ed:∀e∈p.2,∃j:Nat,e.2=j/\p.1[j]?=some (mv G l e.1)
 up:∀j,ks.length<=j->j<p.1.length->∃e∈p.2,e.2=(j:Int)
theorem nX.ji {G:Gm.Gr} {ks:List (List It)} {l:List It} (hl:jY l) (hi:∀x∈l,ir G x=true) {ss:List Int} {p:List (List It)×List (Int×Int)} (h:nX G ks l ss p) (s:Int):nX G ks l (ss++[s]) (ji G l p s):=by
 unfold Au.ji;split
 ·rename_i e
  refine⟨h.pre,h.nd,h.it,?_,h.ed,h.up⟩;rw[h.sy,CH,CA,AJ (by simp[e])];simp
 ·rename_i e
  have hs:∀z:Int,(p.2++[(s,z)]).map (fun e:Int×Int=>e.1)=(ss++[s]).filter fun s=>mv G l s != []:=fun z=>by
   rw[Bi,h.sy,CH,CA,Az (by simpa using e)];simp
  split
  ·rename_i h0
   refine⟨h.pre,h.nd,h.it,hs _,fun x hx=>?_,fun j h1 h2=>?_⟩
   ·rcases Bs.1 hx with hx|hx
    ·exact h.ed x hx
    ·rw[AW.1 hx];exact⟨(ig p.1 (mv G l s)).toNat,by simp only;omega,NG h0⟩
   ·obtain⟨x,hx,e⟩:=h.up j h1 h2;exact⟨x,Dw _ hx,e⟩
  ·rename_i h0
   have hn:mv G l s ∉ p.1:=qU.1 ω;obtain⟨new,aa⟩:=h.pre;refine⟨⟨new++[mv G l s],by rw[aa,Cd]⟩,?_,fun k hk=>?_,hs _,fun x hx=>?_,fun j h1 h2=>?_⟩
   ·refine BZ.2 (Ej.2 ⟨BZ.1 h.nd,σ,fun x hx y hy=>?_⟩);rw[AW.1 hy];exact fun q=>hn (q▸hx)
   ·rcases Bs.1 hk with hk|hk
    ·exact h.it k hk
    ·rw[AW.1 hk];exact⟨T8 hl s,fun x hx=>ym hi hx⟩
   ·rcases Bs.1 hx with hx|hx
    ·obtain⟨j,e1,e2⟩:=h.ed x hx;refine⟨j,e1,?_⟩;rw[BQ (Bk.1 e2).1];exact e2
    ·rw[AW.1 hx];exact⟨p.1.length,rfl,σ⟩
   ·simp only[AZ,BC]at h2;by_cases q:j<p.1.length
    ·obtain⟨x,hx,e⟩:=h.up j h1 q;exact⟨x,Dw _ hx,e⟩
    ·exact⟨(s,(p.1.length:Int)),DJ _ Bn,by simp only;omega⟩
theorem nX.all {G:Gm.Gr} {ks:List (List It)} {l:List It} (hl:jY l) (hi:∀x∈l,ir G x=true) (hn:ks.Nodup) (hk:∀k∈ks,jY k/\∀x∈k,ir G x=true):∀(ss done:List Int) (p:List (List It)×List (Int×Int)),nX G ks l done p->nX G ks l (done++ss) (fZ G l p ss)
 | [],done,p,h=>by simpa[fZ] using h
 | s::ss,done,p,h=>by
  have:=nX.all hl hi hn hk ss (done++[s]) _ (h.ji hl hi s)
  simpa[fZ] using this
structure Inv (G:Gm.Gr) (ks:List (List It)) (es:List (List (Int×Int))):Prop where
 h0:ks[0]?=some [(-1,0)]
 nd:ks.Nodup
 it:∀k∈ks,jY k/\∀x∈k,ir G x=true
 le:es.length<=ks.length
 ed:∀i (h:i<es.length),(es[i].map (·.1)=(syms G).filter fun s=>mv G (jb G (ks.getD i [])) s != [])/\∀e∈es[i],∃j:Nat,e.2=j/\ks[j]?=some (mv G (jb G (ks.getD i [])) e.1)
 up:∀j,0<j->j<ks.length->∃i,∃h:i<es.length,i<j/\∃e∈es[i],e.2=(j:Int)
theorem Inv.start (G:Gm.Gr):Inv G [[(-1,0)]] []:=by
 refine⟨rfl,σ,fun k hk=>?_,σ,fun i h=>absurd h σ,fun j h1 h2=>absurd h2 (by simp;omega)⟩;rw[AW.1 hk];refine⟨by simp[jY],fun x hx=>?_⟩;rw[AW.1 hx,gj];refine⟨⟨δ,by simp only;omega⟩,δ,?_⟩;simp only;omega
theorem Inv.step {ks:List (List It)} (h:Inv G ks es) (ad:es.length<ks.length):Inv G (one G ks es.length).1 (es++[(one G ks es.length).2]):=by
 have hp:=nX.all (G:=G) (l:=jb G (ks.getD es.length [])) (kT _ _) (fun x hx=>mA hx) h.nd h.it (syms G) [] (ks,[]) ⟨⟨[],σ⟩,h.nd,h.it,σ,σ,fun j h1 h2=>absurd h2 (by simp only;omega)⟩;rw[CS]at hp
 change nX G ks (jb G (ks.getD es.length [])) (syms G) (one G ks es.length) at hp
 generalize one G ks es.length=p at *;obtain⟨new,aa⟩:=hp.pre;have ae:ks.length<=p.1.length:=by rw[aa,AZ];omega
 have ac:∀i,i<ks.length->p.1.getD i []=ks.getD i []:=fun i hi=>by
  rw[Aw,Aw,aa,BQ hi]
 have ab:∀i k,ks[i]?=some k->p.1[i]?=some k:=fun i k hk=>by
  rw[aa,BQ (Bk.1 hk).1];exact hk
 refine⟨ab _ _ h.h0,hp.nd,hp.it,by simp;omega,fun i hi=>?_,fun j h1 h2=>?_⟩
 ·by_cases q:i<es.length
  ·rw[Cv q,ac i ω];obtain⟨a,b⟩:=h.ed i q;refine⟨a,fun e he=>?_⟩;obtain⟨j,e1,e2⟩:=b e he;exact⟨j,e1,ab _ _ e2⟩
  ·have af:i=es.length:=by simp at hi;omega
   subst af;rw[ac _ ad];simp only[Db (Af _),DB,List.getElem_singleton];exact⟨hp.sy,hp.ed⟩
 ·by_cases q:j<ks.length
  ·obtain⟨i,hi,ag,e,he,e2⟩:=h.up j h1 q;exact⟨i,by simp;omega,ag,e,by rw[Cv hi];exact he,e2⟩
  ·obtain⟨e,he,e2⟩:=hp.up j ω h2;exact⟨es.length,σ,ω,e,by simpa using he,e2⟩
theorem qd {ks:List (List It)} (h:es.length<ks.length) (h3:ks.length<=300):run G (302-es.length) ks es=if 300<(one G ks es.length).1.length then none else run G (302-(es++[(one G ks es.length).2]).length) (one G ks es.length).1 (es++[(one G ks es.length).2]):=by
 rw[show 302-es.length=(302-(es++[(one G ks es.length).2]).length)+1 by simp;omega,run,Az h]
theorem kh {ks:List (List It)} (h:es.length=ks.length) (h3:ks.length<=300):run G (302-es.length) ks es=some (ks,es):=by
 rw[show 302-es.length=(301-es.length)+1 by omega,run,AJ ω]
theorem MU {G:Gm.Gr}:∀(f:Nat) (ks:List (List It)) (es:List (List (Int×Int))),Inv G ks es->ks.length<=300->∀K E,run G f ks es=some (K,E)->Inv G K E/\E.length=K.length/\K.length<=300
 | 0,_,_,_,_,_,_,h=>by cases h
 | f+1,ks,es,hi,h3,K,E,h=>by
  rw[run]at h;split at h
  ·rename_i aa
   split at h
   ·cases h
   ·exact MU f _ _ (hi.step aa) ω K E h
  ·injection h with h;injection h with h1 h2;subst h1 h2
   have:=hi.le
   exact⟨hi,ω,h3⟩
theorem jx {K:List (List It)} (h:ku G=some (K,E)):Inv G K E/\E.length=K.length/\K.length<=300 :=
 MU 302 _ _ (Inv.start G) σ K E h
theorem sz (aa:Gm.Ok G) {x:It} (hx:ir G x=true) (h:nx G x=some s):s∈syms G:=by
 rw[iU,Gm.iN];have hi:=gj.1 hx;have hs:s∈sy G x.1:=C8 h;unfold sy at hs;split at hs
 ·rw[AW.1 hs]
  have:=aa.s0
  have:=aa.s1
  omega
 ·rename_i hn
  have ab:x.1.toNat<G.rs.length:=ω
  rw[Aw,AH ab,Bu]at hs;have hr:=Gm.fT (aa.rr _ (AD ab))
  have:=hr.2.2.2 s hs
  exact⟨this.1,this.2.1⟩
end Au
namespace Gm
abbrev Nu (G:Gr) (r:List Int):Prop:=Al false G.rs r
inductive Fs (G:Gr) (t:Int):Int->Prop
 | tm (x:Rl) (hx:x∈G.rs) (p q:List Int) (e:x.r=p++t::q) (h0:0<=t) (hp:Nu G p):Fs G t x.l
 | nt (x:Rl) (hx:x∈G.rs) (p:List Int) (z:Int) (q:List Int) (e:x.r=p++z::q) (hz:z<0) (hp:Nu G p) (h:Fs G t (-1-z)):Fs G t x.l
def Bg (G:Gr) (t:Int) (r:List Int):Prop:=∃p y q,r=p++y::q/\Nu G p/\(y=t/\0<=t\/y<0/\Fs G t (-1-y))
theorem Fs.of {G:Gr} {x:Rl} (hx:x∈G.rs) (h:Bg G t x.r):Fs G t x.l:=by
 obtain⟨p,y,q,e,hp,h|h⟩:=h
 ·exact .tm x hx p q (by rw[e,h.1]) h.2 hp
 ·exact .nt x hx p y q e h.1 hp h.2
theorem Fs.gu {G:Gr} (h:Fs G t j):∃x∈G.rs,x.l=j/\Bg G t x.r:=by
 cases h with
 | tm x hx p q e h0 hp=>exact⟨x,hx,rfl,p,t,q,e,hp,.inl ⟨rfl,h0⟩⟩
 | nt x hx p z q e hz hp h=>exact⟨x,hx,rfl,p,z,q,e,hp,.inr ⟨hz,h⟩⟩
inductive Fw (G:Gr) (t:Int):Int->Prop
 | st (e:t=G.ts.length):Fw G t G.st
 | bg (x:Rl) (hx:x∈G.rs) (p:List Int) (z:Int) (q:List Int) (e:x.r=p++z::q) (hz:z<0) (h:Bg G t q):Fw G t (-1-z)
 | on (x:Rl) (hx:x∈G.rs) (p:List Int) (z:Int) (q:List Int) (e:x.r=p++z::q) (hz:z<0) (hq:Nu G q) (h:Fw G t x.l):Fw G t (-1-z)
theorem j8 {G:Gr}:Nu G (z::r)↔(z<0/\Gn false G.rs (-1-z))/\Nu G r:=by
 constructor
 ·intro h
  have h1:z<0:=by
   rcases Int.lt_or_le z 0 with h2|h2
   ·exact h2
   ·exact absurd (h.1 z (Bn ..) h2) σ
  exact⟨⟨h1,h.2 z (Bn ..) h1⟩,fun y hy=>h.1 y (Bq _ hy),fun y hy=>h.2 y (Bq _ hy)⟩
 ·rintro⟨⟨h1,h2⟩,h3⟩;refine⟨fun y hy h0=>?_,fun y hy h0=>?_⟩
  ·rcases BB.1 hy with rfl|hy
   ·omega
   ·exact h3.1 y hy h0
  ·rcases BB.1 hy with rfl|hy
   ·exact h2
   ·exact h3.2 y hy h0
theorem mM (G:Gr):Nu G []:=⟨σ,σ⟩
theorem NJ {G:Gr}:¬Bg G t []:=by
 rintro⟨p,y,q,e,_⟩;cases p <;> cases e
theorem jd {G:Gr}:Bg G t (z::r)↔(z=t/\0<=t\/z<0/\Fs G t (-1-z))\/(z<0/\Gn false G.rs (-1-z))/\Bg G t r:=by
 constructor
 ·rintro⟨p,y,q,e,hp,h⟩;cases p with
  | nil =>
   rw[CS]at e;injection e with e1 e2;subst e1;exact .inl h
  | cons u p =>
   rw[Ct]at e;injection e with e1 e2;subst e1
   have:=j8.1 hp
   exact .inr ⟨this.1,p,y,q,e2,this.2,h⟩
 ·rintro(h|⟨h1,p,y,q,e,hp,h⟩)
  ·exact⟨[],z,r,rfl,mM G,h⟩
  ·exact⟨z::p,y,q,by rw[e];rfl,j8.2 ⟨h1,hp⟩,h⟩
def q9 (nu:List Bool) (t:Int) (is:List Bool) (rest:Bool):List Int->Bool
 | []=>rest
 | z::r=>if 0<=z then z==t else is.getD (-1-z).toNat false||(nu.getD (-1-z).toNat false&&q9 nu t is rest r)
def yS (P:Int->Prop) (is:List Bool):Prop:=∀i:Nat,is.getD i false=true->P (i:Int)
theorem yS.none (P:Int->Prop) (n:Nat):yS P (List.replicate n false):=fun i h=>by
 rw[Aw,CO]at h;split at h <;> cases h
theorem MN {G:Gr} {is:List Bool} {rest:Bool} (hl:ma n G.rs) (hs:yS (Fs G t) is) (ht:0<=t) (h:q9 (gn false G.rs n) t is rest r=true):Bg G t r\/Nu G r/\rest=true:=by
 induction r with
 | nil=>exact .inr ⟨mM G,h⟩
 | cons z r ih =>
  rw[q9]at h;by_cases h0:0<=z
  ·rw[Az h0]at h;exact .inl (jd.2 (.inl (.inl ⟨by simpa using h,ht⟩)))
  ·rw[AJ h0]at h;rw[CR,Bd]at h;rcases h with h|⟨h1,h2⟩
   ·have:=hs _ h
    rw[BH ω]at this;exact .inl (jd.2 (.inl (.inr ⟨ω,this⟩)))
   ·have h3:=(FL hl ω).1 h1;rcases ih h2 with h4|h4
    ·exact .inl (jd.2 (.inr ⟨⟨ω,h3⟩,h4⟩))
    ·exact .inr ⟨j8.2 ⟨⟨ω,h3⟩,h4.1⟩,h4.2⟩
theorem Sx {G:Gr} {is:List Bool} {rest:Bool} (hl:ma n G.rs) (hc:∀j,Fs G t j->is.getD j.toNat false=true) (h:Bg G t r\/Nu G r/\rest=true):q9 (gn false G.rs n) t is rest r=true:=by
 induction r with
 | nil =>
  rcases h with h|h
  ·exact absurd h NJ
  ·exact h.2
 | cons z r ih =>
  rw[q9];by_cases h0:0<=z
  ·rw[Az h0];rcases h with h|h
   ·rcases jd.1 h with(h|h)|h
    ·simpa using h.1
    ·omega
    ·omega
   ·have:=(j8.1 h.1).1.1;omega
  ·rw[AJ h0,CR,Bd];rcases h with h|h
   ·rcases jd.1 h with(h|h)|h
    ·omega
    ·exact .inl (hc _ h.2)
    ·exact .inr ⟨(FL hl ω).2 h.1.2,ih (.inl h.2)⟩
   ·have h1:=j8.1 h.1;exact .inr ⟨(FL hl ω).2 h1.1.2,ih (.inr ⟨h1.2,h.2⟩)⟩
theorem Ta {G:Gr} {is:List Bool} {rest:Bool} (hl:ma n G.rs) (hs:yS (Fs G t) is) (hc:∀j,Fs G t j->is.getD j.toNat false=true) (ht:0<=t):q9 (gn false G.rs n) t is rest r=true↔Bg G t r\/Nu G r/\rest=true:=⟨MN hl hs ht,Sx hl hc⟩
def IQ (G:Gr) (n:Nat) (t:Int) (is:List Bool):Prop:=∀x∈G.rs,q9 (gn false G.rs n) t is false x.r=true->is.getD x.l.toNat false=true
theorem MO {nu:List Bool} {is:List Bool} {rest:Bool} {p:List Int} {y:Int} {q:List Int} (hp:∀z∈p,z<0/\nu.getD (-1-z).toNat false=true) (h:q9 nu t is rest (y::q)=true):q9 nu t is rest (p++y::q)=true:=by
 induction p with
 | nil=>exact h
 | cons z p ih =>
  rw[Ct,q9];have h1:=hp z (Bn ..);rw[AJ ω,h1.2,ih (fun z hz=>hp z (Bq _ hz))];simp
theorem Np {G:Gr} (hl:ma n G.rs) {p:List Int} (h:Nu G p):∀z∈p,z<0/\(gn false G.rs n).getD (-1-z).toNat false=true:=fun z hz=>by
 have h1:z<0:=by
  rcases Int.lt_or_le z 0 with h2|h2
  ·exact h2
  ·exact absurd (h.1 z hz h2) σ
 exact⟨h1,(FL hl ω).2 (h.2 z hz h1)⟩
theorem NF {G:Gr} {is:List Bool} (hl:ma n G.rs) (h:IQ G n t is) (hj:Fs G t j):is.getD j.toNat false=true:=by
 induction hj with
 | tm x hx p q e h0 hp =>
  refine h x hx ?_;rw[e];refine MO (Np hl hp) ?_;rw[q9,Az h0];simp
 | nt x hx p z q e hz hp _ ih =>
  refine h x hx ?_;rw[e];refine MO (Np hl hp) ?_;rw[q9,AJ ω,ih];rfl
def rJ (nu:List Bool) (t:Int) (is:List Bool) (x:Rl):List Bool:=if q9 nu t is false x.r=true then is.set x.l.toNat true else is
theorem Lg (nu:List Bool) (t:Int) (is:List Bool) (x:Rl):Le is (rJ nu t is x):=by
 unfold rJ;split
 ·exact Le.set _ _
 ·exact Le.refl _
theorem Jy {G:Gr} {n:Nat} {t:Int} (hl:ma n G.rs) (ht:0<=t):∀(xs:List Rl) (is:List Bool),(∀x∈xs,x∈G.rs)->yS (Fs G t) is->yS (Fs G t) (xs.foldl (rJ (gn false G.rs n) t) is)
 | [],_,_,h=>h
 | x::xs,is,hx,h=>by
  refine Jy hl ht xs _ (fun y hy=>hx y (Bq _ hy)) ?_;have hm:=hx x (Bn ..);unfold rJ;split
  ·rename_i e
   intro i hi;rcases jq _ _ _ hi with h1|h1
   ·exact h i h1
   ·rw[h1,BH (hl x hm).1];rcases MN hl h ht e with h2|h2
    ·exact .of hm h2
    ·cases h2.2
  ·exact h
theorem Rs {G:Gr} (hl:ma n G.rs) (ht:0<=t) (i:Nat):(times (fun s=>G.rs.foldl (rJ (gn false G.rs n) t) s) n (List.replicate n false)).getD i false=true↔Fs G t (i:Int):=by
 have ab:∀s,Le s (G.rs.foldl (rJ (gn false G.rs n) t) s):=fun s=>ib _ (Lg _ _) G.rs s;have h0:(List.replicate n false).length=n:=σ
 have aa:=Jl ab (List.replicate n false);rw[h0]at aa;have ac:(times (fun s=>G.rs.foldl (rJ (gn false G.rs n) t) s) n (List.replicate n false)).length=n:=by rw[<-(iW ab n _).len,h0]
 constructor
 ·have:∀k,yS (Fs G t) (times (fun s=>G.rs.foldl (rJ (gn false G.rs n) t) s) k (List.replicate n false)):=by
   intro k;induction k with
   | zero=>exact yS.none _ n
   | succ k ih=>exact Jy hl ht G.rs _ ι ih
  exact this n i
 ·intro h
  have:=NF hl (n:=n) (is:=times (fun s=>G.rs.foldl (rJ (gn false G.rs n) t) s) n (List.replicate n false)) ?_ h
  ·simpa using this
  ·intro x hx e
   have:=Il _ (Lg _ _) G.rs _ aa x hx
   generalize times (fun s=>G.rs.foldl (rJ (gn false G.rs n) t) s) n (List.replicate n false)=S at *;rw[rJ,Az e]at this;rw[<-this]
   have:=hl x hx
   exact js _ _ ω
end Gm
end Go.Proofs.YtjjbaehamplnaaaGreat
