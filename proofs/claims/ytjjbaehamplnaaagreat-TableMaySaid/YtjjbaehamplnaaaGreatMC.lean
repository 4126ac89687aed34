/- Part of the proofs over this program: CfgRight, LexQuo, LexPiece2, Floats, PlaceFn, PlaceAt, LexTok, LexScan, YaccL, CfgL, CfgR, CfgR2, CfgEq, TrimL, TrimR, TrimD, TrimK, AutoL, TrimM, AutoB, FirstL. -/
import Derived.ScopeJumps
import Derived.WalkMore
import Derived.Laws.FloatArith
import Derived.Test.YtjjbaehamplnaaaGreatMB
set_option linter.all false
namespace Go
def DF:=@Option.map_some
def DJ:=@Go.run_sliceAt_slice
def CI:=@Bool.or_eq_true
def BD:=@List.flatMap_cons
def BX:=@List.flatMap_append
def Cc:=@List.flatMap_singleton
def EC:=@List.length_modify
def CN:=@List.pairwise_iff_getElem
def Bk:=@List.mem_of_mem_erase
def Di:=@Bool.false_eq_true
def Bm:=@Option.getD_some
def BU:=@List.nodup_iff_pairwise_ne
def De:=@List.nil_append
def Ec:=@Bool.not_eq_true'
def ED:=@decide_eq_false_iff_not
def CZ:=@List.foldl_cons
def Ai:=@List.getD_eq_getElem?_getD
def Cu:=@List.getElem?_replicate
def Br:=@Int.toNat_of_nonneg
def Ek:=@List.getElem?_set_ne
def B6:=@List.getElem?_eq_none
def Es:=@List.mem_map_of_mem
def C7:=@List.mem_append_left
def B7:=@List.mem_filter
def Da:=@List.pairwise_map
def Cy:=@List.filter_cons
def BF:=@List.mem_range
def Ew:=@Prod.ext
def Dj:=@List.pairwise_cons
def CK:=@List.mem_flatMap
def El:=@List.pairwise_append
def Ct:=@List.length_filter_le
def CF:=@List.filter_append
def Dg:=@List.mem_append_right
def Ep:=@List.getElem_append_right
def DW:=@Nat.sub_self
end Go
set_option maxRecDepth 100000
set_option maxHeartbeats 40000000
variable {B base i k n:Nat} {E es:List (List (Int×Int))} {G:Go.Proofs.YtjjbaehamplnaaaGreat.Gm.Gr} {j s t z:Int} {ns ns':List (List Int)} {ops:Array Go.Oper} {r:List Int} {rs:List Go.Proofs.YtjjbaehamplnaaaGreat.Gm.Rl} {tm:Bool} {v:Go.Value} {w w':Go.World}
namespace Go.Proofs.YtjjbaehamplnaaaGreat
open Go.RowKit
def ruB (G:Gm.Gr) (x:Gm.Rl):Bool:=decide (x.r.length<=6) && !x.r.any (zbv G)&&(if x.p = -1 then !x.r.any isT else isT x.p&&Gm.has G x.p)
theorem zcX (v:Value) (G:Gm.Gr) (B:Nat) (x:Gm.Rl) (A:Option Addr) (c:Nat) (w:World) (hg:aQ w B v G) (hr:RdI w B A x.r) (hx:∀z∈x.r,Gm.In z) (hp:Gm.In x.p) (hB:B<=w.heap.size) :
  Calls Tryz.prog 105 #[v,.agg #[.int .i64 x.l,.slice A x.r.length c,.int .i64 x.p]] w fun e w'=>e=.returned (.bool (ruB G x))/\Below w.heap.size w w':=by
 have HG:=aA hg;obtain⟨AT,cT,AN,cN,AR,cR,rfl,_⟩:=hg;have i:=aA ((One.start w #[.slice AT G.ts.length cT,.slice AN G.ns.length cN,.slice AR G.rs.length cR,.int .i64 G.st]).alloc (.cells #[.int .i64 x.l,.slice A x.r.length c,.int .i64 x.p] 74))
 have ac:Hid (((w.alloc (.cells #[.slice AT G.ts.length cT,.slice AN G.ns.length cN,.slice AR G.rs.length cR,.int .i64 G.st] 26)).alloc (.cells #[.int .i64 x.l,.slice A x.r.length c,.int .i64 x.p] 74)).heap[w.heap.size+1]?=some (.cells #[.int .i64 x.l,.slice A x.r.length c,.int .i64 x.p] 74 (0,0))):=aA (by
  have:=Az (w.alloc (.cells #[.slice AT G.ts.length cT,.slice AN G.ns.length cN,.slice AR G.rs.length cR,.int .i64 G.st] 26)) (.cells #[.int .i64 x.l,.slice A x.r.length c,.int .i64 x.p] 74)
  simpa using this)
 by_cases h6:6<x.r.length
 ·have HX:Hid (ruB G x=false):=aA (by unfold ruB;rw[AM (show ¬x.r.length<=6 by omega)];rfl);rw[HX.o];clear hr hx hp
  go_enter Tryz.func105,Tryz.ntmps105
  go_wp2;go_ret
  exact⟨rfl,i.o.below⟩
 have ag:=aA (fun(y:World) (h:One w #[.slice AT G.ts.length cT,.slice AN G.ns.length cN,.slice AR G.rs.length cR,.int .i64 G.st] y)=>(Ei h w.heap.size (by omega)).trans (Az w _));have j:=aA (fun(y:World) (h:One w #[.slice AT G.ts.length cT,.slice AN G.ns.length cN,.slice AR G.rs.length cR,.int .i64 G.st] y)=>zdS A c B x.r y G w.heap.size B _ hx (fun z hz=>HG.o.below (h.on hz).below hB) (fun z hz=>ag.o _ (h.on hz)) (hr.keep fun g o hg=>h.below.cell (p:=⟨g,o,none⟩) (Ao hg hB)) (Ag hB h.below.size) (by omega));have af:=aA (fun(y:World) (h:One w #[.slice AT G.ts.length cT,.slice AN G.ns.length cN,.slice AR G.rs.length cR,.int .i64 G.st] y)=>zda A c B x.r y (hr.keep fun g o hg=>h.below.cell (p:=⟨g,o,none⟩) (Ao hg hB)) (Ag hB h.below.size) (by omega));have k:=aA (fun y=>zcG x.p y);have ad:=aA (fun(y:World) (h:One w #[.slice AT G.ts.length cT,.slice AN G.ns.length cN,.slice AR G.rs.length cR,.int .i64 G.st] y)=>zew _ G B x.p hp y (HG.o.below h.below hB));have aa:Hid (ruB G x=(!x.r.any (zbv G)&&(if x.p = -1 then !x.r.any isT else isT x.p&&Gm.has G x.p))):=aA (by unfold ruB;rw[AJ (show x.r.length<=6 by omega)];rfl);clear hr hx hp HG;cases q1:x.r.any (zbv G)
 case true =>
  have HX:Hid (ruB G x=false):=aA (by rw[aa.o,q1];rfl);rw[q1]at j;rw[HX.o];clear q1 aa
  go_enter Tryz.func105,Tryz.ntmps105
  go_wp2_with fail
  refine(j.o _ i.o).mono ?_;rintro _ w2 ⟨rfl,hb⟩;have f:=aA (i.o.on hb);clear hb;go_wp2;go_ret
  exact⟨rfl,f.o.below⟩
 rw[q1]at j;have ab:Hid (ruB G x=(if x.p = -1 then !x.r.any isT else isT x.p&&Gm.has G x.p)):=aA (by rw[aa.o,q1];rfl);clear q1 aa;by_cases h1:x.p = -1
 ·have HX:=aA (ab.o.trans (Ap h1));have e1:(x.p == -1)=true:=BH.2 h1;rw[HX.o];generalize x.r.any isT=b at *;clear h1 k ad ab HX
  go_enter Tryz.func105,Tryz.ntmps105
  go_wp2_with fail
  refine(j.o _ i.o).mono ?_;rintro _ w2 ⟨rfl,hb⟩;have f:=aA (i.o.on hb);have d:=(hb.block (w.heap.size+1) (by simp)).trans ac.o;have d1:=Aw w2 _ 1 _ _ _ d;have d2:=Aw w2 _ 2 _ _ _ d;have hz:w.heap.size+1<w2.heap.size:=(Ac.1 d).1;clear hb d;go_wp2_with fail
  refine(af.o _ f.o).mono ?_;rintro _ w3 ⟨rfl,hb⟩;have ae:=aA (f.o.on hb);clear hb;go_wp2;go_ret
  exact⟨rfl,ae.o.below⟩
 ·have HX:=aA (ab.o.trans (AB h1));have e1:(x.p == -1)=false:=AY.2 h1;rw[HX.o];unfold isT;clear h1 af ab HX;cases q2:decide (0<=x.p)
  ·rw[q2]at k;clear q2 ad
   go_enter Tryz.func105,Tryz.ntmps105
   go_wp2_with fail
   refine(j.o _ i.o).mono ?_;rintro _ w2 ⟨rfl,hb⟩;have f:=aA (i.o.on hb);have d:=(hb.block (w.heap.size+1) (by simp)).trans ac.o;have d1:=Aw w2 _ 1 _ _ _ d;have d2:=Aw w2 _ 2 _ _ _ d;have hz:w.heap.size+1<w2.heap.size:=(Ac.1 d).1;clear hb d;go_wp2_with fail
   refine(k.o _).mono ?_;rintro _ _ ⟨rfl,rfl⟩;go_wp2;go_ret
   exact⟨rfl,f.o.below⟩
  ·rw[q2]at k;clear q2;generalize Gm.has G x.p=b at *
   go_enter Tryz.func105,Tryz.ntmps105
   go_wp2_with fail
   refine(j.o _ i.o).mono ?_;rintro _ w2 ⟨rfl,hb⟩;have f:=aA (i.o.on hb);have d:=(hb.block (w.heap.size+1) (by simp)).trans ac.o;have d1:=Aw w2 _ 1 _ _ _ d;have d2:=Aw w2 _ 2 _ _ _ d;have hz:w.heap.size+1<w2.heap.size:=(Ac.1 d).1;have q0:=f.o.c 0 _ rfl;have q1:=f.o.c 1 _ rfl;have q2:=f.o.c 2 _ rfl;have q3:=f.o.c 3 _ rfl;clear hb d;go_wp2_with fail
   refine(k.o _).mono ?_;rintro _ w5 ⟨rfl,ah⟩;subst ah;go_wp2_with fail
   refine(ad.o _ f.o).mono ?_;rintro _ w3 ⟨rfl,hb⟩;have ae:=aA (f.o.on hb);clear hb;go_wp2;go_ret
   exact⟨aD (by simp),ae.o.below⟩
def rrF (G:Gm.Gr):List Gm.Rl->Int->Bool
 | [],n=>n==G.ns.length
 | x::r,n=>if x.l<0\/n<x.l\/ruB G x=false then false else rrF G r (max n (x.l+1))
theorem ziG (h:k<rs.length) (n:Int):rrF G (rs.drop k) n=if rs[k].l<0\/n<rs[k].l\/ruB G rs[k]=false then false else rrF G (rs.drop (k+1)) (max n (rs[k].l+1)):=by
 rw[Bx h,rrF]
theorem zkm (h:rs.length<=k) (n:Int):rrF G (rs.drop k) n=(n==(G.ns.length:Int)):=by
 rw[BV h,rrF]
def rrB (G:Gm.Gr):Bool:=decide (G.rs.length<=40)&&rrF G G.rs 0
theorem zcj (v:Value) (G:Gm.Gr) (B:Nat) (w:World) (hg:aQ w B v G) (hf:Gm.Fit G) (hB:B<=w.heap.size) :
  Calls Tryz.prog 68 #[v] w fun e w'=>e=.returned (.bool (rrB G))/\Below w.heap.size w w':=by
 have HG:=aA hg;obtain⟨AT,cT,AN,cN,AR,cR,rfl,⟨al,am⟩,⟨ao,ap⟩,⟨aq,ar⟩,_,_,ht⟩:=hg;have HT:=aA ht;have HF:=aA hf;have ag:=aA (One.start w #[.slice AT G.ts.length cT,.slice AN G.ns.length cN,.slice AR G.rs.length cR,.int .i64 G.st]);have ah:(G.ns.length:Int)<=9223372036854775807:=by omega
 clear ht hf;by_cases au:40<G.rs.length
 ·have HX:Hid (rrB G=false):=aA (by unfold rrB;rw[AM (show ¬G.rs.length<=40 by omega)];rfl);rw[HX.o]
  go_enter Tryz.func68,Tryz.ntmps68
  go_wp2;go_ret
  exact⟨rfl,ag.o.below⟩
 have aj:Hid (rrB G=rrF G (G.rs.drop 0) 0):=aA (by unfold rrB;rw[AJ (show G.rs.length<=40 by omega)];rfl)
 go_enter Tryz.func68,Tryz.ntmps68
 go_wp2;go_loopw [3,13] (fun vt vi wr=>∃(k:Nat) (z:Int),k<=G.rs.length/\vi=.int .i64 k/\vt=.int .i64 z/\(0<=z/\z<=100+k)/\Hid (rrB G=rrF G (G.rs.drop k) z)/\One w #[.slice AT G.ts.length cT,.slice AN G.ns.length cN,.slice AR G.rs.length cR,.int .i64 G.st] wr) (fun _ vi _=>G.rs.length-(intOf vi).toNat)
 case atStart=>exact⟨0,0,AX _,rfl,rfl,by omega,aj,ag.o⟩
 case round =>
  obtain⟨k,z,hk,rfl,rfl,av,HE,hb⟩:=hrel;have HB:=aA hb;have hz:w.heap.size<wr.heap.size:=hb.size;have d:=hb.below;have q0:=hb.c 0 _ rfl;have q1:=hb.c 1 _ rfl;have q2:=hb.c 2 _ rfl;have q3:=hb.c 3 _ rfl;clear hb;by_cases ac:k<G.rs.length
  ·obtain⟨g,o,rfl,ad,hc⟩:=HT.o (by omega);obtain⟨k0,⟨A',c',k1,_,_,ai⟩,k2⟩:=hc k ac;have k0:=(d.cell (p:=⟨g,o+k*3,none⟩) (Ao ad hB)).trans k0;have k1:=(d.cell (p:=⟨g,o+k*3+1,none⟩) (Ao ad hB)).trans k1;have k2:=(d.cell (p:=⟨g,o+k*3+2,none⟩) (Ao ad hB)).trans k2;have aw:g<wr.heap.size:=by omega
   have aa:=HF.o.r _ (Ay ac);have ab:=aA (fun(y:World) (h:One w #[.slice AT G.ts.length cT,.slice AN G.ns.length cN,.slice (some ⟨g,o,none⟩) G.rs.length cR,.int .i64 G.st] y)=>zcX _ G B G.rs[k] A' c' y (HG.o.below h.below hB) (ai.keep fun g o hg=>h.below.cell (p:=⟨g,o,none⟩) (Ao hg hB)) aa.2.2 aa.2.1 (Ag hB h.below.size));have HN:=aA (HE.o.trans (ziG ac z));have ak:=aa.1;unfold Gm.In at ak;clear hc d aa ai;generalize G.rs[k]=x at *;by_cases c1:x.l<0
   ·have HX:Hid (rrB G=false):=aA (HN.o.trans (Ap (.inl c1)));go_wp2;go_ret
    exact⟨aD HX.o.symm,(HB.o.alloc _).below⟩
   have c1':=EL.1 c1;by_cases c2:z<x.l
   ·have HX:Hid (rrB G=false):=aA (HN.o.trans (Ap (.inr (.inl c2))));go_wp2;go_ret
    exact⟨aD HX.o.symm,(HB.o.alloc _).below⟩
   have c2':=EL.1 c2;cases c3:ruB G x
   ·have HX:Hid (rrB G=false):=aA (HN.o.trans (Ap (.inr (.inr c3))));rw[c3]at ab;clear c3 c1 c2;go_wp2_with fail
    refine(ab.o _ (HB.o.alloc _)).mono ?_;rintro _ w4 ⟨rfl,b⟩;have ae:=aA ((HB.o.alloc _).on b);clear b;go_wp2;go_ret
    exact⟨aD HX.o.symm,ae.o.below⟩
   ·have HX:=aA (HN.o.trans (AB (by rw[c3];simp;omega)));rw[c3]at ab;clear c3 c1 c2;go_wp2_with fail
    refine(ab.o _ (HB.o.alloc _)).mono ?_;rintro _ w4 ⟨rfl,b⟩;have ae:=aA ((HB.o.alloc _).on b);have af:=(b.block wr.heap.size (by simp)).trans (Az wr _);have ax:wr.heap.size<w4.heap.size:=(Ac.1 af).1;have f0:=Aw w4 _ 0 _ _ _ af;clear b af;go_wp2;go_roundw
    case rel=>exact⟨k+1,max z (x.l+1),by omega,by go_num,rfl,by omega,HX,ae.o⟩
    case measure=>simp[intOf];omega
  ·obtain rfl:k=G.rs.length:=by omega
   have HX:=aA (HE.o.trans (zkm (Ad _) z));clear d;go_wp2;go_ret
   exact⟨aD HX.o.symm,HB.o.below⟩
def zbO (G:Gm.Gr):Bool:=rnB G&&rlF G.ts [] 0&&rrB G&&decide (0<=G.st)&&decide (G.st<G.ns.length)
theorem zf6 (v:Value) (G:Gm.Gr) (B:Nat) (w:World) (hg:aQ w B v G) (hf:Gm.Fit G) (hB:B<=w.heap.size) :
  Calls Tryz.prog 35 #[v] w fun e w'=>e=.returned (.bool (zbO G))/\Below w.heap.size w w':=by
 have HG:=aA hg;have HF:=aA hf;obtain⟨AT,cT,AN,cN,AR,cR,rfl,⟨ac,ad⟩,⟨ae,af⟩,⟨ag,ah⟩,aa,_,_⟩:=hg;have f:=aA (One.start w #[.slice AT G.ts.length cT,.slice AN G.ns.length cN,.slice AR G.rs.length cR,.int .i64 G.st]);have H1:=aA (fun(x:World) (h:One w #[.slice AT G.ts.length cT,.slice AN G.ns.length cN,.slice AR G.rs.length cR,.int .i64 G.st] x)=>zck _ G B x (HG.o.below h.below hB) HF.o (Ag hB h.below.size));have H2:=aA (fun(x:World) (h:One w #[.slice AT G.ts.length cT,.slice AN G.ns.length cN,.slice AR G.rs.length cR,.int .i64 G.st] x)=>zbZ AT cT B G.ts x (aa.keep fun g o hg=>h.below.cell (p:=⟨g,o,none⟩) (Ao hg hB)) HF.o.t (Ag hB h.below.size) (by omega));have H3:=aA (fun(x:World) (h:One w #[.slice AT G.ts.length cT,.slice AN G.ns.length cN,.slice AR G.rs.length cR,.int .i64 G.st] x)=>zcj _ G B x (HG.o.below h.below hB) HF.o (Ag hB h.below.size));have ab:(G.ns.length:Int)<=9223372036854775807:=by omega
 unfold zbO;clear hf aa HG HF ac ad ae af ag ah hB;cases p1:rnB G
 ·rw[p1]at H1;clear p1 H2 H3
  go_enter Tryz.func35,Tryz.ntmps35
  go_wp2_with fail
  refine(H1.o _ f.o).mono ?_;rintro _ w2 ⟨rfl,hb⟩;have d:=aA (f.o.on hb);clear hb;go_wp2;go_ret
  exact⟨rfl,d.o.below⟩
 rw[p1]at H1;clear p1;cases p2:rlF G.ts [] 0
 ·rw[p2]at H2;clear p2 H3
  go_enter Tryz.func35,Tryz.ntmps35
  go_wp2_with fail
  refine(H1.o _ f.o).mono ?_;rintro _ w2 ⟨rfl,hb⟩;have d:=aA (f.o.on hb);have q0:=d.o.c 0 _ rfl;have z2:w.heap.size<w2.heap.size:=d.o.size;clear hb;go_wp2_with fail
  refine(H2.o _ d.o).mono ?_;rintro _ w3 ⟨rfl,hb⟩;have b:=aA (d.o.on hb);clear hb;go_wp2;go_ret
  exact⟨rfl,b.o.below⟩
 rw[p2]at H2;clear p2;cases p3:rrB G
 ·rw[p3]at H3;clear p3
  go_enter Tryz.func35,Tryz.ntmps35
  go_wp2_with fail
  refine(H1.o _ f.o).mono ?_;rintro _ w2 ⟨rfl,hb⟩;have d:=aA (f.o.on hb);have q0:=d.o.c 0 _ rfl;have z2:w.heap.size<w2.heap.size:=d.o.size;clear hb;go_wp2_with fail
  refine(H2.o _ d.o).mono ?_;rintro _ w3 ⟨rfl,hb⟩;have b:=aA (d.o.on hb);have r0:=b.o.c 0 _ rfl;have r1:=b.o.c 1 _ rfl;have r2:=b.o.c 2 _ rfl;have r3:=b.o.c 3 _ rfl;have z3:w.heap.size<w3.heap.size:=b.o.size;clear hb;go_wp2_with fail
  refine(H3.o _ b.o).mono ?_;rintro _ w4 ⟨rfl,hb⟩;have i:=aA (b.o.on hb);clear hb;go_wp2;go_ret
  exact⟨rfl,i.o.below⟩
 rw[p3]at H3;clear p3;by_cases h4:0<=G.st
 focus
  rw[AJ h4]
 rotate_left
 focus
  rw[AM h4];have ai:=Int.not_le.1 h4;clear h4
 rotate_left
 all_goals
  go_enter Tryz.func35,Tryz.ntmps35
  go_wp2_with fail
  refine(H1.o _ f.o).mono ?_;rintro _ w2 ⟨rfl,hb⟩;have d:=aA (f.o.on hb);have q0:=d.o.c 0 _ rfl;have z2:w.heap.size<w2.heap.size:=d.o.size;clear hb;go_wp2_with fail
  refine(H2.o _ d.o).mono ?_;rintro _ w3 ⟨rfl,hb⟩;have b:=aA (d.o.on hb);have r0:=b.o.c 0 _ rfl;have r1:=b.o.c 1 _ rfl;have r2:=b.o.c 2 _ rfl;have r3:=b.o.c 3 _ rfl;have z3:w.heap.size<w3.heap.size:=b.o.size;clear hb;go_wp2_with fail
  refine(H3.o _ b.o).mono ?_;rintro _ w4 ⟨rfl,hb⟩;have i:=aA (b.o.on hb);have s1:=i.o.c 1 _ rfl;have s3:=i.o.c 3 _ rfl;have z4:w.heap.size<w4.heap.size:=i.o.size;clear hb;go_wp2;go_ret
 focus
  exact⟨aD (by simp),i.o.below⟩
 focus
  exact⟨rfl,i.o.below⟩
def dropA (A:Option Addr) (c k:Nat):Option Addr:=if c=k then A else A.map fun x=>x.add k
theorem RdB.dropA {w:World} {B c:Nat} {A:Option Addr} {l:List Int} (h:RdB w B A l) (hc:l.length<=c) (k:Nat):RdB w B (dropA A c k) (l.drop k):=by
 intro hn;rw[Bl]at hn;obtain⟨g,o,rfl,hg,aa⟩:=h (by omega);refine⟨g,o+k,?_,hg,fun j hj=>?_⟩
 ·have e:((⟨g,o,none⟩:Addr).add k)=⟨g,o+k,none⟩:=by unfold Addr.add;by_cases h0:k=0 <;> simp[h0]
  unfold Go.Proofs.YtjjbaehamplnaaaGreat.dropA;rw[AB (by omega),DF,e]
 ·rw[Bl]at hj;rw[show o+k+j=o+(k+j) by omega,aa (k+j) (by omega),L.gd_lt (by omega:k+j<l.length),L.gd_lt (by rw[Bl];exact hj),Dl]
def quoV (r:Option Nat):Value:=match r with|none=>.tuple #[.int .i64 0,.int .i64 4]|some m=>.tuple #[.int .i64 ((m+1:Nat):Int),.int .i64 0]
theorem ziy (w:World) (A:Option Addr) (c n j:Nat) (h2:j<=c):(Instr.sliceAt 72 (.slice A n c) none (some (.int .i64 j)) none).run Tryz.prog w=.ok (.slice A j c) w:=by
 rw[DJ _ _ _ _ _ _ (by kernel_rfl),run_slice_h _ _ _ _ _ (by kernel_rfl) .i64 (j:Int) (by omega) (by omega)];have hs:(sizeOf (Tryz.prog.elem 72)).run Tryz.prog w=.ok 1 w:=by kernel_rfl
 rw[hs]
 have e:∀A:Option Addr,A.map (fun x=>x.add 0)=A:=fun A=>by
  cases A with
  | none=>rfl
  | some x=>simp[Addr.add]
 simp[Result.andThen,sliced,e]
end Go.Proofs.YtjjbaehamplnaaaGreat
namespace Go.Proofs.YtjjbaehamplnaaaGreat.Fl
open Ieee
def fl (n:Int):Nat:=floatOfInt .f64 n
def St (d:Datum) (n k:Nat):Prop:=d=.number false (n*2 ^ k) (-(k:Int))
theorem lp:double.leastPlace = -1074:=by decide
theorem fb:double.fractionBits=52:=rfl
end Go.Proofs.YtjjbaehamplnaaaGreat.Fl
namespace Go.Proofs.YtjjbaehamplnaaaGreat
open Go.RowKit
def pl (l c:Int):Value:=.complex .f64 (Fl.fl l) (Fl.fl c)
def okN (n:Int):Prop:=1<=n/\n<=1073741824
def znV (l c m d:Int):Bool:=decide (l<m)||(decide (l=m)&&decide (c<d))
theorem zkn (l c:Int) (w:World) (hl:okN l) (hc:okN c) :
  Calls Tryz.prog 166 #[.int .i64 l,.int .i64 c] w fun e w'=>e=.returned (.complex .f64 (Fl.fl l) (Fl.fl c))/\w=w':=by
 have C2:∀n w,(convert 3 264 (.int .i64 n)).run Tryz.prog w=.ok (.float .f64 (Fl.fl n)) w:=fun n w=>run_convert_int_float w _ _ .i64 .f64 _ (by rw[Tryz.underlying3];rfl) Tryz.underlying264;obtain⟨h1,h2⟩:=hl;obtain⟨h3,h4⟩:=hc
 go_enter Tryz.func166,Tryz.ntmps166
 go_wp2_with (simp only[C2])
 go_ret
 exact⟨rfl,rfl⟩
namespace Pl
def stp (p:Int×Int) (z:Int):Int×Int:=if z=10 then(p.1+1,1) else(p.1,p.2+1)
def pos (l:List Int):Int×Int:=l.foldl stp (1,1)
theorem pos_snoc (l:List Int) (z:Int):pos (l++[z])=stp (pos l) z:=by unfold pos;rw[List.foldl_append];rfl
theorem pos_next (l:List Int) (k:Nat) (h:k<l.length):pos (l.take (k+1))=stp (pos (l.take k)) (l.getD k 0):=by rw[L.take_snoc l k h,pos_snoc]
theorem pos_bd (l:List Int) (k:Nat) (h:k<=l.length):1<=(pos (l.take k)).1/\(pos (l.take k)).1<=1+k/\1<=(pos (l.take k)).2/\(pos (l.take k)).2<=1+k:=by
 induction k with
 | zero=>simp[pos]
 | succ k ih =>
  have:=ih (by omega)
  rw[pos_next l k (by omega)];unfold stp;split <;> simp only <;> omega
theorem pos_lt (l:List Int) (i k:Nat) (h:i<k) (hk:k<=l.length):znV (pos (l.take i)).1 (pos (l.take i)).2 (pos (l.take k)).1 (pos (l.take k)).2=true:=by
 induction k with
 | zero=>omega
 | succ k ih =>
  rw[pos_next l k (by omega)];by_cases e:i=k
  ·subst e;unfold stp znV;split <;> simp
   all_goals omega
  ·have:=ih (by omega) (by omega)
   unfold znV at this ⊢;unfold stp;simp only[CI,AQ,AV]at this ⊢;split <;> simp only <;> omega
end Pl
theorem zcA (A:Option Addr) (c B:Nat) (l:List Int) (i:Nat) (w:World) (hr:RdB w B A l) (hn:l.length<=2000) (hi:i<=l.length) :
  Calls Tryz.prog 122 #[.slice A l.length c,.int .i64 i] w fun e w'=>e=.returned (.complex .f64 (Fl.fl (Pl.pos (l.take i)).1) (Fl.fl (Pl.pos (l.take i)).2))/\w=w':=by
 have ae:¬(l.length:Int)<i:=by omega
 go_enter Tryz.func122,Tryz.ntmps122
 go_wp2
 go_loop [7,5,6] (fun vi vl vc=>∃(k:Nat),k<=i/\vi=.int .i64 k/\vl=.int .i64 (Pl.pos (l.take k)).1/\vc=.int .i64 (Pl.pos (l.take k)).2) (fun vi _ _=>i-(intOf vi).toNat)
 case atStart=>exact⟨0,by omega,rfl,rfl,rfl⟩
 case round =>
  obtain⟨k,hk,rfl,rfl,rfl⟩:=hrel;have hb:=Pl.pos_bd l k (by omega);by_cases af:k<i
  ·obtain⟨g,o,rfl,_,ac⟩:=hr (by omega);have ad:=ac k (by omega);have aa:=aA (Pl.pos_next l k (by omega));have ag:k<l.length:=by omega
   generalize l.getD k 0=z at *;generalize Pl.pos (l.take k)=p at *;obtain⟨x,y⟩:=p;simp only at hb;obtain⟨b1,b2,b3,b4⟩:=hb;clear ac;by_cases ab:z=10
   ·subst ab;go_wp2
    go_round
    case rel=>exact⟨k+1,by omega,by go_num,by rw[aa.o];rfl,by rw[aa.o];rfl⟩
    case measure=>simp[intOf];omega
   ·have ah:(z==10)=false:=by simpa using ab
    have HN:=aA ab;clear ab;go_wp2
    go_round
    case rel=>exact⟨k+1,by omega,by go_num,by rw[aa.o];unfold Pl.stp;rw[AB HN.o],by rw[aa.o];unfold Pl.stp;rw[AB HN.o]⟩
    case measure=>simp[intOf];omega
  ·obtain rfl:k=i:=by omega
   clear hr;have HS:=aA (fun w=>zkn (Pl.pos (l.take k)).1 (Pl.pos (l.take k)).2 w (by unfold okN;omega) (by unfold okN;omega));clear hb;go_wp2_with fail
   refine(HS.o _).mono ?_;rintro _ w' ⟨rfl,rfl⟩;go_wp2;go_ret
   exact⟨rfl,rfl⟩
namespace Pl
end Pl
theorem znI:(Tryz.prog.info? 198).map (fun i=>(i.zero,i.size,i.bytes))=some (some (.agg #[.int .i64 0,.string ⟨#[]⟩,.complex .f64 0 0]),3,40):=by kernel_rfl
def aZ (k:Int) (l:List Int):List Int:=if k=1\/k=2 then l else []
def bR:Obj:=.cells #[.int .i64 0,.string ⟨#[]⟩,.complex .f64 0 0] 198
structure Tok where
 k:Int
 t:List Int
 o:Nat
inductive Out where
 | ok:List Tok->Out
 | bad:Nat->Int->Out
def more (acc:List Tok) (k:Nat) (x:T.P3) (l:List Int):List Tok:=if x.1=0 then acc else acc++[⟨x.1,aZ x.1 (l.take x.2.1),k⟩]
def zbw (m:Nat) (x:T.P3):Nat:=if x.1=9 then m+1 else m
def zfL:Nat->List Int->Nat->Nat->List Tok->Out
 | 0,_,_,_,acc=>.ok acc
 | f+1,l,k,m,acc=>if l.length=0\/m=2 then .ok acc else if(T.piece l).2.2≠0 then .bad k (T.piece l).2.2 else zfL f (l.drop (T.piece l).2.1) (k+(T.piece l).2.1) (zbw m (T.piece l)) (more acc k (T.piece l) l)
theorem zeM (f:Nat) (l:List Int) (k m:Nat) (acc:List Tok) (h:l.length=0\/m=2):zfL f l k m acc=.ok acc:=by
 cases f with
 | zero=>rfl
 | succ f=>unfold zfL;rw[Ap h]
theorem zeN (f:Nat) (l:List Int) (k m:Nat) (acc:List Tok) (h:¬(l.length=0\/m=2)) (hb:(T.piece l).2.2≠0):zfL (f+1) l k m acc=.bad k (T.piece l).2.2:=by
 rw[zfL,AB h,Ap hb]
theorem zgN (f:Nat) (l:List Int) (k m:Nat) (acc:List Tok) (h:¬(l.length=0\/m=2)) (hb:(T.piece l).2.2=0):zfL (f+1) l k m acc=zfL f (l.drop (T.piece l).2.1) (k+(T.piece l).2.1) (zbw m (T.piece l)) (more acc k (T.piece l) l):=by
 rw[zfL,AB h,AB (by simpa using hb)]
def zkb (l:List Int):Out:=zfL (l.length+1) l 0 0 []
def zaK (L:List Int) (x:Tok):List Value:=[.int .i64 x.k,.string (K.str x.t),.complex .f64 (Fl.fl (Pl.pos (L.take x.o)).1) (Fl.fl (Pl.pos (L.take x.o)).2)]
theorem zgu (L:List Int) (xs:List Tok) (i j:Nat) (hi:i<xs.length) (hj:j<3):(xs.flatMap (zaK L))[i*3+j]?=(zaK L xs[i])[j]?:=by
 induction xs generalizing i with
 | nil=>simp at hi
 | cons x r ih =>
  rw[BD];have hl:(zaK L x).length=3:=rfl;cases i with
  | zero=>rw[Bw (by omega)];simp
  | succ i =>
   rw[Cg (by omega),hl,show(i+1)*3+j-3=i*3+j by omega]
   simpa using ih i (by simpa using hi)
def bS (L:List Int) (w:World) (base:Nat) (v:Value) (xs:List Tok):Prop:=w.ownsRow base 198 3 v xs.length (xs.flatMap (zaK L))
theorem bS.nil (L:List Int) (w:World) (base:Nat):bS L w base (.slice none 0 0) []:=CR w base _ _
theorem bS.alloc {L:List Int} {xs:List Tok} (h:bS L w base v xs) (o:Obj):bS L (w.alloc o) base v xs:=Db h o
theorem bS.drewN {L:List Int} {xs:List Tok} (h:bS L w base v xs) (n:Nat):bS L (w.drewN n) base v xs:=h
theorem bS.below {L:List Int} {xs:List Tok} (h:bS L w base v xs) (hb:Below B w w') (hB:w.heap.size<=B):bS L w' base v xs:=by
 refine⟨h.1,?_⟩;rcases h.2 with h0|⟨g,cap,cur,e,aa,hg,hr⟩
 ·exact .inl h0
 ·exact .inr ⟨g,cap,cur,e,aa,(hb.block g (Ao (Ac.1 hg).1 hB)).trans hg,hr⟩
theorem bS.form {L:List Int} {xs:List Tok} (h:bS L w base v xs):∃A c,v=.slice A xs.length c/\xs.length<=c/\c<=maxLen:=by
 rcases h.2 with⟨rfl,h0⟩|⟨g,cap,cur,rfl,hb,hg,hn,hm,hs,ht⟩
 ·exact⟨none,0,by rw[h0],by omega,by unfold maxLen;omega⟩
 ·exact⟨_,cap,rfl,hn,hm⟩
theorem bS.addr {L:List Int} {xs:List Tok} (h:bS L w base v xs) (h0:xs.length≠0):∃g c,v=.slice (some ⟨g,0,none⟩) xs.length c/\xs.length<=c/\c<=maxLen/\base<=g/\g<w.heap.size /\
  ∀i j u,i<xs.length->j<3->(xs[i]?.map (zaK L)).bind (·[j]?)=some u->w.cell? ⟨g,i*3+j,none⟩=some u:=by
 rcases h.2 with⟨_,h1⟩|⟨g,cap,cur,rfl,hb,hg,hn,hm,hs,ht⟩
 ·exact absurd h1 h0
 ·refine⟨g,cap,rfl,hn,hm,hb,(Ac.1 hg).1,fun i j u hi hj hu=>?_⟩;have hx:xs[i]?=some xs[i]:=Ar hi;rw[hx]at hu;have hc:=Cw h (g:=g) rfl (i*3+j) u (by rw[zgu L xs i j hi hj];exact hu);rw[Go.WideShapes.add_plain,Bu]at hc;exact hc
theorem zdU {L:List Int} {a:World} {xs:List Tok} (h:Below B a w) (ho:bS L w B v xs) (hg:w.grownBy w' v.ownBlock) (hs:B<=w.heap.size):Below B a w' :=
 h.grown hg hs (fun k e=>(Bs ho k e).1)
theorem zk8 {rest:List Oper} {o:Oper} {a:Act} {Q:Exit->Act->World->Prop} (ac:o.guard=none) (s x:Operand) (t:TypeId) (ho:o.op=.call {callee:=.builtin .append,args:=#[s,x],argTypes:=#[t,t]}) (ht:Tryz.prog.underlying t=some (.slice 198)) (L:List Int) (base:Nat) (v:Value) (xs:List Tok) (hs:a.eval s=v) (ab:bS L w base v xs) (g c:Nat) (y:Tok) (hx:a.eval x=.slice (some ⟨g,0,none⟩) 1 c) (hz:∀j u,(zaK L y)[j]?=some u->w.cell? ⟨g,j,none⟩=some u) (ad:xs.length<=1000000) (aa:base<=w.heap.size) (hK:∀v' w',bS L w' base v' (xs++[y])->w.grownBy w' v.ownBlock->wpList Tryz.prog ops Q rest (a.put o.dst v') w') :
  wpList Tryz.prog ops Q (o::rest) a w:=by
 obtain⟨i,hi,ae,af,ag⟩:=CD znI;refine Dm w ac s x t ho base 198 i _ 3 40 ht hi ae af ag rfl (by decide) v xs.length (xs.flatMap (zaK L)) hs ab ⟨g,0,none⟩ 1 c (zaK L y) hx rfl ?_ ?_ (by unfold maxLen;omega) (by omega) aa fun v' w' h1 h2 _=>hK v' w' ?_ h2
 ·intro j u hj;rw[Go.WideShapes.add_plain,Bu];exact hz j u hj
 ·intro u hu;simp[zaK]at hu;rcases hu with rfl|rfl|rfl <;> rfl
 ·unfold bS;rw[AU,BX,Cc];exact h1
namespace Y
inductive Res (α:Type) where
 | ok:α->List Tok->Res α
 | bad:Option Tok->Res α
def Res.bind {α β:Type} (r:Res α) (f:α->List Tok->Res β):Res β:=match r with | .ok a l=>f a l | .bad p=>.bad p
theorem bind_ok {α β:Type} (a:α) (l:List Tok) (f:α->List Tok->Res β):(Res.ok a l).bind f=f a l:=rfl
structure Dcl where
 k:Int
 ns:List Tok
structure Prd where
 l:Tok
 r:List Tok
 p:Option Tok
def is (ks:List Int):List Tok->Bool
 | []=>false
 | t::_=>ks.contains t.k
def take (ks:List Int):List Tok->Res Tok
 | []=>.bad none
 | t::r=>if ks.contains t.k then .ok t r else .bad (some t)
def isRef (t:Tok):Bool:=[(1:Int),2].contains t.k
def decl (ts:List Tok):Res Dcl:=(take [3,4,5,6,7] ts).bind fun t r=>if t.k=7 then(take [1] r).bind fun n r=>.ok ⟨7,[n]⟩ r else(take [1,2] r).bind fun n r=>.ok ⟨t.k,n::r.takeWhile isRef⟩ (r.dropWhile isRef)
def decls:Nat->List Dcl->List Tok->Res (List Dcl)
 | 0,acc,ts=>.ok acc ts
 | f+1,acc,ts=>if is [9] ts then .ok acc ts else(decl ts).bind fun d r=>decls f (acc++[d]) r
def rule2 (left:Tok) (rs r:List Tok):Res Prd:=if is [8] r then(take [8] r).bind fun _ r=>(take [1,2] r).bind fun p r=>.ok ⟨left,rs,some p⟩ r else .ok ⟨left,rs,none⟩ r
def rule (left:Tok) (ts:List Tok):Res Prd:=rule2 left (ts.takeWhile isRef) (ts.dropWhile isRef)
def alts:Nat->Tok->List Prd->List Tok->Res (List Prd)
 | 0,_,acc,ts=>.ok acc ts
 | f+1,left,acc,ts=>(rule left ts).bind fun p r=>(take [11,12] r).bind fun t r=>if t.k=11 then alts f left (acc++[p]) r else .ok (acc++[p]) r
def group (acc:List Prd) (ts:List Tok):Res (List Prd):=(take [1] ts).bind fun left r=>(take [10] r).bind fun _ r=>alts (r.length+1) left acc r
def zjR:Nat->List Prd->List Tok->Res (List Prd)
 | 0,acc,ts=>.ok acc ts
 | f+1,acc,ts=>if ts.length≠0/\is [9] ts=false then(group acc ts).bind fun ps r=>zjR f ps r else .ok acc ts
def zlx (ts:List Tok):Res Unit:=if ts.length=0 then .ok () ts else(take [] ts).bind fun _ r=>.ok () r
def tail (ts:List Tok):Res Unit:=if is [9] ts then(take [9] ts).bind fun _ r=>zlx r else zlx ts
def source (ts:List Tok):Res (List Dcl×List Prd):=(decls (ts.length+1) [] ts).bind fun ds r=>(take [9] r).bind fun _ r=>(group [] r).bind fun ps r=>(zjR (r.length+1) ps r).bind fun ps r=>(tail r).bind fun _ r=>.ok (ds,ps) r
theorem take_cons (ks:List Int) (x:Tok) (xs:List Tok):take ks (x::xs)=if ks.contains x.k then .ok x xs else .bad (some x):=rfl
theorem take_ok {ks:List Int} {ts:List Tok} {t:Tok} {r:List Tok} (h:take ks ts=.ok t r):ts=t::r/\ks.contains t.k=true:=by
 cases ts with
 | nil=>cases h
 | cons x xs =>
  rw[take_cons]at h;by_cases hx:ks.contains x.k=true
  ·rw[Ap hx]at h;injection h with h1 h2;subst h1 h2;exact⟨rfl,hx⟩
  ·rw[AB hx]at h;cases h
theorem is_true {ks:List Int} {ts:List Tok} (h:is ks ts=true):∃t r,ts=t::r/\take ks ts=.ok t r/\ks.contains t.k=true:=by
 cases ts with
 | nil=>cases h
 | cons x xs=>exact⟨x,xs,rfl,by rw[take_cons,Ap (show ks.contains x.k=true from h)],h⟩
theorem refs_end {ts:List Tok} (h:is [1,2] ts=false):ts.takeWhile isRef=[]/\ts.dropWhile isRef=ts:=by
 cases ts with
 | nil=>exact⟨rfl,rfl⟩
 | cons t r =>
  have h':isRef t=false:=h;rw[List.takeWhile_cons,List.dropWhile_cons,h'];exact⟨rfl,rfl⟩
theorem bind_eq_ok {α β:Type} {x:Res α} {f:α->List Tok->Res β} {b:β} {r:List Tok} (h:x.bind f=.ok b r):∃a m,x=.ok a m/\f a m=.ok b r:=by
 cases x with
 | ok a m=>exact⟨a,m,rfl,h⟩
 | bad p=>cases h
end Y
namespace Gm
inductive R (α:Type) where
 | ok:α->R α
 | bad:Tok->Int->R α
def R.bind {α β:Type} (r:R α) (f:α->R β):R β:=match r with | .ok a=>f a | .bad x e=>.bad x e
theorem R.bind_ok {α β:Type} (a:α) (f:α->R β):(R.ok a).bind f=f a:=rfl
theorem R.bind_eq {α β:Type} {x:R α} {f:α->R β} {b:β} (h:x.bind f=.ok b):∃a,x=.ok a/\f a=.ok b:=by
 cases x with
 | ok a=>exact⟨a,rfl,h⟩
 | bad x e=>cases h
def put (ts:List Tm) (x:Tok):R (List Tm×Int) :=
 if 0<=find (names ts) x.t then .ok (ts,find (names ts) x.t) else if ts.length=24 then .bad x 5 else .ok (ts++[⟨x.t,0,0⟩],ts.length)
structure S1 where
 ts:List Tm
 tk:List (List Int)
 st:Option Tok
 lv:Int
def decl1 (k:Int) (S:S1) (x:Tok):R S1 :=
 if k=7 then(if S.st.isSome then .bad x 7 else .ok {S with st:=some x})
 else if k=3 then(if x.t∈S.tk then .bad x 7 else(put S.ts x).bind fun p=>.ok {S with ts:=p.1,tk:=S.tk++[x.t]})
 else if 0<=find (names S.ts) x.t/\0<(S.ts.map Tm.lv).getD (find (names S.ts) x.t).toNat 0 then .bad x 7
 else(put S.ts x).bind fun p=>.ok {S with ts:=p.1.modify p.2.toNat fun t=>⟨t.nm,S.lv,k-3⟩}
def declN (k:Int):S1->List Tok->R S1
 | S,[]=>.ok S
 | S,x::r=>(decl1 k S x).bind fun S=>declN k S r
def up (k:Int) (S:S1):S1:=if k=3\/k=7 then S else {S with lv:=S.lv+1}
def decls:S1->List Y.Dcl->R S1
 | S,[]=>.ok S
 | S,d::r=>(declN d.k (up d.k S) d.ns).bind fun S=>decls S r
def left1 (ts:List Tm) (ns:List (List Int)) (x:Tok):R (List (List Int)) :=
 if 0<=find (names ts) x.t then .bad x 7 else if 0<=find ns x.t then .ok ns else if ns.length=16 then .bad x 5 else .ok (ns++[x.t])
def lefts (ts:List Tm):List (List Int)->List Y.Prd->R (List (List Int))
 | ns,[]=>.ok ns
 | ns,p::r=>(left1 ts ns p.l).bind fun ns=>lefts ts ns r
def sym (ts:List Tm) (x:Tok):R (List Tm×Int) :=
 if 0<=find (names ts) x.t\/T.isLit x.t=true\/x.t=[101,114,114,111,114] then put ts x else .bad x 6
def symR (ns:List (List Int)) (ts:List Tm) (x:Tok):R (List Tm×Int):=if 0<=find ns x.t then .ok (ts,-1-find ns x.t) else sym ts x
def symP (ns:List (List Int)) (ts:List Tm) (x:Tok):R (List Tm×Int):=if 0<=find ns x.t then .bad x 6 else sym ts x
def rights (ns:List (List Int)):List Tm->List Int->Int->List Tok->R (List Tm×List Int×Int)
 | ts,acc,p,[]=>.ok (ts,acc,p)
 | ts,acc,p,x::r=>if acc.length=6 then .bad x 5 else(symR ns ts x).bind fun q=>rights ns q.1 (acc++[q.2]) (if 0<=q.2 then q.2 else p) r
def prod1 (ns:List (List Int)) (ts:List Tm) (rs:List Rl) (p:Y.Prd):R (List Tm×List Rl) :=
 if rs.length=40 then .bad p.l 5 else(rights ns ts [] (-1) p.r).bind fun q=>match p.p with
  | none=>.ok (q.1,rs++[⟨find ns p.l.t,q.2.1,q.2.2⟩])
  | some x=>(symP ns q.1 x).bind fun y=>.ok (y.1,rs++[⟨find ns p.l.t,q.2.1,y.2⟩])
def prods (ns:List (List Int)):List Tm->List Rl->List Y.Prd->R (List Tm×List Rl)
 | ts,rs,[]=>.ok (ts,rs)
 | ts,rs,p::r=>(prod1 ns ts rs p).bind fun q=>prods ns q.1 q.2 r
def start (ns:List (List Int)):Option Tok->R Int
 | none=>.ok 0
 | some x=>if 0<=find ns x.t then .ok (find ns x.t) else .bad x 8
def build (ds:List Y.Dcl) (ps:List Y.Prd):R Gr :=
 (decls ⟨[],[],none,0⟩ ds).bind fun S=>(lefts S.ts [] ps).bind fun ns=>(prods ns S.ts [] ps).bind fun q=>(start ns S.st).bind fun z=>.ok ⟨q.1,ns,q.2,z⟩
end Gm
namespace Gm
theorem zb7 (ts:List Tm):(names ts).length=ts.length:=by simp[names]
theorem put_ok {ts ts':List Tm} {x:Tok} {n:Int} (h:put ts x=.ok (ts',n)):(∃j:Nat,find (names ts) x.t=(j:Int)/\ts'=ts/\n=(j:Int)/\∃hj:j<ts.length,(ts[j]).nm=x.t)\/(x.t ∉ names ts/\ts'=ts++[⟨x.t,0,0⟩]/\n=(ts.length:Int)/\ts.length≠24):=by
 unfold put at h;split at h
 ·rename_i h0
  injection h with h;injection h with h1 h2;obtain⟨i,e,hi,hs⟩:=zhQ h0;rw[zb7]at hi;exact .inl ⟨i,e,h1.symm,by rw[<-h2,e],hi,by simpa[names] using hs⟩
 ·rename_i h0
  split at h
  ·cases h
  ·rename_i aa
   injection h with h;injection h with h1 h2;exact .inr ⟨zaO.1 (by omega),h1.symm,h2.symm,aa⟩
theorem mem_modify {l:List Tm} {f:Tm->Tm} {t:Tm} (h:t∈l.modify n f):t∈l \/ ∃hn:n<l.length,t=f l[n]:=by
 obtain⟨i,hi,rfl⟩:=BB h;rw[EC]at hi;rw[List.getElem_modify];split
 ·rename_i e;subst e;exact .inr ⟨hi,rfl⟩
 ·exact .inl (Ay _)
theorem few:∀(L:Nat) (ts:List Tm),(∀n:Nat,1<=n->n<=L->∃t∈ts,t.lv=(n:Int))->L<=ts.length
 | 0,_,_=>AX _
 | L+1,ts,h=>by
  obtain⟨t,ht,e⟩:=h (L+1) (by omega) (by omega);obtain⟨a,b,rfl⟩:=List.append_of_mem ht
  have:=few L (a++b) (fun n h1 h2=>by
   obtain⟨u,hu,eu⟩:=h n h1 (by omega);refine⟨u,?_,eu⟩;simp only[Bj,Bq]at hu ⊢;rcases hu with q|q|q
   ·exact .inl q
   ·subst q;omega
   ·exact .inr q)
  simp at this ⊢;omega
theorem zc4 {n w:Int} (hw:w≠0):∀(ts:List Tm) (way:Int),(∀t∈ts,t.lv=n->t.wy=w)->way=0\/way=w->way=w\/(∃t∈ts,t.lv=n)->lev n ts way=true
 | [],way,_,_,h=>by
  unfold lev;rcases h with h|⟨t,ht,_⟩
  ·subst h;simpa using hw
  ·simp at ht
 | t::r,way,h1,h2,h3=>by
  rw[lev];by_cases hl:t.lv=n
  ·have e:=h1 t (Bf ..) hl;rw[AB (show ¬t.lv≠n from fun q=>q hl),AB (show ¬(way≠0/\way≠t.wy) from fun q=>by rcases h2 with p|p;exact q.1 p;exact q.2 (p.trans e.symm))];exact zc4 hw r t.wy (fun u hu=>h1 u (Bh _ hu)) (.inr e) (.inl e)
  ·rw[Ap hl];refine zc4 hw r way (fun u hu=>h1 u (Bh _ hu)) h2 ?_;rcases h3 with h3|⟨u,hu,eu⟩
   ·exact .inl h3
   ·rcases Bq.1 hu with q|q
    ·subst q;exact absurd eu hl
    ·exact .inr ⟨u,q,eu⟩
theorem zdP {l:List (List Int)} (hn:l.Nodup) (i:Nat) (hi:i<l.length):find l l[i]=(i:Int) :=
 find_first i hi rfl fun k hk=>fun e=>CN.1 hn k i (by omega) hi hk e
end Gm
namespace Gm
def zit (n:Nat):List Int->Int->Bool
 | [],top=>top==n-1
 | l::r,top=>if l<0\/top+1<l then false else zit n r (if top<l then l else top)
theorem left1_ok {ts:List Tm} {x:Tok} (h:left1 ts ns x=.ok ns'):(ns'=ns/\0<=find ns x.t)\/(ns'=ns++[x.t]/\x.t ∉ ns/\x.t ∉ names ts/\ns.length≠16):=by
 unfold left1 at h;split at h
 ·cases h
 ·rename_i h1
  split at h
  ·rename_i h2
   injection h with h;exact .inl ⟨h.symm,h2⟩
  ·rename_i h2
   split at h
   ·cases h
   ·rename_i h3
    injection h with h;exact .inr ⟨h.symm,zaO.1 (by omega),zaO.1 (by omega),h3⟩
theorem zcx (G:Gr):∀(rs:List Rl) (top:Int),(∀r∈rs,rule G r=true)->zit G.ns.length (rs.map Rl.l) top=true->rules G rs top=true
 | [],_,_,h=>h
 | r::rs,top,hr,h=>by
  rw[Bp,zit]at h;rw[rules];split at h
  ·cases h
  ·rename_i h1
   rw[AB (by rw[hr r (Bf ..)];simp;omega)];exact zcx G rs _ (fun y hy=>hr y (Bh _ hy)) h
end Gm
namespace Gm
theorem pigeons:∀(g:Nat) (l:List Int),l.Nodup->(∀x∈l,1<=x/\x<=g)->l.length<=g/\(l.length=g->∀n:Nat,1<=n->n<=g->(n:Int)∈l)
 | 0,l,_,hb=>by
  have:l=[]:=by
   rcases l with _|⟨x,r⟩
   ·rfl
   ·have:=hb x (by simp);omega
  subst this;exact⟨Ad _,fun _ n h1 h2=>by omega⟩
 | g+1,l,hn,hb=>by
  by_cases hm:((g+1:Nat):Int)∈l
  ·have hl:=List.length_erase_of_mem hm;have ab:0<l.length:=List.length_pos_of_mem hm
   obtain⟨h1,h2⟩:=pigeons g (l.erase ((g+1:Nat):Int)) (hn.erase _) (fun x hx=>by
    have aa:=(hn.mem_erase_iff).1 hx
    have:=hb x aa.2
    have:=aa.1
    omega)
   refine⟨by omega,fun e n q1 q2=>?_⟩;by_cases hg:n=g+1
   ·subst hg;exact hm
   ·exact Bk (h2 (by omega) n q1 (by omega))
  ·obtain⟨h1,_⟩:=pigeons g l hn (fun x hx=>by
    have:=hb x hx
    have:x≠((g+1:Nat):Int):=fun e=>hm (e▸hx)
    omega)
   exact⟨by omega,fun e=>by omega⟩
structure LvGood (ts:List Tm):Prop where
 a:∀t∈ts,asB t=true
 b:∀t∈ts,∀u∈ts,0<t.lv->t.lv=u.lv->t.wy=u.wy
 c:∀t∈ts,∀n:Nat,1<=n->(n:Int)<=t.lv->∃u∈ts,u.lv=(n:Int)
theorem zdc (t:Tm):asB t=true↔0<=t.lv/\0<=t.wy/\t.wy<=3/\(t.lv=0↔t.wy=0):=by
 unfold asB;by_cases h0:t.wy=0
 ·rw[Ap h0];simp only[BH];omega
 ·rw[AB h0];by_cases h1:t.wy=1\/t.wy=2\/t.wy=3
  ·rw[Ap h1];simp only[AV];omega
  ·rw[AB h1];simp only[Di,false_iff];omega
structure Inv (pre:List Tm) (m:List (Int×Int)) (g:Int):Prop where
 n:(m.map Prod.fst).Nodup
 f:∀t∈pre,0<t.lv->Mw.asc m t.lv=some t.wy
 r:∀l w,Mw.asc m l=some w->0<l/\∃t∈pre,t.lv=l/\t.wy=w
 a:∀t∈pre,asB t=true
 g0:0<=g
 g1:∀t∈pre,t.lv<=g
 g2:g=0 \/ ∃t∈pre,t.lv=g
theorem Inv.nil:Inv [] [] 0:=⟨by simp,by simp,fun _ _ h=>by simp[Mw.asc]at h,by simp,Int.le_refl _,by simp,.inl rfl⟩
theorem Inv.key {pre:List Tm} {m:List (Int×Int)} {g:Int} (h:Inv pre m g) {x:Int} (hx:x∈m.map Prod.fst):∃w,Mw.asc m x=some w:=by
 obtain⟨p,hp,rfl⟩:=Bi.1 hx;exact⟨p.2,Mw.asc_of_mem h.n hp⟩
theorem Inv.next {pre:List Tm} {m:List (Int×Int)} {g:Int} {t:Tm} (h:Inv pre m g) (ha:asB t=true) (hc:¬((Mw.asc m t.lv).isSome=true/\(Mw.asc m t.lv).getD 0≠t.wy)):Inv (pre++[t]) (zdJ m t) (max g t.lv):=by
 have hl:=((zdc t).1 ha).1;have b:∀u,u∈pre++[t]↔u∈pre\/u=t:=fun u=>by simp
 have ac:=h.g0
 have d:0<=max g t.lv/\(∀u∈pre++[t],u.lv<=max g t.lv)/\(max g t.lv=0 \/ ∃u∈pre++[t],u.lv=max g t.lv):=by
  refine⟨by omega,fun u hu=>?_,?_⟩
  ·rcases(b u).1 hu with q|rfl
   ·have:=h.g1 u q;omega
   ·omega
  ·by_cases ad:g<=t.lv
   ·exact .inr ⟨t,(b t).2 (.inr rfl),by omega⟩
   ·rcases h.g2 with q|⟨u,hu,e⟩
    ·omega
    ·exact .inr ⟨u,(b u).2 (.inl hu),by omega⟩
 have aa:∀u∈pre++[t],asB u=true:=fun u hu=>by
  rcases(b u).1 hu with q|rfl
  ·exact h.a u q
  ·exact ha
 unfold zdJ;by_cases hp:0<t.lv
 ·rw[Ap hp];cases hq:Mw.asc m t.lv with
  | none =>
   rw[Ap rfl];refine⟨?_,?_,?_,aa,d.1,d.2.1,d.2.2⟩
   ·rw[AW,Ci];refine⟨h.n,by simp,fun x hx y hy e=>?_⟩;simp only[Bp,CU,AF]at hy;obtain⟨w,hw⟩:=h.key hx;rw[e,hy,hq]at hw;cases hw
   ·intro u hu h0;rw[Mw.asc_snoc hq];rcases(b u).1 hu with q|rfl
    ·have:=h.f u q h0
     by_cases e:t.lv=u.lv
     ·rw[<-e,hq]at this;cases this
     ·rw[AB e];exact this
    ·rw[Ap rfl]
   ·intro l w hw;rw[Mw.asc_snoc hq]at hw;by_cases e:t.lv=l
    ·rw[Ap e]at hw;injection hw with hw;exact⟨by omega,t,(b t).2 (.inr rfl),e,hw⟩
    ·rw[AB e]at hw;obtain⟨h1,u,hu,h2⟩:=h.r l w hw;exact⟨h1,u,(b u).2 (.inl hu),h2⟩
  | some w =>
   rw[AB (by simp)];have ab:w=t.wy:=BO fun e=>hc (by rw[hq];exact⟨rfl,e⟩);refine⟨h.n,?_,?_,aa,d.1,d.2.1,d.2.2⟩
   ·intro u hu h0;rcases(b u).1 hu with q|rfl
    ·exact h.f u q h0
    ·rw[hq,ab]
   ·intro l w hw;obtain⟨h1,u,hu,h2⟩:=h.r l w hw;exact⟨h1,u,(b u).2 (.inl hu),h2⟩
 ·rw[AB hp];refine⟨h.n,?_,?_,aa,d.1,d.2.1,d.2.2⟩
  ·intro u hu h0;rcases(b u).1 hu with q|rfl
   ·exact h.f u q h0
   ·exact absurd h0 hp
  ·intro l w hw;obtain⟨h1,u,hu,h2⟩:=h.r l w hw;exact⟨h1,u,(b u).2 (.inl hu),h2⟩
theorem zgZ:∀(r pre:List Tm) (m:List (Int×Int)) (g:Int),Inv pre m g->(rlF r m g=true↔LvGood (pre++r))
 | [],pre,m,g,h=>by
  rw[Co,rlF,BH]
  have aa:∀x∈m.map Prod.fst,1<=x/\x<=(g.toNat:Int):=fun x hx=>by
   obtain⟨w,hw⟩:=h.key hx;obtain⟨h1,u,hu,h2,_⟩:=h.r x w hw
   have:=h.g1 u hu
   have:=h.g0
   omega
  obtain⟨p1,p2⟩:=pigeons g.toNat (m.map Prod.fst) h.n aa;rw[Bb]at p1 p2;have ac:=h.g0
  constructor
  ·intro e;refine⟨h.a,fun t ht u hu h0 e'=>?_,fun t ht n q1 q2=>?_⟩
   ·have a1:=h.f t ht h0;have a2:=h.f u hu (by omega);rw[e',a2]at a1;injection a1 with a1;exact a1.symm
   ·have:=h.g1 t ht
    have hk:=p2 (by omega) n q1 (by omega);obtain⟨w,hw⟩:=h.key hk;obtain⟨_,u,hu,h2,_⟩:=h.r _ w hw;exact⟨u,hu,h2⟩
  ·intro ab;rcases h.g2 with q|⟨t,ht,e⟩
   ·omega
   ·have:g.toNat<=(m.map Prod.fst).length:=by
     have hh:∀n:Nat,1<=n->n<=g.toNat->∃t∈m.map (fun p=>(⟨[],p.1,0⟩:Tm)),t.lv=(n:Int):=fun n q1 q2=>by
      obtain⟨u,hu,e2⟩:=ab.c t ht n q1 (by omega)
      have:=h.f u hu (by omega)
      rw[e2]at this;exact⟨_,Bi.2 ⟨_,Mw.asc_mem this,rfl⟩,rfl⟩
     have:=few g.toNat _ hh
     simpa using this
    rw[Bb]at this;omega
 | t::r,pre,m,g,h=>by
  rw[rlF];by_cases ha:asB t=false
  ·rw[Ap ha];simp only[Di,false_iff];intro q
   have:=q.a t (by simp)
   rw[ha]at this;cases this
  ·rw[AB ha];have ha:asB t=true:=by simpa using ha
   by_cases hc:(Mw.asc m t.lv).isSome=true/\(Mw.asc m t.lv).getD 0≠t.wy
   ·rw[Ap hc];simp only[Di,false_iff];intro q;cases hq:Mw.asc m t.lv with
    | none=>rw[hq]at hc;simp at hc
    | some w =>
     rw[hq]at hc;obtain⟨h1,u,hu,h2,h3⟩:=h.r _ w hq
     have:=q.b u (by simp[hu]) t (by simp) (by omega) h2
     exact hc.2 (by simp only[Bm];omega)
   ·rw[AB hc,zgZ r (pre++[t]) _ _ (h.next ha hc),BW,D7]
theorem zc5 {n:Int}:∀(ts:List Tm) (way:Int),(∀t∈ts,t.lv=n->t.wy≠0)->lev n ts way=true->(way≠0 \/ ∃t∈ts,t.lv=n)/\∃w,(way=0\/way=w)/\∀t∈ts,t.lv=n->t.wy=w
 | [],way,_,h=>by
  rw[lev]at h
  have:way≠0:=by simpa using h
  exact⟨.inl this,way,.inr rfl,by simp⟩
 | t::r,way,hn,h=>by
  rw[lev]at h;by_cases h1:t.lv≠n
  ·rw[Ap h1]at h;obtain⟨a,w,b,c⟩:=zc5 r way (fun u hu=>hn u (by simp[hu])) h;refine⟨?_,w,b,fun u hu e=>?_⟩
   ·rcases a with a|⟨u,hu,e⟩
    ·exact .inl a
    ·exact .inr ⟨u,by simp[hu],e⟩
   ·rcases Bq.1 hu with rfl|hu
    ·exact absurd e h1
    ·exact c u hu e
  ·rw[AB h1]at h;have h1:t.lv=n:=BO h1;by_cases h2:way≠0/\way≠t.wy
   ·rw[Ap h2]at h;cases h
   ·rw[AB h2]at h;obtain⟨a,w,b,c⟩:=zc5 r t.wy (fun u hu=>hn u (by simp[hu])) h
    have hw:t.wy=w:=by
     rcases b with b|b
     ·exact absurd b (hn t (by simp) h1)
     ·exact b
    refine⟨.inr ⟨t,by simp,h1⟩,w,?_,fun u hu e=>?_⟩
    ·by_cases aa:way=0
     ·exact .inl aa
     ·refine .inr (BO fun q=>h2 ⟨aa,fun e=>q (e.trans hw)⟩)
    ·rcases Bq.1 hu with rfl|hu
     ·exact hw
     ·exact c u hu e
def zm0 (ts:List Tm):Prop:=∀t∈ts,0<=t.lv/\t.lv<=24/\0<=t.wy/\t.wy<=3/\(t.lv=0↔t.wy=0)/\∀n:Nat,n<t.lv.toNat->lev ((n+1:Nat):Int) ts 0=true
theorem zjL {ts:List Tm} (hl:ts.length<=24):LvGood ts↔zm0 ts:=by
 constructor
 ·intro h t ht;have ha:=(zdc t).1 (h.a t ht);have aa:t.lv.toNat<=ts.length:=few t.lv.toNat ts fun n q1 q2=>h.c t ht n q1 (by omega);refine⟨ha.1,by omega,ha.2.1,ha.2.2.1,ha.2.2.2,fun n hn=>?_⟩;obtain⟨u,hu,e⟩:=h.c t ht (n+1) (by omega) (by omega);have ab:=(zdc u).1 (h.a u hu);exact zc4 (w:=u.wy) (by omega) ts 0 (fun x hx ex=>(h.b u hu x hx (by omega) (by omega)).symm) (.inl rfl) (.inr ⟨u,hu,e⟩)
 ·intro h;refine⟨fun t ht=>(zdc t).2 ?_,fun t ht u hu h0 e=>?_,fun t ht n q1 q2=>?_⟩
  ·obtain⟨h1,h2,h3,h4,h5,_⟩:=h t ht;exact⟨h1,h3,h4,h5⟩
  ·obtain⟨h1,h2,h3,h4,h5,h6⟩:=h t ht;have hl:=h6 (t.lv.toNat-1) (by omega);have hn:((t.lv.toNat-1+1:Nat):Int)=t.lv:=by omega
   rw[hn]at hl;obtain⟨_,w,_,c⟩:=zc5 ts 0 (fun x hx ex q=>by have:=(h x hx).2.2.2.2.1;omega) hl;rw[c t ht rfl,c u hu e.symm]
  ·obtain⟨h1,h2,h3,h4,h5,h6⟩:=h t ht;have hl:=h6 (n-1) (by omega);have hn:((n-1+1:Nat):Int)=(n:Int):=by omega
   rw[hn]at hl;obtain⟨a,_⟩:=zc5 ts 0 (fun x hx ex q=>by have:=(h x hx).2.2.2.2.1;omega) hl;rcases a with a|a
   ·exact absurd rfl a
   ·exact a
theorem zcD {l:List (List Int)} (h:∀i (hi:i<l.length),find l l[i]=(i:Int)):l.Nodup:=by
 rw[BU,CN];intro i j hi hj aa e;have h1:=h i hi;have h2:=h j hj;rw[e,h2]at h1;omega
theorem terms_iff (ts:List Tm):terms ts=true↔ts.length<=24/\(∀t∈ts,named t.nm=true)/\(names ts).Nodup/\zm0 ts:=by
 unfold terms;rw[AQ,AV,AV];have ab:(names ts).length=ts.length:=zb7 ts;have aa:∀i (h:i<ts.length),(names ts)[i]'(by omega)=ts[i].nm:=fun i h=>by simp[names]
 constructor
 ·rintro⟨h1,h2⟩
  have h3:∀i (h:i<ts.length),named ts[i].nm=true/\find (names ts) ts[i].nm=(i:Int)/\0<=ts[i].lv/\ts[i].lv<=24/\0<=ts[i].wy/\ts[i].wy<=3/\(ts[i].lv=0↔ts[i].wy=0)/\∀n:Nat,n<ts[i].lv.toNat->lev ((n+1:Nat):Int) ts 0=true:=fun i h=>by
   have:=h2 i h
   unfold term1 at this;simp only[AQ,AV,BH]at this;obtain⟨⟨⟨⟨⟨⟨⟨a,b⟩,c⟩,d⟩,e⟩,f⟩,g⟩,k⟩:=this;refine⟨a,b,c,d,e,f,?_,k⟩;rw[Bn,BH,BH]at g;exact g
  refine⟨h1,fun t ht=>?_,zcD fun i hi=>?_,fun t ht=>?_⟩
  ·obtain⟨i,hi,rfl⟩:=BB ht;exact(h3 i hi).1
  ·rw[aa i (by omega)];exact(h3 i (by omega)).2.1
  ·obtain⟨i,hi,rfl⟩:=BB ht;exact(h3 i hi).2.2
 ·rintro⟨h1,h2,h3,h4⟩;refine⟨h1,fun i hi=>?_⟩;unfold term1;simp only[AQ,AV,BH];obtain⟨c,d,e,f,g,k⟩:=h4 _ (Ay hi);refine⟨⟨⟨⟨⟨⟨⟨h2 _ (Ay hi),?_⟩,c⟩,d⟩,e⟩,f⟩,?_⟩,k⟩
  ·rw[<-aa i hi];exact zdP h3 i (by omega)
  ·rw[Bn,BH,BH];exact g
theorem nons_iff (G:Gr):nons G=true↔1<=G.ns.length/\G.ns.length<=16/\(∀s∈G.ns,T.isName s=true)/\G.ns.Nodup/\∀s∈G.ns,s ∉ names G.ts:=by
 unfold nons;rw[AQ,AQ,AV,AV,AV]
 constructor
 ·rintro⟨⟨h1,h2⟩,h3⟩
  have h4:∀i (h:i<G.ns.length),T.isName G.ns[i]=true/\find G.ns G.ns[i]=(i:Int)/\find (names G.ts) G.ns[i]<0:=fun i h=>by
   have:=h3 i h
   unfold non1 non term at this;simp only[AQ,AV,BH]at this;exact⟨this.1.1,this.1.2,this.2⟩
  refine⟨h1,h2,fun s hs=>?_,zcD fun i hi=>(h4 i hi).2.1,fun s hs=>?_⟩
  ·obtain⟨i,hi,rfl⟩:=BB hs;exact(h4 i hi).1
  ·obtain⟨i,hi,rfl⟩:=BB hs;exact zaO.1 (h4 i hi).2.2
 ·rintro⟨h1,h2,h3,h4,h5⟩;refine⟨⟨h1,h2⟩,fun i hi=>?_⟩;unfold non1 non term;simp only[AQ,AV,BH];exact⟨⟨h3 _ (Ay hi),zdP h4 i hi⟩,zaO.2 (h5 _ (Ay hi))⟩
theorem zlH (G:Gr):rnB G=true↔G.ts.length<=24/\1<=G.ns.length/\G.ns.length<=16/\(∀t∈G.ts,named t.nm=true)/\(∀s∈G.ns,T.isName s=true)/\(names G.ts++G.ns).Nodup:=by
 unfold rnB nmL;simp only[AQ,AV,BP,Bb];have h:=(zmI [] (names G.ts++G.ns) (by simp)).2;simp only[Ey,Bu,De,AU,zb7]at h;rw[h]
 constructor
 ·rintro⟨⟨⟨⟨⟨a,b⟩,c⟩,d⟩,e⟩,f⟩;exact⟨a,b,c,d,e,f⟩
 ·rintro⟨a,b,c,d,e,f⟩;exact⟨⟨⟨⟨⟨a,b⟩,c⟩,d⟩,e⟩,f⟩
theorem zni (G:Gr) (x:Rl):ruB G x=rule G x:=by
 rw[Bn];unfold ruB rule
 have hn:x.r.any (zbv G)=false ↔ ∀z∈x.r,has G z=true:=by
  rw[DI];unfold zbv
  constructor
  ·intro h z hz;have:=h z hz;simpa using this
  ·intro h z hz;rw[h z hz];simp
 have ht:x.r.any isT=false ↔ ∀z∈x.r,¬0<=z:=by
  rw[DI];unfold isT
  constructor
  ·intro h z hz;simpa using h z hz
  ·intro h z hz;simpa using h z hz
 simp only[AQ,AV,Ec,BP,hn];by_cases hp:x.p = -1
 ·rw[Ap hp];simp only[Ec,ht,hp,beq_self_eq_true,Bool.and_true,ED]
  constructor
  ·rintro⟨⟨a,b⟩,c⟩;exact⟨⟨⟨a,by omega⟩,by omega⟩,fun z hz=>⟨b z hz,c z hz⟩⟩
  ·rintro⟨⟨⟨a,_⟩,_⟩,b⟩;exact⟨⟨a,fun z hz=>(b z hz).1⟩,fun z hz=>(b z hz).2⟩
 ·rw[AB hp];have aa:(x.p == -1)=false:=by simpa using hp
  simp only[aa,Bool.and_false,and_true,AQ];unfold isT has;rw[AV]
  constructor
  ·rintro⟨⟨a,b⟩,c,d⟩;rw[Ap c,AV]at d;exact⟨⟨⟨a,by omega⟩,d⟩,b⟩
  ·rintro⟨⟨⟨a,b⟩,c⟩,d⟩;have h0:0<=x.p:=by omega
   exact⟨⟨a,d⟩,h0,by rw[Ap h0,AV];exact c⟩
theorem zlD (G:Gr):∀(rs:List Rl) (top:Int),rrF G rs (top+1)=rules G rs top
 | [],top=>by
  rw[rrF,rules,Bn,BH,BH];omega
 | r::rs,top=>by
  rw[rrF,rules,zni];by_cases h:r.l<0\/top+1<r.l\/rule G r=false
  ·rw[Ap h,Ap h]
  ·rw[AB h,AB h];rw[<-zlD G rs]
   congr 1
   by_cases h2:top<r.l
   ·rw[Ap h2];omega
   ·rw[AB h2];omega
theorem right_eq (G:Gr):zbO G=right G:=by
 rw[Bn];unfold zbO right rrB;have aa:=zlD G G.rs (-1);rw[show(-1:Int)+1=0 from rfl]at aa;simp only[AQ,AV,aa,zlH,terms_iff,nons_iff];have ab:=zgZ G.ts [] [] 0 Inv.nil;rw[De]at ab;rw[ab,Ci]
 constructor
 ·rintro⟨⟨⟨⟨⟨a,b,c,d,e,f1,f2,f3⟩,g⟩,h,k⟩,l⟩,m⟩;refine⟨⟨⟨⟨⟨⟨⟨a,d,f1,(zjL a).1 g⟩,b,c,e,f2,fun s hs q=>f3 s q s hs rfl⟩,?_⟩,h⟩,l⟩,m⟩,k⟩;rcases hz:G.rs with _|⟨x,r⟩
  ·rw[hz,rules,BH]at k;omega
  ·simp
 ·rintro⟨⟨⟨⟨⟨⟨⟨a,d,f1,g⟩,b,c,e,f2,f3⟩,_⟩,h⟩,l⟩,m⟩,k⟩;exact⟨⟨⟨⟨⟨a,b,c,d,e,f1,f2,fun s hs q hq ee=>f3 q hq (ee▸hs)⟩,(zjL a).2 g⟩,h,k⟩,l⟩,m⟩
end Gm
theorem zaq (v:Value) (G:Gm.Gr) (B:Nat) (w:World) (hg:aQ w B v G) (hf:Gm.Fit G) (hB:B<=w.heap.size) :
  Calls Tryz.prog 35 #[v] w fun e w'=>e=.returned (.bool (Gm.right G))/\Below w.heap.size w w':=by
 rw[<-Gm.right_eq];exact zf6 v G B w hg hf hB
namespace Gm
noncomputable def tr (p:Prop):Bool:=@decide p (Classical.propDecidable p)
theorem tr_iff {p:Prop}:tr p=true↔p:=by unfold tr;exact @Ca p (Classical.propDecidable p)
inductive Gn (tm:Bool) (rs:List Rl):Int->Prop
 | mk (x:Rl) (hx:x∈rs) (ht:∀z∈x.r,0<=z->tm=true) (hn:∀z∈x.r,z<0->Gn tm rs (-1-z)):Gn tm rs x.l
def Al (tm:Bool) (rs:List Rl) (r:List Int):Prop:=(∀z∈r,0<=z->tm=true)/\∀z∈r,z<0->Gn tm rs (-1-z)
theorem Gn.of {rs:List Rl} {x:Rl} (hx:x∈rs) (h:Al tm rs x.r):Gn tm rs x.l:=.mk x hx h.1 h.2
theorem Gn.rule {rs:List Rl} (h:Gn tm rs j):∃x∈rs,x.l=j/\Al tm rs x.r:=by
 cases h with
 | mk x hx ht hn=>exact⟨x,hx,rfl,ht,hn⟩
theorem Gn.more {rs rs':List Rl} (hs:∀x∈rs,x∈rs') (h:Gn tm rs j):Gn tm rs' j:=by
 induction h with
 | mk x hx ht _ ih=>exact .mk x (hs x hx) ht ih
inductive Rc (G:Gr):Int->Prop
 | st:Rc G G.st
 | on (x:Rl) (hx:x∈G.rs) (h:Rc G x.l) (hp:Al true G.rs x.r) (z:Int) (hz:z∈x.r) (hn:z<0):Rc G (-1-z)
theorem Al.more {tm:Bool} {rs rs':List Rl} (hs:∀x∈rs,x∈rs') {r:List Int} (h:Al tm rs r):Al tm rs' r:=⟨h.1,fun z hz hn=>(h.2 z hz hn).more hs⟩
theorem Rc.more {G H:Gr} (hs:∀x∈G.rs,x∈H.rs) (he:G.st=H.st) {j:Int} (h:Rc G j):Rc H j:=by
 induction h with
 | st=>rw[he];exact .st
 | on x hx _ hp z hz hn ih=>exact .on x (hs x hx) ih (hp.more hs) z hz hn
noncomputable def gn (tm:Bool) (rs:List Rl) (n:Nat):List Bool:=(List.range n).map fun i:Nat=>tr (Gn tm rs (i:Int))
noncomputable def rc (G:Gr):List Bool:=(List.range G.ns.length).map fun i:Nat=>tr (Rc G (i:Int))
theorem gn_len (tm:Bool) (rs:List Rl) (n:Nat):(gn tm rs n).length=n:=by simp[gn]
theorem rc_len (G:Gr):(rc G).length=G.ns.length:=by simp[rc]
theorem gn_at (tm:Bool) (rs:List Rl) (n i:Nat) (h:i<n):(gn tm rs n).getD i false=tr (Gn tm rs (i:Int)):=by simp[gn,h]
theorem rc_at (G:Gr) (i:Nat) (h:i<G.ns.length):(rc G).getD i false=tr (Rc G (i:Int)):=by simp[rc,h]
def Le:List Bool->List Bool->Prop
 | [],[]=>True
 | a::r,b::s=>(a=true->b=true)/\Le r s
 | _,_=>False
theorem Le.refl:∀s,Le s s
 | []=>trivial
 | _::s=>⟨id,Le.refl s⟩
theorem Le.trans:∀ {a b c:List Bool},Le a b->Le b c->Le a c
 | [],[],[],_,_=>trivial
 | _::_,_::_,_::_,h,k=>⟨fun e=>k.1 (h.1 e),h.2.trans k.2⟩
 | [],_::_,_,h,_=>h.elim
 | _::_,[],_,h,_=>h.elim
 | [],[],_::_,_,k=>k.elim
 | _::_,_::_,[],_,k=>k.elim
theorem Le.len:∀ {a b:List Bool},Le a b->a.length=b.length
 | [],[],_=>rfl
 | _::_,_::_,h=>by simp[h.2.len]
 | [],_::_,h=>h.elim
 | _::_,[],h=>h.elim
theorem Le.anti:∀ {a b:List Bool},Le a b->Le b a->a=b
 | [],[],_,_=>rfl
 | x::a,y::b,h,k=>by
  rw[h.2.anti k.2];cases x <;> cases y <;> simp_all [Le]
 | [],_::_,h,_=>h.elim
 | _::_,[],h,_=>h.elim
theorem Le.get:∀ {a b:List Bool} (i:Nat),Le a b->a.getD i false=true->b.getD i false=true
 | [],[],_,_,h=>h
 | _::_,_::_,0,h,e=>h.1 e
 | _::_,_::_,i+1,h,e=>by
  simp only[List.getD_cons_succ]at e ⊢;exact h.2.get i e
 | [],_::_,_,h,_=>h.elim
 | _::_,[],_,h,_=>h.elim
theorem Le.of:∀ {a b:List Bool},a.length=b.length->(∀i,a.getD i false=true->b.getD i false=true)->Le a b
 | [],[],_,_=>trivial
 | x::a,y::b,h,k=>⟨fun e=>k 0 e,Le.of (by simpa using h) fun i e=>by simpa using k (i+1) (by simpa using e)⟩
 | [],_::_,h,_=>by simp at h
 | _::_,[],h,_=>by simp at h
theorem Le.set:∀(s:List Bool) (i:Nat),Le s (s.set i true)
 | [],_=>trivial
 | _::s,0=>⟨fun _=>rfl,Le.refl s⟩
 | _::s,i+1=>⟨id,Le.set s i⟩
def ct (s:List Bool):Nat:=s.count true
theorem Le.ct:∀ {a b:List Bool},Le a b->ct a<=ct b
 | [],[],_=>Ad _
 | x::a,y::b,h=>by
  have:=h.2.ct
  unfold Gm.ct at *;cases x <;> cases y <;> simp_all [Le] <;> omega
 | [],_::_,h=>h.elim
 | _::_,[],h=>h.elim
theorem Le.ct_eq:∀ {a b:List Bool},Le a b->Gm.ct b<=Gm.ct a->a=b
 | [],[],_,_=>rfl
 | x::a,y::b,h,k=>by
  have h2:=h.2.ct;have h3:=h.2.ct_eq;unfold Gm.ct at *;cases x <;> cases y <;> simp_all [Le] <;> omega
 | [],_::_,h,_=>h.elim
 | _::_,[],h,_=>h.elim
theorem znR (s:List Bool):ct s<=s.length:=List.count_le_length
def aV (f:List Bool->List Bool):Nat->List Bool->List Bool
 | 0,s=>s
 | n+1,s=>f (aV f n s)
theorem zbi {f:List Bool->List Bool} (h:∀s,Le s (f s)) (n:Nat) (s:List Bool):Le s (aV f n s):=by
 induction n with
 | zero=>exact Le.refl s
 | succ n ih=>exact ih.trans (h _)
theorem zbT {f:List Bool->List Bool} (h:∀s,Le s (f s)) (s:List Bool):f (aV f s.length s)=aV f s.length s:=by
 have key:∀n,f (aV f n s)=aV f n s\/n<=ct (aV f n s):=by
  intro n;induction n with
  | zero=>exact .inr (AX _)
  | succ n ih =>
   by_cases hf:f (aV f n s)=aV f n s
   ·left;show f (f (aV f n s))=f (aV f n s);rw[hf,hf]
   ·right
    rcases ih with ih|ih
    ·exact absurd ih hf
    ·have h1:=(h (aV f n s)).ct;have h2:¬ct (f (aV f n s))<=ct (aV f n s):=fun hc=>hf ((h _).ct_eq hc).symm
     show n+1<=ct (f (aV f n s))
     omega
 rcases key s.length with h1|h1
 ·exact h1
 ·refine((h _).ct_eq ?_).symm
  have:=(zbi h s.length s).len
  have h2:=znR (f (aV f s.length s));have h3:=(h (aV f s.length s)).len;omega
theorem za9 {α:Type} (g:List Bool->α->List Bool) (h:∀s x,Le s (g s x)):∀(xs:List α) (s:List Bool),Le s (xs.foldl g s)
 | [],s=>Le.refl s
 | x::xs,s=>(h s x).trans (za9 g h xs _)
theorem zbp {α:Type} (g:List Bool->α->List Bool) (h:∀s x,Le s (g s x)):∀(xs:List α) (s:List Bool),xs.foldl g s=s->∀x∈xs,g s x=s
 | [],_,_=>by simp
 | x::xs,s,e=>by
  have h1:Le (g s x) s:=by
   have:=za9 g h xs (g s x)
   rw[CZ]at e
   rwa [e]at this
  have h2:g s x=s:=h1.anti (h s x);intro y hy;rcases Bq.1 hy with rfl|hy
  ·exact h2
  ·rw[CZ,h2]at e;exact zbp g h xs s e y hy
def allB (tm:Bool) (is:List Bool) (r:List Int):Bool:=r.all fun z=>if 0<=z then tm else is.getD (-1-z).toNat false
def Snd (tm:Bool) (rs:List Rl) (is:List Bool):Prop:=∀i:Nat,is.getD i false=true->Gn tm rs (i:Int)
def Cls (tm:Bool) (rs:List Rl) (is:List Bool):Prop:=∀x∈rs,allB tm is x.r=true->is.getD x.l.toNat false=true
theorem Snd.none (tm:Bool) (rs:List Rl) (n:Nat):Snd tm rs (List.replicate n false):=fun i h=>by
 rw[Ai,Cu]at h;split at h <;> cases h
theorem Snd.all {rs:List Rl} {is:List Bool} (h:Snd tm rs is) (e:allB tm is r=true):Al tm rs r:=by
 unfold allB at e;rw[BP]at e;refine⟨fun z hz h0=>?_,fun z hz h0=>?_⟩
 ·have:=e z hz
  rwa [Ap h0]at this
 ·have:=e z hz
  rw[AB (by omega)]at this
  have:=h _ this
  rwa [Br (by omega)]at this
theorem getD_set (s:List Bool) (i j:Nat) (h:(s.set i true).getD j false=true):s.getD j false=true\/j=i:=by
 by_cases e:i=j
 ·exact .inr e.symm
 ·left
  rwa [Ai,Ek e,<-Ai]at h
theorem set_getD (s:List Bool) (i:Nat) (h:i<s.length):(s.set i true).getD i false=true:=by
 simp[Ai,h]
theorem Snd.set {rs:List Rl} {is:List Bool} (h:Snd tm rs is) {x:Rl} (hx:x∈rs) (h0:0<=x.l) (e:allB tm is x.r=true):Snd tm rs (is.set x.l.toNat true):=fun i hi=>by
 rcases getD_set _ _ _ hi with h1|h1
 ·exact h i h1
 ·subst h1;rw[Br h0];exact Gn.of hx (h.all e)
def Lin (n:Nat) (rs:List Rl):Prop:=∀x∈rs,0<=x.l/\x.l<(n:Int)
theorem zmy {rs:List Rl} {is:List Bool} (h:Cls tm rs is) (hj:Gn tm rs j):is.getD j.toNat false=true:=by
 induction hj with
 | mk x hx ht _ ih =>
  refine h x hx ?_;unfold allB;rw[BP];intro z hz;by_cases h0:0<=z
  ·rw[Ap h0];exact ht z hz h0
  ·rw[AB h0];exact ih z hz (by omega)
theorem gn_row {rs:List Rl} {is:List Bool} (hn:is.length=n) (hs:Snd tm rs is) (hc:Cls tm rs is):is=gn tm rs n:=by
 refine CJ (by rw[hn,gn_len]) fun i h1 h2=>?_;have e1:is.getD i false=is[i]:=by simp[Ai,h1]
 have e2:(gn tm rs n).getD i false=(gn tm rs n)[i]:=by simp[Ai,h2]
 rw[<-e1,<-e2,gn_at _ _ _ _ (by omega)];rw[Bn,tr_iff];refine⟨hs i,fun h=>?_⟩
 have:=zmy hc h
 simpa using this
def zex (tm:Bool) (is:List Bool) (x:Rl):List Bool:=if allB tm is x.r=true then is.set x.l.toNat true else is
def zhM (tm:Bool) (rs:List Rl) (is:List Bool):List Bool:=rs.foldl (zex tm) is
theorem zfd (tm:Bool) (is:List Bool) (x:Rl):Le is (zex tm is x):=by
 unfold zex;split
 ·exact Le.set _ _
 ·exact Le.refl _
theorem zfb {tm:Bool} {rs:List Rl} {n:Nat} (hl:Lin n rs):∀(xs:List Rl) (is:List Bool),(∀x∈xs,x∈rs)->Snd tm rs is->Snd tm rs (xs.foldl (zex tm) is)
 | [],_,_,h=>h
 | x::xs,is,hx,h=>by
  refine zfb hl xs _ (fun y hy=>hx y (Bh _ hy)) ?_;unfold zex;split
  ·rename_i e
   exact h.set (hx x (Bf ..)) (hl x (hx x (Bf ..))).1 e
  ·exact h
theorem zgt {rs:List Rl} (hl:Lin n rs) (k:Nat) {is:List Bool} (h:Snd tm rs is):Snd tm rs (aV (zhM tm rs) k is):=by
 induction k with
 | zero=>exact h
 | succ k ih=>exact zfb hl rs _ (fun _ h=>h) ih
theorem zkW {rs:List Rl} (hl:Lin n rs) {is:List Bool} (hn:is.length=n) (h:zhM tm rs is=is):Cls tm rs is:=fun x hx e=>by
 have:=zbp (zex tm) (zfd tm) rs is h x hx
 unfold zex at this;rw[Ap e]at this;rw[<-this]
 have:=hl x hx
 exact set_getD _ _ (by omega)
theorem grow_gn {rs:List Rl} (hl:Lin n rs):aV (zhM tm rs) n (List.replicate n false)=gn tm rs n:=by
 have aa:∀s,Le s (zhM tm rs s):=fun s=>za9 _ (zfd tm) rs s;have h0:(List.replicate n false).length=n:=by simp
 have h1:(aV (zhM tm rs) n (List.replicate n false)).length=n:=by rw[<-(zbi aa n _).len,h0]
 refine gn_row h1 (zgt hl n (Snd.none tm rs n)) (zkW hl h1 ?_)
 have:=zbT aa (List.replicate n false)
 rwa [h0]at this
end Gm
namespace Gm
theorem Gn.lin {rs:List Rl} (hl:Lin n rs) (h:Gn tm rs j):0<=j/\j<n:=by
 obtain⟨x,hx,rfl,_⟩:=h.rule;exact hl x hx
theorem zcH {rs:List Rl} (hl:Lin n rs) (h0:0<=j):(gn tm rs n).getD j.toNat false=true↔Gn tm rs j:=by
 constructor
 ·intro h;rcases Bz j.toNat n with h1|h1
  ·rw[gn_at _ _ _ _ h1,tr_iff,Br h0]at h;exact h
  ·rw[Ai,B6 (by rw[gn_len];omega)]at h;cases h
 ·intro h
  have:=h.lin hl
  rw[gn_at _ _ _ _ (by omega),tr_iff,Br h0];exact h
theorem allB_gn {rs:List Rl} (hl:Lin n rs) (r:List Int):allB tm (gn tm rs n) r=true↔Al tm rs r:=by
 constructor
 ·intro e;unfold allB at e;rw[BP]at e;refine⟨fun z hz h0=>?_,fun z hz h0=>?_⟩
  ·have:=e z hz;rwa [Ap h0]at this
  ·have:=e z hz
   rw[AB (by omega)]at this;exact(zcH hl (by omega)).1 this
 ·intro h;unfold allB;rw[BP];intro z hz;by_cases h0:0<=z
  ·rw[Ap h0];exact h.1 z hz h0
  ·rw[AB h0];exact(zcH hl (by omega)).2 (h.2 z hz (by omega))
def Sin (n:Nat) (r:List Int):Prop:=∀z∈r,z<0->-1-z<(n:Int)
def zlp (G:Gr) (is:List Bool):Prop:=∀i:Nat,is.getD i false=true->Rc G (i:Int)
def ClsR (G:Gr) (is:List Bool):Prop:=is.getD G.st.toNat false=true/\∀x∈G.rs,is.getD x.l.toNat false=true->Al true G.rs x.r->∀z∈x.r,z<0->is.getD (-1-z).toNat false=true
theorem zlO {G:Gr} {is:List Bool} (h:ClsR G is) (hj:Rc G j):is.getD j.toNat false=true:=by
 induction hj with
 | st=>exact h.1
 | on x hx _ hp z hz hn ih=>exact h.2 x hx ih hp z hz hn
theorem rc_row {G:Gr} {is:List Bool} (hn:is.length=G.ns.length) (hs:zlp G is) (hc:ClsR G is):is=rc G:=by
 refine CJ (by rw[hn,rc_len]) fun i h1 h2=>?_;have e1:is.getD i false=is[i]:=by simp[Ai,h1]
 have e2:(rc G).getD i false=(rc G)[i]:=by simp[Ai,h2]
 rw[<-e1,<-e2,rc_at _ _ (by omega)];rw[Bn,tr_iff];refine⟨hs i,fun h=>?_⟩
 have:=zlO hc h
 simpa using this
def zdI (s:List Bool) (z:Int):List Bool:=if z<0 then s.set (-1-z).toNat true else s
def zi6 (s:List Bool) (r:List Int):List Bool:=r.foldl zdI s
theorem ze5 (s:List Bool) (z:Int):Le s (zdI s z):=by
 unfold zdI;split
 ·exact Le.set _ _
 ·exact Le.refl _
theorem ze3 (s:List Bool) (r:List Int):Le s (zi6 s r):=za9 _ ze5 r s
theorem ze4:∀(r:List Int) (s:List Bool) (i:Nat),(zi6 s r).getD i false=true->s.getD i false=true \/ ∃z∈r,z<0/\i=(-1-z).toNat
 | [],_,_,h=>.inl h
 | z::r,s,i,h=>by
  rcases ze4 r (zdI s z) i h with h1|⟨y,hy,h1⟩
  ·unfold zdI at h1;split at h1
   ·rcases getD_set _ _ _ h1 with h2|h2
    ·exact .inl h2
    ·exact .inr ⟨z,Bf ..,by assumption,h2⟩
   ·exact .inl h1
  ·exact .inr ⟨y,Bh _ hy,h1⟩
theorem zdH:∀(r:List Int) (s:List Bool),Sin s.length r->∀z∈r,z<0->(zi6 s r).getD (-1-z).toNat false=true
 | [],_,_=>by simp
 | y::r,s,hi=>by
  intro z hz hn;have hl:(zdI s y).length=s.length:=(ze5 s y).len.symm;rcases Bq.1 hz with rfl|hz
  ·refine(ze3 (zdI s z) r).get _ ?_;unfold zdI;rw[Ap hn]
   have:=hi z (Bf ..) hn
   exact set_getD _ _ (by omega)
  ·exact zdH r _ (by rw[hl];exact fun u hu h=>hi u (Bh _ hu) h) z hz hn
def zcy (p is:List Bool) (x:Rl):List Bool:=if is.getD x.l.toNat false=true/\allB true p x.r=true then zi6 is x.r else is
def zeR (p:List Bool) (rs:List Rl) (is:List Bool):List Bool:=rs.foldl (zcy p) is
theorem zdv (p is:List Bool) (x:Rl):Le is (zcy p is x):=by
 unfold zcy;split
 ·exact ze3 _ _
 ·exact Le.refl _
theorem zdu {G:Gr} (hl:Lin G.ns.length G.rs):∀(xs:List Rl) (is:List Bool),(∀x∈xs,x∈G.rs)->zlp G is->zlp G (xs.foldl (zcy (gn true G.rs G.ns.length)) is)
 | [],_,_,h=>h
 | x::xs,is,hx,h=>by
  refine zdu hl xs _ (fun y hy=>hx y (Bh _ hy)) ?_;have hm:=hx x (Bf ..);unfold zcy;split
  ·rename_i e
   intro i hi;rcases ze4 _ _ _ hi with h1|⟨z,hz,hn,rfl⟩
   ·exact h i h1
   ·rw[Br (by omega)];refine .on x hm ?_ ((allB_gn hl _).1 e.2) z hz hn
    have:=h _ e.1
    rwa [Br (hl x hm).1]at this
  ·exact h
theorem zfz {G:Gr} (hl:Lin G.ns.length G.rs) (k:Nat) {is:List Bool} (h:zlp G is):zlp G (aV (zeR (gn true G.rs G.ns.length) G.rs) k is):=by
 induction k with
 | zero=>exact h
 | succ k ih=>exact zdu hl G.rs _ (fun _ h=>h) ih
theorem reach_rc {G:Gr} (hl:Lin G.ns.length G.rs) (hi:∀x∈G.rs,Sin G.ns.length x.r) (h0:0<=G.st) (h1:G.st<G.ns.length) :
  aV (zeR (gn true G.rs G.ns.length) G.rs) G.ns.length ((List.replicate G.ns.length false).set G.st.toNat true)=rc G:=by
 have ac:∀s,Le s (zeR (gn true G.rs G.ns.length) G.rs s):=fun s=>za9 _ (zdv _) G.rs s;generalize ad:(List.replicate G.ns.length false).set G.st.toNat true=s0;have aa:s0.length=G.ns.length:=by rw[<-ad];simp
 have ag:s0.getD G.st.toNat false=true:=by rw[<-ad];exact set_getD _ _ (by simp;omega)
 have ae:zlp G s0:=fun i hi=>by
  rw[<-ad]at hi;rcases getD_set _ _ _ hi with h2|h2
  ·rw[Ai,Cu]at h2;split at h2 <;> cases h2
  ·rw[h2,Br h0];exact .st
 have ab:=zbT ac s0;rw[aa]at ab;have af:(aV (zeR (gn true G.rs G.ns.length) G.rs) G.ns.length s0).length=G.ns.length:=by rw[<-(zbi ac _ s0).len,aa]
 refine rc_row af (zfz hl _ ae) ⟨(zbi ac _ s0).get _ ag,fun x hx e ha z hz hn=>?_⟩
 have:=zbp _ (zdv _) G.rs _ ab x hx
 unfold zcy at this;rw[Ap ⟨e,(allB_gn hl _).2 ha⟩]at this;rw[<-this];exact zdH x.r _ (by rw[af];exact hi x hx) z hz hn
structure Ok (G:Gr):Prop where
 t:terms G.ts=true
 n:nons G=true
 r1:1<=G.rs.length
 r40:G.rs.length<=40
 s0:0<=G.st
 s1:G.st<G.ns.length
 rr:∀x∈G.rs,rule G x=true
 tp:zit G.ns.length (G.rs.map Rl.l) (-1)=true
theorem zcr (G:Gr):∀(rs:List Rl) (top:Int),rules G rs top=true->(∀r∈rs,rule G r=true)/\zit G.ns.length (rs.map Rl.l) top=true
 | [],_,h=>⟨by simp,h⟩
 | r::rs,top,h=>by
  rw[rules]at h;split at h
  ·cases h
  ·rename_i h1
   have h2:=zcr G rs _ h;have h3:rule G r=true:=by cases hr:rule G r <;> simp_all
   refine⟨fun x hx=>?_,?_⟩
   ·rcases Bq.1 hx with rfl|hx
    ·exact h3
    ·exact h2.1 x hx
   ·rw[Bp,zit,AB (by omega)];exact h2.2
theorem right_ok {G:Gr}:right G=true↔Ok G:=by
 constructor
 ·intro h;unfold right at h;simp only[AQ,AV]at h;obtain⟨⟨⟨⟨⟨⟨h1,h2⟩,h3⟩,h4⟩,h5⟩,h6⟩,h7⟩:=h
  have:=zcr G _ _ h7
  exact⟨h1,h2,h3,h4,h5,h6,this.1,this.2⟩
 ·intro h;unfold right;simp only[AQ,AV];exact⟨⟨⟨⟨⟨⟨h.t,h.n⟩,h.r1⟩,h.r40⟩,h.s0⟩,h.s1⟩,zcx G _ _ h.rr h.tp⟩
theorem zgq {n:Nat}:∀(ls:List Int) (top:Int),zit n ls top=true->top<=n-1/\∀l∈ls,0<=l/\l<n
 | [],top,h=>by
  rw[zit]at h
  have:top=n-1:=by simpa using h
  exact⟨by omega,by simp⟩
 | l::r,top,h=>by
  rw[zit]at h;split at h
  ·cases h
  ·have h2:=zgq r _ h;refine⟨by have:=h2.1;split at this <;> omega,fun x hx=>?_⟩;rcases Bq.1 hx with rfl|hx
   ·have:=h2.1;split at this <;> omega
   ·exact h2.2 x hx
theorem Ok.lin {G:Gr} (h:Ok G):Lin G.ns.length G.rs:=fun x hx=>(zgq _ _ h.tp).2 x.l (Es hx)
theorem rule_in {G:Gr} {x:Rl} (h:rule G x=true):x.r.length<=6/\-1<=x.p/\x.p<G.ts.length/\∀z∈x.r,z<G.ts.length/\-1-z<G.ns.length/\(0<=z->x.p ≠ -1):=by
 unfold rule at h;simp only[AQ,AV,BP]at h;obtain⟨⟨⟨h1,h2⟩,h3⟩,h4⟩:=h;refine⟨h1,h2,h3,fun z hz=>?_⟩;have h5:=h4 z hz;unfold has at h5;by_cases h0:0<=z
 ·rw[Ap h0]at h5;simp[h0]at h5;exact⟨h5.1,by omega,fun _=>h5.2⟩
 ·rw[AB h0]at h5;simp[h0]at h5;exact⟨by omega,h5,fun h=>absurd h h0⟩
theorem Ok.sin {G:Gr} (h:Ok G):∀x∈G.rs,Sin G.ns.length x.r:=fun x hx z hz _=>((rule_in (h.rr x hx)).2.2.2 z hz).2.1
end Gm
namespace Gm
def ord:List Int->List Int->List Int
 | acc,[]=>acc
 | acc,l::r=>ord (if l∈acc then acc else acc++[l]) r
def pos (o:List Int) (l:Int):Int:=if l∈o then(o.idxOf l:Int) else -1
theorem ord_mem:∀(ls acc:List Int) (x:Int),x∈ord acc ls↔x∈acc\/x∈ls
 | [],acc,x=>by rw[ord];simp
 | l::r,acc,x=>by
  rw[ord,ord_mem r];split
  ·simp only[Bq]
   constructor
   ·rintro(h|h)
    ·exact .inl h
    ·exact .inr (.inr h)
   ·rintro(h|rfl|h)
    ·exact .inl h
    ·exact .inl (by assumption)
    ·exact .inr h
  ·simp only[Bj,Bq,List.not_mem_nil,or_false]
   constructor
   ·rintro((h|h)|h)
    ·exact .inl h
    ·exact .inr (.inl h)
    ·exact .inr (.inr h)
   ·rintro(h|h|h)
    ·exact .inl (.inl h)
    ·exact .inl (.inr h)
    ·exact .inr h
theorem ord_nodup:∀(ls acc:List Int),acc.Nodup->(ord acc ls).Nodup
 | [],acc,h=>by rw[ord];exact h
 | l::r,acc,h=>by
  rw[ord];refine ord_nodup r _ ?_;split
  ·exact h
  ·rename_i hn
   rw[Ci];refine⟨h,by simp,fun a ha b hb=>?_⟩;simp at hb;subst hb;exact fun e=>hn (e▸ha)
theorem zeT {o:List Int} {l:Int} (h:l∈o):pos o l=(o.idxOf l:Int):=by unfold pos;rw[Ap h]
theorem pos_lt {o:List Int} {l:Int} (h:l∈o):0<=pos o l/\pos o l<o.length:=by
 rw[zeT h]
 have:=List.idxOf_lt_length_of_mem h
 omega
theorem pos_app {acc t:List Int} {l:Int} (h:l∈acc):pos (acc++t) l=pos acc l:=by
 rw[zeT h,zeT (C7 _ h),List.idxOf_append,Ap h]
theorem pos_new {acc t:List Int} {l:Int} (h:l ∉ acc):pos (acc++l::t) l=acc.length:=by
 rw[zeT (by simp),List.idxOf_append,AB h];simp
noncomputable def use (G:Gr) (x:Rl):Bool:=tr (Rc G x.l/\Al true G.rs x.r)
noncomputable def krs (G:Gr):List Rl:=G.rs.filter (use G)
noncomputable def kept (G:Gr):List Nat:=(List.range G.rs.length).filter fun i=>(G.rs[i]?).any (use G)
noncomputable def olds (G:Gr):List Int:=ord [] ((krs G).map Rl.l)
def re1 (o:List Int) (z:Int):Int:=if z<0 then -1-pos o (-1-z) else z
def re (o:List Int) (x:Rl):Rl:=⟨pos o x.l,x.r.map (re1 o),x.p⟩
noncomputable def reduce (G:Gr):Gr:=⟨G.ts,(olds G).map fun l=>G.ns.getD l.toNat [],(krs G).map (re (olds G)),pos (olds G) G.st⟩
theorem mem_krs {G:Gr} {x:Rl}:x∈krs G↔x∈G.rs/\Rc G x.l/\Al true G.rs x.r:=by
 unfold krs use;rw[B7,tr_iff]
theorem zc2 {G:Gr} {l:Int}:l∈olds G ↔ ∃x∈krs G,x.l=l:=by
 unfold olds;rw[ord_mem];simp
theorem zfU (G:Gr):(olds G).Nodup:=ord_nodup _ _ (by simp)
theorem zhh {G:Gr} (h:Rc G j) (hp:Gn true G.rs j):j∈olds G:=by
 obtain⟨x,hx,rfl,ha⟩:=hp.rule;exact zc2.2 ⟨x,mem_krs.2 ⟨hx,h,ha⟩,rfl⟩
theorem zkx {G:Gr} (h:j∈olds G):Rc G j/\Gn true G.rs j:=by
 obtain⟨x,hx,rfl⟩:=zc2.1 h;obtain⟨h1,h2,h3⟩:=mem_krs.1 hx;exact⟨h2,.of h1 h3⟩
theorem use_sym {G:Gr} {x:Rl} (hx:x∈krs G) (hz:z∈x.r) (hn:z<0):-1-z∈olds G:=by
 obtain⟨h1,h2,h3⟩:=mem_krs.1 hx;exact zhh (.on x h1 h2 h3 z hz hn) (h3.2 z hz hn)
theorem use_left {G:Gr} {x:Rl} (hx:x∈krs G):x.l∈olds G:=zc2.2 ⟨x,hx,rfl⟩
theorem zmx {G:Gr} (hp:Gn true G.rs j):Rc G j->Gn true (reduce G).rs (pos (olds G) j):=by
 induction hp with
 | mk x hx ht hn ih =>
  intro hr;have ha:Al true G.rs x.r:=⟨ht,hn⟩
  have hk:x∈krs G:=mem_krs.2 ⟨hx,hr,ha⟩;have hm:re (olds G) x∈(reduce G).rs:=Es hk;refine Gn.of hm ⟨fun _ _ _=>rfl,fun z hz h0=>?_⟩;obtain⟨y,hy,rfl⟩:=Bi.1 hz;unfold re1 at h0 ⊢;by_cases h1:y<0
  ·rw[Ap h1]at h0 ⊢;rw[show -1-(-1-pos (olds G) (-1-y))=pos (olds G) (-1-y) by omega];exact ih y hy h1 (.on x hx hr ha y hy h1)
  ·rw[AB h1]at h0;omega
theorem zj2 {G:Gr} {x:Rl} (hk:x∈krs G):Al true (reduce G).rs (re (olds G) x).r:=by
 obtain⟨hx,hr,ha⟩:=mem_krs.1 hk;refine⟨fun _ _ _=>rfl,fun z hz h0=>?_⟩;obtain⟨y,hy,rfl⟩:=Bi.1 hz;unfold re1 at h0 ⊢;by_cases h1:y<0
 ·rw[Ap h1]at h0 ⊢;rw[show -1-(-1-pos (olds G) (-1-y))=pos (olds G) (-1-y) by omega];exact zmx (ha.2 y hy h1) (.on x hx hr ha y hy h1)
 ·rw[AB h1]at h0;omega
theorem zlN {G:Gr} (h:Rc G j):Rc (reduce G) (pos (olds G) j):=by
 induction h with
 | st=>exact .st
 | on x hx hr hp z hz hn ih =>
  have hk:x∈krs G:=mem_krs.2 ⟨hx,hr,hp⟩;have hm:re (olds G) x∈(reduce G).rs:=Es hk;have h1:=pos_lt (use_sym hk hz hn)
  have:=Rc.on (G:=reduce G) (re (olds G) x) hm ih (zj2 hk) (-1-pos (olds G) (-1-z)) (Bi.2 ⟨z,hz,by unfold re1;rw[Ap hn]⟩) (by omega)
  rwa [show -1-(-1-pos (olds G) (-1-z))=pos (olds G) (-1-z) by omega]at this
theorem red_use {G:Gr} {y:Rl} (hy:y∈(reduce G).rs):use (reduce G) y=true:=by
 obtain⟨x,hx,rfl⟩:=Bi.1 hy;unfold use;rw[tr_iff];exact⟨zlN (mem_krs.1 hx).2.1,zj2 hx⟩
theorem st_in {G:Gr} (hp:Gn true G.rs G.st):G.st∈olds G:=zhh .st hp
end Gm
namespace Gm
theorem olds_lt {G:Gr} (h:Ok G) (hj:j∈olds G):0<=j/\j<G.ns.length:=(zkx hj).2.lin h.lin
theorem olds_le {G:Gr} (h:Ok G):(olds G).length<=G.ns.length:=by
 have h1:=pigeons G.ns.length ((olds G).map (· + 1)) ?_ ?_
 ·simpa using h1.1
 ·refine BU.2 ?_;rw[Da];exact(BU.1 (zfU G)).imp fun h e=>h (by omega)
 ·intro x hx;obtain⟨y,hy,rfl⟩:=Bi.1 hx
  have:=olds_lt h hy
  omega
theorem zhD (G:Gr):(kept G).map (fun i=>G.rs.getD i ⟨0,[],0⟩)=krs G:=by
 unfold kept krs;generalize use G=f
 have key:∀(rs pre:List Rl),((List.range' pre.length rs.length).filter fun i=>((pre++rs)[i]?).any f).map (fun i=>(pre++rs).getD i ⟨0,[],0⟩)=rs.filter f:=by
  intro rs;induction rs with
  | nil=>intro pre;simp
  | cons x rs ih =>
   intro pre;have h1:=ih (pre++[x]);simp only[BW,D7,AU,BQ]at h1;rw[Bt,List.range'_succ,Cy,Cy];have h2:(pre++x::rs)[pre.length]?=some x:=by simp
   rw[h2];simp only[Option.any_some];split
   ·rw[Bp,h1]
    congr 1
    simp
   ·exact h1
 have:=key G.rs []
 simpa[List.range_eq_range'] using this
theorem kept_len (G:Gr):(kept G).length=(krs G).length:=by rw[<-zhD];simp
theorem kept_lt {G:Gr} (h:i∈kept G):i<G.rs.length:=by
 have:=B7.1 h
 exact BF.1 this.1
theorem kept_at {G:Gr} (i:Nat) (h:i<(kept G).length) (h2:(kept G)[i]<G.rs.length):(krs G)[i]'(by rw[<-kept_len];exact h)=G.rs[(kept G)[i]]:=by
 have:(krs G)[i]?=some (G.rs[(kept G)[i]]):=by
  rw[<-zhD,BC,Ar h];simp[h2]
 rw[Ar (by rw[<-kept_len];exact h)]at this;exact DE this
end Gm
namespace Au
abbrev It:=Int×Int
def sy (G:Gm.Gr) (r:Int):List Int:=if r = -1 then [-1-G.st] else(G.rs.getD r.toNat ⟨0,[],0⟩).r
def isI (G:Gm.Gr) (x:It):Bool:=decide (-1<=x.1)&&decide (x.1<G.rs.length)&&decide (0<=x.2)&&decide (x.2<=(sy G x.1).length)
def nx (G:Gm.Gr) (x:It):Option Int:=(sy G x.1)[x.2.toNat]?
def lt (a b:It):Bool:=decide (a.1<b.1)||(decide (a.1=b.1)&&decide (a.2<b.2))
def Srt (l:List It):Prop:=l.Pairwise fun a b=>lt a b=true
theorem lt_iff {a b:It}:lt a b=true↔a.1<b.1\/a.1=b.1/\a.2<b.2:=by
 unfold lt;simp only[CI,AQ,AV]
theorem lt_trans {a b c:It} (h:lt a b=true) (k:lt b c=true):lt a c=true:=by
 rw[lt_iff]at *;omega
theorem lt_irr (a:It):lt a a=false:=by
 cases h:lt a a
 ·rfl
 ·rw[lt_iff]at h;omega
theorem lt_or {a b:It} (h:lt a b=false) (hn:a≠b):lt b a=true:=by
 cases k:lt b a
 ·exfalso
  have h1:¬lt a b=true:=by rw[h];decide
  have k1:¬lt b a=true:=by rw[k];decide
  rw[lt_iff]at h1 k1;refine hn (Ew ?_ ?_) <;> omega
 ·rfl
def put:List It->It->List It
 | [],x=>[x]
 | y::l,x=>if lt y x=true then y::put l x else if y=x then y::l else x::y::l
theorem zb0 {z x:It}:∀ {l:List It},z∈put l x↔z=x\/z∈l
 | []=>by simp[put]
 | y::l=>by
  unfold put;split
  ·rw[Bq,zb0 (l:=l),Bq]
   constructor
   ·rintro(h|h|h)
    ·exact .inr (.inl h)
    ·exact .inl h
    ·exact .inr (.inr h)
   ·rintro(h|h|h)
    ·exact .inr (.inl h)
    ·exact .inl h
    ·exact .inr (.inr h)
  ·split
   ·rename_i e
    subst e;rw[Bq]
    constructor
    ·exact fun h=>.inr h
    ·rintro(h|h)
     ·exact .inl h
     ·exact h
   ·rw[Bq]
theorem zeh {x:It}:∀ {l:List It},Srt l->Srt (put l x)
 | [],_=>by simp[put,Srt]
 | y::l,h=>by
  obtain⟨h1,h2⟩:=Dj.1 h;unfold put;split
  ·rename_i hy
   refine Dj.2 ⟨fun z hz=>?_,zeh h2⟩;rcases zb0.1 hz with rfl|hz
   ·exact hy
   ·exact h1 z hz
  ·rename_i hy
   split
   ·exact h
   ·rename_i hn
    have hl:=lt_or (by simpa using hy) hn;refine Dj.2 ⟨fun z hz=>?_,h⟩;rcases Bq.1 hz with rfl|hz
    ·exact hl
    ·exact lt_trans hl (h1 z hz)
theorem zcV:∀ {a b:List It},Srt a->Srt b->(∀z,z∈a↔z∈b)->a=b
 | [],[],_,_,_=>rfl
 | [],y::b,_,_,h=>by have:=(h y).2 Bf;cases this
 | x::a,[],_,_,h=>by have:=(h x).1 Bf;cases this
 | x::a,y::b,ha,hb,h=>by
  obtain⟨a1,a2⟩:=Dj.1 ha;obtain⟨b1,b2⟩:=Dj.1 hb
  have e:x=y:=by
   rcases Bq.1 ((h x).1 Bf) with e|e
   ·exact e
   ·rcases Bq.1 ((h y).2 Bf) with k|k
    ·exact k.symm
    ·have:=lt_trans (b1 x e) (a1 y k)
     rw[lt_irr]at this;cases this
  subst e
  congr 1
  refine zcV a2 b2 fun z=>⟨fun hz=>?_,fun hz=>?_⟩
  ·rcases Bq.1 ((h z).1 (Bh _ hz)) with rfl|k
   ·have:=a1 z hz;rw[lt_irr]at this;cases this
   ·exact k
  ·rcases Bq.1 ((h z).2 (Bh _ hz)) with rfl|k
   ·have:=b1 z hz;rw[lt_irr]at this;cases this
   ·exact k
theorem zgH {l:List It} (h:Srt l):l.Nodup:=BU.2 (h.imp fun k e=>by rw[e,lt_irr]at k;cases k)
def zjI (out l:List It):List It:=l.foldl put out
theorem za5 {z:It}:∀ {l out:List It},z∈zjI out l↔z∈out\/z∈l
 | [],out=>by simp[zjI]
 | x::l,out=>by
  have:=za5 (z:=z) (l:=l) (out:=put out x)
  rw[show zjI out (x::l)=zjI (put out x) l from rfl,this,zb0,Bq]
  constructor
  ·rintro((h|h)|h)
   ·exact .inr (.inl h)
   ·exact .inl h
   ·exact .inr (.inr h)
  ·rintro(h|h|h)
   ·exact .inl (.inr h)
   ·exact .inl (.inl h)
   ·exact .inr h
theorem zcZ:∀ {l out:List It},Srt out->Srt (zjI out l)
 | [],_,h=>h
 | _::l,_,h=>zcZ (l:=l) (zeh h)
def rls (G:Gm.Gr):List Int:=-1::(List.range G.rs.length).map fun k:Nat=>(k:Int)
def zig (G:Gm.Gr):List It:=(rls G).flatMap fun r=>(List.range ((sy G r).length+1)).map fun d:Nat=>(r,(d:Int))
theorem isI_iff {x:It}:isI G x=true↔(-1<=x.1/\x.1<G.rs.length)/\0<=x.2/\x.2<=(sy G x.1).length:=by
 unfold isI;simp only[AQ,AV]
 constructor
 ·rintro⟨⟨⟨h1,h2⟩,h3⟩,h4⟩;exact⟨⟨h1,h2⟩,h3,h4⟩
 ·rintro⟨⟨h1,h2⟩,h3,h4⟩;exact⟨⟨⟨h1,h2⟩,h3⟩,h4⟩
theorem rls_mem {r:Int}:r∈rls G ↔ -1<=r/\r<G.rs.length:=by
 unfold rls;rw[Bq,Bi]
 constructor
 ·rintro(rfl|⟨k,hk,rfl⟩)
  ·omega
  ·have:=BF.1 hk;omega
 ·rintro⟨h1,h2⟩;by_cases e:r = -1
  ·exact .inl e
  ·exact .inr ⟨r.toNat,BF.2 (by omega),by omega⟩
theorem zbP {x:It}:x∈zig G↔isI G x=true:=by
 unfold zig;rw[CK,isI_iff]
 constructor
 ·rintro⟨r,hr,hx⟩;obtain⟨d,hd,rfl⟩:=Bi.1 hx
  have:=BF.1 hd
  refine⟨rls_mem.1 hr,?_,?_⟩
  ·show(0:Int)<=(d:Int)
   omega
  ·exact Int.ofNat_le.2 (Nat.le_of_lt_succ this)
 ·rintro⟨h1,h2,h3⟩;refine⟨x.1,rls_mem.2 h1,Bi.2 ⟨x.2.toNat,BF.2 (by omega),?_⟩⟩;refine Ew rfl ?_;simp only;omega
theorem zbn (n:Nat):(List.range n).Pairwise (· < ·):=List.pairwise_lt_range
theorem zfh {f:Int->List It} (hf:∀r,Srt (f r)) (h1:∀r x,x∈f r->x.1=r):∀ {l:List Int},l.Pairwise (· < ·)->Srt (l.flatMap f)
 | [],_=>List.Pairwise.nil
 | r::l,h=>by
  obtain⟨a,b⟩:=Dj.1 h;rw[BD];refine El.2 ⟨hf r,zfh hf h1 b,fun x hx y hy=>?_⟩;obtain⟨q,hq,hy⟩:=CK.1 hy;have e1:=h1 r x hx;have e2:=h1 q y hy
  have:=a q hq
  rw[lt_iff];omega
theorem zft (G:Gm.Gr):Srt (zig G):=by
 refine zfh (fun r=>?_) (fun r x hx=>?_) ?_
 ·unfold Srt;rw[Da];refine(zbn _).imp fun {a b} h=>?_;rw[lt_iff];exact .inr ⟨rfl,Int.ofNat_lt.2 h⟩
 ·obtain⟨d,_,rfl⟩:=Bi.1 hx;rfl
 ·unfold rls;refine Dj.2 ⟨fun z hz=>?_,?_⟩
  ·obtain⟨k,_,rfl⟩:=Bi.1 hz;omega
  ·rw[Da];exact(zbn _).imp fun {a b} h=>by omega
theorem zjF {l:List It} (h:Srt l) (hi:∀x∈l,isI G x=true):l.length<=(zig G).length:=by
 have e:l=(zig G).filter fun x=>Gm.tr (x∈l):=zcV h ((zft G).filter _) fun z=>by
  rw[B7,Gm.tr_iff,zbP];exact⟨fun k=>⟨hi z k,k⟩,fun k=>k.2⟩
 rw[e];exact Ct _ _
inductive Cl (G:Gm.Gr) (l:List It):It->Prop
 | of (x:It) (h:x∈l):Cl G l x
 | on (x:It) (h:Cl G l x) (s:Int) (hs:nx G x=some s) (h0:s<0) (k:Nat) (hk:k<G.rs.length) (hl:(G.rs[k]).l = -1-s):Cl G l ((k:Int),0)
noncomputable def clo (G:Gm.Gr) (l:List It):List It:=(zig G).filter fun x=>Gm.tr (Cl G l x)
theorem zdb (G:Gm.Gr) (l:List It):Srt (clo G l):=(zft G).filter _
theorem zj6 (hk:k<G.rs.length):isI G ((k:Int),0)=true:=by
 rw[isI_iff];simp only;omega
theorem cl_is {l:List It} (hl:∀x∈l,isI G x=true) {x:It} (h:Cl G l x):isI G x=true:=by
 cases h with
 | of _ h=>exact hl x h
 | on y _ s _ _ k hk _=>exact zj6 hk
theorem zaE {l:List It} (hl:∀x∈l,isI G x=true) {x:It}:x∈clo G l↔Cl G l x:=by
 unfold clo;rw[B7,zbP,Gm.tr_iff];exact⟨fun h=>h.2,fun h=>⟨cl_is hl h,h⟩⟩
theorem clo_is {l:List It} {x:It} (h:x∈clo G l):isI G x=true:=zbP.1 (B7.1 h).1
theorem zjY {l out:List It} (hl:∀x∈l,isI G x=true) (hs:Srt out) (h1:∀x∈l,x∈out) (h2:∀x∈out,Cl G l x) (h3:∀x∈out,∀s,nx G x=some s->s<0->∀k:Nat,∀hk:k<G.rs.length,(G.rs[k]).l = -1-s->((k:Int),0)∈out):out=clo G l:=by
 refine zcV hs (zdb G l) fun z=>?_;rw[zaE hl];refine⟨h2 z,fun h=>?_⟩;induction h with
 | of x h=>exact h1 x h
 | on x _ s hs h0 k hk hl ih=>exact h3 x ih s hs h0 k hk hl
def mv (G:Gm.Gr) (l:List It) (s:Int):List It:=(l.filter fun x=>nx G x==some s).map fun x=>(x.1,x.2+1)
theorem zl0 {l:List It} (h:Srt l) (s:Int):Srt (mv G l s):=by
 unfold mv Srt;rw[Da];refine(List.Pairwise.filter _ h).imp fun {a b} k=>?_;rw[lt_iff]at k ⊢;simp only;omega
theorem zdG {l:List It} {y:It}:y∈mv G l s ↔ ∃x∈l,nx G x=some s/\y=(x.1,x.2+1):=by
 unfold mv;rw[Bi]
 constructor
 ·rintro⟨x,hx,rfl⟩;obtain⟨h1,h2⟩:=B7.1 hx;exact⟨x,h1,by simpa using h2,rfl⟩
 ·rintro⟨x,h1,h2,rfl⟩;exact⟨x,B7.2 ⟨h1,by simpa using h2⟩,rfl⟩
theorem zlX {x:It} (hx:0<=x.2) (h:nx G x=some s):x.2<(sy G x.1).length:=by
 unfold nx at h
 have:=(Ba.1 h).1
 omega
theorem mv_is {l:List It} (hl:∀x∈l,isI G x=true) {y:It} (hy:y∈mv G l s):isI G y=true:=by
 obtain⟨x,hx,hs,rfl⟩:=zdG.1 hy;have h:=isI_iff.1 (hl x hx)
 have:=zlX h.2.1 hs
 rw[isI_iff];simp only;omega
end Au
namespace Gm
theorem has_iff {G:Gr}:has G z=true↔z<G.ts.length/\-1-z<G.ns.length:=by
 unfold has;split
 ·simp only[AV];omega
 ·simp only[AV];omega
end Gm
namespace Au
def syms (G:Gm.Gr):List Int:=(List.range G.ts.length).map (fun i:Nat=>(i:Int))++(List.range G.ns.length).map fun i:Nat=>-1-(i:Int)
theorem syms_mem:s∈syms G↔Gm.has G s=true:=by
 rw[Gm.has_iff];unfold syms;rw[Bj,Bi,Bi]
 constructor
 ·rintro(⟨i,hi,rfl⟩|⟨i,hi,rfl⟩)
  ·have:=BF.1 hi;omega
  ·have:=BF.1 hi;omega
 ·rintro⟨h1,h2⟩;by_cases h:0<=s
  ·exact .inl ⟨s.toNat,BF.2 (by omega),by omega⟩
  ·exact .inr ⟨(-1-s).toNat,BF.2 (by omega),by omega⟩
theorem syms_nodup (G:Gm.Gr):(syms G).Nodup:=by
 unfold syms;refine BU.2 (El.2 ⟨?_,?_,fun x hx y hy=>?_⟩)
 ·rw[Da];exact(zbn _).imp fun {a b} h=>by omega
 ·rw[Da];exact(zbn _).imp fun {a b} h=>by omega
 ·obtain⟨i,_,rfl⟩:=Bi.1 hx;obtain⟨k,_,rfl⟩:=Bi.1 hy;omega
theorem syms_len (G:Gm.Gr):(syms G).length=G.ts.length+G.ns.length:=by simp[syms]
def fnd:List (List It)->List It->Int
 | [],_=>-1
 | y::l,k=>if y=k then 0 else if fnd l k<0 then -1 else fnd l k+1
theorem zjV {k:List It}:∀ {l:List (List It)},fnd l k<0↔k ∉ l
 | []=>by simp[fnd]
 | y::l=>by
  have ih:=zjV (k:=k) (l:=l);rw[fnd,Bq];split
  ·rename_i e
   simp[e]
  ·rename_i e
   split
   ·rename_i h
    have:=ih.1 h
    simp[this,Ne.symm e]
   ·rename_i h
    have:k∈l:=BO fun q=>h (ih.2 q)
    simp[this];omega
theorem zjW {k:List It}:∀ {l:List (List It)},0<=fnd l k->l[(fnd l k).toNat]?=some k
 | [],h=>by simp[fnd]at h
 | y::l,h=>by
  rw[fnd]at h ⊢;by_cases e:y=k
  ·rw[Ap e,e];rfl
  ·rw[AB e]at h ⊢;by_cases q:fnd l k<0
   ·rw[Ap q]at h;omega
   ·rw[AB q];rw[show(fnd l k+1).toNat=(fnd l k).toNat+1 by omega,Ah];exact zjW (by omega)
def edge (G:Gm.Gr) (l:List It) (p:List (List It)×List (Int×Int)) (s:Int):List (List It)×List (Int×Int) :=
 if mv G l s=[] then p
 else if 0<=fnd p.1 (mv G l s) then(p.1,p.2++[(s,fnd p.1 (mv G l s))])
 else(p.1++[mv G l s],p.2++[(s,(p.1.length:Int))])
def edges (G:Gm.Gr) (l:List It) (p:List (List It)×List (Int×Int)) (ss:List Int):List (List It)×List (Int×Int):=ss.foldl (edge G l) p
theorem edges_snoc (G:Gm.Gr) (l:List It) (p:List (List It)×List (Int×Int)) (ss:List Int) (s:Int):edges G l p (ss++[s])=edge G l (edges G l p ss) s:=by simp[edges]
noncomputable def one (G:Gm.Gr) (ks:List (List It)) (n:Nat):List (List It)×List (Int×Int):=edges G (clo G (ks.getD n [])) (ks,[]) (syms G)
noncomputable def run (G:Gm.Gr):Nat->List (List It)->List (List (Int×Int))->Option (List (List It)×List (List (Int×Int)))
 | 0,_,_=>none
 | f+1,ks,es=>if es.length<ks.length then(if 300<(one G ks es.length).1.length then none else run G f (one G ks es.length).1 (es++[(one G ks es.length).2])) else some (ks,es)
noncomputable def bld (G:Gm.Gr):Option (List (List It)×List (List (Int×Int))):=run G 302 [[(-1,0)]] []
structure PInv (G:Gm.Gr) (ks:List (List It)) (l:List It) (ss:List Int) (p:List (List It)×List (Int×Int)):Prop where
 pre:∃new,p.1=ks++new
 nd:p.1.Nodup
 it:∀k∈p.1,Srt k/\∀x∈k,isI G x=true
 sy:p.2.map (·.1)=ss.filter fun s=>mv G l s != []
 ed:∀e∈p.2,∃j:Nat,e.2=j/\p.1[j]?=some (mv G l e.1)
 up:∀j,ks.length<=j->j<p.1.length->∃e∈p.2,e.2=(j:Int)
theorem PInv.edge {G:Gm.Gr} {ks:List (List It)} {l:List It} (hl:Srt l) (hi:∀x∈l,isI G x=true) {ss:List Int} {p:List (List It)×List (Int×Int)} (h:PInv G ks l ss p) (s:Int):PInv G ks l (ss++[s]) (edge G l p s):=by
 unfold Au.edge;split
 ·rename_i e
  refine⟨h.pre,h.nd,h.it,?_,h.ed,h.up⟩;rw[h.sy,CF,Cy,AB (by simp[e])];simp
 ·rename_i e
  have hs:∀z:Int,(p.2++[(s,z)]).map (fun e:Int×Int=>e.1)=(ss++[s]).filter fun s=>mv G l s != []:=fun z=>by
   rw[AW,h.sy,CF,Cy,Ap (by simpa using e)];simp
  split
  ·rename_i h0
   refine⟨h.pre,h.nd,h.it,hs _,fun x hx=>?_,fun j h1 h2=>?_⟩
   ·rcases Bj.1 hx with hx|hx
    ·exact h.ed x hx
    ·rw[AF.1 hx];exact⟨(fnd p.1 (mv G l s)).toNat,by simp only;omega,zjW h0⟩
   ·obtain⟨x,hx,e⟩:=h.up j h1 h2;exact⟨x,C7 _ hx,e⟩
  ·rename_i h0
   have hn:mv G l s ∉ p.1:=zjV.1 (by omega);obtain⟨new,aa⟩:=h.pre;refine⟨⟨new++[mv G l s],by rw[aa,BW]⟩,?_,fun k hk=>?_,hs _,fun x hx=>?_,fun j h1 h2=>?_⟩
   ·refine BU.2 (El.2 ⟨BU.1 h.nd,by simp,fun x hx y hy=>?_⟩);rw[AF.1 hy];exact fun q=>hn (q▸hx)
   ·rcases Bj.1 hk with hk|hk
    ·exact h.it k hk
    ·rw[AF.1 hk];exact⟨zl0 hl s,fun x hx=>mv_is hi hx⟩
   ·rcases Bj.1 hx with hx|hx
    ·obtain⟨j,e1,e2⟩:=h.ed x hx;refine⟨j,e1,?_⟩;rw[Bw (Ba.1 e2).1];exact e2
    ·rw[AF.1 hx];exact⟨p.1.length,rfl,by simp⟩
   ·simp only[AU,BQ]at h2;by_cases q:j<p.1.length
    ·obtain⟨x,hx,e⟩:=h.up j h1 q;exact⟨x,C7 _ hx,e⟩
    ·exact⟨(s,(p.1.length:Int)),Dg _ Bf,by simp only;omega⟩
theorem PInv.all {G:Gm.Gr} {ks:List (List It)} {l:List It} (hl:Srt l) (hi:∀x∈l,isI G x=true) (hn:ks.Nodup) (hk:∀k∈ks,Srt k/\∀x∈k,isI G x=true):∀(ss done:List Int) (p:List (List It)×List (Int×Int)),PInv G ks l done p->PInv G ks l (done++ss) (edges G l p ss)
 | [],done,p,h=>by simpa[edges] using h
 | s::ss,done,p,h=>by
  have:=PInv.all hl hi hn hk ss (done++[s]) _ (h.edge hl hi s)
  simpa[edges] using this
structure Inv (G:Gm.Gr) (ks:List (List It)) (es:List (List (Int×Int))):Prop where
 h0:ks[0]?=some [(-1,0)]
 nd:ks.Nodup
 it:∀k∈ks,Srt k/\∀x∈k,isI G x=true
 le:es.length<=ks.length
 ed:∀i (h:i<es.length),(es[i].map (·.1)=(syms G).filter fun s=>mv G (clo G (ks.getD i [])) s != [])/\∀e∈es[i],∃j:Nat,e.2=j/\ks[j]?=some (mv G (clo G (ks.getD i [])) e.1)
 up:∀j,0<j->j<ks.length->∃i,∃h:i<es.length,i<j/\∃e∈es[i],e.2=(j:Int)
theorem Inv.start (G:Gm.Gr):Inv G [[(-1,0)]] []:=by
 refine⟨rfl,by simp,fun k hk=>?_,by simp,fun i h=>absurd h (by simp),fun j h1 h2=>absurd h2 (by simp;omega)⟩;rw[AF.1 hk];refine⟨by simp[Srt],fun x hx=>?_⟩;rw[AF.1 hx,isI_iff];refine⟨⟨by decide,by simp only;omega⟩,by decide,?_⟩;simp only;omega
theorem Inv.step {ks:List (List It)} (h:Inv G ks es) (ad:es.length<ks.length):Inv G (one G ks es.length).1 (es++[(one G ks es.length).2]):=by
 have hp:=PInv.all (G:=G) (l:=clo G (ks.getD es.length [])) (zdb _ _) (fun x hx=>clo_is hx) h.nd h.it (syms G) [] (ks,[]) ⟨⟨[],by simp⟩,h.nd,h.it,by simp,by simp,fun j h1 h2=>absurd h2 (by simp only;omega)⟩;rw[De]at hp
 change PInv G ks (clo G (ks.getD es.length [])) (syms G) (one G ks es.length) at hp
 generalize one G ks es.length=p at *;obtain⟨new,aa⟩:=hp.pre;have ae:ks.length<=p.1.length:=by rw[aa,AU];omega
 have ac:∀i,i<ks.length->p.1.getD i []=ks.getD i []:=fun i hi=>by
  rw[Ai,Ai,aa,Bw hi]
 have ab:∀i k,ks[i]?=some k->p.1[i]?=some k:=fun i k hk=>by
  rw[aa,Bw (Ba.1 hk).1];exact hk
 refine⟨ab _ _ h.h0,hp.nd,hp.it,by simp;omega,fun i hi=>?_,fun j h1 h2=>?_⟩
 ·by_cases q:i<es.length
  ·rw[Ev q,ac i (by omega)];obtain⟨a,b⟩:=h.ed i q;refine⟨a,fun e he=>?_⟩;obtain⟨j,e1,e2⟩:=b e he;exact⟨j,e1,ab _ _ e2⟩
  ·have af:i=es.length:=by simp at hi;omega
   subst af;rw[ac _ ad];simp only[Ep (Ad _),DW,List.getElem_singleton];exact⟨hp.sy,hp.ed⟩
 ·by_cases q:j<ks.length
  ·obtain⟨i,hi,ag,e,he,e2⟩:=h.up j h1 q;exact⟨i,by simp;omega,ag,e,by rw[Ev hi];exact he,e2⟩
  ·obtain⟨e,he,e2⟩:=hp.up j (by omega) h2;exact⟨es.length,by simp,by omega,e,by simpa using he,e2⟩
theorem run_step {ks:List (List It)} (h:es.length<ks.length) (h3:ks.length<=300):run G (302-es.length) ks es=if 300<(one G ks es.length).1.length then none else run G (302-(es++[(one G ks es.length).2]).length) (one G ks es.length).1 (es++[(one G ks es.length).2]):=by
 rw[show 302-es.length=(302-(es++[(one G ks es.length).2]).length)+1 by simp;omega,run,Ap h]
theorem run_end {ks:List (List It)} (h:es.length=ks.length) (h3:ks.length<=300):run G (302-es.length) ks es=some (ks,es):=by
 rw[show 302-es.length=(301-es.length)+1 by omega,run,AB (by omega)]
theorem zgP {G:Gm.Gr}:∀(f:Nat) (ks:List (List It)) (es:List (List (Int×Int))),Inv G ks es->ks.length<=300->∀K E,run G f ks es=some (K,E)->Inv G K E/\E.length=K.length/\K.length<=300
 | 0,_,_,_,_,_,_,h=>by cases h
 | f+1,ks,es,hi,h3,K,E,h=>by
  rw[run]at h;split at h
  ·rename_i aa
   split at h
   ·cases h
   ·exact zgP f _ _ (hi.step aa) (by omega) K E h
  ·injection h with h;injection h with h1 h2;subst h1 h2
   have:=hi.le
   exact⟨hi,by omega,h3⟩
theorem bld_inv {K:List (List It)} (h:bld G=some (K,E)):Inv G K E/\E.length=K.length/\K.length<=300 :=
 zgP 302 _ _ (Inv.start G) (by simp) K E h
theorem nx_in (aa:Gm.Ok G) {x:It} (hx:isI G x=true) (h:nx G x=some s):s∈syms G:=by
 rw[syms_mem,Gm.has_iff];have hi:=isI_iff.1 hx;have hs:s∈sy G x.1:=CL h;unfold sy at hs;split at hs
 ·rw[AF.1 hs]
  have:=aa.s0
  have:=aa.s1
  omega
 ·rename_i hn
  have ab:x.1.toNat<G.rs.length:=by omega
  rw[Ai,Ar ab,Bm]at hs;have hr:=Gm.rule_in (aa.rr _ (Ay ab))
  have:=hr.2.2.2 s hs
  exact⟨this.1,this.2.1⟩
end Au
namespace Gm
abbrev Nu (G:Gr) (r:List Int):Prop:=Al false G.rs r
inductive Fs (G:Gr) (t:Int):Int->Prop
 | tm (x:Rl) (hx:x∈G.rs) (p q:List Int) (e:x.r=p++t::q) (h0:0<=t) (hp:Nu G p):Fs G t x.l
 | nt (x:Rl) (hx:x∈G.rs) (p:List Int) (z:Int) (q:List Int) (e:x.r=p++z::q) (hz:z<0) (hp:Nu G p) (h:Fs G t (-1-z)):Fs G t x.l
def Bg (G:Gr) (t:Int) (r:List Int):Prop:=∃p y q,r=p++y::q/\Nu G p/\(y=t/\0<=t\/y<0/\Fs G t (-1-y))
theorem Fs.of {G:Gr} {x:Rl} (hx:x∈G.rs) (h:Bg G t x.r):Fs G t x.l:=by
 obtain⟨p,y,q,e,hp,h|h⟩:=h
 ·exact .tm x hx p q (by rw[e,h.1]) h.2 hp
 ·exact .nt x hx p y q e h.1 hp h.2
theorem Fs.rule {G:Gr} (h:Fs G t j):∃x∈G.rs,x.l=j/\Bg G t x.r:=by
 cases h with
 | tm x hx p q e h0 hp=>exact⟨x,hx,rfl,p,t,q,e,hp,.inl ⟨rfl,h0⟩⟩
 | nt x hx p z q e hz hp h=>exact⟨x,hx,rfl,p,z,q,e,hp,.inr ⟨hz,h⟩⟩
inductive Fw (G:Gr) (t:Int):Int->Prop
 | st (e:t=G.ts.length):Fw G t G.st
 | bg (x:Rl) (hx:x∈G.rs) (p:List Int) (z:Int) (q:List Int) (e:x.r=p++z::q) (hz:z<0) (h:Bg G t q):Fw G t (-1-z)
 | on (x:Rl) (hx:x∈G.rs) (p:List Int) (z:Int) (q:List Int) (e:x.r=p++z::q) (hz:z<0) (hq:Nu G q) (h:Fw G t x.l):Fw G t (-1-z)
theorem nu_cons {G:Gr}:Nu G (z::r)↔(z<0/\Gn false G.rs (-1-z))/\Nu G r:=by
 constructor
 ·intro h
  have h1:z<0:=by
   rcases Int.lt_or_le z 0 with h2|h2
   ·exact h2
   ·exact absurd (h.1 z (Bf ..) h2) (by simp)
  exact⟨⟨h1,h.2 z (Bf ..) h1⟩,fun y hy=>h.1 y (Bh _ hy),fun y hy=>h.2 y (Bh _ hy)⟩
 ·rintro⟨⟨h1,h2⟩,h3⟩;refine⟨fun y hy h0=>?_,fun y hy h0=>?_⟩
  ·rcases Bq.1 hy with rfl|hy
   ·omega
   ·exact h3.1 y hy h0
  ·rcases Bq.1 hy with rfl|hy
   ·exact h2
   ·exact h3.2 y hy h0
theorem nu_nil (G:Gr):Nu G []:=⟨by simp,by simp⟩
theorem zjZ {G:Gr}:¬Bg G t []:=by
 rintro⟨p,y,q,e,_⟩;cases p <;> cases e
theorem bg_cons {G:Gr}:Bg G t (z::r)↔(z=t/\0<=t\/z<0/\Fs G t (-1-z))\/(z<0/\Gn false G.rs (-1-z))/\Bg G t r:=by
 constructor
 ·rintro⟨p,y,q,e,hp,h⟩;cases p with
  | nil =>
   rw[De]at e;injection e with e1 e2;subst e1;exact .inl h
  | cons u p =>
   rw[Cx]at e;injection e with e1 e2;subst e1
   have:=nu_cons.1 hp
   exact .inr ⟨this.1,p,y,q,e2,this.2,h⟩
 ·rintro(h|⟨h1,p,y,q,e,hp,h⟩)
  ·exact⟨[],z,r,rfl,nu_nil G,h⟩
  ·exact⟨z::p,y,q,by rw[e];rfl,nu_cons.2 ⟨h1,hp⟩,h⟩
def ofB (nu:List Bool) (t:Int) (is:List Bool) (rest:Bool):List Int->Bool
 | []=>rest
 | z::r=>if 0<=z then z==t else is.getD (-1-z).toNat false||(nu.getD (-1-z).toNat false&&ofB nu t is rest r)
def zj4 (P:Int->Prop) (is:List Bool):Prop:=∀i:Nat,is.getD i false=true->P (i:Int)
theorem zj4.none (P:Int->Prop) (n:Nat):zj4 P (List.replicate n false):=fun i h=>by
 rw[Ai,Cu]at h;split at h <;> cases h
theorem zhi {G:Gr} {is:List Bool} {rest:Bool} (hl:Lin n G.rs) (hs:zj4 (Fs G t) is) (ht:0<=t) (h:ofB (gn false G.rs n) t is rest r=true):Bg G t r\/Nu G r/\rest=true:=by
 induction r with
 | nil=>exact .inr ⟨nu_nil G,h⟩
 | cons z r ih =>
  rw[ofB]at h;by_cases h0:0<=z
  ·rw[Ap h0]at h;exact .inl (bg_cons.2 (.inl (.inl ⟨by simpa using h,ht⟩)))
  ·rw[AB h0]at h;rw[CI,AQ]at h;rcases h with h|⟨h1,h2⟩
   ·have:=hs _ h
    rw[Br (by omega)]at this;exact .inl (bg_cons.2 (.inl (.inr ⟨by omega,this⟩)))
   ·have h3:=(zcH hl (by omega)).1 h1;rcases ih h2 with h4|h4
    ·exact .inl (bg_cons.2 (.inr ⟨⟨by omega,h3⟩,h4⟩))
    ·exact .inr ⟨nu_cons.2 ⟨⟨by omega,h3⟩,h4.1⟩,h4.2⟩
theorem zkz {G:Gr} {is:List Bool} {rest:Bool} (hl:Lin n G.rs) (hc:∀j,Fs G t j->is.getD j.toNat false=true) (h:Bg G t r\/Nu G r/\rest=true):ofB (gn false G.rs n) t is rest r=true:=by
 induction r with
 | nil =>
  rcases h with h|h
  ·exact absurd h zjZ
  ·exact h.2
 | cons z r ih =>
  rw[ofB];by_cases h0:0<=z
  ·rw[Ap h0];rcases h with h|h
   ·rcases bg_cons.1 h with(h|h)|h
    ·simpa using h.1
    ·omega
    ·omega
   ·have:=(nu_cons.1 h.1).1.1;omega
  ·rw[AB h0,CI,AQ];rcases h with h|h
   ·rcases bg_cons.1 h with(h|h)|h
    ·omega
    ·exact .inl (hc _ h.2)
    ·exact .inr ⟨(zcH hl (by omega)).2 h.1.2,ih (.inl h.2)⟩
   ·have h1:=nu_cons.1 h.1;exact .inr ⟨(zcH hl (by omega)).2 h1.1.2,ih (.inr ⟨h1.2,h.2⟩)⟩
theorem zky {G:Gr} {is:List Bool} {rest:Bool} (hl:Lin n G.rs) (hs:zj4 (Fs G t) is) (hc:∀j,Fs G t j->is.getD j.toNat false=true) (ht:0<=t):ofB (gn false G.rs n) t is rest r=true↔Bg G t r\/Nu G r/\rest=true:=⟨zhi hl hs ht,zkz hl hc⟩
def ClsF (G:Gr) (n:Nat) (t:Int) (is:List Bool):Prop:=∀x∈G.rs,ofB (gn false G.rs n) t is false x.r=true->is.getD x.l.toNat false=true
theorem zhj {nu:List Bool} {is:List Bool} {rest:Bool} {p:List Int} {y:Int} {q:List Int} (hp:∀z∈p,z<0/\nu.getD (-1-z).toNat false=true) (h:ofB nu t is rest (y::q)=true):ofB nu t is rest (p++y::q)=true:=by
 induction p with
 | nil=>exact h
 | cons z p ih =>
  rw[Cx,ofB];have h1:=hp z (Bf ..);rw[AB (by omega),h1.2,ih (fun z hz=>hp z (Bh _ hz))];simp
theorem zjK {G:Gr} (hl:Lin n G.rs) {p:List Int} (h:Nu G p):∀z∈p,z<0/\(gn false G.rs n).getD (-1-z).toNat false=true:=fun z hz=>by
 have h1:z<0:=by
  rcases Int.lt_or_le z 0 with h2|h2
  ·exact h2
  ·exact absurd (h.1 z hz h2) (by simp)
 exact⟨h1,(zcH hl (by omega)).2 (h.2 z hz h1)⟩
theorem zjU {G:Gr} {is:List Bool} (hl:Lin n G.rs) (h:ClsF G n t is) (hj:Fs G t j):is.getD j.toNat false=true:=by
 induction hj with
 | tm x hx p q e h0 hp =>
  refine h x hx ?_;rw[e];refine zhj (zjK hl hp) ?_;rw[ofB,Ap h0];simp
 | nt x hx p z q e hz hp _ ih =>
  refine h x hx ?_;rw[e];refine zhj (zjK hl hp) ?_;rw[ofB,AB (by omega),ih];rfl
def zaC (nu:List Bool) (t:Int) (is:List Bool) (x:Rl):List Bool:=if ofB nu t is false x.r=true then is.set x.l.toNat true else is
theorem zdO (nu:List Bool) (t:Int) (is:List Bool) (x:Rl):Le is (zaC nu t is x):=by
 unfold zaC;split
 ·exact Le.set _ _
 ·exact Le.refl _
theorem zce {G:Gr} {n:Nat} {t:Int} (hl:Lin n G.rs) (ht:0<=t):∀(xs:List Rl) (is:List Bool),(∀x∈xs,x∈G.rs)->zj4 (Fs G t) is->zj4 (Fs G t) (xs.foldl (zaC (gn false G.rs n) t) is)
 | [],_,_,h=>h
 | x::xs,is,hx,h=>by
  refine zce hl ht xs _ (fun y hy=>hx y (Bh _ hy)) ?_;have hm:=hx x (Bf ..);unfold zaC;split
  ·rename_i e
   intro i hi;rcases getD_set _ _ _ hi with h1|h1
   ·exact h i h1
   ·rw[h1,Br (hl x hm).1];rcases zhi hl h ht e with h2|h2
    ·exact .of hm h2
    ·cases h2.2
  ·exact h
theorem zhP {G:Gr} (hl:Lin n G.rs) (ht:0<=t) (i:Nat):(aV (fun s=>G.rs.foldl (zaC (gn false G.rs n) t) s) n (List.replicate n false)).getD i false=true↔Fs G t (i:Int):=by
 have ab:∀s,Le s (G.rs.foldl (zaC (gn false G.rs n) t) s):=fun s=>za9 _ (zdO _ _) G.rs s;have h0:(List.replicate n false).length=n:=by simp
 have aa:=zbT ab (List.replicate n false);rw[h0]at aa;have ac:(aV (fun s=>G.rs.foldl (zaC (gn false G.rs n) t) s) n (List.replicate n false)).length=n:=by rw[<-(zbi ab n _).len,h0]
 constructor
 ·have:∀k,zj4 (Fs G t) (aV (fun s=>G.rs.foldl (zaC (gn false G.rs n) t) s) k (List.replicate n false)):=by
   intro k;induction k with
   | zero=>exact zj4.none _ n
   | succ k ih=>exact zce hl ht G.rs _ (fun _ h=>h) ih
  exact this n i
 ·intro h
  have:=zjU hl (n:=n) (is:=aV (fun s=>G.rs.foldl (zaC (gn false G.rs n) t) s) n (List.replicate n false)) ?_ h
  ·simpa using this
  ·intro x hx e
   have:=zbp _ (zdO _ _) G.rs _ aa x hx
   generalize aV (fun s=>G.rs.foldl (zaC (gn false G.rs n) t) s) n (List.replicate n false)=S at *;rw[zaC,Ap e]at this;rw[<-this]
   have:=hl x hx
   exact set_getD _ _ (by omega)
end Gm
end Go.Proofs.YtjjbaehamplnaaaGreat
