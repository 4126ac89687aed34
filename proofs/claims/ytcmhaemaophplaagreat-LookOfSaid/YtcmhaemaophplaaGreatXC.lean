/- Part of the proofs over this program: CfgRight, LexQuo, LexPiece2, Floats, PlaceFn, PlaceAt, LexTok, LexScan, YaccL, CfgL, CfgR, CfgR2, CfgEq, TrimL, TrimR, TrimD, TrimK, AutoL, TrimM, AutoB, FirstL. -/
import Derived.ScopeJumps
import Derived.WalkMore
import Derived.Laws.FloatArith
import Derived.Test.YtcmhaemaophplaaGreatXB
set_option linter.all false
namespace Go
def Dm:=@Option.map_some
def DX:=@Go.run_sliceAt_slice
def Dj:=@List.foldl_append
def Dd:=@Bool.or_eq_true
def B5:=@List.flatMap_cons
def B4:=@List.flatMap_append
def Cw:=@List.flatMap_singleton
def CX:=@List.pairwise_iff_getElem
def Bq:=@List.mem_of_mem_erase
def DF:=@Bool.false_eq_true
def Bp:=@Option.getD_some
def BO:=@List.nodup_iff_pairwise_ne
def CS:=@List.nil_append
def En:=@Bool.not_eq_true'
def D9:=@decide_eq_false_iff_not
def Dn:=@List.foldl_cons
def Ag:=@List.getD_eq_getElem?_getD
def Dc:=@List.getElem?_replicate
def BI:=@Int.toNat_of_nonneg
def Er:=@List.getElem?_set_ne
def BH:=@List.getElem?_eq_none
def DK:=@List.mem_map_of_mem
def Dr:=@List.mem_append_left
def B7:=@List.mem_filter
def Dk:=@List.pairwise_map
def Cc:=@List.filter_cons
def Cj:=@List.mem_range
def Ea:=@Prod.ext
def Dq:=@List.pairwise_cons
def CG:=@List.mem_flatMap
def DY:=@List.pairwise_append
def Cd:=@List.length_filter_le
def B9:=@List.filter_append
def EI:=@Option.some.injEq
def DE:=@List.mem_append_right
def Ct:=@List.getElem_append_right
def Dg:=@Nat.sub_self
end Go
open Go.RowKit Go.Proofs.Tryz
set_option maxRecDepth 100000
set_option maxHeartbeats 40000000
variable {B base i k n:Nat} {E es:List (List (Int×Int))} {G:Go.Proofs.YtcmhaemaophplaaGreat.Gm.Gr} {j s t z:Int} {ns ns':List (List Int)} {ops:Array Go.Oper} {r:List Int} {rs:List Go.Proofs.YtcmhaemaophplaaGreat.Gm.Rl} {tm:Bool} {v:Go.Value} {w w':Go.World}
namespace Go.Proofs.YtcmhaemaophplaaGreat
def tQ (G:Gm.Gr) (x:Gm.Rl):Bool:=decide (x.r.length<=6) && !x.r.any (tE G)&&(if x.p = -1 then !x.r.any oL else oL x.p&&Gm.has G x.p)
theorem MV (v:Value) (G:Gm.Gr) (B:Nat) (x:Gm.Rl) (A:Option Addr) (c:Nat) (w:World) (hg:aT w B v G) (hr:gd w B A x.r) (hx:∀z∈x.r,Gm.In z) (hp:Gm.In x.p) (hB:B<=w.heap.size) :
  Calls prog 160 #[v,.agg #[.int .i64 x.l,.slice A x.r.length c,.int .i64 x.p]] w fun e w'=>e=.returned (.bool (tQ G x))/\Below w.heap.size w w':=by
 have HG:=aA hg;obtain⟨AT,cT,AN,cN,AR,cR,rfl,_⟩:=hg;have i:=aA ((One.start w #[.slice AT G.ts.length cT,.slice AN G.ns.length cN,.slice AR G.rs.length cR,.int .i64 G.st]).alloc (.cells #[.int .i64 x.l,.slice A x.r.length c,.int .i64 x.p] 48))
 have ac:Hid (((w.alloc (.cells #[.slice AT G.ts.length cT,.slice AN G.ns.length cN,.slice AR G.rs.length cR,.int .i64 G.st] 26)).alloc (.cells #[.int .i64 x.l,.slice A x.r.length c,.int .i64 x.p] 48)).heap[w.heap.size+1]?=some (.cells #[.int .i64 x.l,.slice A x.r.length c,.int .i64 x.p] 48 (0,0))):=aA (by
  have:=AG (w.alloc (.cells #[.slice AT G.ts.length cT,.slice AN G.ns.length cN,.slice AR G.rs.length cR,.int .i64 G.st] 26)) (.cells #[.int .i64 x.l,.slice A x.r.length c,.int .i64 x.p] 48)
  simpa using this)
 by_cases h6:6<x.r.length
 ·have HX:Hid (tQ G x=false):=aA (by unfold tQ;rw[AM (show ¬x.r.length<=6 by omega)];rfl);rw[HX.o];clear hr hx hp
  go_enter func160,ntmps160
  go_wp2;go_ret
  exact⟨rfl,i.o.below⟩
 have ag:=aA (fun(y:World) (h:One w #[.slice AT G.ts.length cT,.slice AN G.ns.length cN,.slice AR G.rs.length cR,.int .i64 G.st] y)=>(Eb h w.heap.size (by omega)).trans (AG w _));have j:=aA (fun(y:World) (h:One w #[.slice AT G.ts.length cT,.slice AN G.ns.length cN,.slice AR G.rs.length cR,.int .i64 G.st] y)=>Nj A c B x.r y G w.heap.size B _ hx (fun z hz=>HG.o.below (h.on hz).below hB) (fun z hz=>ag.o _ (h.on hz)) (hr.fp fun g o hg=>h.below.cell (p:=⟨g,o,none⟩) (Ah hg hB)) (Aj hB h.below.size) (by omega));have af:=aA (fun(y:World) (h:One w #[.slice AT G.ts.length cT,.slice AN G.ns.length cN,.slice AR G.rs.length cR,.int .i64 G.st] y)=>No A c B x.r y (hr.fp fun g o hg=>h.below.cell (p:=⟨g,o,none⟩) (Ah hg hB)) (Aj hB h.below.size) (by omega));have k:=aA (fun y=>JS x.p y);have ad:=aA (fun(y:World) (h:One w #[.slice AT G.ts.length cT,.slice AN G.ns.length cN,.slice AR G.rs.length cR,.int .i64 G.st] y)=>IN _ G B x.p hp y (HG.o.below h.below hB));have aa:Hid (tQ G x=(!x.r.any (tE G)&&(if x.p = -1 then !x.r.any oL else oL x.p&&Gm.has G x.p))):=aA (by unfold tQ;rw[AQ (show x.r.length<=6 by omega)];rfl);clear hr hx hp HG;cases q1:x.r.any (tE G)
 case true =>
  have HX:Hid (tQ G x=false):=aA (by rw[aa.o,q1];rfl);rw[q1]at j;rw[HX.o];clear q1 aa
  go_enter func160,ntmps160
  go_wp2_with fail
  refine(j.o _ i.o).mono ?_;rintro _ w2 ⟨rfl,hb⟩;have f:=aA (i.o.on hb);clear hb;go_wp2;go_ret
  exact⟨rfl,f.o.below⟩
 rw[q1]at j;have ab:Hid (tQ G x=(if x.p = -1 then !x.r.any oL else oL x.p&&Gm.has G x.p)):=aA (by rw[aa.o,q1];rfl);clear q1 aa;by_cases h1:x.p = -1
 ·have HX:=aA (ab.o.trans (AC h1));have e1:(x.p == -1)=true:=BJ.2 h1;rw[HX.o];generalize x.r.any oL=b at *;clear h1 k ad ab HX
  go_enter func160,ntmps160
  go_wp2_with fail
  refine(j.o _ i.o).mono ?_;rintro _ w2 ⟨rfl,hb⟩;have f:=aA (i.o.on hb);have d:=(hb.block (w.heap.size+1) (by simp)).trans ac.o;have d1:=AF w2 _ 1 _ _ _ d;have d2:=AF w2 _ 2 _ _ _ d;have hz:w.heap.size+1<w2.heap.size:=(Ad.1 d).1;clear hb d;go_wp2_with fail
  refine(af.o _ f.o).mono ?_;rintro _ w3 ⟨rfl,hb⟩;have ae:=aA (f.o.on hb);clear hb;go_wp2;go_ret
  exact⟨rfl,ae.o.below⟩
 ·have HX:=aA (ab.o.trans (AI h1));have e1:(x.p == -1)=false:=Ba.2 h1;rw[HX.o];unfold oL;clear h1 af ab HX;cases q2:decide (0<=x.p)
  ·rw[q2]at k;clear q2 ad
   go_enter func160,ntmps160
   go_wp2_with fail
   refine(j.o _ i.o).mono ?_;rintro _ w2 ⟨rfl,hb⟩;have f:=aA (i.o.on hb);have d:=(hb.block (w.heap.size+1) (by simp)).trans ac.o;have d1:=AF w2 _ 1 _ _ _ d;have d2:=AF w2 _ 2 _ _ _ d;have hz:w.heap.size+1<w2.heap.size:=(Ad.1 d).1;clear hb d;go_wp2_with fail
   refine(k.o _).mono ?_;rintro _ _ ⟨rfl,rfl⟩;go_wp2;go_ret
   exact⟨rfl,f.o.below⟩
  ·rw[q2]at k;clear q2;generalize Gm.has G x.p=b at *
   go_enter func160,ntmps160
   go_wp2_with fail
   refine(j.o _ i.o).mono ?_;rintro _ w2 ⟨rfl,hb⟩;have f:=aA (i.o.on hb);have d:=(hb.block (w.heap.size+1) (by simp)).trans ac.o;have d1:=AF w2 _ 1 _ _ _ d;have d2:=AF w2 _ 2 _ _ _ d;have hz:w.heap.size+1<w2.heap.size:=(Ad.1 d).1;have q0:=f.o.c 0 _ rfl;have q1:=f.o.c 1 _ rfl;have q2:=f.o.c 2 _ rfl;have q3:=f.o.c 3 _ rfl;clear hb d;go_wp2_with fail
   refine(k.o _).mono ?_;rintro _ w5 ⟨rfl,ah⟩;subst ah;go_wp2_with fail
   refine(ad.o _ f.o).mono ?_;rintro _ w3 ⟨rfl,hb⟩;have ae:=aA (f.o.on hb);clear hb;go_wp2;go_ret
   exact⟨aE (by simp),ae.o.below⟩
def tP (G:Gm.Gr):List Gm.Rl->Int->Bool
 | [],n=>n==G.ns.length
 | x::r,n=>if x.l<0\/n<x.l\/tQ G x=false then false else tP G r (max n (x.l+1))
theorem PR (h:k<rs.length) (n:Int):tP G (rs.drop k) n=if rs[k].l<0\/n<rs[k].l\/tQ G rs[k]=false then false else tP G (rs.drop (k+1)) (max n (rs[k].l+1)):=by
 rw[BV h,tP]
theorem Qw (h:rs.length<=k) (n:Int):tP G (rs.drop k) n=(n==(G.ns.length:Int)):=by
 rw[BU h,tP]
def tO (G:Gm.Gr):Bool:=decide (G.rs.length<=40)&&tP G G.rs 0
theorem MZ (v:Value) (G:Gm.Gr) (B:Nat) (w:World) (hg:aT w B v G) (hf:Gm.Fit G) (hB:B<=w.heap.size) :
  Calls prog 135 #[v] w fun e w'=>e=.returned (.bool (tO G))/\Below w.heap.size w w':=by
 have HG:=aA hg;obtain⟨AT,cT,AN,cN,AR,cR,rfl,⟨al,am⟩,⟨ao,ap⟩,⟨aq,ar⟩,_,_,ht⟩:=hg;have HT:=aA ht;have HF:=aA hf;have ag:=aA (One.start w #[.slice AT G.ts.length cT,.slice AN G.ns.length cN,.slice AR G.rs.length cR,.int .i64 G.st]);have ah:(G.ns.length:Int)<=9223372036854775807:=by omega
 clear ht hf;by_cases au:40<G.rs.length
 ·have HX:Hid (tO G=false):=aA (by unfold tO;rw[AM (show ¬G.rs.length<=40 by omega)];rfl);rw[HX.o]
  go_enter func135,ntmps135
  go_wp2;go_ret
  exact⟨rfl,ag.o.below⟩
 have aj:Hid (tO G=tP G (G.rs.drop 0) 0):=aA (by unfold tO;rw[AQ (show G.rs.length<=40 by omega)];rfl)
 go_enter func135,ntmps135
 go_wp2;go_loopw [3,13] (fun vt vi wr=>∃(k:Nat) (z:Int),k<=G.rs.length/\vi=.int .i64 k/\vt=.int .i64 z/\(0<=z/\z<=100+k)/\Hid (tO G=tP G (G.rs.drop k) z)/\One w #[.slice AT G.ts.length cT,.slice AN G.ns.length cN,.slice AR G.rs.length cR,.int .i64 G.st] wr) (fun _ vi _=>G.rs.length-(intOf vi).toNat)
 case atStart=>exact⟨0,0,AV _,rfl,rfl,by omega,aj,ag.o⟩
 case round =>
  obtain⟨k,z,hk,rfl,rfl,av,HE,hb⟩:=hrel;have HB:=aA hb;have hz:w.heap.size<wr.heap.size:=hb.size;have d:=hb.below;have q0:=hb.c 0 _ rfl;have q1:=hb.c 1 _ rfl;have q2:=hb.c 2 _ rfl;have q3:=hb.c 3 _ rfl;clear hb;by_cases ac:k<G.rs.length
  ·obtain⟨g,o,rfl,ad,hc⟩:=HT.o (by omega);obtain⟨k0,⟨A',c',k1,_,_,ai⟩,k2⟩:=hc k ac;have k0:=(d.cell (p:=⟨g,o+k*3,none⟩) (Ah ad hB)).trans k0;have k1:=(d.cell (p:=⟨g,o+k*3+1,none⟩) (Ah ad hB)).trans k1;have k2:=(d.cell (p:=⟨g,o+k*3+2,none⟩) (Ah ad hB)).trans k2;have aw:g<wr.heap.size:=by omega
   have aa:=HF.o.r _ (AE ac);have ab:=aA (fun(y:World) (h:One w #[.slice AT G.ts.length cT,.slice AN G.ns.length cN,.slice (some ⟨g,o,none⟩) G.rs.length cR,.int .i64 G.st] y)=>MV _ G B G.rs[k] A' c' y (HG.o.below h.below hB) (ai.fp fun g o hg=>h.below.cell (p:=⟨g,o,none⟩) (Ah hg hB)) aa.2.2 aa.2.1 (Aj hB h.below.size));have HN:=aA (HE.o.trans (PR ac z));have ak:=aa.1;unfold Gm.In at ak;clear hc d aa ai;generalize G.rs[k]=x at *;by_cases c1:x.l<0
   ·have HX:Hid (tO G=false):=aA (HN.o.trans (AC (.inl c1)));go_wp2;go_ret
    exact⟨aE HX.o.symm,(HB.o.alloc _).below⟩
   have c1':=EN.1 c1;by_cases c2:z<x.l
   ·have HX:Hid (tO G=false):=aA (HN.o.trans (AC (.inr (.inl c2))));go_wp2;go_ret
    exact⟨aE HX.o.symm,(HB.o.alloc _).below⟩
   have c2':=EN.1 c2;cases c3:tQ G x
   ·have HX:Hid (tO G=false):=aA (HN.o.trans (AC (.inr (.inr c3))));rw[c3]at ab;clear c3 c1 c2;go_wp2_with fail
    refine(ab.o _ (HB.o.alloc _)).mono ?_;rintro _ w4 ⟨rfl,b⟩;have ae:=aA ((HB.o.alloc _).on b);clear b;go_wp2;go_ret
    exact⟨aE HX.o.symm,ae.o.below⟩
   ·have HX:=aA (HN.o.trans (AI (by rw[c3];simp;omega)));rw[c3]at ab;clear c3 c1 c2;go_wp2_with fail
    refine(ab.o _ (HB.o.alloc _)).mono ?_;rintro _ w4 ⟨rfl,b⟩;have ae:=aA ((HB.o.alloc _).on b);have af:=(b.block wr.heap.size (by simp)).trans (AG wr _);have ax:wr.heap.size<w4.heap.size:=(Ad.1 af).1;have f0:=AF w4 _ 0 _ _ _ af;clear b af;go_wp2;go_roundw
    case rel=>exact⟨k+1,max z (x.l+1),by omega,by go_num,rfl,by omega,HX,ae.o⟩
    case measure=>simp[intOf];omega
  ·obtain rfl:k=G.rs.length:=by omega
   have HX:=aA (HE.o.trans (Qw (Af _) z));clear d;go_wp2;go_ret
   exact⟨aE HX.o.symm,HB.o.below⟩
def Gi (G:Gm.Gr):Bool:=qm G&&sI G.ts [] 0&&tO G&&decide (0<=G.st)&&decide (G.st<G.ns.length)
theorem OK (v:Value) (G:Gm.Gr) (B:Nat) (w:World) (hg:aT w B v G) (hf:Gm.Fit G) (hB:B<=w.heap.size) :
  Calls prog 96 #[v] w fun e w'=>e=.returned (.bool (Gi G))/\Below w.heap.size w w':=by
 have HG:=aA hg;have HF:=aA hf;obtain⟨AT,cT,AN,cN,AR,cR,rfl,⟨ac,ad⟩,⟨ae,af⟩,⟨ag,ah⟩,aa,_,_⟩:=hg;have f:=aA (One.start w #[.slice AT G.ts.length cT,.slice AN G.ns.length cN,.slice AR G.rs.length cR,.int .i64 G.st]);have H1:=aA (fun(x:World) (h:One w #[.slice AT G.ts.length cT,.slice AN G.ns.length cN,.slice AR G.rs.length cR,.int .i64 G.st] x)=>M4 _ G B x (HG.o.below h.below hB) HF.o (Aj hB h.below.size));have H2:=aA (fun(x:World) (h:One w #[.slice AT G.ts.length cT,.slice AN G.ns.length cN,.slice AR G.rs.length cR,.int .i64 G.st] x)=>MX AT cT B G.ts x (aa.fp fun g o hg=>h.below.cell (p:=⟨g,o,none⟩) (Ah hg hB)) HF.o.t (Aj hB h.below.size) (by omega));have H3:=aA (fun(x:World) (h:One w #[.slice AT G.ts.length cT,.slice AN G.ns.length cN,.slice AR G.rs.length cR,.int .i64 G.st] x)=>MZ _ G B x (HG.o.below h.below hB) HF.o (Aj hB h.below.size));have ab:(G.ns.length:Int)<=9223372036854775807:=by omega
 unfold Gi;clear hf aa HG HF ac ad ae af ag ah hB;cases p1:qm G
 ·rw[p1]at H1;clear p1 H2 H3
  go_enter func96,ntmps96
  go_wp2_with fail
  refine(H1.o _ f.o).mono ?_;rintro _ w2 ⟨rfl,hb⟩;have d:=aA (f.o.on hb);clear hb;go_wp2;go_ret
  exact⟨rfl,d.o.below⟩
 rw[p1]at H1;clear p1;cases p2:sI G.ts [] 0
 ·rw[p2]at H2;clear p2 H3
  go_enter func96,ntmps96
  go_wp2_with fail
  refine(H1.o _ f.o).mono ?_;rintro _ w2 ⟨rfl,hb⟩;have d:=aA (f.o.on hb);have q0:=d.o.c 0 _ rfl;have z2:w.heap.size<w2.heap.size:=d.o.size;clear hb;go_wp2_with fail
  refine(H2.o _ d.o).mono ?_;rintro _ w3 ⟨rfl,hb⟩;have b:=aA (d.o.on hb);clear hb;go_wp2;go_ret
  exact⟨rfl,b.o.below⟩
 rw[p2]at H2;clear p2;cases p3:tO G
 ·rw[p3]at H3;clear p3
  go_enter func96,ntmps96
  go_wp2_with fail
  refine(H1.o _ f.o).mono ?_;rintro _ w2 ⟨rfl,hb⟩;have d:=aA (f.o.on hb);have q0:=d.o.c 0 _ rfl;have z2:w.heap.size<w2.heap.size:=d.o.size;clear hb;go_wp2_with fail
  refine(H2.o _ d.o).mono ?_;rintro _ w3 ⟨rfl,hb⟩;have b:=aA (d.o.on hb);have r0:=b.o.c 0 _ rfl;have r1:=b.o.c 1 _ rfl;have r2:=b.o.c 2 _ rfl;have r3:=b.o.c 3 _ rfl;have z3:w.heap.size<w3.heap.size:=b.o.size;clear hb;go_wp2_with fail
  refine(H3.o _ b.o).mono ?_;rintro _ w4 ⟨rfl,hb⟩;have i:=aA (b.o.on hb);clear hb;go_wp2;go_ret
  exact⟨rfl,i.o.below⟩
 rw[p3]at H3;clear p3;by_cases h4:0<=G.st
 focus
  rw[AQ h4]
 rotate_left
 focus
  rw[AM h4];have ai:=Int.not_le.1 h4;clear h4
 rotate_left
 all_goals
  go_enter func96,ntmps96
  go_wp2_with fail
  refine(H1.o _ f.o).mono ?_;rintro _ w2 ⟨rfl,hb⟩;have d:=aA (f.o.on hb);have q0:=d.o.c 0 _ rfl;have z2:w.heap.size<w2.heap.size:=d.o.size;clear hb;go_wp2_with fail
  refine(H2.o _ d.o).mono ?_;rintro _ w3 ⟨rfl,hb⟩;have b:=aA (d.o.on hb);have r0:=b.o.c 0 _ rfl;have r1:=b.o.c 1 _ rfl;have r2:=b.o.c 2 _ rfl;have r3:=b.o.c 3 _ rfl;have z3:w.heap.size<w3.heap.size:=b.o.size;clear hb;go_wp2_with fail
  refine(H3.o _ b.o).mono ?_;rintro _ w4 ⟨rfl,hb⟩;have i:=aA (b.o.on hb);have s1:=i.o.c 1 _ rfl;have s3:=i.o.c 3 _ rfl;have z4:w.heap.size<w4.heap.size:=i.o.size;clear hb;go_wp2;go_ret
 focus
  exact⟨aE (by simp),i.o.below⟩
 focus
  exact⟨rfl,i.o.below⟩
def fU (A:Option Addr) (c k:Nat):Option Addr:=if c=k then A else A.map fun x=>x.add k
theorem il.fU {w:World} {B c:Nat} {A:Option Addr} {l:List Int} (h:il w B A l) (hc:l.length<=c) (k:Nat):il w B (fU A c k) (l.drop k):=by
 intro hn;rw[Bl]at hn;obtain⟨g,o,rfl,hg,aa⟩:=h (by omega);refine⟨g,o+k,?_,hg,fun j hj=>?_⟩
 ·have e:((⟨g,o,none⟩:Addr).add k)=⟨g,o+k,none⟩:=by unfold Addr.add;by_cases h0:k=0 <;> simp[h0]
  unfold Go.Proofs.YtcmhaemaophplaaGreat.fU;rw[AI (by omega),Dm,e]
 ·rw[Bl]at hj;rw[show o+k+j=o+(k+j) by omega,aa (k+j) (by omega),L.fy (by omega:k+j<l.length),L.fy (by rw[Bl];exact hj),Dt]
def ky (r:Option Nat):Value:=match r with|none=>.tuple #[.int .i64 0,.int .i64 4]|some m=>.tuple #[.int .i64 ((m+1:Nat):Int),.int .i64 0]
theorem Ql (w:World) (A:Option Addr) (c n j:Nat) (h2:j<=c):(Instr.sliceAt 65 (.slice A n c) none (some (.int .i64 j)) none).run prog w=.ok (.slice A j c) w:=by
 rw[DX _ _ _ _ _ _ (by kernel_rfl),run_slice_h _ _ _ _ _ (by kernel_rfl) .i64 (j:Int) (by omega) (by omega)];have hs:(sizeOf (prog.elem 65)).run prog w=.ok 1 w:=by kernel_rfl
 rw[hs]
 have e:∀A:Option Addr,A.map (fun x=>x.add 0)=A:=fun A=>by
  cases A with
  | none=>rfl
  | some x=>simp[Addr.add]
 simp[Result.andThen,sliced,e]
end Go.Proofs.YtcmhaemaophplaaGreat
namespace Go.Proofs.YtcmhaemaophplaaGreat.Fl
open Ieee
def fl (n:Int):Nat:=floatOfInt .f64 n
def St (d:Datum) (n k:Nat):Prop:=d=.number false (n*2 ^ k) (-(k:Int))
theorem lp:double.leastPlace = -1074:=by decide
theorem bn:double.binade=4503599627370496:=by decide
theorem fb:double.fractionBits=52:=rfl
end Go.Proofs.YtcmhaemaophplaaGreat.Fl
namespace Go.Proofs.YtcmhaemaophplaaGreat
def pl (l c:Int):Value:=.complex .f64 (Fl.fl l) (Fl.fl c)
def yL (n:Int):Prop:=1<=n/\n<=1073741824
theorem yL.in {n:Int} (h:yL n):0<=n/\n<=1073741824:=by unfold yL at h;omega
def Jg (l c m d:Int):Bool:=decide (l<m)||(decide (l=m)&&decide (c<d))
theorem Qx (l c:Int) (w:World) (hl:yL l) (hc:yL c) :
  Calls prog 125 #[.int .i64 l,.int .i64 c] w fun e w'=>e=.returned (.complex .f64 (Fl.fl l) (Fl.fl c))/\w=w':=by
 have C2:∀n w,(convert 3 216 (.int .i64 n)).run prog w=.ok (.float .f64 (Fl.fl n)) w:=fun n w=>run_convert_int_float w _ _ .i64 .f64 _ (by rw[underlying3];rfl) underlying216;obtain⟨h1,h2⟩:=hl;obtain⟨h3,h4⟩:=hc
 go_enter func125,ntmps125
 go_wp2_with (simp only[C2])
 go_ret
 exact⟨rfl,rfl⟩
namespace Pl
def xN (p:Int×Int) (z:Int):Int×Int:=if z=10 then(p.1+1,1) else(p.1,p.2+1)
def pos (l:List Int):Int×Int:=l.foldl xN (1,1)
theorem lB (l:List Int) (z:Int):pos (l++[z])=xN (pos l) z:=by unfold pos;rw[Dj];rfl
theorem mY (l:List Int) (k:Nat) (h:k<l.length):pos (l.take (k+1))=xN (pos (l.take k)) (l.getD k 0):=by rw[L.jB l k h,lB]
theorem yO (l:List Int) (k:Nat) (h:k<=l.length):1<=(pos (l.take k)).1/\(pos (l.take k)).1<=1+k/\1<=(pos (l.take k)).2/\(pos (l.take k)).2<=1+k:=by
 induction k with
 | zero=>simp[pos]
 | succ k ih =>
  have:=ih (by omega)
  rw[mY l k (by omega)];unfold xN;split <;> simp only <;> omega
theorem kL (l:List Int) (i k:Nat) (h:i<k) (hk:k<=l.length):Jg (pos (l.take i)).1 (pos (l.take i)).2 (pos (l.take k)).1 (pos (l.take k)).2=true:=by
 induction k with
 | zero=>omega
 | succ k ih =>
  rw[mY l k (by omega)];by_cases e:i=k
  ·subst e;unfold xN Jg;split <;> simp
   all_goals omega
  ·have:=ih (by omega) (by omega)
   unfold Jg at this ⊢;unfold xN;simp only[Dd,Bb,Bi]at this ⊢;split <;> simp only <;> omega
end Pl
theorem zT (A:Option Addr) (c B:Nat) (l:List Int) (i:Nat) (w:World) (hr:il w B A l) (hn:l.length<=2000) (hi:i<=l.length) :
  Calls prog 87 #[.slice A l.length c,.int .i64 i] w fun e w'=>e=.returned (.complex .f64 (Fl.fl (Pl.pos (l.take i)).1) (Fl.fl (Pl.pos (l.take i)).2))/\w=w':=by
 have ae:¬(l.length:Int)<i:=by omega
 go_enter func87,ntmps87
 go_wp2
 go_loop [7,5,6] (fun vi vl vc=>∃(k:Nat),k<=i/\vi=.int .i64 k/\vl=.int .i64 (Pl.pos (l.take k)).1/\vc=.int .i64 (Pl.pos (l.take k)).2) (fun vi _ _=>i-(intOf vi).toNat)
 case atStart=>exact⟨0,by omega,rfl,rfl,rfl⟩
 case round =>
  obtain⟨k,hk,rfl,rfl,rfl⟩:=hrel;have hb:=Pl.yO l k (by omega);by_cases af:k<i
  ·obtain⟨g,o,rfl,_,ac⟩:=hr (by omega);have ad:=ac k (by omega);have aa:=aA (Pl.mY l k (by omega));have ag:k<l.length:=by omega
   generalize l.getD k 0=z at *;generalize Pl.pos (l.take k)=p at *;obtain⟨x,y⟩:=p;simp only at hb;obtain⟨b1,b2,b3,b4⟩:=hb;clear ac;by_cases ab:z=10
   ·subst ab;go_wp2
    go_round
    case rel=>exact⟨k+1,by omega,by go_num,by rw[aa.o];rfl,by rw[aa.o];rfl⟩
    case measure=>simp[intOf];omega
   ·have ah:(z==10)=false:=by simpa using ab
    have HN:=aA ab;clear ab;go_wp2
    go_round
    case rel=>exact⟨k+1,by omega,by go_num,by rw[aa.o];unfold Pl.xN;rw[AI HN.o],by rw[aa.o];unfold Pl.xN;rw[AI HN.o]⟩
    case measure=>simp[intOf];omega
  ·obtain rfl:k=i:=by omega
   clear hr;have HS:=aA (fun w=>Qx (Pl.pos (l.take k)).1 (Pl.pos (l.take k)).2 w (by unfold yL;omega) (by unfold yL;omega));clear hb;go_wp2_with fail
   refine(HS.o _).mono ?_;rintro _ w' ⟨rfl,rfl⟩;go_wp2;go_ret
   exact⟨rfl,rfl⟩
theorem Sz:(prog.info? 157).map (fun i=>(i.zero,i.size,i.bytes))=some (some (.agg #[.int .i64 0,.string ⟨#[]⟩,.complex .f64 0 0]),3,40):=by kernel_rfl
def bG (k:Int) (l:List Int):List Int:=if k=1\/k=2 then l else []
def bU:Obj:=.cells #[.int .i64 0,.string ⟨#[]⟩,.complex .f64 0 0] 157
structure fw where
 k:Int
 t:List Int
 o:Nat
inductive Out where
 | ok:List fw->Out
 | bad:Nat->Int->Out
def more (acc:List fw) (k:Nat) (x:T.P3) (l:List Int):List fw:=if x.1=0 then acc else acc++[⟨x.1,bG x.1 (l.take x.2.1),k⟩]
def zM (m:Nat) (x:T.P3):Nat:=if x.1=9 then m+1 else m
def tG:Nat->List Int->Nat->Nat->List fw->Out
 | 0,_,_,_,acc=>.ok acc
 | f+1,l,k,m,acc=>if l.length=0\/m=2 then .ok acc else if(T.piece l).2.2≠0 then .bad k (T.piece l).2.2 else tG f (l.drop (T.piece l).2.1) (k+(T.piece l).2.1) (zM m (T.piece l)) (more acc k (T.piece l) l)
theorem KC (f:Nat) (l:List Int) (k m:Nat) (acc:List fw) (h:l.length=0\/m=2):tG f l k m acc=.ok acc:=by
 cases f with
 | zero=>rfl
 | succ f=>unfold tG;rw[AC h]
theorem KD (f:Nat) (l:List Int) (k m:Nat) (acc:List fw) (h:¬(l.length=0\/m=2)) (hb:(T.piece l).2.2≠0):tG (f+1) l k m acc=.bad k (T.piece l).2.2:=by
 rw[tG,AI h,AC hb]
theorem Lh (f:Nat) (l:List Int) (k m:Nat) (acc:List fw) (h:¬(l.length=0\/m=2)) (hb:(T.piece l).2.2=0):tG (f+1) l k m acc=tG f (l.drop (T.piece l).2.1) (k+(T.piece l).2.1) (zM m (T.piece l)) (more acc k (T.piece l) l):=by
 rw[tG,AI h,AI (by simpa using hb)]
def zt (l:List Int):Out:=tG (l.length+1) l 0 0 []
def tC (L:List Int) (x:fw):List Value:=[.int .i64 x.k,.string (K.str x.t),.complex .f64 (Fl.fl (Pl.pos (L.take x.o)).1) (Fl.fl (Pl.pos (L.take x.o)).2)]
theorem Ov (L:List Int) (xs:List fw) (i j:Nat) (hi:i<xs.length) (hj:j<3):(xs.flatMap (tC L))[i*3+j]?=(tC L xs[i])[j]?:=by
 induction xs generalizing i with
 | nil=>simp at hi
 | cons x r ih =>
  rw[B5];have hl:(tC L x).length=3:=rfl;cases i with
  | zero=>rw[BM (by omega)];simp
  | succ i =>
   rw[Ce (by omega),hl,show(i+1)*3+j-3=i*3+j by omega]
   simpa using ih i (by simpa using hi)
def bV (L:List Int) (w:World) (base:Nat) (v:Value) (xs:List fw):Prop:=w.ownsRow base 157 3 v xs.length (xs.flatMap (tC L))
theorem bV.nil (L:List Int) (w:World) (base:Nat):bV L w base (.slice none 0 0) []:=Da w base _ _
theorem bV.alloc {L:List Int} {xs:List fw} (h:bV L w base v xs) (o:Obj):bV L (w.alloc o) base v xs:=C5 h o
theorem bV.drewN {L:List Int} {xs:List fw} (h:bV L w base v xs) (n:Nat):bV L (w.drewN n) base v xs:=h
theorem bV.below {L:List Int} {xs:List fw} (h:bV L w base v xs) (hb:Below B w w') (hB:w.heap.size<=B):bV L w' base v xs:=by
 refine⟨h.1,?_⟩;rcases h.2 with h0|⟨g,cap,cur,e,aa,hg,hr⟩
 ·exact .inl h0
 ·exact .inr ⟨g,cap,cur,e,aa,(hb.block g (Ah (Ad.1 hg).1 hB)).trans hg,hr⟩
theorem bV.form {L:List Int} {xs:List fw} (h:bV L w base v xs):∃A c,v=.slice A xs.length c/\xs.length<=c/\c<=maxLen:=by
 rcases h.2 with⟨rfl,h0⟩|⟨g,cap,cur,rfl,hb,hg,hn,hm,hs,ht⟩
 ·exact⟨none,0,by rw[h0],by omega,by unfold maxLen;omega⟩
 ·exact⟨_,cap,rfl,hn,hm⟩
theorem bV.addr {L:List Int} {xs:List fw} (h:bV L w base v xs) (h0:xs.length≠0):∃g c,v=.slice (some ⟨g,0,none⟩) xs.length c/\xs.length<=c/\c<=maxLen/\base<=g/\g<w.heap.size /\
  ∀i j u,i<xs.length->j<3->(xs[i]?.map (tC L)).bind (·[j]?)=some u->w.cell? ⟨g,i*3+j,none⟩=some u:=by
 rcases h.2 with⟨_,h1⟩|⟨g,cap,cur,rfl,hb,hg,hn,hm,hs,ht⟩
 ·exact absurd h1 h0
 ·refine⟨g,cap,rfl,hn,hm,hb,(Ad.1 hg).1,fun i j u hi hj hu=>?_⟩;have hx:xs[i]?=some xs[i]:=AD hi;rw[hx]at hu;have hc:=CE h (g:=g) rfl (i*3+j) u (by rw[Ov L xs i j hi hj];exact hu);rw[Go.WideShapes.add_plain,BG]at hc;exact hc
theorem Nk {L:List Int} {a:World} {xs:List fw} (h:Below B a w) (ho:bV L w B v xs) (hg:w.grownBy w' v.ownBlock) (hs:B<=w.heap.size):Below B a w' :=
 h.grown hg hs (fun k e=>(Bk ho k e).1)
theorem Ri {rest:List Oper} {o:Oper} {a:Act} {Q:Exit->Act->World->Prop} (ac:o.guard=none) (s x:Operand) (t:TypeId) (ho:o.op=.call {callee:=.builtin .append,args:=#[s,x],argTypes:=#[t,t]}) (ht:prog.underlying t=some (.slice 157)) (L:List Int) (base:Nat) (v:Value) (xs:List fw) (hs:a.eval s=v) (ab:bV L w base v xs) (g c:Nat) (y:fw) (hx:a.eval x=.slice (some ⟨g,0,none⟩) 1 c) (hz:∀j u,(tC L y)[j]?=some u->w.cell? ⟨g,j,none⟩=some u) (ad:xs.length<=1000000) (aa:base<=w.heap.size) (hK:∀v' w',bV L w' base v' (xs++[y])->w.grownBy w' v.ownBlock->wpList prog ops Q rest (a.put o.dst v') w') :
  wpList prog ops Q (o::rest) a w:=by
 obtain⟨i,hi,ae,af,ag⟩:=Cs Sz;refine CT w ac s x t ho base 157 i _ 3 40 ht hi ae af ag rfl (by decide) v xs.length (xs.flatMap (tC L)) hs ab ⟨g,0,none⟩ 1 c (tC L y) hx rfl ?_ ?_ (by unfold maxLen;omega) (by omega) aa fun v' w' h1 h2 _=>hK v' w' ?_ h2
 ·intro j u hj;rw[Go.WideShapes.add_plain,BG];exact hz j u hj
 ·intro u hu;simp[tC]at hu;rcases hu with rfl|rfl|rfl <;> rfl
 ·unfold bV;rw[AW,B4,Cw];exact h1
namespace Y
inductive ny (α:Type) where
 | ok:α->List fw->ny α
 | bad:Option fw->ny α
def ny.bind {α β:Type} (r:ny α) (f:α->List fw->ny β):ny β:=match r with | .ok a l=>f a l | .bad p=>.bad p
theorem r4 {α β:Type} (a:α) (l:List fw) (f:α->List fw->ny β):(ny.ok a l).bind f=f a l:=rfl
structure kB where
 k:Int
 ns:List fw
structure iv where
 l:fw
 r:List fw
 p:Option fw
def is (ks:List Int):List fw->Bool
 | []=>false
 | t::_=>ks.contains t.k
def take (ks:List Int):List fw->ny fw
 | []=>.bad none
 | t::r=>if ks.contains t.k then .ok t r else .bad (some t)
def isRef (t:fw):Bool:=[(1:Int),2].contains t.k
def decl (ts:List fw):ny kB:=(take [3,4,5,6,7] ts).bind fun t r=>if t.k=7 then(take [1] r).bind fun n r=>.ok ⟨7,[n]⟩ r else(take [1,2] r).bind fun n r=>.ok ⟨t.k,n::r.takeWhile isRef⟩ (r.dropWhile isRef)
def decls:Nat->List kB->List fw->ny (List kB)
 | 0,acc,ts=>.ok acc ts
 | f+1,acc,ts=>if is [9] ts then .ok acc ts else(decl ts).bind fun d r=>decls f (acc++[d]) r
def qn (left:fw) (rs r:List fw):ny iv:=if is [8] r then(take [8] r).bind fun _ r=>(take [1,2] r).bind fun p r=>.ok ⟨left,rs,some p⟩ r else .ok ⟨left,rs,none⟩ r
def gD (left:fw) (ts:List fw):ny iv:=qn left (ts.takeWhile isRef) (ts.dropWhile isRef)
def alts:Nat->fw->List iv->List fw->ny (List iv)
 | 0,_,acc,ts=>.ok acc ts
 | f+1,left,acc,ts=>(gD left ts).bind fun p r=>(take [11,12] r).bind fun t r=>if t.k=11 then alts f left (acc++[p]) r else .ok (acc++[p]) r
def group (acc:List iv) (ts:List fw):ny (List iv):=(take [1] ts).bind fun left r=>(take [10] r).bind fun _ r=>alts (r.length+1) left acc r
def LX:Nat->List iv->List fw->ny (List iv)
 | 0,acc,ts=>.ok acc ts
 | f+1,acc,ts=>if ts.length≠0/\is [9] ts=false then(group acc ts).bind fun ps r=>LX f ps r else .ok acc ts
def Ml (ts:List fw):ny Unit:=if ts.length=0 then .ok () ts else(take [] ts).bind fun _ r=>.ok () r
def tail (ts:List fw):ny Unit:=if is [9] ts then(take [9] ts).bind fun _ r=>Ml r else Ml ts
def source (ts:List fw):ny (List kB×List iv):=(decls (ts.length+1) [] ts).bind fun ds r=>(take [9] r).bind fun _ r=>(group [] r).bind fun ps r=>(LX (r.length+1) ps r).bind fun ps r=>(tail r).bind fun _ r=>.ok (ds,ps) r
theorem take_cons (ks:List Int) (x:fw) (xs:List fw):take ks (x::xs)=if ks.contains x.k then .ok x xs else .bad (some x):=rfl
theorem ik {ks:List Int} {ts:List fw} {t:fw} {r:List fw} (h:take ks ts=.ok t r):ts=t::r/\ks.contains t.k=true:=by
 cases ts with
 | nil=>cases h
 | cons x xs =>
  rw[take_cons]at h;by_cases hx:ks.contains x.k=true
  ·rw[AC hx]at h;injection h with h1 h2;subst h1 h2;exact⟨rfl,hx⟩
  ·rw[AI hx]at h;cases h
theorem se {ks:List Int} {ts:List fw} (h:is ks ts=true):∃t r,ts=t::r/\take ks ts=.ok t r/\ks.contains t.k=true:=by
 cases ts with
 | nil=>cases h
 | cons x xs=>exact⟨x,xs,rfl,by rw[take_cons,AC (show ks.contains x.k=true from h)],h⟩
theorem uQ {ts:List fw} (h:is [1,2] ts=false):ts.takeWhile isRef=[]/\ts.dropWhile isRef=ts:=by
 cases ts with
 | nil=>exact⟨rfl,rfl⟩
 | cons t r =>
  have h':isRef t=false:=h;rw[List.takeWhile_cons,List.dropWhile_cons,h'];exact⟨rfl,rfl⟩
theorem fD {α β:Type} {x:ny α} {f:α->List fw->ny β} {b:β} {r:List fw} (h:x.bind f=.ok b r):∃a m,x=.ok a m/\f a m=.ok b r:=by
 cases x with
 | ok a m=>exact⟨a,m,rfl,h⟩
 | bad p=>cases h
end Y
namespace Gm
inductive R (α:Type) where
 | ok:α->R α
 | bad:fw->Int->R α
def R.bind {α β:Type} (r:R α) (f:α->R β):R β:=match r with | .ok a=>f a | .bad x e=>.bad x e
theorem R.r4 {α β:Type} (a:α) (f:α->R β):(R.ok a).bind f=f a:=rfl
theorem R.bind_eq {α β:Type} {x:R α} {f:α->R β} {b:β} (h:x.bind f=.ok b):∃a,x=.ok a/\f a=.ok b:=by
 cases x with
 | ok a=>exact⟨a,rfl,h⟩
 | bad x e=>cases h
def put (ts:List Tm) (x:fw):R (List Tm×Int) :=
 if 0<=find (names ts) x.t then .ok (ts,find (names ts) x.t) else if ts.length=24 then .bad x 5 else .ok (ts++[⟨x.t,0,0⟩],ts.length)
structure S1 where
 ts:List Tm
 tk:List (List Int)
 st:Option fw
 lv:Int
def uc (k:Int) (S:S1) (x:fw):R S1 :=
 if k=7 then(if S.st.isSome then .bad x 7 else .ok {S with st:=some x})
 else if k=3 then(if x.t∈S.tk then .bad x 7 else(put S.ts x).bind fun p=>.ok {S with ts:=p.1,tk:=S.tk++[x.t]})
 else if 0<=find (names S.ts) x.t/\0<(S.ts.map Tm.lv).getD (find (names S.ts) x.t).toNat 0 then .bad x 7
 else(put S.ts x).bind fun p=>.ok {S with ts:=p.1.modify p.2.toNat fun t=>⟨t.nm,S.lv,k-3⟩}
def MJ (k:Int):S1->List fw->R S1
 | S,[]=>.ok S
 | S,x::r=>(uc k S x).bind fun S=>MJ k S r
def up (k:Int) (S:S1):S1:=if k=3\/k=7 then S else {S with lv:=S.lv+1}
def decls:S1->List Y.kB->R S1
 | S,[]=>.ok S
 | S,d::r=>(MJ d.k (up d.k S) d.ns).bind fun S=>decls S r
def l8 (ts:List Tm) (ns:List (List Int)) (x:fw):R (List (List Int)) :=
 if 0<=find (names ts) x.t then .bad x 7 else if 0<=find ns x.t then .ok ns else if ns.length=16 then .bad x 5 else .ok (ns++[x.t])
def kC (ts:List Tm):List (List Int)->List Y.iv->R (List (List Int))
 | ns,[]=>.ok ns
 | ns,p::r=>(l8 ts ns p.l).bind fun ns=>kC ts ns r
def sym (ts:List Tm) (x:fw):R (List Tm×Int) :=
 if 0<=find (names ts) x.t\/T.isLit x.t=true\/x.t=[101,114,114,111,114] then put ts x else .bad x 6
def tx (ns:List (List Int)) (ts:List Tm) (x:fw):R (List Tm×Int):=if 0<=find ns x.t then .ok (ts,-1-find ns x.t) else sym ts x
def Ft (ns:List (List Int)) (ts:List Tm) (x:fw):R (List Tm×Int):=if 0<=find ns x.t then .bad x 6 else sym ts x
def jH (ns:List (List Int)):List Tm->List Int->Int->List fw->R (List Tm×List Int×Int)
 | ts,acc,p,[]=>.ok (ts,acc,p)
 | ts,acc,p,x::r=>if acc.length=6 then .bad x 5 else(tx ns ts x).bind fun q=>jH ns q.1 (acc++[q.2]) (if 0<=q.2 then q.2 else p) r
def nP (ns:List (List Int)) (ts:List Tm) (rs:List Rl) (p:Y.iv):R (List Tm×List Rl) :=
 if rs.length=40 then .bad p.l 5 else(jH ns ts [] (-1) p.r).bind fun q=>match p.p with
  | none=>.ok (q.1,rs++[⟨find ns p.l.t,q.2.1,q.2.2⟩])
  | some x=>(Ft ns q.1 x).bind fun y=>.ok (y.1,rs++[⟨find ns p.l.t,q.2.1,y.2⟩])
def ma (ns:List (List Int)):List Tm->List Rl->List Y.iv->R (List Tm×List Rl)
 | ts,rs,[]=>.ok (ts,rs)
 | ts,rs,p::r=>(nP ns ts rs p).bind fun q=>ma ns q.1 q.2 r
def start (ns:List (List Int)):Option fw->R Int
 | none=>.ok 0
 | some x=>if 0<=find ns x.t then .ok (find ns x.t) else .bad x 8
def build (ds:List Y.kB) (ps:List Y.iv):R Gr :=
 (decls ⟨[],[],none,0⟩ ds).bind fun S=>(kC S.ts [] ps).bind fun ns=>(ma ns S.ts [] ps).bind fun q=>(start ns S.st).bind fun z=>.ok ⟨q.1,ns,q.2,z⟩
theorem Io (ts:List Tm):(names ts).length=ts.length:=by simp[names]
theorem rF {ts ts':List Tm} {x:fw} {n:Int} (h:put ts x=.ok (ts',n)):(∃j:Nat,find (names ts) x.t=(j:Int)/\ts'=ts/\n=(j:Int)/\∃hj:j<ts.length,(ts[j]).nm=x.t)\/(x.t ∉ names ts/\ts'=ts++[⟨x.t,0,0⟩]/\n=(ts.length:Int)/\ts.length≠24):=by
 unfold put at h;split at h
 ·rename_i h0
  injection h with h;injection h with h1 h2;obtain⟨i,e,hi,hs⟩:=Pa h0;rw[Io]at hi;exact .inl ⟨i,e,h1.symm,by rw[<-h2,e],hi,by simpa[names] using hs⟩
 ·rename_i h0
  split at h
  ·cases h
  ·rename_i aa
   injection h with h;injection h with h1 h2;exact .inr ⟨zH.1 (by omega),h1.symm,h2.symm,aa⟩
theorem mem_modify {l:List Tm} {f:Tm->Tm} {t:Tm} (h:t∈l.modify n f):t∈l \/ ∃hn:n<l.length,t=f l[n]:=by
 obtain⟨i,hi,rfl⟩:=BF h;rw[List.length_modify]at hi;rw[List.getElem_modify];split
 ·rename_i e;subst e;exact .inr ⟨hi,rfl⟩
 ·exact .inl (AE _)
theorem G8:∀(L:Nat) (ts:List Tm),(∀n:Nat,1<=n->n<=L->∃t∈ts,t.lv=(n:Int))->L<=ts.length
 | 0,_,_=>AV _
 | L+1,ts,h=>by
  obtain⟨t,ht,e⟩:=h (L+1) (by omega) (by omega);obtain⟨a,b,rfl⟩:=List.append_of_mem ht
  have:=G8 L (a++b) (fun n h1 h2=>by
   obtain⟨u,hu,eu⟩:=h n h1 (by omega);refine⟨u,?_,eu⟩;simp only[Bt,Bu]at hu ⊢;rcases hu with q|q|q
   ·exact .inl q
   ·subst q;omega
   ·exact .inr q)
  simp at this ⊢;omega
theorem Iy {n w:Int} (hw:w≠0):∀(ts:List Tm) (way:Int),(∀t∈ts,t.lv=n->t.wy=w)->way=0\/way=w->way=w\/(∃t∈ts,t.lv=n)->nA n ts way=true
 | [],way,_,_,h=>by
  unfold nA;rcases h with h|⟨t,ht,_⟩
  ·subst h;simpa using hw
  ·simp at ht
 | t::r,way,h1,h2,h3=>by
  rw[nA];by_cases hl:t.lv=n
  ·have e:=h1 t (Br ..) hl;rw[AI (show ¬t.lv≠n from fun q=>q hl),AI (show ¬(way≠0/\way≠t.wy) from fun q=>by rcases h2 with p|p;exact q.1 p;exact q.2 (p.trans e.symm))];exact Iy hw r t.wy (fun u hu=>h1 u (Bo _ hu)) (.inr e) (.inl e)
  ·rw[AC hl];refine Iy hw r way (fun u hu=>h1 u (Bo _ hu)) h2 ?_;rcases h3 with h3|⟨u,hu,eu⟩
   ·exact .inl h3
   ·rcases Bu.1 hu with q|q
    ·subst q;exact absurd eu hl
    ·exact .inr ⟨u,q,eu⟩
theorem Kg {l:List (List Int)} (hn:l.Nodup) (i:Nat) (hi:i<l.length):find l l[i]=(i:Int) :=
 mK i hi rfl fun k hk=>fun e=>CX.1 hn k i (by omega) hi hk e
def xz (n:Nat):List Int->Int->Bool
 | [],top=>top==n-1
 | l::r,top=>if l<0\/top+1<l then false else xz n r (if top<l then l else top)
theorem pW {ts:List Tm} {x:fw} (h:l8 ts ns x=.ok ns'):(ns'=ns/\0<=find ns x.t)\/(ns'=ns++[x.t]/\x.t ∉ ns/\x.t ∉ names ts/\ns.length≠16):=by
 unfold l8 at h;split at h
 ·cases h
 ·rename_i h1
  split at h
  ·rename_i h2
   injection h with h;exact .inl ⟨h.symm,h2⟩
  ·rename_i h2
   split at h
   ·cases h
   ·rename_i h3
    injection h with h;exact .inr ⟨h.symm,zH.1 (by omega),zH.1 (by omega),h3⟩
theorem JE (G:Gr):∀(rs:List Rl) (top:Int),(∀r∈rs,gD G r=true)->xz G.ns.length (rs.map Rl.l) top=true->rules G rs top=true
 | [],_,_,h=>h
 | r::rs,top,hr,h=>by
  rw[Bz,xz]at h;rw[rules];split at h
  ·cases h
  ·rename_i h1
   rw[AI (by rw[hr r (Br ..)];simp;omega)];exact JE G rs _ (fun y hy=>hr y (Bo _ hy)) h
theorem kg:∀(g:Nat) (l:List Int),l.Nodup->(∀x∈l,1<=x/\x<=g)->l.length<=g/\(l.length=g->∀n:Nat,1<=n->n<=g->(n:Int)∈l)
 | 0,l,_,hb=>by
  have:l=[]:=by
   rcases l with _|⟨x,r⟩
   ·rfl
   ·have:=hb x (by simp);omega
  subst this;exact⟨Af _,fun _ n h1 h2=>by omega⟩
 | g+1,l,hn,hb=>by
  by_cases hm:((g+1:Nat):Int)∈l
  ·have hl:=List.length_erase_of_mem hm;have ab:0<l.length:=List.length_pos_of_mem hm
   obtain⟨h1,h2⟩:=kg g (l.erase ((g+1:Nat):Int)) (hn.erase _) (fun x hx=>by
    have aa:=(hn.mem_erase_iff).1 hx
    have:=hb x aa.2
    have:=aa.1
    omega)
   refine⟨by omega,fun e n q1 q2=>?_⟩;by_cases hg:n=g+1
   ·subst hg;exact hm
   ·exact Bq (h2 (by omega) n q1 (by omega))
  ·obtain⟨h1,_⟩:=kg g l hn (fun x hx=>by
    have:=hb x hx
    have:x≠((g+1:Nat):Int):=fun e=>hm (e▸hx)
    omega)
   exact⟨by omega,fun e=>by omega⟩
structure tV (ts:List Tm):Prop where
 a:∀t∈ts,sU t=true
 b:∀t∈ts,∀u∈ts,0<t.lv->t.lv=u.lv->t.wy=u.wy
 c:∀t∈ts,∀n:Nat,1<=n->(n:Int)<=t.lv->∃u∈ts,u.lv=(n:Int)
theorem GH (t:Tm):sU t=true↔0<=t.lv/\0<=t.wy/\t.wy<=3/\(t.lv=0↔t.wy=0):=by
 unfold sU;by_cases h0:t.wy=0
 ·rw[AC h0];simp only[BJ];omega
 ·rw[AI h0];by_cases h1:t.wy=1\/t.wy=2\/t.wy=3
  ·rw[AC h1];simp only[Bi];omega
  ·rw[AI h1];simp only[DF,false_iff];omega
structure Inv (pre:List Tm) (m:List (Int×Int)) (g:Int):Prop where
 n:(m.map Prod.fst).Nodup
 f:∀t∈pre,0<t.lv->Mw.fF m t.lv=some t.wy
 r:∀l w,Mw.fF m l=some w->0<l/\∃t∈pre,t.lv=l/\t.wy=w
 a:∀t∈pre,sU t=true
 g0:0<=g
 g1:∀t∈pre,t.lv<=g
 g2:g=0 \/ ∃t∈pre,t.lv=g
theorem Inv.nil:Inv [] [] 0:=⟨by simp,by simp,fun _ _ h=>by simp[Mw.fF]at h,by simp,Int.le_refl _,by simp,.inl rfl⟩
theorem Inv.key {pre:List Tm} {m:List (Int×Int)} {g:Int} (h:Inv pre m g) {x:Int} (hx:x∈m.map Prod.fst):∃w,Mw.fF m x=some w:=by
 obtain⟨p,hp,rfl⟩:=Bm.1 hx;exact⟨p.2,Mw.mE h.n hp⟩
theorem Inv.next {pre:List Tm} {m:List (Int×Int)} {g:Int} {t:Tm} (h:Inv pre m g) (ha:sU t=true) (hc:¬((Mw.fF m t.lv).isSome=true/\(Mw.fF m t.lv).getD 0≠t.wy)):Inv (pre++[t]) (xY m t) (max g t.lv):=by
 have hl:=((GH t).1 ha).1;have b:∀u,u∈pre++[t]↔u∈pre\/u=t:=fun u=>by simp
 have ac:=h.g0
 have d:0<=max g t.lv/\(∀u∈pre++[t],u.lv<=max g t.lv)/\(max g t.lv=0 \/ ∃u∈pre++[t],u.lv=max g t.lv):=by
  refine⟨by omega,fun u hu=>?_,?_⟩
  ·rcases(b u).1 hu with q|rfl
   ·have:=h.g1 u q;omega
   ·omega
  ·by_cases ad:g<=t.lv
   ·exact .inr ⟨t,(b t).2 (.inr rfl),by omega⟩
   ·rcases h.g2 with q|⟨u,hu,e⟩
    ·omega
    ·exact .inr ⟨u,(b u).2 (.inl hu),by omega⟩
 have aa:∀u∈pre++[t],sU u=true:=fun u hu=>by
  rcases(b u).1 hu with q|rfl
  ·exact h.a u q
  ·exact ha
 unfold xY;by_cases hp:0<t.lv
 ·rw[AC hp];cases hq:Mw.fF m t.lv with
  | none =>
   rw[AC rfl];refine⟨?_,?_,?_,aa,d.1,d.2.1,d.2.2⟩
   ·rw[Bf,CK];refine⟨h.n,by simp,fun x hx y hy e=>?_⟩;simp only[Bz,Du,AP]at hy;obtain⟨w,hw⟩:=h.key hx;rw[e,hy,hq]at hw;cases hw
   ·intro u hu h0;rw[Mw.kS hq];rcases(b u).1 hu with q|rfl
    ·have:=h.f u q h0
     by_cases e:t.lv=u.lv
     ·rw[<-e,hq]at this;cases this
     ·rw[AI e];exact this
    ·rw[AC rfl]
   ·intro l w hw;rw[Mw.kS hq]at hw;by_cases e:t.lv=l
    ·rw[AC e]at hw;injection hw with hw;exact⟨by omega,t,(b t).2 (.inr rfl),e,hw⟩
    ·rw[AI e]at hw;obtain⟨h1,u,hu,h2⟩:=h.r l w hw;exact⟨h1,u,(b u).2 (.inl hu),h2⟩
  | some w =>
   rw[AI (by simp)];have ab:w=t.wy:=BW fun e=>hc (by rw[hq];exact⟨rfl,e⟩);refine⟨h.n,?_,?_,aa,d.1,d.2.1,d.2.2⟩
   ·intro u hu h0;rcases(b u).1 hu with q|rfl
    ·exact h.f u q h0
    ·rw[hq,ab]
   ·intro l w hw;obtain⟨h1,u,hu,h2⟩:=h.r l w hw;exact⟨h1,u,(b u).2 (.inl hu),h2⟩
 ·rw[AI hp];refine⟨h.n,?_,?_,aa,d.1,d.2.1,d.2.2⟩
  ·intro u hu h0;rcases(b u).1 hu with q|rfl
   ·exact h.f u q h0
   ·exact absurd h0 hp
  ·intro l w hw;obtain⟨h1,u,hu,h2⟩:=h.r l w hw;exact⟨h1,u,(b u).2 (.inl hu),h2⟩
theorem Lm:∀(r pre:List Tm) (m:List (Int×Int)) (g:Int),Inv pre m g->(sI r m g=true↔tV (pre++r))
 | [],pre,m,g,h=>by
  rw[CF,sI,BJ]
  have aa:∀x∈m.map Prod.fst,1<=x/\x<=(g.toNat:Int):=fun x hx=>by
   obtain⟨w,hw⟩:=h.key hx;obtain⟨h1,u,hu,h2,_⟩:=h.r x w hw
   have:=h.g1 u hu
   have:=h.g0
   omega
  obtain⟨p1,p2⟩:=kg g.toNat (m.map Prod.fst) h.n aa;rw[Bh]at p1 p2;have ac:=h.g0
  constructor
  ·intro e;refine⟨h.a,fun t ht u hu h0 e'=>?_,fun t ht n q1 q2=>?_⟩
   ·have a1:=h.f t ht h0;have a2:=h.f u hu (by omega);rw[e',a2]at a1;injection a1 with a1;exact a1.symm
   ·have:=h.g1 t ht
    have hk:=p2 (by omega) n q1 (by omega);obtain⟨w,hw⟩:=h.key hk;obtain⟨_,u,hu,h2,_⟩:=h.r _ w hw;exact⟨u,hu,h2⟩
  ·intro ab;rcases h.g2 with q|⟨t,ht,e⟩
   ·omega
   ·have:g.toNat<=(m.map Prod.fst).length:=by
     have hh:∀n:Nat,1<=n->n<=g.toNat->∃t∈m.map (fun p=>(⟨[],p.1,0⟩:Tm)),t.lv=(n:Int):=fun n q1 q2=>by
      obtain⟨u,hu,e2⟩:=ab.c t ht n q1 (by omega)
      have:=h.f u hu (by omega)
      rw[e2]at this;exact⟨_,Bm.2 ⟨_,Mw.oC this,rfl⟩,rfl⟩
     have:=G8 g.toNat _ hh
     simpa using this
    rw[Bh]at this;omega
 | t::r,pre,m,g,h=>by
  rw[sI];by_cases ha:sU t=false
  ·rw[AC ha];simp only[DF,false_iff];intro q
   have:=q.a t (by simp)
   rw[ha]at this;cases this
  ·rw[AI ha];have ha:sU t=true:=by simpa using ha
   by_cases hc:(Mw.fF m t.lv).isSome=true/\(Mw.fF m t.lv).getD 0≠t.wy
   ·rw[AC hc];simp only[DF,false_iff];intro q;cases hq:Mw.fF m t.lv with
    | none=>rw[hq]at hc;simp at hc
    | some w =>
     rw[hq]at hc;obtain⟨h1,u,hu,h2,h3⟩:=h.r _ w hq
     have:=q.b u (by simp[hu]) t (by simp) (by omega) h2
     exact hc.2 (by simp only[Bp];omega)
   ·rw[AI hc,Lm r (pre++[t]) _ _ (h.next ha hc),Ci,Ej]
theorem GD {n:Int}:∀(ts:List Tm) (way:Int),(∀t∈ts,t.lv=n->t.wy≠0)->nA n ts way=true->(way≠0 \/ ∃t∈ts,t.lv=n)/\∃w,(way=0\/way=w)/\∀t∈ts,t.lv=n->t.wy=w
 | [],way,_,h=>by
  rw[nA]at h
  have:way≠0:=by simpa using h
  exact⟨.inl this,way,.inr rfl,by simp⟩
 | t::r,way,hn,h=>by
  rw[nA]at h;by_cases h1:t.lv≠n
  ·rw[AC h1]at h;obtain⟨a,w,b,c⟩:=GD r way (fun u hu=>hn u (by simp[hu])) h;refine⟨?_,w,b,fun u hu e=>?_⟩
   ·rcases a with a|⟨u,hu,e⟩
    ·exact .inl a
    ·exact .inr ⟨u,by simp[hu],e⟩
   ·rcases Bu.1 hu with rfl|hu
    ·exact absurd e h1
    ·exact c u hu e
  ·rw[AI h1]at h;have h1:t.lv=n:=BW h1;by_cases h2:way≠0/\way≠t.wy
   ·rw[AC h2]at h;cases h
   ·rw[AI h2]at h;obtain⟨a,w,b,c⟩:=GD r t.wy (fun u hu=>hn u (by simp[hu])) h
    have hw:t.wy=w:=by
     rcases b with b|b
     ·exact absurd b (hn t (by simp) h1)
     ·exact b
    refine⟨.inr ⟨t,by simp,h1⟩,w,?_,fun u hu e=>?_⟩
    ·by_cases aa:way=0
     ·exact .inl aa
     ·refine .inr (BW fun q=>h2 ⟨aa,fun e=>q (e.trans hw)⟩)
    ·rcases Bu.1 hu with rfl|hu
     ·exact hw
     ·exact c u hu e
def MI (ts:List Tm):Prop:=∀t∈ts,0<=t.lv/\t.lv<=24/\0<=t.wy/\t.wy<=3/\(t.lv=0↔t.wy=0)/\∀n:Nat,n<t.lv.toNat->nA ((n+1:Nat):Int) ts 0=true
theorem LR {ts:List Tm} (hl:ts.length<=24):tV ts↔MI ts:=by
 constructor
 ·intro h t ht;have ha:=(GH t).1 (h.a t ht);have aa:t.lv.toNat<=ts.length:=G8 t.lv.toNat ts fun n q1 q2=>h.c t ht n q1 (by omega);refine⟨ha.1,by omega,ha.2.1,ha.2.2.1,ha.2.2.2,fun n hn=>?_⟩;obtain⟨u,hu,e⟩:=h.c t ht (n+1) (by omega) (by omega);have ab:=(GH u).1 (h.a u hu);exact Iy (w:=u.wy) (by omega) ts 0 (fun x hx ex=>(h.b u hu x hx (by omega) (by omega)).symm) (.inl rfl) (.inr ⟨u,hu,e⟩)
 ·intro h;refine⟨fun t ht=>(GH t).2 ?_,fun t ht u hu h0 e=>?_,fun t ht n q1 q2=>?_⟩
  ·obtain⟨h1,h2,h3,h4,h5,_⟩:=h t ht;exact⟨h1,h3,h4,h5⟩
  ·obtain⟨h1,h2,h3,h4,h5,h6⟩:=h t ht;have hl:=h6 (t.lv.toNat-1) (by omega);have hn:((t.lv.toNat-1+1:Nat):Int)=t.lv:=by omega
   rw[hn]at hl;obtain⟨_,w,_,c⟩:=GD ts 0 (fun x hx ex q=>by have:=(h x hx).2.2.2.2.1;omega) hl;rw[c t ht rfl,c u hu e.symm]
  ·obtain⟨h1,h2,h3,h4,h5,h6⟩:=h t ht;have hl:=h6 (n-1) (by omega);have hn:((n-1+1:Nat):Int)=(n:Int):=by omega
   rw[hn]at hl;obtain⟨a,_⟩:=GD ts 0 (fun x hx ex q=>by have:=(h x hx).2.2.2.2.1;omega) hl;rcases a with a|a
   ·exact absurd rfl a
   ·exact a
theorem JO {l:List (List Int)} (h:∀i (hi:i<l.length),find l l[i]=(i:Int)):l.Nodup:=by
 rw[BO,CX];intro i j hi hj aa e;have h1:=h i hi;have h2:=h j hj;rw[e,h2]at h1;omega
theorem fZ (ts:List Tm):gU ts=true↔ts.length<=24/\(∀t∈ts,named t.nm=true)/\(names ts).Nodup/\MI ts:=by
 unfold gU;rw[Bb,Bi,Bi];have ab:(names ts).length=ts.length:=Io ts;have aa:∀i (h:i<ts.length),(names ts)[i]'(by omega)=ts[i].nm:=fun i h=>by simp[names]
 constructor
 ·rintro⟨h1,h2⟩
  have h3:∀i (h:i<ts.length),named ts[i].nm=true/\find (names ts) ts[i].nm=(i:Int)/\0<=ts[i].lv/\ts[i].lv<=24/\0<=ts[i].wy/\ts[i].wy<=3/\(ts[i].lv=0↔ts[i].wy=0)/\∀n:Nat,n<ts[i].lv.toNat->nA ((n+1:Nat):Int) ts 0=true:=fun i h=>by
   have:=h2 i h
   unfold ja at this;simp only[Bb,Bi,BJ]at this;obtain⟨⟨⟨⟨⟨⟨⟨a,b⟩,c⟩,d⟩,e⟩,f⟩,g⟩,k⟩:=this;refine⟨a,b,c,d,e,f,?_,k⟩;rw[Bw,BJ,BJ]at g;exact g
  refine⟨h1,fun t ht=>?_,JO fun i hi=>?_,fun t ht=>?_⟩
  ·obtain⟨i,hi,rfl⟩:=BF ht;exact(h3 i hi).1
  ·rw[aa i (by omega)];exact(h3 i (by omega)).2.1
  ·obtain⟨i,hi,rfl⟩:=BF ht;exact(h3 i hi).2.2
 ·rintro⟨h1,h2,h3,h4⟩;refine⟨h1,fun i hi=>?_⟩;unfold ja;simp only[Bb,Bi,BJ];obtain⟨c,d,e,f,g,k⟩:=h4 _ (AE hi);refine⟨⟨⟨⟨⟨⟨⟨h2 _ (AE hi),?_⟩,c⟩,d⟩,e⟩,f⟩,?_⟩,k⟩
  ·rw[<-aa i hi];exact Kg h3 i (by omega)
  ·rw[Bw,BJ,BJ];exact g
theorem fG (G:Gr):jV G=true↔1<=G.ns.length/\G.ns.length<=16/\(∀s∈G.ns,T.isName s=true)/\G.ns.Nodup/\∀s∈G.ns,s ∉ names G.ts:=by
 unfold jV;rw[Bb,Bb,Bi,Bi,Bi]
 constructor
 ·rintro⟨⟨h1,h2⟩,h3⟩
  have h4:∀i (h:i<G.ns.length),T.isName G.ns[i]=true/\find G.ns G.ns[i]=(i:Int)/\find (names G.ts) G.ns[i]<0:=fun i h=>by
   have:=h3 i h
   unfold nD yB term at this;simp only[Bb,Bi,BJ]at this;exact⟨this.1.1,this.1.2,this.2⟩
  refine⟨h1,h2,fun s hs=>?_,JO fun i hi=>(h4 i hi).2.1,fun s hs=>?_⟩
  ·obtain⟨i,hi,rfl⟩:=BF hs;exact(h4 i hi).1
  ·obtain⟨i,hi,rfl⟩:=BF hs;exact zH.1 (h4 i hi).2.2
 ·rintro⟨h1,h2,h3,h4,h5⟩;refine⟨⟨h1,h2⟩,fun i hi=>?_⟩;unfold nD yB term;simp only[Bb,Bi,BJ];exact⟨⟨h3 _ (AE hi),Kg h4 i hi⟩,zH.2 (h5 _ (AE hi))⟩
theorem Sf (G:Gr):qm G=true↔G.ts.length<=24/\1<=G.ns.length/\G.ns.length<=16/\(∀t∈G.ts,named t.nm=true)/\(∀s∈G.ns,T.isName s=true)/\(names G.ts++G.ns).Nodup:=by
 unfold qm gY;simp only[Bb,Bi,BP,Bh];have h:=(Te [] (names G.ts++G.ns) (by simp)).2;simp only[Eg,BG,CS,AW,Io]at h;rw[h]
 constructor
 ·rintro⟨⟨⟨⟨⟨a,b⟩,c⟩,d⟩,e⟩,f⟩;exact⟨a,b,c,d,e,f⟩
 ·rintro⟨a,b,c,d,e,f⟩;exact⟨⟨⟨⟨⟨a,b⟩,c⟩,d⟩,e⟩,f⟩
theorem SK (G:Gr) (x:Rl):tQ G x=gD G x:=by
 rw[Bw];unfold tQ gD
 have hn:x.r.any (tE G)=false ↔ ∀z∈x.r,has G z=true:=by
  rw[DW];unfold tE
  constructor
  ·intro h z hz;have:=h z hz;simpa using this
  ·intro h z hz;rw[h z hz];simp
 have ht:x.r.any oL=false ↔ ∀z∈x.r,¬0<=z:=by
  rw[DW];unfold oL
  constructor
  ·intro h z hz;simpa using h z hz
  ·intro h z hz;simpa using h z hz
 simp only[Bb,Bi,En,BP,hn];by_cases hp:x.p = -1
 ·rw[AC hp];simp only[En,ht,hp,beq_self_eq_true,Bool.and_true,D9]
  constructor
  ·rintro⟨⟨a,b⟩,c⟩;exact⟨⟨⟨a,by omega⟩,by omega⟩,fun z hz=>⟨b z hz,c z hz⟩⟩
  ·rintro⟨⟨⟨a,_⟩,_⟩,b⟩;exact⟨⟨a,fun z hz=>(b z hz).1⟩,fun z hz=>(b z hz).2⟩
 ·rw[AI hp];have aa:(x.p == -1)=false:=by simpa using hp
  simp only[aa,Bool.and_false,and_true,Bb];unfold oL has;rw[Bi]
  constructor
  ·rintro⟨⟨a,b⟩,c,d⟩;rw[AC c,Bi]at d;exact⟨⟨⟨a,by omega⟩,d⟩,b⟩
  ·rintro⟨⟨⟨a,b⟩,c⟩,d⟩;have h0:0<=x.p:=by omega
   exact⟨⟨a,d⟩,h0,by rw[AC h0,Bi];exact c⟩
theorem MD (G:Gr):∀(rs:List Rl) (top:Int),tP G rs (top+1)=rules G rs top
 | [],top=>by
  rw[tP,rules,Bw,BJ,BJ];omega
 | r::rs,top=>by
  rw[tP,rules,SK];by_cases h:r.l<0\/top+1<r.l\/gD G r=false
  ·rw[AC h,AC h]
  ·rw[AI h,AI h];rw[<-MD G rs]
   congr 1
   by_cases h2:top<r.l
   ·rw[AC h2];omega
   ·rw[AI h2];omega
theorem uR (G:Gr):Gi G=right G:=by
 rw[Bw];unfold Gi right tO;have aa:=MD G G.rs (-1);rw[show(-1:Int)+1=0 from rfl]at aa;simp only[Bb,Bi,aa,Sf,fZ,fG];have ab:=Lm G.ts [] [] 0 Inv.nil;rw[CS]at ab;rw[ab,CK]
 constructor
 ·rintro⟨⟨⟨⟨⟨a,b,c,d,e,f1,f2,f3⟩,g⟩,h,k⟩,l⟩,m⟩;refine⟨⟨⟨⟨⟨⟨⟨a,d,f1,(LR a).1 g⟩,b,c,e,f2,fun s hs q=>f3 s q s hs rfl⟩,?_⟩,h⟩,l⟩,m⟩,k⟩;rcases hz:G.rs with _|⟨x,r⟩
  ·rw[hz,rules,BJ]at k;omega
  ·simp
 ·rintro⟨⟨⟨⟨⟨⟨⟨a,d,f1,g⟩,b,c,e,f2,f3⟩,_⟩,h⟩,l⟩,m⟩,k⟩;exact⟨⟨⟨⟨⟨a,b,c,d,e,f1,f2,fun s hs q hq ee=>f3 q hq (ee▸hs)⟩,(LR a).2 g⟩,h,k⟩,l⟩,m⟩
end Gm
theorem FC (v:Value) (G:Gm.Gr) (B:Nat) (w:World) (hg:aT w B v G) (hf:Gm.Fit G) (hB:B<=w.heap.size) :
  Calls prog 96 #[v] w fun e w'=>e=.returned (.bool (Gm.right G))/\Below w.heap.size w w':=by
 rw[<-Gm.uR];exact OK v G B w hg hf hB
namespace Gm
noncomputable def tr (p:Prop):Bool:=@decide p (Classical.propDecidable p)
theorem fP {p:Prop}:tr p=true↔p:=by unfold tr;exact @Cg p (Classical.propDecidable p)
inductive Gn (tm:Bool) (rs:List Rl):Int->Prop
 | mk (x:Rl) (hx:x∈rs) (ht:∀z∈x.r,0<=z->tm=true) (hn:∀z∈x.r,z<0->Gn tm rs (-1-z)):Gn tm rs x.l
def Al (tm:Bool) (rs:List Rl) (r:List Int):Prop:=(∀z∈r,0<=z->tm=true)/\∀z∈r,z<0->Gn tm rs (-1-z)
theorem Gn.of {rs:List Rl} {x:Rl} (hx:x∈rs) (h:Al tm rs x.r):Gn tm rs x.l:=.mk x hx h.1 h.2
theorem Gn.gD {rs:List Rl} (h:Gn tm rs j):∃x∈rs,x.l=j/\Al tm rs x.r:=by
 cases h with
 | mk x hx ht hn=>exact⟨x,hx,rfl,ht,hn⟩
theorem Gn.more {rs rs':List Rl} (hs:∀x∈rs,x∈rs') (h:Gn tm rs j):Gn tm rs' j:=by
 induction h with
 | mk x hx ht _ ih=>exact .mk x (hs x hx) ht ih
inductive Rc (G:Gr):Int->Prop
 | st:Rc G G.st
 | on (x:Rl) (hx:x∈G.rs) (h:Rc G x.l) (hp:Al true G.rs x.r) (z:Int) (hz:z∈x.r) (hn:z<0):Rc G (-1-z)
theorem Al.more {tm:Bool} {rs rs':List Rl} (hs:∀x∈rs,x∈rs') {r:List Int} (h:Al tm rs r):Al tm rs' r:=⟨h.1,fun z hz hn=>(h.2 z hz hn).more hs⟩
theorem Rc.more {G H:Gr} (hs:∀x∈G.rs,x∈H.rs) (he:G.st=H.st) {j:Int} (h:Rc G j):Rc H j:=by
 induction h with
 | st=>rw[he];exact .st
 | on x hx _ hp z hz hn ih=>exact .on x (hs x hx) ih (hp.more hs) z hz hn
noncomputable def gn (tm:Bool) (rs:List Rl) (n:Nat):List Bool:=(List.range n).map fun i:Nat=>tr (Gn tm rs (i:Int))
noncomputable def rc (G:Gr):List Bool:=(List.range G.ns.length).map fun i:Nat=>tr (Rc G (i:Int))
theorem gW (tm:Bool) (rs:List Rl) (n:Nat):(gn tm rs n).length=n:=by simp[gn]
theorem mZ (G:Gr):(rc G).length=G.ns.length:=by simp[rc]
theorem mN (tm:Bool) (rs:List Rl) (n i:Nat) (h:i<n):(gn tm rs n).getD i false=tr (Gn tm rs (i:Int)):=by simp[gn,h]
theorem xK (G:Gr) (i:Nat) (h:i<G.ns.length):(rc G).getD i false=tr (Rc G (i:Int)):=by simp[rc,h]
def Le:List Bool->List Bool->Prop
 | [],[]=>True
 | a::r,b::s=>(a=true->b=true)/\Le r s
 | _,_=>False
theorem Le.refl:∀s,Le s s
 | []=>trivial
 | _::s=>⟨id,Le.refl s⟩
theorem Le.trans:∀ {a b c:List Bool},Le a b->Le b c->Le a c
 | [],[],[],_,_=>trivial
 | _::_,_::_,_::_,h,k=>⟨fun e=>k.1 (h.1 e),h.2.trans k.2⟩
 | [],_::_,_,h,_=>h.elim
 | _::_,[],_,h,_=>h.elim
 | [],[],_::_,_,k=>k.elim
 | _::_,_::_,[],_,k=>k.elim
theorem Le.len:∀ {a b:List Bool},Le a b->a.length=b.length
 | [],[],_=>rfl
 | _::_,_::_,h=>by simp[h.2.len]
 | [],_::_,h=>h.elim
 | _::_,[],h=>h.elim
theorem Le.mD:∀ {a b:List Bool},Le a b->Le b a->a=b
 | [],[],_,_=>rfl
 | x::a,y::b,h,k=>by
  rw[h.2.mD k.2];cases x <;> cases y <;> simp_all [Le]
 | [],_::_,h,_=>h.elim
 | _::_,[],h,_=>h.elim
theorem Le.get:∀ {a b:List Bool} (i:Nat),Le a b->a.getD i false=true->b.getD i false=true
 | [],[],_,_,h=>h
 | _::_,_::_,0,h,e=>h.1 e
 | _::_,_::_,i+1,h,e=>by
  simp only[List.getD_cons_succ]at e ⊢;exact h.2.get i e
 | [],_::_,_,h,_=>h.elim
 | _::_,[],_,h,_=>h.elim
theorem Le.of:∀ {a b:List Bool},a.length=b.length->(∀i,a.getD i false=true->b.getD i false=true)->Le a b
 | [],[],_,_=>trivial
 | x::a,y::b,h,k=>⟨fun e=>k 0 e,Le.of (by simpa using h) fun i e=>by simpa using k (i+1) (by simpa using e)⟩
 | [],_::_,h,_=>by simp at h
 | _::_,[],h,_=>by simp at h
theorem Le.set:∀(s:List Bool) (i:Nat),Le s (s.set i true)
 | [],_=>trivial
 | _::s,0=>⟨fun _=>rfl,Le.refl s⟩
 | _::s,i+1=>⟨id,Le.set s i⟩
def ct (s:List Bool):Nat:=s.count true
theorem Le.ct:∀ {a b:List Bool},Le a b->ct a<=ct b
 | [],[],_=>Af _
 | x::a,y::b,h=>by
  have:=h.2.ct
  unfold Gm.ct at *;cases x <;> cases y <;> simp_all [Le] <;> omega
 | [],_::_,h=>h.elim
 | _::_,[],h=>h.elim
theorem Le.tZ:∀ {a b:List Bool},Le a b->Gm.ct b<=Gm.ct a->a=b
 | [],[],_,_=>rfl
 | x::a,y::b,h,k=>by
  have h2:=h.2.ct;have h3:=h.2.tZ;unfold Gm.ct at *;cases x <;> cases y <;> simp_all [Le] <;> omega
 | [],_::_,h,_=>h.elim
 | _::_,[],h,_=>h.elim
theorem Ts (s:List Bool):ct s<=s.length:=List.count_le_length
def times (f:List Bool->List Bool):Nat->List Bool->List Bool
 | 0,s=>s
 | n+1,s=>f (times f n s)
theorem jb {f:List Bool->List Bool} (h:∀s,Le s (f s)) (n:Nat) (s:List Bool):Le s (times f n s):=by
 induction n with
 | zero=>exact Le.refl s
 | succ n ih=>exact ih.trans (h _)
theorem Hv {f:List Bool->List Bool} (h:∀s,Le s (f s)) (s:List Bool):f (times f s.length s)=times f s.length s:=by
 have key:∀n,f (times f n s)=times f n s\/n<=ct (times f n s):=by
  intro n;induction n with
  | zero=>exact .inr (AV _)
  | succ n ih =>
   by_cases hf:f (times f n s)=times f n s
   ·left;show f (f (times f n s))=f (times f n s);rw[hf,hf]
   ·right
    rcases ih with ih|ih
    ·exact absurd ih hf
    ·have h1:=(h (times f n s)).ct;have h2:¬ct (f (times f n s))<=ct (times f n s):=fun hc=>hf ((h _).tZ hc).symm
     show n+1<=ct (f (times f n s))
     omega
 rcases key s.length with h1|h1
 ·exact h1
 ·refine((h _).tZ ?_).symm
  have:=(jb h s.length s).len
  have h2:=Ts (f (times f s.length s));have h3:=(h (times f s.length s)).len;omega
theorem ia {α:Type} (g:List Bool->α->List Bool) (h:∀s x,Le s (g s x)):∀(xs:List α) (s:List Bool),Le s (xs.foldl g s)
 | [],s=>Le.refl s
 | x::xs,s=>(h s x).trans (ia g h xs _)
theorem Gv {α:Type} (g:List Bool->α->List Bool) (h:∀s x,Le s (g s x)):∀(xs:List α) (s:List Bool),xs.foldl g s=s->∀x∈xs,g s x=s
 | [],_,_=>by simp
 | x::xs,s,e=>by
  have h1:Le (g s x) s:=by
   have:=ia g h xs (g s x)
   rw[Dn]at e
   rwa [e]at this
  have h2:g s x=s:=h1.mD (h s x);intro y hy;rcases Bu.1 hy with rfl|hy
  ·exact h2
  ·rw[Dn,h2]at e;exact Gv g h xs s e y hy
def iw (tm:Bool) (is:List Bool) (r:List Int):Bool:=r.all fun z=>if 0<=z then tm else is.getD (-1-z).toNat false
def lF (tm:Bool) (rs:List Rl) (is:List Bool):Prop:=∀i:Nat,is.getD i false=true->Gn tm rs (i:Int)
def zC (tm:Bool) (rs:List Rl) (is:List Bool):Prop:=∀x∈rs,iw tm is x.r=true->is.getD x.l.toNat false=true
theorem lF.none (tm:Bool) (rs:List Rl) (n:Nat):lF tm rs (List.replicate n false):=fun i h=>by
 rw[Ag,Dc]at h;split at h <;> cases h
theorem lF.all {rs:List Rl} {is:List Bool} (h:lF tm rs is) (e:iw tm is r=true):Al tm rs r:=by
 unfold iw at e;rw[BP]at e;refine⟨fun z hz h0=>?_,fun z hz h0=>?_⟩
 ·have:=e z hz
  rwa [AC h0]at this
 ·have:=e z hz
  rw[AI (by omega)]at this
  have:=h _ this
  rwa [BI (by omega)]at this
theorem jx (s:List Bool) (i j:Nat) (h:(s.set i true).getD j false=true):s.getD j false=true\/j=i:=by
 by_cases e:i=j
 ·exact .inr e.symm
 ·left
  rwa [Ag,Er e,<-Ag]at h
theorem jA (s:List Bool) (i:Nat) (h:i<s.length):(s.set i true).getD i false=true:=by
 simp[Ag,h]
theorem lF.set {rs:List Rl} {is:List Bool} (h:lF tm rs is) {x:Rl} (hx:x∈rs) (h0:0<=x.l) (e:iw tm is x.r=true):lF tm rs (is.set x.l.toNat true):=fun i hi=>by
 rcases jx _ _ _ hi with h1|h1
 ·exact h i h1
 ·subst h1;rw[BI h0];exact Gn.of hx (h.all e)
def mh (n:Nat) (rs:List Rl):Prop:=∀x∈rs,0<=x.l/\x.l<(n:Int)
theorem RT {rs:List Rl} {is:List Bool} (h:zC tm rs is) (hj:Gn tm rs j):is.getD j.toNat false=true:=by
 induction hj with
 | mk x hx ht _ ih =>
  refine h x hx ?_;unfold iw;rw[BP];intro z hz;by_cases h0:0<=z
  ·rw[AC h0];exact ht z hz h0
  ·rw[AI h0];exact ih z hz (by omega)
theorem uk {rs:List Rl} {is:List Bool} (hn:is.length=n) (hs:lF tm rs is) (hc:zC tm rs is):is=gn tm rs n:=by
 refine Cp (by rw[hn,gW]) fun i h1 h2=>?_;have e1:is.getD i false=is[i]:=by simp[Ag,h1]
 have e2:(gn tm rs n).getD i false=(gn tm rs n)[i]:=by simp[Ag,h2]
 rw[<-e1,<-e2,mN _ _ _ _ (by omega)];rw[Bw,fP];refine⟨hs i,fun h=>?_⟩
 have:=RT hc h
 simpa using this
def iy (tm:Bool) (is:List Bool) (x:Rl):List Bool:=if iw tm is x.r=true then is.set x.l.toNat true else is
def jS (tm:Bool) (rs:List Rl) (is:List Bool):List Bool:=rs.foldl (iy tm) is
theorem kY (tm:Bool) (is:List Bool) (x:Rl):Le is (iy tm is x):=by
 unfold iy;split
 ·exact Le.set _ _
 ·exact Le.refl _
theorem Kx {tm:Bool} {rs:List Rl} {n:Nat} (hl:mh n rs):∀(xs:List Rl) (is:List Bool),(∀x∈xs,x∈rs)->lF tm rs is->lF tm rs (xs.foldl (iy tm) is)
 | [],_,_,h=>h
 | x::xs,is,hx,h=>by
  refine Kx hl xs _ (fun y hy=>hx y (Bo _ hy)) ?_;unfold iy;split
  ·rename_i e
   exact h.set (hx x (Br ..)) (hl x (hx x (Br ..))).1 e
  ·exact h
theorem Ot {rs:List Rl} (hl:mh n rs) (k:Nat) {is:List Bool} (h:lF tm rs is):lF tm rs (times (jS tm rs) k is):=by
 induction k with
 | zero=>exact h
 | succ k ih=>exact Kx hl rs _ (fun _ h=>h) ih
theorem Q8 {rs:List Rl} (hl:mh n rs) {is:List Bool} (hn:is.length=n) (h:jS tm rs is=is):zC tm rs is:=fun x hx e=>by
 have:=Gv (iy tm) (kY tm) rs is h x hx
 unfold iy at this;rw[AC e]at this;rw[<-this]
 have:=hl x hx
 exact jA _ _ (by omega)
theorem kZ {rs:List Rl} (hl:mh n rs):times (jS tm rs) n (List.replicate n false)=gn tm rs n:=by
 have aa:∀s,Le s (jS tm rs s):=fun s=>ia _ (kY tm) rs s;have h0:(List.replicate n false).length=n:=by simp
 have h1:(times (jS tm rs) n (List.replicate n false)).length=n:=by rw[<-(jb aa n _).len,h0]
 refine uk h1 (Ot hl n (lF.none tm rs n)) (Q8 hl h1 ?_)
 have:=Hv aa (List.replicate n false)
 rwa [h0]at this
theorem Gn.iT {rs:List Rl} (hl:mh n rs) (h:Gn tm rs j):0<=j/\j<n:=by
 obtain⟨x,hx,rfl,_⟩:=h.gD;exact hl x hx
theorem zU {rs:List Rl} (hl:mh n rs) (h0:0<=j):(gn tm rs n).getD j.toNat false=true↔Gn tm rs j:=by
 constructor
 ·intro h;rcases Bx j.toNat n with h1|h1
  ·rw[mN _ _ _ _ h1,fP,BI h0]at h;exact h
  ·rw[Ag,BH (by rw[gW];omega)]at h;cases h
 ·intro h
  have:=h.iT hl
  rw[mN _ _ _ _ (by omega),fP,BI h0];exact h
theorem kR {rs:List Rl} (hl:mh n rs) (r:List Int):iw tm (gn tm rs n) r=true↔Al tm rs r:=by
 constructor
 ·intro e;unfold iw at e;rw[BP]at e;refine⟨fun z hz h0=>?_,fun z hz h0=>?_⟩
  ·have:=e z hz;rwa [AC h0]at this
  ·have:=e z hz
   rw[AI (by omega)]at this;exact(zU hl (by omega)).1 this
 ·intro h;unfold iw;rw[BP];intro z hz;by_cases h0:0<=z
  ·rw[AC h0];exact h.1 z hz h0
  ·rw[AI h0];exact(zU hl (by omega)).2 (h.2 z hz (by omega))
def EZ (n:Nat) (r:List Int):Prop:=∀z∈r,z<0->-1-z<(n:Int)
def By (G:Gr) (is:List Bool):Prop:=∀i:Nat,is.getD i false=true->Rc G (i:Int)
def BE (G:Gr) (is:List Bool):Prop:=is.getD G.st.toNat false=true/\∀x∈G.rs,is.getD x.l.toNat false=true->Al true G.rs x.r->∀z∈x.r,z<0->is.getD (-1-z).toNat false=true
theorem Sj {G:Gr} {is:List Bool} (h:BE G is) (hj:Rc G j):is.getD j.toNat false=true:=by
 induction hj with
 | st=>exact h.1
 | on x hx _ hp z hz hn ih=>exact h.2 x hx ih hp z hz hn
theorem uO {G:Gr} {is:List Bool} (hn:is.length=G.ns.length) (hs:By G is) (hc:BE G is):is=rc G:=by
 refine Cp (by rw[hn,mZ]) fun i h1 h2=>?_;have e1:is.getD i false=is[i]:=by simp[Ag,h1]
 have e2:(rc G).getD i false=(rc G)[i]:=by simp[Ag,h2]
 rw[<-e1,<-e2,xK _ _ (by omega)];rw[Bw,fP];refine⟨hs i,fun h=>?_⟩
 have:=Sj hc h
 simpa using this
def jT (s:List Bool) (z:Int):List Bool:=if z<0 then s.set (-1-z).toNat true else s
def marks (s:List Bool) (r:List Int):List Bool:=r.foldl jT s
theorem KT (s:List Bool) (z:Int):Le s (jT s z):=by
 unfold jT;split
 ·exact Le.set _ _
 ·exact Le.refl _
theorem lb (s:List Bool) (r:List Int):Le s (marks s r):=ia _ KT r s
theorem KS:∀(r:List Int) (s:List Bool) (i:Nat),(marks s r).getD i false=true->s.getD i false=true \/ ∃z∈r,z<0/\i=(-1-z).toNat
 | [],_,_,h=>.inl h
 | z::r,s,i,h=>by
  rcases KS r (jT s z) i h with h1|⟨y,hy,h1⟩
  ·unfold jT at h1;split at h1
   ·rcases jx _ _ _ h1 with h2|h2
    ·exact .inl h2
    ·exact .inr ⟨z,Br ..,by assumption,h2⟩
   ·exact .inl h1
  ·exact .inr ⟨y,Bo _ hy,h1⟩
theorem Kc:∀(r:List Int) (s:List Bool),EZ s.length r->∀z∈r,z<0->(marks s r).getD (-1-z).toNat false=true
 | [],_,_=>by simp
 | y::r,s,hi=>by
  intro z hz hn;have hl:(jT s y).length=s.length:=(KT s y).len.symm;rcases Bu.1 hz with rfl|hz
  ·refine(lb (jT s z) r).get _ ?_;unfold jT;rw[AC hn]
   have:=hi z (Br ..) hn
   exact jA _ _ (by omega)
  ·exact Kc r _ (by rw[hl];exact fun u hu h=>hi u (Bo _ hu) h) z hz hn
def gu (p is:List Bool) (x:Rl):List Bool:=if is.getD x.l.toNat false=true/\iw true p x.r=true then marks is x.r else is
def js (p:List Bool) (rs:List Rl) (is:List Bool):List Bool:=rs.foldl (gu p) is
theorem kq (p is:List Bool) (x:Rl):Le is (gu p is x):=by
 unfold gu;split
 ·exact lb _ _
 ·exact Le.refl _
theorem J6 {G:Gr} (hl:mh G.ns.length G.rs):∀(xs:List Rl) (is:List Bool),(∀x∈xs,x∈G.rs)->By G is->By G (xs.foldl (gu (gn true G.rs G.ns.length)) is)
 | [],_,_,h=>h
 | x::xs,is,hx,h=>by
  refine J6 hl xs _ (fun y hy=>hx y (Bo _ hy)) ?_;have hm:=hx x (Br ..);unfold gu;split
  ·rename_i e
   intro i hi;rcases KS _ _ _ hi with h1|⟨z,hz,hn,rfl⟩
   ·exact h i h1
   ·rw[BI (by omega)];refine .on x hm ?_ ((kR hl _).1 e.2) z hz hn
    have:=h _ e.1
    rwa [BI (hl x hm).1]at this
  ·exact h
theorem Ob {G:Gr} (hl:mh G.ns.length G.rs) (k:Nat) {is:List Bool} (h:By G is):By G (times (js (gn true G.rs G.ns.length) G.rs) k is):=by
 induction k with
 | zero=>exact h
 | succ k ih=>exact J6 hl G.rs _ (fun _ h=>h) ih
theorem nf {G:Gr} (hl:mh G.ns.length G.rs) (hi:∀x∈G.rs,EZ G.ns.length x.r) (h0:0<=G.st) (h1:G.st<G.ns.length) :
  times (js (gn true G.rs G.ns.length) G.rs) G.ns.length ((List.replicate G.ns.length false).set G.st.toNat true)=rc G:=by
 have ac:∀s,Le s (js (gn true G.rs G.ns.length) G.rs s):=fun s=>ia _ (kq _) G.rs s;generalize ad:(List.replicate G.ns.length false).set G.st.toNat true=s0;have aa:s0.length=G.ns.length:=by rw[<-ad];simp
 have ag:s0.getD G.st.toNat false=true:=by rw[<-ad];exact jA _ _ (by simp;omega)
 have ae:By G s0:=fun i hi=>by
  rw[<-ad]at hi;rcases jx _ _ _ hi with h2|h2
  ·rw[Ag,Dc]at h2;split at h2 <;> cases h2
  ·rw[h2,BI h0];exact .st
 have ab:=Hv ac s0;rw[aa]at ab;have af:(times (js (gn true G.rs G.ns.length) G.rs) G.ns.length s0).length=G.ns.length:=by rw[<-(jb ac _ s0).len,aa]
 refine uO af (Ob hl _ ae) ⟨(jb ac _ s0).get _ ag,fun x hx e ha z hz hn=>?_⟩
 have:=Gv _ (kq _) G.rs _ ab x hx
 unfold gu at this;rw[AC ⟨e,(kR hl _).2 ha⟩]at this;rw[<-this];exact Kc x.r _ (by rw[af];exact hi x hx) z hz hn
structure Ok (G:Gr):Prop where
 t:gU G.ts=true
 n:jV G=true
 r1:1<=G.rs.length
 kz:G.rs.length<=40
 s0:0<=G.st
 s1:G.st<G.ns.length
 rr:∀x∈G.rs,gD G x=true
 tp:xz G.ns.length (G.rs.map Rl.l) (-1)=true
theorem JD (G:Gr):∀(rs:List Rl) (top:Int),rules G rs top=true->(∀r∈rs,gD G r=true)/\xz G.ns.length (rs.map Rl.l) top=true
 | [],_,h=>⟨by simp,h⟩
 | r::rs,top,h=>by
  rw[rules]at h;split at h
  ·cases h
  ·rename_i h1
   have h2:=JD G rs _ h;have h3:gD G r=true:=by cases hr:gD G r <;> simp_all
   refine⟨fun x hx=>?_,?_⟩
   ·rcases Bu.1 hx with rfl|hx
    ·exact h3
    ·exact h2.1 x hx
   ·rw[Bz,xz,AI (by omega)];exact h2.2
theorem ft {G:Gr}:right G=true↔Ok G:=by
 constructor
 ·intro h;unfold right at h;simp only[Bb,Bi]at h;obtain⟨⟨⟨⟨⟨⟨h1,h2⟩,h3⟩,h4⟩,h5⟩,h6⟩,h7⟩:=h
  have:=JD G _ _ h7
  exact⟨h1,h2,h3,h4,h5,h6,this.1,this.2⟩
 ·intro h;unfold right;simp only[Bb,Bi];exact⟨⟨⟨⟨⟨⟨h.t,h.n⟩,h.r1⟩,h.kz⟩,h.s0⟩,h.s1⟩,JE G _ _ h.rr h.tp⟩
theorem Lq {n:Nat}:∀(ls:List Int) (top:Int),xz n ls top=true->top<=n-1/\∀l∈ls,0<=l/\l<n
 | [],top,h=>by
  rw[xz]at h
  have:top=n-1:=by simpa using h
  exact⟨by omega,by simp⟩
 | l::r,top,h=>by
  rw[xz]at h;split at h
  ·cases h
  ·have h2:=Lq r _ h;refine⟨by have:=h2.1;split at this <;> omega,fun x hx=>?_⟩;rcases Bu.1 hx with rfl|hx
   ·have:=h2.1;split at this <;> omega
   ·exact h2.2 x hx
theorem Ok.iT {G:Gr} (h:Ok G):mh G.ns.length G.rs:=fun x hx=>(Lq _ _ h.tp).2 x.l (DK hx)
theorem fJ {G:Gr} {x:Rl} (h:gD G x=true):x.r.length<=6/\-1<=x.p/\x.p<G.ts.length/\∀z∈x.r,z<G.ts.length/\-1-z<G.ns.length/\(0<=z->x.p ≠ -1):=by
 unfold gD at h;simp only[Bb,Bi,BP]at h;obtain⟨⟨⟨h1,h2⟩,h3⟩,h4⟩:=h;refine⟨h1,h2,h3,fun z hz=>?_⟩;have h5:=h4 z hz;unfold has at h5;by_cases h0:0<=z
 ·rw[AC h0]at h5;simp[h0]at h5;exact⟨h5.1,by omega,fun _=>h5.2⟩
 ·rw[AI h0]at h5;simp[h0]at h5;exact⟨by omega,h5,fun h=>absurd h h0⟩
theorem Ok.sin {G:Gr} (h:Ok G):∀x∈G.rs,EZ G.ns.length x.r:=fun x hx z hz _=>((fJ (h.rr x hx)).2.2.2 z hz).2.1
def ord:List Int->List Int->List Int
 | acc,[]=>acc
 | acc,l::r=>ord (if l∈acc then acc else acc++[l]) r
def pos (o:List Int) (l:Int):Int:=if l∈o then(o.idxOf l:Int) else -1
theorem mo:∀(ls acc:List Int) (x:Int),x∈ord acc ls↔x∈acc\/x∈ls
 | [],acc,x=>by rw[ord];simp
 | l::r,acc,x=>by
  rw[ord,mo r];split
  ·simp only[Bu]
   constructor
   ·rintro(h|h)
    ·exact .inl h
    ·exact .inr (.inr h)
   ·rintro(h|rfl|h)
    ·exact .inl h
    ·exact .inl (by assumption)
    ·exact .inr h
  ·simp only[Bt,Bu,List.not_mem_nil,or_false]
   constructor
   ·rintro((h|h)|h)
    ·exact .inl h
    ·exact .inr (.inl h)
    ·exact .inr (.inr h)
   ·rintro(h|h|h)
    ·exact .inl (.inl h)
    ·exact .inl (.inr h)
    ·exact .inr h
theorem kf:∀(ls acc:List Int),acc.Nodup->(ord acc ls).Nodup
 | [],acc,h=>by rw[ord];exact h
 | l::r,acc,h=>by
  rw[ord];refine kf r _ ?_;split
  ·exact h
  ·rename_i hn
   rw[CK];refine⟨h,by simp,fun a ha b hb=>?_⟩;simp at hb;subst hb;exact fun e=>hn (e▸ha)
theorem GL {o:List Int} {l:Int} (h:l∈o):pos o l=(o.idxOf l:Int):=by unfold pos;rw[AC h]
theorem kL {o:List Int} {l:Int} (h:l∈o):0<=pos o l/\pos o l<o.length:=by
 rw[GL h]
 have:=List.idxOf_lt_length_of_mem h
 omega
theorem wS {acc t:List Int} {l:Int} (h:l∈acc):pos (acc++t) l=pos acc l:=by
 rw[GL h,GL (Dr _ h),List.idxOf_append,AC h]
theorem wT {acc t:List Int} {l:Int} (h:l ∉ acc):pos (acc++l::t) l=acc.length:=by
 rw[GL (by simp),List.idxOf_append,AI h];simp
noncomputable def use (G:Gr) (x:Rl):Bool:=tr (Rc G x.l/\Al true G.rs x.r)
noncomputable def iC (G:Gr):List Rl:=G.rs.filter (use G)
noncomputable def kept (G:Gr):List Nat:=(List.range G.rs.length).filter fun i=>(G.rs[i]?).any (use G)
noncomputable def fu (G:Gr):List Int:=ord [] ((iC G).map Rl.l)
def mc (o:List Int) (z:Int):Int:=if z<0 then -1-pos o (-1-z) else z
def re (o:List Int) (x:Rl):Rl:=⟨pos o x.l,x.r.map (mc o),x.p⟩
noncomputable def reduce (G:Gr):Gr:=⟨G.ts,(fu G).map fun l=>G.ns.getD l.toNat [],(iC G).map (re (fu G)),pos (fu G) G.st⟩
theorem iJ {G:Gr} {x:Rl}:x∈iC G↔x∈G.rs/\Rc G x.l/\Al true G.rs x.r:=by
 unfold iC use;rw[B7,fP]
theorem Ix {G:Gr} {l:Int}:l∈fu G ↔ ∃x∈iC G,x.l=l:=by
 unfold fu;rw[mo];simp
theorem N8 (G:Gr):(fu G).Nodup:=kf _ _ (by simp)
theorem LH {G:Gr} (h:Rc G j) (hp:Gn true G.rs j):j∈fu G:=by
 obtain⟨x,hx,rfl,ha⟩:=hp.gD;exact Ix.2 ⟨x,iJ.2 ⟨hx,h,ha⟩,rfl⟩
theorem Rz {G:Gr} (h:j∈fu G):Rc G j/\Gn true G.rs j:=by
 obtain⟨x,hx,rfl⟩:=Ix.1 h;obtain⟨h1,h2,h3⟩:=iJ.1 hx;exact⟨h2,.of h1 h3⟩
theorem ph {G:Gr} {x:Rl} (hx:x∈iC G) (hz:z∈x.r) (hn:z<0):-1-z∈fu G:=by
 obtain⟨h1,h2,h3⟩:=iJ.1 hx;exact LH (.on x h1 h2 h3 z hz hn) (h3.2 z hz hn)
theorem qw {G:Gr} {x:Rl} (hx:x∈iC G):x.l∈fu G:=Ix.2 ⟨x,hx,rfl⟩
theorem RS {G:Gr} (hp:Gn true G.rs j):Rc G j->Gn true (reduce G).rs (pos (fu G) j):=by
 induction hp with
 | mk x hx ht hn ih =>
  intro hr;have ha:Al true G.rs x.r:=⟨ht,hn⟩
  have hk:x∈iC G:=iJ.2 ⟨hx,hr,ha⟩;have hm:re (fu G) x∈(reduce G).rs:=DK hk;refine Gn.of hm ⟨fun _ _ _=>rfl,fun z hz h0=>?_⟩;obtain⟨y,hy,rfl⟩:=Bm.1 hz;unfold mc at h0 ⊢;by_cases h1:y<0
  ·rw[AC h1]at h0 ⊢;rw[show -1-(-1-pos (fu G) (-1-y))=pos (fu G) (-1-y) by omega];exact ih y hy h1 (.on x hx hr ha y hy h1)
  ·rw[AI h1]at h0;omega
theorem Ma {G:Gr} {x:Rl} (hk:x∈iC G):Al true (reduce G).rs (re (fu G) x).r:=by
 obtain⟨hx,hr,ha⟩:=iJ.1 hk;refine⟨fun _ _ _=>rfl,fun z hz h0=>?_⟩;obtain⟨y,hy,rfl⟩:=Bm.1 hz;unfold mc at h0 ⊢;by_cases h1:y<0
 ·rw[AC h1]at h0 ⊢;rw[show -1-(-1-pos (fu G) (-1-y))=pos (fu G) (-1-y) by omega];exact RS (ha.2 y hy h1) (.on x hx hr ha y hy h1)
 ·rw[AI h1]at h0;omega
theorem Si {G:Gr} (h:Rc G j):Rc (reduce G) (pos (fu G) j):=by
 induction h with
 | st=>exact .st
 | on x hx hr hp z hz hn ih =>
  have hk:x∈iC G:=iJ.2 ⟨hx,hr,hp⟩;have hm:re (fu G) x∈(reduce G).rs:=DK hk;have h1:=kL (ph hk hz hn)
  have:=Rc.on (G:=reduce G) (re (fu G) x) hm ih (Ma hk) (-1-pos (fu G) (-1-z)) (Bm.2 ⟨z,hz,by unfold mc;rw[AC hn]⟩) (by omega)
  rwa [show -1-(-1-pos (fu G) (-1-z))=pos (fu G) (-1-z) by omega]at this
theorem wY {G:Gr} {y:Rl} (hy:y∈(reduce G).rs):use (reduce G) y=true:=by
 obtain⟨x,hx,rfl⟩:=Bm.1 hy;unfold use;rw[fP];exact⟨Si (iJ.1 hx).2.1,Ma hx⟩
theorem xM {G:Gr} (hp:Gn true G.rs G.st):G.st∈fu G:=LH .st hp
theorem sC {G:Gr} (h:Ok G) (hj:j∈fu G):0<=j/\j<G.ns.length:=(Rz hj).2.iT h.iT
theorem oV {G:Gr} (h:Ok G):(fu G).length<=G.ns.length:=by
 have h1:=kg G.ns.length ((fu G).map (· + 1)) ?_ ?_
 ·simpa using h1.1
 ·refine BO.2 ?_;rw[Dk];exact(BO.1 (N8 G)).imp fun h e=>h (by omega)
 ·intro x hx;obtain⟨y,hy,rfl⟩:=Bm.1 hx
  have:=sC h hy
  omega
theorem Ly (G:Gr):(kept G).map (fun i=>G.rs.getD i ⟨0,[],0⟩)=iC G:=by
 unfold kept iC;generalize use G=f
 have key:∀(rs pre:List Rl),((List.range' pre.length rs.length).filter fun i=>((pre++rs)[i]?).any f).map (fun i=>(pre++rs).getD i ⟨0,[],0⟩)=rs.filter f:=by
  intro rs;induction rs with
  | nil=>intro pre;simp
  | cons x rs ih =>
   intro pre;have h1:=ih (pre++[x]);simp only[Ci,Ej,AW,BA]at h1;rw[BC,List.range'_succ,Cc,Cc];have h2:(pre++x::rs)[pre.length]?=some x:=by simp
   rw[h2];simp only[Option.any_some];split
   ·rw[Bz,h1]
    congr 1
    simp
   ·exact h1
 have:=key G.rs []
 simpa[List.range_eq_range'] using this
theorem k9 (G:Gr):(kept G).length=(iC G).length:=by rw[<-Ly];simp
theorem wH {G:Gr} (h:i∈kept G):i<G.rs.length:=by
 have:=B7.1 h
 exact Cj.1 this.1
theorem wG {G:Gr} (i:Nat) (h:i<(kept G).length) (h2:(kept G)[i]<G.rs.length):(iC G)[i]'(by rw[<-k9];exact h)=G.rs[(kept G)[i]]:=by
 have:(iC G)[i]?=some (G.rs[(kept G)[i]]):=by
  rw[<-Ly,Bv,AD h];simp[h2]
 rw[AD (by rw[<-k9];exact h)]at this;exact DI this
end Gm
namespace Au
abbrev It:=Int×Int
def sy (G:Gm.Gr) (r:Int):List Int:=if r = -1 then [-1-G.st] else(G.rs.getD r.toNat ⟨0,[],0⟩).r
def gj (G:Gm.Gr) (x:It):Bool:=decide (-1<=x.1)&&decide (x.1<G.rs.length)&&decide (0<=x.2)&&decide (x.2<=(sy G x.1).length)
def nx (G:Gm.Gr) (x:It):Option Int:=(sy G x.1)[x.2.toNat]?
def lt (a b:It):Bool:=decide (a.1<b.1)||(decide (a.1=b.1)&&decide (a.2<b.2))
def j6 (l:List It):Prop:=l.Pairwise fun a b=>lt a b=true
theorem lt_iff {a b:It}:lt a b=true↔a.1<b.1\/a.1=b.1/\a.2<b.2:=by
 unfold lt;simp only[Dd,Bb,Bi]
theorem lt_trans {a b c:It} (h:lt a b=true) (k:lt b c=true):lt a c=true:=by
 rw[lt_iff]at *;omega
theorem kK (a:It):lt a a=false:=by
 cases h:lt a a
 ·rfl
 ·rw[lt_iff]at h;omega
theorem uC {a b:It} (h:lt a b=false) (hn:a≠b):lt b a=true:=by
 cases k:lt b a
 ·exfalso
  have h1:¬lt a b=true:=by rw[h];decide
  have k1:¬lt b a=true:=by rw[k];decide
  rw[lt_iff]at h1 k1;refine hn (Ea ?_ ?_) <;> omega
 ·rfl
def put:List It->It->List It
 | [],x=>[x]
 | y::l,x=>if lt y x=true then y::put l x else if y=x then y::l else x::y::l
theorem FH {z x:It}:∀ {l:List It},z∈put l x↔z=x\/z∈l
 | []=>by simp[put]
 | y::l=>by
  unfold put;split
  ·rw[Bu,FH (l:=l),Bu]
   constructor
   ·rintro(h|h|h)
    ·exact .inr (.inl h)
    ·exact .inl h
    ·exact .inr (.inr h)
   ·rintro(h|h|h)
    ·exact .inr (.inl h)
    ·exact .inl h
    ·exact .inr (.inr h)
  ·split
   ·rename_i e
    subst e;rw[Bu]
    constructor
    ·exact fun h=>.inr h
    ·rintro(h|h)
     ·exact .inl h
     ·exact h
   ·rw[Bu]
theorem ID {x:It}:∀ {l:List It},j6 l->j6 (put l x)
 | [],_=>by simp[put,j6]
 | y::l,h=>by
  obtain⟨h1,h2⟩:=Dq.1 h;unfold put;split
  ·rename_i hy
   refine Dq.2 ⟨fun z hz=>?_,ID h2⟩;rcases FH.1 hz with rfl|hz
   ·exact hy
   ·exact h1 z hz
  ·rename_i hy
   split
   ·exact h
   ·rename_i hn
    have hl:=uC (by simpa using hy) hn;refine Dq.2 ⟨fun z hz=>?_,h⟩;rcases Bu.1 hz with rfl|hz
    ·exact hl
    ·exact lt_trans hl (h1 z hz)
theorem KJ {x:It}:∀ {l:List It},(∀y∈l,lt y x=true)->put l x=l++[x]
 | [],_=>rfl
 | y::l,h=>by
  rw[put,AC (h y Br),KJ fun z hz=>h z (Bo _ hz),Cn]
theorem Mi {x:It}:∀ {l:List It},j6 l->x∈l->put l x=l
 | y::l,h,hx=>by
  obtain⟨h1,h2⟩:=Dq.1 h;rw[put];rcases Bu.1 hx with rfl|hx
  ·rw[AI (by rw[kK];decide),AC rfl]
  ·rw[AC (h1 x hx),Mi h2 hx]
theorem GB {x:It}:∀ {l:List It},x ∉ l->(put l x).length=l.length+1
 | [],_=>rfl
 | y::l,h=>by
  rw[put];split
  ·rw[BC,GB fun k=>h (Bo _ k),BC]
  ·split
   ·rename_i e;exact absurd (e▸Br) h
   ·rfl
theorem Gy:∀ {a b:List It},j6 a->j6 b->(∀z,z∈a↔z∈b)->a=b
 | [],[],_,_,_=>rfl
 | [],y::b,_,_,h=>by have:=(h y).2 Br;cases this
 | x::a,[],_,_,h=>by have:=(h x).1 Br;cases this
 | x::a,y::b,ha,hb,h=>by
  obtain⟨a1,a2⟩:=Dq.1 ha;obtain⟨b1,b2⟩:=Dq.1 hb
  have e:x=y:=by
   rcases Bu.1 ((h x).1 Br) with e|e
   ·exact e
   ·rcases Bu.1 ((h y).2 Br) with k|k
    ·exact k.symm
    ·have:=lt_trans (b1 x e) (a1 y k)
     rw[kK]at this;cases this
  subst e
  congr 1
  refine Gy a2 b2 fun z=>⟨fun hz=>?_,fun hz=>?_⟩
  ·rcases Bu.1 ((h z).1 (Bo _ hz)) with rfl|k
   ·have:=a1 z hz;rw[kK]at this;cases this
   ·exact k
  ·rcases Bu.1 ((h z).2 (Bo _ hz)) with rfl|k
   ·have:=b1 z hz;rw[kK]at this;cases this
   ·exact k
theorem Oz {l:List It} (h:j6 l):l.Nodup:=BO.2 (h.imp fun k e=>by rw[e,kK]at k;cases k)
def ir (out l:List It):List It:=l.foldl put out
theorem xS {z:It}:∀ {l out:List It},z∈ir out l↔z∈out\/z∈l
 | [],out=>by simp[ir]
 | x::l,out=>by
  have:=xS (z:=z) (l:=l) (out:=put out x)
  rw[show ir out (x::l)=ir (put out x) l from rfl,this,FH,Bu]
  constructor
  ·rintro((h|h)|h)
   ·exact .inr (.inl h)
   ·exact .inl h
   ·exact .inr (.inr h)
  ·rintro(h|h|h)
   ·exact .inl (.inr h)
   ·exact .inl (.inl h)
   ·exact .inr h
theorem Ge:∀ {l out:List It},j6 out->j6 (ir out l)
 | [],_,h=>h
 | _::l,_,h=>Ge (l:=l) (ID h)
theorem nU (out l:List It) (x:It):ir out (l++[x])=put (ir out l) x:=by simp[ir]
def tN (G:Gm.Gr):List Int:=-1::(List.range G.rs.length).map fun k:Nat=>(k:Int)
def vf (G:Gm.Gr):List It:=(tN G).flatMap fun r=>(List.range ((sy G r).length+1)).map fun d:Nat=>(r,(d:Int))
theorem fW {x:It}:gj G x=true↔(-1<=x.1/\x.1<G.rs.length)/\0<=x.2/\x.2<=(sy G x.1).length:=by
 unfold gj;simp only[Bb,Bi]
 constructor
 ·rintro⟨⟨⟨h1,h2⟩,h3⟩,h4⟩;exact⟨⟨h1,h2⟩,h3,h4⟩
 ·rintro⟨⟨h1,h2⟩,h3,h4⟩;exact⟨⟨⟨h1,h2⟩,h3⟩,h4⟩
theorem jk {r:Int}:r∈tN G ↔ -1<=r/\r<G.rs.length:=by
 unfold tN;rw[Bu,Bm]
 constructor
 ·rintro(rfl|⟨k,hk,rfl⟩)
  ·omega
  ·have:=Cj.1 hk;omega
 ·rintro⟨h1,h2⟩;by_cases e:r = -1
  ·exact .inl e
  ·exact .inr ⟨r.toNat,Cj.2 (by omega),by omega⟩
theorem Gj {x:It}:x∈vf G↔gj G x=true:=by
 unfold vf;rw[CG,fW]
 constructor
 ·rintro⟨r,hr,hx⟩;obtain⟨d,hd,rfl⟩:=Bm.1 hx
  have:=Cj.1 hd
  refine⟨jk.1 hr,?_,?_⟩
  ·show(0:Int)<=(d:Int)
   omega
  ·exact Int.ofNat_le.2 (Nat.le_of_lt_succ this)
 ·rintro⟨h1,h2,h3⟩;refine⟨x.1,jk.2 h1,Bm.2 ⟨x.2.toNat,Cj.2 (by omega),?_⟩⟩;refine Ea rfl ?_;simp only;omega
theorem FF (n:Nat):(List.range n).Pairwise (· < ·):=List.pairwise_lt_range
theorem KW {f:Int->List It} (hf:∀r,j6 (f r)) (h1:∀r x,x∈f r->x.1=r):∀ {l:List Int},l.Pairwise (· < ·)->j6 (l.flatMap f)
 | [],_=>List.Pairwise.nil
 | r::l,h=>by
  obtain⟨a,b⟩:=Dq.1 h;rw[B5];refine DY.2 ⟨hf r,KW hf h1 b,fun x hx y hy=>?_⟩;obtain⟨q,hq,hy⟩:=CG.1 hy;have e1:=h1 r x hx;have e2:=h1 q y hy
  have:=a q hq
  rw[lt_iff];omega
theorem K8 (G:Gm.Gr):j6 (vf G):=by
 refine KW (fun r=>?_) (fun r x hx=>?_) ?_
 ·unfold j6;rw[Dk];refine(FF _).imp fun {a b} h=>?_;rw[lt_iff];exact .inr ⟨rfl,Int.ofNat_lt.2 h⟩
 ·obtain⟨d,_,rfl⟩:=Bm.1 hx;rfl
 ·unfold tN;refine Dq.2 ⟨fun z hz=>?_,?_⟩
  ·obtain⟨k,_,rfl⟩:=Bm.1 hz;omega
  ·rw[Dk];exact(FF _).imp fun {a b} h=>by omega
theorem Mh {l:List It} (h:j6 l) (hi:∀x∈l,gj G x=true):l.length<=(vf G).length:=by
 have e:l=(vf G).filter fun x=>Gm.tr (x∈l):=Gy h ((K8 G).filter _) fun z=>by
  rw[B7,Gm.fP,Gj];exact⟨fun k=>⟨hi z k,k⟩,fun k=>k.2⟩
 rw[e];exact Cd _ _
inductive Cl (G:Gm.Gr) (l:List It):It->Prop
 | of (x:It) (h:x∈l):Cl G l x
 | on (x:It) (h:Cl G l x) (s:Int) (hs:nx G x=some s) (h0:s<0) (k:Nat) (hk:k<G.rs.length) (hl:(G.rs[k]).l = -1-s):Cl G l ((k:Int),0)
noncomputable def iU (G:Gm.Gr) (l:List It):List It:=(vf G).filter fun x=>Gm.tr (Cl G l x)
theorem kV (G:Gm.Gr) (l:List It):j6 (iU G l):=(K8 G).filter _
theorem Qz (hk:k<G.rs.length):gj G ((k:Int),0)=true:=by
 rw[fW];simp only;omega
theorem pL {l:List It} (hl:∀x∈l,gj G x=true) {x:It} (h:Cl G l x):gj G x=true:=by
 cases h with
 | of _ h=>exact hl x h
 | on y _ s _ _ k hk _=>exact Qz hk
theorem ig {l:List It} (hl:∀x∈l,gj G x=true) {x:It}:x∈iU G l↔Cl G l x:=by
 unfold iU;rw[B7,Gj,Gm.fP];exact⟨fun h=>h.2,fun h=>⟨pL hl h,h⟩⟩
theorem jR {l:List It} {x:It} (h:x∈iU G l):gj G x=true:=Gj.1 (B7.1 h).1
theorem L6 {l out:List It} (hl:∀x∈l,gj G x=true) (hs:j6 out) (h1:∀x∈l,x∈out) (h2:∀x∈out,Cl G l x) (h3:∀x∈out,∀s,nx G x=some s->s<0->∀k:Nat,∀hk:k<G.rs.length,(G.rs[k]).l = -1-s->((k:Int),0)∈out):out=iU G l:=by
 refine Gy hs (kV G l) fun z=>?_;rw[ig hl];refine⟨h2 z,fun h=>?_⟩;induction h with
 | of x h=>exact h1 x h
 | on x _ s hs h0 k hk hl ih=>exact h3 x ih s hs h0 k hk hl
def mv (G:Gm.Gr) (l:List It) (s:Int):List It:=(l.filter fun x=>nx G x==some s).map fun x=>(x.1,x.2+1)
theorem RY {l:List It} (h:j6 l) (s:Int):j6 (mv G l s):=by
 unfold mv j6;rw[Dk];refine(List.Pairwise.filter _ h).imp fun {a b} k=>?_;rw[lt_iff]at k ⊢;simp only;omega
theorem FL {l:List It} {y:It}:y∈mv G l s ↔ ∃x∈l,nx G x=some s/\y=(x.1,x.2+1):=by
 unfold mv;rw[Bm]
 constructor
 ·rintro⟨x,hx,rfl⟩;obtain⟨h1,h2⟩:=B7.1 hx;exact⟨x,h1,by simpa using h2,rfl⟩
 ·rintro⟨x,h1,h2,rfl⟩;exact⟨x,B7.2 ⟨h1,by simpa using h2⟩,rfl⟩
theorem Mp {x:It} (hx:0<=x.2) (h:nx G x=some s):x.2<(sy G x.1).length:=by
 unfold nx at h
 have:=(Bc.1 h).1
 omega
theorem xJ {l:List It} (hl:∀x∈l,gj G x=true) {y:It} (hy:y∈mv G l s):gj G y=true:=by
 obtain⟨x,hx,hs,rfl⟩:=FL.1 hy;have h:=fW.1 (hl x hx)
 have:=Mp h.2.1 hs
 rw[fW];simp only;omega
theorem wN {l:List It} {x:It} (h:j6 (l++[x])) (s:Int):mv G (l++[x]) s=if nx G x=some s then put (mv G l s) (x.1,x.2+1) else mv G l s:=by
 obtain⟨h1,_,h3⟩:=DY.1 h;unfold mv;rw[B9,Bf];split
 ·rename_i e
  rw[Cc,AC (by rw[e];simp),KJ]
  ·simp
  ·intro y hy;obtain⟨z,hz,rfl⟩:=Bm.1 hy
   have:=h3 z (B7.1 hz).1 x Br
   rw[lt_iff]at this ⊢;simp only;omega
 ·rename_i e
  rw[Cc,AI (by simpa using e)];simp
end Au
namespace Gm
theorem iS {G:Gr}:has G z=true↔z<G.ts.length/\-1-z<G.ns.length:=by
 unfold has;split
 ·simp only[Bi];omega
 ·simp only[Bi];omega
end Gm
namespace Au
def syms (G:Gm.Gr):List Int:=(List.range G.ts.length).map (fun i:Nat=>(i:Int))++(List.range G.ns.length).map fun i:Nat=>-1-(i:Int)
theorem iZ:s∈syms G↔Gm.has G s=true:=by
 rw[Gm.iS];unfold syms;rw[Bt,Bm,Bm]
 constructor
 ·rintro(⟨i,hi,rfl⟩|⟨i,hi,rfl⟩)
  ·have:=Cj.1 hi;omega
  ·have:=Cj.1 hi;omega
 ·rintro⟨h1,h2⟩;by_cases h:0<=s
  ·exact .inl ⟨s.toNat,Cj.2 (by omega),by omega⟩
  ·exact .inr ⟨(-1-s).toNat,Cj.2 (by omega),by omega⟩
theorem NP (G:Gm.Gr):(syms G).Nodup:=by
 unfold syms;refine BO.2 (DY.2 ⟨?_,?_,fun x hx y hy=>?_⟩)
 ·rw[Dk];exact(FF _).imp fun {a b} h=>by omega
 ·rw[Dk];exact(FF _).imp fun {a b} h=>by omega
 ·obtain⟨i,_,rfl⟩:=Bm.1 hx;obtain⟨k,_,rfl⟩:=Bm.1 hy;omega
theorem ni (G:Gm.Gr):(syms G).length=G.ts.length+G.ns.length:=by simp[syms]
theorem xc (h:i<G.ts.length+G.ns.length):(syms G)[i]?=some (if(i:Int)<G.ts.length then(i:Int) else -1-((i:Int)-G.ts.length)):=by
 unfold syms;by_cases hi:i<G.ts.length
 ·rw[BM (by simpa using hi),AC (by omega)];simp[hi]
 ·rw[Ce (by simpa using hi),AI (by omega),Bv,Bh,List.length_range,List.getElem?_range (by omega)];simp only[Dm,EI];omega
def ij:List (List It)->List It->Int
 | [],_=>-1
 | y::l,k=>if y=k then 0 else if ij l k<0 then -1 else ij l k+1
theorem q8 {k:List It}:∀ {l:List (List It)},ij l k<0↔k ∉ l
 | []=>by simp[ij]
 | y::l=>by
  have ih:=q8 (k:=k) (l:=l);rw[ij,Bu];split
  ·rename_i e
   simp[e]
  ·rename_i e
   split
   ·rename_i h
    have:=ih.1 h
    simp[this,Ne.symm e]
   ·rename_i h
    have:k∈l:=BW fun q=>h (ih.2 q)
    simp[this];omega
theorem L4 {k:List It}:∀ {l:List (List It)},0<=ij l k->l[(ij l k).toNat]?=some k
 | [],h=>by simp[ij]at h
 | y::l,h=>by
  rw[ij]at h ⊢;by_cases e:y=k
  ·rw[AC e,e];rfl
  ·rw[AI e]at h ⊢;by_cases q:ij l k<0
   ·rw[AC q]at h;omega
   ·rw[AI q];rw[show(ij l k+1).toNat=(ij l k).toNat+1 by omega,Ap];exact L4 (by omega)
def jq (G:Gm.Gr) (l:List It) (p:List (List It)×List (Int×Int)) (s:Int):List (List It)×List (Int×Int) :=
 if mv G l s=[] then p
 else if 0<=ij p.1 (mv G l s) then(p.1,p.2++[(s,ij p.1 (mv G l s))])
 else(p.1++[mv G l s],p.2++[(s,(p.1.length:Int))])
def fS (G:Gm.Gr) (l:List It) (p:List (List It)×List (Int×Int)) (ss:List Int):List (List It)×List (Int×Int):=ss.foldl (jq G l) p
theorem mJ (G:Gm.Gr) (l:List It) (p:List (List It)×List (Int×Int)) (ss:List Int) (s:Int):fS G l p (ss++[s])=jq G l (fS G l p ss) s:=by simp[fS]
noncomputable def one (G:Gm.Gr) (ks:List (List It)) (n:Nat):List (List It)×List (Int×Int):=fS G (iU G (ks.getD n [])) (ks,[]) (syms G)
noncomputable def run (G:Gm.Gr):Nat->List (List It)->List (List (Int×Int))->Option (List (List It)×List (List (Int×Int)))
 | 0,_,_=>none
 | f+1,ks,es=>if es.length<ks.length then(if 300<(one G ks es.length).1.length then none else run G f (one G ks es.length).1 (es++[(one G ks es.length).2])) else some (ks,es)
noncomputable def lK (G:Gm.Gr):Option (List (List It)×List (List (Int×Int))):=run G 302 [[(-1,0)]] []
structure om (G:Gm.Gr) (ks:List (List It)) (l:List It) (ss:List Int) (p:List (List It)×List (Int×Int)):Prop where
 pre:∃new,p.1=ks++new
 nd:p.1.Nodup
 it:∀k∈p.1,j6 k/\∀x∈k,gj G x=true
 sy:p.2.map (·.1)=ss.filter fun s=>mv G l s != []
 ed:∀e∈p.2,∃j:Nat,e.2=j/\p.1[j]?=some (mv G l e.1)
 up:∀j,ks.length<=j->j<p.1.length->∃e∈p.2,e.2=(j:Int)
theorem om.jq {G:Gm.Gr} {ks:List (List It)} {l:List It} (hl:j6 l) (hi:∀x∈l,gj G x=true) {ss:List Int} {p:List (List It)×List (Int×Int)} (h:om G ks l ss p) (s:Int):om G ks l (ss++[s]) (jq G l p s):=by
 unfold Au.jq;split
 ·rename_i e
  refine⟨h.pre,h.nd,h.it,?_,h.ed,h.up⟩;rw[h.sy,B9,Cc,AI (by simp[e])];simp
 ·rename_i e
  have hs:∀z:Int,(p.2++[(s,z)]).map (fun e:Int×Int=>e.1)=(ss++[s]).filter fun s=>mv G l s != []:=fun z=>by
   rw[Bf,h.sy,B9,Cc,AC (by simpa using e)];simp
  split
  ·rename_i h0
   refine⟨h.pre,h.nd,h.it,hs _,fun x hx=>?_,fun j h1 h2=>?_⟩
   ·rcases Bt.1 hx with hx|hx
    ·exact h.ed x hx
    ·rw[AP.1 hx];exact⟨(ij p.1 (mv G l s)).toNat,by simp only;omega,L4 h0⟩
   ·obtain⟨x,hx,e⟩:=h.up j h1 h2;exact⟨x,Dr _ hx,e⟩
  ·rename_i h0
   have hn:mv G l s ∉ p.1:=q8.1 (by omega);obtain⟨new,aa⟩:=h.pre;refine⟨⟨new++[mv G l s],by rw[aa,Ci]⟩,?_,fun k hk=>?_,hs _,fun x hx=>?_,fun j h1 h2=>?_⟩
   ·refine BO.2 (DY.2 ⟨BO.1 h.nd,by simp,fun x hx y hy=>?_⟩);rw[AP.1 hy];exact fun q=>hn (q▸hx)
   ·rcases Bt.1 hk with hk|hk
    ·exact h.it k hk
    ·rw[AP.1 hk];exact⟨RY hl s,fun x hx=>xJ hi hx⟩
   ·rcases Bt.1 hx with hx|hx
    ·obtain⟨j,e1,e2⟩:=h.ed x hx;refine⟨j,e1,?_⟩;rw[BM (Bc.1 e2).1];exact e2
    ·rw[AP.1 hx];exact⟨p.1.length,rfl,by simp⟩
   ·simp only[AW,BA]at h2;by_cases q:j<p.1.length
    ·obtain⟨x,hx,e⟩:=h.up j h1 q;exact⟨x,Dr _ hx,e⟩
    ·exact⟨(s,(p.1.length:Int)),DE _ Br,by simp only;omega⟩
theorem om.all {G:Gm.Gr} {ks:List (List It)} {l:List It} (hl:j6 l) (hi:∀x∈l,gj G x=true) (hn:ks.Nodup) (hk:∀k∈ks,j6 k/\∀x∈k,gj G x=true):∀(ss done:List Int) (p:List (List It)×List (Int×Int)),om G ks l done p->om G ks l (done++ss) (fS G l p ss)
 | [],done,p,h=>by simpa[fS] using h
 | s::ss,done,p,h=>by
  have:=om.all hl hi hn hk ss (done++[s]) _ (h.jq hl hi s)
  simpa[fS] using this
structure Inv (G:Gm.Gr) (ks:List (List It)) (es:List (List (Int×Int))):Prop where
 h0:ks[0]?=some [(-1,0)]
 nd:ks.Nodup
 it:∀k∈ks,j6 k/\∀x∈k,gj G x=true
 le:es.length<=ks.length
 ed:∀i (h:i<es.length),(es[i].map (·.1)=(syms G).filter fun s=>mv G (iU G (ks.getD i [])) s != [])/\∀e∈es[i],∃j:Nat,e.2=j/\ks[j]?=some (mv G (iU G (ks.getD i [])) e.1)
 up:∀j,0<j->j<ks.length->∃i,∃h:i<es.length,i<j/\∃e∈es[i],e.2=(j:Int)
theorem Inv.start (G:Gm.Gr):Inv G [[(-1,0)]] []:=by
 refine⟨rfl,by simp,fun k hk=>?_,by simp,fun i h=>absurd h (by simp),fun j h1 h2=>absurd h2 (by simp;omega)⟩;rw[AP.1 hk];refine⟨by simp[j6],fun x hx=>?_⟩;rw[AP.1 hx,fW];refine⟨⟨by decide,by simp only;omega⟩,by decide,?_⟩;simp only;omega
theorem Inv.step {ks:List (List It)} (h:Inv G ks es) (ad:es.length<ks.length):Inv G (one G ks es.length).1 (es++[(one G ks es.length).2]):=by
 have hp:=om.all (G:=G) (l:=iU G (ks.getD es.length [])) (kV _ _) (fun x hx=>jR hx) h.nd h.it (syms G) [] (ks,[]) ⟨⟨[],by simp⟩,h.nd,h.it,by simp,by simp,fun j h1 h2=>absurd h2 (by simp only;omega)⟩;rw[CS]at hp
 change om G ks (iU G (ks.getD es.length [])) (syms G) (one G ks es.length) at hp
 generalize one G ks es.length=p at *;obtain⟨new,aa⟩:=hp.pre;have ae:ks.length<=p.1.length:=by rw[aa,AW];omega
 have ac:∀i,i<ks.length->p.1.getD i []=ks.getD i []:=fun i hi=>by
  rw[Ag,Ag,aa,BM hi]
 have ab:∀i k,ks[i]?=some k->p.1[i]?=some k:=fun i k hk=>by
  rw[aa,BM (Bc.1 hk).1];exact hk
 refine⟨ab _ _ h.h0,hp.nd,hp.it,by simp;omega,fun i hi=>?_,fun j h1 h2=>?_⟩
 ·by_cases q:i<es.length
  ·rw[B6 q,ac i (by omega)];obtain⟨a,b⟩:=h.ed i q;refine⟨a,fun e he=>?_⟩;obtain⟨j,e1,e2⟩:=b e he;exact⟨j,e1,ab _ _ e2⟩
  ·have af:i=es.length:=by simp at hi;omega
   subst af;rw[ac _ ad];simp only[Ct (Af _),Dg,List.getElem_singleton];exact⟨hp.sy,hp.ed⟩
 ·by_cases q:j<ks.length
  ·obtain⟨i,hi,ag,e,he,e2⟩:=h.up j h1 q;exact⟨i,by simp;omega,ag,e,by rw[B6 hi];exact he,e2⟩
  ·obtain⟨e,he,e2⟩:=hp.up j (by omega) h2;exact⟨es.length,by simp,by omega,e,by simpa using he,e2⟩
theorem qo {ks:List (List It)} (h:es.length<ks.length) (h3:ks.length<=300):run G (302-es.length) ks es=if 300<(one G ks es.length).1.length then none else run G (302-(es++[(one G ks es.length).2]).length) (one G ks es.length).1 (es++[(one G ks es.length).2]):=by
 rw[show 302-es.length=(302-(es++[(one G ks es.length).2]).length)+1 by simp;omega,run,AC h]
theorem ku {ks:List (List It)} (h:es.length=ks.length) (h3:ks.length<=300):run G (302-es.length) ks es=some (ks,es):=by
 rw[show 302-es.length=(301-es.length)+1 by omega,run,AI (by omega)]
theorem Li {G:Gm.Gr}:∀(f:Nat) (ks:List (List It)) (es:List (List (Int×Int))),Inv G ks es->ks.length<=300->∀K E,run G f ks es=some (K,E)->Inv G K E/\E.length=K.length/\K.length<=300
 | 0,_,_,_,_,_,_,h=>by cases h
 | f+1,ks,es,hi,h3,K,E,h=>by
  rw[run]at h;split at h
  ·rename_i aa
   split at h
   ·cases h
   ·exact Li f _ _ (hi.step aa) (by omega) K E h
  ·injection h with h;injection h with h1 h2;subst h1 h2
   have:=hi.le
   exact⟨hi,by omega,h3⟩
theorem ji {K:List (List It)} (h:lK G=some (K,E)):Inv G K E/\E.length=K.length/\K.length<=300 :=
 Li 302 _ _ (Inv.start G) (by simp) K E h
theorem qc (aa:Gm.Ok G) {x:It} (hx:gj G x=true) (h:nx G x=some s):s∈syms G:=by
 rw[iZ,Gm.iS];have hi:=fW.1 hx;have hs:s∈sy G x.1:=Co h;unfold sy at hs;split at hs
 ·rw[AP.1 hs]
  have:=aa.s0
  have:=aa.s1
  omega
 ·rename_i hn
  have ab:x.1.toNat<G.rs.length:=by omega
  rw[Ag,AD ab,Bp]at hs;have hr:=Gm.fJ (aa.rr _ (AE ab))
  have:=hr.2.2.2 s hs
  exact⟨this.1,this.2.1⟩
end Au
namespace Gm
abbrev Nu (G:Gr) (r:List Int):Prop:=Al false G.rs r
inductive Fs (G:Gr) (t:Int):Int->Prop
 | tm (x:Rl) (hx:x∈G.rs) (p q:List Int) (e:x.r=p++t::q) (h0:0<=t) (hp:Nu G p):Fs G t x.l
 | nt (x:Rl) (hx:x∈G.rs) (p:List Int) (z:Int) (q:List Int) (e:x.r=p++z::q) (hz:z<0) (hp:Nu G p) (h:Fs G t (-1-z)):Fs G t x.l
def Bg (G:Gr) (t:Int) (r:List Int):Prop:=∃p y q,r=p++y::q/\Nu G p/\(y=t/\0<=t\/y<0/\Fs G t (-1-y))
theorem Fs.of {G:Gr} {x:Rl} (hx:x∈G.rs) (h:Bg G t x.r):Fs G t x.l:=by
 obtain⟨p,y,q,e,hp,h|h⟩:=h
 ·exact .tm x hx p q (by rw[e,h.1]) h.2 hp
 ·exact .nt x hx p y q e h.1 hp h.2
theorem Fs.gD {G:Gr} (h:Fs G t j):∃x∈G.rs,x.l=j/\Bg G t x.r:=by
 cases h with
 | tm x hx p q e h0 hp=>exact⟨x,hx,rfl,p,t,q,e,hp,.inl ⟨rfl,h0⟩⟩
 | nt x hx p z q e hz hp h=>exact⟨x,hx,rfl,p,z,q,e,hp,.inr ⟨hz,h⟩⟩
inductive Fw (G:Gr) (t:Int):Int->Prop
 | st (e:t=G.ts.length):Fw G t G.st
 | bg (x:Rl) (hx:x∈G.rs) (p:List Int) (z:Int) (q:List Int) (e:x.r=p++z::q) (hz:z<0) (h:Bg G t q):Fw G t (-1-z)
 | on (x:Rl) (hx:x∈G.rs) (p:List Int) (z:Int) (q:List Int) (e:x.r=p++z::q) (hz:z<0) (hq:Nu G q) (h:Fw G t x.l):Fw G t (-1-z)
theorem ke {G:Gr}:Nu G (z::r)↔(z<0/\Gn false G.rs (-1-z))/\Nu G r:=by
 constructor
 ·intro h
  have h1:z<0:=by
   rcases Int.lt_or_le z 0 with h2|h2
   ·exact h2
   ·exact absurd (h.1 z (Br ..) h2) (by simp)
  exact⟨⟨h1,h.2 z (Br ..) h1⟩,fun y hy=>h.1 y (Bo _ hy),fun y hy=>h.2 y (Bo _ hy)⟩
 ·rintro⟨⟨h1,h2⟩,h3⟩;refine⟨fun y hy h0=>?_,fun y hy h0=>?_⟩
  ·rcases Bu.1 hy with rfl|hy
   ·omega
   ·exact h3.1 y hy h0
  ·rcases Bu.1 hy with rfl|hy
   ·exact h2
   ·exact h3.2 y hy h0
theorem mU (G:Gr):Nu G []:=⟨by simp,by simp⟩
theorem L7 {G:Gr}:¬Bg G t []:=by
 rintro⟨p,y,q,e,_⟩;cases p <;> cases e
theorem jh {G:Gr}:Bg G t (z::r)↔(z=t/\0<=t\/z<0/\Fs G t (-1-z))\/(z<0/\Gn false G.rs (-1-z))/\Bg G t r:=by
 constructor
 ·rintro⟨p,y,q,e,hp,h⟩;cases p with
  | nil =>
   rw[CS]at e;injection e with e1 e2;subst e1;exact .inl h
  | cons u p =>
   rw[Cn]at e;injection e with e1 e2;subst e1
   have:=ke.1 hp
   exact .inr ⟨this.1,p,y,q,e2,this.2,h⟩
 ·rintro(h|⟨h1,p,y,q,e,hp,h⟩)
  ·exact⟨[],z,r,rfl,mU G,h⟩
  ·exact⟨z::p,y,q,by rw[e];rfl,ke.2 ⟨h1,hp⟩,h⟩
def rq (nu:List Bool) (t:Int) (is:List Bool) (rest:Bool):List Int->Bool
 | []=>rest
 | z::r=>if 0<=z then z==t else is.getD (-1-z).toNat false||(nu.getD (-1-z).toNat false&&rq nu t is rest r)
def yb (P:Int->Prop) (is:List Bool):Prop:=∀i:Nat,is.getD i false=true->P (i:Int)
theorem yb.none (P:Int->Prop) (n:Nat):yb P (List.replicate n false):=fun i h=>by
 rw[Ag,Dc]at h;split at h <;> cases h
theorem LI {G:Gr} {is:List Bool} {rest:Bool} (hl:mh n G.rs) (hs:yb (Fs G t) is) (ht:0<=t) (h:rq (gn false G.rs n) t is rest r=true):Bg G t r\/Nu G r/\rest=true:=by
 induction r with
 | nil=>exact .inr ⟨mU G,h⟩
 | cons z r ih =>
  rw[rq]at h;by_cases h0:0<=z
  ·rw[AC h0]at h;exact .inl (jh.2 (.inl (.inl ⟨by simpa using h,ht⟩)))
  ·rw[AI h0]at h;rw[Dd,Bb]at h;rcases h with h|⟨h1,h2⟩
   ·have:=hs _ h
    rw[BI (by omega)]at this;exact .inl (jh.2 (.inl (.inr ⟨by omega,this⟩)))
   ·have h3:=(zU hl (by omega)).1 h1;rcases ih h2 with h4|h4
    ·exact .inl (jh.2 (.inr ⟨⟨by omega,h3⟩,h4⟩))
    ·exact .inr ⟨ke.2 ⟨⟨by omega,h3⟩,h4.1⟩,h4.2⟩
theorem RD {G:Gr} {is:List Bool} {rest:Bool} (hl:mh n G.rs) (hc:∀j,Fs G t j->is.getD j.toNat false=true) (h:Bg G t r\/Nu G r/\rest=true):rq (gn false G.rs n) t is rest r=true:=by
 induction r with
 | nil =>
  rcases h with h|h
  ·exact absurd h L7
  ·exact h.2
 | cons z r ih =>
  rw[rq];by_cases h0:0<=z
  ·rw[AC h0];rcases h with h|h
   ·rcases jh.1 h with(h|h)|h
    ·simpa using h.1
    ·omega
    ·omega
   ·have:=(ke.1 h.1).1.1;omega
  ·rw[AI h0,Dd,Bb];rcases h with h|h
   ·rcases jh.1 h with(h|h)|h
    ·omega
    ·exact .inl (hc _ h.2)
    ·exact .inr ⟨(zU hl (by omega)).2 h.1.2,ih (.inl h.2)⟩
   ·have h1:=ke.1 h.1;exact .inr ⟨(zU hl (by omega)).2 h1.1.2,ih (.inr ⟨h1.2,h.2⟩)⟩
theorem RC {G:Gr} {is:List Bool} {rest:Bool} (hl:mh n G.rs) (hs:yb (Fs G t) is) (hc:∀j,Fs G t j->is.getD j.toNat false=true) (ht:0<=t):rq (gn false G.rs n) t is rest r=true↔Bg G t r\/Nu G r/\rest=true:=⟨LI hl hs ht,RD hl hc⟩
def GZ (G:Gr) (n:Nat) (t:Int) (is:List Bool):Prop:=∀x∈G.rs,rq (gn false G.rs n) t is false x.r=true->is.getD x.l.toNat false=true
theorem LJ {nu:List Bool} {is:List Bool} {rest:Bool} {p:List Int} {y:Int} {q:List Int} (hp:∀z∈p,z<0/\nu.getD (-1-z).toNat false=true) (h:rq nu t is rest (y::q)=true):rq nu t is rest (p++y::q)=true:=by
 induction p with
 | nil=>exact h
 | cons z p ih =>
  rw[Cn,rq];have h1:=hp z (Br ..);rw[AI (by omega),h1.2,ih (fun z hz=>hp z (Bo _ hz))];simp
theorem Mk {G:Gr} (hl:mh n G.rs) {p:List Int} (h:Nu G p):∀z∈p,z<0/\(gn false G.rs n).getD (-1-z).toNat false=true:=fun z hz=>by
 have h1:z<0:=by
  rcases Int.lt_or_le z 0 with h2|h2
  ·exact h2
  ·exact absurd (h.1 z hz h2) (by simp)
 exact⟨h1,(zU hl (by omega)).2 (h.2 z hz h1)⟩
theorem L0 {G:Gr} {is:List Bool} (hl:mh n G.rs) (h:GZ G n t is) (hj:Fs G t j):is.getD j.toNat false=true:=by
 induction hj with
 | tm x hx p q e h0 hp =>
  refine h x hx ?_;rw[e];refine LJ (Mk hl hp) ?_;rw[rq,AC h0];simp
 | nt x hx p z q e hz hp _ ih =>
  refine h x hx ?_;rw[e];refine LJ (Mk hl hp) ?_;rw[rq,AI (by omega),ih];rfl
def rP (nu:List Bool) (t:Int) (is:List Bool) (x:Rl):List Bool:=if rq nu t is false x.r=true then is.set x.l.toNat true else is
theorem Kf (nu:List Bool) (t:Int) (is:List Bool) (x:Rl):Le is (rP nu t is x):=by
 unfold rP;split
 ·exact Le.set _ _
 ·exact Le.refl _
theorem Is {G:Gr} {n:Nat} {t:Int} (hl:mh n G.rs) (ht:0<=t):∀(xs:List Rl) (is:List Bool),(∀x∈xs,x∈G.rs)->yb (Fs G t) is->yb (Fs G t) (xs.foldl (rP (gn false G.rs n) t) is)
 | [],_,_,h=>h
 | x::xs,is,hx,h=>by
  refine Is hl ht xs _ (fun y hy=>hx y (Bo _ hy)) ?_;have hm:=hx x (Br ..);unfold rP;split
  ·rename_i e
   intro i hi;rcases jx _ _ _ hi with h1|h1
   ·exact h i h1
   ·rw[h1,BI (hl x hm).1];rcases LI hl h ht e with h2|h2
    ·exact .of hm h2
    ·cases h2.2
  ·exact h
theorem O9 {G:Gr} (hl:mh n G.rs) (ht:0<=t) (i:Nat):(times (fun s=>G.rs.foldl (rP (gn false G.rs n) t) s) n (List.replicate n false)).getD i false=true↔Fs G t (i:Int):=by
 have ab:∀s,Le s (G.rs.foldl (rP (gn false G.rs n) t) s):=fun s=>ia _ (Kf _ _) G.rs s;have h0:(List.replicate n false).length=n:=by simp
 have aa:=Hv ab (List.replicate n false);rw[h0]at aa;have ac:(times (fun s=>G.rs.foldl (rP (gn false G.rs n) t) s) n (List.replicate n false)).length=n:=by rw[<-(jb ab n _).len,h0]
 constructor
 ·have:∀k,yb (Fs G t) (times (fun s=>G.rs.foldl (rP (gn false G.rs n) t) s) k (List.replicate n false)):=by
   intro k;induction k with
   | zero=>exact yb.none _ n
   | succ k ih=>exact Is hl ht G.rs _ (fun _ h=>h) ih
  exact this n i
 ·intro h
  have:=L0 hl (n:=n) (is:=times (fun s=>G.rs.foldl (rP (gn false G.rs n) t) s) n (List.replicate n false)) ?_ h
  ·simpa using this
  ·intro x hx e
   have:=Gv _ (Kf _ _) G.rs _ aa x hx
   generalize times (fun s=>G.rs.foldl (rP (gn false G.rs n) t) s) n (List.replicate n false)=S at *;rw[rP,AC e]at this;rw[<-this]
   have:=hl x hx
   exact jA _ _ (by omega)
end Gm
end Go.Proofs.YtcmhaemaophplaaGreat
