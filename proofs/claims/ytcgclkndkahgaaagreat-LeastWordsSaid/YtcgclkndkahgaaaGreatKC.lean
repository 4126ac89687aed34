/- Part of the proofs over this program: CfgRight, LexQuo, LexPiece2, Floats, PlaceFn, PlaceAt, LexTok, LexScan, YaccL, CfgL, CfgR, CfgR2, CfgEq, TrimL, TrimR, TrimD, FirstL, FirstN, CycleL, CycleO, LeastL, LeastT. -/
import Derived.ScopeJumps
import Derived.WalkMore
import Derived.Laws.FloatArith
import Derived.Test.YtcgclkndkahgaaaGreatKB
namespace Go.Proofs.YtcgclkndkahgaaaGreat
set_option maxRecDepth 100000
set_option maxHeartbeats 40000000
open Go.RowKit
def ruB (G:Gm.Gr) (x:Gm.Rl):Bool:=decide (x.r.length≤6) && !x.r.any (zbh G)&&(if x.p = -1 then !x.r.any isT else isT x.p&&Gm.has G x.p)
theorem zcw (v:Value) (G:Gm.Gr) (B:Nat) (x:Gm.Rl) (A:Option Addr) (c:Nat) (w:World) (hg:aN w B v G) (hr:RdI w B A x.r) (hx:∀z∈x.r,Gm.In z) (hp:Gm.In x.p) (hB:B≤w.heap.size) :
  Calls Tryz.prog 69 #[v,.agg #[.int .i64 x.l,.slice A x.r.length c,.int .i64 x.p]] w fun e w'=>e=.returned (.bool (ruB G x))∧Below w.heap.size w w':=by
 have HG:=aA hg
 obtain⟨AT,cT,AN,cN,AR,cR,rfl,_⟩:=hg
 have HB0:=aA ((One.start w #[.slice AT G.ts.length cT,.slice AN G.ns.length cN,.slice AR G.rs.length cR,.int .i64 G.st]).alloc (.cells #[.int .i64 x.l,.slice A x.r.length c,.int .i64 x.p] 41))
 have HK0:Hid (((w.alloc (.cells #[.slice AT G.ts.length cT,.slice AN G.ns.length cN,.slice AR G.rs.length cR,.int .i64 G.st] 26)).alloc (.cells #[.int .i64 x.l,.slice A x.r.length c,.int .i64 x.p] 41)).heap[w.heap.size+1]?=some (.cells #[.int .i64 x.l,.slice A x.r.length c,.int .i64 x.p] 41 (0,0))):=aA (by
  have:=heap_alloc_new (w.alloc (.cells #[.slice AT G.ts.length cT,.slice AN G.ns.length cN,.slice AR G.rs.length cR,.int .i64 G.st] 26)) (.cells #[.int .i64 x.l,.slice A x.r.length c,.int .i64 x.p] 41)
  simpa using this)
 by_cases h6:6<x.r.length
 ·have HX:Hid (ruB G x=false):=aA (by unfold ruB;rw[decide_eq_false (show ¬x.r.length≤6 by omega)];rfl)
  rw[HX.out]
  clear hr hx hp
  go_enter Tryz.func69,Tryz.ntmps69
  go_wp2
  go_ret
  exact⟨rfl,HB0.out.below⟩
 have HOB:=aA (fun(y:World) (h:One w #[.slice AT G.ts.length cT,.slice AN G.ns.length cN,.slice AR G.rs.length cR,.int .i64 G.st] y)=>(Below.block h w.heap.size (by omega)).trans (heap_alloc_new w _))
 have HCF:=aA (fun(y:World) (h:One w #[.slice AT G.ts.length cT,.slice AN G.ns.length cN,.slice AR G.rs.length cR,.int .i64 G.st] y)=>zdb A c B x.r y G w.heap.size B _ hx (fun z hz=>HG.out.below (h.on hz).below hB) (fun z hz=>HOB.out _ (h.on hz)) (hr.keep fun g o hg=>h.below.cell (p:=⟨g,o,none⟩) (Nat.lt_of_lt_of_le hg hB)) (Nat.le_trans hB h.below.size) (by omega))
 have HCT:=aA (fun(y:World) (h:One w #[.slice AT G.ts.length cT,.slice AN G.ns.length cN,.slice AR G.rs.length cR,.int .i64 G.st] y)=>zcH A c B x.r y (hr.keep fun g o hg=>h.below.cell (p:=⟨g,o,none⟩) (Nat.lt_of_lt_of_le hg hB)) (Nat.le_trans hB h.below.size) (by omega))
 have HIT:=aA (fun y=>zcl x.p y)
 have HHS:=aA (fun(y:World) (h:One w #[.slice AT G.ts.length cT,.slice AN G.ns.length cN,.slice AR G.rs.length cR,.int .i64 G.st] y)=>zdB _ G B x.p hp y (HG.out.below h.below hB))
 have HRU:Hid (ruB G x=(!x.r.any (zbh G)&&(if x.p = -1 then !x.r.any isT else isT x.p&&Gm.has G x.p))):=aA (by unfold ruB;rw[decide_eq_true (show x.r.length≤6 by omega)];rfl)
 clear hr hx hp HG
 cases q1:x.r.any (zbh G)
 case true =>
  have HX:Hid (ruB G x=false):=aA (by rw[HRU.out,q1];rfl)
  rw[q1]at HCF
  rw[HX.out]
  clear q1 HRU
  go_enter Tryz.func69,Tryz.ntmps69
  go_wp2_with fail
  refine(HCF.out _ HB0.out).mono ?_;rintro _ w2 ⟨rfl,hb⟩
  have HB2:=aA (HB0.out.on hb)
  clear hb
  go_wp2
  go_ret
  exact⟨rfl,HB2.out.below⟩
 rw[q1]at HCF
 have HR2:Hid (ruB G x=(if x.p = -1 then !x.r.any isT else isT x.p&&Gm.has G x.p)):=aA (by rw[HRU.out,q1];rfl)
 clear q1 HRU
 by_cases h1:x.p = -1
 ·have HX:=aA (HR2.out.trans (if_pos h1))
  have e1:(x.p == -1)=true:=beq_iff_eq.2 h1
  rw[HX.out]
  generalize x.r.any isT=b at *
  clear h1 HIT HHS HR2 HX
  go_enter Tryz.func69,Tryz.ntmps69
  go_wp2_with fail
  refine(HCF.out _ HB0.out).mono ?_;rintro _ w2 ⟨rfl,hb⟩
  have HB2:=aA (HB0.out.on hb)
  have hbb:=(hb.block (w.heap.size+1) (by simp)).trans HK0.out
  have d1:=cell_of_row w2 _ 1 _ _ _ hbb
  have d2:=cell_of_row w2 _ 2 _ _ _ hbb
  have hz:w.heap.size+1<w2.heap.size:=(Array.getElem?_eq_some_iff.1 hbb).1
  clear hb hbb
  go_wp2_with fail
  refine(HCT.out _ HB2.out).mono ?_;rintro _ w3 ⟨rfl,hb⟩
  have HB3:=aA (HB2.out.on hb)
  clear hb
  go_wp2
  go_ret
  exact⟨rfl,HB3.out.below⟩
 ·have HX:=aA (HR2.out.trans (if_neg h1))
  have e1:(x.p == -1)=false:=beq_eq_false_iff_ne.2 h1
  rw[HX.out]
  unfold isT
  clear h1 HCT HR2 HX
  cases q2:decide (0≤x.p)
  ·rw[q2]at HIT
   clear q2 HHS
   go_enter Tryz.func69,Tryz.ntmps69
   go_wp2_with fail
   refine(HCF.out _ HB0.out).mono ?_;rintro _ w2 ⟨rfl,hb⟩
   have HB2:=aA (HB0.out.on hb)
   have hbb:=(hb.block (w.heap.size+1) (by simp)).trans HK0.out
   have d1:=cell_of_row w2 _ 1 _ _ _ hbb
   have d2:=cell_of_row w2 _ 2 _ _ _ hbb
   have hz:w.heap.size+1<w2.heap.size:=(Array.getElem?_eq_some_iff.1 hbb).1
   clear hb hbb
   go_wp2_with fail
   refine(HIT.out _).mono ?_;rintro _ _ ⟨rfl,rfl⟩
   go_wp2
   go_ret
   exact⟨rfl,HB2.out.below⟩
  ·rw[q2]at HIT
   clear q2
   generalize Gm.has G x.p=b at *
   go_enter Tryz.func69,Tryz.ntmps69
   go_wp2_with fail
   refine(HCF.out _ HB0.out).mono ?_;rintro _ w2 ⟨rfl,hb⟩
   have HB2:=aA (HB0.out.on hb)
   have hbb:=(hb.block (w.heap.size+1) (by simp)).trans HK0.out
   have d1:=cell_of_row w2 _ 1 _ _ _ hbb
   have d2:=cell_of_row w2 _ 2 _ _ _ hbb
   have hz:w.heap.size+1<w2.heap.size:=(Array.getElem?_eq_some_iff.1 hbb).1
   have q0:=HB2.out.c 0 _ rfl
   have q1:=HB2.out.c 1 _ rfl
   have q2:=HB2.out.c 2 _ rfl
   have q3:=HB2.out.c 3 _ rfl
   clear hb hbb
   go_wp2_with fail
   refine(HIT.out _).mono ?_;rintro _ w5 ⟨rfl,hw5⟩
   subst hw5
   go_wp2_with fail
   refine(HHS.out _ HB2.out).mono ?_;rintro _ w3 ⟨rfl,hb⟩
   have HB3:=aA (HB2.out.on hb)
   clear hb
   go_wp2
   go_ret
   exact⟨aC (by simp),HB3.out.below⟩
def rrF (G:Gm.Gr):List Gm.Rl→Int→Bool
 | [],n=>n==G.ns.length
 | x::r,n=>if x.l<0∨n<x.l∨ruB G x=false then false else rrF G r (max n (x.l+1))
theorem zfS {G:Gm.Gr} {rs:List Gm.Rl} {k:Nat} (h:k<rs.length) (n:Int):rrF G (rs.drop k) n=if rs[k].l<0∨n<rs[k].l∨ruB G rs[k]=false then false else rrF G (rs.drop (k+1)) (max n (rs[k].l+1)):=by
 rw[List.drop_eq_getElem_cons h,rrF]
theorem zgL {G:Gm.Gr} {rs:List Gm.Rl} {k:Nat} (h:rs.length≤k) (n:Int):rrF G (rs.drop k) n=(n==(G.ns.length:Int)):=by
 rw[List.drop_eq_nil_of_le h,rrF]
def rrB (G:Gm.Gr):Bool:=decide (G.rs.length≤40)&&rrF G G.rs 0
theorem zb2 (v:Value) (G:Gm.Gr) (B:Nat) (w:World) (hg:aN w B v G) (hf:Gm.Fit G) (hB:B≤w.heap.size) :
  Calls Tryz.prog 45 #[v] w fun e w'=>e=.returned (.bool (rrB G))∧Below w.heap.size w w':=by
 have HG:=aA hg
 obtain⟨AT,cT,AN,cN,AR,cR,rfl,⟨hlT,hmT⟩,⟨hlN,hmN⟩,⟨hlR,hmR⟩,_,_,ht⟩:=hg
 have HT:=aA ht
 have HF:=aA hf
 have HS0:=aA (One.start w #[.slice AT G.ts.length cT,.slice AN G.ns.length cN,.slice AR G.rs.length cR,.int .i64 G.st])
 have hlenN:(G.ns.length:Int)≤9223372036854775807:=by omega
 clear ht hf
 by_cases h40:40<G.rs.length
 ·have HX:Hid (rrB G=false):=aA (by unfold rrB;rw[decide_eq_false (show ¬G.rs.length≤40 by omega)];rfl)
  rw[HX.out]
  go_enter Tryz.func45,Tryz.ntmps45
  go_wp2
  go_ret
  exact⟨rfl,HS0.out.below⟩
 have HRR:Hid (rrB G=rrF G (G.rs.drop 0) 0):=aA (by unfold rrB;rw[decide_eq_true (show G.rs.length≤40 by omega)];rfl)
 go_enter Tryz.func45,Tryz.ntmps45
 go_wp2
 go_loopw [3,13] (fun vt vi wr=>∃(k:Nat) (z:Int),k≤G.rs.length∧vi=.int .i64 k∧vt=.int .i64 z∧(0≤z∧z≤100+k)∧Hid (rrB G=rrF G (G.rs.drop k) z)∧One w #[.slice AT G.ts.length cT,.slice AN G.ns.length cN,.slice AR G.rs.length cR,.int .i64 G.st] wr) (fun _ vi _=>G.rs.length-(intOf vi).toNat)
 case atStart=>exact⟨0,0,Nat.zero_le _,rfl,rfl,by omega,HRR,HS0.out⟩
 case round =>
  obtain⟨k,z,hk,rfl,rfl,hzz,HE,hb⟩:=hrel
  have HB:=aA hb
  have hz:w.heap.size<wr.heap.size:=hb.size
  have hbw:=hb.below
  have q0:=hb.c 0 _ rfl
  have q1:=hb.c 1 _ rfl
  have q2:=hb.c 2 _ rfl
  have q3:=hb.c 3 _ rfl
  clear hb
  by_cases hlt:k<G.rs.length
  ·obtain⟨g,o,rfl,hgb,hc⟩:=HT.out (by omega)
   obtain⟨k0,⟨A',c',k1,_,_,hri⟩,k2⟩:=hc k hlt
   have k0:=(hbw.cell (p:=⟨g,o+k*3,none⟩) (Nat.lt_of_lt_of_le hgb hB)).trans k0
   have k1:=(hbw.cell (p:=⟨g,o+k*3+1,none⟩) (Nat.lt_of_lt_of_le hgb hB)).trans k1
   have k2:=(hbw.cell (p:=⟨g,o+k*3+2,none⟩) (Nat.lt_of_lt_of_le hgb hB)).trans k2
   have hgs:g<wr.heap.size:=by omega
   have hft:=HF.out.r _ (List.getElem_mem hlt)
   have HRU:=aA (fun(y:World) (h:One w #[.slice AT G.ts.length cT,.slice AN G.ns.length cN,.slice (some ⟨g,o,none⟩) G.rs.length cR,.int .i64 G.st] y)=>zcw _ G B G.rs[k] A' c' y (HG.out.below h.below hB) (hri.keep fun g o hg=>h.below.cell (p:=⟨g,o,none⟩) (Nat.lt_of_lt_of_le hg hB)) hft.2.2 hft.2.1 (Nat.le_trans hB h.below.size))
   have HN:=aA (HE.out.trans (zfS hlt z))
   have hil:=hft.1
   unfold Gm.In at hil
   clear hc hbw hft hri
   generalize G.rs[k]=x at *
   by_cases c1:x.l<0
   ·have HX:Hid (rrB G=false):=aA (HN.out.trans (if_pos (.inl c1)))
    go_wp2
    go_ret
    exact⟨aC HX.out.symm,(HB.out.alloc _).below⟩
   have c1':=Int.not_lt.1 c1
   by_cases c2:z<x.l
   ·have HX:Hid (rrB G=false):=aA (HN.out.trans (if_pos (.inr (.inl c2))))
    go_wp2
    go_ret
    exact⟨aC HX.out.symm,(HB.out.alloc _).below⟩
   have c2':=Int.not_lt.1 c2
   cases c3:ruB G x
   ·have HX:Hid (rrB G=false):=aA (HN.out.trans (if_pos (.inr (.inr c3))))
    rw[c3]at HRU
    clear c3 c1 c2
    go_wp2_with fail
    refine(HRU.out _ (HB.out.alloc _)).mono ?_;rintro _ w4 ⟨rfl,hb4⟩
    have HB4:=aA ((HB.out.alloc _).on hb4)
    clear hb4
    go_wp2
    go_ret
    exact⟨aC HX.out.symm,HB4.out.below⟩
   ·have HX:=aA (HN.out.trans (if_neg (by rw[c3];simp;omega)))
    rw[c3]at HRU
    clear c3 c1 c2
    go_wp2_with fail
    refine(HRU.out _ (HB.out.alloc _)).mono ?_;rintro _ w4 ⟨rfl,hb4⟩
    have HB4:=aA ((HB.out.alloc _).on hb4)
    have hbb:=(hb4.block wr.heap.size (by simp)).trans (heap_alloc_new wr _)
    have hz4:wr.heap.size<w4.heap.size:=(Array.getElem?_eq_some_iff.1 hbb).1
    have f0:=cell_of_row w4 _ 0 _ _ _ hbb
    clear hb4 hbb
    go_wp2
    go_roundw
    case rel=>exact⟨k+1,max z (x.l+1),by omega,by go_num,rfl,by omega,HX,HB4.out⟩
    case measure=>simp[intOf];omega
  ·obtain rfl:k=G.rs.length:=by omega
   have HX:=aA (HE.out.trans (zgL (Nat.le_refl _) z))
   clear hbw
   go_wp2
   go_ret
   exact⟨aC HX.out.symm,HB.out.below⟩
def zbz (G:Gm.Gr):Bool:=rnB G&&rlF G.ts [] 0&&rrB G&&decide (0≤G.st)&&decide (G.st<G.ns.length)
theorem zen (v:Value) (G:Gm.Gr) (B:Nat) (w:World) (hg:aN w B v G) (hf:Gm.Fit G) (hB:B≤w.heap.size) :
  Calls Tryz.prog 21 #[v] w fun e w'=>e=.returned (.bool (zbz G))∧Below w.heap.size w w':=by
 have HG:=aA hg
 have HF:=aA hf
 obtain⟨AT,cT,AN,cN,AR,cR,rfl,⟨hlT,hmT⟩,⟨hlN,hmN⟩,⟨hlR,hmR⟩,htm,_,_⟩:=hg
 have HS0:=aA (One.start w #[.slice AT G.ts.length cT,.slice AN G.ns.length cN,.slice AR G.rs.length cR,.int .i64 G.st])
 have H1:=aA (fun(x:World) (h:One w #[.slice AT G.ts.length cT,.slice AN G.ns.length cN,.slice AR G.rs.length cR,.int .i64 G.st] x)=>zb3 _ G B x (HG.out.below h.below hB) HF.out (Nat.le_trans hB h.below.size))
 have H2:=aA (fun(x:World) (h:One w #[.slice AT G.ts.length cT,.slice AN G.ns.length cN,.slice AR G.rs.length cR,.int .i64 G.st] x)=>zbH AT cT B G.ts x (htm.keep fun g o hg=>h.below.cell (p:=⟨g,o,none⟩) (Nat.lt_of_lt_of_le hg hB)) HF.out.t (Nat.le_trans hB h.below.size) (by omega))
 have H3:=aA (fun(x:World) (h:One w #[.slice AT G.ts.length cT,.slice AN G.ns.length cN,.slice AR G.rs.length cR,.int .i64 G.st] x)=>zb2 _ G B x (HG.out.below h.below hB) HF.out (Nat.le_trans hB h.below.size))
 have hlenN:(G.ns.length:Int)≤9223372036854775807:=by omega
 unfold zbz
 clear hf htm HG HF hlT hmT hlN hmN hlR hmR hB
 cases p1:rnB G
 ·rw[p1]at H1
  clear p1 H2 H3
  go_enter Tryz.func21,Tryz.ntmps21
  go_wp2_with fail
  refine(H1.out _ HS0.out).mono ?_;rintro _ w2 ⟨rfl,hb⟩
  have HB2:=aA (HS0.out.on hb)
  clear hb
  go_wp2
  go_ret
  exact⟨rfl,HB2.out.below⟩
 rw[p1]at H1
 clear p1
 cases p2:rlF G.ts [] 0
 ·rw[p2]at H2
  clear p2 H3
  go_enter Tryz.func21,Tryz.ntmps21
  go_wp2_with fail
  refine(H1.out _ HS0.out).mono ?_;rintro _ w2 ⟨rfl,hb⟩
  have HB2:=aA (HS0.out.on hb)
  have q0:=HB2.out.c 0 _ rfl
  have z2:w.heap.size<w2.heap.size:=HB2.out.size
  clear hb
  go_wp2_with fail
  refine(H2.out _ HB2.out).mono ?_;rintro _ w3 ⟨rfl,hb⟩
  have HB3:=aA (HB2.out.on hb)
  clear hb
  go_wp2
  go_ret
  exact⟨rfl,HB3.out.below⟩
 rw[p2]at H2
 clear p2
 cases p3:rrB G
 ·rw[p3]at H3
  clear p3
  go_enter Tryz.func21,Tryz.ntmps21
  go_wp2_with fail
  refine(H1.out _ HS0.out).mono ?_;rintro _ w2 ⟨rfl,hb⟩
  have HB2:=aA (HS0.out.on hb)
  have q0:=HB2.out.c 0 _ rfl
  have z2:w.heap.size<w2.heap.size:=HB2.out.size
  clear hb
  go_wp2_with fail
  refine(H2.out _ HB2.out).mono ?_;rintro _ w3 ⟨rfl,hb⟩
  have HB3:=aA (HB2.out.on hb)
  have r0:=HB3.out.c 0 _ rfl
  have r1:=HB3.out.c 1 _ rfl
  have r2:=HB3.out.c 2 _ rfl
  have r3:=HB3.out.c 3 _ rfl
  have z3:w.heap.size<w3.heap.size:=HB3.out.size
  clear hb
  go_wp2_with fail
  refine(H3.out _ HB3.out).mono ?_;rintro _ w4 ⟨rfl,hb⟩
  have HB4:=aA (HB3.out.on hb)
  clear hb
  go_wp2
  go_ret
  exact⟨rfl,HB4.out.below⟩
 rw[p3]at H3
 clear p3
 by_cases h4:0≤G.st
 ·rw[decide_eq_true h4]
  go_enter Tryz.func21,Tryz.ntmps21
  go_wp2_with fail
  refine(H1.out _ HS0.out).mono ?_;rintro _ w2 ⟨rfl,hb⟩
  have HB2:=aA (HS0.out.on hb)
  have q0:=HB2.out.c 0 _ rfl
  have z2:w.heap.size<w2.heap.size:=HB2.out.size
  clear hb
  go_wp2_with fail
  refine(H2.out _ HB2.out).mono ?_;rintro _ w3 ⟨rfl,hb⟩
  have HB3:=aA (HB2.out.on hb)
  have r0:=HB3.out.c 0 _ rfl
  have r1:=HB3.out.c 1 _ rfl
  have r2:=HB3.out.c 2 _ rfl
  have r3:=HB3.out.c 3 _ rfl
  have z3:w.heap.size<w3.heap.size:=HB3.out.size
  clear hb
  go_wp2_with fail
  refine(H3.out _ HB3.out).mono ?_;rintro _ w4 ⟨rfl,hb⟩
  have HB4:=aA (HB3.out.on hb)
  have s1:=HB4.out.c 1 _ rfl
  have s3:=HB4.out.c 3 _ rfl
  have z4:w.heap.size<w4.heap.size:=HB4.out.size
  clear hb
  go_wp2
  go_ret
  exact⟨aC (by simp),HB4.out.below⟩
 ·rw[decide_eq_false h4]
  have h4':=Int.not_le.1 h4
  clear h4
  go_enter Tryz.func21,Tryz.ntmps21
  go_wp2_with fail
  refine(H1.out _ HS0.out).mono ?_;rintro _ w2 ⟨rfl,hb⟩
  have HB2:=aA (HS0.out.on hb)
  have q0:=HB2.out.c 0 _ rfl
  have z2:w.heap.size<w2.heap.size:=HB2.out.size
  clear hb
  go_wp2_with fail
  refine(H2.out _ HB2.out).mono ?_;rintro _ w3 ⟨rfl,hb⟩
  have HB3:=aA (HB2.out.on hb)
  have r0:=HB3.out.c 0 _ rfl
  have r1:=HB3.out.c 1 _ rfl
  have r2:=HB3.out.c 2 _ rfl
  have r3:=HB3.out.c 3 _ rfl
  have z3:w.heap.size<w3.heap.size:=HB3.out.size
  clear hb
  go_wp2_with fail
  refine(H3.out _ HB3.out).mono ?_;rintro _ w4 ⟨rfl,hb⟩
  have HB4:=aA (HB3.out.on hb)
  have s1:=HB4.out.c 1 _ rfl
  have s3:=HB4.out.c 3 _ rfl
  have z4:w.heap.size<w4.heap.size:=HB4.out.size
  clear hb
  go_wp2
  go_ret
  exact⟨rfl,HB4.out.below⟩
def dropA (A:Option Addr) (c k:Nat):Option Addr:=if c=k then A else A.map fun x=>x.add k
theorem RdB.dropA {w:World} {B c:Nat} {A:Option Addr} {l:List Int} (h:RdB w B A l) (hc:l.length≤c) (k:Nat):RdB w B (dropA A c k) (l.drop k):=by
 intro hn
 rw[List.length_drop]at hn
 obtain⟨g,o,rfl,hg,hcl⟩:=h (by omega)
 refine⟨g,o+k,?_,hg,fun j hj=>?_⟩
 ·have e:((⟨g,o,none⟩:Addr).add k)=⟨g,o+k,none⟩:=by unfold Addr.add;by_cases h0:k=0 <;> simp[h0]
  unfold Go.Proofs.YtcgclkndkahgaaaGreat.dropA
  rw[if_neg (by omega),Option.map_some,e]
 ·rw[List.length_drop]at hj
  rw[show o+k+j=o+(k+j) by omega,hcl (k+j) (by omega),L.gd_lt (by omega:k+j<l.length),L.gd_lt (by rw[List.length_drop];exact hj),List.getElem_drop]
def quoV (r:Option Nat):Value:=match r with|none=>.tuple #[.int .i64 0,.int .i64 4]|some m=>.tuple #[.int .i64 ((m+1:Nat):Int),.int .i64 0]
theorem zfM (w:World) (A:Option Addr) (c n j:Nat) (h2:j≤c):(Instr.sliceAt 45 (.slice A n c) none (some (.int .i64 j)) none).run Tryz.prog w=.ok (.slice A j c) w:=by
 rw[run_sliceAt_slice _ _ _ _ _ _ (by kernel_rfl),run_slice_h _ _ _ _ _ (by kernel_rfl) .i64 (j:Int) (by omega) (by omega)]
 have hs:(sizeOf (Tryz.prog.elem 45)).run Tryz.prog w=.ok 1 w:=by kernel_rfl
 rw[hs]
 have e:∀A:Option Addr,A.map (fun x=>x.add 0)=A:=fun A=>by
  cases A with
  | none=>rfl
  | some x=>simp[Addr.add]
 simp[Result.andThen,sliced,e]
end Go.Proofs.YtcgclkndkahgaaaGreat
namespace Go.Proofs.YtcgclkndkahgaaaGreat.Fl
open Ieee
def fl (n:Int):Nat:=floatOfInt .f64 n
def St (d:Datum) (n k:Nat):Prop:=d=.number false (n*2 ^ k) (-(k:Int))
theorem lp:double.leastPlace = -1074:=by decide
theorem fb:double.fractionBits=52:=rfl
end Go.Proofs.YtcgclkndkahgaaaGreat.Fl
namespace Go.Proofs.YtcgclkndkahgaaaGreat
set_option maxRecDepth 100000
set_option maxHeartbeats 40000000
open Go.RowKit
def pl (l c:Int):Value:=.complex .f64 (Fl.fl l) (Fl.fl c)
def okN (n:Int):Prop:=1≤n∧n≤1073741824
theorem zgM (l c:Int) (w:World) (hl:okN l) (hc:okN c) :
  Calls Tryz.prog 97 #[.int .i64 l,.int .i64 c] w fun e w'=>e=.returned (.complex .f64 (Fl.fl l) (Fl.fl c))∧w=w':=by
 have C2:∀n w,(convert 3 152 (.int .i64 n)).run Tryz.prog w=.ok (.float .f64 (Fl.fl n)) w:=fun n w=>run_convert_int_float w _ _ .i64 .f64 _ (by rw[Tryz.underlying3];rfl) Tryz.underlying152
 obtain⟨h1,h2⟩:=hl
 obtain⟨h3,h4⟩:=hc
 go_enter Tryz.func97,Tryz.ntmps97
 go_wp2_with (simp only[C2])
 go_ret
 exact⟨rfl,rfl⟩
namespace Pl
def stp (p:Int×Int) (z:Int):Int×Int:=if z=10 then(p.1+1,1) else(p.1,p.2+1)
def pos (l:List Int):Int×Int:=l.foldl stp (1,1)
theorem zf0 (l:List Int) (z:Int):pos (l++[z])=stp (pos l) z:=by unfold pos;rw[List.foldl_append];rfl
theorem pos_next (l:List Int) (k:Nat) (h:k<l.length):pos (l.take (k+1))=stp (pos (l.take k)) (l.getD k 0):=by rw[L.take_snoc l k h,zf0]
theorem pos_bd (l:List Int) (k:Nat) (h:k≤l.length):1≤(pos (l.take k)).1∧(pos (l.take k)).1≤1+k∧1≤(pos (l.take k)).2∧(pos (l.take k)).2≤1+k:=by
 induction k with
 | zero=>simp[pos]
 | succ k ih =>
  have:=ih (by omega)
  rw[pos_next l k (by omega)]
  unfold stp
  split <;> simp only <;> omega
end Pl
theorem zcc (A:Option Addr) (c B:Nat) (l:List Int) (i:Nat) (w:World) (hr:RdB w B A l) (hn:l.length≤2000) (hi:i≤l.length) :
  Calls Tryz.prog 76 #[.slice A l.length c,.int .i64 i] w fun e w'=>e=.returned (.complex .f64 (Fl.fl (Pl.pos (l.take i)).1) (Fl.fl (Pl.pos (l.take i)).2))∧w=w':=by
 have hi':¬(l.length:Int)<i:=by omega
 go_enter Tryz.func76,Tryz.ntmps76
 go_wp2
 go_loop [7,5,6] (fun vi vl vc=>∃(k:Nat),k≤i∧vi=.int .i64 k∧vl=.int .i64 (Pl.pos (l.take k)).1∧vc=.int .i64 (Pl.pos (l.take k)).2) (fun vi _ _=>i-(intOf vi).toNat)
 case atStart=>exact⟨0,by omega,rfl,rfl,rfl⟩
 case round =>
  obtain⟨k,hk,rfl,rfl,rfl⟩:=hrel
  have hb:=Pl.pos_bd l k (by omega)
  by_cases hlt:k<i
  ·obtain⟨g,o,rfl,_,hcl⟩:=hr (by omega)
   have hcell:=hcl k (by omega)
   have hnx:=aA (Pl.pos_next l k (by omega))
   have hkl:k<l.length:=by omega
   generalize l.getD k 0=z at *
   generalize Pl.pos (l.take k)=p at *
   obtain⟨x,y⟩:=p
   simp only at hb
   obtain⟨b1,b2,b3,b4⟩:=hb
   clear hcl
   by_cases h10:z=10
   ·subst h10
    go_wp2
    go_round
    case rel=>exact⟨k+1,by omega,by go_num,by rw[hnx.out];rfl,by rw[hnx.out];rfl⟩
    case measure=>simp[intOf];omega
   ·have h11:(z==10)=false:=by simpa using h10
    have HN:=aA h10
    clear h10
    go_wp2
    go_round
    case rel=>exact⟨k+1,by omega,by go_num,by rw[hnx.out];unfold Pl.stp;rw[if_neg HN.out],by rw[hnx.out];unfold Pl.stp;rw[if_neg HN.out]⟩
    case measure=>simp[intOf];omega
  ·obtain rfl:k=i:=by omega
   clear hr
   have HS:=aA (fun w=>zgM (Pl.pos (l.take k)).1 (Pl.pos (l.take k)).2 w (by unfold okN;omega) (by unfold okN;omega))
   clear hb
   go_wp2_with fail
   refine(HS.out _).mono ?_;rintro _ w' ⟨rfl,rfl⟩
   go_wp2
   go_ret
   exact⟨rfl,rfl⟩
namespace Pl
def go (p:Int×Int) (l:List Int):Int×Int:=l.foldl stp p
end Pl
theorem zic:(Tryz.prog.info? 116).map (fun i=>(i.zero,i.size,i.bytes))=some (some (.agg #[.int .i64 0,.string ⟨#[]⟩,.complex .f64 0 0]),3,40):=by kernel_rfl
def aQ (k:Int) (l:List Int):List Int:=if k=1∨k=2 then l else []
def aX:Obj:=.cells #[.int .i64 0,.string ⟨#[]⟩,.complex .f64 0 0] 116
structure Tok where
 k:Int
 t:List Int
 o:Nat
inductive Out where
 | ok:List Tok→Out
 | bad:Nat→Int→Out
def more (acc:List Tok) (k:Nat) (x:T.P3) (l:List Int):List Tok:=if x.1=0 then acc else acc++[⟨x.1,aQ x.1 (l.take x.2.1),k⟩]
def zbi (m:Nat) (x:T.P3):Nat:=if x.1=9 then m+1 else m
def zet:Nat→List Int→Nat→Nat→List Tok→Out
 | 0,_,_,_,acc=>.ok acc
 | f+1,l,k,m,acc=>if l.length=0∨m=2 then .ok acc else if(T.piece l).2.2≠0 then .bad k (T.piece l).2.2 else zet f (l.drop (T.piece l).2.1) (k+(T.piece l).2.1) (zbi m (T.piece l)) (more acc k (T.piece l) l)
theorem zdL (f:Nat) (l:List Int) (k m:Nat) (acc:List Tok) (h:l.length=0∨m=2):zet f l k m acc=.ok acc:=by
 cases f with
 | zero=>rfl
 | succ f=>unfold zet;rw[if_pos h]
theorem zdM (f:Nat) (l:List Int) (k m:Nat) (acc:List Tok) (h:¬(l.length=0∨m=2)) (hb:(T.piece l).2.2≠0):zet (f+1) l k m acc=.bad k (T.piece l).2.2:=by
 rw[zet,if_neg h,if_pos hb]
theorem zeP (f:Nat) (l:List Int) (k m:Nat) (acc:List Tok) (h:¬(l.length=0∨m=2)) (hb:(T.piece l).2.2=0):zet (f+1) l k m acc=zet f (l.drop (T.piece l).2.1) (k+(T.piece l).2.1) (zbi m (T.piece l)) (more acc k (T.piece l) l):=by
 rw[zet,if_neg h,if_neg (by simpa using hb)]
def zgH (l:List Int):Out:=zet (l.length+1) l 0 0 []
def zaB (L:List Int) (x:Tok):List Value:=[.int .i64 x.k,.string (K.str x.t),.complex .f64 (Fl.fl (Pl.pos (L.take x.o)).1) (Fl.fl (Pl.pos (L.take x.o)).2)]
theorem zeD (L:List Int) (xs:List Tok) (i j:Nat) (hi:i<xs.length) (hj:j<3):(xs.flatMap (zaB L))[i*3+j]?=(zaB L xs[i])[j]?:=by
 induction xs generalizing i with
 | nil=>simp at hi
 | cons x r ih =>
  rw[List.flatMap_cons]
  have hl:(zaB L x).length=3:=rfl
  cases i with
  | zero=>rw[List.getElem?_append_left (by omega)];simp
  | succ i =>
   rw[List.getElem?_append_right (by omega),hl,show(i+1)*3+j-3=i*3+j by omega]
   simpa using ih i (by simpa using hi)
def aZ (L:List Int) (w:World) (base:Nat) (v:Value) (xs:List Tok):Prop:=w.ownsRow base 116 3 v xs.length (xs.flatMap (zaB L))
theorem aZ.nil (L:List Int) (w:World) (base:Nat):aZ L w base (.slice none 0 0) []:=World.ownsRow_nil w base _ _
theorem aZ.alloc {L:List Int} {w:World} {base:Nat} {v:Value} {xs:List Tok} (h:aZ L w base v xs) (o:Obj):aZ L (w.alloc o) base v xs:=World.ownsRow.alloc h o
theorem aZ.drewN {L:List Int} {w:World} {base:Nat} {v:Value} {xs:List Tok} (h:aZ L w base v xs) (n:Nat):aZ L (w.drewN n) base v xs:=h
theorem aZ.below {L:List Int} {w w':World} {base B:Nat} {v:Value} {xs:List Tok} (h:aZ L w base v xs) (hb:Below B w w') (hB:w.heap.size≤B):aZ L w' base v xs:=by
 refine⟨h.1,?_⟩
 rcases h.2 with h0|⟨g,cap,cur,e,hb1,hg,hr⟩
 ·exact .inl h0
 ·exact .inr ⟨g,cap,cur,e,hb1,(hb.block g (Nat.lt_of_lt_of_le (Array.getElem?_eq_some_iff.1 hg).1 hB)).trans hg,hr⟩
theorem aZ.form {L:List Int} {w:World} {base:Nat} {v:Value} {xs:List Tok} (h:aZ L w base v xs):∃A c,v=.slice A xs.length c∧xs.length≤c∧c≤maxLen:=by
 rcases h.2 with⟨rfl,h0⟩|⟨g,cap,cur,rfl,hb,hg,hn,hm,hs,ht⟩
 ·exact⟨none,0,by rw[h0],by omega,by unfold maxLen;omega⟩
 ·exact⟨_,cap,rfl,hn,hm⟩
theorem aZ.addr {L:List Int} {w:World} {base:Nat} {v:Value} {xs:List Tok} (h:aZ L w base v xs) (h0:xs.length≠0):∃g c,v=.slice (some ⟨g,0,none⟩) xs.length c∧xs.length≤c∧c≤maxLen∧base≤g∧g<w.heap.size ∧
  ∀i j u,i<xs.length→j<3→(xs[i]?.map (zaB L)).bind (·[j]?)=some u→w.cell? ⟨g,i*3+j,none⟩=some u:=by
 rcases h.2 with⟨_,h1⟩|⟨g,cap,cur,rfl,hb,hg,hn,hm,hs,ht⟩
 ·exact absurd h1 h0
 ·refine⟨g,cap,rfl,hn,hm,hb,(Array.getElem?_eq_some_iff.1 hg).1,fun i j u hi hj hu=>?_⟩
  have hx:xs[i]?=some xs[i]:=List.getElem?_eq_getElem hi
  rw[hx]at hu
  have hc:=World.ownsRow.cells h (g:=g) rfl (i*3+j) u (by rw[zeD L xs i j hi hj];exact hu)
  rw[Go.WideShapes.add_plain,Nat.zero_add]at hc
  exact hc
theorem zbq {L:List Int} {B:Nat} {a w w':World} {v:Value} {xs:List Tok} (h:Below B a w) (ho:aZ L w B v xs) (hg:w.grownBy w' v.ownBlock) (hs:B≤w.heap.size):Below B a w' :=
 h.grown hg hs (fun k e=>(World.ownsRow.lt ho k e).1)
theorem zfA {w:World} {ops:Array Oper} {rest:List Oper} {o:Oper} {a:Act} {Q:Exit→Act→World→Prop}
  (hgd:o.guard=none) (s x:Operand) (t:TypeId) (ho:o.op=.call {callee:=.builtin .append,args:=#[s,x],argTypes:=#[t,t]}) (ht:Tryz.prog.underlying t=some (.slice 116))
  (L:List Int) (base:Nat) (v:Value) (xs:List Tok) (hs:a.eval s=v) (hown:aZ L w base v xs) (g c:Nat) (y:Tok) (hx:a.eval x=.slice (some ⟨g,0,none⟩) 1 c) (hz:∀j u,(zaB L y)[j]?=some u→w.cell? ⟨g,j,none⟩=some u)
  (hlen:xs.length≤1000000) (hbase:base≤w.heap.size)
  (hK:∀v' w',aZ L w' base v' (xs++[y])→w.grownBy w' v.ownBlock→wpList Tryz.prog ops Q rest (a.put o.dst v') w') :
  wpList Tryz.prog ops Q (o::rest) a w:=by
 obtain⟨i,hi,hz0,hz1,hz2⟩:=info_parts zic
 refine wpList_append_own w hgd s x t ho base 116 i _ 3 40 ht hi hz0 hz1 hz2 rfl (by decide) v xs.length (xs.flatMap (zaB L)) hs hown ⟨g,0,none⟩ 1 c (zaB L y) hx rfl ?_ ?_ (by unfold maxLen;omega) (by omega) hbase fun v' w' h1 h2 _=>hK v' w' ?_ h2
 ·intro j u hj
  rw[Go.WideShapes.add_plain,Nat.zero_add]
  exact hz j u hj
 ·intro u hu;simp[zaB]at hu;rcases hu with rfl|rfl|rfl <;> rfl
 ·unfold aZ
  rw[List.length_append,List.flatMap_append,List.flatMap_singleton];exact h1
end Go.Proofs.YtcgclkndkahgaaaGreat
namespace Go.Proofs.YtcgclkndkahgaaaGreat
set_option maxRecDepth 100000
set_option maxHeartbeats 40000000
namespace Y
inductive Res (α:Type) where
 | ok:α→List Tok→Res α
 | bad:Option Tok→Res α
def Res.bind {α β:Type} (r:Res α) (f:α→List Tok→Res β):Res β:=match r with | .ok a l=>f a l | .bad p=>.bad p
theorem bind_ok {α β:Type} (a:α) (l:List Tok) (f:α→List Tok→Res β):(Res.ok a l).bind f=f a l:=rfl
structure Dcl where
 k:Int
 ns:List Tok
structure Prd where
 l:Tok
 r:List Tok
 p:Option Tok
def is (ks:List Int):List Tok→Bool
 | []=>false
 | t::_=>ks.contains t.k
def take (ks:List Int):List Tok→Res Tok
 | []=>.bad none
 | t::r=>if ks.contains t.k then .ok t r else .bad (some t)
def isRef (t:Tok):Bool:=[(1:Int),2].contains t.k
def decl (ts:List Tok):Res Dcl:=(take [3,4,5,6,7] ts).bind fun t r=>if t.k=7 then(take [1] r).bind fun n r=>.ok ⟨7,[n]⟩ r else(take [1,2] r).bind fun n r=>.ok ⟨t.k,n::r.takeWhile isRef⟩ (r.dropWhile isRef)
def decls:Nat→List Dcl→List Tok→Res (List Dcl)
 | 0,acc,ts=>.ok acc ts
 | f+1,acc,ts=>if is [9] ts then .ok acc ts else(decl ts).bind fun d r=>decls f (acc++[d]) r
def rule2 (left:Tok) (rs r:List Tok):Res Prd:=if is [8] r then(take [8] r).bind fun _ r=>(take [1,2] r).bind fun p r=>.ok ⟨left,rs,some p⟩ r else .ok ⟨left,rs,none⟩ r
def rule (left:Tok) (ts:List Tok):Res Prd:=rule2 left (ts.takeWhile isRef) (ts.dropWhile isRef)
def alts:Nat→Tok→List Prd→List Tok→Res (List Prd)
 | 0,_,acc,ts=>.ok acc ts
 | f+1,left,acc,ts=>(rule left ts).bind fun p r=>(take [11,12] r).bind fun t r=>if t.k=11 then alts f left (acc++[p]) r else .ok (acc++[p]) r
def group (acc:List Prd) (ts:List Tok):Res (List Prd):=(take [1] ts).bind fun left r=>(take [10] r).bind fun _ r=>alts (r.length+1) left acc r
def zgA:Nat→List Prd→List Tok→Res (List Prd)
 | 0,acc,ts=>.ok acc ts
 | f+1,acc,ts=>if ts.length≠0∧is [9] ts=false then(group acc ts).bind fun ps r=>zgA f ps r else .ok acc ts
def zhn (ts:List Tok):Res Unit:=if ts.length=0 then .ok () ts else(take [] ts).bind fun _ r=>.ok () r
def tail (ts:List Tok):Res Unit:=if is [9] ts then(take [9] ts).bind fun _ r=>zhn r else zhn ts
def source (ts:List Tok):Res (List Dcl×List Prd):=(decls (ts.length+1) [] ts).bind fun ds r=>(take [9] r).bind fun _ r=>(group [] r).bind fun ps r=>(zgA (r.length+1) ps r).bind fun ps r=>(tail r).bind fun _ r=>.ok (ds,ps) r
theorem take_cons (ks:List Int) (x:Tok) (xs:List Tok):take ks (x::xs)=if ks.contains x.k then .ok x xs else .bad (some x):=rfl
theorem take_ok {ks:List Int} {ts:List Tok} {t:Tok} {r:List Tok} (h:take ks ts=.ok t r):ts=t::r∧ks.contains t.k=true:=by
 cases ts with
 | nil=>cases h
 | cons x xs =>
  rw[take_cons]at h
  by_cases hx:ks.contains x.k=true
  ·rw[if_pos hx]at h;injection h with h1 h2;subst h1 h2;exact⟨rfl,hx⟩
  ·rw[if_neg hx]at h;cases h
theorem is_true {ks:List Int} {ts:List Tok} (h:is ks ts=true):∃t r,ts=t::r∧take ks ts=.ok t r∧ks.contains t.k=true:=by
 cases ts with
 | nil=>cases h
 | cons x xs=>exact⟨x,xs,rfl,by rw[take_cons,if_pos (show ks.contains x.k=true from h)],h⟩
theorem refs_end {ts:List Tok} (h:is [1,2] ts=false):ts.takeWhile isRef=[]∧ts.dropWhile isRef=ts:=by
 cases ts with
 | nil=>exact⟨rfl,rfl⟩
 | cons t r =>
  have h':isRef t=false:=h
  rw[List.takeWhile_cons,List.dropWhile_cons,h']
  exact⟨rfl,rfl⟩
theorem bind_eq_ok {α β:Type} {x:Res α} {f:α→List Tok→Res β} {b:β} {r:List Tok} (h:x.bind f=.ok b r):∃a m,x=.ok a m∧f a m=.ok b r:=by
 cases x with
 | ok a m=>exact⟨a,m,rfl,h⟩
 | bad p=>cases h
end Y
namespace Gm
inductive R (α:Type) where
 | ok:α→R α
 | bad:Tok→Int→R α
def R.bind {α β:Type} (r:R α) (f:α→R β):R β:=match r with | .ok a=>f a | .bad x e=>.bad x e
theorem R.bind_ok {α β:Type} (a:α) (f:α→R β):(R.ok a).bind f=f a:=rfl
theorem R.bind_eq {α β:Type} {x:R α} {f:α→R β} {b:β} (h:x.bind f=.ok b):∃a,x=.ok a∧f a=.ok b:=by
 cases x with
 | ok a=>exact⟨a,rfl,h⟩
 | bad x e=>cases h
def put (ts:List Tm) (x:Tok):R (List Tm×Int) :=
 if 0≤find (names ts) x.t then .ok (ts,find (names ts) x.t) else if ts.length=24 then .bad x 5 else .ok (ts++[⟨x.t,0,0⟩],ts.length)
structure S1 where
 ts:List Tm
 tk:List (List Int)
 st:Option Tok
 lv:Int
def decl1 (k:Int) (S:S1) (x:Tok):R S1 :=
 if k=7 then(if S.st.isSome then .bad x 7 else .ok {S with st:=some x})
 else if k=3 then(if x.t∈S.tk then .bad x 7 else(put S.ts x).bind fun p=>.ok {S with ts:=p.1,tk:=S.tk++[x.t]})
 else if 0≤find (names S.ts) x.t∧0<(S.ts.map Tm.lv).getD (find (names S.ts) x.t).toNat 0 then .bad x 7
 else(put S.ts x).bind fun p=>.ok {S with ts:=p.1.modify p.2.toNat fun t=>⟨t.nm,S.lv,k-3⟩}
def declN (k:Int):S1→List Tok→R S1
 | S,[]=>.ok S
 | S,x::r=>(decl1 k S x).bind fun S=>declN k S r
def up (k:Int) (S:S1):S1:=if k=3∨k=7 then S else {S with lv:=S.lv+1}
def decls:S1→List Y.Dcl→R S1
 | S,[]=>.ok S
 | S,d::r=>(declN d.k (up d.k S) d.ns).bind fun S=>decls S r
def left1 (ts:List Tm) (ns:List (List Int)) (x:Tok):R (List (List Int)) :=
 if 0≤find (names ts) x.t then .bad x 7 else if 0≤find ns x.t then .ok ns else if ns.length=16 then .bad x 5 else .ok (ns++[x.t])
def lefts (ts:List Tm):List (List Int)→List Y.Prd→R (List (List Int))
 | ns,[]=>.ok ns
 | ns,p::r=>(left1 ts ns p.l).bind fun ns=>lefts ts ns r
def sym (ts:List Tm) (x:Tok):R (List Tm×Int) :=
 if 0≤find (names ts) x.t∨T.isLit x.t=true∨x.t=[101,114,114,111,114] then put ts x else .bad x 6
def symR (ns:List (List Int)) (ts:List Tm) (x:Tok):R (List Tm×Int):=if 0≤find ns x.t then .ok (ts,-1-find ns x.t) else sym ts x
def symP (ns:List (List Int)) (ts:List Tm) (x:Tok):R (List Tm×Int):=if 0≤find ns x.t then .bad x 6 else sym ts x
def rights (ns:List (List Int)):List Tm→List Int→Int→List Tok→R (List Tm×List Int×Int)
 | ts,acc,p,[]=>.ok (ts,acc,p)
 | ts,acc,p,x::r=>if acc.length=6 then .bad x 5 else(symR ns ts x).bind fun q=>rights ns q.1 (acc++[q.2]) (if 0≤q.2 then q.2 else p) r
def prod1 (ns:List (List Int)) (ts:List Tm) (rs:List Rl) (p:Y.Prd):R (List Tm×List Rl) :=
 if rs.length=40 then .bad p.l 5 else(rights ns ts [] (-1) p.r).bind fun q=>match p.p with
  | none=>.ok (q.1,rs++[⟨find ns p.l.t,q.2.1,q.2.2⟩])
  | some x=>(symP ns q.1 x).bind fun y=>.ok (y.1,rs++[⟨find ns p.l.t,q.2.1,y.2⟩])
def prods (ns:List (List Int)):List Tm→List Rl→List Y.Prd→R (List Tm×List Rl)
 | ts,rs,[]=>.ok (ts,rs)
 | ts,rs,p::r=>(prod1 ns ts rs p).bind fun q=>prods ns q.1 q.2 r
def start (ns:List (List Int)):Option Tok→R Int
 | none=>.ok 0
 | some x=>if 0≤find ns x.t then .ok (find ns x.t) else .bad x 8
def build (ds:List Y.Dcl) (ps:List Y.Prd):R Gr :=
 (decls ⟨[],[],none,0⟩ ds).bind fun S=>(lefts S.ts [] ps).bind fun ns=>(prods ns S.ts [] ps).bind fun q=>(start ns S.st).bind fun z=>.ok ⟨q.1,ns,q.2,z⟩
end Gm
namespace Gm
theorem zbO (ts:List Tm):(names ts).length=ts.length:=by simp[names]
theorem put_ok {ts ts':List Tm} {x:Tok} {n:Int} (h:put ts x=.ok (ts',n)):(∃j:Nat,find (names ts) x.t=(j:Int)∧ts'=ts∧n=(j:Int)∧∃hj:j<ts.length,(ts[j]).nm=x.t)∨(x.t ∉ names ts∧ts'=ts++[⟨x.t,0,0⟩]∧n=(ts.length:Int)∧ts.length≠24):=by
 unfold put at h
 split at h
 ·rename_i h0
  injection h with h
  injection h with h1 h2
  obtain⟨i,e,hi,hs⟩:=zfr h0
  rw[zbO]at hi
  exact .inl ⟨i,e,h1.symm,by rw[←h2,e],hi,by simpa[names] using hs⟩
 ·rename_i h0
  split at h
  ·cases h
  ·rename_i h24
   injection h with h
   injection h with h1 h2
   exact .inr ⟨zaF.1 (by omega),h1.symm,h2.symm,h24⟩
theorem mem_modify {l:List Tm} {n:Nat} {f:Tm→Tm} {t:Tm} (h:t∈l.modify n f):t∈l ∨ ∃hn:n<l.length,t=f l[n]:=by
 obtain⟨i,hi,rfl⟩:=List.getElem_of_mem h
 rw[List.length_modify]at hi
 rw[List.getElem_modify]
 split
 ·rename_i e;subst e;exact .inr ⟨hi,rfl⟩
 ·exact .inl (List.getElem_mem _)
theorem few:∀(L:Nat) (ts:List Tm),(∀n:Nat,1≤n→n≤L→∃t∈ts,t.lv=(n:Int))→L≤ts.length
 | 0,_,_=>Nat.zero_le _
 | L+1,ts,h=>by
  obtain⟨t,ht,e⟩:=h (L+1) (by omega) (by omega)
  obtain⟨a,b,rfl⟩:=List.append_of_mem ht
  have:=few L (a++b) (fun n h1 h2=>by
   obtain⟨u,hu,eu⟩:=h n h1 (by omega)
   refine⟨u,?_,eu⟩
   simp only[List.mem_append,List.mem_cons]at hu ⊢
   rcases hu with q|q|q
   ·exact .inl q
   ·subst q;omega
   ·exact .inr q)
  simp at this ⊢
  omega
theorem zcA {n w:Int} (hw:w≠0):∀(ts:List Tm) (way:Int),(∀t∈ts,t.lv=n→t.wy=w)→way=0∨way=w→way=w∨(∃t∈ts,t.lv=n)→lev n ts way=true
 | [],way,_,_,h=>by
  unfold lev
  rcases h with h|⟨t,ht,_⟩
  ·subst h;simpa using hw
  ·simp at ht
 | t::r,way,h1,h2,h3=>by
  rw[lev]
  by_cases hl:t.lv=n
  ·have e:=h1 t (List.mem_cons_self ..) hl
   rw[if_neg (show ¬t.lv≠n from fun q=>q hl),if_neg (show ¬(way≠0∧way≠t.wy) from fun q=>by rcases h2 with p|p;exact q.1 p;exact q.2 (p.trans e.symm))]
   exact zcA hw r t.wy (fun u hu=>h1 u (List.mem_cons_of_mem _ hu)) (.inr e) (.inl e)
  ·rw[if_pos hl]
   refine zcA hw r way (fun u hu=>h1 u (List.mem_cons_of_mem _ hu)) h2 ?_
   rcases h3 with h3|⟨u,hu,eu⟩
   ·exact .inl h3
   ·rcases List.mem_cons.1 hu with q|q
    ·subst q;exact absurd eu hl
    ·exact .inr ⟨u,q,eu⟩
theorem zda {l:List (List Int)} (hn:l.Nodup) (i:Nat) (hi:i<l.length):find l l[i]=(i:Int) :=
 find_first i hi rfl fun k hk=>fun e=>List.pairwise_iff_getElem.1 hn k i (by omega) hi hk e
end Gm
namespace Gm
def zfI (n:Nat):List Int→Int→Bool
 | [],top=>top==n-1
 | l::r,top=>if l<0∨top+1<l then false else zfI n r (if top<l then l else top)
theorem left1_ok {ts:List Tm} {ns ns':List (List Int)} {x:Tok} (h:left1 ts ns x=.ok ns'):(ns'=ns∧0≤find ns x.t)∨(ns'=ns++[x.t]∧x.t ∉ ns∧x.t ∉ names ts∧ns.length≠16):=by
 unfold left1 at h
 split at h
 ·cases h
 ·rename_i h1
  split at h
  ·rename_i h2
   injection h with h
   exact .inl ⟨h.symm,h2⟩
  ·rename_i h2
   split at h
   ·cases h
   ·rename_i h3
    injection h with h
    exact .inr ⟨h.symm,zaF.1 (by omega),zaF.1 (by omega),h3⟩
theorem zb8 (G:Gr):∀(rs:List Rl) (top:Int),(∀r∈rs,rule G r=true)→zfI G.ns.length (rs.map Rl.l) top=true→rules G rs top=true
 | [],_,_,h=>h
 | r::rs,top,hr,h=>by
  rw[List.map_cons,zfI]at h
  rw[rules]
  split at h
  ·cases h
  ·rename_i h1
   rw[if_neg (by rw[hr r (List.mem_cons_self ..)];simp;omega)]
   exact zb8 G rs _ (fun y hy=>hr y (List.mem_cons_of_mem _ hy)) h
end Gm
end Go.Proofs.YtcgclkndkahgaaaGreat
namespace Go.Proofs.YtcgclkndkahgaaaGreat
set_option maxRecDepth 100000
set_option maxHeartbeats 40000000
open Go.RowKit
namespace Gm
theorem zdr:∀(g:Nat) (l:List Int),l.Nodup→(∀x∈l,1≤x∧x≤g)→l.length≤g∧(l.length=g→∀n:Nat,1≤n→n≤g→(n:Int)∈l)
 | 0,l,_,hb=>by
  have:l=[]:=by
   rcases l with _|⟨x,r⟩
   ·rfl
   ·have:=hb x (by simp);omega
  subst this
  exact⟨Nat.le_refl _,fun _ n h1 h2=>by omega⟩
 | g+1,l,hn,hb=>by
  by_cases hm:((g+1:Nat):Int)∈l
  ·have hl:=List.length_erase_of_mem hm
   have hpos:0<l.length:=List.length_pos_of_mem hm
   obtain⟨h1,h2⟩:=zdr g (l.erase ((g+1:Nat):Int)) (hn.erase _) (fun x hx=>by
    have hx':=(hn.mem_erase_iff).1 hx
    have:=hb x hx'.2
    have:=hx'.1
    omega)
   refine⟨by omega,fun e n q1 q2=>?_⟩
   by_cases hg:n=g+1
   ·subst hg;exact hm
   ·exact List.mem_of_mem_erase (h2 (by omega) n q1 (by omega))
  ·obtain⟨h1,_⟩:=zdr g l hn (fun x hx=>by
    have:=hb x hx
    have:x≠((g+1:Nat):Int):=fun e=>hm (e▸hx)
    omega)
   exact⟨by omega,fun e=>by omega⟩
structure LvGood (ts:List Tm):Prop where
 a:∀t∈ts,asB t=true
 b:∀t∈ts,∀u∈ts,0<t.lv→t.lv=u.lv→t.wy=u.wy
 c:∀t∈ts,∀n:Nat,1≤n→(n:Int)≤t.lv→∃u∈ts,u.lv=(n:Int)
theorem zcI (t:Tm):asB t=true↔0≤t.lv∧0≤t.wy∧t.wy≤3∧(t.lv=0↔t.wy=0):=by
 unfold asB
 by_cases h0:t.wy=0
 ·rw[if_pos h0]
  simp only[beq_iff_eq]
  omega
 ·rw[if_neg h0]
  by_cases h1:t.wy=1∨t.wy=2∨t.wy=3
  ·rw[if_pos h1]
   simp only[decide_eq_true_eq]
   omega
  ·rw[if_neg h1]
   simp only[Bool.false_eq_true,false_iff]
   omega
structure Inv (pre:List Tm) (m:List (Int×Int)) (g:Int):Prop where
 n:(m.map Prod.fst).Nodup
 f:∀t∈pre,0<t.lv→Mw.asc m t.lv=some t.wy
 r:∀l w,Mw.asc m l=some w→0<l∧∃t∈pre,t.lv=l∧t.wy=w
 a:∀t∈pre,asB t=true
 g0:0≤g
 g1:∀t∈pre,t.lv≤g
 g2:g=0 ∨ ∃t∈pre,t.lv=g
theorem Inv.nil:Inv [] [] 0:=⟨by simp,by simp,fun _ _ h=>by simp[Mw.asc]at h,by simp,Int.le_refl _,by simp,.inl rfl⟩
theorem Inv.key {pre:List Tm} {m:List (Int×Int)} {g:Int} (h:Inv pre m g) {x:Int} (hx:x∈m.map Prod.fst):∃w,Mw.asc m x=some w:=by
 obtain⟨p,hp,rfl⟩:=List.mem_map.1 hx
 exact⟨p.2,Mw.asc_of_mem h.n hp⟩
theorem Inv.next {pre:List Tm} {m:List (Int×Int)} {g:Int} {t:Tm} (h:Inv pre m g) (ha:asB t=true) (hc:¬((Mw.asc m t.lv).isSome=true∧(Mw.asc m t.lv).getD 0≠t.wy)):Inv (pre++[t]) (zc3 m t) (max g t.lv):=by
 have hl:=((zcI t).1 ha).1
 have hmem:∀u,u∈pre++[t]↔u∈pre∨u=t:=fun u=>by simp
 have hg0:=h.g0
 have hgg:0≤max g t.lv∧(∀u∈pre++[t],u.lv≤max g t.lv)∧(max g t.lv=0 ∨ ∃u∈pre++[t],u.lv=max g t.lv):=by
  refine⟨by omega,fun u hu=>?_,?_⟩
  ·rcases(hmem u).1 hu with q|rfl
   ·have:=h.g1 u q;omega
   ·omega
  ·by_cases hgt:g≤t.lv
   ·exact .inr ⟨t,(hmem t).2 (.inr rfl),by omega⟩
   ·rcases h.g2 with q|⟨u,hu,e⟩
    ·omega
    ·exact .inr ⟨u,(hmem u).2 (.inl hu),by omega⟩
 have haa:∀u∈pre++[t],asB u=true:=fun u hu=>by
  rcases(hmem u).1 hu with q|rfl
  ·exact h.a u q
  ·exact ha
 unfold zc3
 by_cases hp:0<t.lv
 ·rw[if_pos hp]
  cases hq:Mw.asc m t.lv with
  | none =>
   rw[if_pos rfl]
   refine⟨?_,?_,?_,haa,hgg.1,hgg.2.1,hgg.2.2⟩
   ·rw[List.map_append,List.nodup_append]
    refine⟨h.n,by simp,fun x hx y hy e=>?_⟩
    simp only[List.map_cons,List.map_nil,List.mem_singleton]at hy
    obtain⟨w,hw⟩:=h.key hx
    rw[e,hy,hq]at hw;cases hw
   ·intro u hu h0
    rw[Mw.asc_snoc hq]
    rcases(hmem u).1 hu with q|rfl
    ·have:=h.f u q h0
     by_cases e:t.lv=u.lv
     ·rw[←e,hq]at this;cases this
     ·rw[if_neg e];exact this
    ·rw[if_pos rfl]
   ·intro l w hw
    rw[Mw.asc_snoc hq]at hw
    by_cases e:t.lv=l
    ·rw[if_pos e]at hw
     injection hw with hw
     exact⟨by omega,t,(hmem t).2 (.inr rfl),e,hw⟩
    ·rw[if_neg e]at hw
     obtain⟨h1,u,hu,h2⟩:=h.r l w hw
     exact⟨h1,u,(hmem u).2 (.inl hu),h2⟩
  | some w =>
   rw[if_neg (by simp)]
   have hwt:w=t.wy:=Classical.byContradiction fun e=>hc (by rw[hq];exact⟨rfl,e⟩)
   refine⟨h.n,?_,?_,haa,hgg.1,hgg.2.1,hgg.2.2⟩
   ·intro u hu h0
    rcases(hmem u).1 hu with q|rfl
    ·exact h.f u q h0
    ·rw[hq,hwt]
   ·intro l w hw
    obtain⟨h1,u,hu,h2⟩:=h.r l w hw
    exact⟨h1,u,(hmem u).2 (.inl hu),h2⟩
 ·rw[if_neg hp]
  refine⟨h.n,?_,?_,haa,hgg.1,hgg.2.1,hgg.2.2⟩
  ·intro u hu h0
   rcases(hmem u).1 hu with q|rfl
   ·exact h.f u q h0
   ·exact absurd h0 hp
  ·intro l w hw
   obtain⟨h1,u,hu,h2⟩:=h.r l w hw
   exact⟨h1,u,(hmem u).2 (.inl hu),h2⟩
theorem ze0:∀(r pre:List Tm) (m:List (Int×Int)) (g:Int),Inv pre m g→(rlF r m g=true↔LvGood (pre++r))
 | [],pre,m,g,h=>by
  rw[List.append_nil,rlF,beq_iff_eq]
  have hin:∀x∈m.map Prod.fst,1≤x∧x≤(g.toNat:Int):=fun x hx=>by
   obtain⟨w,hw⟩:=h.key hx
   obtain⟨h1,u,hu,h2,_⟩:=h.r x w hw
   have:=h.g1 u hu
   have:=h.g0
   omega
  obtain⟨p1,p2⟩:=zdr g.toNat (m.map Prod.fst) h.n hin
  rw[List.length_map]at p1 p2
  have hg0:=h.g0
  constructor
  ·intro e
   refine⟨h.a,fun t ht u hu h0 e'=>?_,fun t ht n q1 q2=>?_⟩
   ·have a1:=h.f t ht h0
    have a2:=h.f u hu (by omega)
    rw[e',a2]at a1
    injection a1 with a1
    exact a1.symm
   ·have:=h.g1 t ht
    have hk:=p2 (by omega) n q1 (by omega)
    obtain⟨w,hw⟩:=h.key hk
    obtain⟨_,u,hu,h2,_⟩:=h.r _ w hw
    exact⟨u,hu,h2⟩
  ·intro hgd
   rcases h.g2 with q|⟨t,ht,e⟩
   ·omega
   ·have:g.toNat≤(m.map Prod.fst).length:=by
     have hh:∀n:Nat,1≤n→n≤g.toNat→∃t∈m.map (fun p=>(⟨[],p.1,0⟩:Tm)),t.lv=(n:Int):=fun n q1 q2=>by
      obtain⟨u,hu,e2⟩:=hgd.c t ht n q1 (by omega)
      have:=h.f u hu (by omega)
      rw[e2]at this
      exact⟨_,List.mem_map.2 ⟨_,Mw.asc_mem this,rfl⟩,rfl⟩
     have:=few g.toNat _ hh
     simpa using this
    rw[List.length_map]at this
    omega
 | t::r,pre,m,g,h=>by
  rw[rlF]
  by_cases ha:asB t=false
  ·rw[if_pos ha]
   simp only[Bool.false_eq_true,false_iff]
   intro q
   have:=q.a t (by simp)
   rw[ha]at this;cases this
  ·rw[if_neg ha]
   have ha:asB t=true:=by simpa using ha
   by_cases hc:(Mw.asc m t.lv).isSome=true∧(Mw.asc m t.lv).getD 0≠t.wy
   ·rw[if_pos hc]
    simp only[Bool.false_eq_true,false_iff]
    intro q
    cases hq:Mw.asc m t.lv with
    | none=>rw[hq]at hc;simp at hc
    | some w =>
     rw[hq]at hc
     obtain⟨h1,u,hu,h2,h3⟩:=h.r _ w hq
     have:=q.b u (by simp[hu]) t (by simp) (by omega) h2
     exact hc.2 (by simp only[Option.getD_some];omega)
   ·rw[if_neg hc,ze0 r (pre++[t]) _ _ (h.next ha hc),List.append_assoc,List.singleton_append]
theorem zcB {n:Int}:∀(ts:List Tm) (way:Int),(∀t∈ts,t.lv=n→t.wy≠0)→lev n ts way=true→(way≠0 ∨ ∃t∈ts,t.lv=n)∧∃w,(way=0∨way=w)∧∀t∈ts,t.lv=n→t.wy=w
 | [],way,_,h=>by
  rw[lev]at h
  have:way≠0:=by simpa using h
  exact⟨.inl this,way,.inr rfl,by simp⟩
 | t::r,way,hn,h=>by
  rw[lev]at h
  by_cases h1:t.lv≠n
  ·rw[if_pos h1]at h
   obtain⟨a,w,b,c⟩:=zcB r way (fun u hu=>hn u (by simp[hu])) h
   refine⟨?_,w,b,fun u hu e=>?_⟩
   ·rcases a with a|⟨u,hu,e⟩
    ·exact .inl a
    ·exact .inr ⟨u,by simp[hu],e⟩
   ·rcases List.mem_cons.1 hu with rfl|hu
    ·exact absurd e h1
    ·exact c u hu e
  ·rw[if_neg h1]at h
   have h1:t.lv=n:=Classical.byContradiction h1
   by_cases h2:way≠0∧way≠t.wy
   ·rw[if_pos h2]at h;cases h
   ·rw[if_neg h2]at h
    obtain⟨a,w,b,c⟩:=zcB r t.wy (fun u hu=>hn u (by simp[hu])) h
    have hw:t.wy=w:=by
     rcases b with b|b
     ·exact absurd b (hn t (by simp) h1)
     ·exact b
    refine⟨.inr ⟨t,by simp,h1⟩,w,?_,fun u hu e=>?_⟩
    ·by_cases hw0:way=0
     ·exact .inl hw0
     ·refine .inr (Classical.byContradiction fun q=>h2 ⟨hw0,fun e=>q (e.trans hw)⟩)
    ·rcases List.mem_cons.1 hu with rfl|hu
     ·exact hw
     ·exact c u hu e
def zhZ (ts:List Tm):Prop:=∀t∈ts,0≤t.lv∧t.lv≤24∧0≤t.wy∧t.wy≤3∧(t.lv=0↔t.wy=0)∧∀n:Nat,n<t.lv.toNat→lev ((n+1:Nat):Int) ts 0=true
theorem zgy {ts:List Tm} (hl:ts.length≤24):LvGood ts↔zhZ ts:=by
 constructor
 ·intro h t ht
  have ha:=(zcI t).1 (h.a t ht)
  have h24:t.lv.toNat≤ts.length:=few t.lv.toNat ts fun n q1 q2=>h.c t ht n q1 (by omega)
  refine⟨ha.1,by omega,ha.2.1,ha.2.2.1,ha.2.2.2,fun n hn=>?_⟩
  obtain⟨u,hu,e⟩:=h.c t ht (n+1) (by omega) (by omega)
  have hau:=(zcI u).1 (h.a u hu)
  exact zcA (w:=u.wy) (by omega) ts 0 (fun x hx ex=>(h.b u hu x hx (by omega) (by omega)).symm) (.inl rfl) (.inr ⟨u,hu,e⟩)
 ·intro h
  refine⟨fun t ht=>(zcI t).2 ?_,fun t ht u hu h0 e=>?_,fun t ht n q1 q2=>?_⟩
  ·obtain⟨h1,h2,h3,h4,h5,_⟩:=h t ht
   exact⟨h1,h3,h4,h5⟩
  ·obtain⟨h1,h2,h3,h4,h5,h6⟩:=h t ht
   have hl:=h6 (t.lv.toNat-1) (by omega)
   have hn:((t.lv.toNat-1+1:Nat):Int)=t.lv:=by omega
   rw[hn]at hl
   obtain⟨_,w,_,c⟩:=zcB ts 0 (fun x hx ex q=>by have:=(h x hx).2.2.2.2.1;omega) hl
   rw[c t ht rfl,c u hu e.symm]
  ·obtain⟨h1,h2,h3,h4,h5,h6⟩:=h t ht
   have hl:=h6 (n-1) (by omega)
   have hn:((n-1+1:Nat):Int)=(n:Int):=by omega
   rw[hn]at hl
   obtain⟨a,_⟩:=zcB ts 0 (fun x hx ex q=>by have:=(h x hx).2.2.2.2.1;omega) hl
   rcases a with a|a
   ·exact absurd rfl a
   ·exact a
theorem zci {l:List (List Int)} (h:∀i (hi:i<l.length),find l l[i]=(i:Int)):l.Nodup:=by
 rw[List.nodup_iff_pairwise_ne,List.pairwise_iff_getElem]
 intro i j hi hj hij e
 have h1:=h i hi
 have h2:=h j hj
 rw[e,h2]at h1
 omega
theorem zeC (ts:List Tm):terms ts=true↔ts.length≤24∧(∀t∈ts,named t.nm=true)∧(names ts).Nodup∧zhZ ts:=by
 unfold terms
 rw[Bool.and_eq_true,decide_eq_true_eq,decide_eq_true_eq]
 have hnl:(names ts).length=ts.length:=zbO ts
 have hni:∀i (h:i<ts.length),(names ts)[i]'(by omega)=ts[i].nm:=fun i h=>by simp[names]
 constructor
 ·rintro⟨h1,h2⟩
  have h3:∀i (h:i<ts.length),named ts[i].nm=true∧find (names ts) ts[i].nm=(i:Int)∧0≤ts[i].lv∧ts[i].lv≤24∧0≤ts[i].wy∧ts[i].wy≤3∧(ts[i].lv=0↔ts[i].wy=0)∧∀n:Nat,n<ts[i].lv.toNat→lev ((n+1:Nat):Int) ts 0=true:=fun i h=>by
   have:=h2 i h
   unfold term1 at this
   simp only[Bool.and_eq_true,decide_eq_true_eq,beq_iff_eq]at this
   obtain⟨⟨⟨⟨⟨⟨⟨a,b⟩,c⟩,d⟩,e⟩,f⟩,g⟩,k⟩:=this
   refine⟨a,b,c,d,e,f,?_,k⟩
   rw[Bool.eq_iff_iff,beq_iff_eq,beq_iff_eq]at g
   exact g
  refine⟨h1,fun t ht=>?_,zci fun i hi=>?_,fun t ht=>?_⟩
  ·obtain⟨i,hi,rfl⟩:=List.getElem_of_mem ht;exact(h3 i hi).1
  ·rw[hni i (by omega)];exact(h3 i (by omega)).2.1
  ·obtain⟨i,hi,rfl⟩:=List.getElem_of_mem ht;exact(h3 i hi).2.2
 ·rintro⟨h1,h2,h3,h4⟩
  refine⟨h1,fun i hi=>?_⟩
  unfold term1
  simp only[Bool.and_eq_true,decide_eq_true_eq,beq_iff_eq]
  obtain⟨c,d,e,f,g,k⟩:=h4 _ (List.getElem_mem hi)
  refine⟨⟨⟨⟨⟨⟨⟨h2 _ (List.getElem_mem hi),?_⟩,c⟩,d⟩,e⟩,f⟩,?_⟩,k⟩
  ·rw[←hni i hi];exact zda h3 i (by omega)
  ·rw[Bool.eq_iff_iff,beq_iff_eq,beq_iff_eq];exact g
theorem nons_iff (G:Gr):nons G=true↔1≤G.ns.length∧G.ns.length≤16∧(∀s∈G.ns,T.isName s=true)∧G.ns.Nodup∧∀s∈G.ns,s ∉ names G.ts:=by
 unfold nons
 rw[Bool.and_eq_true,Bool.and_eq_true,decide_eq_true_eq,decide_eq_true_eq,decide_eq_true_eq]
 constructor
 ·rintro⟨⟨h1,h2⟩,h3⟩
  have h4:∀i (h:i<G.ns.length),T.isName G.ns[i]=true∧find G.ns G.ns[i]=(i:Int)∧find (names G.ts) G.ns[i]<0:=fun i h=>by
   have:=h3 i h
   unfold non1 non term at this
   simp only[Bool.and_eq_true,decide_eq_true_eq,beq_iff_eq]at this
   exact⟨this.1.1,this.1.2,this.2⟩
  refine⟨h1,h2,fun s hs=>?_,zci fun i hi=>(h4 i hi).2.1,fun s hs=>?_⟩
  ·obtain⟨i,hi,rfl⟩:=List.getElem_of_mem hs;exact(h4 i hi).1
  ·obtain⟨i,hi,rfl⟩:=List.getElem_of_mem hs;exact zaF.1 (h4 i hi).2.2
 ·rintro⟨h1,h2,h3,h4,h5⟩
  refine⟨⟨h1,h2⟩,fun i hi=>?_⟩
  unfold non1 non term
  simp only[Bool.and_eq_true,decide_eq_true_eq,beq_iff_eq]
  exact⟨⟨h3 _ (List.getElem_mem hi),zda h4 i hi⟩,zaF.2 (h5 _ (List.getElem_mem hi))⟩
theorem zhq (G:Gr):rnB G=true↔G.ts.length≤24∧1≤G.ns.length∧G.ns.length≤16∧(∀t∈G.ts,named t.nm=true)∧(∀s∈G.ns,T.isName s=true)∧(names G.ts++G.ns).Nodup:=by
 unfold rnB nmL
 simp only[Bool.and_eq_true,decide_eq_true_eq,List.all_eq_true,List.length_map]
 have h:=(zhU [] (names G.ts++G.ns) (by simp)).2
 simp only[List.length_nil,Nat.zero_add,List.nil_append,List.length_append,zbO]at h
 rw[h]
 constructor
 ·rintro⟨⟨⟨⟨⟨a,b⟩,c⟩,d⟩,e⟩,f⟩;exact⟨a,b,c,d,e,f⟩
 ·rintro⟨a,b,c,d,e,f⟩;exact⟨⟨⟨⟨⟨a,b⟩,c⟩,d⟩,e⟩,f⟩
theorem zh7 (G:Gr) (x:Rl):ruB G x=rule G x:=by
 rw[Bool.eq_iff_iff]
 unfold ruB rule
 have hn:x.r.any (zbh G)=false ↔ ∀z∈x.r,has G z=true:=by
  rw[List.any_eq_false]
  unfold zbh
  constructor
  ·intro h z hz;have:=h z hz;simpa using this
  ·intro h z hz;rw[h z hz];simp
 have ht:x.r.any isT=false ↔ ∀z∈x.r,¬0≤z:=by
  rw[List.any_eq_false]
  unfold isT
  constructor
  ·intro h z hz;simpa using h z hz
  ·intro h z hz;simpa using h z hz
 simp only[Bool.and_eq_true,decide_eq_true_eq,Bool.not_eq_true',List.all_eq_true,hn]
 by_cases hp:x.p = -1
 ·rw[if_pos hp]
  simp only[Bool.not_eq_true',ht,hp,beq_self_eq_true,Bool.and_true,decide_eq_false_iff_not]
  constructor
  ·rintro⟨⟨a,b⟩,c⟩;exact⟨⟨⟨a,by omega⟩,by omega⟩,fun z hz=>⟨b z hz,c z hz⟩⟩
  ·rintro⟨⟨⟨a,_⟩,_⟩,b⟩;exact⟨⟨a,fun z hz=>(b z hz).1⟩,fun z hz=>(b z hz).2⟩
 ·rw[if_neg hp]
  have hp':(x.p == -1)=false:=by simpa using hp
  simp only[hp',Bool.and_false,and_true,Bool.and_eq_true]
  unfold isT has
  rw[decide_eq_true_eq]
  constructor
  ·rintro⟨⟨a,b⟩,c,d⟩
   rw[if_pos c,decide_eq_true_eq]at d
   exact⟨⟨⟨a,by omega⟩,d⟩,b⟩
  ·rintro⟨⟨⟨a,b⟩,c⟩,d⟩
   have h0:0≤x.p:=by omega
   exact⟨⟨a,d⟩,h0,by rw[if_pos h0,decide_eq_true_eq];exact c⟩
theorem zhp (G:Gr):∀(rs:List Rl) (top:Int),rrF G rs (top+1)=rules G rs top
 | [],top=>by
  rw[rrF,rules,Bool.eq_iff_iff,beq_iff_eq,beq_iff_eq]
  omega
 | r::rs,top=>by
  rw[rrF,rules,zh7]
  by_cases h:r.l<0∨top+1<r.l∨rule G r=false
  ·rw[if_pos h,if_pos h]
  ·rw[if_neg h,if_neg h]
   rw[←zhp G rs]
   congr 1
   by_cases h2:top<r.l
   ·rw[if_pos h2];omega
   ·rw[if_neg h2];omega
theorem right_eq (G:Gr):zbz G=right G:=by
 rw[Bool.eq_iff_iff]
 unfold zbz right rrB
 have hrr:=zhp G G.rs (-1)
 rw[show(-1:Int)+1=0 from rfl]at hrr
 simp only[Bool.and_eq_true,decide_eq_true_eq,hrr,zhq,zeC,nons_iff]
 have hlv:=ze0 G.ts [] [] 0 Inv.nil
 rw[List.nil_append]at hlv
 rw[hlv,List.nodup_append]
 constructor
 ·rintro⟨⟨⟨⟨⟨a,b,c,d,e,f1,f2,f3⟩,g⟩,h,k⟩,l⟩,m⟩
  refine⟨⟨⟨⟨⟨⟨⟨a,d,f1,(zgy a).1 g⟩,b,c,e,f2,fun s hs q=>f3 s q s hs rfl⟩,?_⟩,h⟩,l⟩,m⟩,k⟩
  rcases hz:G.rs with _|⟨x,r⟩
  ·rw[hz,rules,beq_iff_eq]at k;omega
  ·simp
 ·rintro⟨⟨⟨⟨⟨⟨⟨a,d,f1,g⟩,b,c,e,f2,f3⟩,_⟩,h⟩,l⟩,m⟩,k⟩
  exact⟨⟨⟨⟨⟨a,b,c,d,e,f1,f2,fun s hs q hq ee=>f3 q hq (ee▸hs)⟩,(zgy a).2 g⟩,h,k⟩,l⟩,m⟩
end Gm
theorem za6 (v:Value) (G:Gm.Gr) (B:Nat) (w:World) (hg:aN w B v G) (hf:Gm.Fit G) (hB:B≤w.heap.size) :
  Calls Tryz.prog 21 #[v] w fun e w'=>e=.returned (.bool (Gm.right G))∧Below w.heap.size w w':=by
 rw[←Gm.right_eq]
 exact zen v G B w hg hf hB
end Go.Proofs.YtcgclkndkahgaaaGreat
namespace Go.Proofs.YtcgclkndkahgaaaGreat
set_option maxRecDepth 100000
set_option maxHeartbeats 40000000
namespace Gm
noncomputable def tr (p:Prop):Bool:=@decide p (Classical.propDecidable p)
theorem tr_iff {p:Prop}:tr p=true↔p:=by unfold tr;exact @decide_eq_true_iff p (Classical.propDecidable p)
theorem tr_no {p:Prop}:tr p=false ↔ ¬p:=by unfold tr;exact @decide_eq_false_iff_not p (Classical.propDecidable p)
inductive Gn (tm:Bool) (rs:List Rl):Int→Prop
 | mk (x:Rl) (hx:x∈rs) (ht:∀z∈x.r,0≤z→tm=true) (hn:∀z∈x.r,z<0→Gn tm rs (-1-z)):Gn tm rs x.l
def Al (tm:Bool) (rs:List Rl) (r:List Int):Prop:=(∀z∈r,0≤z→tm=true)∧∀z∈r,z<0→Gn tm rs (-1-z)
theorem Gn.of {tm:Bool} {rs:List Rl} {x:Rl} (hx:x∈rs) (h:Al tm rs x.r):Gn tm rs x.l:=.mk x hx h.1 h.2
theorem Gn.rule {tm:Bool} {rs:List Rl} {j:Int} (h:Gn tm rs j):∃x∈rs,x.l=j∧Al tm rs x.r:=by
 cases h with
 | mk x hx ht hn=>exact⟨x,hx,rfl,ht,hn⟩
theorem Gn.more {tm:Bool} {rs rs':List Rl} (hs:∀x∈rs,x∈rs') {j:Int} (h:Gn tm rs j):Gn tm rs' j:=by
 induction h with
 | mk x hx ht _ ih=>exact .mk x (hs x hx) ht ih
inductive Rc (G:Gr):Int→Prop
 | st:Rc G G.st
 | on (x:Rl) (hx:x∈G.rs) (h:Rc G x.l) (hp:Al true G.rs x.r) (z:Int) (hz:z∈x.r) (hn:z<0):Rc G (-1-z)
theorem Al.more {tm:Bool} {rs rs':List Rl} (hs:∀x∈rs,x∈rs') {r:List Int} (h:Al tm rs r):Al tm rs' r:=⟨h.1,fun z hz hn=>(h.2 z hz hn).more hs⟩
theorem Rc.more {G H:Gr} (hs:∀x∈G.rs,x∈H.rs) (he:G.st=H.st) {j:Int} (h:Rc G j):Rc H j:=by
 induction h with
 | st=>rw[he];exact .st
 | on x hx _ hp z hz hn ih=>exact .on x (hs x hx) ih (hp.more hs) z hz hn
noncomputable def gn (tm:Bool) (rs:List Rl) (n:Nat):List Bool:=(List.range n).map fun i:Nat=>tr (Gn tm rs (i:Int))
theorem gn_len (tm:Bool) (rs:List Rl) (n:Nat):(gn tm rs n).length=n:=by simp[gn]
theorem zg3 (tm:Bool) (rs:List Rl) (n i:Nat) (h:i<n):(gn tm rs n).getD i false=tr (Gn tm rs (i:Int)):=by simp[gn,h]
def Le:List Bool→List Bool→Prop
 | [],[]=>True
 | a::r,b::s=>(a=true→b=true)∧Le r s
 | _,_=>False
theorem Le.refl:∀s,Le s s
 | []=>trivial
 | _::s=>⟨id,Le.refl s⟩
theorem Le.trans:∀ {a b c:List Bool},Le a b→Le b c→Le a c
 | [],[],[],_,_=>trivial
 | _::_,_::_,_::_,h,k=>⟨fun e=>k.1 (h.1 e),h.2.trans k.2⟩
 | [],_::_,_,h,_=>h.elim
 | _::_,[],_,h,_=>h.elim
 | [],[],_::_,_,k=>k.elim
 | _::_,_::_,[],_,k=>k.elim
theorem Le.len:∀ {a b:List Bool},Le a b→a.length=b.length
 | [],[],_=>rfl
 | _::_,_::_,h=>by simp[h.2.len]
 | [],_::_,h=>h.elim
 | _::_,[],h=>h.elim
theorem Le.anti:∀ {a b:List Bool},Le a b→Le b a→a=b
 | [],[],_,_=>rfl
 | x::a,y::b,h,k=>by
  rw[h.2.anti k.2]
  cases x <;> cases y <;> simp_all [Le]
 | [],_::_,h,_=>h.elim
 | _::_,[],h,_=>h.elim
theorem Le.get:∀ {a b:List Bool} (i:Nat),Le a b→a.getD i false=true→b.getD i false=true
 | [],[],_,_,h=>h
 | _::_,_::_,0,h,e=>h.1 e
 | _::_,_::_,i+1,h,e=>by
  simp only[List.getD_cons_succ]at e ⊢
  exact h.2.get i e
 | [],_::_,_,h,_=>h.elim
 | _::_,[],_,h,_=>h.elim
theorem Le.of:∀ {a b:List Bool},a.length=b.length→(∀i,a.getD i false=true→b.getD i false=true)→Le a b
 | [],[],_,_=>trivial
 | x::a,y::b,h,k=>⟨fun e=>k 0 e,Le.of (by simpa using h) fun i e=>by simpa using k (i+1) (by simpa using e)⟩
 | [],_::_,h,_=>by simp at h
 | _::_,[],h,_=>by simp at h
theorem Le.set:∀(s:List Bool) (i:Nat),Le s (s.set i true)
 | [],_=>trivial
 | _::s,0=>⟨fun _=>rfl,Le.refl s⟩
 | _::s,i+1=>⟨id,Le.set s i⟩
def ct (s:List Bool):Nat:=s.count true
theorem Le.ct:∀ {a b:List Bool},Le a b→ct a≤ct b
 | [],[],_=>Nat.le_refl _
 | x::a,y::b,h=>by
  have:=h.2.ct
  unfold Gm.ct at *
  cases x <;> cases y <;> simp_all [Le] <;> omega
 | [],_::_,h=>h.elim
 | _::_,[],h=>h.elim
theorem Le.ct_eq:∀ {a b:List Bool},Le a b→Gm.ct b≤Gm.ct a→a=b
 | [],[],_,_=>rfl
 | x::a,y::b,h,k=>by
  have h2:=h.2.ct
  have h3:=h.2.ct_eq
  unfold Gm.ct at *
  cases x <;> cases y <;> simp_all [Le] <;> omega
 | [],_::_,h,_=>h.elim
 | _::_,[],h,_=>h.elim
theorem zig (s:List Bool):ct s≤s.length:=List.count_le_length
def times (f:List Bool→List Bool):Nat→List Bool→List Bool
 | 0,s=>s
 | n+1,s=>f (times f n s)
theorem times_le {f:List Bool→List Bool} (h:∀s,Le s (f s)) (n:Nat) (s:List Bool):Le s (times f n s):=by
 induction n with
 | zero=>exact Le.refl s
 | succ n ih=>exact ih.trans (h _)
theorem zcM {f:List Bool→List Bool} (h:∀s,Le s (f s)) (s:List Bool):f (times f s.length s)=times f s.length s:=by
 have key:∀n,f (times f n s)=times f n s∨n≤ct (times f n s):=by
  intro n
  induction n with
  | zero=>exact .inr (Nat.zero_le _)
  | succ n ih =>
   by_cases hf:f (times f n s)=times f n s
   ·left;show f (f (times f n s))=f (times f n s);rw[hf,hf]
   ·right
    rcases ih with ih|ih
    ·exact absurd ih hf
    ·have h1:=(h (times f n s)).ct
     have h2:¬ct (f (times f n s))≤ct (times f n s):=fun hc=>hf ((h _).ct_eq hc).symm
     show n+1≤ct (f (times f n s))
     omega
 rcases key s.length with h1|h1
 ·exact h1
 ·refine((h _).ct_eq ?_).symm
  have:=(times_le h s.length s).len
  have h2:=zig (f (times f s.length s))
  have h3:=(h (times f s.length s)).len
  omega
theorem foldl_le {α:Type} (g:List Bool→α→List Bool) (h:∀s x,Le s (g s x)):∀(xs:List α) (s:List Bool),Le s (xs.foldl g s)
 | [],s=>Le.refl s
 | x::xs,s=>(h s x).trans (foldl_le g h xs _)
theorem zc7 {α:Type} (g:List Bool→α→List Bool) (h:∀s x,Le s (g s x)):∀(xs:List α) (s:List Bool),xs.foldl g s=s→∀x∈xs,g s x=s
 | [],_,_=>by simp
 | x::xs,s,e=>by
  have h1:Le (g s x) s:=by
   have:=foldl_le g h xs (g s x)
   rw[List.foldl_cons]at e
   rwa [e]at this
  have h2:g s x=s:=h1.anti (h s x)
  intro y hy
  rcases List.mem_cons.1 hy with rfl|hy
  ·exact h2
  ·rw[List.foldl_cons,h2]at e
   exact zc7 g h xs s e y hy
def allB (tm:Bool) (is:List Bool) (r:List Int):Bool:=r.all fun z=>if 0≤z then tm else is.getD (-1-z).toNat false
def Snd (tm:Bool) (rs:List Rl) (is:List Bool):Prop:=∀i:Nat,is.getD i false=true→Gn tm rs (i:Int)
def Cls (tm:Bool) (rs:List Rl) (is:List Bool):Prop:=∀x∈rs,allB tm is x.r=true→is.getD x.l.toNat false=true
theorem Snd.none (tm:Bool) (rs:List Rl) (n:Nat):Snd tm rs (List.replicate n false):=fun i h=>by
 rw[List.getD_eq_getElem?_getD,List.getElem?_replicate]at h
 split at h <;> cases h
theorem Snd.all {tm:Bool} {rs:List Rl} {is:List Bool} (h:Snd tm rs is) {r:List Int} (e:allB tm is r=true):Al tm rs r:=by
 unfold allB at e
 rw[List.all_eq_true]at e
 refine⟨fun z hz h0=>?_,fun z hz h0=>?_⟩
 ·have:=e z hz
  rwa [if_pos h0]at this
 ·have:=e z hz
  rw[if_neg (by omega)]at this
  have:=h _ this
  rwa [Int.toNat_of_nonneg (by omega)]at this
theorem zcE (s:List Bool) (i j:Nat) (h:(s.set i true).getD j false=true):s.getD j false=true∨j=i:=by
 by_cases e:i=j
 ·exact .inr e.symm
 ·left
  rwa [List.getD_eq_getElem?_getD,List.getElem?_set_ne e,←List.getD_eq_getElem?_getD]at h
theorem zcu (s:List Bool) (i:Nat) (h:i<s.length):(s.set i true).getD i false=true:=by
 simp[List.getD_eq_getElem?_getD,h]
theorem Snd.set {tm:Bool} {rs:List Rl} {is:List Bool} (h:Snd tm rs is) {x:Rl} (hx:x∈rs) (h0:0≤x.l) (e:allB tm is x.r=true):Snd tm rs (is.set x.l.toNat true):=fun i hi=>by
 rcases zcE _ _ _ hi with h1|h1
 ·exact h i h1
 ·subst h1
  rw[Int.toNat_of_nonneg h0]
  exact Gn.of hx (h.all e)
def Lin (n:Nat) (rs:List Rl):Prop:=∀x∈rs,0≤x.l∧x.l<(n:Int)
theorem zhM {tm:Bool} {rs:List Rl} {is:List Bool} (h:Cls tm rs is) {j:Int} (hj:Gn tm rs j):is.getD j.toNat false=true:=by
 induction hj with
 | mk x hx ht _ ih =>
  refine h x hx ?_
  unfold allB
  rw[List.all_eq_true]
  intro z hz
  by_cases h0:0≤z
  ·rw[if_pos h0];exact ht z hz h0
  ·rw[if_neg h0];exact ih z hz (by omega)
theorem zhL {tm:Bool} {rs:List Rl} {n:Nat} {is:List Bool} (hn:is.length=n) (hs:Snd tm rs is) (hc:Cls tm rs is):is=gn tm rs n:=by
 refine List.ext_getElem (by rw[hn,gn_len]) fun i h1 h2=>?_
 have e1:is.getD i false=is[i]:=by simp[List.getD_eq_getElem?_getD,h1]
 have e2:(gn tm rs n).getD i false=(gn tm rs n)[i]:=by simp[List.getD_eq_getElem?_getD,h2]
 rw[←e1,←e2,zg3 _ _ _ _ (by omega)]
 rw[Bool.eq_iff_iff,tr_iff]
 refine⟨hs i,fun h=>?_⟩
 have:=zhM hc h
 simpa using this
def grow1 (tm:Bool) (is:List Bool) (x:Rl):List Bool:=if allB tm is x.r=true then is.set x.l.toNat true else is
def growP (tm:Bool) (rs:List Rl) (is:List Bool):List Bool:=rs.foldl (grow1 tm) is
theorem grow1_le (tm:Bool) (is:List Bool) (x:Rl):Le is (grow1 tm is x):=by
 unfold grow1;split
 ·exact Le.set _ _
 ·exact Le.refl _
theorem zdZ {tm:Bool} {rs:List Rl} {n:Nat} (hl:Lin n rs):∀(xs:List Rl) (is:List Bool),(∀x∈xs,x∈rs)→Snd tm rs is→Snd tm rs (xs.foldl (grow1 tm) is)
 | [],_,_,h=>h
 | x::xs,is,hx,h=>by
  refine zdZ hl xs _ (fun y hy=>hx y (List.mem_cons_of_mem _ hy)) ?_
  unfold grow1;split
  ·rename_i e
   exact h.set (hx x (List.mem_cons_self ..)) (hl x (hx x (List.mem_cons_self ..))).1 e
  ·exact h
theorem zeB {tm:Bool} {rs:List Rl} {n:Nat} (hl:Lin n rs) (k:Nat) {is:List Bool} (h:Snd tm rs is):Snd tm rs (times (growP tm rs) k is):=by
 induction k with
 | zero=>exact h
 | succ k ih=>exact zdZ hl rs _ (fun _ h=>h) ih
theorem zg4 {tm:Bool} {rs:List Rl} {n:Nat} (hl:Lin n rs) {is:List Bool} (hn:is.length=n) (h:growP tm rs is=is):Cls tm rs is:=fun x hx e=>by
 have:=zc7 (grow1 tm) (grow1_le tm) rs is h x hx
 unfold grow1 at this
 rw[if_pos e]at this
 rw[←this]
 have:=hl x hx
 exact zcu _ _ (by omega)
theorem grow_gn {tm:Bool} {rs:List Rl} {n:Nat} (hl:Lin n rs):times (growP tm rs) n (List.replicate n false)=gn tm rs n:=by
 have hle:∀s,Le s (growP tm rs s):=fun s=>foldl_le _ (grow1_le tm) rs s
 have h0:(List.replicate n false).length=n:=by simp
 have h1:(times (growP tm rs) n (List.replicate n false)).length=n:=by rw[←(times_le hle n _).len,h0]
 refine zhL h1 (zeB hl n (Snd.none tm rs n)) (zg4 hl h1 ?_)
 have:=zcM hle (List.replicate n false)
 rwa [h0]at this
end Gm
namespace Gm
theorem Gn.lin {tm:Bool} {rs:List Rl} {n:Nat} (hl:Lin n rs) {j:Int} (h:Gn tm rs j):0≤j∧j<n:=by
 obtain⟨x,hx,rfl,_⟩:=h.rule
 exact hl x hx
theorem gn_get {tm:Bool} {rs:List Rl} {n:Nat} (hl:Lin n rs) {j:Int} (h0:0≤j):(gn tm rs n).getD j.toNat false=true↔Gn tm rs j:=by
 constructor
 ·intro h
  rcases Nat.lt_or_ge j.toNat n with h1|h1
  ·rw[zg3 _ _ _ _ h1,tr_iff,Int.toNat_of_nonneg h0]at h;exact h
  ·rw[List.getD_eq_getElem?_getD,List.getElem?_eq_none (by rw[gn_len];omega)]at h;cases h
 ·intro h
  have:=h.lin hl
  rw[zg3 _ _ _ _ (by omega),tr_iff,Int.toNat_of_nonneg h0];exact h
theorem allB_gn {tm:Bool} {rs:List Rl} {n:Nat} (hl:Lin n rs) (r:List Int):allB tm (gn tm rs n) r=true↔Al tm rs r:=by
 constructor
 ·intro e
  unfold allB at e
  rw[List.all_eq_true]at e
  refine⟨fun z hz h0=>?_,fun z hz h0=>?_⟩
  ·have:=e z hz;rwa [if_pos h0]at this
  ·have:=e z hz
   rw[if_neg (by omega)]at this
   exact(gn_get hl (by omega)).1 this
 ·intro h
  unfold allB
  rw[List.all_eq_true]
  intro z hz
  by_cases h0:0≤z
  ·rw[if_pos h0];exact h.1 z hz h0
  ·rw[if_neg h0];exact(gn_get hl (by omega)).2 (h.2 z hz (by omega))
def Sin (n:Nat) (r:List Int):Prop:=∀z∈r,z<0→-1-z<(n:Int)
structure Ok (G:Gr):Prop where
 t:terms G.ts=true
 n:nons G=true
 r1:1≤G.rs.length
 r40:G.rs.length≤40
 s0:0≤G.st
 s1:G.st<G.ns.length
 rr:∀x∈G.rs,rule G x=true
 tp:zfI G.ns.length (G.rs.map Rl.l) (-1)=true
theorem zb6 (G:Gr):∀(rs:List Rl) (top:Int),rules G rs top=true→(∀r∈rs,rule G r=true)∧zfI G.ns.length (rs.map Rl.l) top=true
 | [],_,h=>⟨by simp,h⟩
 | r::rs,top,h=>by
  rw[rules]at h
  split at h
  ·cases h
  ·rename_i h1
   have h2:=zb6 G rs _ h
   have h3:rule G r=true:=by cases hr:rule G r <;> simp_all
   refine⟨fun x hx=>?_,?_⟩
   ·rcases List.mem_cons.1 hx with rfl|hx
    ·exact h3
    ·exact h2.1 x hx
   ·rw[List.map_cons,zfI,if_neg (by omega)]
    exact h2.2
theorem right_ok {G:Gr}:right G=true↔Ok G:=by
 constructor
 ·intro h
  unfold right at h
  simp only[Bool.and_eq_true,decide_eq_true_eq]at h
  obtain⟨⟨⟨⟨⟨⟨h1,h2⟩,h3⟩,h4⟩,h5⟩,h6⟩,h7⟩:=h
  have:=zb6 G _ _ h7
  exact⟨h1,h2,h3,h4,h5,h6,this.1,this.2⟩
 ·intro h
  unfold right
  simp only[Bool.and_eq_true,decide_eq_true_eq]
  exact⟨⟨⟨⟨⟨⟨h.t,h.n⟩,h.r1⟩,h.r40⟩,h.s0⟩,h.s1⟩,zb8 G _ _ h.rr h.tp⟩
theorem zex {n:Nat}:∀(ls:List Int) (top:Int),zfI n ls top=true→top≤n-1∧∀l∈ls,0≤l∧l<n
 | [],top,h=>by
  rw[zfI]at h
  have:top=n-1:=by simpa using h
  exact⟨by omega,by simp⟩
 | l::r,top,h=>by
  rw[zfI]at h
  split at h
  ·cases h
  ·have h2:=zex r _ h
   refine⟨by have:=h2.1;split at this <;> omega,fun x hx=>?_⟩
   rcases List.mem_cons.1 hx with rfl|hx
   ·have:=h2.1;split at this <;> omega
   ·exact h2.2 x hx
theorem Ok.lin {G:Gr} (h:Ok G):Lin G.ns.length G.rs:=fun x hx=>(zex _ _ h.tp).2 x.l (List.mem_map_of_mem hx)
theorem rule_in {G:Gr} {x:Rl} (h:rule G x=true):x.r.length≤6∧-1≤x.p∧x.p<G.ts.length∧∀z∈x.r,z<G.ts.length∧-1-z<G.ns.length∧(0≤z→x.p ≠ -1):=by
 unfold rule at h
 simp only[Bool.and_eq_true,decide_eq_true_eq,List.all_eq_true]at h
 obtain⟨⟨⟨h1,h2⟩,h3⟩,h4⟩:=h
 refine⟨h1,h2,h3,fun z hz=>?_⟩
 have h5:=h4 z hz
 unfold has at h5
 by_cases h0:0≤z
 ·rw[if_pos h0]at h5
  simp[h0]at h5
  exact⟨h5.1,by omega,fun _=>h5.2⟩
 ·rw[if_neg h0]at h5
  simp[h0]at h5
  exact⟨by omega,h5,fun h=>absurd h h0⟩
theorem Ok.sin {G:Gr} (h:Ok G):∀x∈G.rs,Sin G.ns.length x.r:=fun x hx z hz _=>((rule_in (h.rr x hx)).2.2.2 z hz).2.1
end Gm
namespace Gm
def pos (o:List Int) (l:Int):Int:=if l∈o then(o.idxOf l:Int) else -1
noncomputable def use (G:Gr) (x:Rl):Bool:=tr (Rc G x.l∧Al true G.rs x.r)
noncomputable def kept (G:Gr):List Nat:=(List.range G.rs.length).filter fun i=>(G.rs[i]?).any (use G)
end Gm
namespace Gm
abbrev Nu (G:Gr) (r:List Int):Prop:=Al false G.rs r
inductive Fs (G:Gr) (t:Int):Int→Prop
 | tm (x:Rl) (hx:x∈G.rs) (p q:List Int) (e:x.r=p++t::q) (h0:0≤t) (hp:Nu G p):Fs G t x.l
 | nt (x:Rl) (hx:x∈G.rs) (p:List Int) (z:Int) (q:List Int) (e:x.r=p++z::q) (hz:z<0) (hp:Nu G p) (h:Fs G t (-1-z)):Fs G t x.l
def Bg (G:Gr) (t:Int) (r:List Int):Prop:=∃p y q,r=p++y::q∧Nu G p∧(y=t∧0≤t∨y<0∧Fs G t (-1-y))
theorem Fs.of {G:Gr} {t:Int} {x:Rl} (hx:x∈G.rs) (h:Bg G t x.r):Fs G t x.l:=by
 obtain⟨p,y,q,e,hp,h|h⟩:=h
 ·exact .tm x hx p q (by rw[e,h.1]) h.2 hp
 ·exact .nt x hx p y q e h.1 hp h.2
inductive Fw (G:Gr) (t:Int):Int→Prop
 | st (e:t=G.ts.length):Fw G t G.st
 | bg (x:Rl) (hx:x∈G.rs) (p:List Int) (z:Int) (q:List Int) (e:x.r=p++z::q) (hz:z<0) (h:Bg G t q):Fw G t (-1-z)
 | on (x:Rl) (hx:x∈G.rs) (p:List Int) (z:Int) (q:List Int) (e:x.r=p++z::q) (hz:z<0) (hq:Nu G q) (h:Fw G t x.l):Fw G t (-1-z)
def zii (P:Int→Prop) (is:List Bool):Prop:=∀i:Nat,is.getD i false=true→P (i:Int)
theorem zii.none (P:Int→Prop) (n:Nat):zii P (List.replicate n false):=fun i h=>by
 rw[List.getD_eq_getElem?_getD,List.getElem?_replicate]at h
 split at h <;> cases h
end Gm
namespace Gm
theorem fold_len {α:Type} {f:List Nat→α→List Nat} (h:∀s x,(f s x).length=s.length):∀(xs:List α) (s:List Nat),(xs.foldl f s).length=s.length
 | [],_=>rfl
 | x::xs,s=>by rw[List.foldl_cons,fold_len h xs,h]
end Gm
namespace Gm
def St (G:Gr) (i j:Int):Prop:=∃x∈G.rs,x.l=i∧Al true G.rs x.r∧∃p z q,x.r=p++z::q∧z<0∧j = -1-z∧Nu G p∧Nu G q
inductive Cm (G:Gr):Int→Int→Prop
 | one {i j:Int} (h:St G i j):Cm G i j
 | on {i k j:Int} (h:St G i k) (h2:Cm G k j):Cm G i j
theorem Cm.trans {G:Gr} {i k j:Int} (h:Cm G i k) (h2:Cm G k j):Cm G i j:=by
 induction h with
 | one h=>exact .on h h2
 | on h _ ih=>exact .on h (ih h2)
theorem St.lin {G:Gr} {n:Nat} (hl:Lin n G.rs) (hi:∀x∈G.rs,Sin n x.r) {i j:Int} (h:St G i j):(0≤i∧i<n)∧0≤j∧j<n:=by
 obtain⟨x,hx,rfl,_,p,z,q,e,hz,rfl,_⟩:=h
 have:=hi x hx z (by rw[e];simp) hz
 exact⟨hl x hx,by omega,this⟩
theorem Cm.lin {G:Gr} {n:Nat} (hl:Lin n G.rs) (hi:∀x∈G.rs,Sin n x.r) {i j:Int} (h:Cm G i j):(0≤i∧i<n)∧0≤j∧j<n:=by
 induction h with
 | one h=>exact h.lin hl hi
 | on h _ ih=>exact⟨(h.lin hl hi).1,ih.2⟩
end Gm
namespace Gm
def subN (a there:Nat):Bool:=a ||| there==there
def next (us:Nat) (st:List Nat) (there i:Nat):Bool:=us.testBit i && !there.testBit i&&subN (st.getD i 0) there
end Gm
namespace Gm
def topH (H:List Nat):List Int→Nat
 | []=>0
 | z::r=>if 0≤z then topH H r else max (H.getD (-1-z).toNat 0) (topH H r)
theorem topH_le {H:List Nat} {r:List Int} {k:Nat}:topH H r≤k ↔ ∀z∈r,z<0→H.getD (-1-z).toNat 0≤k:=by
 induction r with
 | nil=>simp[topH]
 | cons z r ih =>
  rw[topH]
  by_cases h0:0≤z
  ·rw[if_pos h0,ih]
   constructor
   ·intro h y hy hn
    rcases List.mem_cons.1 hy with rfl|hy
    ·omega
    ·exact h y hy hn
   ·intro h y hy
    exact h y (List.mem_cons_of_mem _ hy)
  ·rw[if_neg h0,Nat.max_le,ih]
   constructor
   ·rintro⟨h1,h2⟩ y hy hn
    rcases List.mem_cons.1 hy with rfl|hy
    ·exact h1
    ·exact h2 y hy hn
   ·intro h
    exact⟨h z (List.mem_cons_self ..) (by omega),fun y hy=>h y (List.mem_cons_of_mem _ hy)⟩
structure Hgt (G:Gr) (H:List Nat):Prop where
 n:H.length=G.ns.length
 p:∀j:Nat,j<G.ns.length→(0<H.getD j 0↔Gn true G.rs (j:Int))
 le:∀x∈G.rs,Al true G.rs x.r→H.getD x.l.toNat 0≤topH H x.r+1
 ex:∀j:Nat,j<G.ns.length→Gn true G.rs (j:Int)→∃x∈G.rs,x.l=(j:Int)∧Al true G.rs x.r∧H.getD j 0=topH H x.r+1
theorem Hgt.below {G:Gr} {H H':List Nat} (hl:Lin G.ns.length G.rs) (h:Hgt G H) (h':Hgt G H'):∀(k j:Nat),H'.getD j 0=k→0<k→H.getD j 0≤k:=by
 intro k
 induction k using Nat.strongRecOn with
 | ind k ih =>
  intro j hj hk
  have hlt:j<G.ns.length:=by
   rcases Nat.lt_or_ge j G.ns.length with h1|h1
   ·exact h1
   ·rw[List.getD_eq_getElem?_getD,List.getElem?_eq_none (by rw[h'.n];exact h1)]at hj;simp at hj;omega
  have hp:=(h'.p j hlt).1 (by omega)
  obtain⟨x,hx,e,ha,e2⟩:=h'.ex j hlt hp
  have h1:=h.le x hx ha
  rw[e,Int.toNat_natCast]at h1
  have h2:topH H x.r≤topH H' x.r:=by
   rw[topH_le]
   intro z hz hn
   have h3:=topH_le.1 (Nat.le_refl (topH H' x.r)) z hz hn
   have h4:0<H'.getD (-1-z).toNat 0:=by
    have h5:=ha.2 z hz hn
    have h6:=h5.lin hl
    refine(h'.p _ (by omega)).2 ?_
    rw[Int.toNat_of_nonneg h6.1];exact h5
   exact Nat.le_trans (ih _ (by omega) _ rfl h4) h3
  omega
theorem Hgt.one {G:Gr} {H H':List Nat} (hl:Lin G.ns.length G.rs) (h:Hgt G H) (h':Hgt G H'):H=H':=by
 refine List.ext_getElem (by rw[h.n,h'.n]) fun j h1 h2=>?_
 have e1:H.getD j 0=H[j]:=by simp[List.getD_eq_getElem?_getD,h1]
 have e2:H'.getD j 0=H'[j]:=by simp[List.getD_eq_getElem?_getD,h2]
 rw[←e1,←e2]
 have hj:j<G.ns.length:=by rw[←h.n];exact h1
 by_cases hp:Gn true G.rs (j:Int)
 ·have a:=(h.p j hj).2 hp
  have b:=(h'.p j hj).2 hp
  have c:=h.below hl h' _ j rfl b
  have d:=h'.below hl h _ j rfl a
  omega
 ·have a:¬0<H.getD j 0:=fun q=>hp ((h.p j hj).1 q)
  have b:¬0<H'.getD j 0:=fun q=>hp ((h'.p j hj).1 q)
  omega
def highN (H:List Nat) (r:List Int):Nat:=if r.all (fun z=>decide (0≤z)||decide (0<H.getD (-1-z).toNat 0))=true then topH H r+1 else 0
theorem highN_of {H:List Nat} {r:List Int} (h:∀z∈r,z<0→0<H.getD (-1-z).toNat 0):highN H r=topH H r+1:=by
 unfold highN
 rw[if_pos]
 rw[List.all_eq_true]
 intro z hz
 by_cases h0:0≤z
 ·rw[decide_eq_true h0];rfl
 ·rw[decide_eq_true (h z hz (by omega)),Bool.or_true]
theorem zc6 {H:List Nat} {r:List Int} {k:Nat} (h:highN H r=k+1):topH H r=k∧∀z∈r,z<0→0<H.getD (-1-z).toNat 0:=by
 unfold highN at h
 split at h
 ·rename_i e
  rw[List.all_eq_true]at e
  refine⟨by omega,fun z hz hn=>?_⟩
  have:=e z hz
  rw[decide_eq_false (by omega),Bool.false_or,decide_eq_true_eq]at this
  exact this
 ·omega
def hi1 (old:List Nat) (h:Nat) (out:List Nat) (x:Rl):List Nat:=if out.getD x.l.toNat 0=0∧highN old x.r=h then out.set x.l.toNat h else out
def hiP (rs:List Rl) (h:Nat) (out:List Nat):List Nat:=rs.foldl (hi1 out h) out
def hiN (rs:List Rl):Nat→List Nat→List Nat
 | 0,s=>s
 | k+1,s=>hiP rs (k+1) (hiN rs k s)
theorem hi1_len (old:List Nat) (h:Nat) (out:List Nat) (x:Rl):(hi1 old h out x).length=out.length:=by
 unfold hi1;split <;> simp
theorem zgZ (rs:List Rl) (h:Nat) (out:List Nat):(hiP rs h out).length=out.length:=fold_len (hi1_len out h) rs out
theorem hiN_len (rs:List Rl) (k:Nat) (s:List Nat):(hiN rs k s).length=s.length:=by
 induction k with
 | zero=>rfl
 | succ k ih=>rw[hiN,zgZ,ih]
theorem zfp {old:List Nat} {h:Nat} {out:List Nat} {x:Rl} (hx:x.l.toNat<out.length) (j:Nat):(hi1 old h out x).getD j 0=if out.getD j 0=0∧x.l.toNat=j∧highN old x.r=h then h else out.getD j 0:=by
 by_cases c:out.getD x.l.toNat 0=0∧highN old x.r=h
 ·have e1:hi1 old h out x=out.set x.l.toNat h:=if_pos c
  rw[e1]
  by_cases hj:x.l.toNat=j
  ·subst hj
   rw[if_pos ⟨c.1,rfl,c.2⟩,List.getD_eq_getElem?_getD,List.getElem?_set_self hx];rfl
  ·rw[if_neg (fun q=>hj q.2.1),List.getD_eq_getElem?_getD,List.getElem?_set_ne hj,←List.getD_eq_getElem?_getD]
 ·have e1:hi1 old h out x=out:=if_neg c
  rw[e1,if_neg]
  rintro⟨a,rfl,b⟩
  exact c ⟨a,b⟩
theorem zcD (old:List Nat) (h j:Nat):∀(xs:List Rl) (out:List Nat),(∀x∈xs,x.l.toNat<out.length)→out.getD j 0≠0→(xs.foldl (hi1 old h) out).getD j 0=out.getD j 0
 | [],_,_,_=>rfl
 | x::xs,out,hl,h0=>by
  have e:=zfp (old:=old) (h:=h) (hl x (List.mem_cons_self ..)) j
  rw[if_neg (fun q=>h0 q.1)]at e
  rw[List.foldl_cons,zcD old h j xs _ (fun y hy=>by rw[hi1_len];exact hl y (List.mem_cons_of_mem _ hy)) (by rw[e];exact h0),e]
theorem zfo (old:List Nat) (h j:Nat) (hh:0<h):∀(xs:List Rl) (out:List Nat),(∀x∈xs,x.l.toNat<out.length)→out.getD j 0=0→(∃x∈xs,x.l.toNat=j∧highN old x.r=h)→(xs.foldl (hi1 old h) out).getD j 0=h
 | [],_,_,_,q=>by obtain⟨x,hx,_⟩:=q;cases hx
 | x::xs,out,hl,h0,q=>by
  have e:=zfp (old:=old) (h:=h) (hl x (List.mem_cons_self ..)) j
  have hl2:∀y∈xs,y.l.toNat<(hi1 old h out x).length:=fun y hy=>by rw[hi1_len];exact hl y (List.mem_cons_of_mem _ hy)
  rw[List.foldl_cons]
  by_cases c:x.l.toNat=j∧highN old x.r=h
  ·rw[if_pos ⟨h0,c⟩]at e
   rw[zcD old h j xs _ hl2 (by omega),e]
  ·rw[if_neg (fun q=>c q.2)]at e
   refine zfo old h j hh xs _ hl2 (e.trans h0) ?_
   obtain⟨y,hy,k⟩:=q
   rcases List.mem_cons.1 hy with rfl|hy
   ·exact absurd k c
   ·exact⟨y,hy,k⟩
theorem zfn (old:List Nat) (h j:Nat):∀(xs:List Rl) (out:List Nat),(∀x∈xs,x.l.toNat<out.length)→(¬ ∃x∈xs,x.l.toNat=j∧highN old x.r=h)→(xs.foldl (hi1 old h) out).getD j 0=out.getD j 0
 | [],_,_,_=>rfl
 | x::xs,out,hl,q=>by
  have e:=zfp (old:=old) (h:=h) (hl x (List.mem_cons_self ..)) j
  rw[if_neg (fun k=>q ⟨x,List.mem_cons_self ..,k.2⟩)]at e
  rw[List.foldl_cons,zfn old h j xs _ (fun y hy=>by rw[hi1_len];exact hl y (List.mem_cons_of_mem _ hy)) (fun⟨y,hy,k⟩=>q ⟨y,List.mem_cons_of_mem _ hy,k⟩),e]
theorem zhG (old:List Nat) (h:Nat) (hh:0<h) (j:Nat) (xs:List Rl) (out:List Nat) (hl:∀x∈xs,x.l.toNat<out.length):(xs.foldl (hi1 old h) out).getD j 0=if out.getD j 0=0∧(∃x∈xs,x.l.toNat=j∧highN old x.r=h) then h else out.getD j 0:=by
 by_cases h0:out.getD j 0=0
 ·by_cases q:∃x∈xs,x.l.toNat=j∧highN old x.r=h
  ·rw[if_pos ⟨h0,q⟩];exact zfo old h j hh xs out hl h0 q
  ·rw[if_neg (fun k=>q k.2)];exact zfn old h j xs out hl q
 ·rw[if_neg (fun k=>h0 k.1)];exact zcD old h j xs out hl h0
def Der (rs:List Rl):Nat→Int→Prop
 | 0,_=>False
 | k+1,j=>∃x∈rs,x.l=j∧∀z∈x.r,z<0→Der rs k (-1-z)
theorem Der.more {rs:List Rl} {k:Nat}:∀ {j:Int},Der rs k j→Der rs (k+1) j:=by
 induction k with
 | zero=>intro j h;exact h.elim
 | succ k ih =>
  rintro j ⟨x,hx,e,h⟩
  exact⟨x,hx,e,fun z hz hn=>ih (h z hz hn)⟩
theorem Der.le {rs:List Rl} {k m:Nat} (h:k≤m) {j:Int} (hd:Der rs k j):Der rs m j:=by
 induction h with
 | refl=>exact hd
 | step _ ih=>exact ih.more
theorem Der.gn {rs:List Rl} {k:Nat}:∀ {j:Int},Der rs k j→Gn true rs j:=by
 induction k with
 | zero=>intro j h;exact h.elim
 | succ k ih =>
  rintro j ⟨x,hx,rfl,h⟩
  exact .mk x hx (fun _ _ _=>rfl) fun z hz hn=>ih (h z hz hn)
theorem zhR {rs:List Rl} {j:Int} (h:Gn true rs j):∃k,Der rs k j:=by
 induction h with
 | mk x hx _ _ ih =>
  have:∀r:List Int,(∀z∈r,z∈x.r)→∃k,∀z∈r,z<0→Der rs k (-1-z):=by
   intro r
   induction r with
   | nil=>intro _;exact⟨0,by simp⟩
   | cons y r ihr =>
    intro hr
    obtain⟨k,hk⟩:=ihr fun z hz=>hr z (List.mem_cons_of_mem _ hz)
    by_cases hy:y<0
    ·obtain⟨m,hm⟩:=ih y (hr y (List.mem_cons_self ..)) hy
     refine⟨max k m,fun z hz hn=>?_⟩
     rcases List.mem_cons.1 hz with rfl|hz
     ·exact hm.le (Nat.le_max_right ..)
     ·exact(hk z hz hn).le (Nat.le_max_left ..)
    ·refine⟨k,fun z hz hn=>?_⟩
     rcases List.mem_cons.1 hz with rfl|hz
     ·omega
     ·exact hk z hz hn
  obtain⟨k,hk⟩:=this x.r fun _ h=>h
  exact⟨k+1,x,hx,rfl,hk⟩
def zbm (rs:List Rl) (k:Nat) (H:List Nat):Prop:=∀j:Nat,(∀m,0<m→(H.getD j 0=m↔m≤k∧Der rs m (j:Int)∧¬Der rs (m-1) (j:Int)))
theorem zbm.zero {rs:List Rl} {k:Nat} {H:List Nat} (h:zbm rs k H) (j:Nat):H.getD j 0=0 ↔ ¬Der rs k (j:Int):=by
 constructor
 ·intro h0 hd
  have:∃m,m≤k∧0<m∧Der rs m (j:Int)∧¬Der rs (m-1) (j:Int):=by
   clear h0 h
   induction k with
   | zero=>exact hd.elim
   | succ k ih =>
    by_cases hk:Der rs k (j:Int)
    ·obtain⟨m,h1,h2,h3⟩:=ih hk
     exact⟨m,by omega,h2,h3⟩
    ·exact⟨k+1,Nat.le_refl _,by omega,hd,hk⟩
  obtain⟨m,h1,h2,h3⟩:=this
  have:=(h j m h2).2 ⟨h1,h3⟩
  omega
 ·intro hn
  rcases Nat.eq_zero_or_pos (H.getD j 0) with h0|h0
  ·exact h0
  ·have:=(h j _ h0).1 rfl
   exact absurd (this.2.1.le this.1) hn
theorem zbm.le {rs:List Rl} {k:Nat} {H:List Nat} (h:zbm rs k H) (j:Nat):H.getD j 0≤k:=by
 rcases Nat.eq_zero_or_pos (H.getD j 0) with h0|h0
 ·omega
 ·exact((h j _ h0).1 rfl).1
theorem zbm.pos {rs:List Rl} {k:Nat} {H:List Nat} (h:zbm rs k H) (j:Nat):0<H.getD j 0↔Der rs k (j:Int):=by
 have:=h.zero j
 constructor
 ·intro h1
  exact Classical.byContradiction fun hn=>by have:=this.2 hn;omega
 ·intro hd
  rcases Nat.eq_zero_or_pos (H.getD j 0) with h0|h0
  ·exact absurd hd (this.1 h0)
  ·exact h0
theorem zbm.der {rs:List Rl} {k:Nat} {H:List Nat} (h:zbm rs k H) (j:Nat) (m:Nat) (hm:Der rs m (j:Int)) (hk:0<H.getD j 0):H.getD j 0≤m:=by
 have h1:=(h j _ hk).1 rfl
 rcases Nat.lt_or_ge m (H.getD j 0) with h2|h2
 ·exact absurd (hm.le (show m≤H.getD j 0-1 by omega)) h1.2.2
 ·exact h2
theorem zbm.next {rs:List Rl} {k:Nat} {H:List Nat} {n:Nat} (hl:Lin n rs) (hn:H.length=n) (h:zbm rs k H):zbm rs (k+1) (hiP rs (k+1) H):=by
 have hlen:∀x∈rs,x.l.toNat<H.length:=fun x hx=>by have:=hl x hx;omega
 have hrule:∀x∈rs,(∀z∈x.r,z<0→Der rs k (-1-z))→topH H x.r≤k∧highN H x.r=topH H x.r+1:=fun x hx hz=>by
  have hpos:∀z∈x.r,z<0→0<H.getD (-1-z).toNat 0:=fun z hz' hn'=>(h.pos _).2 (by rw[Int.toNat_of_nonneg (by omega)];exact hz z hz' hn')
  exact⟨topH_le.2 fun z _ _=>h.le _,highN_of hpos⟩
 intro j m hm
 rw[hiP,zhG H (k+1) (by omega) j rs H hlen]
 by_cases h0:H.getD j 0=0
 ·have hnd:=(h.zero j).1 h0
  by_cases hx:∃x∈rs,x.l.toNat=j∧highN H x.r=k+1
  ·rw[if_pos ⟨h0,hx⟩]
   obtain⟨x,hx,e,h1⟩:=hx
   obtain⟨h2,h3⟩:=zc6 h1
   have hd:Der rs (k+1) (j:Int):=⟨x,hx,by have:=hl x hx;omega,fun z hz hn'=>by
    have:=(h.pos _).1 (h3 z hz hn')
    rwa [Int.toNat_of_nonneg (by omega)]at this⟩
   constructor
   ·rintro rfl
    exact⟨Nat.le_refl _,hd,hnd⟩
   ·rintro⟨h4,h5,h6⟩
    rcases Nat.lt_or_ge m (k+1) with h7|h7
    ·exact absurd (h5.le (by omega)) hnd
    ·omega
  ·rw[if_neg (fun q=>hx q.2),h0]
   constructor
   ·intro e;omega
   ·rintro⟨h4,h5,h6⟩
    exfalso
    rcases Nat.lt_or_ge m (k+1) with h7|h7
    ·exact hnd (h5.le (by omega))
    ·have:m=k+1:=by omega
     subst this
     obtain⟨x,hx',e,h8⟩:=h5
     have h9:=hrule x hx' h8
     have h10:topH H x.r=k:=by
      rcases Nat.lt_or_ge (topH H x.r) k with h11|h11
      ·exfalso
       refine hnd ?_
       have h12:=topH_le.1 (Nat.le_refl (topH H x.r))
       refine Der.le (show topH H x.r+1≤k by omega) ⟨x,hx',e,fun z hz hn'=>?_⟩
       have h13:0<H.getD (-1-z).toNat 0:=(h.pos _).2 (by rw[Int.toNat_of_nonneg (by omega)];exact h8 z hz hn')
       have h14:=((h _ _ h13).1 rfl).2.1
       rw[Int.toNat_of_nonneg (by omega)]at h14
       exact h14.le (h12 z hz hn')
      ·omega
     exact hx ⟨x,hx',by rw[e];simp,by rw[h9.2,h10]⟩
 ·rw[if_neg (fun q=>h0 q.1)]
  have h1:=h.le j
  constructor
  ·intro e
   have:=(h j m hm).1 e
   exact⟨by omega,this.2⟩
  ·rintro⟨h2,h3,h4⟩
   refine(h j m hm).2 ⟨?_,h3,h4⟩
   rcases Nat.lt_or_ge m (k+1) with h5|h5
   ·omega
   ·have:m=k+1:=by omega
    subst this
    exact absurd ((h.pos j).1 (by omega)) h4
theorem zbY {rs:List Rl} {n:Nat} (hl:Lin n rs) (k:Nat):zbm rs k (hiN rs k (List.replicate n 0)):=by
 induction k with
 | zero =>
  intro j m hm
  rw[hiN,List.getD_eq_getElem?_getD,List.getElem?_replicate]
  constructor
  ·intro e;split at e <;> simp at e <;> omega
  ·rintro⟨h1,_⟩;omega
 | succ k ih=>rw[hiN];exact ih.next hl (by rw[hiN_len];simp)
theorem zbl {rs:List Rl} {n:Nat} (hl:Lin n rs) {j:Int} (h:Gn true rs j):Der rs n j:=by
 let F:List Bool→List Bool:=fun is=>(List.range n).map fun i:Nat=>is.getD i false||tr (∃x∈rs,x.l=(i:Int)∧∀z∈x.r,z<0→is.getD (-1-z).toNat false=true)
 have hat:∀(is:List Bool) (i:Nat),i<n→((F is).getD i false=true↔is.getD i false=true ∨ ∃x∈rs,x.l=(i:Int)∧∀z∈x.r,z<0→is.getD (-1-z).toNat false=true):=fun is i hi=>by
  show((List.range n).map _).getD i false=true↔_
  rw[List.getD_eq_getElem?_getD,List.getElem?_map,List.getElem?_range hi]
  show(is.getD i false||tr _)=true↔_
  rw[Bool.or_eq_true,tr_iff]
 let f:List Bool→List Bool:=fun is=>if is.length=n then F is else is
 have hf:∀s,Le s (f s):=fun s=>by
  show Le s (if s.length=n then F s else s)
  split
  ·rename_i hs
   refine Le.of (by simp[F,hs]) fun i hi=>?_
   have hlt:i<n:=by
    rcases Nat.lt_or_ge i s.length with h1|h1
    ·omega
    ·rw[List.getD_eq_getElem?_getD,List.getElem?_eq_none h1]at hi;cases hi
   exact(hat s i hlt).2 (.inl hi)
  ·exact Le.refl s
 have h0:(List.replicate n false).length=n:=by simp
 have hlen:∀m,(times f m (List.replicate n false)).length=n:=fun m=>by rw[←(times_le hf m _).len,h0]
 have hstep:∀m,times f (m+1) (List.replicate n false)=F (times f m (List.replicate n false)):=fun m=>by rw[times];exact if_pos (hlen m)
 have key:∀m (i:Nat),i<n→((times f m (List.replicate n false)).getD i false=true↔Der rs m (i:Int)):=by
  intro m
  induction m with
  | zero =>
   intro i _
   exact⟨fun hi=>absurd ((zii.none (fun _=>False) _) i hi) id,fun hi=>hi.elim⟩
  | succ m ih =>
   intro i hi
   rw[hstep,hat _ i hi]
   constructor
   ·rintro(h1|⟨x,hx,e,h1⟩)
    ·exact((ih i hi).1 h1).more
    ·refine⟨x,hx,e,fun z hz hn=>?_⟩
     have h2:=h1 z hz hn
     have hlt:(-1-z).toNat<n:=by
      rcases Nat.lt_or_ge (-1-z).toNat n with h3|h3
      ·exact h3
      ·rw[List.getD_eq_getElem?_getD,List.getElem?_eq_none (by rw[hlen];exact h3)]at h2;cases h2
     have:=(ih _ hlt).1 h2
     rwa [Int.toNat_of_nonneg (by omega)]at this
   ·rintro⟨x,hx,e,h1⟩
    refine .inr ⟨x,hx,e,fun z hz hn=>?_⟩
    have h2:=h1 z hz hn
    have h3:=h2.gn.lin hl
    refine(ih _ (by omega)).2 ?_
    rw[Int.toNat_of_nonneg h3.1];exact h2
 have hfix:=zcM hf (List.replicate n false)
 rw[h0]at hfix
 have e:f (times f n (List.replicate n false))=F (times f n (List.replicate n false)):=if_pos (hlen _)
 rw[e]at hfix
 have hdown:∀j:Int,Der rs (n+1) j→Der rs n j:=fun j hd=>by
  have h1:=hd.gn.lin hl
  have h2:=(key n j.toNat (by omega)).1 (by
   rw[←hfix,←hstep]
   exact(key (n+1) j.toNat (by omega)).2 (by rw[Int.toNat_of_nonneg h1.1];exact hd))
  rwa [Int.toNat_of_nonneg h1.1]at h2
 have hany:∀k (j:Int),Der rs k j→Der rs n j:=by
  intro k
  induction k with
  | zero=>intro j hd;exact hd.elim
  | succ k ih =>
   rintro j ⟨x,hx,e,h1⟩
   exact hdown j ⟨x,hx,e,fun z hz hn=>ih _ (h1 z hz hn)⟩
 obtain⟨k,hk⟩:=zhR h
 exact hany k j hk
theorem hgt_hi {G:Gr} (h:Ok G):Hgt G (hiN G.rs G.ns.length (List.replicate G.ns.length 0)):=by
 have hl:=h.lin
 have hk:=zbY hl G.ns.length
 have hlen:(hiN G.rs G.ns.length (List.replicate G.ns.length 0)).length=G.ns.length:=by rw[hiN_len];simp
 generalize hiN G.rs G.ns.length (List.replicate G.ns.length 0)=H at *
 have hpos:∀j:Int,Gn true G.rs j→0<H.getD j.toNat 0:=fun j hj=>(hk.pos _).2 (by rw[Int.toNat_of_nonneg (hj.lin hl).1];exact zbl hl hj)
 have hder:∀z:Int,z<0→0<H.getD (-1-z).toNat 0→Der G.rs (H.getD (-1-z).toNat 0) (-1-z):=fun z hz hp=>by
  have:=((hk _ _ hp).1 rfl).2.1
  rwa [Int.toNat_of_nonneg (by omega)]at this
 have hle:∀x∈G.rs,Al true G.rs x.r→H.getD x.l.toNat 0≤topH H x.r+1:=fun x hx ha=>by
  refine hk.der _ _ ?_ (hpos _ (.of hx ha))
  rw[Int.toNat_of_nonneg (hl x hx).1]
  refine⟨x,hx,rfl,fun z hz hn=>?_⟩
  exact(hder z hn (hpos _ (ha.2 z hz hn))).le (topH_le.1 (Nat.le_refl _) z hz hn)
 refine⟨hlen,fun j hj=>?_,hle,fun j hj hp=>?_⟩
 ·rw[hk.pos]
  exact⟨fun hd=>hd.gn,zbl hl⟩
 ·have h1:=hpos _ hp
  rw[Int.toNat_natCast]at h1
  obtain⟨h2,h3,_⟩:=(hk j _ h1).1 rfl
  obtain⟨m,hm⟩:∃m,H.getD j 0=m+1:=⟨H.getD j 0-1,by omega⟩
  rw[hm]at h3
  obtain⟨x,hx,e,h4⟩:=h3
  have ha:Al true G.rs x.r:=⟨fun _ _ _=>rfl,fun z hz hn=>(h4 z hz hn).gn⟩
  refine⟨x,hx,e,ha,?_⟩
  have h5:=hle x hx ha
  rw[e,Int.toNat_natCast]at h5
  have h6:topH H x.r≤m:=topH_le.2 fun z hz hn=>hk.der _ _ (by rw[Int.toNat_of_nonneg (by omega)];exact h4 z hz hn) (hpos _ (ha.2 z hz hn))
  omega
def hts (G:Gr):List Nat:=hiN G.rs G.ns.length (List.replicate G.ns.length 0)
def isBest (H:List Nat) (j:Nat) (x:Rl):Bool:=x.l==(j:Int)&&decide (0<H.getD j 0)&&highN H x.r==H.getD j 0
def best1 (G:Gr) (H:List Nat) (j:Nat):Int:=match (List.range G.rs.length).find? (fun i=>(G.rs[i]?).any (isBest H j)) with
 | some i=>i
 | none=>-1
def best (G:Gr) (H:List Nat):List Int:=(List.range G.ns.length).map (best1 G H)
end Gm
namespace Gm
theorem hts_le {G:Gr} (h:Ok G) (j:Nat):(hts G).getD j 0≤G.ns.length:=(zbY h.lin G.ns.length).le j
def zh2 (G:Gr) (k:Int):Rl:=G.rs.getD k.toNat ⟨0,[],0⟩
theorem best_of {G:Gr} (h:Ok G) {j:Nat} (hp:Gn true G.rs (j:Int)):∃i:Nat,best1 G (hts G) j=(i:Int)∧∃hi:i<G.rs.length,(G.rs[i]).l=(j:Int)∧Al true G.rs (G.rs[i]).r∧(hts G).getD j 0=topH (hts G) (G.rs[i]).r+1∧∀k (hk:k<i),isBest (hts G) j (G.rs[k]'(by omega))=false:=by
 have hH:Hgt G (hts G):=hgt_hi h
 have hl:=h.lin
 have hj:=hp.lin hl
 have hpos:=(hH.p j (by omega)).2 hp
 obtain⟨x,hx,e,ha,e2⟩:=hH.ex j (by omega) hp
 have hkn:∀r:List Int,Al true G.rs r→∀z∈r,z<0→0<(hts G).getD (-1-z).toNat 0:=fun r ha z hz hn=>by
  have h1:=ha.2 z hz hn
  have h2:=h1.lin hl
  refine(hH.p _ (by omega)).2 ?_
  rw[Int.toNat_of_nonneg h2.1];exact h1
 have hb:isBest (hts G) j x=true:=by
  unfold isBest
  rw[highN_of (hkn x.r ha),e,←e2]
  simp
  exact hpos
 obtain⟨n,hn,e3⟩:=List.getElem_of_mem hx
 have hs:((List.range G.rs.length).find? fun i=>(G.rs[i]?).any (isBest (hts G) j)).isSome=true:=by
  rw[List.find?_isSome]
  exact⟨n,List.mem_range.2 hn,by rw[List.getElem?_eq_getElem hn,e3];exact hb⟩
 unfold best1
 rcases hf:(List.range G.rs.length).find? (fun i=>(G.rs[i]?).any (isBest (hts G) j)) with _|i
 ·rw[hf]at hs;cases hs
 ·have h1:=List.find?_some hf
  have hi:=List.mem_range.1 (List.mem_of_find?_eq_some hf)
  simp only[List.getElem?_eq_getElem hi,Option.any_some]at h1
  have h2:=h1
  unfold isBest at h1
  rw[Bool.and_eq_true,Bool.and_eq_true,beq_iff_eq,decide_eq_true_eq,beq_iff_eq]at h1
  obtain⟨m,hm⟩:∃m,(hts G).getD j 0=m+1:=⟨(hts G).getD j 0-1,by omega⟩
  have h3:=zc6 (h1.2.trans hm)
  refine⟨i,rfl,hi,h1.1.1,⟨fun _ _ _=>rfl,fun z hz hn=>?_⟩,by omega,fun k hk=>?_⟩
  ·have h4:=h3.2 z hz hn
   rcases Nat.lt_or_ge (-1-z).toNat G.ns.length with h5|h5
   ·have:=(hH.p _ h5).1 h4
    rwa [Int.toNat_of_nonneg (by omega)]at this
   ·exfalso
    have:(hts G).length=G.ns.length:=hH.n
    rw[List.getD_eq_getElem?_getD,List.getElem?_eq_none (by omega)]at h4
    simp at h4
  ·have h4:=(List.find?_eq_some_iff_getElem.1 hf).2
   obtain⟨a,ha1,ha2,ha3⟩:=h4
   rw[List.getElem_range]at ha2
   subst ha2
   have:=ha3 k hk
   rw[List.getElem_range,List.getElem?_eq_getElem (by omega),Option.any_some]at this
   simpa using this
theorem zdc {G:Gr} (h:Ok G) {j:Nat} (hj:j<G.ns.length) (hp:¬Gn true G.rs (j:Int)):best1 G (hts G) j = -1:=by
 unfold best1
 rcases hf:(List.range G.rs.length).find? (fun i=>(G.rs[i]?).any (isBest (hts G) j)) with _|i
 ·rfl
 ·exfalso
  have h1:=List.find?_some hf
  have hi:=List.mem_range.1 (List.mem_of_find?_eq_some hf)
  simp only[List.getElem?_eq_getElem hi,Option.any_some]at h1
  unfold isBest at h1
  rw[Bool.and_eq_true,Bool.and_eq_true,decide_eq_true_eq]at h1
  exact hp (((hgt_hi h).p j hj).1 h1.1.2)
theorem best_at {G:Gr} {j:Nat} (hj:j<G.ns.length):(best G (hts G)).getD j (-1)=best1 G (hts G) j:=by
 unfold best
 rw[List.getD_eq_getElem?_getD,List.getElem?_map,List.getElem?_range hj];rfl
def lrt (G:Gr) (z:Int):List Int:=(zh2 G ((best G (hts G)).getD (-1-z).toNat (-1))).r
def lnm (G:Gr) (z:Int):Nat:=((best G (hts G)).getD (-1-z).toNat (-1)).toNat
def ltr (G:Gr):Nat→List Int→List Nat
 | 0,_=>[]
 | f+1,l=>l.flatMap fun z=>if 0≤z then [] else lnm G z::ltr G f (lrt G z)
def lwd (G:Gr):Nat→List Int→List Int
 | 0,l=>l.flatMap fun z=>if 0≤z then [z] else []
 | f+1,l=>l.flatMap fun z=>if 0≤z then [z] else lwd G f (lrt G z)
abbrev Pr (G:Gr) (l:List Int):Prop:=∀z∈l,z<0→Gn true G.rs (-1-z)
theorem lrt_of {G:Gr} (h:Ok G) {z:Int} (hz:z<0) (hp:Gn true G.rs (-1-z)):Pr G (lrt G z)∧(hts G).getD (-1-z).toNat 0=topH (hts G) (lrt G z)+1∧lnm G z<G.rs.length:=by
 have hj:=hp.lin h.lin
 have hp':Gn true G.rs ((-1-z).toNat:Int):=by rw[Int.toNat_of_nonneg hj.1];exact hp
 obtain⟨i,e,hi,_,ha,e2,_⟩:=best_of h hp'
 have hb:=best_at (G:=G) (j:=(-1-z).toNat) (by omega)
 unfold lrt lnm zh2
 rw[hb,e]
 have e3:G.rs.getD (i:Int).toNat ⟨0,[],0⟩=G.rs[i]:=by simp[List.getD_eq_getElem?_getD,hi]
 rw[e3]
 exact⟨fun y hy hn=>ha.2 y hy hn,e2,by simpa using hi⟩
theorem zat {α β:Type} {l:List α} {f g:α→List β} (h:∀x∈l,f x=g x):l.flatMap f=l.flatMap g:=by
 induction l with
 | nil=>rfl
 | cons x l ih=>rw[List.flatMap_cons,List.flatMap_cons,h x (List.mem_cons_self ..),ih fun y hy=>h y (List.mem_cons_of_mem _ hy)]
theorem zdV {G:Gr} (h:Ok G):∀(f:Nat) (l:List Int),Pr G l→topH (hts G) l≤f→ltr G f l=ltr G (f+1) l
 | 0,l,hp,ht=>by
  rw[ltr,ltr]
  have:∀z∈l,0≤z:=fun z hz=>by
   rcases Int.lt_or_le z 0 with h1|h1
   ·have h2:=topH_le.1 ht z hz h1
    have h3:=(lrt_of h h1 (hp z hz h1)).2.1
    omega
   ·exact h1
  rw[zat (g:=fun _=>[]) fun z hz=>if_pos (this z hz)]
  simp
 | f+1,l,hp,ht=>by
  rw[ltr,ltr]
  refine zat fun z hz=>?_
  by_cases h0:0≤z
  ·rw[if_pos h0,if_pos h0]
  ·rw[if_neg h0,if_neg h0]
   have h1:=lrt_of h (by omega) (hp z hz (by omega))
   have h2:=topH_le.1 ht z hz (by omega)
   rw[zdV h f _ h1.1 (by omega)]
theorem zdT {G:Gr} (h:Ok G):∀(f:Nat) (l:List Int),Pr G l→topH (hts G) l≤f→lwd G f l=lwd G (f+1) l
 | 0,l,hp,ht=>by
  rw[lwd,lwd]
  refine zat fun z hz=>?_
  by_cases h0:0≤z
  ·rw[if_pos h0,if_pos h0]
  ·have h2:=topH_le.1 ht z hz (by omega)
   have h3:=(lrt_of h (show z<0 by omega) (hp z hz (by omega))).2.1
   omega
 | f+1,l,hp,ht=>by
  rw[lwd,lwd]
  refine zat fun z hz=>?_
  by_cases h0:0≤z
  ·rw[if_pos h0,if_pos h0]
  ·rw[if_neg h0,if_neg h0]
   have h1:=lrt_of h (by omega) (hp z hz (by omega))
   have h2:=topH_le.1 ht z hz (by omega)
   rw[zdT h f _ h1.1 (by omega)]
def ltree (G:Gr) (l:List Int):List Nat:=ltr G G.ns.length l
def lword (G:Gr) (l:List Int):List Int:=lwd G G.ns.length l
theorem top_le {G:Gr} (h:Ok G) (l:List Int):topH (hts G) l≤G.ns.length:=topH_le.2 fun _ _ _=>hts_le h _
theorem za3 {G:Gr} (h:Ok G) {l:List Int} (hp:Pr G l):ltree G l=l.flatMap fun z=>if 0≤z then [] else lnm G z::ltree G (lrt G z):=by
 unfold ltree
 rw[zdV h _ l hp (top_le h l)]
 rfl
theorem za1 {G:Gr} (h:Ok G) {l:List Int} (hp:Pr G l):lword G l=l.flatMap fun z=>if 0≤z then [z] else lword G (lrt G z):=by
 unfold lword
 rw[zdT h _ l hp (top_le h l)]
 rfl
theorem zbQ {G:Gr} (h:Ok G) {a b:List Int} (ha:Pr G a) (hb:Pr G b):ltree G (a++b)=ltree G a++ltree G b:=by
 rw[za3 h ha,za3 h hb,za3 h (fun z hz hn=>(List.mem_append.1 hz).elim (fun k=>ha z k hn) (fun k=>hb z k hn)),List.flatMap_append]
theorem zbP {G:Gr} (h:Ok G) {a b:List Int} (ha:Pr G a) (hb:Pr G b):lword G (a++b)=lword G a++lword G b:=by
 rw[za1 h ha,za1 h hb,za1 h (fun z hz hn=>(List.mem_append.1 hz).elim (fun k=>ha z k hn) (fun k=>hb z k hn)),List.flatMap_append]
theorem ltree_nil (G:Gr) (h:Ok G):ltree G []=[]:=by rw[za3 h (fun z hz=>by cases hz)];rfl
theorem lword_nil (G:Gr) (h:Ok G):lword G []=[]:=by rw[za1 h (fun z hz=>by cases hz)];rfl
theorem za4 {G:Gr} (h:Ok G) {z:Int} {l:List Int} (hp:Pr G (z::l)):ltree G (z::l)=(if 0≤z then [] else lnm G z::ltree G (lrt G z))++ltree G l:=by
 rw[za3 h hp,za3 h (fun y hy=>hp y (List.mem_cons_of_mem _ hy)),List.flatMap_cons]
theorem za2 {G:Gr} (h:Ok G) {z:Int} {l:List Int} (hp:Pr G (z::l)):lword G (z::l)=(if 0≤z then [z] else lword G (lrt G z))++lword G l:=by
 rw[za1 h hp,za1 h (fun y hy=>hp y (List.mem_cons_of_mem _ hy)),List.flatMap_cons]
end Gm
end Go.Proofs.YtcgclkndkahgaaaGreat
