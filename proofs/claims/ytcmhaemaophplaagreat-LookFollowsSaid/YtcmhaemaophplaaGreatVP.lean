/- Part of the proofs over this program: FstRef3, WalkFollows16, RowKit. -/
import Derived.Test.YtcmhaemaophplaaGreatRows
import Derived.SizedLaws
import Derived.LaidMore
import Derived.Stop.Joined
import Derived.ShutString
import Derived.ChangeOld
import Derived.Test.YtcmhaemaophplaaGreatVO
namespace Go.Proofs.YtcmhaemaophplaaGreat
set_option maxRecDepth 100000
set_option maxHeartbeats 40000000
open Go.RowKit
theorem FwP.fold {G:Gm.Gr} (hf:Gm.Fit G) (hok:Gm.Ok G):∀(xs:List Gm.Rl) (s:List Nat),(∀x∈xs,x∈G.rs)->FwP G s->FwP G (xs.foldl (Gm.fwNX (Gm.gn false G.rs G.ns.length) (Gm.fst G)) s)
 | [],_,_,h=>h
 | x::xs,s,hx,h=>FwP.fold hf hok xs _ (fun y hy=>hx y (List.mem_cons_of_mem _ hy)) (FwP.step hf hok (hx x (List.mem_cons_self ..)) _ s (fun _ h=>h) h)
theorem FwP.times {G:Gm.Gr} (hf:Gm.Fit G) (hok:Gm.Ok G) (n:Nat):FwP G (Gm.timesN (fun s=>G.rs.foldl (Gm.fwNX (Gm.gn false G.rs G.ns.length) (Gm.fst G)) s) n (Gm.flw0 G)):=by
 induction n with
 | zero=>exact FwP.start hok
 | succ n ih=>exact ih.fold hf hok _ _ (fun _ h=>h)
structure R12 (w wr:World) (g1 g5:Nat) (a:Array Value) (T:List Bool) (F:List Nat):Prop where
 t:UBO wr g1 T
 f:UBZ wr g5 F
 o:One w a wr
theorem R12.alloc {w wr:World} {g1 g5:Nat} {a:Array Value} {T:List Bool} {F:List Nat} (h:R12 w wr g1 g5 a T F) (x:Obj):R12 w (wr.alloc x) g1 g5 a T F:=⟨h.t.alloc x,h.f.alloc x,h.o.alloc x⟩
theorem R12.drewN {w wr:World} {g1 g5:Nat} {a:Array Value} {T:List Bool} {F:List Nat} (h:R12 w wr g1 g5 a T F) (n:Nat):R12 w (wr.drewN n) g1 g5 a T F:=⟨h.t,h.f,h.o.drewN n⟩
theorem R12.put {w wr:World} {g1 g5 gk:Nat} {a:Array Value} {T:List Bool} {F:List Nat} (h:R12 w wr g1 g5 a T F) (h1:g1≠gk) (h5:g5≠gk) (hw:w.heap.size+1<=gk) (m:Nat) (u:Value):R12 w (wr.setCell ⟨gk,m,none⟩ u) g1 g5 a T F:=⟨h.t.far h1 u,h.f.far h5 u,Below.setCell (p:=⟨gk,m,none⟩) h.o hw u⟩
theorem zcU (v:Value) (G:Gm.Gr) (B:Nat) (w:World) (hg:aT w B v G) (hf:Gm.Fit G) (hB:B<=w.heap.size) :
  Calls Tryz.prog 17 #[v] w (zi6 (Gm.right G) (Gm.flw G) w):=by
 have H1:=aA (fun(x:World) (h:Below w.heap.size w x)=>zbr v G B x (hg.below h hB) hf (Nat.le_trans hB h.size));have HNU:=aA (fun(q:Gm.right G=true) (x:World) (h:Below w.heap.size w x)=>(show Calls _ _ _ _ (zh1 _ _) from(zbj v G B x (hg.below h hB) hf (Nat.le_trans hB h.size)).mono fun e w' k=>k.1 q));have HFI:=aA (fun(q:Gm.right G=true) (x:World) (h:Below w.heap.size w x)=>(show Calls _ _ _ _ (zeF _ _) from(zdz v G B x (hg.below h hB) hf (Nat.le_trans hB h.size)).mono fun e w' k=>k.1 q));obtain⟨AT,cT,AN,cN,AR,cR,rfl,_,⟨hlN,hmN⟩,⟨hlR,hmR⟩,_,_,hR⟩:=hg;obtain⟨ga,hga⟩:∃ga:Array Value,ga=#[.slice AT G.ts.length cT,.slice AN G.ns.length cN,.slice AR G.rs.length cR,.int .i64 G.st]:=⟨_,rfl⟩
 have HS0:=aA (One.start w #[.slice AT G.ts.length cT,.slice AN G.ns.length cN,.slice AR G.rs.length cR,.int .i64 G.st]);have HRl:=aA hR;have HB:=aA hB;have HFT:=aA hf;clear hf hR hB;cases q:Gm.right G
 ·rw[q]at H1;clear q
  go_enter Tryz.func17,Tryz.ntmps17
  go_wp2_with fail
  refine(H1.o _ HS0.o.below).mono ?_;rintro _ w2 ⟨rfl,hb⟩;have HB2:=aA (HS0.o.on hb);clear hb;go_wp2;go_ret
  exact⟨fun h=>by simp at h,fun _=>⟨rfl,HB2.o.below⟩⟩
 ·have HOK:=aA (Gm.right_ok.1 q);have HN:Hid (G.ns.length<=40):=aA (by have:=(Gm.nons_iff G).1 HOK.o.n;omega);have HT24:=aA ((Gm.terms_iff G.ts).1 HOK.o.t).1;have HNU:=aA (HNU.o q);have HFI:=aA (HFI.o q);rw[q]at H1;clear q;have hnn:=HN.o;have hlen:(G.ns.length:Int)<=9223372036854775807:=by omega
  have hlen2:(G.rs.length:Int)<=9223372036854775807:=by omega
  unfold zh1 at HNU;unfold zeF at HFI;rw[Gm.gn_len]at HNU;rw[Gm.fst_len]at HFI;obtain⟨T,hT⟩:∃x,x=Gm.gn false G.rs G.ns.length:=⟨_,rfl⟩
  have HTl:Hid (T.length=G.ns.length):=aA (by rw[hT,Gm.gn_len]);obtain⟨F,hF⟩:∃x,x=Gm.fst G:=⟨_,rfl⟩
  have HFl:Hid (F.length=G.ns.length):=aA (by rw[hF,Gm.fst_len]);have HFu:Hid (Gm.U32 F):=aA (by rw[hF];exact Gm.fst_u32 HOK.o);obtain⟨f,hfd⟩:∃f,f=Gm.fwNX T F:=⟨_,rfl⟩
  have HFD:=aA hfd;have HPT:Hid (∀n,FwP G (Gm.timesN (fun s=>G.rs.foldl f s) n (Gm.flw0 G))):=aA (fun n=>by rw[hfd,hT,hF];exact FwP.times HFT.o HOK.o n);have HFST:Hid (Gm.timesN (fun s=>G.rs.foldl f s) G.ns.length (Gm.flw0 G)=Gm.flw G):=aA (by rw[hfd,hT,hF];rfl);have HFF:Hid (∀(xs:List Gm.Rl) (s:List Nat),(∀x∈xs,x∈G.rs)->FwP G s->FwP G (xs.foldl f s)):=aA (fun xs s hx h=>by rw[hfd,hT,hF];exact h.fold HFT.o HOK.o xs s hx);have HFS:Hid (∀(x:Gm.Rl) (ys:List (Int×List Int)) (s:List Nat),x∈G.rs->(∀y∈ys,y∈Gm.sufs x.r)->FwP G s->FwP G (ys.foldl (Gm.fwN1 T F x.l) s)):=aA (fun x ys s hx hy h=>by rw[hT,hF];exact FwP.step HFT.o HOK.o hx ys s hy h);rw[<-hT]at HNU;rw[<-hF]at HFI;clear hT hF hfd
  go_enter Tryz.func17,Tryz.ntmps17
  go_upto_region 3 with fail
  refine(H1.o _ HS0.o.below).mono ?_;rintro _ w2 ⟨rfl,hb⟩;have HB2:=aA (HS0.o.on hb);clear hb;go_upto_region 3 with fail
  have hd1:w.heap.size<w2.heap.size:=HB2.o.size;have q0:=fun y:Calm.On w2.heap.size w2=>(y.2.cell (p:=⟨w.heap.size,0,none⟩) hd1).trans (HB2.o.c 0 _ rfl);have q1:=fun y:Calm.On w2.heap.size w2=>(y.2.cell (p:=⟨w.heap.size,1,none⟩) hd1).trans (HB2.o.c 1 _ rfl);have q2:=fun y:Calm.On w2.heap.size w2=>(y.2.cell (p:=⟨w.heap.size,2,none⟩) hd1).trans (HB2.o.c 2 _ rfl);have q3:=fun y:Calm.On w2.heap.size w2=>(y.2.cell (p:=⟨w.heap.size,3,none⟩) hd1).trans (HB2.o.c 3 _ rfl);have HSB:Hid (∀z,Below w2.heap.size w2 z->∃q:Calm.On w2.heap.size w2,z=q.1):=aA (fun z hz=>⟨⟨z,hz⟩,rfl⟩);have HD:Hid (Below w2.heap.size w2 w2.drew):=aA (aB (Below.refl _ _) 1);refine CalmN.region_tree (fun x=>∃y:Calm.On w2.heap.size w2,x=y.1) (.one [0,2] 1 (.one [] 3 (.fin [4,5]))) (by kernel_rfl) (by kernel_rfl) (fun _ _ d _ _ h=>by cases d <;> exact h) ⟨⟨w2.drew,HD.o⟩,rfl⟩ ?_;simp only[CalmN.wpT,CalmN.wpSt,CalmN.pickOps,List.getElem?_toArray,List.getElem?_cons_zero,List.getElem?_cons_succ];repeat (go_big_quiet_step (fail))
  refine wpQuiet_nil ?_;generalize w2.drew=wd at *;clear q0 q1 q2 q3 H1 HS0;intro KK hKK;rw[if_pos (by rfl)];go_wp2_with fail
  refine(HNU.o wd (HB2.o.on HD.o).below).mono ?_;rintro _ w3 ⟨g1,rfl,hg1,hu1,hb⟩;have HB3:=aA (HD.o.trans (hb.mono HD.o.size));have HU1:=aA hu1;have HG1:=aA (Nat.le_trans HD.o.size hg1);clear hb hu1 hg1;go_wp2_with fail
  refine hKK _ _ (HSB.o _ HB3.o) (fun x=>∃y:Calm.On w2.heap.size w2,x=y.1) (fun _ h=>h) (HSB.o _ HB3.o) ?_;clear hKK;refine wpQuiet_nil ?_;intro KK hKK;rw[if_pos (by rfl)];go_wp2_with fail
  refine(HFI.o w3 (HB2.o.on HB3.o).below).mono ?_;rintro _ w4 ⟨g5,rfl,hg5,hu5,hb⟩;have HB4:=aA (HB3.o.trans (hb.mono HB3.o.size));have HR4:Hid (R12 w w4 g1 g5 #[.slice AT G.ts.length cT,.slice AN G.ns.length cN,.slice AR G.rs.length cR,.int .i64 G.st] T F):=aA ⟨HU1.o.below hb HU1.o.lt,hu5,HB2.o.on HB4.o⟩;clear hb hu5 hg5 HNU HFI;go_wp2_with fail
  refine hKK _ _ (HSB.o _ HB4.o) (fun x=>∃y:Calm.On w2.heap.size w2,x=y.1) (fun _ h=>h) (HSB.o _ HB4.o) ?_;clear hKK;repeat (go_big_quiet_step (fail))
  refine wpQuiet_nil ?_;have q1:=HR4.o.o.c 1 _ rfl;have hd4:w.heap.size<w4.heap.size:=HR4.o.o.size;clear HB2 HB3 HB4 HU1 HG1 HSB HD hd1;go_upto_region 5 with(at_make;refine zg5 rfl (.tmp 20) (.tmp 20) _ rfl Tryz.underlying41 G.ns.length _ _ rfl rfl rfl rfl (by omega) ?_;intro w5 hu hb hlt5)
  have HGK:=aA (And.intro HR4.o.t.lt (And.intro HR4.o.f.lt (show w.heap.size+1<=w4.heap.size from HR4.o.o.size)));have HR5:Hid (R12 w w5 g1 g5 #[.slice AT G.ts.length cT,.slice AN G.ns.length cN,.slice AR G.rs.length cR,.int .i64 G.st] T F):=aA ⟨HR4.o.t.below hb HR4.o.t.lt,HR4.o.f.below hb HR4.o.f.lt,HR4.o.o.on hb⟩;have HU5:Hid (UBZ w5 w4.heap.size (List.replicate G.ns.length 0)):=aA (by unfold UBZ;rw[zgh];exact hu);clear hu hb HR4 hd4 q1;generalize w4.heap.size=gk at *;have hgx:=(Below.block HR5.o.o w.heap.size (by omega)).trans (heap_alloc_new w _);have hst:=HOK.o.s0;have hst1:=HOK.o.s1;obtain⟨ms,hm⟩:∃m:Nat,G.st=(m:Int):=⟨G.st.toNat,by omega⟩
  have HM:=aA hm;have HSR:Hid (∀z,z.heap[w.heap.size]?=w5.heap[w.heap.size]?->∃q:Calm.OnB w.heap.size w5,z=q.1):=aA (fun z hz=>⟨⟨z,hz⟩,rfl⟩);have q0:=fun z:Calm.OnB w.heap.size w5=>cell_of_row z.1 _ 0 _ _ _ (z.2.trans hgx);have q3:=fun z:Calm.OnB w.heap.size w5=>cell_of_row z.1 _ 3 _ _ _ (z.2.trans hgx);have hme:(2:Nat) ^ G.ts.length=S.bit (G.ts.length:Int):=(S.bit_nat (by have:=HT24.o;omega)).symm;have HFL0:Hid ((List.replicate G.ns.length 0).set ms (S.bit (G.ts.length:Int))=Gm.flw0 G):=aA (by unfold Gm.flw0;rw[HM.o,hme];simp);have HBI:=aA (fun w=>zeR (G.ts.length:Int) w (by have:=HT24.o;omega));generalize S.bit (G.ts.length:Int)=vb at *;have hms:ms<G.ns.length:=by omega
  have hms2:(ms:Int)<(G.ns.length:Int):=by omega
  have HMS:=aA hms;rw[hm]at q3;clear hst hst1 hgx hme hm hms;have hlt1:w.heap.size<w5.heap.size:=HR5.o.o.size;go_upto_region 5 with fail
  refine CalmN.region_tree (fun x=>∃z:Calm.OnB w.heap.size w5,x=z.1) (.one [0,1,2,3,4,5] 6 (.one [7] 8 (.fin []))) (by kernel_rfl) (by kernel_rfl) (fun _ _ d _ _ h=>by cases d <;> exact h) ⟨⟨w5.drew,rfl⟩,rfl⟩ ?_;simp only[CalmN.wpT,CalmN.wpSt,CalmN.pickOps,List.getElem?_toArray,List.getElem?_cons_zero,List.getElem?_cons_succ];repeat (go_big_quiet_step (fail))
  refine wpQuiet_nil ?_;have HRD:=aA (HR5.o.drewN 1);have HUD:=aA (HU5.o.drewN 1);have HED:Hid (w5.drew.heap[w.heap.size]?=w5.heap[w.heap.size]?):=aA rfl;rw[show w5.drewN 1=w5.drew from rfl]at HRD HUD;generalize w5.drew=wd at *;clear q0 q3 HR5 HU5;intro KK hKK;rw[if_pos (by rfl)];go_wp2_with fail
  refine(HBI.o wd).mono ?_;rintro _ we ⟨rfl,q,hq⟩;have HRE:Hid (R12 w we g1 g5 #[.slice AT G.ts.length cT,.slice AN G.ns.length cN,.slice AR G.rs.length cR,.int .i64 G.st] T F):=aA (by rw[hq];exact HRD.o.drewN q);have HUE:Hid (UBZ we gk (List.replicate G.ns.length 0)):=aA (by rw[hq];exact HUD.o.drewN q);have HEE:Hid (we.heap[w.heap.size]?=w5.heap[w.heap.size]?):=aA (by rw[hq];exact HED.o);clear hq HBI HRD HUD;go_wp2_with fail
  refine hKK _ _ (HSR.o _ HEE.o) (fun x=>∃z:Calm.OnB w.heap.size w5,x=z.1) (fun _ h=>h) (HSR.o _ HEE.o) ?_;clear hKK;repeat (go_big_quiet_step (fail))
  refine wpQuiet_nil ?_;have u5:=HUE.o.cell ms (by rw[List.length_replicate];exact HMS.o);have f5:=HUE.o.frozen ms;have l5:=HUE.o.lt;obtain⟨wf,hwf⟩:∃y,y=we.setCell ⟨gk,ms,none⟩ (.int .u32 (vb:Int)):=⟨_,rfl⟩
  have HRF:Hid (R12 w wf g1 g5 #[.slice AT G.ts.length cT,.slice AN G.ns.length cN,.slice AR G.rs.length cR,.int .i64 G.st] T F):=aA (by rw[hwf];exact HRE.o.put (by have:=HGK.o;omega) (by have:=HGK.o;omega) HGK.o.2.2 _ _);have HUF:Hid (UBZ wf gk (Gm.flw0 G)):=aA (by rw[hwf,<-HFL0.o];exact HUE.o.set_ ms vb);have HEF:Hid (wf.heap[w.heap.size]?=w5.heap[w.heap.size]?):=aA (by rw[hwf];exact(Below.heap_setCell _ _ _ _ (by have:=HGK.o;simp only;omega)).trans HEE.o);intro KK hKK;rw[if_pos (by rfl)];go_wp2_with fail
  rw[<-hwf];refine hKK _ _ (HSR.o _ HEF.o) (fun x=>∃z:Calm.OnB w.heap.size w5,x=z.1) (fun _ h=>h) (HSR.o _ HEF.o) ?_;clear hKK u5 f5 l5 hwf HRE HUE HEE HEF HSR HED hms2 HMS HM HFL0 hlt1;refine wpQuiet_nil ?_;go_wp2;go_loopw [6] (fun vn wr=>∃n:Nat,n<=G.ns.length/\vn=.int .i64 n/\Hid (UBZ wr gk (Gm.timesN (fun s=>G.rs.foldl f s) n (Gm.flw0 G)))/\Hid (R12 w wr g1 g5 #[.slice AT G.ts.length cT,.slice AN G.ns.length cN,.slice AR G.rs.length cR,.int .i64 G.st] T F)) (fun vn _=>G.ns.length-(intOf vn).toNat)
  case atStart=>exact⟨0,Nat.zero_le _,rfl,HUF,HRF⟩
  case round =>
   obtain⟨n,hn,rfl,HU,HW⟩:=hrel;obtain⟨wo,hwo⟩:∃wo:World,wo=wr:=⟨_,rfl⟩
   subst hwo;have q1:=HW.o.o.c 1 _ rfl;have ld:w.heap.size<wo.heap.size:=HW.o.o.size;clear HUF HRF;by_cases hlt:n<G.ns.length
   ·have HP:=aA (HPT.o n);have HNX:Hid (Gm.timesN (fun s=>G.rs.foldl f s) (n+1) (Gm.flw0 G)=G.rs.foldl f (Gm.timesN (fun s=>G.rs.foldl f s) n (Gm.flw0 G))):=aA rfl;generalize Gm.timesN (fun s=>G.rs.foldl f s) n (Gm.flw0 G)=s at *;go_wp2;go_loopw [7] (fun vi wr=>∃i:Nat,i<=G.rs.length/\vi=.int .i64 i/\Hid (UBZ wr gk ((G.rs.take i).foldl f s))/\Hid (R12 w wr g1 g5 #[.slice AT G.ts.length cT,.slice AN G.ns.length cN,.slice AR G.rs.length cR,.int .i64 G.st] T F)) (fun vi _=>G.rs.length-(intOf vi).toNat)
    case atStart=>exact⟨0,Nat.zero_le _,rfl,HU,HW⟩
    case round =>
     clear HU HW q1 ld;obtain⟨i,hi,rfl,HU,HW⟩:=hrel;obtain⟨wi,hwi⟩:∃wi:World,wi=wr:=⟨_,rfl⟩
     subst hwi;have q2:=HW.o.o.c 2 _ rfl;have ld:w.heap.size<wi.heap.size:=HW.o.o.size;by_cases hlt2:i<G.rs.length
     ·obtain⟨g,o,rfl,hgB,hc⟩:=HRl.o (by omega);obtain⟨k0,⟨A',c',k1,hlc,_,hri⟩,k2⟩:=hc i hlt2;have k0:=(HW.o.o.below.cell (p:=⟨g,o+i*3,none⟩) (Nat.lt_of_lt_of_le hgB HB.o)).trans k0;have k1:=(HW.o.o.below.cell (p:=⟨g,o+i*3+1,none⟩) (Nat.lt_of_lt_of_le hgB HB.o)).trans k1;have k2:=(HW.o.o.below.cell (p:=⟨g,o+i*3+2,none⟩) (Nat.lt_of_lt_of_le hgB HB.o)).trans k2;have hgs:g<wi.heap.size:=by have:=HB.o;omega
      have hxm:G.rs[i]∈G.rs:=List.getElem_mem hlt2;have HXI:=aA (zk4 HFT.o HOK.o hxm);have HTK:=aA (Gm.fold_take (f:=f) hlt2 s);have HPC:=aA (HFF.o (G.rs.take i) s (fun x hx=>List.mem_of_mem_take hx) HP.o);have HPS:=aA (fun(ys:List (Int×List Int)) (t:List Nat)=>HFS.o G.rs[i] ys t hxm);have HRI:Hid (∀(z:World) (a:Array Value),One w a z->RdI z B A' G.rs[i].r):=aA (fun z a hz=>hri.keep fun g o hg=>hz.below.cell (p:=⟨g,o,none⟩) (Nat.lt_of_lt_of_le hg HB.o));generalize (G.rs.take i).foldl f s=cur at *;generalize G.rs[i]=x at *;obtain⟨l,r,p⟩:=x;obtain⟨m,rfl⟩:∃m:Nat,l=(m:Int):=⟨l.toNat,by have:=HXI.o.l0;simp only at this;omega⟩
      simp only at k0 k1 k2 HRI hlc HPS;have hmn:m<G.ns.length:=by have:=HXI.o.l1;simp only at this;omega
      have HMN:=aA hmn;have hr6:r.length<=6:=HXI.o.c;have hrl:(r.length:Int)<=9223372036854775807:=by omega
      have HR6:=aA hr6;have HLC:=aA hlc;obtain⟨h,hhd⟩:∃h,h=Gm.fwN1 T F (m:Int):=⟨_,rfl⟩
      have HFX:Hid ((G.rs.take (i+1)).foldl f s=(Gm.sufs r).foldl h cur):=aA (by rw[HTK.o,HFD.o,hhd];rfl);have HST:Hid (∀(k:Nat) (hk:k<r.length),((Gm.sufs r).take (k+1)).foldl h cur=h (((Gm.sufs r).take k).foldl h cur) (r[k],r.drop (k+1))):=aA (fun k hk=>Gm.sufs_take hk h cur);have HFY:Hid (∀(t:List Nat) (z:Int) (q:List Int),h t (z,q)=if z<0 then Gm.addN t (-1-z).toNat (Gm.ofN T F (t.getD m 0) q) else t):=aA (fun t z q=>by rw[hhd];unfold Gm.fwN1;simp);have HPK:Hid (∀k,FwP G (((Gm.sufs r).take k).foldl h cur)):=aA (fun k=>by rw[hhd];exact HPS.o _ cur (fun y hy=>List.mem_of_mem_take hy) HPC.o);obtain⟨wb,hwb⟩:∃y,y=wi.alloc (.cells #[.int .i64 m,.slice A' r.length c',.int .i64 p] 48):=⟨_,rfl⟩
      have HBX:Hid (wb.heap[wi.heap.size]?=some (.cells #[.int .i64 m,.slice A' r.length c',.int .i64 p] 48 (0,0))):=aA (by rw[hwb];exact heap_alloc_new wi _);have HUB:Hid (UBZ wb gk cur):=aA (by rw[hwb];exact HU.o.alloc _);have HWB:Hid (R12 w wb g1 g5 #[.slice AT G.ts.length cT,.slice AN G.ns.length cN,.slice (some ⟨g,o,none⟩) G.rs.length cR,.int .i64 G.st] T F):=aA (by rw[hwb];exact HW.o.alloc _);have HNE:Hid (gk≠wi.heap.size):=aA (by have:=HU.o.lt;omega);clear hc hri hlc hxm hmn hhd HTK HPS HPC hr6;go_upto_region 13 with fail
      rw[<-hwb];clear hwb q2 k0 k1 k2 HU HW;have hbw:=ld;clear ld;generalize wi.heap.size=bx at *;go_wp2;go_loopw [9] (fun vk wr=>∃k:Nat,k<=r.length/\vk=.int .i64 k/\Hid (UBZ wr gk (((Gm.sufs r).take k).foldl h cur))/\Hid (R12 w wr g1 g5 #[.slice AT G.ts.length cT,.slice AN G.ns.length cN,.slice (some ⟨g,o,none⟩) G.rs.length cR,.int .i64 G.st] T F)/\Hid (wr.heap[bx]?=some (.cells #[.int .i64 m,.slice A' r.length c',.int .i64 p] 48 (0,0)))) (fun vk _=>r.length-(intOf vk).toNat)
      case atStart=>exact⟨0,Nat.zero_le _,rfl,HUB,HWB,HBX⟩
      case round =>
       clear HUB HWB HBX;obtain⟨k,hk,rfl,HU,HW,HBK⟩:=hrel;have lx:=(Array.getElem?_eq_some_iff.1 HBK.o).1;have c1:=cell_of_row wr _ 1 _ _ _ HBK.o;by_cases hlt3:k<r.length
       ·obtain⟨gr,orr,rfl,hgb,hc⟩:=(HRI.o wr _ HW.o.o) (by omega)
        have k0:=hc k hlt3;rw[L.gd_lt hlt3]at k0;have hzi:=HXI.o.i _ (List.getElem_mem hlt3);have hzn:=HXI.o.n _ (List.getElem_mem hlt3);have HS1:=aA (HST.o k hlt3);have HPt:=aA (HPK.o k);generalize ((Gm.sufs r).take k).foldl h cur=t at *;have HF1:=aA (HFY.o t r[k] (r.drop (k+1)));clear hc;generalize r[k]=z at *;unfold Gm.In at hzi;by_cases h0:z<0
        ·have hzl:=hzn h0;obtain⟨m2,hm2⟩:∃m2:Nat,-1-z=(m2:Int):=⟨(-1-z).toNat,by omega⟩
         rw[hm2]at hzl;have hz0:decide (z<0)=true:=decide_eq_true h0;have hwz:IntKind.i64.wrap (-1-z)=(m2:Int):=by rw[IntWalk.i64_in _ (by omega)];exact hm2
         have HX:Hid (((Gm.sufs r).take (k+1)).foldl h cur=t.set m2 (t.getD m2 0 ||| Gm.ofN T F (t.getD m 0) (r.drop (k+1)))):=aA (by rw[HS1.o,HF1.o,if_pos h0,hm2];simp[Gm.addN]);have HM2:Hid (m2<t.length):=aA (by rw[HPt.o.l];omega);have HM1:Hid (m<t.length):=aA (by rw[HPt.o.l];exact HMN.o);have hmi2:(m2:Int)<(G.ns.length:Int):=hzl;have hmi1:(m:Int)<(G.ns.length:Int):=by have:=HMN.o;omega
         obtain⟨j,hj⟩:∃j:Nat,j=k+1:=⟨_,rfl⟩
         have hwj:IntKind.i64.wrap ((k:Int)+1)=(j:Int):=by rw[IntWalk.i64_in _ (by have:=HR6.o;omega)];omega
         have S1:=fun w=>zbW w (some ⟨gr,orr,none⟩) c' r.length j (by omega);have HUD:=aA (HU.o.drewN 1);have HRD:=aA (HW.o.drewN 1);rw[show wr.drewN 1=wr.drew from rfl]at HUD HRD;have HED:Hid (wr.drew.heap[bx]?=wr.heap[bx]?):=aA rfl;have HOF:=zdx (r.drop j) (t.getD m 0) T F (dropA (some ⟨gr,orr,none⟩) c' j) (some ⟨g1,0,none⟩) (some ⟨g5,0,none⟩) (c'-j) G.ns.length G.ns.length B wr.drew.heap.size wr.drew.heap.size wr.drew ((HRI.o wr.drew _ HRD.o.o).dropA HLC.o j) (HRD.o.t.rd0 HRD.o.t.lt) (HRD.o.f.rd HRD.o.f.lt) (fun z hz=>HXI.o.i z (List.mem_of_mem_drop hz)) (fun z hz=>HXI.o.t z (List.mem_of_mem_drop hz)) (fun z hz h=>by rw[HFl.o];exact HXI.o.n z (List.mem_of_mem_drop hz) h) (by rw[HTl.o,HFl.o]) HFu.o (HPt.o.u _) (by rw[List.length_drop];have:=HR6.o;omega);rw[HTl.o,HFl.o,List.length_drop]at HOF;have hvl:Gm.ofN T F (t.getD m 0) (r.drop j)<4294967296:=Gm.U32.ofN HFu.o (HPt.o.u _) fun z hz=>HXI.o.t z (List.mem_of_mem_drop hz);rw[<-hj]at HX;have HX:Hid (((Gm.sufs r).take (k+1)).foldl h cur=t.set m2 (t.getD m2 0 ||| Gm.ofN T F (t.getD m 0) (r.drop j))):=aA (by rw[<-HX.o,hj]);have HOF:=aA HOF;generalize Gm.ofN T F (t.getD m 0) (r.drop j)=vv at *;have ho:=u32_or_nat (t.getD m2 0) vv (HPt.o.u m2) hvl;have HJ:=aA hj;generalize t.getD m2 0 ||| vv=v3 at *;generalize hv2:t.getD m2 0=tm2 at *;generalize hv1:t.getD m 0=tm1 at *;have HV2:=aA hv2;have HV1:=aA hv1;generalize dropA (some ⟨gr,orr,none⟩) c' j=D at *;generalize r.length-j=nd at *;generalize c'-j=cd at *;have d2:wr.drew.cell? ⟨gk,m2,none⟩=some (.int .u32 (tm2:Int)):=by rw[HUD.o.cell m2 HM2.o,hv2]
         have d1:wr.drew.cell? ⟨gk,m,none⟩=some (.int .u32 (tm1:Int)):=by rw[HUD.o.cell m HM1.o,hv1]
         have q0:=fun z:Calm.OnB bx wr=>cell_of_row z.1 _ 0 _ _ _ (z.2.trans HBK.o);have q1:=fun z:Calm.OnB bx wr=>cell_of_row z.1 _ 1 _ _ _ (z.2.trans HBK.o);have hS:∃z:Calm.OnB bx wr,wr.drew=z.1:=⟨⟨wr.drew,HED.o⟩,rfl⟩
         clear hzi hzn hzl h0 hm2 hj HS1 HF1 hv1 hv2 hvl;go_upto_region 18 with fail
         refine CalmN.region_tree (fun x=>∃z:Calm.OnB bx wr,x=z.1) (.two [0,1,2,3,4,6,7,8,9,10,11,12,13,14,15,16] 5 (.one [] 17 (.one [] 18 (.one [19,20] 21 (.fin [])))) 17 (.two [] 5 (.one [] 18 (.one [19,20] 21 (.fin []))) 18 (.one [] 5 (.one [19,20] 21 (.fin []))))) (by kernel_rfl) (by kernel_rfl) (fun _ _ d _ _ h=>by cases d <;> exact h) ⟨⟨wr.drew,HED.o⟩,rfl⟩ ?_;rw[CalmN.wpT];simp only[CalmN.pickOps,List.getElem?_toArray,List.getElem?_cons_zero,List.getElem?_cons_succ];repeat (go_big_quiet_step (fail))
         clear q0 q1 k0 c1;generalize wr.drew=wd at *;refine wpQuiet_nil ⟨?_,?_⟩
         case' refine_1 =>
          simp only[CalmN.wpT,CalmN.wpSt,CalmN.pickOps,List.getElem?_toArray,List.getElem?_cons_zero,List.getElem?_cons_succ];intro KK hKK;rw[if_pos (by rfl)];go_wp2_with fail
          refine hKK _ _ hS (fun x=>∃z:Calm.OnB bx wr,x=z.1) (fun _ h=>h) hS ?_;clear hKK;refine wpQuiet_nil ?_;intro KK hKK;rw[if_pos (by rfl)];go_wp2_with fail
          refine hKK _ _ hS (fun x=>∃z:Calm.OnB bx wr,x=z.1) (fun _ h=>h) hS ?_;clear hKK;refine wpQuiet_nil ?_;intro KK hKK;rw[if_pos (by rfl)];go_wp2_with fail
          refine HOF.o.mono ?_;rintro _ we ⟨rfl,q,hq⟩;have HUE:Hid (UBZ we gk t):=aA (by rw[hq];exact HUD.o.drewN q);have HRE:Hid (R12 w we g1 g5 #[.slice AT G.ts.length cT,.slice AN G.ns.length cN,.slice (some ⟨g,o,none⟩) G.rs.length cR,.int .i64 G.st] T F):=aA (by rw[hq];exact HRD.o.drewN q);have hbe:we.heap[bx]?=wr.heap[bx]?:=by rw[hq];exact HED.o
          have HBE:=aA hbe;have hS:∃z:Calm.OnB bx wr,we=z.1:=⟨⟨we,hbe⟩,rfl⟩
          have km2:=HUE.o.cell m2 HM2.o;rw[HV2.o]at km2;have km:=HUE.o.cell m HM1.o;rw[HV1.o]at km;have fm:=HUE.o.frozen m2;have lu:=HUE.o.lt;clear hq hbe;go_wp2_with fail
          refine hKK _ _ hS (fun x=>∃z:Calm.OnB bx wr,x=z.1) (fun _ h=>h) hS ?_;clear hKK
         case' refine_2 =>
          simp only[CalmN.wpSt];intro KK hKK;rw[if_pos (by rfl)];go_wp2_with fail
          refine hKK _ _ hS (fun x=>∃z:Calm.OnB bx wr,x=z.1) (fun _ h=>h) hS ?_;clear hKK;rw[CalmN.wpT];simp only[CalmN.pickOps];refine wpQuiet_nil ⟨?_,?_⟩
          case' refine_1 =>
           simp only[CalmN.wpT,CalmN.wpSt,CalmN.pickOps,List.getElem?_toArray,List.getElem?_cons_zero,List.getElem?_cons_succ];intro KK hKK;rw[if_pos (by rfl)];go_wp2_with fail
           refine hKK _ _ hS (fun x=>∃z:Calm.OnB bx wr,x=z.1) (fun _ h=>h) hS ?_;clear hKK;refine wpQuiet_nil ?_;intro KK hKK;rw[if_pos (by rfl)];go_wp2_with fail
           refine HOF.o.mono ?_;rintro _ we ⟨rfl,q,hq⟩;have HUE:Hid (UBZ we gk t):=aA (by rw[hq];exact HUD.o.drewN q);have HRE:Hid (R12 w we g1 g5 #[.slice AT G.ts.length cT,.slice AN G.ns.length cN,.slice (some ⟨g,o,none⟩) G.rs.length cR,.int .i64 G.st] T F):=aA (by rw[hq];exact HRD.o.drewN q);have hbe:we.heap[bx]?=wr.heap[bx]?:=by rw[hq];exact HED.o
           have HBE:=aA hbe;have hS:∃z:Calm.OnB bx wr,we=z.1:=⟨⟨we,hbe⟩,rfl⟩
           have km2:=HUE.o.cell m2 HM2.o;rw[HV2.o]at km2;have km:=HUE.o.cell m HM1.o;rw[HV1.o]at km;have fm:=HUE.o.frozen m2;have lu:=HUE.o.lt;clear hq hbe;go_wp2_with fail
           refine hKK _ _ hS (fun x=>∃z:Calm.OnB bx wr,x=z.1) (fun _ h=>h) hS ?_;clear hKK
          case' refine_2 =>
           simp only[CalmN.wpT,CalmN.wpSt,CalmN.pickOps,List.getElem?_toArray,List.getElem?_cons_zero,List.getElem?_cons_succ];intro KK hKK;rw[if_pos (by rfl)];go_wp2_with fail
           refine HOF.o.mono ?_;rintro _ we ⟨rfl,q,hq⟩;have HUE:Hid (UBZ we gk t):=aA (by rw[hq];exact HUD.o.drewN q);have HRE:Hid (R12 w we g1 g5 #[.slice AT G.ts.length cT,.slice AN G.ns.length cN,.slice (some ⟨g,o,none⟩) G.rs.length cR,.int .i64 G.st] T F):=aA (by rw[hq];exact HRD.o.drewN q);have hbe:we.heap[bx]?=wr.heap[bx]?:=by rw[hq];exact HED.o
           have HBE:=aA hbe;have hS:∃z:Calm.OnB bx wr,we=z.1:=⟨⟨we,hbe⟩,rfl⟩
           have km2:=HUE.o.cell m2 HM2.o;rw[HV2.o]at km2;have km:=HUE.o.cell m HM1.o;rw[HV1.o]at km;have fm:=HUE.o.frozen m2;have lu:=HUE.o.lt;clear hq hbe;go_wp2_with fail
           refine hKK _ _ hS (fun x=>∃z:Calm.OnB bx wr,x=z.1) (fun _ h=>h) hS ?_;clear hKK;refine wpQuiet_nil ?_;intro KK hKK;rw[if_pos (by rfl)];go_wp2_with fail
           refine hKK _ _ hS (fun x=>∃z:Calm.OnB bx wr,x=z.1) (fun _ h=>h) hS ?_;clear hKK
         all_goals
          repeat (go_big_quiet_step (fail))
          refine wpQuiet_nil ?_;obtain⟨wf,hwf⟩:∃y,y=we.setCell ⟨gk,m2,none⟩ (.int .u32 (v3:Int)):=⟨_,rfl⟩
          have HUF:Hid (UBZ wf gk (((Gm.sufs r).take (k+1)).foldl h cur)):=aA (by rw[hwf,HX.o];exact HUE.o.set_ m2 v3);have HRF:Hid (R12 w wf g1 g5 #[.slice AT G.ts.length cT,.slice AN G.ns.length cN,.slice (some ⟨g,o,none⟩) G.rs.length cR,.int .i64 G.st] T F):=aA (by rw[hwf];exact HRE.o.put (by have:=HGK.o;omega) (by have:=HGK.o;omega) HGK.o.2.2 _ _);have HBF:Hid (wf.heap[bx]?=wr.heap[bx]?):=aA (by rw[hwf];exact(Below.heap_setCell we ⟨gk,m2,none⟩ _ _ (fun e=>HNE.o e.symm)).trans HBE.o);have hS2:∃z:Calm.OnB bx wr,wf=z.1:=⟨⟨wf,HBF.o⟩,rfl⟩
          intro KK hKK;rw[if_pos (by rfl)];go_wp2_with fail
          rw[<-hwf];refine hKK _ _ hS2 (fun x=>∃z:Calm.OnB bx wr,x=z.1) (fun _ h=>h) hS2 ?_;clear hKK hwf hS2;refine wpQuiet_nil ?_;go_wp2;go_roundw
          case rel=>exact⟨k+1,hlt3,by rw[HJ.o],HUF,HRF,aA (HBF.o.trans HBK.o)⟩
          case measure=>have:=HJ.o;simp[intOf];omega
        ·have hz0:decide (z<0)=false:=decide_eq_false h0;have HX:Hid (((Gm.sufs r).take (k+1)).foldl h cur=t):=aA (by rw[HS1.o,HF1.o,if_neg h0]);clear hzi hzn h0 HS1 HF1;go_wp2;go_roundw
         case rel=>exact⟨k+1,hlt3,by go_num,by rw[HX.o];exact HU,HW,HBK⟩
         case measure=>simp[intOf];omega
       ·obtain rfl:k=r.length:=by omega
        have e:(Gm.sufs r).take r.length=Gm.sufs r:=by rw[<-Gm.sufs_len r,List.take_length]
        rw[e,<-HFX.o]at HU;go_wp2;go_roundw
        case rel=>exact⟨i+1,hlt2,by go_num,HU,HW⟩
        case measure=>simp[intOf];omega
     ·obtain rfl:i=G.rs.length:=by omega
      rw[List.take_length]at HU;go_wp2;go_roundw
      case rel=>exact⟨n+1,hlt,by go_num,by rw[HNX.o];exact HU,HW⟩
      case measure=>simp[intOf];omega
   ·obtain rfl:n=G.ns.length:=by omega
    rw[HFST.o]at HU;go_wp2;go_ret
    exact⟨fun _=>⟨gk,by rw[Gm.flw_len];rfl,by have:=HGK.o;omega,HU.o,HW.o.o.below⟩,fun h=>by simp at h⟩
theorem zbE (v:Value) (G:Gm.Gr) (w:World) (hg:aT w w.heap.size v G) (hf:Gm.Fit G) :
  Calls Tryz.prog 5 #[v] w fun e w'=>e=.returned (.bool true)/\Below w.heap.size w w':=by
 have HGG:=aA (fun(x:World) (h:Below w.heap.size w x)=>hg.below h (Nat.le_refl _));have HAL:=aA (fun(x:World)=>zeE x);have TG:=aA (fun(x:World) (h:Below w.heap.size w x)=>zfZ v G w.heap.size x (HGG.o x h) h.size);have TA:=aA (fun(x:World) (h:Below w.heap.size w x)=>zc6 v G w.heap.size x (HGG.o x h) hf h.size);have TF:=aA (fun(q:Gm.right G=true) (x:World) (h:Below w.heap.size w x)=>(show Calls _ _ _ _ (zeF _ _) from(zcU v G w.heap.size x (HGG.o x h) hf h.size).mono fun e w' k=>k.1 q));obtain⟨A0,c0,A1,c1,A2,c2,rfl,_,_,⟨hlR,hmR⟩,_,_,hR⟩:=hg;have HRl:=aA hR;have HQ0:=aA (bK.start 26 w #[.slice A0 G.ts.length c0,.slice A1 G.ns.length c1,.slice A2 G.rs.length c2,.int .i64 G.st]);clear hf hR
 go_enter Tryz.func5,Tryz.ntmps5
 go_wp2_with fail
 refine(HAL.o _).mono ?_;rintro _ w1 ⟨rfl,hb1⟩;have HQ1:=aA (HQ0.o.on hb1);have x0:=HQ1.o.c 0 _ rfl;have x1:=HQ1.o.c 1 _ rfl;have x2:=HQ1.o.c 2 _ rfl;have x3:=HQ1.o.c 3 _ rfl;clear hb1;cases hgr:Gm.great G with
 | true =>
  rw[hgr]at TG;go_wp2_with fail
  refine(TG.o _ HQ1.o.below).mono ?_;rintro _ w2 ⟨rfl,hb2⟩;have HQ2:=aA (HQ1.o.on hb2);clear hb2;go_wp2;go_ret
  exact⟨rfl,HQ2.o.below⟩
 | false =>
  rw[hgr]at TG;go_upto_region 5 with fail
  refine(TG.o _ HQ1.o.below).mono ?_;rintro _ w2 ⟨rfl,hb2⟩;have HQ2:=aA (HQ1.o.on hb2);clear x0 x1 x2 x3 hb2 TG;have x0:=HQ2.o.c 0 _ rfl;have x1:=HQ2.o.c 1 _ rfl;have x2:=HQ2.o.c 2 _ rfl;have x3:=HQ2.o.c 3 _ rfl;rcases Lk.lk_cases G with⟨hE,hS⟩|⟨hE,hb,K,E,hk⟩
  ·have hEb:(Au.bldE G != 0)=true:=by rw[bne_iff_ne];exact hE
   unfold zkJ at TA;rw[hS]at TA;generalize Au.bldE G=er at *;clear hE hS hgr;go_wp2_with fail
   refine(TA.o w2 HQ2.o.below).mono ?_;rintro _ w3 ⟨A,c,rfl,_,_,_,hb3⟩;have HQ3:=aA (HQ2.o.on hb3);have e0:([]:List (List (Int×Int))).length=0:=rfl;rw[e0];clear hb3 x0 x1 x2 x3 TA e0;go_wp2;go_ret
   exact⟨rfl,HQ3.o.below⟩
  ·have hr:=Gm.isB_right hb;have TF:=aA (TF.o hr);have HOK:=aA (Gm.right_ok.1 hr);have HF:=aA (Lk.lk_fol hb hk);have HWL:Hid ((Gm.flw G).length=G.ns.length):=aA (by rw[Gm.flw_len]);have HWU:Hid (Gm.U32 (Gm.flw G)):=aA (Lk.flw_lt HOK.o);unfold zkJ at TA;rw[hE]at TA;unfold zeF at TF;have hn40:G.rs.length<=40:=HOK.o.r40;have hnI:(G.rs.length:Int)<=40:=by omega
   have hl3:=HF.o.le;generalize Lk.lkS G=ls at *;generalize Gm.flw G=W at *;clear hgr hE hb hk hr;go_wp2_with fail
   refine(TA.o w2 HQ2.o.below).mono ?_;rintro _ w3 ⟨A,c,rfl,_,_,hr3,hb3⟩;have HM3:=aA hr3;have HQ3:=aA (HQ2.o.on hb3);clear hr3 hb3 x0 x1 x2 x3 TA;have hlsI:(ls.length:Int)<=300:=by omega
   have x0:=HQ3.o.c 0 _ rfl;have x1:=HQ3.o.c 1 _ rfl;have x2:=HQ3.o.c 2 _ rfl;have x3:=HQ3.o.c 3 _ rfl;go_wp2_with fail
   refine(TF.o w3 HQ3.o.below).mono ?_;rintro _ w4 ⟨gF,rfl,hgF,hu4,hb4⟩;have HU4:=aA hu4;have HM4:=aA (HM3.o.below hb4 (Nat.le_refl _));have HQ4:=aA (HQ3.o.on hb4);have HS4:=aA hb4.size;clear hu4 hb4 hgF x0 x1 x2 x3 TF;have x2:=HQ4.o.c 2 _ rfl;have l1:=HQ4.o.size;go_upto_region 10 with(at_make;refine zc0 rfl (.tmp 29) (.tmp 29) _ rfl Tryz.underlying43 G.rs.length _ _ rfl rfl rfl rfl (by omega) ?_;intro w5 hu5 hb5 hlt5)
   obtain⟨gs,hgs⟩:∃q,q=w4.heap.size:=⟨_,rfl⟩
   rw[<-hgs]at hu5 ⊢;have HU5:=aA hu5;have HW5:=aA hb5;have HGS:Hid (w4.heap.size<=gs):=aA (Nat.le_of_eq hgs.symm);clear hgs hu5 hb5 hlt5 x2 l1;go_wp2;go_loopw [7] (fun vi wr=>∃(i:Nat) (S:List Bool),i<=ls.length/\vi=.int .i64 i/\Hid (Lk.SeenR ls G.rs.length i 0 S)/\Hid (UBO wr gs S)/\Hid (Below w4.heap.size w4 wr)) (fun vi _=>ls.length-(intOf vi).toNat)
   case atStart=>exact⟨0,_,Nat.zero_le _,rfl,aA (Lk.SeenR.start ls G.rs.length),HU5,HW5⟩
   case round =>
    clear HU5 HW5;obtain⟨i,S,hi,rfl,HSN,HU,HW⟩:=hrel;rename World=>wr;by_cases hlt:i<ls.length
    ·have hltI:(i:Int)<(ls.length:Int):=by omega
     have HLR:=aA (HF.o.lr _ (List.getElem_mem hlt));go_wp2;go_loopw [8] (fun vk wk=>∃(k:Nat) (S:List Bool),k<=(ls[i]).length/\vk=.int .i64 k/\Hid (Lk.SeenR ls G.rs.length i k S)/\Hid (UBO wk gs S)/\Hid (Below w4.heap.size w4 wk)) (fun vk _=>(ls[i]).length-(intOf vk).toNat)
     case atStart=>exact⟨0,S,Nat.zero_le _,rfl,HSN,HU,HW⟩
     case round =>
      clear HU HW HSN;obtain⟨k,S,hk,rfl,HSN,HU,HW⟩:=hrel;rename World=>wk;have HMK:=aA (HM4.o.below HW.o HS4.o);obtain⟨gM,oM,rfl,hgM,hcM⟩:=HMK.o (by omega);obtain⟨Ai,ci,m0,_,_,hri⟩:=hcM i hlt;have lM:gM<wk.heap.size:=by have:=HW.o.size;have:=HS4.o;omega
      clear hcM;have hrl:((ls[i]).length:Int)<=40:=by have:=HLR.o;omega
      by_cases hlk:k<(ls[i]).length
      ·have hlkI:(k:Int)<((ls[i]).length:Int):=by omega
       obtain⟨gx,ox,rfl,hgx,hcx⟩:=hri (by omega);have lx:gx<wk.heap.size:=by have:=HW.o.size;have:=HS4.o;omega
       obtain⟨n,z,hn,he,hz0,hzl,hzo⟩:=HF.o.et i hlt k hlk
       have m1:wk.cell? ⟨gx,ox+k*2,none⟩=some (.int .i64 n):=by
        have:=hcx k hlk 0 _ rfl
        rw[he]at this;exact this
       have m2:wk.cell? ⟨gx,ox+k*2+1,none⟩=some (.int .u32 z):=by
        have:=hcx k hlk 1 _ rfl
        rw[he]at this;exact this
       obtain⟨wi,hwi⟩:∃y,y=wk.alloc (.cells #[.int .i64 n,.int .u32 z] 46):=⟨_,rfl⟩
       have HBI:Hid (Below wk.heap.size wk wi):=aA (by rw[hwi];exact(Below.refl _ _).alloc (Nat.le_refl _) _);have HBX:Hid (wi.heap[wk.heap.size]?=some (.cells #[.int .i64 n,.int .u32 z] 46 (0,0))):=aA (by rw[hwi];exact heap_alloc_new wk _);go_upto_region 17 with fail
       rw[<-hwi];clear hwi m1 m2;have y0:wi.cell? ⟨wk.heap.size,0,none⟩=some (.int .i64 n):=cell_of_row wi _ 0 _ _ _ HBX.o;have y1:wi.cell? ⟨wk.heap.size,1,none⟩=some (.int .u32 z):=cell_of_row wi _ 1 _ _ _ HBX.o;have ly:wk.heap.size<wi.heap.size:=(Array.getElem?_eq_some_iff.1 HBX.o).1;have HWI:=aA (HW.o.trans (HBI.o.mono HW.o.size));have HQI:=aA (HQ4.o.on HWI.o);have b2:=HQI.o.c 2 _ rfl;have lb:=HQI.o.size;have hRw:=HRl.o;obtain⟨gr,or,hAR,hgr,hcr⟩:=hRw (by omega);have r0:=(HQI.o.below.cell (p:=⟨gr,or+n*3,none⟩) hgr).trans (hcr n hn).1;have lr:gr<wi.heap.size:=Nat.lt_of_lt_of_le hgr HQI.o.below.size;have hlo:=HOK.o.lin _ (List.getElem_mem hn);obtain⟨lf,hlf⟩:∃lf:Nat,(G.rs[n]).l=(lf:Int):=⟨(G.rs[n]).l.toNat,by omega⟩
       rw[hlf]at r0 hlo hzo;rw[Int.toNat_natCast]at hzo;have hfl:lf<W.length:=by rw[HWL.o];omega
       have f0:=((HU4.o.below HWI.o HU4.o.lt).cell lf hfl)
       have lF:gF<wi.heap.size:=Nat.lt_of_lt_of_le HU4.o.lt HWI.o.size;have ha:=HWU.o lf;have han:=u32_andNot_nat z (W.getD lf 0) hzl ha;have hzn:(((z &&& (4294967295-W.getD lf 0):Nat):Int) != 0)=false:=by rw[(Gm.new_iff ha hzl).2 hzo];rfl
       have hz1:(((z:Nat):Int)==0)=false:=by rw[beq_eq_false_iff_ne];omega
       have hflI:(lf:Int)<(W.length:Int):=by omega
       have hnnI:(n:Int)<(G.rs.length:Int):=by omega
       have hUI:=aA (HU.o.below HBI.o HU.o.lt);have HN1:=aA (HSN.o.step hlt hlk (t:=n) (by rw[he]) hn);have HNS:Hid (n<S.length):=aA (by rw[HSN.o.l];exact hn);subst hAR;have HEK:=aA he;have HCX:=aA hcx;clear hcr hlf hlo hzo ha hgr hri hcx hRw hgx hgM he hz0 hzl;generalize (G.rs[n]).l=ll at *;generalize W.getD lf 0=wf at *;generalize z &&& (4294967295-wf)=d at *;have HLK:=aA hlk;have hnn2:¬((G.rs.length:Int)<=(n:Int)):=by omega
       have hn0:¬((n:Int)<0):=by omega
       by_cases hk0:k=0
       ·subst hk0;clear HEK HCX hk hlk hn;go_quiet (fail)
        obtain⟨wq,hwq⟩:∃y,y=wi.drewN nq:=⟨_,rfl⟩
        rw[<-hwq];have HBQ:Hid (Below wi.heap.size wi wq):=aA (by rw[hwq];exact aB (Below.refl _ _) _);clear hwq y0 y1 b2 r0 f0 lr lF lb m0 lM lx;have HBW:=aA (HBI.o.trans (HBQ.o.mono HBI.o.size));have HUQ:=aA (hUI.o.below HBQ.o hUI.o.lt);have y0:=cell_of_row wq _ 0 _ _ _ (aC HBQ.o HBX.o);have s0:=HUQ.o.cell n HNS.o;have s1:=HUQ.o.frozen n;have s2:=HUQ.o.lt;have HWQ:=aA (HW.o.trans (HBW.o.mono HW.o.size));have HUS:=aA (HUQ.o.set_ n true);have HWS:Hid (Below w4.heap.size w4 (wq.setCell ⟨gs,n,none⟩ (.bool true))):=aA (HWQ.o.setCell HGS.o _);have HSLN:=aA HSN.o.l;generalize S.getD n false=bn at *;go_wp2;go_roundw
        case rel=>exact⟨_,S.set n true,HLK.o,by go_num,HN1,HUS,HWS⟩
        case measure=>simp[intOf];have:=HLK.o;omega
       ·obtain⟨j,hj⟩:∃j,k=j+1:=⟨k-1,by omega⟩
        have hjl:j<(ls[i]).length:=by omega
        obtain⟨n',z',hn',he',hno'⟩:=HF.o.et i hlt j hjl
        have hup:(n':Int)<(n:Int):=by
         have:=HF.o.up i hlt j (by omega)
         have e2:(ls[i])[j+1]'(by omega)=(ls[i])[k]'hlk:=by congr 1;exact hj.symm
         rw[he',e2,HEK.o]at this;exact this
        have m3:wi.cell? ⟨gx,ox+j*2,none⟩=some (.int .i64 n'):=by
         have:=HCX.o j hjl 0 _ rfl
         rw[he']at this;exact(HBI.o.cell (p:=⟨gx,ox+j*2,none⟩) lx).trans this
        have m0:=(HBI.o.cell (p:=⟨gM,oM+i,none⟩) lM).trans m0;have lM:gM<wi.heap.size:=Nat.lt_of_lt_of_le lM HBI.o.size;have lx:gx<wi.heap.size:=Nat.lt_of_lt_of_le lx HBI.o.size;have hkj:(k:Int)-1=(j:Int):=by omega
        have hk1:(0:Int)<(k:Int):=by omega
        have hk2:0<k:=by omega
        have hk3:¬(k=0):=by omega
        have hjI:(j:Int)<((ls[i]).length:Int):=by omega
        have hnp:¬((n:Int)<=(n':Int)):=by omega
        have hkl:(k:Int)<9223372036854775807:=by omega
        have HKJ:=aA hj;clear HEK HCX hno' hk hlk hn hj hjl he' hn' hk0 hup;go_quiet (fail)
        obtain⟨wq,hwq⟩:∃y,y=wi.drewN nq:=⟨_,rfl⟩
        rw[<-hwq];have HBQ:Hid (Below wi.heap.size wi wq):=aA (by rw[hwq];exact aB (Below.refl _ _) _);clear hwq y0 y1 b2 r0 f0 lr lF lb m0 lM lx m3;have HBW:=aA (HBI.o.trans (HBQ.o.mono HBI.o.size));have HUQ:=aA (hUI.o.below HBQ.o hUI.o.lt);have y0:=cell_of_row wq _ 0 _ _ _ (aC HBQ.o HBX.o);have s0:=HUQ.o.cell n HNS.o;have s1:=HUQ.o.frozen n;have s2:=HUQ.o.lt;have HWQ:=aA (HW.o.trans (HBW.o.mono HW.o.size));have HUS:=aA (HUQ.o.set_ n true);have HWS:Hid (Below w4.heap.size w4 (wq.setCell ⟨gs,n,none⟩ (.bool true))):=aA (HWQ.o.setCell HGS.o _);have HSLN:=aA HSN.o.l;generalize S.getD n false=bn at *;go_wp2;go_roundw
        case rel=>exact⟨_,S.set n true,HLK.o,by go_num,HN1,HUS,HWS⟩
        case measure=>simp[intOf];have:=HLK.o;omega
      ·obtain rfl:k=(ls[i]).length:=by omega
       have HSD:=aA (Lk.SeenR.next hlt HSN.o);have hni:¬(((ls[i]).length:Nat):Int)<(((ls[i]).length:Nat):Int):=by omega
       clear hri hlk hk;generalize (ls[i]).length=nk at *;go_wp2;go_roundw
       case rel=>exact⟨i+1,S,hlt,by go_num,HSD,HU,HW⟩
       case measure=>simp[intOf];omega
    ·obtain rfl:i=ls.length:=by omega
     have hni:¬((ls.length:Nat):Int)<((ls.length:Nat):Int):=by omega
     have HSA:=aA (fun k (hk:k<G.rs.length)=>Lk.SeenR.all HSN.o HF.o hk);have HSL:=aA HSN.o.l;clear hlt hi HSN;go_wp2;go_loopw [10] (fun vm wm=>∃m:Nat,m<=G.rs.length/\vm=.int .i64 m/\Hid (wm=wr)) (fun vm _=>G.rs.length-(intOf vm).toNat)
     case atStart=>exact⟨0,Nat.zero_le _,rfl,aA rfl⟩
     case round =>
      obtain⟨m,hm,rfl,HWE⟩:=hrel;obtain rfl:=HWE.o;rename World=>wm;by_cases hlm:m<G.rs.length
      ·have hlmI:(m:Int)<(G.rs.length:Int):=by omega
       have f5:=HU.o.cell m (by rw[HSL.o];exact hlm);rw[HSA.o m hlm]at f5;have f8:=HU.o.lt;go_wp2;go_roundw
       case rel=>exact⟨m+1,hlm,by go_num,aA trivial⟩
       case measure=>simp[intOf];omega
      ·obtain rfl:m=G.rs.length:=by omega
       have hnm:¬((G.rs.length:Nat):Int)<((G.rs.length:Nat):Int):=by omega
       clear hlm hm;go_wp2;go_ret
       exact⟨rfl,(HQ4.o.on HW.o).below⟩
end Go.Proofs.YtcmhaemaophplaaGreat
namespace Go.Proofs.YtcmhaemaophplaaGreat.RowKit
open Go.ChangeShapes Go.WideShapes Go.ChangeAt Go.RowKit
theorem own:ownKnob Tryz.prog.godebug=none:=by kernel_rfl
theorem laidOut:laidOutB Tryz.prog=true:=by kernel_rfl
end Go.Proofs.YtcmhaemaophplaaGreat.RowKit
