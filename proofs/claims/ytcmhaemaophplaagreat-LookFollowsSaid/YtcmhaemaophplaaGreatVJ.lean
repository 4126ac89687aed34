/- Part of the proofs over this program: TrimKept, TrimRed, TrimReduced, Ints, CfgSame, CfgSame2. -/
import Derived.Test.YtcmhaemaophplaaGreatVI
namespace Go.Proofs.YtcmhaemaophplaaGreat
set_option maxRecDepth 100000
set_option maxHeartbeats 40000000
open Go.RowKit
theorem Gm.use_rcB {G:Gm.Gr} (h:Gm.Ok G) {x:Gm.Rl} (hx:x∈G.rs):Gm.rcB (Gm.gn true G.rs G.ns.length) (Gm.rc G) x=Gm.use G x:=by
 unfold Gm.rcB Gm.use;rw[Bool.eq_iff_iff,Bool.and_eq_true,Gm.tr_iff,Gm.allB_gn h.lin];have hl:=h.lin x hx;rw[Gm.rc_at G x.l.toNat (by omega),Gm.tr_iff,Int.toNat_of_nonneg hl.1]
noncomputable def Gm.kl (G:Gm.Gr) (i:Nat):List Int:=((List.range i).filter fun j=>(G.rs[j]?).any (Gm.use G)).map fun j:Nat=>(j:Int)
theorem Gm.kl_next {G:Gm.Gr} {i:Nat} (h:i<G.rs.length):Gm.kl G (i+1)=if Gm.use G G.rs[i]=true then Gm.kl G i++[(i:Int)] else Gm.kl G i:=by
 unfold Gm.kl;rw[List.range_succ,List.filter_append,List.map_append];have e:(G.rs[i]?).any (Gm.use G)=Gm.use G G.rs[i]:=by rw[List.getElem?_eq_getElem h];rfl
 cases hu:Gm.use G G.rs[i]
 ·simp[e,hu]
 ·simp[e,hu]
theorem Gm.kl_len (G:Gm.Gr) (i:Nat):(Gm.kl G i).length<=i:=by
 unfold Gm.kl;rw[List.length_map]
 have:=List.length_filter_le (fun j=>(G.rs[j]?).any (Gm.use G)) (List.range i)
 simpa using this
theorem Gm.kl_all (G:Gm.Gr):Gm.kl G G.rs.length=(Gm.kept G).map fun j:Nat=>(j:Int):=rfl
theorem zll (c:Nat) (w:World):(binOp .eql 22 (.slice none 0 c) (.slice none 0 0)).run Tryz.prog w=.ok (.bool true) w:=by kernel_rfl
theorem zjS (ad:Addr) (n c:Nat) (w:World):(binOp .eql 22 (.slice (some ad) n c) (.slice none 0 0)).run Tryz.prog w=.ok (.bool false) w:=by kernel_rfl
theorem zhL (A:Option Addr) (c B:Nat) (ts:List Gm.Tm) (w:World) (hr:zeG w B A ts) (hB:B<=w.heap.size) (hl:ts.length<=1000) :
  Calls Tryz.prog 142 #[.slice A ts.length c] w fun e w'=>∃v,e=.returned v/\aX w' w.heap.size v ts/\Below w.heap.size w w':=by
 have HR:=aA (fun o=>(show zeG (w.alloc o) w.heap.size A ts from(hr.keep fun g o' hg=>(Below.cell ((Below.refl w.heap.size w).alloc (Nat.le_refl _) o) (p:=⟨g,o',none⟩) (by simp only;omega))).more hB));have HL:=aA hl;cases A with
 | none =>
  have h0:ts=[]:=by
   rcases Nat.eq_zero_or_pos ts.length with h|h
   ·exact List.eq_nil_of_length_eq_zero h
   ·obtain⟨g,o,e,_⟩:=hr (by omega);cases e
  subst h0;have hq:=fun w=>zll c w;clear hr hl HR HL hB
  go_enter Tryz.func142,Tryz.ntmps142
  go_wp2;go_ret
  exact⟨_,rfl,aX.nil _ _,Below.refl _ _⟩
 | some ad =>
  have hq:=fun w=>zjS ad ts.length c w;clear hr hl hB
  go_enter Tryz.func142,Tryz.ntmps142
  go_wp2_with (at_builtin;refine zi2 rfl (.tmp 5) (.tmp 6) _ rfl Tryz.underlying22 w.heap.size _ [] rfl (zb8 w) w.heap.size ts.length c (some ad) ts rfl rfl (HR.o _) (by have:=HL.o;simp;omega) (by simp) ?_;intro v2 w2 ho2 hg2)
  go_ret
  exact⟨_,rfl,ho2,((Below.refl w.heap.size w).alloc (Nat.le_refl _) _).grown hg2 (by simp) (fun k e=>(aI (zb8 w) e).1)⟩
def Gm.an1 (an:List Int) (z:Int):Int:=if z<0 then -1-an.getD (-1-z).toNat 0 else z
theorem Gm.fill_set (f:Int->Int) {r:List Int} {k:Nat} (h:k<r.length):((r.take k).map f++List.replicate (r.length-k) 0).set k (f r[k])=(r.take (k+1)).map f++List.replicate (r.length-(k+1)) 0:=by
 rw[List.set_append_right _ _ (by simp;omega)];rw[List.take_succ_eq_append_getElem h,List.map_append,List.append_assoc]
 congr 1
 rw[show k-((r.take k).map f).length=0 by simp;omega,show r.length-k=(r.length-(k+1))+1 by omega,List.replicate_succ];rfl
theorem zcm (x:Gm.Rl) (an:List Int) (A A2:Option Addr) (c c2 B B2:Nat) (w:World) (hr:RdI w B A x.r) (h2:RdI w B2 A2 an) (hB:B<=w.heap.size) (hB2:B2<=w.heap.size)
  (hin:∀z∈x.r,Gm.In z) (hs:∀z∈x.r,z<0->-1-z<(an.length:Int)) (hx:0<=x.l/\x.l<an.length) (hl:x.r.length<=1000) (han:∀i:Nat,i<an.length->0<=an.getD i 0/\an.getD i 0<=1000) :
  Calls Tryz.prog 143 #[.agg #[.int .i64 x.l,.slice A x.r.length c,.int .i64 x.p],.slice A2 an.length c2] w fun e w'=>∃g,e=.returned (.agg #[.int .i64 (an.getD x.l.toNat 0),.slice (some ⟨g,0,none⟩) x.r.length x.r.length,.int .i64 x.p])/\w.heap.size<=g/\UBI w' g (x.r.map (Gm.an1 an))/\Below w.heap.size w w':=by
 obtain⟨l,r,pz⟩:=x;simp only at hr hin hs hx hl ⊢;obtain⟨ml,rfl⟩:∃m:Nat,l=(m:Int):=⟨l.toNat,by omega⟩
 rw[Int.toNat_natCast];obtain⟨w1,hw1⟩:∃y,y=(w.alloc (.cells #[.int .i64 ml,.slice A r.length c,.int .i64 pz] 48)).alloc (.cells #[.int .i64 0,.slice none 0 0,.int .i64 0] 48):=⟨_,rfl⟩
 have hs1:w1.heap.size=w.heap.size+2:=by rw[hw1];simp
 have HB1:Hid (Below w.heap.size w w1):=aA (by rw[hw1];exact((Below.refl _ w).alloc (Nat.le_refl _) _).alloc (by simp) _);have x0:w1.heap[w.heap.size]?=some (.cells #[.int .i64 ml,.slice A r.length c,.int .i64 pz] 48 (0,0)):=by rw[hw1,Below.heap_alloc _ _ _ (by simp)];exact heap_alloc_new w _
 have x1:w1.heap[w.heap.size+1]?=some (.cells #[.int .i64 0,.slice none 0 0,.int .i64 0] 48 (0,0)):=by rw[hw1];have:=heap_alloc_new (w.alloc (.cells #[.int .i64 ml,.slice A r.length c,.int .i64 pz] 48)) (.cells #[.int .i64 0,.slice none 0 0,.int .i64 0] 48);simpa using this
 have c1:w1.cell? ⟨w.heap.size,1,none⟩=some (.slice A r.length c):=by rw[cell_of_row w1 _ 1 _ _ _ x0];rfl
 have HX0:=aA x0;have HX1:=aA x1;have HS1:=aA hs1;have hd0:w.heap.size<w1.heap.size:=by omega
 have HR:=aA (fun(y:World) (h:Below w.heap.size w y)=>hr.below h hB);have H2:=aA (fun(y:World) (h:Below w.heap.size w y)=>h2.below h hB2);have HI:=aA (fun z w=>zbl z w);have HN:=aA (fun z h1 h2 w=>zbG z h1 h2 w);have HIN:=aA hin;have HSN:=aA hs;have HAN:=aA han;have hml:ml<an.length:=by omega
 have hmi:(ml:Int)<(an.length:Int):=by omega
 have HSB:=aA (And.intro hB hB2);have hlen:(r.length:Int)<=9223372036854775807:=by omega
 clear hr h2 hin hs hx hB hB2 han x0 x1 hs1
 go_enter Tryz.func143,Tryz.ntmps143
 go_upto_region 1 with fail
 rw[<-hw1];clear hw1;go_upto_region 2 with(at_make;refine zg6 rfl (.tmp 10) (.tmp 10) _ rfl Tryz.underlying38 r.length _ _ rfl rfl rfl rfl (by omega) ?_;intro w2 hu2 hb2 hlt2)
 have HU2:=aA hu2;have c1:=(hb2.cell (p:=⟨w.heap.size,1,none⟩) (by simp only;omega)).trans c1;have hd2:w.heap.size<w2.heap.size:=by omega
 have HB2:=aA (HB1.o.trans (hb2.mono (by have:=HS1.o;omega)));have HX0:=aA ((hb2.block w.heap.size hd0).trans HX0.o);have HX1:=aA ((hb2.block (w.heap.size+1) (by have:=HS1.o;omega)).trans HX1.o);clear hu2 hb2;go_wp2;go_loopw [15] (fun vk wr=>∃k:Nat,k<=r.length/\vk=.int .i64 k/\Hid (UBI wr w1.heap.size ((r.take k).map (Gm.an1 an)++List.replicate (r.length-k) 0))/\Hid (w2.grownBy wr (some w1.heap.size))) (fun vk _=>r.length-(intOf vk).toNat)
 case atStart=>exact⟨0,Nat.zero_le _,rfl,by simpa using HU2,aA (World.grownBy.refl _ _)⟩
 case round =>
  obtain⟨k,hk,rfl,HU,HW⟩:=hrel;have HBr:=aA (zaa HB2.o HW.o (by have:=HS1.o;omega) HB2.o.size);by_cases hlt:k<r.length
  ·obtain⟨g,o,rfl,hgb,hc⟩:=HR.o wr HBr.o (by omega);have k0:=hc k hlt;rw[L.gd_lt hlt]at k0;have hgs:=block_lt_of_cell k0;have hin:=HIN.o _ (List.getElem_mem hlt);have hsn:=HSN.o _ (List.getElem_mem hlt);have HFS:=aA (Gm.fill_set (Gm.an1 an) hlt);have hlu:=HU.o.lt;have hfu:=HU.o.frozen k;have hku:=HU.o.cell k (by simp;omega);have HRW:=HU;generalize r[k]=z at *;unfold Gm.In at hin;have HIz:=aA (fun w=>HI.o z w);have HNz:=aA (fun w=>HN.o z hin.1 hin.2 w);have HST:=aA (fun u=>HU.o.set_ k u);have HWT:=aA (fun u=>aF HW.o k (Value.int .i64 u));clear hc;by_cases hz:z<0
   ·have hj1:=hsn hz;obtain⟨j,hj⟩:∃j:Nat,-1-z=(j:Int):=⟨(-1-z).toNat,by omega⟩
    rw[hj]at hj1;have HEQ:Hid (Gm.an1 an z = -1-an.getD j 0):=aA (by unfold Gm.an1;rw[if_pos hz,hj];simp);obtain⟨g2,o2,rfl,hg2,hc2⟩:=H2.o wr HBr.o (by omega);have k2:=hc2 j (by omega);have hq:=HAN.o j (by omega);have hjl:j<an.length:=by omega
    have HNq:=aA (fun w=>HN.o (an.getD j 0) (by omega) (by omega) w);rw[hj]at HNz;rw[decide_eq_true hz]at HIz;rw[HEQ.o]at HFS;generalize an.getD j 0=qv at *;have l2:=block_lt_of_cell k2;clear hz hj hsn hc2 hin hq;go_wp2_with fail
    refine(HIz.o _).mono ?_;rintro _ w3 ⟨rfl,hw3⟩;subst hw3;go_wp2_with fail
    refine(HNz.o _).mono ?_;rintro _ w3 ⟨rfl,hw3⟩;subst hw3;go_wp2_with fail
    refine(HNq.o _).mono ?_;rintro _ w3 ⟨rfl,hw3⟩;subst hw3;generalize -1-qv=nv at *;go_wp2;go_roundw
    case rel=>exact⟨k+1,hlt,by go_num,by rw[<-HFS.o];exact HST.o nv,HWT.o nv⟩
    case measure=>simp[intOf];omega
   ·have HEQ:Hid (Gm.an1 an z=z):=aA (by unfold Gm.an1;rw[if_neg hz]);rw[decide_eq_false hz]at HIz;rw[HEQ.o]at HFS;clear hz hsn hin HNz;go_wp2_with fail
    refine(HIz.o _).mono ?_;rintro _ w3 ⟨rfl,hw3⟩;subst hw3;go_wp2;go_roundw
    case rel=>exact⟨k+1,hlt,by go_num,by rw[<-HFS.o];exact HST.o z,HWT.o z⟩
    case measure=>simp[intOf];omega
  ·obtain rfl:k=r.length:=by omega
   have HU2:Hid (UBI wr w1.heap.size (r.map (Gm.an1 an))):=aA (by have:=HU.o;simpa using this);have HY0:=aA ((HW.o.block w.heap.size hd2 (fun e=>by injection e with e;omega)).trans HX0.o);have HY1:=aA ((HW.o.block (w.heap.size+1) (by have:=HS1.o;omega) (fun e=>by injection e with e;have:=HS1.o;omega)).trans HX1.o);obtain⟨g2,o2,rfl,hg2,hc2⟩:=H2.o wr HBr.o (by omega);have k2:=hc2 ml hml;obtain⟨qv,hqv⟩:∃q,q=an.getD ml 0:=⟨_,rfl⟩
   rw[<-hqv]at k2;have HQ:=aA hqv;clear hc2 HU hqv;go_upto_region 9 with fail
   have hnR:w.heap.size≠w.heap.size+1:=by omega
   have lg2:g2<w.heap.size:=by have:=HSB.o;omega
   have b0:=fun y:Calm.OnR (w.heap.size+1) wr=>(show y.1.cell? ⟨w.heap.size,0,none⟩=some (.int .i64 ml) by rw[cell_of_row y.1 _ 0 _ _ _ ((y.2.block w.heap.size (Array.getElem?_eq_some_iff.1 HY0.o).1 (fun e=>by injection e with e;omega)).trans HY0.o)];rfl)
   have b2:=fun y:Calm.OnR (w.heap.size+1) wr=>(show y.1.cell? ⟨w.heap.size,2,none⟩=some (.int .i64 pz) by rw[cell_of_row y.1 _ 2 _ _ _ ((y.2.block w.heap.size (Array.getElem?_eq_some_iff.1 HY0.o).1 (fun e=>by injection e with e;omega)).trans HY0.o)];rfl)
   have bk:=fun y:Calm.OnR (w.heap.size+1) wr=>zax y.2 k2 (by omega);have hdr:wr.grownBy wr.drew (some (w.heap.size+1)):=aH wr _;have HNL:Hid (w.heap.size+1≠w1.heap.size):=aA (by have:=HS1.o;omega);refine CalmN.region_tree (fun x=>∃y:Calm.OnR (w.heap.size+1) wr,x=y.1) (.one [0,1,2,3,4,5,6,7,8] 9 (.fin [])) (by kernel_rfl) (by kernel_rfl) (fun _ _ d _ _ h=>by cases d <;> exact h) ⟨⟨wr.drew,hdr⟩,rfl⟩ ?_;simp only[CalmN.wpT,CalmN.wpSt,CalmN.pickOps,List.getElem?_toArray,List.getElem?_cons_zero,List.getElem?_cons_succ];repeat (go_big_quiet_step (fail))
   refine wpQuiet_nil ?_;intro KK hKK;rw[if_pos (by rfl)];clear b0 b2 bk;have hY1:=show wr.drew.heap[w.heap.size+1]?=_ from HY1.o;obtain⟨wd,hwd⟩:∃y,y=wr.drew:=⟨_,rfl⟩
   rw[<-hwd]at hdr hY1 ⊢;have e0:=cell_of_row wd _ 0 _ _ _ hY1;have e1:=cell_of_row wd _ 1 _ _ _ hY1;have e2:=cell_of_row wd _ 2 _ _ _ hY1;have f0:=frozen_of_row wd _ 0 _ _ hY1;have f1:=frozen_of_row wd _ 1 _ _ hY1;have f2:=frozen_of_row wd _ 2 _ _ hY1;have ld1:=(Array.getElem?_eq_some_iff.1 hY1).1;have HDR:=aA hdr;have HY:=aA hY1;clear hdr hY1 hwd;go_wp2_with fail
   have hgf:=HDR.o.trans (aF (aF (aF (World.grownBy.refl wd (some (w.heap.size+1))) 0 (.int .i64 qv)) 1 (.slice (some ⟨w1.heap.size,0,none⟩) r.length r.length)) 2 (.int .i64 pz));have HGF:=aA hgf;have h0:=heap_setCell_same _ _ 2 _ _ (.int .i64 pz) (heap_setCell_same _ _ 1 _ _ (.slice (some ⟨w1.heap.size,0,none⟩) r.length r.length) (heap_setCell_same wd _ 0 _ _ (.int .i64 qv) HY.o));obtain⟨wf,hwf⟩:∃y,y=((wd.setCell ⟨w.heap.size+1,0,none⟩ (.int .i64 qv)).setCell ⟨w.heap.size+1,1,none⟩ (.slice (some ⟨w1.heap.size,0,none⟩) r.length r.length)).setCell ⟨w.heap.size+1,2,none⟩ (.int .i64 pz):=⟨_,rfl⟩
   rw[<-hwf]at hgf h0 HGF ⊢;refine hKK _ _ ⟨⟨wf,hgf⟩,rfl⟩ (fun x=>∃y:Calm.OnR (w.heap.size+1) wr,x=y.1) (fun _ h=>h) ⟨⟨wf,hgf⟩,rfl⟩ ?_;have j0:wf.cell? ⟨w.heap.size+1,0,none⟩=some (.int .i64 qv):=by rw[cell_of_row wf _ 0 _ _ _ h0];rfl
   have j1:wf.cell? ⟨w.heap.size+1,1,none⟩=some (.slice (some ⟨w1.heap.size,0,none⟩) r.length r.length):=by rw[cell_of_row wf _ 1 _ _ _ h0];rfl
   have j2:wf.cell? ⟨w.heap.size+1,2,none⟩=some (.int .i64 pz):=by rw[cell_of_row wf _ 2 _ _ _ h0];rfl
   have lf:=(Array.getElem?_eq_some_iff.1 h0).1;clear hgf e0 e1 e2 f0 f1 f2 hwf hKK h0 ld1;refine wpQuiet_nil ?_;go_wp2;refine bodyPost_ret (v:=.agg #[.int .i64 qv,.slice (some ⟨w1.heap.size,0,none⟩) r.length r.length,.int .i64 pz]) (by simp[results,Tryz.results143,go_sem,j0,j1,j2]) rfl ?_;exact⟨w1.heap.size,by rw[HQ.o],by have:=HS1.o;omega,HU2.o.grown HGF.o (fun e=>by injection e with e;exact HNL.o e.symm),zaa HBr.o HGF.o (by omega) HBr.o.size⟩
theorem ziL (v:Value) (G:Gm.Gr) (B:Nat) (w:World) (hg:aT w B v G) (hf:Gm.Fit G) (hok:Gm.Ok G) (hB:B<=w.heap.size) :
  Calls Tryz.prog 98 #[v] w fun e w'=>∃u,e=.returned u/\aU w' w.heap.size u (Gm.kl G G.rs.length)/\Below w.heap.size w w':=by
 have q:=Gm.right_ok.2 hok;have HPD:=aA (fun(x:World) (h:Below w.heap.size w x)=>(show Calls _ _ _ _ (zh1 _ _) from(zaH v G B x (hg.below h hB) hf (Nat.le_trans hB h.size)).mono fun e w' k=>k.1 q));have HRC:=aA (fun(x:World) (h:Below w.heap.size w x)=>(show Calls _ _ _ _ (zh1 _ _) from(zcV v G B x (hg.below h hB) hf (Nat.le_trans hB h.size)).mono fun e w' k=>k.1 q));clear q;obtain⟨AT,cT,AN,cN,AR,cR,rfl,_,⟨hlN,hmN⟩,_,_,_,hR⟩:=hg;have HS0:=aA (One.start w #[.slice AT G.ts.length cT,.slice AN G.ns.length cN,.slice AR G.rs.length cR,.int .i64 G.st]);have HRl:=aA hR;have HB:=aA hB;have HFT:=aA hf;have HOK:=aA hok;have HR40:Hid (G.rs.length<=40):=aA hok.r40;have HUSE:=aA (fun x hx=>Gm.use_rcB hok (x:=x) hx);obtain⟨T,hT⟩:∃x,x=Gm.gn true G.rs G.ns.length:=⟨_,rfl⟩
 have HTl:Hid (T.length=G.ns.length):=aA (by rw[hT,Gm.gn_len]);rw[<-hT]at HPD HUSE;obtain⟨R,hRr⟩:∃x,x=Gm.rc G:=⟨_,rfl⟩
 have HRL:Hid (R.length=G.ns.length):=aA (by rw[hRr,Gm.rc_len]);rw[<-hRr]at HRC HUSE;have hlen2:(G.rs.length:Int)<=9223372036854775807:=by have:=hok.r40;omega
 clear hf hok hR hB hT hRr
 go_enter Tryz.func98,Tryz.ntmps98
 go_upto_region 1 with fail
 obtain⟨w1,hw1⟩:∃y,y=w.alloc (.cells #[.slice AT G.ts.length cT,.slice AN G.ns.length cN,.slice AR G.rs.length cR,.int .i64 G.st] 26):=⟨_,rfl⟩
 have HS1:Hid (One w #[.slice AT G.ts.length cT,.slice AN G.ns.length cN,.slice AR G.rs.length cR,.int .i64 G.st] w1):=aA (by rw[hw1];exact One.start _ _);rw[<-hw1];clear hw1 HS0
 go_cut [3,4] (fun v3 v4 wx=>∃gp gr,v3=.slice (some ⟨gp,0,none⟩) G.ns.length G.ns.length/\v4=.slice (some ⟨gr,0,none⟩) G.ns.length G.ns.length/\UBO wx gp T/\UBO wx gr R/\One w #[.slice AT G.ts.length cT,.slice AN G.ns.length cN,.slice AR G.rs.length cR,.int .i64 G.st] wx)
 case first =>
  have q0:=fun y:Calm.On w1.heap.size w1=>(HS1.o.on y.2).c 0 _ rfl;have q1:=fun y:Calm.On w1.heap.size w1=>(HS1.o.on y.2).c 1 _ rfl;have q2:=fun y:Calm.On w1.heap.size w1=>(HS1.o.on y.2).c 2 _ rfl;have q3:=fun y:Calm.On w1.heap.size w1=>(HS1.o.on y.2).c 3 _ rfl;have HD0:Hid (Below w1.heap.size w1 w1.drew):=aA (aB (Below.refl _ _) 1);refine CalmN.region_tree (fun x=>∃y:Calm.On w1.heap.size w1,x=y.1) (.one [0,2] 1 (.one [] 3 (.fin [4,5]))) (by kernel_rfl) (by kernel_rfl) (fun _ _ d _ _ h=>by cases d <;> exact h) ⟨⟨w1.drew,HD0.o⟩,rfl⟩ ?_;simp only[CalmN.wpT,CalmN.wpSt,CalmN.pickOps,List.getElem?_toArray,List.getElem?_cons_zero,List.getElem?_cons_succ];repeat (go_big_quiet_step (fail))
  refine wpQuiet_nil ?_;clear q0 q1 q2 q3;have HD1:=aA (HS1.o.below.trans (HD0.o.mono HS1.o.below.size));obtain⟨wd,hwd⟩:∃y,y=w1.drew:=⟨_,rfl⟩
  rw[<-hwd]at HD0 HD1 ⊢;clear hwd;intro KK hKK;rw[if_pos (by rfl)];go_wp2_with fail
  refine(HPD.o wd HD1.o).mono ?_;rintro _ w3 ⟨ga,rfl,hga,hua,hb3⟩;rw[HTl.o];have hb3':Below w1.heap.size w1 w3:=HD0.o.trans (hb3.mono HD0.o.size);have HW3:=aA (HD1.o.trans (hb3.mono HD1.o.size));go_wp2_with fail
  refine hKK _ _ ⟨⟨w3,hb3'⟩,rfl⟩ (fun x=>∃y:Calm.On w1.heap.size w1,x=y.1) (fun _ h=>h) ⟨⟨w3,hb3'⟩,rfl⟩ ?_;refine wpQuiet_nil ?_;intro KK hKK;rw[if_pos (by rfl)];go_wp2_with fail
  refine(HRC.o w3 HW3.o).mono ?_;rintro _ w4 ⟨gb,rfl,hgb,hub,hb4⟩;rw[HRL.o];have hb4':Below w1.heap.size w1 w4:=hb3'.trans (hb4.mono hb3'.size);go_wp2_with fail
  refine hKK _ _ ⟨⟨w4,hb4'⟩,rfl⟩ (fun x=>∃y:Calm.On w1.heap.size w1,x=y.1) (fun _ h=>h) ⟨⟨w4,hb4'⟩,rfl⟩ ?_;repeat (go_big_quiet_step (fail))
  refine wpQuiet_nil ?_;go_wp2_with fail
  go_meet
  case rel=>exact⟨ga,gb,rfl,rfl,hua.below hb4 hua.lt,hub,HS1.o.on hb4'⟩
 case rest =>
  obtain⟨gp,gr,rfl,rfl,hup,hur,hone⟩:=hcut;have HUP:=aA hup;have HUR:=aA hur;have HW:=aA hone;have q2:=hone.c 2 _ rfl;have ld:w.heap.size<wc.heap.size:=hone.size;clear hup hur hone HPD HRC HS1;go_wp2;go_loopw [5,15] (fun vl vi wr=>∃i:Nat,i<=G.rs.length/\vi=.int .i64 i/\Hid (aU wr wc.heap.size vl (Gm.kl G i))/\Hid (Below wc.heap.size wc wr)) (fun _ vi _=>G.rs.length-(intOf vi).toNat)
  case atStart=>exact⟨0,Nat.zero_le _,rfl,aA (aU.nil _ _),aA (Below.refl _ _)⟩
  case round =>
   obtain⟨i,hi,rfl,HO,HBw⟩:=hrel;by_cases hlt:i<G.rs.length
   ·obtain⟨g,o,rfl,hgB,hc⟩:=HRl.o (by omega);obtain⟨k0,⟨A',c',k1,_,_,hri⟩,k2⟩:=hc i hlt;have HWW:=aA (HW.o.below.trans (HBw.o.mono HW.o.below.size));have k0:=(HWW.o.cell (p:=⟨g,o+i*3,none⟩) (Nat.lt_of_lt_of_le hgB HB.o)).trans k0;have k1:=(HWW.o.cell (p:=⟨g,o+i*3+1,none⟩) (Nat.lt_of_lt_of_le hgB HB.o)).trans k1;have k2:=(HWW.o.cell (p:=⟨g,o+i*3+2,none⟩) (Nat.lt_of_lt_of_le hgB HB.o)).trans k2;have hgs:g<wr.heap.size:=block_lt_of_cell k0;have hxm:G.rs[i]∈G.rs:=List.getElem_mem hlt;have e:=HFT.o.r _ hxm;have hxl:=HOK.o.lin _ hxm;have hr6:=(Gm.rule_in (HOK.o.rr _ hxm)).1;have HNX:=aA (Gm.kl_next hlt);have HUS:=aA (HUSE.o _ hxm);have HPR:=aA (fun(y:World) (h:Below wr.heap.size wr y)=>zaU G.rs[i] T A' (some ⟨gp,0,none⟩) c' G.ns.length y.heap.size y ((hri.keep fun g o hg=>(HWW.o.trans (h.mono HWW.o.size)).cell (p:=⟨g,o,none⟩) (Nat.lt_of_lt_of_le hg HB.o)).more (Nat.le_trans HB.o (HWW.o.trans (h.mono HWW.o.size)).size)) e.2.2 (fun z hz h=>by rw[HTl.o];exact HOK.o.sin _ hxm z hz h) ((((HUP.o.below HBw.o HUP.o.lt).below h (Nat.lt_of_lt_of_le HUP.o.lt HBw.o.size))).rd0 (Nat.lt_of_lt_of_le HUP.o.lt (Nat.le_trans HBw.o.size h.size))) (Nat.le_refl _) (by omega));rw[HTl.o]at HPR;have HLN:=aA (Nat.le_trans (Gm.kl_len G i) hi);generalize G.rs[i]=x at *;obtain⟨l,r,pz⟩:=x;simp only at k0 k1 k2 HPR hxl hr6;obtain⟨m,rfl⟩:∃m:Nat,l=(m:Int):=⟨l.toNat,by omega⟩
    have hmi:=hxl.2;have HE0:Hid (Gm.rcB T R ⟨m,r,pz⟩=(R.getD m false&&Gm.allB true T r)):=aA (by simp[Gm.rcB]);have HBX:=aA ((Below.refl wr.heap.size wr).alloc (Nat.le_refl _) (.cells #[.int .i64 m,.slice A' r.length c',.int .i64 pz] 48));have km:=((HBw.o.cell (p:=⟨gr,m,none⟩) HUR.o.lt).trans (HUR.o.cell m (by rw[HRL.o];omega)))
    have lgr:gr<wr.heap.size:=block_lt_of_cell km;clear hc hri e hxm hxl;unfold Gm.use at HNX HUS;have HUE:=aA (HUS.o.symm.trans HE0.o);generalize Gm.tr (Gm.Rc G _/\Gm.Al true G.rs _)=ub at *;clear HUS HE0;have HW1:=aA (HBw.o.alloc HBw.o.size (.cells #[.int .i64 m,.slice A' r.length c',.int .i64 pz] 48));have HO1:=aA (HO.o.alloc (.cells #[.int .i64 m,.slice A' r.length c',.int .i64 pz] 48));generalize R.getD m false=rb at *;cases rb
    ·obtain rfl:ub=false:=HUE.o;have HX:Hid (Gm.kl G (i+1)=Gm.kl G i):=aA (HNX.o.trans (if_neg (by simp)));clear HNX HUE;go_wp2;go_roundw
     case rel=>exact⟨i+1,hlt,by go_num,by rw[HX.o];exact HO1,HW1⟩
     case measure=>simp[intOf];omega
    ·have HPW:=aA (HPR.o _ HBX.o);generalize Gm.allB true T r=ab at *;cases ab
     ·obtain rfl:ub=false:=HUE.o;have HX:Hid (Gm.kl G (i+1)=Gm.kl G i):=aA (HNX.o.trans (if_neg (by simp)));clear HNX HUE HPR;go_wp2_with fail
      refine HPW.o.mono ?_;rintro _ w2 ⟨rfl,hb2⟩;have HW2:=aA (HW1.o.trans (hb2.mono HW1.o.size));have HO2:=aA (HO1.o.below hb2 (Nat.le_refl _));clear hb2;go_wp2;go_roundw
      case rel=>exact⟨i+1,hlt,by go_num,by rw[HX.o];exact HO2,HW2⟩
      case measure=>simp[intOf];omega
     ·obtain rfl:ub=true:=HUE.o;have HX:Hid (Gm.kl G (i+1)=Gm.kl G i++[(i:Int)]):=aA (HNX.o.trans (if_pos rfl));clear HNX HUE HPR;go_wp2_with fail
      refine HPW.o.mono ?_;rintro _ w2 ⟨rfl,hb2⟩;have HW2:=aA (HW1.o.trans (hb2.mono HW1.o.size));have HO2:=aA (HO1.o.below hb2 (Nat.le_refl _));clear hb2;go_wp2_with (at_builtin;refine zaT rfl (.tmp 30) (.tmp 32) _ rfl Tryz.underlying38 wc.heap.size _ _ rfl (HO2.o.alloc _) _ 1 i rfl (World.cell?_alloc_new _ _ _ 0) (by have:=HLN.o;have:=HR40.o;omega) (by have:=HW2.o.size;simp;omega) ?_;intro v' w3 ho3 hg3)
      go_roundw
      case rel=>exact⟨i+1,hlt,by go_num,by rw[HX.o];exact ho3,zbC (HW2.o.alloc HW2.o.size _) (HO2.o.alloc _) hg3 (by have:=HW2.o.size;simp;omega)⟩
      case measure=>simp[intOf];omega
   ·obtain rfl:i=G.rs.length:=by omega
    go_wp2;go_ret
    exact⟨_,rfl,HO.o.mono HW.o.below.size,HW.o.below.trans (HBw.o.mono HW.o.below.size)⟩
theorem Gm.ord_snoc:∀(ls acc:List Int) (l:Int),Gm.ord acc (ls++[l])=if l∈Gm.ord acc ls then Gm.ord acc ls else Gm.ord acc ls++[l]
 | [],acc,l=>by rw[List.nil_append,Gm.ord,Gm.ord,Gm.ord]
 | x::r,acc,l=>by rw[List.cons_append,Gm.ord,Gm.ord,Gm.ord_snoc r]
noncomputable def Gm.oK (G:Gm.Gr) (k:Nat):List Int:=Gm.ord [] (((Gm.krs G).take k).map Gm.Rl.l)
theorem Gm.oK_next {G:Gm.Gr} {k:Nat} (h:k<(Gm.krs G).length):Gm.oK G (k+1)=if((Gm.krs G)[k]).l∈Gm.oK G k then Gm.oK G k else Gm.oK G k++[((Gm.krs G)[k]).l]:=by
 unfold Gm.oK;rw[List.take_succ_eq_append_getElem h,List.map_append,List.map_singleton,Gm.ord_snoc]
theorem Gm.oK_all (G:Gm.Gr):Gm.oK G (Gm.krs G).length=Gm.olds G:=by unfold Gm.oK Gm.olds;rw[List.take_length]
theorem Gm.oK_mem {G:Gm.Gr} (h:Gm.Ok G) {k:Nat} {j:Int} (hj:j∈Gm.oK G k):0<=j/\j<G.ns.length:=by
 unfold Gm.oK at hj;rw[Gm.ord_mem]at hj;rcases hj with hj|hj
 ·simp at hj
 ·obtain⟨x,hx,rfl⟩:=List.mem_map.1 hj;exact h.lin x (Gm.mem_krs.1 (List.mem_of_mem_take hx)).1
theorem Gm.oK_len {G:Gm.Gr} (h:Gm.Ok G) (k:Nat):(Gm.oK G k).length<=G.ns.length:=by
 have h1:=Gm.pigeons G.ns.length ((Gm.oK G k).map (· + 1)) ?_ ?_
 ·simpa using h1.1
 ·refine List.nodup_iff_pairwise_ne.2 ?_;rw[List.pairwise_map]
  have:(Gm.oK G k).Nodup:=Gm.ord_nodup _ _ (by simp)
  exact(List.nodup_iff_pairwise_ne.1 this).imp fun h e=>h (by omega)
 ·intro x hx;obtain⟨y,hy,rfl⟩:=List.mem_map.1 hx
  have:=Gm.oK_mem h hy
  omega
def Gm.anL (n:Nat) (o:List Int):List Int:=(List.range n).map fun j:Nat=>if(j:Int)∈o then Gm.pos o j else 0
def Gm.cmL (n:Nat) (o:List Int):List Bool:=(List.range n).map fun j:Nat=>decide ((j:Int)∈o)
theorem Gm.anL_len (n:Nat) (o:List Int):(Gm.anL n o).length=n:=by simp[Gm.anL]
theorem Gm.cmL_len (n:Nat) (o:List Int):(Gm.cmL n o).length=n:=by simp[Gm.cmL]
theorem Gm.anL_at {n j:Nat} (h:j<n) (o:List Int):(Gm.anL n o).getD j 0=if(j:Int)∈o then Gm.pos o j else 0:=by simp[Gm.anL,h]
theorem Gm.cmL_at {n j:Nat} (h:j<n) (o:List Int):(Gm.cmL n o).getD j false=decide ((j:Int)∈o):=by simp[Gm.cmL,h]
theorem Gm.anL_nil (n:Nat):Gm.anL n []=List.replicate n 0:=by
 refine List.ext_getElem (by simp[Gm.anL]) fun i h1 h2=>?_;simp[Gm.anL]
theorem Gm.cmL_nil (n:Nat):Gm.cmL n []=List.replicate n false:=by
 refine List.ext_getElem (by simp[Gm.cmL]) fun i h1 h2=>?_;simp[Gm.cmL]
theorem Gm.pos_no {o:List Int} {l:Int} (h:l ∉ o):Gm.pos o l = -1:=by unfold Gm.pos;rw[if_neg h]
theorem Gm.pos_snoc {o:List Int} {l j:Int} (hj:j≠l):Gm.pos (o++[l]) j=Gm.pos o j:=by
 by_cases h:j∈o
 ·exact Gm.pos_app h
 ·rw[Gm.pos_no h,Gm.pos_no (by simp[h,hj])]
theorem Gm.pos_end {o:List Int} {l:Int} (hn:l ∉ o):Gm.pos (o++[l]) l=o.length:=Gm.pos_new (t:=[]) hn
theorem Gm.anL_snoc {n l:Nat} {o:List Int} (hn:(l:Int) ∉ o):(Gm.anL n o).set l o.length=Gm.anL n (o++[(l:Int)]):=by
 refine List.ext_getElem (by simp[Gm.anL]) fun i h1 h2=>?_;rw[List.getElem_set];by_cases e:l=i
 ·subst e;rw[if_pos rfl];simp[Gm.anL,Gm.pos_end hn]
 ·rw[if_neg e];have e2:¬(i:Int)=(l:Int):=by omega
  simp only[Gm.anL,List.getElem_map,List.getElem_range,List.mem_append,List.mem_singleton,e2,or_false];rw[Gm.pos_snoc e2]
theorem Gm.cmL_snoc {n l:Nat} {o:List Int}:(Gm.cmL n o).set l true=Gm.cmL n (o++[(l:Int)]):=by
 refine List.ext_getElem (by simp[Gm.cmL]) fun i h1 h2=>?_;rw[List.getElem_set];by_cases e:l=i
 ·subst e;simp[Gm.cmL]
 ·rw[if_neg e];have e2:¬(i:Int)=(l:Int):=by omega
  simp[Gm.cmL,e2]
def Gm.nmL (G:Gm.Gr) (o:List Int):List (List Int):=o.map fun l=>G.ns.getD l.toNat []
structure RdS (w1 wr:World) (H gA:Nat) (cs:Array Value) (vT vN vR:Value) (ts:List Gm.Tm) (ns:List (List Int)) (rs:List Gm.Rl) (an:List Int):Prop where
 h:wr.heap[H]?=some (.cells cs 26 (0,0))
 t:aX wr w1.heap.size vT ts
 nn:bH wr w1.heap.size vN ns
 r:bA wr w1.heap.size wr.heap.size vR rs
 a:UBI wr gA an
 w:Below w1.heap.size w1 wr
 hH:w1.heap.size<=H
 hA:w1.heap.size<=gA
section
variable {w1 wr w':World} {H gA:Nat} {cs:Array Value} {vT vN vR:Value} {ts:List Gm.Tm} {ns:List (List Int)} {rs:List Gm.Rl} {an:List Int}
theorem RdS.grown (h:RdS w1 wr H gA cs vT vN vR ts ns rs an) {row:Option Nat} (hg:wr.grownBy w' row) (ho:∀g,row=some g->g≠H/\w1.heap.size<=g/\∃cs T,wr.heap[g]?=some (.cells cs T (0,0))/\T≠81/\T≠9/\T≠3/\T≠48):RdS w1 w' H gA cs vT vN vR ts ns rs an:=by
 refine⟨(hg.block H (Array.getElem?_eq_some_iff.1 h.h).1 (fun e=>(ho H e.symm).1 rfl)).trans h.h,World.ownsRow.kept h.t hg ?_,World.ownsRow.kept h.nn hg ?_,(h.r.grown hg ?_).more hg.size,?_,h.w.grown hg h.w.size (fun k e=>(ho k e).2.1),h.hH,h.hA⟩
 ·rcases row with _|g
  ·exact zav _
  ·obtain⟨_,_,cs,T,h1,h2,_⟩:=ho g rfl;exact aP h.t h1 (fun cur e=>by injection e with _ e;exact h2 e)
 ·rcases row with _|g
  ·exact zav _
  ·obtain⟨_,_,cs,T,h1,_,h2,_⟩:=ho g rfl;exact aP h.nn h1 (fun cur e=>by injection e with _ e;exact h2 e)
 ·intro g e;obtain⟨_,_,cs,T,h1,_,_,h2,h3⟩:=ho g e;exact .inl ⟨aR h1 h2,aR h1 h3⟩
 ·refine h.a.grown hg fun e=>?_;obtain⟨_,_,cs,T,h1,_,_,h2,_⟩:=ho gA e.symm;exact aR h1 h2 _ h.a
theorem RdS.alloc (h:RdS w1 wr H gA cs vT vN vR ts ns rs an) (o:Obj):RdS w1 (wr.alloc o) H gA cs vT vN vR ts ns rs an:=h.grown (World.grownBy_alloc wr o .none) (fun g e=>by cases e)
theorem RdS.below (h:RdS w1 wr H gA cs vT vN vR ts ns rs an) (hb:Below wr.heap.size wr w'):RdS w1 w' H gA cs vT vN vR ts ns rs an:=h.grown (aM hb .none) (fun g e=>by cases e)
theorem RdS.drew (h:RdS w1 wr H gA cs vT vN vR ts ns rs an):RdS w1 wr.drew H gA cs vT vN vR ts ns rs an:=h.grown (aH wr .none) (fun g e=>by cases e)
theorem RdS.set (h:RdS w1 wr H gA cs vT vN vR ts ns rs an) {g:Nat} {cs':Array Value} {T:TypeId} (hT:wr.heap[g]?=some (.cells cs' T (0,0))) (h1:T≠81) (h2:T≠9) (h3:T≠3) (h4:T≠48) (hH:g≠H) (hb:w1.heap.size<=g) (j:Nat) (u:Value):RdS w1 (wr.setCell ⟨g,j,none⟩ u) H gA cs vT vN vR ts ns rs an :=
 h.grown (aF (World.grownBy.refl wr (some g)) j u) (fun g' e=>by injection e with e;subst e;exact⟨hH,hb,cs',T,hT,h1,h2,h3,h4⟩)
theorem RdS.setH (h:RdS w1 wr H gA cs vT vN vR ts ns rs an) (j:Nat) (u:Value):RdS w1 (wr.setCell ⟨H,j,none⟩ u) H gA (cs.setIfInBounds j u) vT vN vR ts ns rs an:=by
 have hs:wr.grownBy (wr.setCell ⟨H,j,none⟩ u) (some H):=aF (World.grownBy.refl wr (some H)) j u;refine⟨heap_setCell_same wr H j _ _ u h.h,World.ownsRow.kept h.t hs (aP h.t h.h (fun cur e=>by injection e with _ e;cases e)),World.ownsRow.kept h.nn hs (aP h.nn h.h (fun cur e=>by injection e with _ e;cases e)),(h.r.grown hs ?_).more hs.size,h.a.grown hs ?_,h.w.grown hs h.w.size (fun k e=>by injection e with e;rw[<-e];exact h.hH),h.hH,h.hA⟩
 ·intro g e;injection e with e;subst e;exact .inl ⟨aR h.h (by decide),aR h.h (by decide)⟩
 ·intro e;injection e with e
  have:=h.a
  unfold UBI at this;rw[e,h.h]at this;injection this with this;injection this with _ this;cases this
theorem RdS.setA (h:RdS w1 wr H gA cs vT vN (.slice none 0 0) ts ns [] an) (j:Nat) (z:Int):RdS w1 (wr.setCell ⟨gA,j,none⟩ (.int .i64 z)) H gA cs vT vN (.slice none 0 0) ts ns [] (an.set j z):=by
 have hs:wr.grownBy (wr.setCell ⟨gA,j,none⟩ (.int .i64 z)) (some gA):=aF (World.grownBy.refl wr (some gA)) j _;have ha:=h.a;unfold UBI at ha;refine⟨(hs.block H (Array.getElem?_eq_some_iff.1 h.h).1 (fun e=>?_)).trans h.h,World.ownsRow.kept h.t hs (aP h.t ha (fun cur e=>by injection e with _ e;cases e)),World.ownsRow.kept h.nn hs (aP h.nn ha (fun cur e=>by injection e with _ e;cases e)),bA.nil _ _ _,h.a.set_ j z,h.w.grown hs h.w.size (fun k e=>by injection e with e;rw[<-e];exact h.hA),h.hH,h.hA⟩;injection e with e;rw[<-e,h.h]at ha;injection ha with ha;injection ha with _ ha;cases ha
theorem RdS.putN (h:RdS w1 wr H gA cs vT vN vR ts ns rs an) {v':Value} {ns':List (List Int)} (ho:bH w' w1.heap.size v' ns') (hg:wr.grownBy w' vN.ownBlock):RdS w1 w' H gA cs vT v' vR ts ns' rs an:=by
 have hn:=h.nn;have hh:=h.h;have ha:=h.a;unfold UBI at ha;refine⟨zai hh hn (by decide) hg,World.ownsRow.kept h.t hg (zat h.t hn (by decide)),ho,(h.r.grown hg fun g e=>?_).more hg.size,?_,h.w.grown hg h.w.size (fun k e=>(aI hn e).1),h.hH,h.hA⟩
 ·obtain⟨_,cur,hc⟩:=aI hn e;exact .inl ⟨aR hc (by decide),aR hc (by decide)⟩
 ·exact zai ha hn (by decide) hg
theorem RdS.putR (h:RdS w1 wr H gA cs vT vN vR ts ns rs an) {v':Value} {rs':List Gm.Rl} (ho:bA w' w1.heap.size w'.heap.size v' rs') (hg:wr.grownBy w' vR.ownBlock):RdS w1 w' H gA cs vT vN v' ts ns rs' an:=by
 obtain⟨qs,_,h2,_⟩:=id h.r;have hh:=h.h;have ha:=h.a;unfold UBI at ha;exact⟨zai hh h2 (by decide) hg,World.ownsRow.kept h.t hg (zat h.t h2 (by decide)),World.ownsRow.kept h.nn hg (zat h.nn h2 (by decide)),ho,zai ha h2 (by decide) hg,h.w.grown hg h.w.size (fun k e=>(aI h2 e).1),h.hH,h.hA⟩
theorem RdS.rd (h:RdS w1 wr H gA cs vT vN vR ts ns rs an) (z:Int):aT wr wr.heap.size (.agg #[vT,vN,vR,.int .i64 z]) ⟨ts,ns,rs,z⟩:=by
 obtain⟨AT,cT,rfl,h1,h2⟩:=zbe h.t;obtain⟨AN,cN,rfl,h3,h4⟩:=zbM h.nn;obtain⟨AR,cR,rfl,h5,h6⟩:=zbk h.r (Nat.le_refl _);exact⟨AT,cT,AN,cN,AR,cR,rfl,h1,h3,h5,h2,h4,h6⟩
end
theorem zjD {w:World} {o:Oper} {a:Act} {KK:Act->World->Prop} {Q:Exit->Act->World->Prop}
  (s x:Operand) (t:TypeId) (ho:o.op=.call {callee:=.builtin .append,args:=#[s,x],argTypes:=#[t,t]}) (ht:Tryz.prog.underlying t=some (.slice 9))
  (base:Nat) (v:Value) (ts:List (List Int)) (hs:a.eval s=v) (hown:bH w base v ts) (g c:Nat) (y:List Int) (hx:a.eval x=.slice (some ⟨g,0,none⟩) 1 c) (hz:w.cell? ⟨g,0,none⟩=some (.string (K.str y)))
  (hlen:ts.length<=1000000) (hbase:base<=w.heap.size)
  (hK:∀v' w',bH w' base v' (ts++[y])->w.grownBy w' v.ownBlock->KK (a.put o.dst v') w') :
  o.wp Tryz.prog a w KK Q:=by
 obtain⟨i,hi,hz0,hz1,hz2⟩:=info_parts zjl;refine wp_append_own w s x t ho base 9 i _ 1 16 ht hi hz0 hz1 hz2 rfl (by decide) v ts.length (zkM ts) hs hown ⟨g,0,none⟩ 1 c [.string (K.str y)] hx rfl ?_ ?_ (by unfold maxLen;omega) (by omega) hbase fun v' w' h1 h2 _=>hK v' w' ?_ h2
 ·intro j u hj;rw[zd6,Nat.zero_add];rcases j with _|j
  ·simp at hj;rw[<-hj];exact hz
  ·simp at hj
 ·intro u hu;simp at hu;rcases hu with rfl;rfl
 ·unfold bH zkM;rw[List.length_append,List.map_append];exact h1
end Go.Proofs.YtcmhaemaophplaaGreat
namespace Go.Proofs.YtcmhaemaophplaaGreat
set_option maxRecDepth 100000
set_option maxHeartbeats 40000000
open Go.RowKit
theorem Gm.an1_re {G:Gm.Gr} (h:Gm.Ok G) {x:Gm.Rl} (hx:x∈Gm.krs G):(⟨(Gm.anL G.ns.length (Gm.olds G)).getD x.l.toNat 0,x.r.map (Gm.an1 (Gm.anL G.ns.length (Gm.olds G))),x.p⟩:Gm.Rl)=Gm.re (Gm.olds G) x:=by
 have hxm:=(Gm.mem_krs.1 hx).1;have hl:=h.lin x hxm;unfold Gm.re
 congr 1
 ·rw[Gm.anL_at (by omega),Int.toNat_of_nonneg hl.1,if_pos (Gm.use_left hx)]
 ·refine List.map_congr_left fun z hz=>?_;unfold Gm.an1 Gm.re1;by_cases h0:z<0
  ·have:=h.sin x hxm z hz h0
   rw[if_pos h0,if_pos h0,Gm.anL_at (by omega),Int.toNat_of_nonneg (by omega),if_pos (Gm.use_sym hx hz h0)]
  ·rw[if_neg h0,if_neg h0]
theorem Gm.kl_at {G:Gm.Gr} {k:Nat} (h:k<(Gm.kl G G.rs.length).length):∃i:Nat,(Gm.kl G G.rs.length)[k]=(i:Int)/\∃hi:i<G.rs.length,∃hk:k<(Gm.krs G).length,(Gm.krs G)[k]=G.rs[i]:=by
 have e:Gm.kl G G.rs.length=(Gm.kept G).map fun j:Nat=>(j:Int):=rfl;have h2:k<(Gm.kept G).length:=by rw[e,List.length_map]at h;exact h
 have h3:=Gm.kept_lt (List.getElem_mem h2);refine⟨(Gm.kept G)[k],by simp[e],h3,by rw[<-Gm.kept_len];exact h2,Gm.kept_at k h2 h3⟩
theorem Gm.kl_krs (G:Gm.Gr):(Gm.kl G G.rs.length).length=(Gm.krs G).length:=by rw[<-Gm.kept_len,Gm.kl_all,List.length_map]
theorem Gm.krs_len (G:Gm.Gr):(Gm.krs G).length<=G.rs.length:=List.length_filter_le _ _
def zdk (w:World) (base:Nat) (v:Value) (G:Gm.Gr):Prop:=∃vT vN vR,v=.agg #[vT,vN,vR,.int .i64 G.st]/\aX w base vT G.ts/\bH w base vN G.ns/\bA w base w.heap.size vR G.rs
theorem zdk.rd {w:World} {base:Nat} {v:Value} {G:Gm.Gr} (h:zdk w base v G):aT w w.heap.size v G:=by
 obtain⟨vT,vN,vR,rfl,h1,h2,h3⟩:=h;obtain⟨AT,cT,rfl,a1,a2⟩:=zbe h1;obtain⟨AN,cN,rfl,a3,a4⟩:=zbM h2;obtain⟨AR,cR,rfl,a5,a6⟩:=zbk h3 (Nat.le_refl _);exact⟨AT,cT,AN,cN,AR,cR,rfl,a1,a3,a5,a2,a4,a6⟩
theorem zek {w w':World} {base:Nat} {e:TypeId} {size n:Nat} {v:Value} {xs:List Value} {row:Option Nat} (h:w.ownsRow base e size v n xs) (hg:w.grownBy w' row) (hr:∀g,row=some g->g<base):w'.ownsRow base e size v n xs :=
 World.ownsRow.kept h hg (by
  cases hv:v.ownBlock with
  | none=>exact .inl rfl
  | some k=>exact .inr (fun e=>by have:=(aI h hv).1;have:=hr k e.symm;omega))
theorem zdk.grown {w w':World} {base:Nat} {v:Value} {G:Gm.Gr} {row:Option Nat} (h:zdk w base v G) (hg:w.grownBy w' row) (hr:∀g,row=some g->g<base):zdk w' base v G:=by
 obtain⟨vT,vN,vR,rfl,h1,h2,qs,a1,a2,a3,a4⟩:=h;refine⟨vT,vN,vR,rfl,zek h1 hg hr,zek h2 hg hr,qs,a1,zek a2 hg hr,fun k hk=>Nat.lt_of_lt_of_le (a3 k hk) hg.size,fun q hq=>⟨(a4 q hq).1,(a4 q hq).2.1,fun hn=>?_⟩⟩;obtain⟨g,cur,e,hb,hN,hh,hc⟩:=(a4 q hq).2.2 hn;exact⟨g,cur,e,hb,Nat.lt_of_lt_of_le hN hg.size,(hg.block g (Array.getElem?_eq_some_iff.1 hh).1 (fun e=>by have:=hr g e.symm;omega)).trans hh,hc⟩
theorem zdk.less {w:World} {base base':Nat} {v:Value} {G:Gm.Gr} (h:zdk w base v G) (hb:base'<=base):zdk w base' v G:=by
 obtain⟨vT,vN,vR,rfl,h1,h2,qs,a1,a2,a3,a4⟩:=h;refine⟨vT,vN,vR,rfl,za5 h1 hb,za5 h2 hb,qs,a1,za5 a2 hb,a3,fun q hq=>⟨(a4 q hq).1,(a4 q hq).2.1,fun hn=>?_⟩⟩;obtain⟨g,cur,e,hb2,hN,hh⟩:=(a4 q hq).2.2 hn;exact⟨g,cur,e,Nat.le_trans hb hb2,hN,hh⟩
theorem UBI.row {w:World} {g base:Nat} {zs:List Int} (h:UBI w g zs) (hb:base<=g):zdj w base w.heap.size (some ⟨g,0,none⟩) zs:=fun _ =>
 ⟨g,_,rfl,hb,h.lt,h,fun j hj=>by simp[hj]⟩
theorem Gm.anL_ok {G:Gm.Gr} (h:Gm.Ok G) (n i:Nat) (hi:i<n):0<=(Gm.anL n (Gm.olds G)).getD i 0/\(Gm.anL n (Gm.olds G)).getD i 0<=1000:=by
 rw[Gm.anL_at hi];split
 ·rename_i hm
  have h1:=Gm.pos_lt hm;have h2:=Gm.olds_le h;have h3:=(Gm.nons_iff G).1 h.n;omega
 ·omega
theorem Gm.krs_next {G:Gm.Gr} {k:Nat} (h:k<(Gm.krs G).length):((Gm.krs G).take (k+1)).map (Gm.re (Gm.olds G))=((Gm.krs G).take k).map (Gm.re (Gm.olds G))++[Gm.re (Gm.olds G) (Gm.krs G)[k]]:=by
 rw[List.take_succ_eq_append_getElem h,List.map_append,List.map_singleton]
theorem zeg (v:Value) (G:Gm.Gr) (B BK:Nat) (AK:Option Addr) (cK:Nat) (w:World) (hg:aT w B v G) (hf:Gm.Fit G) (hok:Gm.Ok G) (hp:Gm.Gn true G.rs G.st) (hB:B<=w.heap.size) (hk:RdI w BK AK (Gm.kl G G.rs.length)) (hBK:BK<=w.heap.size) :
  Calls Tryz.prog 99 #[v,.slice AK (Gm.kl G G.rs.length).length cK] w fun e w'=>∃g,e=.returned g/\zdk w' w.heap.size g (Gm.reduce G)/\Below w.heap.size w w':=by
 obtain⟨AT,cT,AN,cN,AR,cR,rfl,_,⟨hlN,hmN⟩,_,hT,hN,hR⟩:=hg;obtain⟨w1,hw1⟩:∃y,y=(w.alloc (.cells #[.slice AT G.ts.length cT,.slice AN G.ns.length cN,.slice AR G.rs.length cR,.int .i64 G.st] 26)).alloc (.cells #[.slice none 0 0,.slice none 0 0,.slice none 0 0,.int .i64 0] 26):=⟨_,rfl⟩
 have hs1:w1.heap.size=w.heap.size+2:=by rw[hw1];simp
 have HB1:Hid (Below w.heap.size w w1):=aA (by rw[hw1];exact((Below.refl _ w).alloc (Nat.le_refl _) _).alloc (by simp) _);have HX0:Hid (w1.heap[w.heap.size]?=some (.cells #[.slice AT G.ts.length cT,.slice AN G.ns.length cN,.slice AR G.rs.length cR,.int .i64 G.st] 26 (0,0))):=aA (by rw[hw1,Below.heap_alloc _ _ _ (by simp)];exact heap_alloc_new w _);have HX1:Hid (w1.heap[w.heap.size+1]?=some (.cells #[.slice none 0 0,.slice none 0 0,.slice none 0 0,.int .i64 0] 26 (0,0))):=aA (by rw[hw1];have:=heap_alloc_new (w.alloc (.cells #[.slice AT G.ts.length cT,.slice AN G.ns.length cN,.slice AR G.rs.length cR,.int .i64 G.st] 26)) (.cells #[.slice none 0 0,.slice none 0 0,.slice none 0 0,.int .i64 0] 26);simpa using this);have HS1:=aA hs1;have HOK:=aA hok;have HFT:=aA hf;have HPS:=aA hp;have HN40:Hid (G.ns.length<=40):=aA (by have:=(Gm.nons_iff G).1 hok.n;omega);have HT24:Hid (G.ts.length<=24):=aA (by have:=hok.t;unfold Gm.terms at this;rw[Bool.and_eq_true]at this;exact of_decide_eq_true this.1);have HR40:Hid (G.rs.length<=40):=aA hok.r40;have HKL:Hid ((Gm.kl G G.rs.length).length=(Gm.krs G).length):=aA (Gm.kl_krs G);have HB:=aA hB;have HRl:=aA (fun(y:World) (h:Below w.heap.size w y)=>hR.keep fun g o hg=>h.cell (p:=⟨g,o,none⟩) (Nat.lt_of_lt_of_le hg hB));have HNm:=aA (fun(y:World) (h:Below w.heap.size w y)=>hN.keep fun g o hg=>h.cell (p:=⟨g,o,none⟩) (Nat.lt_of_lt_of_le hg hB));have HKK:=aA (fun(y:World) (h:Below w.heap.size w y)=>hk.below h hBK);have HBX:=aA (fun(y:World) (h:Below w1.heap.size w1 y)=>HB1.o.trans (h.mono (by omega)));have HCT:=aA (zhL AT cT w.heap.size G.ts w1 ((hT.keep fun g o hg=>HB1.o.cell (p:=⟨g,o,none⟩) (Nat.lt_of_lt_of_le hg hB)).more hB) (by omega) (by have:=HT24.o;omega));have HQ:=aA (fun(y:World) (h:Below w1.heap.size w1 y)=>(h.block w.heap.size (by omega)).trans HX0.o);have c0:w1.cell? ⟨w.heap.size,0,none⟩=some (.slice AT G.ts.length cT):=by rw[cell_of_row w1 _ 0 _ _ _ HX0.o];rfl
 have hd0:w.heap.size<w1.heap.size:=by omega
 have hlen:(G.ns.length:Int)<=9223372036854775807:=by omega
 have hlen2:((Gm.kl G G.rs.length).length:Int)<=9223372036854775807:=by have:=HKL.o;have:=Gm.krs_len G;have:=hok.r40;omega
 have hnn:=HN40.o;clear hT hN hR hs1 hok hf hp hB hk hBK;obtain⟨ks,hL⟩:∃ks,ks=Gm.kl G G.rs.length:=⟨_,rfl⟩
 rw[<-hL]at HKK HKL hlen2 ⊢;have HL:=aA hL;clear hL
 go_enter Tryz.func99,Tryz.ntmps99
 go_upto_region 1 with fail
 rw[<-hw1];clear hw1;go_upto_region 2 with fail
 refine HCT.o.mono ?_;rintro _ w2 ⟨v2,rfl,ho2,hb2⟩;obtain⟨A2,c2,rfl,_,_⟩:=aO ho2;have HO2:=aA ho2;have HB2:=aA hb2;clear ho2 hb2 HCT c0;go_upto_region 2 with fail
 obtain⟨w3,hw3⟩:∃y,y=w2.alloc (.cells #[.slice A2 G.ts.length c2,.slice none 0 0,.slice none 0 0,.int .i64 0] 26):=⟨_,rfl⟩
 have HB3:Hid (Below w1.heap.size w1 w3):=aA (by rw[hw3];exact HB2.o.alloc HB2.o.size _);have HO3:Hid (aX w3 w1.heap.size (.slice A2 G.ts.length c2) G.ts):=aA (by rw[hw3];exact World.ownsRow.alloc HO2.o _);have HH3:Hid (w3.heap[w2.heap.size]?=some (.cells #[.slice A2 G.ts.length c2,.slice none 0 0,.slice none 0 0,.int .i64 0] 26 (0,0))):=aA (by rw[hw3];exact heap_alloc_new w2 _);rw[<-hw3];clear hw3 HO2;have c1:w3.cell? ⟨w.heap.size,1,none⟩=some (.slice AN G.ns.length cN):=by rw[cell_of_row w3 _ 1 _ _ _ (HQ.o w3 HB3.o)];rfl
 have l3:=block_lt_of_cell c1;go_upto_region 3 with(at_make;refine zg6 rfl (.tmp 19) (.tmp 19) _ rfl Tryz.underlying38 G.ns.length _ _ rfl rfl rfl rfl (by omega) ?_;intro w4 hu4 hb4 hlt4)
 have HB4:=aA (HB3.o.trans (hb4.mono HB3.o.size));have HU4:=aA hu4;have HO4:Hid (aX w4 w1.heap.size (.slice A2 G.ts.length c2) G.ts):=aA (World.ownsRow.kept HO3.o (aM hb4 .none) (zav _));have HH4:=aA (aC hb4 HH3.o);have HS3:Hid (w1.heap.size<=w3.heap.size):=aA HB3.o.size;have HH2:Hid (w2.heap.size<w3.heap.size):=aA (Array.getElem?_eq_some_iff.1 HH3.o).1;clear hu4 hb4 c1 l3 HO3 HH3 HB3;have c1:w4.cell? ⟨w.heap.size,1,none⟩=some (.slice AN G.ns.length cN):=by rw[cell_of_row w4 _ 1 _ _ _ (HQ.o w4 HB4.o)];rfl
 have l4:=block_lt_of_cell c1;go_upto_region 4 with(at_make;refine zc0 rfl (.tmp 23) (.tmp 23) _ rfl Tryz.underlying43 G.ns.length _ _ rfl rfl rfl rfl (by omega) ?_;intro w5 hu5 hb5 hlt5)
 have HS5:Hid (RdS w1 w5 w2.heap.size w3.heap.size #[.slice A2 G.ts.length c2,.slice none 0 0,.slice none 0 0,.int .i64 0] (.slice A2 G.ts.length c2) (.slice none 0 0) (.slice none 0 0) G.ts (Gm.nmL G (Gm.oK G 0)) [] (Gm.anL G.ns.length (Gm.oK G 0))):=aA
  ⟨aC hb5 HH4.o,World.ownsRow.kept HO4.o (aM hb5 .none) (zav _),bH.nil _ _,bA.nil _ _ _,by rw[show Gm.oK G 0=[] from rfl,Gm.anL_nil];exact HU4.o.below hb5 HU4.o.lt,HB4.o.trans (hb5.mono HB4.o.size),HB2.o.size,HS3.o⟩
 have HC5:Hid (UBO w5 w4.heap.size (Gm.cmL G.ns.length (Gm.oK G 0))):=aA (by rw[show Gm.oK G 0=[] from rfl,Gm.cmL_nil];exact hu5);have HGC:Hid (w1.heap.size<=w4.heap.size):=aA HB4.o.size;have HNE:Hid (w2.heap.size≠w4.heap.size):=aA (by have:=HH2.o;omega);obtain⟨vT,hvT⟩:∃v,v=Value.slice A2 G.ts.length c2:=⟨_,rfl⟩
 obtain⟨H,hH⟩:∃x,x=w2.heap.size:=⟨_,rfl⟩
 obtain⟨gA,hgA⟩:∃x,x=w3.heap.size:=⟨_,rfl⟩
 obtain⟨gC,hgC⟩:∃x,x=w4.heap.size:=⟨_,rfl⟩
 rw[<-hvT,<-hH,<-hgA]at HS5;rw[<-hgC]at HC5 HGC;rw[<-hH,<-hgC]at HNE;rw[<-hvT,<-hH,<-hgA,<-hgC];clear hvT hH hgA hgC hu5 hb5 c1 l4 hlt4 hlt5 HU4 HO4 HH4 HB4 HB2 HS3 HH2;go_wp2;go_loopw [27] (fun vk wr=>∃(k:Nat) (vN:Value),k<=ks.length/\vk=.int .i64 k/\Hid (RdS w1 wr H gA #[vT,vN,.slice none 0 0,.int .i64 0] vT vN (.slice none 0 0) G.ts (Gm.nmL G (Gm.oK G k)) [] (Gm.anL G.ns.length (Gm.oK G k)))/\Hid (UBO wr gC (Gm.cmL G.ns.length (Gm.oK G k)))) (fun vk _=>ks.length-(intOf vk).toNat)
 case atStart=>exact⟨0,_,Nat.zero_le _,rfl,HS5,HC5⟩
 case round =>
  clear HS5 HC5;obtain⟨k,vN,hk,rfl,HS,HC⟩:=hrel;by_cases hlt:k<ks.length
  ·obtain⟨gk,ok,rfl,hgk,hck⟩:=HKK.o wr (HBX.o wr HS.o.w) (by omega);have kk:=hck k hlt;rw[L.gd_lt hlt]at kk;have lk:=block_lt_of_cell kk;obtain⟨i,hLi,hi,hkk,hkr⟩:=Gm.kl_at (G:=G) (k:=k) (by rw[<-HL.o];exact hlt);have hLi2:ks[k]=(i:Int):=by simp only[HL.o];exact hLi
   rw[hLi2]at kk;have HON:=aA (Gm.oK_next hkk);rw[hkr]at HON;obtain⟨g,o,rfl,hgB,hc⟩:=HRl.o wr (HBX.o wr HS.o.w) (by omega);have k0:=(hc i hi).1;have lg:=block_lt_of_cell k0;have hxl:=HOK.o.lin _ (List.getElem_mem hi);have q1:wr.cell? ⟨w.heap.size,1,none⟩=some (.slice AN G.ns.length cN):=by rw[cell_of_row wr _ 1 _ _ _ (HQ.o wr HS.o.w)];rfl
   have q2:wr.cell? ⟨w.heap.size,2,none⟩=some (.slice (some ⟨g,o,none⟩) G.rs.length cR):=by rw[cell_of_row wr _ 2 _ _ _ (HQ.o wr HS.o.w)];rfl
   have lq:=block_lt_of_cell q2;have HOL:=aA (Gm.oK_len HOK.o k);generalize (G.rs[i]).l=l at *;obtain⟨m,rfl⟩:∃m:Nat,l=(m:Int):=⟨l.toNat,by omega⟩
   have hmi:=hxl.2;have hmn:m<G.ns.length:=by omega
   have hii:(i:Int)<(G.rs.length:Int):=by omega
   have km:=HC.o.cell m (by rw[Gm.cmL_len];exact hmn);rw[Gm.cmL_at hmn]at km;have lc:=HC.o.lt;clear hck hc hkr hkk hLi hLi2 hxl;by_cases hin:(m:Int)∈Gm.oK G k
   ·rw[decide_eq_true hin]at km;have HX:=aA (HON.o.trans (if_pos hin));clear HON hin;go_wp2;go_roundw
    case rel=>exact⟨k+1,vN,hlt,by go_num,by rw[HX.o];exact HS,by rw[HX.o];exact HC⟩
    case measure=>simp[intOf];omega
   ·rw[decide_eq_false hin]at km;have HX:=aA (HON.o.trans (if_neg hin));have HIN:=aA hin;clear HON hin;have HNM:Hid (Gm.nmL G (Gm.oK G (k+1))=Gm.nmL G (Gm.oK G k)++[G.ns.getD m []]):=aA (by rw[HX.o];simp[Gm.nmL]);obtain⟨A',c',rfl,_,_⟩:=aO HS.o.nn;go_upto_region 9 with fail
    clear kk lk k0 lg q1 q2 lq km lc hii;have bh:=fun y:Calm.OnB H wr=>(show y.1.cell? ⟨H,1,none⟩=some (.slice A' (Gm.nmL G (Gm.oK G k)).length c') by rw[cell_of_row y.1 _ 1 _ _ _ (y.2.trans HS.o.h)];rfl)
    refine CalmN.region_tree (fun x=>∃y:Calm.OnB H wr,x=y.1) (.one [0,1,2,3,4,5,6,7] 8 (.one [9] 10 (.fin []))) (by kernel_rfl) (by kernel_rfl) (fun _ _ d _ _ h=>by cases d <;> exact h) ⟨⟨wr.drew,rfl⟩,rfl⟩ ?_;simp only[CalmN.wpT,CalmN.wpSt,CalmN.pickOps,List.getElem?_toArray,List.getElem?_cons_zero,List.getElem?_cons_succ];repeat (go_big_quiet_step (fail))
    refine wpQuiet_nil ?_;clear bh;have HSd:=aA HS.o.drew;have HCd:=aA (HC.o.drew);have hEd:wr.drew.heap[H]?=wr.heap[H]?:=rfl;obtain⟨wd,hwd⟩:∃y,y=wr.drew:=⟨_,rfl⟩
    rw[<-hwd]at HSd HCd hEd ⊢;clear hwd;have kc:=HCd.o.cell m (by rw[Gm.cmL_len];exact hmn);have fc:=HCd.o.frozen m;have lc:=HCd.o.lt;have hE6:(wd.setCell ⟨gC,m,none⟩ (.bool true)).heap[H]?=wr.heap[H]?:=(Below.heap_setCell wd ⟨gC,m,none⟩ (.bool true) H HNE.o).trans hEd;have HS6:=aA (HSd.o.set HCd.o (by decide) (by decide) (by decide) (by decide) (fun e=>HNE.o e.symm) HGC.o m (.bool true));have HC6:Hid (UBO (wd.setCell ⟨gC,m,none⟩ (.bool true)) gC (Gm.cmL G.ns.length (Gm.oK G (k+1)))):=aA (by rw[HX.o,<-Gm.cmL_snoc];exact HCd.o.set_ m true);intro KK hKK;rw[if_pos (by rfl)];go_wp2_with fail
    refine hKK _ _ ⟨⟨_,hE6⟩,rfl⟩ (fun x=>∃y:Calm.OnB H wr,x=y.1) (fun _ h=>h) ⟨⟨_,hE6⟩,rfl⟩ ?_;obtain⟨w6,hw6⟩:∃y,y=wd.setCell ⟨gC,m,none⟩ (.bool true):=⟨_,rfl⟩
    rw[<-hw6]at HS6 HC6 hE6 ⊢;clear hw6 kc fc lc HSd HCd hEd hKK;repeat (go_big_quiet_step (fail))
    refine wpQuiet_nil ?_;have ka:=HS6.o.a.cell m (by rw[Gm.anL_len];exact hmn);have fa:=HS6.o.a.frozen m;have la:=HS6.o.a.lt;have hAH:H≠gA:=fun e=>by have h1:=HS6.o.h;have h2:=HS6.o.a;unfold UBI at h2;rw[<-e,h1]at h2;injection h2 with h2;injection h2 with _ h2;cases h2
    have hAC:gC≠gA:=fun e=>by have h1:=HC6.o;have h2:=HS6.o.a;unfold UBO at h1;unfold UBI at h2;rw[<-e,h1]at h2;injection h2 with h2;injection h2 with _ h2;cases h2
    have hnl:(Gm.nmL G (Gm.oK G k)).length=(Gm.oK G k).length:=by simp[Gm.nmL]
    have hE7:(w6.setCell ⟨gA,m,none⟩ (.int .i64 (Gm.nmL G (Gm.oK G k)).length)).heap[H]?=wr.heap[H]?:=(Below.heap_setCell w6 ⟨gA,m,none⟩ _ H hAH).trans hE6
    have HS7:Hid (RdS w1 (w6.setCell ⟨gA,m,none⟩ (.int .i64 (Gm.nmL G (Gm.oK G k)).length)) H gA #[vT,.slice A' (Gm.nmL G (Gm.oK G k)).length c',.slice none 0 0,.int .i64 0] vT (.slice A' (Gm.nmL G (Gm.oK G k)).length c') (.slice none 0 0) G.ts (Gm.nmL G (Gm.oK G k)) [] (Gm.anL G.ns.length (Gm.oK G (k+1)))):=aA (by
     have q:=HS6.o.setA m ((Gm.nmL G (Gm.oK G k)).length:Int);rw[hnl]at q;rw[HX.o,<-Gm.anL_snoc HIN.o];rw[hnl];exact q)
    have HC7:=aA (HC6.o.far (p:=⟨gA,m,none⟩) hAC (.int .i64 (Gm.nmL G (Gm.oK G k)).length));clear hnl hAH hAC;intro KK hKK;rw[if_pos (by rfl)];go_wp2_with fail
    refine hKK _ _ ⟨⟨_,hE7⟩,rfl⟩ (fun x=>∃y:Calm.OnB H wr,x=y.1) (fun _ h=>h) ⟨⟨_,hE7⟩,rfl⟩ ?_;obtain⟨w7,hw7⟩:∃y,y=w6.setCell ⟨gA,m,none⟩ (.int .i64 (Gm.nmL G (Gm.oK G k)).length):=⟨_,rfl⟩
    rw[<-hw7]at HS7 HC7 ⊢;clear hw7 ka fa la HS6 HC6 hE6 hE7 hKK;refine wpQuiet_nil ?_;go_upto_region 10 with fail
    obtain⟨gN,oN,rfl,hgN,hcN⟩:=HNm.o w7 (HBX.o w7 HS7.o.w) (by omega);have kN:=hcN m hmn;rw[show G.ns[m]=G.ns.getD m [] by rw[List.getD_eq_getElem?_getD,List.getElem?_eq_getElem hmn];rfl]at kN;obtain⟨nm,hnm⟩:∃s,s=G.ns.getD m []:=⟨_,rfl⟩
    rw[<-hnm]at kN HNM;clear hnm;have hgw:gN<w1.heap.size:=by have:=HB.o;have:=HS1.o;omega
    have bN:=fun y:Calm.On w1.heap.size w1=>(y.2.cell (p:=⟨gN,oN+m,none⟩) hgw).trans ((HS7.o.w.cell (p:=⟨gN,oN+m,none⟩) hgw).symm.trans kN);have bq:=fun y:Calm.On w1.heap.size w1=>(show y.1.cell? ⟨w.heap.size,1,none⟩=some (.slice (some ⟨gN,oN,none⟩) G.ns.length cN) by rw[cell_of_row y.1 _ 1 _ _ _ (HQ.o y.1 y.2)];rfl)
    have HS8:=aA HS7.o.drew;have HC8:=aA HC7.o.drew;refine CalmN.region_tree (fun x=>∃y:Calm.On w1.heap.size w1,x=y.1) (.two [0,2,3,4,5,6] 1 (.one [] 7 (.one [] 8 (.one [9] 10 (.fin [])))) 7 (.one [] 1 (.one [] 8 (.one [9] 10 (.fin []))))) (by kernel_rfl) (by kernel_rfl) (fun _ _ d _ _ h=>by cases d <;> exact h) ⟨⟨w7.drew,HS8.o.w⟩,rfl⟩ ?_;simp only[CalmN.wpT,CalmN.wpSt,CalmN.pickOps,List.getElem?_toArray,List.getElem?_cons_zero,List.getElem?_cons_succ];repeat (go_big_quiet_step (fail))
    refine wpQuiet_nil ?_;clear bN bq kN hcN;obtain⟨w8,hw8⟩:∃y,y=w7.drew:=⟨_,rfl⟩
    rw[<-hw8]at HS8 HC8 ⊢;clear hw8 HS7 HC7;have HS9:=aA (HS8.o.alloc (.cells #[.string (K.str nm)] 9));have HC9:=aA (HC8.o.alloc (.cells #[.string (K.str nm)] 9));have HY9:Hid ((w8.alloc (.cells #[.string (K.str nm)] 9)).cell? ⟨w8.heap.size,0,none⟩=some (.string (K.str nm))):=aA (World.cell?_alloc_new _ _ _ 0);have n8:=cell_of_row w8 _ 1 _ _ _ HS8.o.h;have n9:=cell_of_row _ _ 1 _ _ _ HS9.o.h;have lh8:=(Array.getElem?_eq_some_iff.1 HS8.o.h).1;have lh9:=(Array.getElem?_eq_some_iff.1 HS9.o.h).1;refine⟨?_,?_⟩
    ·intro KK hKK;rw[if_pos (by rfl)];go_wp2_with fail
     refine hKK _ _ ⟨⟨_,HS8.o.w⟩,rfl⟩ (fun x=>∃y:Calm.On w1.heap.size w1,x=y.1) (fun _ h=>h) ⟨⟨_,HS8.o.w⟩,rfl⟩ ?_;refine wpQuiet_nil ?_;intro KK hKK;rw[if_pos (by rfl)];go_wp2_with fail
     refine hKK _ _ ⟨⟨_,HS9.o.w⟩,rfl⟩ (fun x=>∃y:Calm.On w1.heap.size w1,x=y.1) (fun _ h=>h) ⟨⟨_,HS9.o.w⟩,rfl⟩ ?_;refine wpQuiet_nil ?_;intro KK hKK;rw[if_pos (by rfl)];refine zjD (.tmp 52) (.tmp 58) _ rfl Tryz.underlying23 w1.heap.size _ _ rfl HS9.o.nn w8.heap.size 1 _ rfl HY9.o (by have:=HOL.o;have:=HN40.o;unfold Gm.nmL;rw[List.length_map];omega) HS9.o.w.size ?_;intro v' w10 ho10 hg10;have HS10:=aA (HS9.o.putN ho10 hg10);have HC10:Hid (UBO w10 gC (Gm.cmL G.ns.length (Gm.oK G (k+1)))):=aA (zai HC9.o HS9.o.nn (by decide) hg10);obtain⟨A10,c10,rfl,_,_⟩:=aO ho10;clear ho10 hg10;obtain⟨n10,hn10⟩:∃n,n=(Gm.nmL G (Gm.oK G k)++[nm]).length:=⟨_,rfl⟩
     rw[<-hn10]at HS10 ⊢;clear hn10;refine hKK _ _ ⟨⟨w10,HS10.o.w⟩,rfl⟩ (fun x=>∃y:Calm.On w1.heap.size w1,x=y.1) (fun _ h=>h) ⟨⟨w10,HS10.o.w⟩,rfl⟩ ?_
     go_frame
     repeat (go_big_quiet_step (fail))
     refine wpQuiet_nil ?_;intro KK hKK;rw[if_pos (by rfl)];have j1:=cell_of_row w10 _ 1 _ _ _ HS10.o.h;have f1:=frozen_of_row w10 _ 1 _ _ HS10.o.h;have lh:=(Array.getElem?_eq_some_iff.1 HS10.o.h).1;have HS11:=aA (HS10.o.setH 1 (.slice A10 n10 c10));have HC11:=aA (UBO.far HC10.o (p:=⟨H,1,none⟩) (fun e=>HNE.o e.symm) (.slice A10 n10 c10));go_wp2_with fail
     refine hKK _ _ ⟨⟨_,HS11.o.w⟩,rfl⟩ (fun x=>∃y:Calm.On w1.heap.size w1,x=y.1) (fun _ h=>h) ⟨⟨_,HS11.o.w⟩,rfl⟩ ?_;clear j1 f1 lh;refine wpQuiet_nil ?_;go_wp2;go_roundw
     case rel=>exact⟨k+1,_,hlt,by go_num,by rw[<-HNM.o,HX.o]at HS11;rw[HX.o];exact HS11,HC11⟩
     case measure=>simp[intOf];omega
    ·intro KK hKK;rw[if_pos (by rfl)];go_wp2_with fail
     refine hKK _ _ ⟨⟨_,HS9.o.w⟩,rfl⟩ (fun x=>∃y:Calm.On w1.heap.size w1,x=y.1) (fun _ h=>h) ⟨⟨_,HS9.o.w⟩,rfl⟩ ?_;refine wpQuiet_nil ?_;intro KK hKK;rw[if_pos (by rfl)];go_wp2_with fail
     refine hKK _ _ ⟨⟨_,HS9.o.w⟩,rfl⟩ (fun x=>∃y:Calm.On w1.heap.size w1,x=y.1) (fun _ h=>h) ⟨⟨_,HS9.o.w⟩,rfl⟩ ?_;refine wpQuiet_nil ?_;intro KK hKK;rw[if_pos (by rfl)];refine zjD (.tmp 52) (.tmp 58) _ rfl Tryz.underlying23 w1.heap.size _ _ rfl HS9.o.nn w8.heap.size 1 _ rfl HY9.o (by have:=HOL.o;have:=HN40.o;unfold Gm.nmL;rw[List.length_map];omega) HS9.o.w.size ?_;intro v' w10 ho10 hg10;have HS10:=aA (HS9.o.putN ho10 hg10);have HC10:Hid (UBO w10 gC (Gm.cmL G.ns.length (Gm.oK G (k+1)))):=aA (zai HC9.o HS9.o.nn (by decide) hg10);obtain⟨A10,c10,rfl,_,_⟩:=aO ho10;clear ho10 hg10;obtain⟨n10,hn10⟩:∃n,n=(Gm.nmL G (Gm.oK G k)++[nm]).length:=⟨_,rfl⟩
     rw[<-hn10]at HS10 ⊢;clear hn10;refine hKK _ _ ⟨⟨w10,HS10.o.w⟩,rfl⟩ (fun x=>∃y:Calm.On w1.heap.size w1,x=y.1) (fun _ h=>h) ⟨⟨w10,HS10.o.w⟩,rfl⟩ ?_
     go_frame
     repeat (go_big_quiet_step (fail))
     refine wpQuiet_nil ?_;intro KK hKK;rw[if_pos (by rfl)];have j1:=cell_of_row w10 _ 1 _ _ _ HS10.o.h;have f1:=frozen_of_row w10 _ 1 _ _ HS10.o.h;have lh:=(Array.getElem?_eq_some_iff.1 HS10.o.h).1;have HS11:=aA (HS10.o.setH 1 (.slice A10 n10 c10));have HC11:=aA (UBO.far HC10.o (p:=⟨H,1,none⟩) (fun e=>HNE.o e.symm) (.slice A10 n10 c10));go_wp2_with fail
     refine hKK _ _ ⟨⟨_,HS11.o.w⟩,rfl⟩ (fun x=>∃y:Calm.On w1.heap.size w1,x=y.1) (fun _ h=>h) ⟨⟨_,HS11.o.w⟩,rfl⟩ ?_;clear j1 f1 lh;refine wpQuiet_nil ?_;go_wp2;go_roundw
     case rel=>exact⟨k+1,_,hlt,by go_num,by rw[<-HNM.o,HX.o]at HS11;rw[HX.o];exact HS11,HC11⟩
     case measure=>simp[intOf];omega
  ·obtain rfl:k=ks.length:=by omega
   have HOE:Hid (Gm.oK G ks.length=Gm.olds G):=aA (by rw[HKL.o];exact Gm.oK_all G);rw[HOE.o]at HS;clear HC HGC HNE;go_wp2;go_loopw [64] (fun vk wr=>∃(k:Nat) (vR:Value),k<=ks.length/\vk=.int .i64 k/\Hid (RdS w1 wr H gA #[vT,vN,vR,.int .i64 0] vT vN vR G.ts (Gm.nmL G (Gm.olds G)) (((Gm.krs G).take k).map (Gm.re (Gm.olds G))) (Gm.anL G.ns.length (Gm.olds G)))) (fun vk _=>ks.length-(intOf vk).toNat)
   case atStart=>exact⟨0,_,Nat.zero_le _,rfl,HS⟩
   case round =>
    clear HS hlt;obtain⟨k,vR,hk,rfl,HS⟩:=hrel;by_cases hlt:k<ks.length
    ·obtain⟨gk,ok,rfl,hgk,hck⟩:=HKK.o wr (HBX.o wr HS.o.w) (by omega);have kk:=hck k hlt;rw[L.gd_lt hlt]at kk;have lk:=block_lt_of_cell kk;obtain⟨i,hLi,hi,hkk,hkr⟩:=Gm.kl_at (G:=G) (k:=k) (by rw[<-HL.o];exact hlt);have hLi2:ks[k]=(i:Int):=by simp only[HL.o];exact hLi
     rw[hLi2]at kk;have HKN:=aA (Gm.krs_next hkk);have hxk:(Gm.krs G)[k]∈Gm.krs G:=List.getElem_mem hkk;rw[hkr]at HKN hxk;have HRE:=aA (Gm.an1_re HOK.o hxk);have hxm:G.rs[i]∈G.rs:=List.getElem_mem hi;have e:=HFT.o.r _ hxm;have hxl:=HOK.o.lin _ hxm;have hr6:=(Gm.rule_in (HOK.o.rr _ hxm)).1;obtain⟨g,o,rfl,hgB,hc⟩:=HRl.o w1 HB1.o (by omega);obtain⟨k0,⟨A',c',k1,_,_,hri⟩,k2⟩:=hc i hi;have HRN:=aA (fun(y:World) (h:Below w1.heap.size w1 y) (hu:UBI y gA (Gm.anL G.ns.length (Gm.olds G)))=>zcm G.rs[i] (Gm.anL G.ns.length (Gm.olds G)) A' (some ⟨gA,0,none⟩) c' G.ns.length B y.heap.size y (hri.keep fun g o hg=>h.cell (p:=⟨g,o,none⟩) (by have:=HB.o;have:=HS1.o;simp only;omega)) (hu.rd0 hu.lt) (Nat.le_trans HB.o (HBX.o y h).size) (Nat.le_refl _) e.2.2 (fun z hz h0=>by rw[Gm.anL_len];exact HOK.o.sin _ hxm z hz h0) (by rw[Gm.anL_len];exact hxl) (by omega) (fun i hi=>Gm.anL_ok HOK.o _ i (by rwa [Gm.anL_len]at hi)));rw[Gm.anL_len]at HRN;have hgw:g<w1.heap.size:=by have:=HB.o;have:=HS1.o;omega
     have HRD:Hid (((Gm.krs G).take k).length<=40):=aA (by rw[List.length_take];have:=Gm.krs_len G;have:=HR40.o;omega);generalize G.rs[i]=x at *;obtain⟨l,r,pz⟩:=x;simp only at k0 k1 k2 HRN HRE hr6;have hii:(i:Int)<(G.rs.length:Int):=by omega
     go_upto_region 15 with fail
     have b0:=fun y:Calm.On w1.heap.size w1=>(y.2.cell (p:=⟨g,o+i*3,none⟩) hgw).trans k0;have b1:=fun y:Calm.On w1.heap.size w1=>(y.2.cell (p:=⟨g,o+i*3+1,none⟩) hgw).trans k1;have b2:=fun y:Calm.On w1.heap.size w1=>(y.2.cell (p:=⟨g,o+i*3+2,none⟩) hgw).trans k2;have bq:=fun y:Calm.On w1.heap.size w1=>(show y.1.cell? ⟨w.heap.size,2,none⟩=some (.slice (some ⟨g,o,none⟩) G.rs.length cR) by rw[cell_of_row y.1 _ 2 _ _ _ (HQ.o y.1 y.2)];rfl)
     have HS8:=aA HS.o.drew;clear kk lk hck hc hri hkk hkr hLi hLi2 hxk hxm e hxl k0 k1 k2;refine CalmN.region_tree (fun x=>∃y:Calm.On w1.heap.size w1,x=y.1) (.two [0,2,3,4,5,6,7] 1 (.one [] 8 (.one [] 9 (.one [] 10 (.one [11] 12 (.fin []))))) 8 (.two [] 1 (.one [] 9 (.one [] 10 (.one [11] 12 (.fin [])))) 9 (.one [] 1 (.one [] 10 (.one [11] 12 (.fin [])))))) (by kernel_rfl) (by kernel_rfl) (fun _ _ d _ _ h=>by cases d <;> exact h) ⟨⟨wr.drew,HS8.o.w⟩,rfl⟩ ?_;simp only[CalmN.wpT,CalmN.wpSt,CalmN.pickOps,List.getElem?_toArray,List.getElem?_cons_zero,List.getElem?_cons_succ];repeat (go_big_quiet_step (fail))
     refine wpQuiet_nil ?_;clear b0 b1 b2 bq;obtain⟨w8,hw8⟩:∃y,y=wr.drew:=⟨_,rfl⟩
     rw[<-hw8]at HS8 ⊢;clear hw8 HS;have n8:=cell_of_row w8 _ 2 _ _ _ HS8.o.h;have lh8:=(Array.getElem?_eq_some_iff.1 HS8.o.h).1;obtain⟨av,hav⟩:∃a,a=(Gm.anL G.ns.length (Gm.olds G)).getD l.toNat 0:=⟨_,rfl⟩
     rw[<-hav]at HRN HRE;clear hav;refine⟨?_,?_⟩
     ·intro KK hKK;rw[if_pos (by rfl)];go_wp2_with fail
      refine hKK _ _ ⟨⟨_,HS8.o.w⟩,rfl⟩ (fun x=>∃y:Calm.On w1.heap.size w1,x=y.1) (fun _ h=>h) ⟨⟨_,HS8.o.w⟩,rfl⟩ ?_;refine wpQuiet_nil ?_;intro KK hKK;rw[if_pos (by rfl)];go_wp2_with fail
      refine(HRN.o w8 HS8.o.w HS8.o.a).mono ?_;rintro _ w9 ⟨g9,rfl,hg9,hu9,hb9⟩;have HS9:=aA (HS8.o.below hb9);have HU9:=aA hu9;have HG9:=aA (Nat.le_trans HS8.o.w.size hg9);have n9:=cell_of_row w9 _ 2 _ _ _ HS9.o.h;have lh9:=(Array.getElem?_eq_some_iff.1 HS9.o.h).1;have HSa:=aA (HS9.o.alloc (.cells #[.int .i64 av,.slice (some ⟨g9,0,none⟩) r.length r.length,.int .i64 pz] 48));have na:=cell_of_row _ _ 2 _ _ _ HSa.o.h;have lha:=(Array.getElem?_eq_some_iff.1 HSa.o.h).1;clear hb9 hu9 hg9;go_wp2_with fail
      refine hKK _ _ ⟨⟨w9,HS9.o.w⟩,rfl⟩ (fun x=>∃y:Calm.On w1.heap.size w1,x=y.1) (fun _ h=>h) ⟨⟨w9,HS9.o.w⟩,rfl⟩ ?_;refine wpQuiet_nil ?_;intro KK hKK;rw[if_pos (by rfl)];go_wp2_with fail
      refine hKK _ _ ⟨⟨_,HSa.o.w⟩,rfl⟩ (fun x=>∃y:Calm.On w1.heap.size w1,x=y.1) (fun _ h=>h) ⟨⟨_,HSa.o.w⟩,rfl⟩ ?_;refine wpQuiet_nil ?_;intro KK hKK;rw[if_pos (by rfl)];have hrow:=(HU9.o.alloc (.cells #[.int .i64 av,.slice (some ⟨g9,0,none⟩) r.length r.length,.int .i64 pz] 48)).row HG9.o
      have hcl:∀j u,(rlC (⟨av,r.map (Gm.an1 (Gm.anL G.ns.length (Gm.olds G))),pz⟩,some ⟨g9,0,none⟩,r.length))[j]?=some u->(w9.alloc (.cells #[.int .i64 av,.slice (some ⟨g9,0,none⟩) r.length r.length,.int .i64 pz] 48)).cell? ⟨w9.heap.size,j,none⟩=some u:=fun j u hj=>by
       have h:=aL w9 [.int .i64 av,.slice (some ⟨g9,0,none⟩) r.length r.length,.int .i64 pz] 48 j;refine h.trans ?_
       simpa[rlC] using hj
      refine zaC (.tmp 69) (.tmp 77) _ rfl Tryz.underlying24 w1.heap.size _ _ _ rfl HSa.o.r w9.heap.size 1 (⟨av,r.map (Gm.an1 (Gm.anL G.ns.length (Gm.olds G))),pz⟩,some ⟨g9,0,none⟩,r.length) rfl hcl ⟨by simp,by simp only;omega,hrow⟩ (by have:=HRD.o;rw[List.length_map];omega) HSa.o.w.size (Nat.le_refl _) ?_;intro v' w10 ho10 hg10;rw[HRE.o,<-HKN.o]at ho10;have HS10:=aA (HSa.o.putR ho10 hg10);obtain⟨A10,c10,rfl,_,_⟩:=zab ho10;clear ho10 hg10;obtain⟨n10,hn10⟩:∃n,n=(((Gm.krs G).take (k+1)).map (Gm.re (Gm.olds G))).length:=⟨_,rfl⟩
      rw[<-hn10]at HS10 ⊢;clear hn10 hcl hrow;refine hKK _ _ ⟨⟨w10,HS10.o.w⟩,rfl⟩ (fun x=>∃y:Calm.On w1.heap.size w1,x=y.1) (fun _ h=>h) ⟨⟨w10,HS10.o.w⟩,rfl⟩ ?_
      go_frame
      repeat (go_big_quiet_step (fail))
      refine wpQuiet_nil ?_;intro KK hKK;rw[if_pos (by rfl)];have j2:=cell_of_row w10 _ 2 _ _ _ HS10.o.h;have f2:=frozen_of_row w10 _ 2 _ _ HS10.o.h;have lh:=(Array.getElem?_eq_some_iff.1 HS10.o.h).1;have HS11:=aA (HS10.o.setH 2 (.slice A10 n10 c10));go_wp2_with fail
      refine hKK _ _ ⟨⟨_,HS11.o.w⟩,rfl⟩ (fun x=>∃y:Calm.On w1.heap.size w1,x=y.1) (fun _ h=>h) ⟨⟨_,HS11.o.w⟩,rfl⟩ ?_;clear j2 f2 lh;refine wpQuiet_nil ?_;go_wp2;go_roundw
      case rel=>exact⟨k+1,_,hlt,by go_num,HS11⟩
      case measure=>simp[intOf];omega
     ·intro KK hKK;rw[if_pos (by rfl)];go_wp2_with fail
      refine(HRN.o w8 HS8.o.w HS8.o.a).mono ?_;rintro _ w9 ⟨g9,rfl,hg9,hu9,hb9⟩;have HS9:=aA (HS8.o.below hb9);have HU9:=aA hu9;have HG9:=aA (Nat.le_trans HS8.o.w.size hg9);have n9:=cell_of_row w9 _ 2 _ _ _ HS9.o.h;have lh9:=(Array.getElem?_eq_some_iff.1 HS9.o.h).1;have HSa:=aA (HS9.o.alloc (.cells #[.int .i64 av,.slice (some ⟨g9,0,none⟩) r.length r.length,.int .i64 pz] 48));have na:=cell_of_row _ _ 2 _ _ _ HSa.o.h;have lha:=(Array.getElem?_eq_some_iff.1 HSa.o.h).1;clear hb9 hu9 hg9;go_wp2_with fail
      refine hKK _ _ ⟨⟨w9,HS9.o.w⟩,rfl⟩ (fun x=>∃y:Calm.On w1.heap.size w1,x=y.1) (fun _ h=>h) ⟨⟨w9,HS9.o.w⟩,rfl⟩ ?_;refine wpQuiet_nil ?_;refine⟨?_,?_⟩
      ·intro KK hKK;rw[if_pos (by rfl)];go_wp2_with fail
       refine hKK _ _ ⟨⟨_,HS9.o.w⟩,rfl⟩ (fun x=>∃y:Calm.On w1.heap.size w1,x=y.1) (fun _ h=>h) ⟨⟨_,HS9.o.w⟩,rfl⟩ ?_;refine wpQuiet_nil ?_;intro KK hKK;rw[if_pos (by rfl)];go_wp2_with fail
       refine hKK _ _ ⟨⟨_,HSa.o.w⟩,rfl⟩ (fun x=>∃y:Calm.On w1.heap.size w1,x=y.1) (fun _ h=>h) ⟨⟨_,HSa.o.w⟩,rfl⟩ ?_;refine wpQuiet_nil ?_;intro KK hKK;rw[if_pos (by rfl)];have hrow:=(HU9.o.alloc (.cells #[.int .i64 av,.slice (some ⟨g9,0,none⟩) r.length r.length,.int .i64 pz] 48)).row HG9.o
       have hcl:∀j u,(rlC (⟨av,r.map (Gm.an1 (Gm.anL G.ns.length (Gm.olds G))),pz⟩,some ⟨g9,0,none⟩,r.length))[j]?=some u->(w9.alloc (.cells #[.int .i64 av,.slice (some ⟨g9,0,none⟩) r.length r.length,.int .i64 pz] 48)).cell? ⟨w9.heap.size,j,none⟩=some u:=fun j u hj=>by
        have h:=aL w9 [.int .i64 av,.slice (some ⟨g9,0,none⟩) r.length r.length,.int .i64 pz] 48 j;refine h.trans ?_
        simpa[rlC] using hj
       refine zaC (.tmp 69) (.tmp 77) _ rfl Tryz.underlying24 w1.heap.size _ _ _ rfl HSa.o.r w9.heap.size 1 (⟨av,r.map (Gm.an1 (Gm.anL G.ns.length (Gm.olds G))),pz⟩,some ⟨g9,0,none⟩,r.length) rfl hcl ⟨by simp,by simp only;omega,hrow⟩ (by have:=HRD.o;rw[List.length_map];omega) HSa.o.w.size (Nat.le_refl _) ?_;intro v' w10 ho10 hg10;rw[HRE.o,<-HKN.o]at ho10;have HS10:=aA (HSa.o.putR ho10 hg10);obtain⟨A10,c10,rfl,_,_⟩:=zab ho10;clear ho10 hg10;obtain⟨n10,hn10⟩:∃n,n=(((Gm.krs G).take (k+1)).map (Gm.re (Gm.olds G))).length:=⟨_,rfl⟩
       rw[<-hn10]at HS10 ⊢;clear hn10 hcl hrow;refine hKK _ _ ⟨⟨w10,HS10.o.w⟩,rfl⟩ (fun x=>∃y:Calm.On w1.heap.size w1,x=y.1) (fun _ h=>h) ⟨⟨w10,HS10.o.w⟩,rfl⟩ ?_
       go_frame
       repeat (go_big_quiet_step (fail))
       refine wpQuiet_nil ?_;intro KK hKK;rw[if_pos (by rfl)];have j2:=cell_of_row w10 _ 2 _ _ _ HS10.o.h;have f2:=frozen_of_row w10 _ 2 _ _ HS10.o.h;have lh:=(Array.getElem?_eq_some_iff.1 HS10.o.h).1;have HS11:=aA (HS10.o.setH 2 (.slice A10 n10 c10));go_wp2_with fail
       refine hKK _ _ ⟨⟨_,HS11.o.w⟩,rfl⟩ (fun x=>∃y:Calm.On w1.heap.size w1,x=y.1) (fun _ h=>h) ⟨⟨_,HS11.o.w⟩,rfl⟩ ?_;clear j2 f2 lh;refine wpQuiet_nil ?_;go_wp2;go_roundw
       case rel=>exact⟨k+1,_,hlt,by go_num,HS11⟩
       case measure=>simp[intOf];omega
      ·intro KK hKK;rw[if_pos (by rfl)];go_wp2_with fail
       refine hKK _ _ ⟨⟨_,HSa.o.w⟩,rfl⟩ (fun x=>∃y:Calm.On w1.heap.size w1,x=y.1) (fun _ h=>h) ⟨⟨_,HSa.o.w⟩,rfl⟩ ?_;refine wpQuiet_nil ?_;intro KK hKK;rw[if_pos (by rfl)];go_wp2_with fail
       refine hKK _ _ ⟨⟨_,HSa.o.w⟩,rfl⟩ (fun x=>∃y:Calm.On w1.heap.size w1,x=y.1) (fun _ h=>h) ⟨⟨_,HSa.o.w⟩,rfl⟩ ?_;refine wpQuiet_nil ?_;intro KK hKK;rw[if_pos (by rfl)];have hrow:=(HU9.o.alloc (.cells #[.int .i64 av,.slice (some ⟨g9,0,none⟩) r.length r.length,.int .i64 pz] 48)).row HG9.o
       have hcl:∀j u,(rlC (⟨av,r.map (Gm.an1 (Gm.anL G.ns.length (Gm.olds G))),pz⟩,some ⟨g9,0,none⟩,r.length))[j]?=some u->(w9.alloc (.cells #[.int .i64 av,.slice (some ⟨g9,0,none⟩) r.length r.length,.int .i64 pz] 48)).cell? ⟨w9.heap.size,j,none⟩=some u:=fun j u hj=>by
        have h:=aL w9 [.int .i64 av,.slice (some ⟨g9,0,none⟩) r.length r.length,.int .i64 pz] 48 j;refine h.trans ?_
        simpa[rlC] using hj
       refine zaC (.tmp 69) (.tmp 77) _ rfl Tryz.underlying24 w1.heap.size _ _ _ rfl HSa.o.r w9.heap.size 1 (⟨av,r.map (Gm.an1 (Gm.anL G.ns.length (Gm.olds G))),pz⟩,some ⟨g9,0,none⟩,r.length) rfl hcl ⟨by simp,by simp only;omega,hrow⟩ (by have:=HRD.o;rw[List.length_map];omega) HSa.o.w.size (Nat.le_refl _) ?_;intro v' w10 ho10 hg10;rw[HRE.o,<-HKN.o]at ho10;have HS10:=aA (HSa.o.putR ho10 hg10);obtain⟨A10,c10,rfl,_,_⟩:=zab ho10;clear ho10 hg10;obtain⟨n10,hn10⟩:∃n,n=(((Gm.krs G).take (k+1)).map (Gm.re (Gm.olds G))).length:=⟨_,rfl⟩
       rw[<-hn10]at HS10 ⊢;clear hn10 hcl hrow;refine hKK _ _ ⟨⟨w10,HS10.o.w⟩,rfl⟩ (fun x=>∃y:Calm.On w1.heap.size w1,x=y.1) (fun _ h=>h) ⟨⟨w10,HS10.o.w⟩,rfl⟩ ?_
       go_frame
       repeat (go_big_quiet_step (fail))
       refine wpQuiet_nil ?_;intro KK hKK;rw[if_pos (by rfl)];have j2:=cell_of_row w10 _ 2 _ _ _ HS10.o.h;have f2:=frozen_of_row w10 _ 2 _ _ HS10.o.h;have lh:=(Array.getElem?_eq_some_iff.1 HS10.o.h).1;have HS11:=aA (HS10.o.setH 2 (.slice A10 n10 c10));go_wp2_with fail
       refine hKK _ _ ⟨⟨_,HS11.o.w⟩,rfl⟩ (fun x=>∃y:Calm.On w1.heap.size w1,x=y.1) (fun _ h=>h) ⟨⟨_,HS11.o.w⟩,rfl⟩ ?_;clear j2 f2 lh;refine wpQuiet_nil ?_;go_wp2;go_roundw
       case rel=>exact⟨k+1,_,hlt,by go_num,HS11⟩
       case measure=>simp[intOf];omega
    ·obtain rfl:k=ks.length:=by omega
     rw[HKL.o,List.take_length]at HS;obtain⟨AT5,cT5,rfl,_,_⟩:=aO HS.o.t;obtain⟨AN5,cN5,rfl,_,_⟩:=aO HS.o.nn;obtain⟨AR5,cR5,rfl,_,_⟩:=zab HS.o.r;have hst:=HOK.o.s0;have hst1:=HOK.o.s1;obtain⟨m,hm⟩:∃m:Nat,G.st=(m:Int):=⟨G.st.toNat,by omega⟩
     have HP:Hid ((Gm.anL G.ns.length (Gm.olds G)).getD m 0=Gm.pos (Gm.olds G) G.st):=aA (by rw[Gm.anL_at (by omega),<-hm,if_pos (Gm.st_in HPS.o)]);have q3:wr.cell? ⟨w.heap.size,3,none⟩=some (.int .i64 m):=by rw[cell_of_row wr _ 3 _ _ _ (HQ.o wr HS.o.w),<-hm];rfl
     rw[hm]at hst1;have km:=HS.o.a.cell m (by rw[Gm.anL_len];omega);rw[HP.o]at km;have la:=HS.o.a.lt;have lq:=block_lt_of_cell q3;have j3:=cell_of_row wr _ 3 _ _ _ HS.o.h;have f3:=frozen_of_row wr _ 3 _ _ HS.o.h;have lh:=(Array.getElem?_eq_some_iff.1 HS.o.h).1;obtain⟨pp,hpp⟩:∃z,z=Gm.pos (Gm.olds G) G.st:=⟨_,rfl⟩
     rw[<-hpp]at km;have HPP:=aA hpp;have HSF:=aA (HS.o.setH 3 (.int .i64 pp));obtain⟨wy,hwy⟩:∃y,y=wr.setCell ⟨H,3,none⟩ (.int .i64 pp):=⟨_,rfl⟩
     rw[<-hwy]at HSF;clear hpp hm hst HP;go_upto_region 18 with fail
     rw[<-hwy];clear hwy q3 km la lq j3 f3 lh;have j0:wy.cell? ⟨H,0,none⟩=some (.slice AT5 G.ts.length cT5):=by rw[cell_of_row wy _ 0 _ _ _ HSF.o.h];rfl
     have j1:wy.cell? ⟨H,1,none⟩=some (.slice AN5 (Gm.nmL G (Gm.olds G)).length cN5):=by rw[cell_of_row wy _ 1 _ _ _ HSF.o.h];rfl
     have j2:wy.cell? ⟨H,2,none⟩=some (.slice AR5 ((Gm.krs G).map (Gm.re (Gm.olds G))).length cR5):=by rw[cell_of_row wy _ 2 _ _ _ HSF.o.h];rfl
     have j3:wy.cell? ⟨H,3,none⟩=some (.int .i64 pp):=by rw[cell_of_row wy _ 3 _ _ _ HSF.o.h];rfl
     have lh:=(Array.getElem?_eq_some_iff.1 HSF.o.h).1;have hz:=(HSF.o.w.block (w.heap.size+1) (by have:=HS1.o;omega)).trans HX1.o;have g0:wy.cell? ⟨w.heap.size+1,0,none⟩=some (.slice none 0 0):=by rw[cell_of_row wy _ 0 _ _ _ hz];rfl
     have g1:wy.cell? ⟨w.heap.size+1,1,none⟩=some (.slice none 0 0):=by rw[cell_of_row wy _ 1 _ _ _ hz];rfl
     have g2:wy.cell? ⟨w.heap.size+1,2,none⟩=some (.slice none 0 0):=by rw[cell_of_row wy _ 2 _ _ _ hz];rfl
     have g3:wy.cell? ⟨w.heap.size+1,3,none⟩=some (.int .i64 0):=by rw[cell_of_row wy _ 3 _ _ _ hz];rfl
     have e0:=frozen_of_row wy _ 0 _ _ hz;have e1:=frozen_of_row wy _ 1 _ _ hz;have e2:=frozen_of_row wy _ 2 _ _ hz;have e3:=frozen_of_row wy _ 3 _ _ hz;have lz:=(Array.getElem?_eq_some_iff.1 hz).1;have hle:w.heap.size<=w1.heap.size:=by have:=HS1.o;omega
     have HGX:Hid (Gx wy w.heap.size (.slice AT5 G.ts.length cT5) (.slice AN5 (Gm.nmL G (Gm.olds G)).length cN5) (.slice AR5 ((Gm.krs G).map (Gm.re (Gm.olds G))).length cR5) G.ts (Gm.nmL G (Gm.olds G)) ((Gm.krs G).map (Gm.re (Gm.olds G)))):=aA ⟨⟨_,HQ.o wy HSF.o.w⟩,⟨_,hz⟩,za5 HSF.o.t hle,za5 HSF.o.nn hle,by
      obtain⟨qs,h1,h2,h3,h4⟩:=HSF.o.r
      exact⟨qs,h1,za5 h2 hle,h3,fun q hq=>⟨(h4 q hq).1,(h4 q hq).2.1,fun hn=>by
       obtain⟨g,cur,e,hb,hN,hh⟩:=(h4 q hq).2.2 hn;exact⟨g,cur,e,Nat.le_trans hle hb,hN,hh⟩⟩⟩⟩
     have HGF:=aA (fun u1 u2 u3 u4=>(((HGX.o.set (w.heap.size+1) 0 u1 (.inr rfl)).set (w.heap.size+1) 1 u2 (.inr rfl)).set (w.heap.size+1) 2 u3 (.inr rfl)).set (w.heap.size+1) 3 u4 (.inr rfl));have HBF:=aA (fun u1 u2 u3 u4=>((((HBX.o wy HSF.o.w).setCell (p:=⟨w.heap.size+1,0,none⟩) (by simp only;omega) u1).setCell (p:=⟨w.heap.size+1,1,none⟩) (by simp only;omega) u2).setCell (p:=⟨w.heap.size+1,2,none⟩) (by simp only;omega) u3).setCell (p:=⟨w.heap.size+1,3,none⟩) (by simp only;omega) u4);have HRG:Hid (Gm.reduce G=⟨G.ts,Gm.nmL G (Gm.olds G),(Gm.krs G).map (Gm.re (Gm.olds G)),pp⟩):=aA (by rw[HPP.o];rfl);generalize Gm.nmL G (Gm.olds G)=nms at *;generalize (Gm.krs G).map (Gm.re (Gm.olds G))=rls at *;clear HGX hz hle HS HSF;go_wp2;refine bodyPost_ret (v:=.agg #[.slice AT5 G.ts.length cT5,.slice AN5 nms.length cN5,.slice AR5 rls.length cR5,.int .i64 pp]) (by simp[results,Tryz.results99,go_sem,g0,g1,g2,g3]) rfl ?_;exact⟨_,rfl,by rw[HRG.o];exact⟨_,_,_,rfl,(HGF.o _ _ _ _).t,(HGF.o _ _ _ _).nn,(HGF.o _ _ _ _).r⟩,HBF.o _ _ _ _⟩
theorem ziM (A A':Option Addr) (ca cb:Nat) (xs ys:List Int) (w:World) (hra:RdI w w.heap.size A xs) (hrb:RdI w w.heap.size A' ys) (hxl:xs.length<=9223372036854775807) (hyl:ys.length<=9223372036854775807) :
  Calls Tryz.prog 14 #[.slice A xs.length ca,.slice A' ys.length cb] w fun e w'=>e=.returned (.bool (decide (xs=ys)))/\∃n,w'=w.drewN n:=by
 by_cases hl:xs.length=ys.length
 ·have HL:=aA hl;rw[<-hl];have hne:((xs.length:Int) != (xs.length:Int))=false:=by simp
  clear hl hyl
  go_enter Tryz.func14,Tryz.ntmps14
  go_wp2;go_loopw [5] (fun vi wr=>∃(k q:Nat),k<=xs.length/\vi=.int .i64 k/\xs.take k=ys.take k/\wr=w.drewN q) (fun vi _=>xs.length-(intOf vi).toNat)
  case atStart=>exact⟨0,0,Nat.zero_le _,rfl,rfl,rfl⟩
  case round =>
   obtain⟨k,q,hk,rfl,ht,hwr⟩:=hrel;have HT:=aA ht;have HW:=aA hwr;by_cases hlt:k<xs.length
   ·obtain⟨ga,oa,rfl,_,ha⟩:=hra (by omega);obtain⟨gb,ob,rfl,_,hb⟩:=hrb (by have:=HL.o;omega);have ca':wr.cell? ⟨ga,oa+k,none⟩=some (.int .i64 (xs.getD k 0)):=by rw[hwr];exact ha k hlt
    have cb':wr.cell? ⟨gb,ob+k,none⟩=some (.int .i64 (ys.getD k 0)):=by rw[hwr];exact hb k (by have:=HL.o;omega)
    have k0:(0:Int)<=(k:Int):=by omega
    have k1:(k:Int)<(xs.length:Int):=by omega
    clear ha hb ht hwr hra hrb;by_cases hxy:xs.getD k 0=ys.getD k 0
    ·have HN:Hid (xs.take (k+1)=ys.take (k+1)):=by
      show xs.take (k+1)=ys.take (k+1)
      rw[L.take_snoc xs k hlt,L.take_snoc ys k (by have:=HL.o;omega),HT.o,hxy]
     rw[<-hxy]at cb';generalize xs.getD k 0=x at *;have hx':(x != x)=false:=by simp
     clear hxy;go_wp2_with fail
     go_quiet (fail)
     go_wp2;go_roundw
     case rel=>exact⟨k+1,_,hlt,by go_num,HN.o,by rw[HW.o];exact World.drewN_drewN _ _ _⟩
     case measure=>simp[intOf];omega
    ·have HN:Hid (decide (xs=ys)=false):=by
      show decide (xs=ys)=false
      rw[decide_eq_false_iff_not];rintro rfl;exact hxy rfl
     generalize xs.getD k 0=x at *;generalize ys.getD k 0=y at *;have hx':(x != y)=true:=by simpa using hxy
     clear hxy;go_wp2_with fail
     go_quiet (fail)
     go_wp2;go_ret
     exact⟨aE HN.o.symm,_,by rw[HW.o,World.drewN_drewN]⟩
   ·obtain rfl:k=xs.length:=by omega
    have HE:Hid (decide (xs=ys)=true):=by
     show decide (xs=ys)=true
     rw[decide_eq_true_iff];have h:=HT.o
     rwa [List.take_length,HL.o,List.take_length]at h
    clear ht;subst hwr;go_wp2;go_ret
    exact⟨aE HE.o.symm,_,rfl⟩
 ·have HE:Hid (decide (xs=ys)=false):=by
   show decide (xs=ys)=false
   rw[decide_eq_false_iff_not];rintro rfl;exact hl rfl
  have hne:((xs.length:Int) != (ys.length:Int))=true:=by simp;omega
  go_enter Tryz.func14,Tryz.ntmps14
  go_wp2;go_ret
  exact⟨aE HE.o.symm,0,rfl⟩
noncomputable def eqb {α:Type} (a b:α):Bool:=@decide (a=b) (Classical.propDecidable _)
theorem zah {α:Type} {a b:α} (h:a=b):eqb a b=true:=by unfold eqb;exact @decide_eq_true _ (Classical.propDecidable _) h
theorem zaA {α:Type} {a b:α} (h:¬a=b):eqb a b=false:=by unfold eqb;exact @decide_eq_false _ (Classical.propDecidable _) h
theorem zjP (s s':ByteArray) (a a' b b':Int) (w:World):(Op.equalIn 10000 81 (.agg #[.string s,.int .i64 a,.int .i64 b]) (.agg #[.string s',.int .i64 a',.int .i64 b'])).run Tryz.prog w=.ok ((s.toList==s'.toList)&&(a==a')&&(b==b')) w:=by
 have u3:=Tryz.underlying3;have a3:=Tryz.isAgg3;have z3:=Tryz.sizeOf3;have u9:=Tryz.underlying9;have a9:=Tryz.isAgg9;have z9:=Tryz.sizeOf9;have hS:Tryz.prog.underlying 81=some (.struct (Tryz.prog.fieldsOf 81)):=by kernel_rfl
 rw[show(10000:Nat)=9999+1 from rfl,run_equalIn_agg w 9999 81 _ _ hS (by kernel_rfl)];simp only[Program.fieldsOf,Tryz.underlying81]
 go_simp
 by_cases h0:s.toList=s'.toList <;> by_cases h1:a=a' <;> by_cases h2:b=b' <;> simp[h0,h1,h2]
theorem zjO {x y:Gm.Tm} (hx:K.Tx x.nm) (hy:K.Tx y.nm):(((K.str x.nm).toList==(K.str y.nm).toList)&&(x.lv==y.lv)&&(x.wy==y.wy))=eqb x y:=by
 rw[K.eqB hx hy];by_cases h:x=y
 ·subst h;rw[zah rfl];simp
 ·rw[zaA h];rw[Bool.and_eq_false_iff,Bool.and_eq_false_iff];by_cases h1:x.nm=y.nm
  ·by_cases h2:x.lv=y.lv
   ·by_cases h3:x.wy=y.wy
    ·exact absurd (by cases x;cases y;simp_all) h
    ·exact .inr (by simpa using h3)
   ·exact .inl (.inr (by simpa using h2))
  ·exact .inl (.inl (by simpa using h1))
def bB {α:Type} (xs ys:List α) (k:Nat):Prop:=xs.take k=ys.take k
theorem bB.zero {α:Type} (xs ys:List α):bB xs ys 0:=rfl
theorem bB.next {α:Type} {xs ys:List α} {k:Nat} (h:bB xs ys k) (h1:k<xs.length) (h2:k<ys.length) (e:xs[k]=ys[k]):bB xs ys (k+1):=by
 unfold bB at *;rw[List.take_succ_eq_append_getElem h1,List.take_succ_eq_append_getElem h2,h,e]
theorem bB.all {α:Type} {xs ys:List α} {k:Nat} (h:bB xs ys k) (hk:k=xs.length) (hl:xs.length=ys.length):eqb xs ys=true:=by
 unfold bB at h;rw[hk,List.take_length,hl,List.take_length]at h;exact zah h
theorem zeK {α:Type} {xs ys:List α} {k:Nat} (h1:k<xs.length) (h2:k<ys.length) (e:¬xs[k]=ys[k]):eqb xs ys=false:=zaA fun h=>e (by subst h;rfl)
theorem zaY {α:Type} {xs ys:List α} (h:¬xs.length=ys.length):eqb xs ys=false:=zaA fun e=>h (by rw[e])
theorem zhC (A A':Option Addr) (ca cb B B':Nat) (xs ys:List (List Int)) (w:World) (hra:RdN w B A xs) (hrb:RdN w B' A' ys) (hx:∀x∈xs,K.Tx x) (hy:∀y∈ys,K.Tx y) (hxl:xs.length<=9223372036854775807) :
  Calls Tryz.prog 101 #[.slice A xs.length ca,.slice A' ys.length cb] w fun e w'=>e=.returned (.bool (eqb xs ys))/\∃n,w'=w.drewN n:=by
 by_cases hl:xs.length=ys.length
 ·have HL:=aA hl;rw[<-hl];have hne:((xs.length:Int) != (xs.length:Int))=false:=by simp
  have HA:=aA hra;have HBB:=aA hrb;have HX:=aA hx;have HY:=aA hy;clear hx hy;clear hl hra hrb
  go_enter Tryz.func101,Tryz.ntmps101
  go_wp2;go_loopw [13] (fun vi wr=>∃(k q:Nat),k<=xs.length/\vi=.int .i64 k/\bB xs ys k/\wr=w.drewN q) (fun vi _=>xs.length-(intOf vi).toNat)
  case atStart=>exact⟨0,0,Nat.zero_le _,rfl,bB.zero _ _,rfl⟩
  case round =>
   obtain⟨k,q,hk,rfl,ht,hwr⟩:=hrel;have HT:=aA ht;have HW:=aA hwr;clear ht;by_cases hlt:k<xs.length
   ·have hlt2:k<ys.length:=by have:=HL.o;omega
    obtain⟨ga,oa,rfl,_,ha⟩:=HA.o (by omega);obtain⟨gb,ob,rfl,_,hb⟩:=HBB.o (by omega);have ca':wr.cell? ⟨ga,oa+k,none⟩=some (.string (K.str xs[k])):=by rw[hwr];exact ha k hlt
    have cb':wr.cell? ⟨gb,ob+k,none⟩=some (.string (K.str ys[k])):=by rw[hwr];exact hb k hlt2
    have E:((K.str xs[k]).toList==(K.str ys[k]).toList)=eqb xs[k] ys[k]:=by
     rw[K.eqB (HX.o _ (List.getElem_mem hlt)) (HY.o _ (List.getElem_mem hlt2))];by_cases h:xs[k]=ys[k]
     ·rw[zah h];simpa using h
     ·rw[zaA h];simpa using h
    have E':((K.str xs[k]).toList != (K.str ys[k]).toList) = !eqb xs[k] ys[k]:=by rw[bne,E]
    have k0:(0:Int)<=(k:Int):=by omega
    have k1:(k:Int)<(xs.length:Int):=by omega
    clear ha hb hwr HA HBB;by_cases hxy:xs[k]=ys[k]
    ·have HN:Hid (bB xs ys (k+1)):=aA (HT.o.next hlt hlt2 hxy);rw[zah hxy]at E E';clear hxy;generalize K.str xs[k]=x at *;generalize K.str ys[k]=y at *;rw[Bool.not_true]at E';go_wp2_with fail
     go_quiet (fail)
     go_wp2;go_roundw
     case rel=>exact⟨k+1,_,hlt,by go_num,HN.o,by rw[HW.o];exact World.drewN_drewN _ _ _⟩
     case measure=>simp[intOf];omega
    ·have HN:Hid (eqb xs ys=false):=aA (zeK hlt hlt2 hxy);rw[zaA hxy]at E E';clear hxy;generalize K.str xs[k]=x at *;generalize K.str ys[k]=y at *;rw[Bool.not_false]at E';go_wp2_with fail
     go_quiet (fail)
     go_wp2;go_ret
     exact⟨aE HN.o.symm,_,by rw[HW.o,World.drewN_drewN]⟩
   ·obtain rfl:k=xs.length:=by omega
    have HE:=aA (HT.o.all rfl HL.o);subst hwr;go_wp2;go_ret
    exact⟨aE HE.o.symm,_,rfl⟩
 ·have HE:=aA (zaY hl);have hne:((xs.length:Int) != (ys.length:Int))=true:=by simp;omega
  clear hl
  go_enter Tryz.func101,Tryz.ntmps101
  go_wp2;go_ret
  exact⟨aE HE.o.symm,0,rfl⟩
theorem zf2 (A A':Option Addr) (ca cb B B':Nat) (xs ys:List Int) (w:World) (hra:RdI w B A xs) (hrb:RdI w B' A' ys) (hxl:xs.length<=9223372036854775807) :
  Calls Tryz.prog 144 #[.slice A xs.length ca,.slice A' ys.length cb] w fun e w'=>e=.returned (.bool (eqb xs ys))/\∃n,w'=w.drewN n:=by
 by_cases hl:xs.length=ys.length
 ·have HL:=aA hl;rw[<-hl];have hne:((xs.length:Int) != (xs.length:Int))=false:=by simp
  have HA:=aA hra;have HBB:=aA hrb;clear hl hra hrb
  go_enter Tryz.func144,Tryz.ntmps144
  go_wp2;go_loopw [13] (fun vi wr=>∃(k q:Nat),k<=xs.length/\vi=.int .i64 k/\bB xs ys k/\wr=w.drewN q) (fun vi _=>xs.length-(intOf vi).toNat)
  case atStart=>exact⟨0,0,Nat.zero_le _,rfl,bB.zero _ _,rfl⟩
  case round =>
   obtain⟨k,q,hk,rfl,ht,hwr⟩:=hrel;have HT:=aA ht;have HW:=aA hwr;clear ht;by_cases hlt:k<xs.length
   ·have hlt2:k<ys.length:=by have:=HL.o;omega
    obtain⟨ga,oa,rfl,_,ha⟩:=HA.o (by omega);obtain⟨gb,ob,rfl,_,hb⟩:=HBB.o (by omega);have ca':wr.cell? ⟨ga,oa+k,none⟩=some (.int .i64 xs[k]):=by rw[hwr,<-L.gd_lt hlt];exact ha k hlt
    have cb':wr.cell? ⟨gb,ob+k,none⟩=some (.int .i64 ys[k]):=by rw[hwr,<-L.gd_lt hlt2];exact hb k hlt2
    have E:(xs[k]==ys[k])=eqb xs[k] ys[k]:=by
     by_cases h:xs[k]=ys[k]
     ·rw[zah h];simpa using h
     ·rw[zaA h];simpa using h
    have E':(xs[k] != ys[k]) = !eqb xs[k] ys[k]:=by rw[bne,E]
    have k0:(0:Int)<=(k:Int):=by omega
    have k1:(k:Int)<(xs.length:Int):=by omega
    clear ha hb hwr HA HBB;by_cases hxy:xs[k]=ys[k]
    ·have HN:Hid (bB xs ys (k+1)):=aA (HT.o.next hlt hlt2 hxy);rw[zah hxy]at E E';clear hxy;generalize xs[k]=x at *;generalize ys[k]=y at *;rw[Bool.not_true]at E';go_wp2_with fail
     go_quiet (fail)
     go_wp2;go_roundw
     case rel=>exact⟨k+1,_,hlt,by go_num,HN.o,by rw[HW.o];exact World.drewN_drewN _ _ _⟩
     case measure=>simp[intOf];omega
    ·have HN:Hid (eqb xs ys=false):=aA (zeK hlt hlt2 hxy);rw[zaA hxy]at E E';clear hxy;generalize xs[k]=x at *;generalize ys[k]=y at *;rw[Bool.not_false]at E';go_wp2_with fail
     go_quiet (fail)
     go_wp2;go_ret
     exact⟨aE HN.o.symm,_,by rw[HW.o,World.drewN_drewN]⟩
   ·obtain rfl:k=xs.length:=by omega
    have HE:=aA (HT.o.all rfl HL.o);subst hwr;go_wp2;go_ret
    exact⟨aE HE.o.symm,_,rfl⟩
 ·have HE:=aA (zaY hl);have hne:((xs.length:Int) != (ys.length:Int))=true:=by simp;omega
  clear hl
  go_enter Tryz.func144,Tryz.ntmps144
  go_wp2;go_ret
  exact⟨aE HE.o.symm,0,rfl⟩
theorem zhB (A A':Option Addr) (ca cb B B':Nat) (xs ys:List Gm.Tm) (w:World) (hra:zeG w B A xs) (hrb:zeG w B' A' ys) (hx:∀x∈xs,K.Tx x.nm) (hy:∀y∈ys,K.Tx y.nm) (hxl:xs.length<=9223372036854775807) :
  Calls Tryz.prog 100 #[.slice A xs.length ca,.slice A' ys.length cb] w fun e w'=>e=.returned (.bool (eqb xs ys))/\∃n,w'=w.drewN n:=by
 by_cases hl:xs.length=ys.length
 ·have HL:=aA hl;rw[<-hl];have hne:((xs.length:Int) != (xs.length:Int))=false:=by simp
  have HA:=aA hra;have HBB:=aA hrb;have HX:=aA hx;have HY:=aA hy;clear hx hy;clear hl hra hrb
  go_enter Tryz.func100,Tryz.ntmps100
  go_wp2;go_loopw [13] (fun vi wr=>∃(k q:Nat),k<=xs.length/\vi=.int .i64 k/\bB xs ys k/\wr=w.drewN q) (fun vi _=>xs.length-(intOf vi).toNat)
  case atStart=>exact⟨0,0,Nat.zero_le _,rfl,bB.zero _ _,rfl⟩
  case round =>
   obtain⟨k,q,hk,rfl,ht,hwr⟩:=hrel;have HT:=aA ht;have HW:=aA hwr;clear ht;by_cases hlt:k<xs.length
   ·have hlt2:k<ys.length:=by have:=HL.o;omega
    obtain⟨ga,oa,rfl,_,ha⟩:=HA.o (by omega);obtain⟨gb,ob,rfl,_,hb⟩:=HBB.o (by omega);have ca0:wr.cell? ⟨ga,oa+k*3,none⟩=some (.string (K.str xs[k].nm)):=by rw[hwr];exact(ha k hlt).1
    have ca1:wr.cell? ⟨ga,oa+k*3+1,none⟩=some (.int .i64 xs[k].lv):=by rw[hwr];exact(ha k hlt).2.1
    have ca2:wr.cell? ⟨ga,oa+k*3+2,none⟩=some (.int .i64 xs[k].wy):=by rw[hwr];exact(ha k hlt).2.2
    have cb0:wr.cell? ⟨gb,ob+k*3,none⟩=some (.string (K.str ys[k].nm)):=by rw[hwr];exact(hb k hlt2).1
    have cb1:wr.cell? ⟨gb,ob+k*3+1,none⟩=some (.int .i64 ys[k].lv):=by rw[hwr];exact(hb k hlt2).2.1
    have cb2:wr.cell? ⟨gb,ob+k*3+2,none⟩=some (.int .i64 ys[k].wy):=by rw[hwr];exact(hb k hlt2).2.2
    have E0:=zjO (HX.o _ (List.getElem_mem hlt)) (HY.o _ (List.getElem_mem hlt2));have E:=fun w=>zjP (K.str xs[k].nm) (K.str ys[k].nm) xs[k].lv ys[k].lv xs[k].wy ys[k].wy w;rw[E0]at E;clear E0;have k0:(0:Int)<=(k:Int):=by omega
    have k1:(k:Int)<(xs.length:Int):=by omega
    clear ha hb hwr HA HBB;by_cases hxy:xs[k]=ys[k]
    ·have HN:Hid (bB xs ys (k+1)):=aA (HT.o.next hlt hlt2 hxy);rw[zah hxy]at E;clear hxy;generalize K.str xs[k].nm=x0 at *;generalize K.str ys[k].nm=y0 at *;generalize xs[k].lv=x1 at *;generalize ys[k].lv=y1 at *;generalize xs[k].wy=x2 at *;generalize ys[k].wy=y2 at *;go_wp2_with fail
     go_quiet (fail)
     go_wp2;go_roundw
     case rel=>exact⟨k+1,_,hlt,by go_num,HN.o,by rw[HW.o];exact World.drewN_drewN _ _ _⟩
     case measure=>simp[intOf];omega
    ·have HN:Hid (eqb xs ys=false):=aA (zeK hlt hlt2 hxy);rw[zaA hxy]at E;clear hxy;generalize K.str xs[k].nm=x0 at *;generalize K.str ys[k].nm=y0 at *;generalize xs[k].lv=x1 at *;generalize ys[k].lv=y1 at *;generalize xs[k].wy=x2 at *;generalize ys[k].wy=y2 at *;go_wp2_with fail
     go_quiet (fail)
     go_wp2;go_ret
     exact⟨aE HN.o.symm,_,by rw[HW.o,World.drewN_drewN]⟩
   ·obtain rfl:k=xs.length:=by omega
    have HE:=aA (HT.o.all rfl HL.o);subst hwr;go_wp2;go_ret
    exact⟨aE HE.o.symm,_,rfl⟩
 ·have HE:=aA (zaY hl);have hne:((xs.length:Int) != (ys.length:Int))=true:=by simp;omega
  clear hl
  go_enter Tryz.func100,Tryz.ntmps100
  go_wp2;go_ret
  exact⟨aE HE.o.symm,0,rfl⟩
def rlV (x:Gm.Rl) (A:Option Addr) (c:Nat):Value:=.agg #[.int .i64 x.l,.slice A x.r.length c,.int .i64 x.p]
theorem zjY (x y:Gm.Rl):(eqb x.l y.l&&eqb x.r y.r&&eqb x.p y.p)=eqb x y:=by
 by_cases h:x=y
 ·subst h;rw[zah rfl,zah rfl,zah rfl,zah rfl];rfl
 ·rw[zaA h];rw[Bool.and_eq_false_iff,Bool.and_eq_false_iff];by_cases h1:x.l=y.l
  ·by_cases h2:x.r=y.r
   ·by_cases h3:x.p=y.p
    ·exact absurd (by cases x;cases y;simp_all) h
    ·exact .inr (zaA h3)
   ·exact .inl (.inr (zaA h2))
  ·exact .inl (.inl (zaA h1))
theorem zev (a b:Int):(a==b)=eqb a b:=by
 by_cases h:a=b
 ·rw[zah h];simpa using h
 ·rw[zaA h];simpa using h
theorem zbD {w w':World} (h:∃n,w'=w.drewN n):Below w.heap.size w w':=by
 obtain⟨n,rfl⟩:=h;exact aB (Below.refl _ _) n
theorem zdu (x y:Gm.Rl) (A A':Option Addr) (c c' B B':Nat) (w:World) (hra:RdI w B A x.r) (hrb:RdI w B' A' y.r) (hB:B<=w.heap.size) (hB':B'<=w.heap.size) (hxl:x.r.length<=9223372036854775807) :
  Calls Tryz.prog 103 #[rlV x A c,rlV y A' c'] w fun e w'=>e=.returned (.bool (eqb x y))/\Below w.heap.size w w':=by
 have HB0:=aA (fun o=>((Below.refl w.heap.size w).alloc (Nat.le_refl _) o));have HE:=aA (fun(z:World) (h:Below w.heap.size w z)=>zf2 A A' c c' B B' x.r y.r z (hra.keep fun g o hg=>h.cell (p:=⟨g,o,none⟩) (Nat.lt_of_lt_of_le hg hB)) (hrb.keep fun g o hg=>h.cell (p:=⟨g,o,none⟩) (Nat.lt_of_lt_of_le hg hB')) hxl);rw[<-zjY];have e1:=zev x.l y.l;have e2:=zev x.p y.p;unfold rlV;clear hra hrb hxl;generalize x.l=xl at *;generalize y.l=yl at *;generalize x.p=xp at *;generalize y.p=yp at *;cases q1:eqb xl yl
 ·rw[q1]at e1;clear q1 e2
  go_enter Tryz.func103,Tryz.ntmps103
  go_wp2;go_ret
  exact⟨rfl,(HB0.o _).alloc (by simp) _⟩
 ·rw[q1]at e1;clear q1;cases q2:eqb x.r y.r
  ·rw[q2]at HE;clear q2 e2
   go_enter Tryz.func103,Tryz.ntmps103
   go_wp2_with fail
   refine(HE.o _ ((HB0.o _).alloc (by simp) _)).mono ?_;rintro _ w2 ⟨rfl,hd⟩;have HD:=aA ((((HB0.o _).alloc (by simp) _)).trans ((zbD hd).mono (by simp;omega)));clear hd;go_wp2;go_ret
   exact⟨rfl,HD.o⟩
  ·rw[q2]at HE;clear q2;generalize eqb xp yp=b2 at *
   go_enter Tryz.func103,Tryz.ntmps103
   go_wp2_with fail
   refine(HE.o _ ((HB0.o _).alloc (by simp) _)).mono ?_;rintro _ w2 ⟨rfl,n,rfl⟩;go_wp2;go_ret
   exact⟨aE (by simp),aB ((HB0.o _).alloc (by simp) _) _⟩
theorem ziU (A A':Option Addr) (ca cb B B':Nat) (xs ys:List Gm.Rl) (w:World) (hra:zd8 w B A xs) (hrb:zd8 w B' A' ys) (hB:B<=w.heap.size) (hB':B'<=w.heap.size) (hxl:xs.length<=9223372036854775807) :
  Calls Tryz.prog 102 #[.slice A xs.length ca,.slice A' ys.length cb,.func (Fn.func 103) #[] #[]] w fun e w'=>e=.returned (.bool (eqb xs ys))/\Below w.heap.size w w':=by
 have HB0:=aA (Below.refl w.heap.size w);by_cases hl:xs.length=ys.length
 ·have HL:=aA hl;rw[<-hl];have hne:((xs.length:Int) != (xs.length:Int))=false:=by simp
  have HA:=aA hra;have HBB:=aA hrb;clear hl hra hrb
  go_enter Tryz.func102,Tryz.ntmps102
  go_wp2;go_loopw [17] (fun vi wr=>∃(k:Nat),k<=xs.length/\vi=.int .i64 k/\bB xs ys k/\Below w.heap.size w wr) (fun vi _=>xs.length-(intOf vi).toNat)
  case atStart=>exact⟨0,Nat.zero_le _,rfl,bB.zero _ _,HB0.o⟩
  case round =>
   obtain⟨k,hk,rfl,ht,hb⟩:=hrel;have HT:=aA ht;have HB:=aA hb;clear ht;by_cases hlt:k<xs.length
   ·have hlt2:k<ys.length:=by have:=HL.o;omega
    obtain⟨ga,oa,rfl,hga,ha⟩:=HA.o (by omega);obtain⟨gb,ob,rfl,hgb,hb'⟩:=HBB.o (by omega);obtain⟨a0,⟨Aa,cca,a1,_,_,ra⟩,a2⟩:=ha k hlt;obtain⟨b0,⟨Ab,ccb,b1,_,_,rb⟩,b2⟩:=hb' k hlt2;have hls:xs[k].r.length<=9223372036854775807:=by omega
    have HS:=aA (fun(z:World) (h:Below w.heap.size w z)=>zdu xs[k] ys[k] Aa Ab cca ccb B B' z (ra.keep fun g o hg=>h.cell (p:=⟨g,o,none⟩) (Nat.lt_of_lt_of_le hg hB)) (rb.keep fun g o hg=>h.cell (p:=⟨g,o,none⟩) (Nat.lt_of_lt_of_le hg hB')) (Nat.le_trans hB h.size) (Nat.le_trans hB' h.size) hls);have hgas:ga<w.heap.size:=by omega
    have hgbs:gb<w.heap.size:=by omega
    have hsz:=hb.size;have a0:=(hb.cell (p:=⟨ga,oa+k*3,none⟩) hgas).trans a0;have a1:=(hb.cell (p:=⟨ga,oa+k*3+1,none⟩) hgas).trans a1;have a2:=(hb.cell (p:=⟨ga,oa+k*3+2,none⟩) hgas).trans a2;have b0:=(hb.cell (p:=⟨gb,ob+k*3,none⟩) hgbs).trans b0;have b1:=(hb.cell (p:=⟨gb,ob+k*3+1,none⟩) hgbs).trans b1;have b2:=(hb.cell (p:=⟨gb,ob+k*3+2,none⟩) hgbs).trans b2;have hga':ga<wr.heap.size:=by omega
    have hgb':gb<wr.heap.size:=by omega
    have HBA:=aA (fun(o1 o2:Obj)=>(hb.alloc hb.size o1).alloc (by have:=hb.size;simp;omega) o2);have HLT:=aA hlt;have HLT2:=aA hlt2;unfold rlV at HS;clear ha hb' hb HA HBB ra rb;generalize qx:xs[k]=x at *;generalize qy:ys[k]=y at *;have QX:=aA qx;have QY:=aA qy;clear qx qy;by_cases hxy:x=y
    ·have HN:Hid (bB xs ys (k+1)):=aA (HT.o.next hlt hlt2 (QX.o.trans (hxy.trans QY.o.symm)));rw[zah hxy]at HS;clear hxy hls;go_wp2_with fail
     refine(HS.o _ (HBA.o _ _)).mono ?_;rintro _ w2 ⟨rfl,hb2⟩;have HB2:=aA ((HBA.o _ _).trans (hb2.mono (HBA.o _ _).size));clear hb2;go_wp2;go_roundw
     case rel=>exact⟨k+1,HLT.o,by go_num,HN.o,HB2.o⟩
     case measure=>have:=HLT.o;simp[intOf];omega
    ·have HN:Hid (eqb xs ys=false):=aA (zeK hlt hlt2 (fun e=>hxy (QX.o.symm.trans (e.trans QY.o))));rw[zaA hxy]at HS;clear hxy hls;go_wp2_with fail
     refine(HS.o _ (HBA.o _ _)).mono ?_;rintro _ w2 ⟨rfl,hb2⟩;have HB2:=aA ((HBA.o _ _).trans (hb2.mono (HBA.o _ _).size));clear hb2;go_wp2;go_ret
     exact⟨aE HN.o.symm,HB2.o⟩
   ·obtain rfl:k=xs.length:=by omega
    have HE:=aA (HT.o.all rfl HL.o);clear hb;go_wp2;go_ret
    exact⟨aE HE.o.symm,HB.o⟩
 ·have HE:=aA (zaY hl);have hne:((xs.length:Int) != (ys.length:Int))=true:=by simp;omega
  clear hl
  go_enter Tryz.func102,Tryz.ntmps102
  go_wp2;go_ret
  exact⟨aE HE.o.symm,HB0.o⟩
noncomputable def Gm.same (G H:Gm.Gr):Bool:=eqb G.ts H.ts&&eqb G.ns H.ns&&eqb G.rs H.rs&&eqb G.st H.st
theorem Gm.same_self (G:Gm.Gr):Gm.same G G=true:=by
 unfold Gm.same;rw[zah rfl,zah rfl,zah rfl,zah rfl];rfl
theorem zc9 (w:World) (o o':Obj) (n:Nat):(((w.alloc o).alloc o').drewN n).heap[w.heap.size]?=some o:=by
 show((w.alloc o).alloc o').heap[w.heap.size]?=some o
 rw[Below.heap_alloc _ _ _ (by simp)];exact heap_alloc_new w o
theorem zc8 (w:World) (o o':Obj) (n:Nat):(((w.alloc o).alloc o').drewN n).heap[w.heap.size+1]?=some o':=by
 have:=heap_alloc_new (w.alloc o) o'
 simpa[World.drewN] using this
theorem zhu (v u:Value) (G H:Gm.Gr) (B B':Nat) (w:World) (hg:aT w B v G) (hh:aT w B' u H) (fg:Gm.Fit G) (fh:Gm.Fit H) (hB:B<=w.heap.size) (hB':B'<=w.heap.size) :
  Calls Tryz.prog 70 #[v,u] w fun e w'=>e=.returned (.bool (Gm.same G H))/\Below w.heap.size w w':=by
 have HB0:=aA (fun o o'=>((Below.refl w.heap.size w).alloc (Nat.le_refl _) o).alloc (by simp) o');obtain⟨AT,cT,AN,cN,AR,cR,rfl,⟨hlT,hmT⟩,⟨hlN,hmN⟩,⟨hlR,hmR⟩,ht,hn,hr⟩:=hg;obtain⟨BT,dT,BN,dN,BR,dR,rfl,_,_,_,gt,gn,gr⟩:=hh;have H1:=aA (fun(x:World) (h:Below w.heap.size w x)=>zhB AT BT cT dT B B' G.ts H.ts x (ht.keep fun g o hg=>h.cell (p:=⟨g,o,none⟩) (Nat.lt_of_lt_of_le hg hB)) (gt.keep fun g o hg=>h.cell (p:=⟨g,o,none⟩) (Nat.lt_of_lt_of_le hg hB')) (fun x hx=>(fg.t x hx).1) (fun x hx=>(fh.t x hx).1) (by omega));have H2:=aA (fun(x:World) (h:Below w.heap.size w x)=>zhC AN BN cN dN B B' G.ns H.ns x (hn.keep fun g o hg=>h.cell (p:=⟨g,o,none⟩) (Nat.lt_of_lt_of_le hg hB)) (gn.keep fun g o hg=>h.cell (p:=⟨g,o,none⟩) (Nat.lt_of_lt_of_le hg hB')) (fun x hx=>fg.n x hx) (fun x hx=>fh.n x hx) (by omega));have H3:=aA (fun(x:World) (h:Below w.heap.size w x)=>ziU AR BR cR dR B B' G.rs H.rs x (hr.keep fun g o hg=>h.cell (p:=⟨g,o,none⟩) (Nat.lt_of_lt_of_le hg hB)) (gr.keep fun g o hg=>h.cell (p:=⟨g,o,none⟩) (Nat.lt_of_lt_of_le hg hB')) (Nat.le_trans hB h.size) (Nat.le_trans hB' h.size) (by omega));have e4:=zev G.st H.st;unfold Gm.same;clear ht hn hr gt gn gr hlT hmT hlN hmN hlR hmR fg fh hB hB';generalize G.st=st at *;generalize H.st=st' at *;cases q1:eqb G.ts H.ts
 ·rw[q1]at H1;clear q1 e4 H2 H3
  go_enter Tryz.func70,Tryz.ntmps70
  go_wp2_with fail
  refine(H1.o _ (HB0.o _ _)).mono ?_;rintro _ w2 ⟨rfl,hd⟩;have HD:=aA ((HB0.o _ _).trans ((zbD hd).mono (by simp;omega)));clear hd;go_wp2;go_ret
  exact⟨rfl,HD.o⟩
 ·rw[q1]at H1;clear q1;cases q2:eqb G.ns H.ns
  ·rw[q2]at H2;clear q2 e4 H3
   go_enter Tryz.func70,Tryz.ntmps70
   go_wp2_with fail
   refine(H1.o _ (HB0.o _ _)).mono ?_;rintro _ w2 ⟨rfl,n1,rfl⟩;go_wp2_with fail
   refine(H2.o _ (aB (HB0.o _ _) _)).mono ?_;rintro _ w3 ⟨rfl,n2,rfl⟩;go_wp2;go_ret
   exact⟨rfl,aB (HB0.o _ _) _⟩
  ·rw[q2]at H2;clear q2;cases q3:eqb G.rs H.rs
   ·rw[q3]at H3;clear q3 e4
    go_enter Tryz.func70,Tryz.ntmps70
    go_wp2_with fail
    refine(H1.o _ (HB0.o _ _)).mono ?_;rintro _ w2 ⟨rfl,n1,rfl⟩;go_wp2_with fail
    refine(H2.o _ (aB (HB0.o _ _) _)).mono ?_;rintro _ w3 ⟨rfl,n2,rfl⟩;go_wp2_with fail
    refine(H3.o _ (aB (HB0.o _ _) _)).mono ?_;rintro _ w4 ⟨rfl,hb⟩;have HD:=aA ((aB (HB0.o _ _) _).trans (hb.mono (by simp[World.drewN];omega)));clear hb;go_wp2;go_ret
    exact⟨rfl,HD.o⟩
   ·rw[q3]at H3;clear q3;generalize eqb st st'=b4 at *
    go_enter Tryz.func70,Tryz.ntmps70
    go_wp2_with fail
    refine(H1.o _ (HB0.o _ _)).mono ?_;rintro _ w2 ⟨rfl,n1,rfl⟩;go_wp2_with fail
    refine(H2.o _ (aB (HB0.o _ _) _)).mono ?_;rintro _ w3 ⟨rfl,n2,rfl⟩;go_wp2_with fail
    refine(H3.o _ (aB (HB0.o _ _) _)).mono ?_;rintro _ w4 ⟨rfl,hb⟩;have HD:=aA ((aB (HB0.o _ _) _).trans (hb.mono (by simp[World.drewN];omega)));have b0:=(hb.block w.heap.size (by simp[World.drewN];omega)).trans (zc9 w _ _ _);have b1:=(hb.block (w.heap.size+1) (by simp[World.drewN])).trans (zc8 w _ _ _);have z0:w.heap.size<w4.heap.size:=(Array.getElem?_eq_some_iff.1 b0).1;have z1:w.heap.size+1<w4.heap.size:=(Array.getElem?_eq_some_iff.1 b1).1;have c0:=cell_of_row w4 _ 3 _ _ _ b0;have c1:=cell_of_row w4 _ 3 _ _ _ b1;clear hb b0 b1;go_wp2;go_ret
    exact⟨aE (by simp),HD.o⟩
end Go.Proofs.YtcmhaemaophplaaGreat
