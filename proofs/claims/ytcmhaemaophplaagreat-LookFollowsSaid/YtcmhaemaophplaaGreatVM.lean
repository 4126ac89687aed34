/- Part of the proofs over this program: FstKnow2, FstOf, FirstQ, SliceI, LkTails, LkPass, LkGrow, AuMv. -/
import Derived.Test.YtcmhaemaophplaaGreatVL
namespace Go.Proofs.YtcmhaemaophplaaGreat
set_option maxRecDepth 100000
set_option maxHeartbeats 40000000
open Go.RowKit
theorem zlo {w:World} {o:Oper} {a:Act} {K:Act->World->Prop} {Q:Exit->Act->World->Prop} (l c:Operand) (t:TypeId) (hop:o.op=Op.makeSlice t l c) (ht:Tryz.prog.underlying t=some (.slice 44)) (n:Nat) (hl:a.eval l=.int .i64 n) (hc:a.eval c=.int .i64 n) (hn:n<=35184372088832)
  (hK:∀w',UBZ w' w.heap.size (List.replicate n 0)->Below w.heap.size w w'->K (a.put o.dst (.slice (some ⟨w.heap.size,0,none⟩) n n)) w'):Oper.wp Tryz.prog o a w K Q:=by
 obtain⟨i,hi,hz0,hz1,hz2⟩:=info_parts zlK;obtain⟨w',hrun,hown,hgr⟩:=run_make_full (P:=Tryz.prog) w w.heap.size t 44 i (.int .u32 0) 1 ht hi hz0 hz1 .i64 .i64 n (by rw[hz2];omega) (by unfold maxLen;omega) (Nat.le_refl _)
 have hu:UBZ w' w.heap.size (List.replicate n 0):=by
  unfold UBZ;rw[zgh];refine zbT (base:=w.heap.size) (n:=n) ?_;rw[za9]
  have e:(madeCells (Value.int IntKind.u32 0).cells (n*1)).toList=List.replicate n (Value.int .u32 0):=by
   rw[Nat.mul_one];exact toList_madeCells_one _ _
  rw[e]at hown;exact hown
 unfold Oper.wp;simp[execOp,hop,hl,hc,hrun,Result.andThen];exact hK w' hu ⟨hgr.os,hgr.tape,hgr.output,hgr.size,fun k hk=>hgr.block k hk (by simp)⟩
structure JK (w2:World) (n:Nat) (row:List Bool) (todo:List Nat) (wx:World) (x3 x5 x9 x10:Value) (g1 g5 c7:Nat):Prop where
 t:∀k∈todo,k=1\/k=5\/k=6\/k=7
 b:Below w2.heap.size w2 wx
 h1:1 ∉ todo->x5=.slice (some ⟨g1,0,none⟩) n n/\w2.heap.size<=g1/\UBO wx g1 row
 h5:5 ∉ todo->x9=.slice (some ⟨g5,0,none⟩) n n/\w2.heap.size<=g5/\UBZ wx g5 (List.replicate n 0)
 h6:6 ∉ todo->1 ∉ todo/\5 ∉ todo/\x10=.agg #[.slice (some ⟨g1,0,none⟩) n n,.slice (some ⟨g5,0,none⟩) n n]
 h7:7 ∉ todo->x3=.pointer (some ⟨c7,0,none⟩)/\w2.heap.size<=c7/\wx.heap[c7]?=some (.cells #[.slice none 0 0,.slice none 0 0] 185 (0,0))
section
variable {w2 wx w':World} {n:Nat} {row:List Bool} {todo:List Nat} {x3 x5 x9 x10:Value} {g1 g5 c7:Nat}
theorem JK.put1 (h:JK w2 n row todo wx x3 x5 x9 x10 g1 g5 c7) (hm:1∈todo) (hb:Below wx.heap.size wx w') {g:Nat} (hg:wx.heap.size<=g) (hu:UBO w' g row):JK w2 n row (todo.erase 1) w' x3 (.slice (some ⟨g,0,none⟩) n n) x9 x10 g g5 c7 where
 t k hk:=h.t k (List.mem_of_mem_erase hk)
 b:=h.b.trans (hb.mono h.b.size)
 h1 _:=⟨rfl,Nat.le_trans h.b.size hg,hu⟩
 h5 q:=by obtain⟨a1,a2,a3⟩:=h.h5 (aD q (by decide));exact⟨a1,a2,aC hb a3⟩
 h6 q:=absurd hm (h.h6 (aD q (by decide))).1
 h7 q:=by obtain⟨a1,a2,a3⟩:=h.h7 (aD q (by decide));exact⟨a1,a2,aC hb a3⟩
theorem JK.put5 (h:JK w2 n row todo wx x3 x5 x9 x10 g1 g5 c7) (hm:5∈todo) (hb:Below wx.heap.size wx w') (hu:UBZ w' wx.heap.size (List.replicate n 0)):JK w2 n row (todo.erase 5) w' x3 x5 (.slice (some ⟨wx.heap.size,0,none⟩) n n) x10 g1 wx.heap.size c7 where
 t k hk:=h.t k (List.mem_of_mem_erase hk)
 b:=h.b.trans (hb.mono h.b.size)
 h1 q:=by obtain⟨a1,a2,a3⟩:=h.h1 (aD q (by decide));exact⟨a1,a2,aC hb a3⟩
 h5 _:=⟨rfl,h.b.size,hu⟩
 h6 q:=absurd hm (h.h6 (aD q (by decide))).2.1
 h7 q:=by obtain⟨a1,a2,a3⟩:=h.h7 (aD q (by decide));exact⟨a1,a2,aC hb a3⟩
theorem JK.put7 (h:JK w2 n row todo wx x3 x5 x9 x10 g1 g5 c7):JK w2 n row (todo.erase 7) (wx.alloc (.cells #[.slice none 0 0,.slice none 0 0] 185)) (.pointer (some ⟨wx.heap.size,0,none⟩)) x5 x9 x10 g1 g5 wx.heap.size where
 t k hk:=h.t k (List.mem_of_mem_erase hk)
 b:=h.b.alloc h.b.size _
 h1 q:=by obtain⟨a1,a2,a3⟩:=h.h1 (aD q (by decide));exact⟨a1,a2,aC ((Below.refl _ wx).alloc (Nat.le_refl _) _) a3⟩
 h5 q:=by obtain⟨a1,a2,a3⟩:=h.h5 (aD q (by decide));exact⟨a1,a2,aC ((Below.refl _ wx).alloc (Nat.le_refl _) _) a3⟩
 h6 q:=by obtain⟨a1,a2,a3⟩:=h.h6 (aD q (by decide));exact⟨fun m=>a1 (List.mem_of_mem_erase m),fun m=>a2 (List.mem_of_mem_erase m),a3⟩
 h7 _:=⟨rfl,h.b.size,heap_alloc_new wx _⟩
theorem JK.put6 (h:JK w2 n row todo wx x3 x5 x9 x10 g1 g5 c7) (m1:1 ∉ todo) (m5:5 ∉ todo):JK w2 n row (todo.erase 6) wx x3 x5 x9 (.agg #[.slice (some ⟨g1,0,none⟩) n n,.slice (some ⟨g5,0,none⟩) n n]) g1 g5 c7 where
 t k hk:=h.t k (List.mem_of_mem_erase hk)
 b:=h.b
 h1 q:=h.h1 m1
 h5 q:=h.h5 m5
 h6 q:=⟨fun m=>m1 (List.mem_of_mem_erase m),fun m=>m5 (List.mem_of_mem_erase m),rfl⟩
 h7 q:=h.h7 (aD q (by decide))
end
def zna (G:Gm.Gr) (w:World) (e:Ending) (w':World):Prop:=∃g1 g5,e=.returned (.agg #[.slice (some ⟨g1,0,none⟩) G.ns.length G.ns.length,.slice (some ⟨g5,0,none⟩) G.ns.length G.ns.length])/\w.heap.size<=g1/\w.heap.size<=g5/\UBO w' g1 (Gm.gn false G.rs G.ns.length)/\UBZ w' g5 (Gm.fst G)/\Below w.heap.size w w'
def FsP (G:Gm.Gr) (s:List Nat):Prop:=s.length=G.ns.length/\Gm.U32 s/\∀i t:Nat,(s.getD i 0).testBit t=true->Gm.Fs G t (i:Int)
theorem FsP.start (G:Gm.Gr):FsP G (List.replicate G.ns.length 0):=by
 refine⟨by simp,fun i=>?_,fun i t h=>?_⟩
 ·rw[List.getD_eq_getElem?_getD,List.getElem?_replicate];split <;> simp
 ·rw[Gm.none_bit]at h;cases h
theorem FsP.step {G:Gm.Gr} (hf:Gm.Fit G) (hok:Gm.Ok G) {s:List Nat} {x:Gm.Rl} (hx:x∈G.rs) (h:FsP G s):FsP G (Gm.firstN1 (Gm.gn false G.rs G.ns.length) s x) :=
 ⟨by unfold Gm.firstN1;rw[Gm.addN_len];exact h.1,h.2.1.addN _ (Gm.U32.ofN h.2.1 (by decide) (zk4 hf hok hx).t),fun i t hb=>Gm.fst_step hok.lin h.2.2 hx i t hb⟩
theorem zet (v:Value) (G:Gm.Gr) (B:Nat) (w:World) (hg:aT w B v G) (hf:Gm.Fit G) (hok:Gm.Ok G) (hB:B<=w.heap.size) :
  Calls Tryz.prog 115 #[v] w (zna G w):=by
 have HNU:=aA (fun(x:World) (h:Below w.heap.size w x)=>(show Calls _ _ _ _ (zh1 _ _) from(zdJ v G B x (hg.below h hB) hf (Nat.le_trans hB h.size)).mono fun e w' k=>k.1 (Gm.right_ok.2 hok)));obtain⟨AT,cT,AN,cN,AR,cR,rfl,_,⟨hlN,hmN⟩,_,_,_,hR⟩:=hg;have HS0:=aA ((One.start w #[.slice AT G.ts.length cT,.slice AN G.ns.length cN,.slice AR G.rs.length cR,.int .i64 G.st]).alloc (.cells #[.slice none 0 0,.slice none 0 0] 185));have HRl:=aA hR;have HB:=aA hB;have HFT:=aA hf;have HOK:=aA hok;have HN:Hid (G.ns.length<=40):=aA (by have:=(Gm.nons_iff G).1 HOK.o.n;omega);have HR40:Hid (G.rs.length<=40):=aA HOK.o.r40;have hnn:=HN.o;have hlen:(G.ns.length:Int)<=9223372036854775807:=by omega
 obtain⟨w2,hw2⟩:∃y,y=(w.alloc (.cells #[.slice AT G.ts.length cT,.slice AN G.ns.length cN,.slice AR G.rs.length cR,.int .i64 G.st] 26)).alloc (.cells #[.slice none 0 0,.slice none 0 0] 185):=⟨_,rfl⟩
 rw[<-hw2]at HS0;have HRS:Hid (w2.heap[w.heap.size+1]?=some (.cells #[.slice none 0 0,.slice none 0 0] 185 (0,0))):=aA (by rw[hw2];have:=heap_alloc_new (w.alloc (.cells #[.slice AT G.ts.length cT,.slice AN G.ns.length cN,.slice AR G.rs.length cR,.int .i64 G.st] 26)) (.cells #[.slice none 0 0,.slice none 0 0] 185);simpa using this);have hz2:w2.heap.size=w.heap.size+2:=by rw[hw2];simp
 have HZ2:=aA hz2;have HW2:Hid (Below w.heap.size w w2):=aA HS0.o.below;have hd1:w.heap.size<w2.heap.size:=by omega
 obtain⟨T,hT⟩:∃x,x=Gm.gn false G.rs G.ns.length:=⟨_,rfl⟩
 have HTl:Hid (T.length=G.ns.length):=aA (by rw[hT,Gm.gn_len]);rw[<-hT]at HNU;have HT:=aA hT;have H3:=aA (fun(x:World) (h:Below w2.heap.size w2 x)=>HNU.o x (HW2.o.trans (h.mono (Nat.le_of_lt hd1))));have q0:=fun y:Calm.On w2.heap.size w2=>(y.2.cell (p:=⟨w.heap.size,0,none⟩) hd1).trans (HS0.o.c 0 _ rfl);have q1:=fun y:Calm.On w2.heap.size w2=>(y.2.cell (p:=⟨w.heap.size,1,none⟩) hd1).trans (HS0.o.c 1 _ rfl);have q2:=fun y:Calm.On w2.heap.size w2=>(y.2.cell (p:=⟨w.heap.size,2,none⟩) hd1).trans (HS0.o.c 2 _ rfl);have q3:=fun y:Calm.On w2.heap.size w2=>(y.2.cell (p:=⟨w.heap.size,3,none⟩) hd1).trans (HS0.o.c 3 _ rfl);clear hf hok hR hB hT hz2 HNU
 go_enter Tryz.func115,Tryz.ntmps115
 go_upto_region 1 with fail
 rw[<-hw2];clear hw2
 refine CalmN.region_dep (fun x=>∃y:Calm.On w2.heap.size w2,x=y.1) [0,2,3,4] [1,5,6,7] [(6,1),(6,5)] (.one [] 8 (.fin []))
  (fun todo a wx=>∃x3 x5 x9 x10 g1 g5 c7,a = {tmps:=#[.agg #[.slice AT G.ts.length cT,.slice AN G.ns.length cN,.slice AR G.rs.length cR,.int .i64 G.st],.pointer (some ⟨w.heap.size,0,none⟩),.pointer (some ⟨w.heap.size+1,0,none⟩),x3,.agg #[.slice AT G.ts.length cT,.slice AN G.ns.length cN,.slice AR G.rs.length cR,.int .i64 G.st],x5,.pointer (some ⟨w.heap.size,1,none⟩),.slice AN G.ns.length cN,.int .i64 G.ns.length,x9,x10,undef,undef,undef,undef,undef,undef,undef],defers:=[]}/\JK w2 G.ns.length T todo wx x3 x5 x9 x10 g1 g5 c7)
  (by kernel_rfl) (by kernel_rfl) (fun _ _ d _ _ h=>by cases d <;> exact h) ⟨⟨w2.drew,aB (Below.refl _ _) 1⟩,rfl⟩ ?_ ?_ ?_
 ·simp only[CalmN.pickOps,List.getElem?_toArray,List.getElem?_cons_zero,List.getElem?_cons_succ];repeat (go_big_quiet_step (fail))
  refine wpQuiet_nil ?_;exact⟨undef,undef,undef,undef,0,0,0,rfl,⟨by simp,aB (Below.refl _ _) 1,fun h=>absurd (by simp) h,fun h=>absurd (by simp) h,fun h=>absurd (by simp) h,fun h=>absurd (by simp) h⟩⟩
 ·intro todo k a wx hk hD hJ hS;obtain⟨x3,x5,x9,x10,g1,g5,c7,rfl,hJ⟩:=hJ;have HJ:=aA hJ;have hcase:=hJ.t k hk;have HK:=aA hk;have HD:=aA hD;clear hJ hS hk hD q0 q1 q2 q3;rcases hcase with rfl|rfl|rfl|rfl
  ·simp only[CalmN.wpSt,List.getElem?_toArray,List.getElem?_cons_zero,List.getElem?_cons_succ];intro KK hKK;rw[if_pos (by rfl)];go_wp2_with fail
   refine(H3.o wx HJ.o.b).mono ?_;rintro _ w' ⟨g,rfl,hg,hu,hb⟩;have hj:=HJ.o.put1 HK.o hb hg hu;go_wp2_with fail
   rw[HTl.o];exact hKK _ _ ⟨⟨w',hj.b⟩,rfl⟩ (fun x=>∃y:Calm.On w2.heap.size w2,x=y.1) (fun _ h=>h) ⟨⟨w',hj.b⟩,rfl⟩ ⟨x3,_,x9,x10,_,g5,c7,rfl,hj⟩
  ·simp only[CalmN.wpSt,List.getElem?_toArray,List.getElem?_cons_zero,List.getElem?_cons_succ];intro KK hKK;rw[if_pos (by rfl)];refine zlo (.tmp 8) (.tmp 8) _ rfl Tryz.underlying41 G.ns.length rfl rfl (by omega) ?_;intro w' hu hb;have hj:=HJ.o.put5 HK.o hb hu;exact hKK _ _ ⟨⟨w',hj.b⟩,rfl⟩ (fun x=>∃y:Calm.On w2.heap.size w2,x=y.1) (fun _ h=>h) ⟨⟨w',hj.b⟩,rfl⟩ ⟨x3,x5,_,x10,g1,_,c7,rfl,hj⟩
  ·have m1:=HD.o (6,1) (by simp) rfl;have m5:=HD.o (6,5) (by simp) rfl;obtain⟨rfl,_⟩:=HJ.o.h1 m1;obtain⟨rfl,_⟩:=HJ.o.h5 m5;have hj:=HJ.o.put6 m1 m5;simp only[CalmN.wpSt,List.getElem?_toArray,List.getElem?_cons_zero,List.getElem?_cons_succ];intro KK hKK;rw[if_pos (by rfl)];go_wp2_with fail
   exact hKK _ _ ⟨⟨_,hj.b⟩,rfl⟩ (fun x=>∃y:Calm.On w2.heap.size w2,x=y.1) (fun _ h=>h) ⟨⟨_,hj.b⟩,rfl⟩ ⟨x3,_,_,_,g1,g5,c7,rfl,hj⟩
  ·simp only[CalmN.wpSt,List.getElem?_toArray,List.getElem?_cons_zero,List.getElem?_cons_succ];intro KK hKK;rw[if_pos (by rfl)];have hj:=HJ.o.put7;go_wp2_with fail
   exact hKK _ _ ⟨⟨_,hj.b⟩,rfl⟩ (fun x=>∃y:Calm.On w2.heap.size w2,x=y.1) (fun _ h=>h) ⟨⟨_,hj.b⟩,rfl⟩ ⟨_,x5,x9,x10,g1,g5,_,rfl,hj⟩
 ·intro a wx hJ hS;obtain⟨x3,x5,x9,x10,g1,g5,c7,rfl,hJ⟩:=hJ;obtain⟨rfl,hg1,hu1⟩:=hJ.h1 (by simp);obtain⟨rfl,hg5,hu5⟩:=hJ.h5 (by simp);obtain⟨_,_,rfl⟩:=hJ.h6 (by simp);obtain⟨rfl,hc7,hu7⟩:=hJ.h7 (by simp);have hbx:=hJ.b;clear hS q0 q1 q2 q3 hJ H3;have l7:=(Array.getElem?_eq_some_iff.1 hu7).1;have f7:=frozen_of_row wx _ 0 _ _ hu7;have f8:=frozen_of_row wx _ 1 _ _ hu7;have k7:=cell_of_row wx _ 0 _ _ _ hu7;have k8:=cell_of_row wx _ 1 _ _ _ hu7;simp only[CalmN.wpT,CalmN.wpSt,CalmN.pickOps,List.getElem?_toArray,List.getElem?_cons_zero,List.getElem?_cons_succ];repeat (go_big_quiet_step (fail))
  refine wpQuiet_nil ?_;intro KK hKK;rw[if_pos (by rfl)];go_wp2_with fail
  obtain⟨wy,hwy⟩:∃y,y=(wx.setCell ⟨c7,0,none⟩ (.slice (some ⟨g1,0,none⟩) G.ns.length G.ns.length)).setCell ⟨c7,1,none⟩ (.slice (some ⟨g5,0,none⟩) G.ns.length G.ns.length):=⟨_,rfl⟩
  have hby:Below w2.heap.size w2 wy:=by rw[hwy];exact(hbx.setCell (p:=⟨c7,0,none⟩) hc7 _).setCell (p:=⟨c7,1,none⟩) hc7 _
  have hne1:g1≠c7:=fun e=>by subst e;unfold UBO at hu1;rw[hu7]at hu1;injection hu1 with hu1;injection hu1 with _ hu1;cases hu1
  have hne5:g5≠c7:=fun e=>by subst e;unfold UBZ UBU at hu5;rw[hu7]at hu5;injection hu5 with hu5;injection hu5 with _ hu5;cases hu5
  have hne15:g1≠g5:=fun e=>by subst e;unfold UBO at hu1;unfold UBZ UBU at hu5;rw[hu1]at hu5;injection hu5 with hu5;injection hu5 with _ hu5;cases hu5
  have hy1:UBO wy g1 T:=by rw[hwy];exact UBO.far (UBO.far hu1 hne1 _) hne1 _
  have hy5:UBZ wy g5 (List.replicate G.ns.length 0):=by rw[hwy];exact UBZ.far (UBZ.far hu5 hne5 _) hne5 _
  have hy7:wy.heap[c7]?=some (.cells #[.slice (some ⟨g1,0,none⟩) G.ns.length G.ns.length,.slice (some ⟨g5,0,none⟩) G.ns.length G.ns.length] 185 (0,0)):=by rw[hwy];exact heap_setCell_same _ c7 1 _ _ _ (heap_setCell_same wx c7 0 _ _ _ hu7)
  rw[<-hwy];refine hKK _ _ ⟨⟨wy,hby⟩,rfl⟩ (fun x=>∃y:Calm.On w2.heap.size w2,x=y.1) (fun _ h=>h) ⟨⟨wy,hby⟩,rfl⟩ ?_;clear hKK k7 k8 f7 f8 l7 hwy hu1 hu5 hu7 hbx;refine wpQuiet_nil ?_;have u1:=cell_of_row wy _ 1 _ _ _ hy7;have u2:=(hby.cell (p:=⟨w.heap.size,2,none⟩) hd1).trans (HS0.o.c 2 _ rfl);have lw:w.heap.size<wy.heap.size:=Nat.lt_of_lt_of_le hd1 hby.size;have l7:=(Array.getElem?_eq_some_iff.1 hy7).1;have hWy:Below w.heap.size w wy:=HW2.o.trans (hby.mono (Nat.le_of_lt hd1));have hRy:zd8 wy B AR G.rs:=HRl.o.keep fun g o hg=>hWy.cell (p:=⟨g,o,none⟩) (Nat.lt_of_lt_of_le hg HB.o)
  have hGR:=zhz 153 #[.pointer (some ⟨c7,0,none⟩)] (za7 Tryz.func153 (by kernel_rfl) (by kernel_rfl)) G.rs AR cR G.ns.length B g5 G.ns.length wy (List.replicate G.ns.length 0) (FsP G) (Gm.firstN1 T)
   hRy (Nat.le_trans HB.o hWy.size) (by have:=HB.o;omega) hy5 (by simp) (FsP.start G) (by have:=HR40.o;omega) (fun s x=>Gm.NLe.addN _ _ _) (fun s x hx h=>by rw[HT.o];exact h.step HFT.o HOK.o hx) (fun s h=>h.2.1)
   (fun y s b x A' c' hG hP hx hr _=>by
    have hkp:=(hG.g.block c7 l7 (fun e=>by injection e with e;exact hne5 e.symm)).trans hy7;have h1:UBO y g1 T:=(hG.g.block g1 hy1.lt (fun e=>by injection e with e;exact hne15 e)).trans hy1;exact zfR wy y g5 G.ns.length G.ns.length c7 G.ts.length s b T (some ⟨g1,0,none⟩) A' G.ns.length c' B x hG hkp (h1.rd0 h1.lt) HTl.o (fun e=>hne5 e.symm) l7 hr (Nat.le_trans HB.o (Nat.le_trans hWy.size hG.g.size)) hP.2.1 (zk4 HFT.o HOK.o hx))
  have HGR:=aA hGR
  have HX:Hid (∀(y:World) (s:List Nat),FsP G s->(∀x∈G.rs,Gm.firstN1 T s x=s)->UBZ y g5 s->wy.grownBy y (some g5)->UBZ y g5 (Gm.fst G)/\UBO y g1 T/\y.heap[c7]?=some (.cells #[.slice (some ⟨g1,0,none⟩) G.ns.length G.ns.length,.slice (some ⟨g5,0,none⟩) G.ns.length G.ns.length] 185 (0,0))/\Below w2.heap.size w2 y):=aA (fun y s hP hc hu hg=>by
   rw[HT.o]at hc;rw[<-Gm.fst_row HOK.o.lin hP.1 hP.2.2 hc];exact⟨hu,(hg.block g1 hy1.lt (fun e=>by injection e with e;exact hne15 e)).trans hy1,(hg.block c7 l7 (fun e=>by injection e with e;exact hne5 e.symm)).trans hy7,zaa hby hg hg5 hby.size⟩)
  have HGG:=aA (And.intro hg1 hg5);clear hGR hy1 hy5 hy7 hRy hWy hne1 hne5 hne15 hg1 hg5 hc7 hby hnn;go_wp2_with fail
  refine HGR.o.mono ?_;rintro _ w4 ⟨rfl,s,hP,hc,hu,hsl,hgr⟩;obtain⟨hu5,hu1,hu7,hb4⟩:=HX.o w4 s hP hc hu hgr;have r0:=cell_of_row w4 _ 0 _ _ _ hu7;have r1:=cell_of_row w4 _ 1 _ _ _ hu7;have l74:=(Array.getElem?_eq_some_iff.1 hu7).1;have hrs:=(hb4.block (w.heap.size+1) (by have:=HZ2.o;omega)).trans HRS.o;have g0:=cell_of_row w4 _ 0 _ _ _ hrs;have g1':=cell_of_row w4 _ 1 _ _ _ hrs;have f0:=frozen_of_row w4 _ 0 _ _ hrs;have f1:=frozen_of_row w4 _ 1 _ _ hrs;have l4:=(Array.getElem?_eq_some_iff.1 hrs).1;have HU5:=aA hu5;have HU1:=aA hu1;have HB4:=aA hb4;clear hP hc hu hsl hgr hu5 hu1 hu7 hb4 hrs HX HGR u1 u2 lw l7;go_wp2_with fail
  refine bodyPost_ret (v:=.agg #[.slice (some ⟨g1,0,none⟩) G.ns.length G.ns.length,.slice (some ⟨g5,0,none⟩) G.ns.length G.ns.length]) (by simp[results,Tryz.results115,go_sem,g0,g1']) rfl ?_;have hne:∀g,w2.heap.size<=g->g≠w.heap.size+1:=fun g h=>by have:=HZ2.o;omega
  refine⟨g1,g5,rfl,by have:=HGG.o;have:=HZ2.o;omega,by have:=HGG.o;have:=HZ2.o;omega,?_,?_,?_⟩
  ·rw[<-HT.o];exact UBO.far (UBO.far HU1.o (hne _ HGG.o.1) _) (hne _ HGG.o.1) _
  ·exact UBZ.far (UBZ.far HU5.o (hne _ HGG.o.2) _) (hne _ HGG.o.2) _
  ·exact((HW2.o.trans (HB4.o.mono (by have:=HZ2.o;omega))).setCell (p:=⟨w.heap.size+1,0,none⟩) (by simp) _).setCell (p:=⟨w.heap.size+1,1,none⟩) (by simp) _
end Go.Proofs.YtcmhaemaophplaaGreat
namespace Go.Proofs.YtcmhaemaophplaaGreat
set_option maxRecDepth 100000
set_option maxHeartbeats 40000000
open Go.RowKit
theorem zi3 {l:List Int} {p:Int->Bool} {k:Nat} (h:k<l.length):(l.take (k+1)).any p=((l.take k).any p||p l[k]):=by
 rw[List.take_succ_eq_append_getElem h,List.any_append];simp
theorem zml {l:List Int} {p:Int->Bool} {k:Nat} (h:k<l.length) (hp:p l[k]=true):l.any p=true:=List.any_eq_true.2 ⟨_,List.getElem_mem h,hp⟩
theorem zc7 (fb:Nat) (cp:Value) (hE:∀args w,Sem.run Tryz.prog (callFunc fb args) w=.ok (.enter fb args) w) (l:List Int) (p:Int->Bool) (A:Option Addr) (c B:Nat) (w:World) (hr:RdI w B A l) (hB:B<=w.heap.size) (hl:l.length<=9223372036854775807)
  (hp:∀y z,Below w.heap.size w y->z∈l->Calls Tryz.prog fb #[.int .i64 z,cp] y fun e w'=>e=.returned (.bool (p z))/\Below y.heap.size y w') :
  Calls Tryz.prog 150 #[.slice A l.length c,.func (Fn.func fb) #[] #[cp]] w fun e w'=>(∃k:Int,e=.returned (.int .i64 k)/\decide (0<=k)=l.any p)/\Below w.heap.size w w':=by
 have HR:=aA hr;have HB:=aA hB;have HP:=aA hp;have hlen:(l.length:Int)<=9223372036854775807:=by omega
 clear hr hp hB hl
 go_enter Tryz.func150,Tryz.ntmps150
 go_wp2;go_loopw [8] (fun vi wr=>∃k:Nat,k<=l.length/\vi=.int .i64 k/\Hid ((l.take k).any p=false)/\Hid (Below w.heap.size w wr)) (fun vi _=>l.length-(intOf vi).toNat)
 case atStart=>exact⟨0,Nat.zero_le _,rfl,aA (by simp),aA (Below.refl _ _)⟩
 case round =>
  obtain⟨k,hk,rfl,HK,HW⟩:=hrel;by_cases hlt:k<l.length
  ·obtain⟨g,o,rfl,hgb,hc⟩:=HR.o (by omega);have k0:=(HW.o.cell (p:=⟨g,o+k,none⟩) (Nat.lt_of_lt_of_le hgb HB.o)).trans (hc k hlt);rw[L.gd_lt hlt]at k0;have HPz:=aA (HP.o wr _ HW.o (List.getElem_mem hlt));have HN:=aA (zi3 (p:=p) hlt);have HY:=aA (fun h=>zml (p:=p) hlt h);clear hc;generalize l[k]=z at *;cases hz:p z
   ·rw[hz]at HPz HN;have HX:=aA (HN.o.trans (by rw[HK.o]));clear hz HN HY;go_wp2_with fail
    refine HPz.o.mono ?_;rintro _ w2 ⟨rfl,hb⟩;have HW2:=aA (HW.o.trans (hb.mono HW.o.size));clear hb;go_wp2;go_roundw
    case rel=>exact⟨k+1,hlt,by go_num,HX,HW2⟩
    case measure=>simp[intOf];omega
   ·rw[hz]at HPz;have HX:=aA (HY.o hz);clear hz HN HY;go_wp2_with fail
    refine HPz.o.mono ?_;rintro _ w2 ⟨rfl,hb⟩;have HW2:=aA (HW.o.trans (hb.mono HW.o.size));clear hb;go_wp2;go_ret
    exact⟨⟨_,rfl,by rw[HX.o,decide_eq_true (by omega)]⟩,HW2.o⟩
  ·obtain rfl:k=l.length:=by omega
   rw[List.take_length]at HK;go_wp2;go_ret
   exact⟨⟨_,rfl,by rw[HK.o];rfl⟩,HW.o⟩
theorem zbF (fb:Nat) (cp:Value) (hE:∀args w,Sem.run Tryz.prog (callFunc fb args) w=.ok (.enter fb args) w) (l:List Int) (p:Int->Bool) (A:Option Addr) (c B:Nat) (w:World) (hr:RdI w B A l) (hB:B<=w.heap.size) (hl:l.length<=9223372036854775807)
  (hp:∀y z,Below w.heap.size w y->z∈l->Calls Tryz.prog fb #[.int .i64 z,cp] y fun e w'=>e=.returned (.bool (p z))/\Below y.heap.size y w') :
  Calls Tryz.prog 114 #[.slice A l.length c,.func (Fn.func fb) #[] #[cp]] w fun e w'=>e=.returned (.bool (l.any p))/\Below w.heap.size w w':=by
 have H:=aA (zc7 fb cp hE l p A c B w hr hB hl hp);clear hr hB hl hp
 go_enter Tryz.func114,Tryz.ntmps114
 go_wp2_with fail
 refine H.o.mono ?_;rintro _ w2 ⟨⟨k,rfl,hk⟩,hb⟩;have HK:=aA hk;have HB:=aA hb;clear hk hb;go_wp2;go_ret
 exact⟨aE HK.o,HB.o⟩
noncomputable def Gm.ofG (G:Gm.Gr) (l:List Int) (rest:Nat):Nat:=if Gm.right G=true/\l.all (Gm.has G)=true then Gm.ofN (Gm.gn false G.rs G.ns.length) (Gm.fst G) rest l else 0
theorem Gm.fst_u32 {G:Gm.Gr} (hok:Gm.Ok G):Gm.U32 (Gm.fst G):=fun i=>by
 have h24:=((Gm.terms_iff G.ts).1 hok.t).1;refine Nat.lt_pow_two_of_testBit (n:=32) _ fun t ht=>?_;cases hb:((Gm.fst G).getD i 0).testBit t
 ·rfl
 ·have:=Gm.fs_lt hok ((Gm.fst_bit hok.lin i t).1 hb)
  omega
theorem Gm.has_in {G:Gm.Gr} (hok:Gm.Ok G) {z:Int} (h:Gm.has G z=true):z<=31/\(z<0->-1-z<(G.ns.length:Int))/\z<G.ts.length:=by
 have h24:=((Gm.terms_iff G.ts).1 hok.t).1;unfold Gm.has at h;split at h
 ·have:=of_decide_eq_true h
  exact⟨by omega,fun h=>by omega,this⟩
 ·have:=of_decide_eq_true h
  exact⟨by omega,fun _=>this,by omega⟩
theorem zhg (G:Gm.Gr) (B:Nat) (z:Int) (hz:Gm.In z) (a:Array Value) (w y:World) (hg:aT y B (.agg a) G) (ho:One w a y) :
  Calls Tryz.prog 112 #[.int .i64 z,.pointer (some ⟨w.heap.size,0,none⟩)] y fun e w'=>e=.returned (.bool (!Gm.has G z))/\Below y.heap.size y w':=by
 have H:=aA (zex (.agg a) G B z hz y hg);obtain⟨AT,cT,AN,cN,AR,cR,hv,_⟩:=hg;injection hv with hv;subst hv;have q0:=ho.c 0 _ rfl;have q1:=ho.c 1 _ rfl;have q2:=ho.c 2 _ rfl;have q3:=ho.c 3 _ rfl;have hs:w.heap.size<y.heap.size:=ho.size;clear ho
 go_enter Tryz.func112,Tryz.ntmps112
 go_wp2_with fail
 refine H.o.mono ?_;rintro _ w2 ⟨rfl,hb⟩;have HB:=aA hb;clear hb;go_wp2;go_ret
 exact⟨rfl,HB.o⟩
theorem zlg (v:Value) (G:Gm.Gr) (l:List Int) (rest:Nat) (A:Option Addr) (c B:Nat) (w:World) (hg:aT w B v G) (hf:Gm.Fit G) (hB:B<=w.heap.size) (hr:RdI w B A l) (hin:∀z∈l,Gm.In z) (hl:l.length<=9223372036854775807) (hrest:rest<4294967296) :
  Calls Tryz.prog 76 #[v,.slice A l.length c,.int .u32 rest] w fun e w'=>e=.returned (.int .u32 (Gm.ofG G l rest))/\Below w.heap.size w w':=by
 have H1:=aA (fun(x:World) (h:Below w.heap.size w x)=>zaK v G B x (hg.below h hB) hf (Nat.le_trans hB h.size));have H2:=aA (fun(q:Gm.right G=true) (x:World) (h:Below w.heap.size w x)=>zet v G B x (hg.below h hB) hf (Gm.right_ok.1 q) (Nat.le_trans hB h.size));have HGG:=aA (fun(x:World) (h:Below w.heap.size w x)=>hg.below h hB);have HGV:=aA hg;obtain⟨AT,cT,AN,cN,AR,cR,rfl,_⟩:=hg;have HS0:=aA (One.start w #[.slice AT G.ts.length cT,.slice AN G.ns.length cN,.slice AR G.rs.length cR,.int .i64 G.st])
 have H3:=aA (fun(x:World) (h:One w #[.slice AT G.ts.length cT,.slice AN G.ns.length cN,.slice AR G.rs.length cR,.int .i64 G.st] x)=>zbF 112 (.pointer (some ⟨w.heap.size,0,none⟩)) (za7 Tryz.func112 (by kernel_rfl) (by kernel_rfl)) l (fun z=>!Gm.has G z) A c B x (hr.below h.below hB) (Nat.le_trans hB h.below.size) hl
  (fun y z hy hz=>zhg G B z (hin z hz) _ w y (HGG.o y (h.on hy).below) (h.on hy)))
 have HNA:l.any (fun z=>!Gm.has G z) = !l.all (Gm.has G):=by rw[List.all_eq_not_any_not];simp
 rw[HNA]at H3;have HE:Hid (Gm.ofG G l rest=if Gm.right G=true/\l.all (Gm.has G)=true then Gm.ofN (Gm.gn false G.rs G.ns.length) (Gm.fst G) rest l else 0):=aA rfl;generalize hr0:Gm.ofG G l rest=r0 at *;clear hr0 HNA;cases q:Gm.right G
 ·rw[q]at H1;have HX:Hid (r0=0):=aA (by rw[HE.o,q];rfl);clear q H2 H3 hr hf hin hl hrest HE
  go_enter Tryz.func76,Tryz.ntmps76
  go_wp2_with fail
  refine(H1.o _ HS0.o.below).mono ?_;rintro _ w2 ⟨rfl,hb⟩;have HB2:=aA (HS0.o.on hb);clear hb;go_wp2;go_ret
  exact⟨by rw[HX.o];rfl,HB2.o.below⟩
 ·have H2:=aA (H2.o q);rw[q]at H1;cases ha:l.all (Gm.has G)
  ·rw[ha]at H3;have HX:Hid (r0=0):=aA (by rw[HE.o,ha];simp);clear q H2 hr hf hin hl hrest HE ha
   go_enter Tryz.func76,Tryz.ntmps76
   go_wp2_with fail
   refine(H1.o _ HS0.o.below).mono ?_;rintro _ w2 ⟨rfl,hb⟩;have HB2:=aA (HS0.o.on hb);clear hb;go_wp2_with fail
   refine(H3.o _ HB2.o).mono ?_;rintro _ w3 ⟨rfl,hb⟩;have HB3:=aA (HB2.o.on hb);clear hb;go_wp2;go_ret
   exact⟨by rw[HX.o];rfl,HB3.o.below⟩
  ·rw[ha]at H3;have hok:=Gm.right_ok.1 q;have HX:Hid (r0=Gm.ofN (Gm.gn false G.rs G.ns.length) (Gm.fst G) rest l):=aA (by rw[HE.o,if_pos ⟨q,ha⟩]);have hsy:=fun z hz=>Gm.has_in hok (List.all_eq_true.1 ha z hz);have HKO:=aA (fun(x:World) (h:Below w.heap.size w x) (g1 g5:Nat) (hu1:UBO x g1 (Gm.gn false G.rs G.ns.length)) (hu5:UBZ x g5 (Gm.fst G))=>zhl l rest (Gm.gn false G.rs G.ns.length) (Gm.fst G) A (some ⟨g1,0,none⟩) (some ⟨g5,0,none⟩) c G.ns.length G.ns.length B x.heap.size x.heap.size x (hr.below h hB) (hu1.rd0 hu1.lt) (hu5.rd hu5.lt) (Nat.le_trans hB h.size) (Nat.le_refl _) (Nat.le_refl _) hin (fun z hz=>(hsy z hz).1) (fun z hz=>by rw[Gm.fst_len];exact(hsy z hz).2.1) (by rw[Gm.fst_len,Gm.gn_len]) (Gm.fst_u32 hok) hrest hl);rw[Gm.fst_len,Gm.gn_len]at HKO;clear q hr hf hin hl hrest HE ha hsy hok;generalize Gm.ofN (Gm.gn false G.rs G.ns.length) (Gm.fst G) rest l=vv at *
   go_enter Tryz.func76,Tryz.ntmps76
   go_wp2_with fail
   refine(H1.o _ HS0.o.below).mono ?_;rintro _ w2 ⟨rfl,hb⟩;have HB2:=aA (HS0.o.on hb);clear hb;go_wp2_with fail
   refine(H3.o _ HB2.o).mono ?_;rintro _ w3 ⟨rfl,hb⟩;have HB3:=aA (HB2.o.on hb);have q0:=HB3.o.c 0 _ rfl;have q1:=HB3.o.c 1 _ rfl;have q2:=HB3.o.c 2 _ rfl;have q3:=HB3.o.c 3 _ rfl;have hz3:w.heap.size<w3.heap.size:=HB3.o.size;clear hb;go_wp2_with fail
   refine(H2.o _ HB3.o.below).mono ?_;rintro _ w4 ⟨g1,g5,rfl,h1,h5,hu1,hu5,hb4⟩;have HB4:=aA (HB3.o.on hb4);have HK4:=aA (HKO.o w4 HB4.o.below g1 g5 hu1 hu5);clear hu1 hu5 hb4 h1 h5;go_wp2_with fail
   refine HK4.o.mono ?_;rintro _ w5 ⟨rfl,hb⟩;have HB5:=aA (HB4.o.on hb);clear hb;go_wp2;go_ret
   exact⟨by rw[HX.o];rfl,HB5.o.below⟩
namespace Gm
theorem and_bit (a n:Nat):(a &&& 2 ^ n≠0)↔a.testBit n=true:=by
 constructor
 ·intro h;cases hb:a.testBit n
  ·refine absurd (Nat.eq_of_testBit_eq fun t=>?_) h;rw[Nat.testBit_and,Nat.testBit_two_pow,Nat.zero_testBit];by_cases e:n=t
   ·subst e;rw[hb];rfl
   ·rw[decide_eq_false e,Bool.and_false]
  ·rfl
 ·intro h e
  have:=congrArg (fun z=>z.testBit n) e
  simp only[Nat.testBit_and,Nat.testBit_two_pow,Nat.zero_testBit,h]at this;simp at this
theorem ofG_lt {G:Gr} (l:List Int) {rest:Nat} (hr:rest<4294967296):ofG G l rest<4294967296:=by
 unfold ofG;split
 ·rename_i h
  have hok:=right_ok.1 h.1;exact U32.ofN (fst_u32 hok) hr fun z hz=>(has_in hok (List.all_eq_true.1 h.2 z hz)).1
 ·decide
end Gm
theorem RdI.dropA {w:World} {B c:Nat} {A:Option Addr} {l:List Int} (h:RdI w B A l) (hc:l.length<=c) (k:Nat):RdI w B (dropA A c k) (l.drop k):=by
 intro hn;rw[List.length_drop]at hn;obtain⟨g,o,rfl,hg,hcl⟩:=h (by omega);refine⟨g,o+k,?_,hg,fun j hj=>?_⟩
 ·have e:((⟨g,o,none⟩:Addr).add k)=⟨g,o+k,none⟩:=by unfold Addr.add;by_cases h0:k=0 <;> simp[h0]
  unfold Go.Proofs.YtcmhaemaophplaaGreat.dropA;rw[if_neg (by omega),Option.map_some,e]
 ·rw[List.length_drop]at hj;rw[show o+k+j=o+(k+j) by omega,hcl (k+j) (by omega),L.gd_lt (by omega:k+j<l.length),L.gd_lt (by rw[List.length_drop];exact hj),List.getElem_drop]
theorem zbW (w:World) (A:Option Addr) (c n k:Nat) (hk:k<=n):(Instr.sliceAt 38 (.slice A n c) (some (.int .i64 k)) none none).run Tryz.prog w=.ok (.slice (dropA A c k) (n-k) (c-k)) w:=by
 rw[run_sliceAt_slice _ _ _ _ _ _ (by kernel_rfl),run_slice_l _ _ _ _ _ (by kernel_rfl) .i64 (k:Int) (by omega) (by omega)];have hs:(sizeOf (Tryz.prog.elem 38)).run Tryz.prog w=.ok 1 w:=by kernel_rfl
 rw[hs];simp[Result.andThen,sliced,dropA]
namespace Lk
open Gm
noncomputable def tl1 (G:Gr) (r:List Int) (d:Nat):Nat×Bool:=(ofG G (r.drop (d+1)) (2 ^ G.ts.length) &&& (4294967295-2 ^ G.ts.length),decide (ofG G (r.drop (d+1)) (2 ^ G.ts.length) &&& 2 ^ G.ts.length≠0))
noncomputable def tlAt (G:Gr) (r:List Int) (d:Nat):Nat×Bool:=if r.getD d 0<0 then tl1 G r d else(0,false)
noncomputable def tlRow (G:Gr) (r:List Int):List (Nat×Bool):=(List.range r.length).map (tlAt G r)
noncomputable def tlAll (G:Gr):List (List (Nat×Bool)):=G.rs.map fun x=>tlRow G x.r
theorem tlRow_len (G:Gr) (r:List Int):(tlRow G r).length=r.length:=by simp[tlRow]
theorem tlAll_len (G:Gr):(tlAll G).length=G.rs.length:=by simp[tlAll]
theorem tlRow_at {G:Gr} {r:List Int} {d:Nat} (h:d<(tlRow G r).length):(tlRow G r)[d]=tlAt G r d:=by simp[tlRow]
theorem tlAll_at {G:Gr} {k:Nat} (h:k<(tlAll G).length) (h2:k<G.rs.length):(tlAll G)[k]=tlRow G (G.rs[k]).r:=by simp[tlAll]
theorem tlAt_lt (G:Gr) (r:List Int) (d:Nat):(tlAt G r d).1<4294967296:=by
 unfold tlAt;split
 ·exact Nat.lt_of_le_of_lt Nat.and_le_right (Nat.lt_of_le_of_lt (Nat.sub_le _ _) (by decide))
 ·decide
theorem zkd {a n t:Nat} (ha:a<4294967296) (hn:n<32):(a &&& (4294967295-2 ^ n)).testBit t=(a.testBit t&&decide (t≠n)):=by
 rw[Nat.testBit_and];rcases Nat.lt_or_ge t 32 with ht|ht
 ·have h2:2 ^ n<2 ^ 32:=Nat.pow_lt_pow_right (by decide) hn
  have:=Nat.testBit_two_pow_sub_succ (x:=2 ^ n) (n:=32) h2 t
  rw[show 2 ^ 32-(2 ^ n+1)=4294967295-2 ^ n by omega]at this;rw[this,decide_eq_true ht,Bool.true_and,Nat.testBit_two_pow];by_cases e:n=t
  ·subst e;simp
  ·have e2:¬t=n:=fun q=>e q.symm;simp[e,e2]
 ·have:a<2 ^ t:=Nat.lt_of_lt_of_le ha (by have:=Nat.pow_le_pow_right (n:=2) (by decide) ht;omega)
  rw[Nat.testBit_lt_two_pow this];simp
theorem ziy {G:Gr} (hok:Ok G) {x:Rl} (hx:x∈G.rs) (k rest:Nat):ofG G (x.r.drop k) rest=ofN (gn false G.rs G.ns.length) (fst G) rest (x.r.drop k):=by
 have ha:(x.r.drop k).all (has G)=true:=List.all_eq_true.2 fun z hz=>by
  have:=(rule_in (hok.rr x hx)).2.2.2 z (List.mem_of_mem_drop hz)
  exact has_iff.2 ⟨this.1,this.2.1⟩
 unfold ofG;rw[if_pos ⟨right_ok.2 hok,ha⟩]
theorem tl_of {G:Gr} (hok:Ok G) (ht:G.ts.length<=24) {x:Rl} (hx:x∈G.rs) {d:Nat} (hd:d<x.r.length) (h0:x.r[d]<0) (v:Nat):zkT (tlAt G x.r d) v=ofV G v (x.r.drop (d+1)):=by
 have hg:x.r.getD d 0=x.r[d]:=by rw[List.getD_eq_getElem?_getD,List.getElem?_eq_getElem hd];rfl
 have hin:∀z∈x.r.drop (d+1),z<G.ts.length:=fun z hz=>((rule_in (hok.rr x hx)).2.2.2 z (List.mem_of_mem_drop hz)).1;have hr:(2:Nat) ^ G.ts.length<4294967296:=by have:=Nat.pow_le_pow_right (n:=2) (by decide) ht;omega
 have hs:=ofG_lt (G:=G) (x.r.drop (d+1)) hr
 have hn:∀t:Nat,(ofG G (x.r.drop (d+1)) (2 ^ G.ts.length)).testBit t=true↔Bg G t (x.r.drop (d+1))\/Nu G (x.r.drop (d+1))/\G.ts.length=t:=fun t=>by
  rw[ziy hok hx,zau hok.lin,Nat.testBit_two_pow,decide_eq_true_eq]
 have hnu:(ofG G (x.r.drop (d+1)) (2 ^ G.ts.length) &&& 2 ^ G.ts.length≠0)↔Nu G (x.r.drop (d+1)):=by
  rw[and_bit,hn]
  constructor
  ·rintro(h|h)
   ·have:=zf9 hok hin h;omega
   ·exact h.1
  ·exact fun h=>.inr ⟨h,rfl⟩
 have hb:∀t:Nat,(ofG G (x.r.drop (d+1)) (2 ^ G.ts.length) &&& (4294967295-2 ^ G.ts.length)).testBit t=true↔Bg G t (x.r.drop (d+1)):=fun t=>by
  rw[zkd hs (by omega),Bool.and_eq_true,hn,decide_eq_true_eq]
  constructor
  ·rintro⟨h|h,h2⟩
   ·exact h
   ·exact absurd h.2.symm h2
  ·intro h
   have:=zf9 hok hin h
   exact⟨.inl h,by omega⟩
 unfold tlAt;rw[hg,if_pos h0];unfold zkT tl1 ofV;simp only;refine Nat.eq_of_testBit_eq fun t=>Bool.eq_iff_iff.2 ?_;rw[zau hok.lin];by_cases h:Nu G (x.r.drop (d+1))
 ·rw[if_pos (decide_eq_true (hnu.2 h)),Nat.testBit_or,Bool.or_eq_true,hb];exact⟨fun k=>k.imp id fun k=>⟨h,k⟩,fun k=>k.imp id (·.2)⟩
 ·rw[if_neg (fun k=>h (hnu.1 (of_decide_eq_true k))),hb];exact⟨.inl,fun k=>k.resolve_right fun k=>h k.1⟩
end Lk
theorem zgk {α:Type} (l:List α) (x y:α) (n:Nat) (h:0<n):(l++List.replicate n x).set l.length y=(l++[y])++List.replicate (n-1) x:=by
 obtain⟨m,rfl⟩:∃m,n=m+1:=⟨n-1,by omega⟩
 rw[List.set_append_right _ _ (Nat.le_refl _),Nat.sub_self,List.replicate_succ,List.set_cons_zero,List.append_assoc];rfl
theorem zjK {α:Type} (xs:List α) (z:α) (d:Nat) (h:d<xs.length):(xs.take d++List.replicate (xs.length-d) z).set d xs[d]=xs.take (d+1)++List.replicate (xs.length-(d+1)) z:=by
 have e:=zgk (xs.take d) z xs[d] (xs.length-d) (by omega);rw[List.length_take,Nat.min_eq_left (by omega)]at e;rw[e,List.take_succ_eq_append_getElem h,show xs.length-d-1=xs.length-(d+1) by omega]
def bU (w:World) (At:Option Addr) (G:Gm.Gr):Prop:=∃g rs,At=some ⟨g,0,none⟩/\rs.map (·.1)=Lk.tlAll G/\UBQ 143 (rwF (α:=Nat×Bool)) w g rs/\∀r∈rs,bR 146 2 tlF w 0 w.heap.size r
theorem bU.rd {w:World} {At:Option Addr} {G:Gm.Gr} (h:bU w At G):RdM 2 tlF w w.heap.size At (Lk.tlAll G):=by
 obtain⟨g,rs,rfl,h1,h2,h3⟩:=h
 have:=UBQ.rdM h2 h2.lt h3
 rw[h1]at this;exact this
theorem bU.keep {w w':World} {At:Option Addr} {G:Gm.Gr} (h:bU w At G) (hs:w.heap.size<=w'.heap.size) (hk:∀(g:Nat) (cur:Array Value) (T:TypeId),(T=143\/T=146)->w.heap[g]?=some (.cells cur T (0,0))->w'.heap[g]?=some (.cells cur T (0,0))):bU w' At G:=by
 obtain⟨g,rs,h0,h1,h2,h3⟩:=h;exact⟨g,rs,h0,h1,hk _ _ _ (.inl rfl) h2,fun r hr=>((h3 r hr).keep fun g cur _ _ hc=>hk g cur _ (.inr rfl) hc).more hs⟩
theorem bU.below {w w':World} {At:Option Addr} {G:Gm.Gr} (h:bU w At G) (hb:Below w.heap.size w w'):bU w' At G:=h.keep hb.size fun _ _ _ _ hc=>aC hb hc
theorem zfP (v:Value) (G:Gm.Gr) (B:Nat) (w:World) (hg:aT w B v G) (hf:Gm.Fit G) (hok:Gm.Ok G) (hB:B<=w.heap.size) (ht:G.ts.length<=24) :
  Calls Tryz.prog 48 #[v] w fun e w'=>∃A c,e=.returned (.slice A (Lk.tlAll G).length c)/\bU w' A G/\Below w.heap.size w w':=by
 have hr:(2:Nat) ^ G.ts.length<4294967296:=by have:=Nat.pow_le_pow_right (n:=2) (by decide) ht;omega
 have HOF:=aA (fun(y:World) (h:Below w.heap.size w y) (l:List Int) (A:Option Addr) (c:Nat) (hl:RdI y B A l) (hin:∀z∈l,Gm.In z) (hll:l.length<=9223372036854775807)=>zlg v G l (2 ^ G.ts.length) A c B y (hg.below h hB) hf (Nat.le_trans hB h.size) hl hin hll hr);have HRR:=aA hr;have HON:=aA (show S.bit (G.ts.length:Int)=2 ^ G.ts.length from S.bit_nat (by omega));generalize hP:(2:Nat) ^ G.ts.length=P at HOF HRR HON hr;have HP:=aA hP;clear hP;have HRIN:=aA (fun(k:Nat) (hk:k<G.rs.length)=>Gm.rule_in (hok.rr _ (List.getElem_mem hk)));have HRL:=aA hok.r40;have HFR:=aA (fun(k:Nat) (hk:k<G.rs.length)=>hf.r _ (List.getElem_mem hk));have HB:=aA hB;have HAL:=aA (Lk.tlAll_len G);obtain⟨AT,cT,AN,cN,AR,cR,rfl,⟨hlT,hmT⟩,⟨hlN,hmN⟩,⟨hlR,hmR⟩,hT,hN,hR⟩:=hg;have HR:=aA hR;obtain⟨wb,hwb⟩:∃y,y=w.alloc (.cells #[.slice AT G.ts.length cT,.slice AN G.ns.length cN,.slice AR G.rs.length cR,.int .i64 G.st] 26):=⟨_,rfl⟩
 have HBB:Hid (Below w.heap.size w wb):=aA (by rw[hwb];exact(Below.refl _ _).alloc (Nat.le_refl _) _);have hbx:wb.heap[w.heap.size]?=some (.cells #[.slice AT G.ts.length cT,.slice AN G.ns.length cN,.slice AR G.rs.length cR,.int .i64 G.st] 26 (0,0)):=by rw[hwb];exact heap_alloc_new w _
 have HBX:=aA hbx;have HBXL:=aA (Array.getElem?_eq_some_iff.1 hbx).1;have x0:wb.cell? ⟨w.heap.size,0,none⟩=some (.slice AT G.ts.length cT):=cell_of_row wb _ 0 _ _ _ hbx;have x2:wb.cell? ⟨w.heap.size,2,none⟩=some (.slice AR G.rs.length cR):=cell_of_row wb _ 2 _ _ _ hbx;have h40:(G.rs.length:Int)<=1000000:=by have:=HRL.o;omega
 clear hR hT hN hbx hf hok hB ht hr
 go_enter Tryz.func48,Tryz.ntmps48
 go_upto_region 1 with fail
 rw[<-hwb];clear hwb;go_wp2_with fail
 refine(zcc _ _).mono ?_;rintro _ w1 ⟨rfl,hw1⟩;subst hw1;rw[HON.o];go_upto_region 3 with(at_make;refine zeo (m:=1) (f:=rwF (α:=Nat×Bool)) rfl (.tmp 16) (.tmp 16) _ rfl Tryz.underlying105 _ 24 zko (by decide) (by decide) (by decide) (([],none,0):RW (Nat×Bool)) rfl G.rs.length rfl rfl (by omega) ?_;intro w2 hu2 hb2)
 obtain⟨gT,hgT⟩:∃g,g=w1.heap.size:=⟨_,rfl⟩
 rw[<-hgT]at hu2;rw[<-hgT];have HU2:Hid (UBQ 143 rwF w2 gT (([]:List (RW (Nat×Bool)))++List.replicate (G.rs.length-0) ([],none,0))):=aA hu2;have HB2:Hid (Below w.heap.size w w2):=aA (HBB.o.trans (hb2.mono HBB.o.size));have HX2:=aA (aC hb2 HBX.o);have HGT:Hid (w.heap.size<gT):=aA (by rw[hgT];exact HBXL.o);have HGTL:=aA hu2.lt;have HM0:Hid (([]:List (RW (Nat×Bool))).map (·.1)=(Lk.tlAll G).take 0):=aA (by simp);have HN2:=aA hb2.size;have x22:w2.cell? ⟨w.heap.size,2,none⟩=some (.slice AR G.rs.length cR):=cell_of_row w2 _ 2 _ _ _ HX2.o;clear hu2 hb2 hgT x0 x2;go_wp2;clear x22;go_loopw [21] (fun vi wr=>∃(i:Nat) (rs:List (RW (Nat×Bool))),i<=G.rs.length/\vi=.int .i64 i/\Hid (rs.map (·.1)=(Lk.tlAll G).take i)/\Hid (∀r∈rs,bR 146 2 tlF wr (gT+1) wr.heap.size r)/\Hid (UBQ 143 rwF wr gT (rs++List.replicate (G.rs.length-i) ([],none,0)))/\Hid (wr.heap[w.heap.size]?=some (.cells #[.slice AT G.ts.length cT,.slice AN G.ns.length cN,.slice AR G.rs.length cR,.int .i64 G.st] 26 (0,0)))/\Hid (Below w.heap.size w wr)) (fun vi _=>G.rs.length-(intOf vi).toNat)
 case atStart=>exact⟨0,[],Nat.zero_le _,rfl,HM0,aA (by simp),HU2,HX2,HB2⟩
 case round =>
  obtain⟨i,rs,hi,rfl,HMP,HOK,HU,HX,HW⟩:=hrel;rename World=>wr;by_cases hlt:i<G.rs.length
  ·obtain⟨g,o,rfl,hgB,hc⟩:=HR.o (by omega);obtain⟨k0,⟨A',c',k1,hlc,_,hri⟩,k2⟩:=hc i hlt;have hgb:g<w.heap.size:=Nat.lt_of_lt_of_le hgB HB.o;have k0:=(HW.o.cell (p:=⟨g,o+i*3,none⟩) hgb).trans k0;have k1:=(HW.o.cell (p:=⟨g,o+i*3+1,none⟩) hgb).trans k1;have k2:=(HW.o.cell (p:=⟨g,o+i*3+2,none⟩) hgb).trans k2;have HRI:=aA hri;have HLC:=aA hlc;have HRX:=aA (HRIN.o i hlt);have HFX:=aA (HFR.o i hlt)
   have HRO:Hid ((Lk.tlAll G).take (i+1)=(Lk.tlAll G).take i++[Lk.tlRow G (G.rs[i]).r]):=aA (by
    rw[List.take_succ_eq_append_getElem (by rw[HAL.o];exact hlt),Lk.tlAll_at _ hlt])
   have HRL2:=aA (Lk.tlRow_len G (G.rs[i]).r);have HRA:=aA (fun d (h:d<(Lk.tlRow G (G.rs[i]).r).length)=>Lk.tlRow_at (G:=G) (r:=(G.rs[i]).r) h)
   have hrl:rs.length=i:=by
    have:=congrArg List.length HMP.o
    rw[List.length_map,List.length_take,HAL.o]at this;omega
   obtain⟨wi,hwi⟩:∃y,y=wr.alloc (.cells #[.int .i64 (G.rs[i]).l,.slice A' (G.rs[i]).r.length c',.int .i64 (G.rs[i]).p] 48):=⟨_,rfl⟩
   have HBI:Hid (Below wr.heap.size wr wi):=aA (by rw[hwi];exact(Below.refl _ _).alloc (Nat.le_refl _) _);have hbi:wi.heap[wr.heap.size]?=some (.cells #[.int .i64 (G.rs[i]).l,.slice A' (G.rs[i]).r.length c',.int .i64 (G.rs[i]).p] 48 (0,0)):=by rw[hwi];exact heap_alloc_new wr _
   have HBIX:=aA hbi;have y1:wi.cell? ⟨wr.heap.size,1,none⟩=some (.slice A' (G.rs[i]).r.length c'):=cell_of_row wi _ 1 _ _ _ hbi;have hr6:(((G.rs[i]).r.length:Nat):Int)<=6:=by have:=HRX.o.1;omega
   have HR6:Hid ((G.rs[i]).r.length<=6):=aA HRX.o.1;have HIL:=aA hlt;have hiI:((i:Nat):Int)<((G.rs.length:Nat):Int):=by omega
   have hSZ:Hid (gT<wr.heap.size):=aA HU.o.lt;clear hc hri hlc hbi;generalize (G.rs[i]).l=lf at *;generalize (G.rs[i]).r=r at *;generalize (G.rs[i]).p=rp at *;go_upto_region 6 with fail
   rw[<-hwi];clear hwi k0 k1 k2;go_upto_region 7 with(at_make;refine zeo (m:=2) (f:=tlF) rfl (.tmp 30) (.tmp 30) _ rfl Tryz.underlying143 _ 8 zlL (by decide) (by decide) (by decide) ((0,false):Nat×Bool) rfl r.length rfl rfl (by omega) ?_;intro wm hum hbm;have HUM:=aA (And.intro hum hbm);clear hum hbm;have HUT:=aA ((HU.o.below HBI.o hSZ.o).below HUM.o.2 (Nat.lt_of_lt_of_le hSZ.o HBI.o.size));have cm:=HUT.o.cell zcR i 0 (by rw[List.length_append,List.length_replicate,hrl];omega) _ rfl;rw[Nat.mul_one,Nat.add_zero]at cm;have fm:=HUT.o.frozen i;have lm:=HUT.o.lt)
   have HBM:Hid (Below wi.heap.size wi wm):=aA HUM.o.2;have HUM:=aA HUM.o.1;obtain⟨gr,hgr⟩:∃g,g=wi.heap.size:=⟨_,rfl⟩
   rw[<-hgr]at HUM;rw[<-hgr];have HGG:Hid (gT≠gr):=aA (by have:=hSZ.o;have:=HBI.o.size;omega)
   have HUR:Hid (UBQ 146 tlF (wm.setCell ⟨gT,i,none⟩ (.slice (some ⟨gr,0,none⟩) r.length r.length)) gr ((Lk.tlRow G r).take 0++List.replicate ((Lk.tlRow G r).length-0) (0,false))):=aA (by
    rw[List.take_zero,List.nil_append,Nat.sub_zero,HRL2.o];exact HUM.o.far (fun e=>HGG.o e.symm) _)
   have HBW:Hid (Below w.heap.size w (wm.setCell ⟨gT,i,none⟩ (.slice (some ⟨gr,0,none⟩) r.length r.length))):=aA (((HW.o.trans (HBI.o.mono HW.o.size)).trans (HBM.o.mono (Nat.le_trans HW.o.size HBI.o.size))).setCell (Nat.le_of_lt HGT.o) _);have HUS:=aA (HUT.o.set1 i (Lk.tlRow G r,some ⟨gr,0,none⟩,r.length) (some ⟨gr,0,none⟩) r.length r.length rfl HRL2.o rfl);have HXS:Hid ((wm.setCell ⟨gT,i,none⟩ (.slice (some ⟨gr,0,none⟩) r.length r.length)).heap[w.heap.size]?=some (.cells #[.slice AT G.ts.length cT,.slice AN G.ns.length cN,.slice (some ⟨g,o,none⟩) G.rs.length cR,.int .i64 G.st] 26 (0,0))):=aA ((Below.heap_setCell _ _ _ _ (by have:=HGT.o;simp only;omega)).trans (aC HBM.o (aC HBI.o HX.o)));have HYS:Hid ((wm.setCell ⟨gT,i,none⟩ (.slice (some ⟨gr,0,none⟩) r.length r.length)).heap[wr.heap.size]?=some (.cells #[.int .i64 lf,.slice A' r.length c',.int .i64 rp] 48 (0,0))):=aA ((Below.heap_setCell _ _ _ _ (by have:=hSZ.o;simp only;omega)).trans (aC HBM.o HBIX.o))
   have HSL2:Hid ((rs++List.replicate (G.rs.length-i) ([],none,0)).set i (Lk.tlRow G r,some ⟨gr,0,none⟩,r.length)=(rs++[((Lk.tlRow G r,some ⟨gr,0,none⟩,r.length):RW (Nat×Bool))])++List.replicate (G.rs.length-(i+1)) ([],none,0)):=aA (by
    have:=zgk rs ([],none,0) ((Lk.tlRow G r,some ⟨gr,0,none⟩,r.length):RW (Nat×Bool)) (G.rs.length-i) (by have:=HIL.o;omega)
    rw[hrl]at this;rw[this,show G.rs.length-i-1=G.rs.length-(i+1) by omega])
   rw[HSL2.o]at HUS;have HRS:Hid (∀x∈rs,bR 146 2 tlF (wm.setCell ⟨gT,i,none⟩ (.slice (some ⟨gr,0,none⟩) r.length r.length)) (gT+1) wr.heap.size x):=aA (fun x hx=>(((HOK.o x hx).below HBI.o (Nat.le_refl _)).below HBM.o HBI.o.size).keep (fun g1 cur h1 h2 h3=>(Below.heap_setCell _ _ _ _ (by simp only;omega)).trans h3));have HWS:Hid (wr.heap.size<gr):=aA (by rw[hgr];exact(Array.getElem?_eq_some_iff.1 HBIX.o).1);generalize hwn:wm.setCell ⟨gT,i,none⟩ (.slice (some ⟨gr,0,none⟩) r.length r.length)=wn at *;clear cm fm lm hgr hwn HUM HUT HBM y1;have y1:wn.cell? ⟨wr.heap.size,1,none⟩=some (.slice A' r.length c'):=cell_of_row wn _ 1 _ _ _ HYS.o;go_wp2;clear y1;go_loopw [36] (fun vd wy=>∃d:Nat,d<=r.length/\vd=.int .i64 d/\Hid (UBQ 146 tlF wy gr ((Lk.tlRow G r).take d++List.replicate ((Lk.tlRow G r).length-d) (0,false)))/\Hid (wn.grownBy wy (some gr))) (fun vd _=>r.length-(intOf vd).toNat)
   case atStart=>exact⟨0,Nat.zero_le _,rfl,HUR,aA (World.grownBy.refl _ _)⟩
   case round =>
    obtain⟨d,hd,rfl,HUY,HG⟩:=hrel;rename World=>wy;have HXY:=aA ((HG.o.block w.heap.size (Array.getElem?_eq_some_iff.1 HXS.o).1 (fun e=>by injection e with e;have:=HWS.o;have:=HGT.o;have:=hSZ.o;omega)).trans HXS.o);have HYY:=aA ((HG.o.block wr.heap.size (Array.getElem?_eq_some_iff.1 HYS.o).1 (fun e=>by injection e with e;have:=HWS.o;omega)).trans HYS.o);have HBY:Hid (Below w.heap.size w wy):=aA (zaa HBW.o HG.o (by have:=HWS.o;have:=HW.o.size;omega) HBW.o.size);by_cases hdl:d<r.length
    ·obtain⟨gq,oq,rfl,hgq,hcq⟩:=HRI.o (by omega);have z0:=(HBY.o.cell (p:=⟨gq,oq+d,none⟩) (Nat.lt_of_lt_of_le hgq HB.o)).trans (hcq d hdl);rw[L.gd_lt hdl]at z0;have HTA:=aA (HRA.o d (by rw[HRL2.o];exact hdl));have HST:=aA (zjK (Lk.tlRow G r) (0,false) d (by rw[HRL2.o];exact hdl));have HDL:=aA hdl
     have HSL:Hid ((Lk.tlRow G r).take d++List.replicate ((Lk.tlRow G r).length-d) (0,false)=(Lk.tlRow G r).take d++(0,false)::List.replicate ((Lk.tlRow G r).length-(d+1)) (0,false)):=aA (by
      rw[show(Lk.tlRow G r).length-d=((Lk.tlRow G r).length-(d+1))+1 by rw[HRL2.o];omega,List.replicate_succ])
     have hdI:((d:Nat):Int)<((r.length:Nat):Int):=by omega
     have hadd:IntKind.i64.wrap (((d:Nat):Int)+1)=((d+1:Nat):Int):=by rw[IntWalk.i64_in _ (by omega)];omega
     by_cases hz:r[d]<0
     ·have HTL:Hid (Lk.tlAt G r d=(Gm.ofG G (r.drop (d+1)) (P) &&& (4294967295-P),decide (Gm.ofG G (r.drop (d+1)) (P) &&& P≠0))):=aA (by
       rw[<-HP.o];unfold Lk.tlAt;exact if_pos (by rw[List.getD_eq_getElem?_getD,List.getElem?_eq_getElem hdl,Option.getD_some];exact hz))
      obtain⟨j,hj⟩:∃j,d+1=j:=⟨_,rfl⟩
      rw[hj]at hadd HTL;have SL:=fun w=>zbW w (some ⟨gq,oq,none⟩) c' r.length (j) (by omega);have HDR:Hid (RdI wy B (dropA (some ⟨gq,oq,none⟩) c' (j)) (r.drop (j))):=aA ((HRI.o.below HBY.o HB.o).dropA HLC.o (j));have HDI:=aA (fun z (h:z∈r.drop (j))=>HFX.o.2.2 z (List.mem_of_mem_drop h));have HDN:Hid ((r.drop (j)).length=r.length-(j)):=aA List.length_drop;have HOFD:=aA (fun(y:World) (h:Below wy.heap.size wy y)=>HOF.o y (HBY.o.trans (h.mono HBY.o.size)) (r.drop (j)) (dropA (some ⟨gq,oq,none⟩) c' (j)) (c'-(j)) (HDR.o.below h (Nat.le_trans HB.o HBY.o.size)) HDI.o (by rw[HDN.o];have:=HR6.o;omega));rw[HDN.o]at HOFD;have HSB:=aA (Gm.ofG_lt (G:=G) (r.drop j) HRR.o);have HJ:=aA hj;clear hj;generalize Gm.ofG G (r.drop j) (P)=s at *;have hz1:decide (r[d]<0)=true:=decide_eq_true hz;generalize r[d]=z at *;have y1:wy.cell? ⟨wr.heap.size,1,none⟩=some (.slice (some ⟨gq,oq,none⟩) r.length c'):=cell_of_row wy _ 1 _ _ _ HYY.o;go_wp2_with fail
      refine(za6 _ _).mono ?_;rintro _ w5 ⟨rfl,hw5⟩;subst hw5;rw[hz1];go_upto_region 11 with fail
      clear y1 z0 hz hz1;have HLW:Hid (w.heap.size<w5.heap.size/\wr.heap.size<w5.heap.size):=aA ⟨(Array.getElem?_eq_some_iff.1 HXY.o).1,(Array.getElem?_eq_some_iff.1 HYY.o).1⟩;have q0:∀y:Calm.On w5.heap.size w5,y.1.cell? ⟨w.heap.size,0,none⟩=some (.slice AT G.ts.length cT):=fun y=>cell_of_row y.1 _ 0 _ _ _ (aC y.2 HXY.o);have q1:∀y:Calm.On w5.heap.size w5,y.1.cell? ⟨w.heap.size,1,none⟩=some (.slice AN G.ns.length cN):=fun y=>cell_of_row y.1 _ 1 _ _ _ (aC y.2 HXY.o);have q2:∀y:Calm.On w5.heap.size w5,y.1.cell? ⟨w.heap.size,2,none⟩=some (.slice (some ⟨g,o,none⟩) G.rs.length cR):=fun y=>cell_of_row y.1 _ 2 _ _ _ (aC y.2 HXY.o);have q3:∀y:Calm.On w5.heap.size w5,y.1.cell? ⟨w.heap.size,3,none⟩=some (.int .i64 G.st):=fun y=>cell_of_row y.1 _ 3 _ _ _ (aC y.2 HXY.o);have q4:∀y:Calm.On w5.heap.size w5,y.1.cell? ⟨wr.heap.size,1,none⟩=some (.slice (some ⟨gq,oq,none⟩) r.length c'):=fun y=>cell_of_row y.1 _ 1 _ _ _ (aC y.2 HYY.o);have HS0:Hid (∃z:Calm.On w5.heap.size w5,w5.drew=z.1):=aA ⟨⟨w5.drew,aB (Below.refl _ _) 1⟩,rfl⟩;refine CalmN.region_tree (fun x=>∃z:Calm.On w5.heap.size w5,x=z.1) (.one [0,1,2,3,4,5,6] 7 (.fin [8])) (by kernel_rfl) (by kernel_rfl) (fun _ _ d _ _ h=>by cases d <;> exact h) HS0.o ?_;simp only[CalmN.wpT,CalmN.wpSt,CalmN.pickOps,List.getElem?_toArray,List.getElem?_cons_zero,List.getElem?_cons_succ];repeat (go_big_quiet_step (fail))
      refine wpQuiet_nil ?_;intro KK hKK;rw[if_pos (by rfl)];go_wp2_with fail
      refine(HOFD.o w5.drew (aB (Below.refl _ _) 1)).mono ?_;rintro _ wz ⟨rfl,hbz⟩;have hbz:Below w5.heap.size w5 wz:=(aB (Below.refl _ w5) 1).trans hbz;have HSZ:Hid (∃z:Calm.On w5.heap.size w5,wz=z.1):=aA ⟨⟨wz,hbz⟩,rfl⟩;have HUYZ:=aA (HUY.o.below hbz HUY.o.lt);have HGZ:Hid (wn.grownBy wz (some gr)):=aA (zac HG.o (aM hbz _));have HGTZ:Hid (wz.heap[gT]?=wn.heap[gT]?):=aA (HGZ.o.block gT HUS.o.lt (fun e=>by injection e with e;exact HGG.o e));clear hbz q0 q1 q2 q3 q4 HS0 SL hadd;go_wp2_with fail
      refine hKK _ _ HSZ.o _ (fun _ h=>h) HSZ.o ?_;clear hKK;repeat (go_big_quiet_step (fail))
      refine wpQuiet_nil ?_
      have cT2:wz.cell? ⟨gT,i,none⟩=some (.slice (some ⟨gr,0,none⟩) r.length r.length):=by
       have:=UBQ.cell (m:=1) (f:=rwF) (show UBQ 143 rwF wz gT (rs++[((Lk.tlRow G r,some ⟨gr,0,none⟩,r.length):RW (Nat×Bool))]++List.replicate (G.rs.length-(i+1)) ([],none,0)) from HGTZ.o.trans HUS.o) zcR i 0 (by rw[List.length_append,List.length_append,List.length_singleton,hrl];omega) (.slice (some ⟨gr,0,none⟩) r.length r.length) (by
        simp only[List.append_assoc,List.singleton_append];rw[List.getElem_append_right (by omega)];simp only[hrl,Nat.sub_self,List.getElem_cons_zero];unfold rwF;rw[HRL2.o];rfl)
       rw[Nat.mul_one,Nat.add_zero]at this;exact this
      have hul:d<((Lk.tlRow G r).take d++List.replicate ((Lk.tlRow G r).length-d) (0,false)).length:=by
       rw[List.length_append,List.length_take,List.length_replicate,HRL2.o];have:=HDL.o;omega
      have he0:((Lk.tlRow G r).take d++List.replicate ((Lk.tlRow G r).length-d) ((0,false):Nat×Bool))[d]=(0,false):=by
       rw[List.getElem_append_right (by rw[List.length_take];omega),List.getElem_replicate]
      have c0:wz.cell? ⟨gr,d*2,none⟩=some (.int .u32 0):=HUYZ.o.cell zcO d 0 hul _ (by rw[he0];rfl);have c1:wz.cell? ⟨gr,d*2+1,none⟩=some (.bool false):=HUYZ.o.cell zcO d 1 hul _ (by rw[he0];rfl);have f0:=HUYZ.o.frozen (d*2);have f1:=HUYZ.o.frozen (d*2+1);have lz:=HUYZ.o.lt;have han:=u32_andNot_nat s (P) HSB.o HRR.o;have hand:=u32_and_nat s (P) HSB.o HRR.o
      have hne:(((s &&& P:Nat):Int) != 0)=decide (s &&& P≠0):=by
       rw[Bool.eq_iff_iff,bne_iff_ne,decide_eq_true_eq];omega
      have HSET:=aA (HUYZ.o.set2 zcO d (Lk.tlAt G r d) (.int .u32 ((s &&& (4294967295-P):Nat):Int)) (.bool (decide (s &&& P≠0))) (by rw[HTL.o];rfl));rw[<-HTA.o,HST.o]at HSET;have HGS:Hid (wn.grownBy ((wz.setCell ⟨gr,d*2,none⟩ (.int .u32 ((s &&& (4294967295-P):Nat):Int))).setCell ⟨gr,d*2+1,none⟩ (.bool (decide (s &&& P≠0)))) (some gr)):=aA (aF (aF HGZ.o _ _) _ _);clear hul he0 HTL HTA;generalize s &&& (4294967295-P)=bg at *;generalize s &&& P=an at *;generalize decide (an≠0)=nb at *;go_wp2;go_roundw
      case rel=>exact⟨d+1,HDL.o,by go_num,HSET,HGS⟩
      case measure=>simp[intOf];omega
     ·have HTL:Hid (Lk.tlAt G r d=(0,false)):=aA (by
       unfold Lk.tlAt;exact if_neg (by rw[List.getD_eq_getElem?_getD,List.getElem?_eq_getElem hdl,Option.getD_some];exact hz))
      have hz1:decide (r[d]<0)=false:=decide_eq_false hz
      have HUN:Hid (UBQ 146 tlF wy gr ((Lk.tlRow G r).take (d+1)++List.replicate ((Lk.tlRow G r).length-(d+1)) (0,false))):=aA (by
       have:=HUY.o
       rw[HSL.o]at this;rw[List.take_succ_eq_append_getElem (by rw[HRL2.o];exact hdl),HTA.o,HTL.o,List.append_assoc];exact this)
      generalize r[d]=z at *;go_wp2_with fail
      refine(za6 _ _).mono ?_;rintro _ w5 ⟨rfl,hw5⟩;subst hw5;rw[hz1];go_wp2;go_roundw
      case rel=>exact⟨d+1,HDL.o,by go_num,HUN,HG⟩
      case measure=>simp[intOf];omega
    ·obtain rfl:d=r.length:=by omega
     have HUZ:Hid (UBQ 146 tlF wy gr (Lk.tlRow G r)):=aA (by
      have:=HUY.o
      rw[<-HRL2.o,List.take_length,Nat.sub_self,List.replicate_zero,List.append_nil]at this;exact this)
     have HUT2:=aA ((show w.heap.size<wn.heap.size from(Array.getElem?_eq_some_iff.1 HXS.o).1));have HUS2:Hid (UBQ 143 rwF wy gT (rs++[((Lk.tlRow G r,some ⟨gr,0,none⟩,r.length):RW (Nat×Bool))]++List.replicate (G.rs.length-(i+1)) ([],none,0))):=aA ((HG.o.block gT HUS.o.lt (fun e=>by injection e with e;exact HGG.o e)).trans HUS.o)
     have HRS2:Hid (∀x∈rs++[((Lk.tlRow G r,some ⟨gr,0,none⟩,r.length):RW (Nat×Bool))],bR 146 2 tlF wy (gT+1) wy.heap.size x):=aA (fun x hx=>by
      rcases List.mem_append.1 hx with hx|hx
      ·exact(((HRS.o x hx).keep fun g1 cur h1 h2 h3=>(HG.o.block g1 (Array.getElem?_eq_some_iff.1 h3).1 (fun e=>by injection e with e;have:=HWS.o;omega)).trans h3)).more (by have:=HWS.o;have:=HUZ.o.lt;omega)
      ·rw[List.mem_singleton.1 hx];exact⟨by rw[HRL2.o];exact Nat.le_refl _,by have:=HR6.o;simp only;omega,HUZ.o.rowG zcO (by have:=HGG.o;have:=hSZ.o;have:=HWS.o;omega) HUZ.o.lt⟩)
     have HMP2:Hid ((rs++[((Lk.tlRow G r,some ⟨gr,0,none⟩,r.length):RW (Nat×Bool))]).map (·.1)=(Lk.tlAll G).take (i+1)):=aA (by rw[List.map_append,HMP.o,HRO.o];rfl);go_wp2;go_roundw
     case rel=>exact⟨i+1,rs++[((Lk.tlRow G r,some ⟨gr,0,none⟩,r.length):RW (Nat×Bool))],HIL.o,by go_num,HMP2,HRS2,HUS2,HXY,HBY⟩
     case measure=>simp[intOf];omega
  ·obtain rfl:i=G.rs.length:=by omega
   rw[Nat.sub_self,List.replicate_zero,List.append_nil]at HU;have HE:Hid ((Lk.tlAll G).take G.rs.length=Lk.tlAll G):=aA (by rw[<-HAL.o,List.take_length]);go_wp2;go_ret
   refine⟨some ⟨gT,0,none⟩,G.rs.length,by rw[HAL.o];rfl,?_,HW.o⟩;exact⟨gT,rs,rfl,HMP.o.trans HE.o,HU.o,fun r hr=>(HOK.o r hr).less (Nat.zero_le _)⟩
theorem zls {y:World} {T:Nat} {tl:List ((Int×Int)×Value)} (h:Mw.MapIs wkE y T tl) (x:Int×Int) (hx:Gm.In x.1/\Gm.In x.2) {j:Int} (hj:Mw.asc tl x=some (.int .i64 j)) :
  (Instr.lookup 107 (.map (some T)) (.agg #[.int .i64 x.1,.int .i64 x.2]) false).run Tryz.prog y=.ok (.int .i64 j) y:=by
 have:=Mw.run_look (E:=wkE) h wkK (t:=107) Tryz.underlying107 (z:=.int .i64 0) (by kernel_rfl) (x:=x) hx false
 rw[hj]at this;exact this
structure WkG (G:Gm.Gr) (K:List (List Au.It)) (E:List (List (Int×Int))) (tl:List ((Int×Int)×Value)):Prop where
 hi:Au.Inv G K E
 hE:E.length=K.length
 hok:Gm.Ok G
 hp:∀x∈G.rs,Gm.Al true G.rs x.r
 ht:G.ts.length<=24
 hn:G.ns.length<=40
 hK:K.length<=300
 tw:∀i s j,Au.Ed E i s j->Mw.asc tl ((i:Int),s)=some (.int .i64 (j:Int))
abbrev WkA (G:Gm.Gr) (w:World) (base R gc T M D:Nat) (AT AN AR At:Option Addr) (cT cN cR ct:Nat) (tl:List ((Int×Int)×Value)) (MM DD:Lk.MP) (st:List (Int×Int)):Prop :=
 WkSt w base R gc T M D (.slice AT G.ts.length cT) (.slice AN G.ns.length cN) (.slice AR G.rs.length cR) (.int .i64 G.st) (.slice At (Lk.tlAll G).length ct) tl MM DD st
theorem bU.keepG {w w':World} {base R gc T M D:Nat} {g0 g1 g2 g3 tv:Value} {tl:List ((Int×Int)×Value)} {MM DD:Lk.MP} {st:List (Int×Int)} {At:Option Addr} {G:Gm.Gr} (h:bU w At G) (k:KeepG gc M D w w') (hs:WkSt w base R gc T M D g0 g1 g2 g3 tv tl MM DD st):bU w' At G:=by
 obtain⟨v,h1,h2⟩:=hs.v;refine h.keep k.size fun g cur ty hty hc=>?_;have hne:ty≠147/\ty≠112:=by rcases hty with rfl|rfl <;> exact⟨by decide,by decide⟩
 refine k.row hc (fun e=>?_) (fun e=>?_) (fun e=>?_) (fun e=>?_)
 ·rw[e,h1]at hc;injection hc with hc;injection hc with _ hc _;exact hne.1 hc.symm
 ·rw[e]at hc;exact hs.m.is.not_cells hc
 ·rw[e]at hc;exact hs.d.is.not_cells hc
 ·rw[zbs (show w.cell? ⟨gc,0,none⟩=some v from cell_of_row w gc 0 _ _ _ h1)]at e;rcases zaf h2 hc (fun cur e=>by injection e with _ e _;exact hne.2 e) with q|q
  ·rw[q]at e;cases e
  ·exact q e
def zm8 (G:Gm.Gr) (K:List (List Au.It)) (E:List (List (Int×Int))) (base R gc T M D:Nat) (g0 g1 g2 g3 tv:Value) (tl:List ((Int×Int)×Value)) (MM DD:Lk.MP) (st:List (Int×Int)) (w w':World):Prop :=
 ∃MM' DD' st',WkSt w' base R gc T M D g0 g1 g2 g3 tv tl MM' DD' st'/\Lk.WI G K E MM' DD' st'/\Lk.On MM DD st MM' DD' st'/\Below base w w'/\KeepG gc M D w w'
theorem zhi (G:Gm.Gr) (K:List (List Au.It)) (E:List (List (Int×Int))) (w:World) (base B R gc T M D:Nat) (AT AN AR At:Option Addr) (cT cN cR ct:Nat) (tl:List ((Int×Int)×Value)) (MM DD:Lk.MP) (st:List (Int×Int)) (q:Nat) (s:Int)
  (hG:WkG G K E tl) (hg:aT w B (.agg #[.slice AT G.ts.length cT,.slice AN G.ns.length cN,.slice AR G.rs.length cR,.int .i64 G.st]) G) (hB:B<=base) (htl:bU w At G)
  (h:WkSt w base R gc T M D (.slice AT G.ts.length cT) (.slice AN G.ns.length cN) (.slice AR G.rs.length cR) (.int .i64 G.st) (.slice At (Lk.tlAll G).length ct) tl MM DD st) (hw:Lk.WP G K E q s (Lk.gN MM ((q:Int),s)) MM DD st) (hs:-1-s<G.ns.length) (hc:st.length<=Lk.cntM MM) :
  Calls Tryz.prog 79 #[.agg (wrC (.slice AT G.ts.length cT) (.slice AN G.ns.length cN) (.slice AR G.rs.length cR) (.int .i64 G.st) (.slice At (Lk.tlAll G).length ct) T M D),itV ((q:Int),s),.func (Fn.func 77) #[] #[.pointer (some ⟨R,0,none⟩),.pointer (some ⟨gc,0,none⟩)]] w fun e w'=>e=.returned (.tuple #[]) /\
   zm8 G K E base R gc T M D (.slice AT G.ts.length cT) (.slice AN G.ns.length cN) (.slice AR G.rs.length cR) (.int .i64 G.st) (.slice At (Lk.tlAll G).length ct) tl MM DD st w w':=by
 have hr40:=hG.hok.r40;have hsI:Gm.In s:=by have:=hw.s1;have:=hG.hn;unfold Gm.In;omega
 have hqI:Gm.In (q:Int):=by have:=hw.q1;have:=hG.hK;unfold Gm.In;omega
 have HN:=aA (fun w=>ze6 s hsI.1 hsI.2 w);obtain⟨_,_,_,_,_,_,e0,⟨hlT,hmT⟩,⟨hlN,hmN⟩,⟨hlR,hmR⟩,_,_,hR⟩:=hg;injection e0 with e0;simp only[Array.mk.injEq,List.cons.injEq,Value.slice.injEq,true_and,and_true]at e0;obtain⟨⟨e1,e2⟩,⟨e3,e4⟩,e5,e6⟩:=e0;subst e1 e2 e3 e4 e5 e6;have HR:=aA hR;have HB:=aA hB;have HAL:=aA (Lk.tlAll_len G);obtain⟨wb,hwb⟩:∃y,y=(w.alloc (.cells (wrC (.slice AT G.ts.length cT) (.slice AN G.ns.length cN) (.slice AR G.rs.length cR) (.int .i64 G.st) (.slice At (Lk.tlAll G).length ct) T M D) 110)).alloc (.cells #[.int .i64 (q:Int),.int .i64 s] 112):=⟨_,rfl⟩
 have HT2:Hid (bP 110 112 w (wrC (.slice AT G.ts.length cT) (.slice AN G.ns.length cN) (.slice AR G.rs.length cR) (.int .i64 G.st) (.slice At (Lk.tlAll G).length ct) T M D) #[.int .i64 (q:Int),.int .i64 s] wb):=aA (by rw[hwb];exact bP.start _ _ _ _ _);have HBB:=aA HT2.o.below;have HZ:=aA HT2.o.size;have HH:=aA (h.below HBB.o);have HBL:=aA h.base_le;have HTL:=aA (htl.below HBB.o);have HK0:Hid (KeepG gc M D w wb):=aA (.below HBB.o h.gcl);have HLM:=aA (And.intro h.m.lt (And.intro h.d.lt (And.intro h.gcl h.t.lt)))
 have HRW:Hid (wb.heap[w.heap.size]?=some (.cells (wrC (.slice AT G.ts.length cT) (.slice AN G.ns.length cN) (.slice AR G.rs.length cR) (.int .i64 G.st) (.slice At (Lk.tlAll G).length ct) T M D) 110 (0,0))):=aA (by
  rw[hwb,Below.heap_alloc _ _ _ (by simp)];exact heap_alloc_new w _)
 have HRX:Hid (wb.heap[w.heap.size+1]?=some (.cells #[.int .i64 (q:Int),.int .i64 s] 112 (0,0))):=aA (by
  have:=heap_alloc_new (w.alloc (.cells (wrC (.slice AT G.ts.length cT) (.slice AN G.ns.length cN) (.slice AR G.rs.length cR) (.int .i64 G.st) (.slice At (Lk.tlAll G).length ct) T M D) 110)) (.cells #[.int .i64 (q:Int),.int .i64 s] 112)
  rw[hwb]
  simpa using this)
 have HOL:Hid (∀k,bS wb gc=some k->k<w.heap.size):=aA (fun k hk=>h.own k (by
  unfold bS at hk ⊢
  rwa [HBB.o.cell (p:=⟨gc,0,none⟩) h.gcl]at hk))
 have lk0:=zkh HH.o.m.is ((q:Int),s) ⟨hqI,hsI⟩;have x6:wb.cell? ⟨w.heap.size,6,none⟩=some (.map (some M)):=cell_of_row wb _ 6 _ _ _ HRW.o;have x2:wb.cell? ⟨w.heap.size,2,none⟩=some (.slice AR G.rs.length cR):=cell_of_row wb _ 2 _ _ _ HRW.o;have y0:wb.cell? ⟨w.heap.size+1,0,none⟩=some (.int .i64 (q:Int)):=cell_of_row wb _ 0 _ _ _ HRX.o;have y1:wb.cell? ⟨w.heap.size+1,1,none⟩=some (.int .i64 s):=cell_of_row wb _ 1 _ _ _ HRX.o;have HGG:=aA hG;have HWP:=aA hw;have HC:=aA hc;have HSI:=aA hsI;have HQI:=aA hqI;have hrI:(G.rs.length:Int)<=40:=by omega
 obtain⟨v,hv⟩:∃v,v=Lk.gN MM ((q:Int),s):=⟨_,rfl⟩
 rw[<-hv]at HWP lk0;clear hG hB htl h hw hc hR hsI hqI hv hs
 go_enter Tryz.func79,Tryz.ntmps79
 go_upto_region 1 with fail
 rw[<-hwb];clear hwb;go_wp2;have HB0:Hid (Below base w wb):=aA (HBB.o.mono HBL.o);have HP0:Hid (Lk.PdK G E MM DD q s v 0):=aA (Lk.PdK.zero _ _ _ _ _);clear lk0 x6 x2 y0 y1;go_loopw [20] (fun vi wr=>∃(k:Nat) (M1 D1:Lk.MP) (s1:List (Int×Int)),k<=G.rs.length/\vi=.int .i64 k/\Hid (WkA G wr base R gc T M D AT AN AR At cT cN cR ct tl M1 D1 s1)/\Hid (Lk.WP G K E q s v M1 D1 s1)/\Hid (Lk.PdK G E M1 D1 q s v k)/\Hid (Lk.On MM DD st M1 D1 s1)/\Hid (Below base w wr)/\Hid (KeepG gc M D wb wr)) (fun vi _=>G.rs.length-(intOf vi).toNat)
 case atStart=>exact⟨0,MM,DD,st,Nat.zero_le _,rfl,HH,HWP,HP0,aA (Lk.On.refl _ _ _),HB0,aA (KeepG.refl _)⟩
 case round =>
  obtain⟨k,M1,D1,s1,hk,rfl,HA,HP,HPK,HO,HW,HKW⟩:=hrel;rename World=>wr;by_cases hlt:k<G.rs.length
  ·have HAR:=aA (HR.o (by omega));obtain⟨g,o,rfl,hgB,hc⟩:=HAR.o;obtain⟨k0,⟨A',c',k1,hlc,_,hri⟩,k2⟩:=hc k hlt;have hgb:g<base:=Nat.lt_of_lt_of_le hgB HB.o;have k0:=(HW.o.cell (p:=⟨g,o+k*3,none⟩) hgb).trans k0;have k1:=(HW.o.cell (p:=⟨g,o+k*3+1,none⟩) hgb).trans k1;have k2:=(HW.o.cell (p:=⟨g,o+k*3+2,none⟩) hgb).trans k2;have HRI:=aA hri;have HWR:=aA (HKW.o.row HRW.o (by have:=HLM.o;omega) (by have:=HLM.o;omega) (by have:=HLM.o;omega) (fun e=>by have:=HOL.o _ e;omega));have HXR:=aA (HKW.o.row HRX.o (by have:=HLM.o;omega) (by have:=HLM.o;omega) (by have:=HLM.o;omega) (fun e=>by have:=HOL.o _ e;omega));obtain⟨wi,hwi⟩:∃y,y=wr.alloc (.cells #[.int .i64 (G.rs[k]).l,.slice A' (G.rs[k]).r.length c',.int .i64 (G.rs[k]).p] 48):=⟨_,rfl⟩
   have HBI:Hid (Below wr.heap.size wr wi):=aA (by rw[hwi];exact(Below.refl _ _).alloc (Nat.le_refl _) _);have hbi:wi.heap[wr.heap.size]?=some (.cells #[.int .i64 (G.rs[k]).l,.slice A' (G.rs[k]).r.length c',.int .i64 (G.rs[k]).p] 48 (0,0)):=by rw[hwi];exact heap_alloc_new wr _
   have HBIX:=aA hbi;have z0:wi.cell? ⟨wr.heap.size,0,none⟩=some (.int .i64 (G.rs[k]).l):=cell_of_row wi _ 0 _ _ _ hbi;have z1:wi.cell? ⟨w.heap.size+1,1,none⟩=some (.int .i64 s):=cell_of_row wi _ 1 _ _ _ (aC HBI.o HXR.o);have HLT:=aA hlt;by_cases hl:(G.rs[k]).l = -1-s
   ·have hq:((G.rs[k]).l != -1-s)=false:=by rw[hl];simp
    have HRM:=aA (List.getElem_mem (l:=G.rs) hlt);have HAT:=aA (fun(a d:Nat) (hd:d<(G.rs[k]).r.length) (hla:∀t:Nat,v.testBit t=true->Au.La G E a ((k:Int),(d:Int)) t)=>Lk.at_next HGG.o.hi HGG.o.hE HGG.o.hok HP.o.v0 hlt hd hla);have HAM:=aA (fun(a d:Nat) (hd:d<(G.rs[k]).r.length) hs (hla:∀t:Nat,v.testBit t=true->Au.La G E a ((k:Int),(d:Int)) t)=>Lk.at_more HGG.o.hok HGG.o.ht HGG.o.hp HP.o.v0 HP.o.vl hlt hd hs hla);have HPD:=aA (fun(M2:Lk.MP) (d:Nat) (hd:d<(G.rs[k]).r.length) (h:Lk.PdD G E M2 q v k d) (hs:(G.rs[k]).r[d]<0->Lk.Sub (Lk.ofV G v ((G.rs[k]).r.drop (d+1))) (Lk.gN M2 ((Lk.fol E q ((G.rs[k]).r.take d):Nat),(G.rs[k]).r[d])))=>(show Lk.PdD G E M2 q v k (d+1) from h.step fun _ _ h0=>hs h0));have HPE:=aA (fun(M2:Lk.MP) (a:Nat) (h1:Lk.PdK G E M2 D1 q s v k) (h2:Lk.PdD G E M2 q v k (G.rs[k]).r.length) (h3:Lk.fol E q (G.rs[k]).r=a)=>(show Lk.PdK G E M2 (Lk.orN D1 ((a:Int),(k:Int)) v) q s v (k+1) from(h1.mono (Lk.MLe.refl _) (Lk.MLe.or _ _ _)).step fun _ _=>⟨h2,fun hk2=>by have e:Lk.fol E q (G.rs[k]'hk2).r=a:=h3;rw[e];exact Lk.or_has _ _ _⟩));have HWT:=aA (fun(M2:Lk.MP) (s2:List (Int×Int)) (a:Nat) (h:Lk.WP G K E q s v M2 D1 s2) (hla:∀t:Nat,v.testBit t=true->Au.La G E a ((k:Int),((G.rs[k]).r.length:Int)) t)=>h.put hlt hla);have HLA0:=aA (HP.o.at0 hlt hl);have HTV:=aA (fun(d:Nat) (hd:d<(G.rs[k]).r.length) (h0:(G.rs[k]).r[d]<0)=>Lk.tl_of HGG.o.hok HGG.o.ht HRM.o hd h0 v);have HRK:=aA (Gm.rule_in (HGG.o.hok.rr _ HRM.o));have HTR:Hid ((Lk.tlAll G)[k]?=some (Lk.tlRow G (G.rs[k]).r)):=aA ((List.getElem?_eq_getElem (by rw[HAL.o];exact hlt)).trans (congrArg some (Lk.tlAll_at _ hlt)));have HTN:=aA (Lk.tlRow_len G (G.rs[k]).r);have HTA:=aA (fun d (h:d<(Lk.tlRow G (G.rs[k]).r).length)=>Lk.tlRow_at (G:=G) (r:=(G.rs[k]).r) h)
    have HLN:=aA (fun(M2 D2:Lk.MP) (s2:List (Int×Int)) (h1:Lk.WP G K E q s v M2 D2 s2) (h2:Lk.On MM DD st M2 D2 s2)=>(show s2.length<=900000 from by
     have a1:=h2.l;have a2:=HC.o;have a3:=h1.b.cnt;have a4:=HGG.o.hK;have a5:=HGG.o.hn;have a6:=Nat.mul_le_mul a4 a5
     omega))
    have HAI:=aA (HA.o.below HBI.o);have HWI:Hid (Below base w wi):=aA (HW.o.trans (HBI.o.mono (Nat.le_trans HBL.o HW.o.size)));have HKI:Hid (KeepG gc M D wb wi):=aA (HKW.o.trans (.below HBI.o HA.o.gcl));have HRG:Hid (gc<wr.heap.size/\M<wr.heap.size/\D<wr.heap.size):=aA ⟨HA.o.gcl,HA.o.m.lt,HA.o.d.lt⟩
    have HOR:Hid (∀j,bS wi gc=some j->j<wr.heap.size):=aA (fun j hj=>HA.o.own j (by
     unfold bS at hj ⊢
     rwa [HBI.o.cell (p:=⟨gc,0,none⟩) HA.o.gcl]at hj))
    have HLC:=aA hlc;clear hc hri hlc hbi hl;generalize (G.rs[k]).l=lf at *;generalize (G.rs[k]).r=r at *;generalize (G.rs[k]).p=rp at *;go_upto_region 5 with fail
    rw[<-hwi];clear hwi k0 k1 k2;go_quiet ((go_at_call 78;exact Calls.quiet_of_same (HN.o _)))
    obtain⟨wq,hwq⟩:∃y,y=wi.drewN nq:=⟨_,rfl⟩
    rw[<-hwq];have HBQ:Hid (Below wi.heap.size wi wq):=aA (by rw[hwq];exact aB (Below.refl _ _) _);clear hwq z0 z1;have HAQ:=aA (HAI.o.below HBQ.o);have HWQ:Hid (Below base w wq):=aA (HWI.o.trans (HBQ.o.mono (Nat.le_trans HBL.o HWI.o.size)));have HKQ:Hid (KeepG gc M D wb wq):=aA (HKI.o.trans (.below HBQ.o HAI.o.gcl));have HRQ:=aA (aC HBQ.o HBIX.o)
    have HOQ:Hid (∀j,bS wq gc=some j->j<wr.heap.size):=aA (fun j hj=>HOR.o j (by
     unfold bS at hj ⊢
     rwa [HBQ.o.cell (p:=⟨gc,0,none⟩) HAI.o.gcl]at hj))
    have z1:wq.cell? ⟨wr.heap.size,1,none⟩=some (.slice A' r.length c'):=cell_of_row wq _ 1 _ _ _ HRQ.o;have HXQ:=aA (HKQ.o.row HRX.o (by have:=HLM.o;omega) (by have:=HLM.o;omega) (by have:=HLM.o;omega) (fun e=>by have:=HOL.o _ e;omega));have y0:wq.cell? ⟨w.heap.size+1,0,none⟩=some (.int .i64 (q:Int)):=cell_of_row wq _ 0 _ _ _ HXQ.o;have HD0:Hid (Lk.PdD G E M1 q v k 0):=aA (Lk.PdD.zero _ _ _ _);have hr6:((r.length:Nat):Int)<=6:=by have:=HRK.o.1;omega
    go_wp2;clear z1 y0;go_loopw [36,9] (fun vd va wy=>∃(d a:Nat) (M2:Lk.MP) (s2:List (Int×Int)),d<=r.length/\vd=.int .i64 d/\va=.int .i64 a/\Hid (WkA G wy base R gc T M D AT AN (some ⟨g,o,none⟩) At cT cN cR ct tl M2 D1 s2)/\Hid (Lk.WP G K E q s v M2 D1 s2)/\Hid (Lk.PdK G E M2 D1 q s v k)/\Hid (Lk.PdD G E M2 q v k d)/\Hid (∀t:Nat,v.testBit t=true->Au.La G E a ((k:Int),(d:Int)) t)/\Hid (Lk.fol E q (r.take d)=a)/\Hid (Lk.On MM DD st M2 D1 s2)/\Hid (Below base w wy)/\Hid (KeepG gc M D wq wy)) (fun vd _ _=>r.length-(intOf vd).toNat)
    case atStart=>exact⟨0,q,M1,s1,Nat.zero_le _,rfl,rfl,HAQ,HP,HPK,HD0,HLA0,aA rfl,HO,HWQ,aA (KeepG.refl _)⟩
    case round =>
     obtain⟨d,a,M2,s2,hd,rfl,rfl,HA2,HP2,HPK2,HPD2,HLA2,HF2,HO2,HW2,HK2⟩:=hrel;rename World=>wy;have HWY:=aA ((KeepG.trans HKQ.o HK2.o).row HRW.o (by have:=HLM.o;omega) (by have:=HLM.o;omega) (by have:=HLM.o;omega) (fun e=>by have:=HOL.o _ e;omega));by_cases hdl:d<r.length
     ·have hat:=HAT.o a d hdl HLA2.o;obtain⟨haK,hnx,j,hed,htof,hlaj⟩:=hat;have HTO:=aA (HGG.o.tw _ _ _ hed);have HLJ:=aA hlaj;have HFJ:Hid (Lk.fol E q (r.take (d+1))=j):=aA (by rw[List.take_succ_eq_append_getElem hdl,Lk.fol_snoc,HF2.o,htof]);have HAK:=aA haK;have HDL:=aA hdl;have haI:Gm.In (a:Int):=by have:=HGG.o.hK;unfold Gm.In;omega
      have hzr:=HRK.o.2.2.2 _ (List.getElem_mem hdl);have hzI:Gm.In r[d]:=by have:=HGG.o.hn;have:=HGG.o.ht;unfold Gm.In;omega
      obtain⟨gq,oq,rfl,hgq,hcq⟩:=HRI.o (by omega);have z0:=(HW2.o.cell (p:=⟨gq,oq+d,none⟩) (Nat.lt_of_lt_of_le hgq HB.o)).trans (hcq d hdl);rw[L.gd_lt hdl]at z0;have hdI:((d:Nat):Int)<((r.length:Nat):Int):=by omega
      have HPDN:=aA (fun(M3:Lk.MP) (h:Lk.PdD G E M3 q v k d)=>HPD.o M3 d hdl h);rw[HF2.o]at HPDN;by_cases hz:r[d]<0
      ·have hz1:decide (r[d]<0)=true:=decide_eq_true hz;have ham:=HAM.o a d hdl hnx HLA2.o;obtain⟨hmlt,hm0,hmw⟩:=ham;have HVI:=aA (HP2.o.vis haK hz hzr.2.1 hmlt hm0 hmw);have HMX:=aA (HP2.o.b.lt ((a:Int),r[d]));have HPDM:=aA (fun(M3:Lk.MP) (h:Lk.PdD G E M3 q v k d) hs=>HPDN.o M3 h (fun _=>hs));have htv:=HTV.o d hdl hz;have hty:=(HTL.o.keepG (KeepG.trans HKQ.o HK2.o) HH.o).rd;obtain⟨gt,ot,rfl,hgt,hct⟩:=hty (by rw[HAL.o];omega);obtain⟨A2,c2,u0,hlc2,_,hrd2⟩:=hct k (by rw[HAL.o];exact HLT.o)
       have htrk:(Lk.tlAll G)[k]'(by rw[HAL.o];exact HLT.o)=Lk.tlRow G r:=by
        have:=HTR.o
        rw[List.getElem?_eq_getElem (by rw[HAL.o];exact HLT.o)]at this;injection this
       rw[htrk]at u0 hrd2;obtain⟨g3,o3,rfl,hg3,hc3⟩:=hrd2 (by rw[HTN.o];omega);have t0:=u0;have hdt:d<(Lk.tlRow G r).length:=by rw[HTN.o];exact hdl
       have t1:=hc3 d hdt 0 (.int .u32 ((Lk.tlAt G r d).1:Int)) (by rw[HTA.o d hdt];rfl);have t2:=hc3 d hdt 1 (.bool (Lk.tlAt G r d).2) (by rw[HTA.o d hdt];rfl);rw[Nat.add_zero]at t1;have htk:((k:Nat):Int)<(((Lk.tlAll G).length:Nat):Int):=by rw[HAL.o];have:=HLT.o;omega
       have htd:((d:Nat):Int)<(((Lk.tlRow G r).length:Nat):Int):=by omega
       have HTLT:=aA (Lk.tlAt_lt G r d);have HTG:=aA (fun w=>zhh (Lk.tlAt G r d) v HTLT.o HP.o.vl w);rw[htv]at HTG;have HML:=aA hmlt;have HXI:Hid (Gm.In ((a:Int),r[d]).1/\Gm.In ((a:Int),r[d]).2):=aA ⟨haI,hzI⟩;have x1:wy.cell? ⟨w.heap.size,4,none⟩=some (.slice (some ⟨gt,ot,none⟩) (Lk.tlAll G).length ct):=cell_of_row wy _ 4 _ _ _ HWY.o;clear hcq hct hrd2 hc3 hgt hg3 htv hmlt hm0 hmw hnx hlaj hed htof haK hzr htrk u0 hlc2 hdt;unfold tlV at HTG;generalize (Lk.tlAt G r d).1=tb at *;generalize (Lk.tlAt G r d).2=tn at *;generalize Lk.ofV G v (r.drop (d+1))=more at *;generalize r[d]=z at *;go_wp2_with fail
       refine(za6 _ _).mono ?_;rintro _ w5 ⟨rfl,hw5⟩;subst hw5;rw[hz1];go_wp2_with fail
       refine(HTG.o _).mono ?_;rintro _ w6 ⟨rfl,hb6⟩;have HA6:=aA (HA2.o.below hb6);have HW6:Hid (Below base w w6):=aA (HW2.o.trans (hb6.mono (Nat.le_trans HBL.o HW2.o.size)));have HK6:Hid (KeepG gc M D wq w6):=aA (HK2.o.trans (.below hb6 HA2.o.gcl));have HV6:=aA (zcB w6 base R gc T M D _ _ _ _ _ tl M2 D1 s2 ((a:Int),z) more HA6.o HXI.o HML.o HMX.o (HLN.o _ _ _ HP2.o HO2.o));clear hb6 t0 t1 t2 x1 htk htd;go_wp2_with fail
       refine HV6.o.mono ?_;rintro _ w7 ⟨rfl,ha7,hb7,hk7⟩;have HA7:=aA ha7;have HW7:Hid (Below base w w7):=aA (HW6.o.trans hb7);have HK7:Hid (KeepG gc M D wq w7):=aA (HK6.o.trans hk7);have HP7:=aA HVI.o.1;have HO7:=aA (HO2.o.trans HVI.o.2.1);have HPD7:=aA (HPDM.o _ (HPD2.o.mono HVI.o.2.1.m) HVI.o.2.2);have HPK7:=aA (HPK2.o.mono HVI.o.2.1.m (Lk.MLe.refl _));have HWY7:=aA ((KeepG.trans HKQ.o HK7.o).row HRW.o (by have:=HLM.o;omega) (by have:=HLM.o;omega) (by have:=HLM.o;omega) (fun e=>by have:=HOL.o _ e;omega));have x5:w7.cell? ⟨w.heap.size,5,none⟩=some (.map (some T)):=cell_of_row w7 _ 5 _ _ _ HWY7.o;have lk:=zls HA7.o.t ((a:Int),z) HXI.o HTO.o;clear ha7 hb7 hk7;go_wp2;go_roundw
       case rel=>exact⟨d+1,j,_,_,HDL.o,by go_num,rfl,HA7,HP7,HPK7,HPD7,HLJ,HFJ,HO7,HW7,HK7⟩
       case measure=>simp[intOf];omega
      ·have hz1:decide (r[d]<0)=false:=decide_eq_false hz;have HPDM:=aA (HPDN.o M2 HPD2.o (fun h=>absurd h hz));have HXI:Hid (Gm.In ((a:Int),r[d]).1/\Gm.In ((a:Int),r[d]).2):=aA ⟨haI,hzI⟩;have x5:wy.cell? ⟨w.heap.size,5,none⟩=some (.map (some T)):=cell_of_row wy _ 5 _ _ _ HWY.o;have lk:=zls HA2.o.t ((a:Int),r[d]) HXI.o HTO.o;clear hcq hnx hlaj hed htof haK hzr;generalize r[d]=z at *;go_wp2_with fail
       refine(za6 _ _).mono ?_;rintro _ w5 ⟨rfl,hw5⟩;subst hw5;rw[hz1];go_wp2;go_roundw
       case rel=>exact⟨d+1,j,_,_,HDL.o,by go_num,rfl,HA2,HP2,HPK2,HPDM,HLJ,HFJ,HO2,HW2,HK2⟩
       case measure=>simp[intOf];omega
     ·obtain rfl:d=r.length:=by omega
      rw[List.take_length]at HF2;have HPN:=aA (HPE.o M2 a HPK2.o HPD2.o HF2.o);have HWN:=aA (HWT.o M2 s2 a HP2.o HLA2.o);have hkI:Gm.In (k:Int):=by have:=HLT.o;unfold Gm.In;omega
      have haI:Gm.In (a:Int):=by
       obtain⟨t,ht⟩:=Nat.exists_testBit_of_ne_zero HP.o.v0
       have:=(Au.la_in HGG.o.hi (HLA2.o t ht)).1
       have:=HGG.o.hK
       unfold Gm.In;omega
      have HIN:Hid (Gm.In ((a:Int),(k:Int)).1/\Gm.In ((a:Int),(k:Int)).2):=aA ⟨haI,hkI⟩;have hD:=HP2.o.b.dlt ((a:Int),(k:Int));have hor:=u32_or_nat (Lk.gN D1 ((a:Int),(k:Int))) v hD HP.o.vl;have HOE:Hid (Mw.putA (Lk.encM D1) ((a:Int),(k:Int)) (.int .u32 ((Lk.gN D1 ((a:Int),(k:Int)) ||| v:Nat):Int))=Lk.encM (Lk.orN D1 ((a:Int),(k:Int)) v)):=aA Lk.enc_put;have HSK:Hid (∀y:World,y.heap[w.heap.size]?=wy.heap[w.heap.size]?->∃z:OnP [w.heap.size] wy,y=z.1):=aA (fun y e1=>⟨⟨y,fun g hg=>by rw[List.mem_singleton.1 hg];exact e1⟩,rfl⟩);have hDz:D≠w.heap.size:=by have:=HLM.o;omega
      have HDD:Hid (WkA G wy.drew base R gc T M D AT AN (some ⟨g,o,none⟩) At cT cN cR ct tl M2 D1 s2):=aA (HA2.o.below (aB (Below.refl _ _) 1));have lkd:=zmO HDD.o.d.is ((a:Int),(k:Int)) HIN.o;obtain⟨u,cc,w6,hrun6,hmet,his6,hg6⟩:=Mw.run_met HDD.o.d enK Tryz.underlying67 (z:=.int .u32 0) (by kernel_rfl) (x:=((a:Int),(k:Int))) HIN.o
      have lk6:(Instr.lookup 67 (.map (some D)) (.agg #[.int .i64 (a:Int),.int .i64 (k:Int)]) false).run Tryz.prog w6=.ok (.int .u32 (Lk.gN D1 ((a:Int),(k:Int)):Int)) w6:=by
       have:=Mw.run_look (E:=enE) his6 enK (t:=67) Tryz.underlying67 (z:=.int .u32 0) (by kernel_rfl) (x:=((a:Int),(k:Int))) HIN.o false
       rw[Lk.enc_same]at this;exact this
      obtain⟨w7,hrun7,hm7,hg7⟩:=hmet.2 w6 rfl (.int .u32 ((Lk.gN D1 ((a:Int),(k:Int)) ||| v:Nat):Int));have hkey:enE.enc ((a:Int),(k:Int))=.agg #[.int .i64 (a:Int),.int .i64 (k:Int)]:=rfl;rw[hkey]at hrun6;rw[HOE.o]at hm7;have HG67:=aA (zac hg6 hg7);have H7:=aA (HDD.o.dset HG67.o hm7);have HWYL:=(Array.getElem?_eq_some_iff.1 HWY.o).1;have r6:=hg6.block w.heap.size (show w.heap.size<wy.drew.heap.size from HWYL) (fun e=>by injection e with e;exact hDz e.symm);have r7:=HG67.o.block w.heap.size (show w.heap.size<wy.drew.heap.size from HWYL) (fun e=>by injection e with e;exact hDz e.symm);have HSD:=aA (HSK.o wy.drew rfl);have HS6:=aA (HSK.o w6 r6);have HS7:=aA (HSK.o w7 r7);have HRUN6:=aA hrun6;have HRUN7:=aA hrun7;have HLK6:=aA lk6;have HLKD:=aA lkd;have HB7:Hid (Below base w w7):=aA (zaa (HW2.o.trans (aB (Below.refl _ _) 1)) HG67.o H7.o.hD (Nat.le_trans HBL.o HW2.o.size));have HK7:Hid (KeepG gc M D wb w7):=aA (((KeepG.trans HKQ.o HK2.o).trans (.below (aB (Below.refl _ _) 1) HA2.o.gcl)).trans (.mapD HG67.o HDD.o.gcl HA2.o.gcM.2.1));have HO7:=aA (HO2.o.trans (Lk.on_put (st:=s2) ((a:Int),(k:Int)) v));clear hrun6 hrun7 hmet his6 hg6 hm7 hg7 r6 r7 lk6 lkd hkey HOE haI hkI hD hDz HWYL;generalize Lk.gN D1 ((a:Int),(k:Int))=dv at *;generalize hwd:wy.drew=wd at *;go_upto_region 14 with fail
      have qD:∀y:OnP [w.heap.size] wy,y.1.cell? ⟨w.heap.size,7,none⟩=some (.map (some D)):=fun y=>y.row (by simp) HWY.o rfl;have S0:∃y:OnP [w.heap.size] wy,wy.drew=y.1:=by rw[hwd];exact HSD.o
      refine CalmN.region_tree (fun x=>∃y:OnP [w.heap.size] wy,x=y.1) (.two [0,1,2,3,4,6] 5 (.one [7] 8 (.one [9] 10 (.fin []))) 8 (.one [9] 5 (.one [7] 10 (.fin [])))) (by kernel_rfl) (by kernel_rfl) (fun _ _ d _ _ h=>by cases d <;> exact h) S0 ?_;rw[CalmN.wpT];simp only[CalmN.pickOps,List.getElem?_toArray,List.getElem?_cons_zero,List.getElem?_cons_succ];repeat (go_big_quiet_step (fail))
      rw[hwd];clear S0;refine wpQuiet_nil ⟨?_,?_⟩
      case' refine_1 =>
       simp only[CalmN.wpT,CalmN.wpSt,CalmN.pickOps,List.getElem?_toArray,List.getElem?_cons_zero,List.getElem?_cons_succ];intro KK hKK;rw[if_pos (by rfl)];have lkd:=HLKD.o;go_wp2_with fail
       refine hKK _ _ HSD.o _ (fun _ h=>h) HSD.o ?_;clear hKK lkd;repeat (go_big_quiet_step (fail))
       refine wpQuiet_nil ?_;intro KK hKK;rw[if_pos (by rfl)];refine zaw _ _ _ rfl HRUN6.o rfl rfl ?_;refine hKK _ _ HS6.o _ (fun _ h=>h) HS6.o ?_;clear hKK
       go_frame
       repeat (go_big_quiet_step (fail))
       refine wpQuiet_nil ?_
      case' refine_2 =>
       simp only[CalmN.wpT,CalmN.wpSt,CalmN.pickOps,List.getElem?_toArray,List.getElem?_cons_zero,List.getElem?_cons_succ];intro KK hKK;rw[if_pos (by rfl)];refine zaw _ _ _ rfl HRUN6.o rfl rfl ?_;refine hKK _ _ HS6.o _ (fun _ h=>h) HS6.o ?_;clear hKK
       go_frame
       repeat (go_big_quiet_step (fail))
       refine wpQuiet_nil ?_;intro KK hKK;rw[if_pos (by rfl)];have lk6:=HLK6.o;go_wp2_with fail
       refine hKK _ _ HS6.o _ (fun _ h=>h) HS6.o ?_;clear hKK lk6;repeat (go_big_quiet_step (fail))
       refine wpQuiet_nil ?_
      all_goals
       intro KK hKK;rw[if_pos (by rfl)];refine zbw _ _ _ _ rfl HRUN7.o rfl rfl rfl ?_;refine hKK _ _ HS7.o _ (fun _ h=>h) HS7.o ?_;clear hKK qD
       go_frame
       refine wpQuiet_nil ?_;go_wp2;go_roundw
       case rel=>exact⟨k+1,M2,_,s2,HLT.o,by go_num,H7,HWN,HPN,HO7,HB7,HK7⟩
       case measure=>simp[intOf];omega
   ·have HPN:Hid (Lk.PdK G E M1 D1 q s v (k+1)):=aA (HPK.o.step fun _ e=>absurd e hl);have hq:((G.rs[k]).l != -1-s)=true:=by rw[bne_iff_ne];exact hl
    have HAI:=aA (HA.o.below HBI.o);have HWI:Hid (Below base w wi):=aA (HW.o.trans (HBI.o.mono (Nat.le_trans HBL.o HW.o.size)));have HKI:Hid (KeepG gc M D wb wi):=aA (HKW.o.trans (.below HBI.o HA.o.gcl));clear hc hri hlc hbi hl;generalize (G.rs[k]).l=lf at *;generalize (G.rs[k]).r.length=rn at *;generalize (G.rs[k]).p=rp at *;go_upto_region 5 with fail
    rw[<-hwi];clear hwi k0 k1 k2;go_quiet ((go_at_call 78;exact Calls.quiet_of_same (HN.o _)))
    obtain⟨wq,hwq⟩:∃y,y=wi.drewN nq:=⟨_,rfl⟩
    rw[<-hwq];have HBQ:Hid (Below wi.heap.size wi wq):=aA (by rw[hwq];exact aB (Below.refl _ _) _);clear hwq z0 z1;have HAQ:=aA (HAI.o.below HBQ.o);have HWQ:Hid (Below base w wq):=aA (HWI.o.trans (HBQ.o.mono (Nat.le_trans HBL.o HWI.o.size)));have HKQ:Hid (KeepG gc M D wb wq):=aA (HKI.o.trans (.below HBQ.o HAI.o.gcl));go_wp2;go_roundw
    case rel=>exact⟨k+1,M1,D1,s1,HLT.o,by go_num,HAQ,HP,HPN,HO,HWQ,HKQ⟩
    case measure=>simp[intOf];omega
  ·obtain rfl:k=G.rs.length:=by omega
   go_wp2;go_end0
   exact⟨rfl,M1,D1,s1,HA.o,HP.o.done HPK.o,HO.o,HW.o,KeepG.trans HK0.o HKW.o⟩
def zmt (w:World) (M:Nat):Nat:=match w.heap[M]? with
 | some (.map es _)=>(es.toList.map fun e=>match e.val with | .int _ n=>Lk.pc n.toNat|_=>0).sum
 | _=>0
def zlx (w:World) (gc:Nat):Nat:=match w.cell? ⟨gc,0,none⟩ with
 | some (.slice _ n _)=>n
 | _=>0
theorem zhJ {w:World} {M:Nat} {MM:Lk.MP} (h:Mw.MapIs wkE w M (Lk.encM MM)):zmt w M=Lk.cntM MM:=by
 obtain⟨es,ck,hb,he,_⟩:=h;unfold zmt;rw[hb];simp only;have e1:(es.toList.map fun e=>match e.val with | .int _ n=>Lk.pc n.toNat|_=>0)=(es.toList.map fun e=>(e.key,e.val)).map (fun p=>match p.2 with | .int _ n=>Lk.pc n.toNat|_=>0):=by rw[List.map_map];rfl
 rw[e1,he];unfold Lk.encM Lk.cntM;rw[List.map_map,List.map_map]
 congr 1
theorem zhd {w:World} {gc n c:Nat} {A:Option Addr} (h:w.cell? ⟨gc,0,none⟩=some (.slice A n c)):zlx w gc=n:=by unfold zlx;rw[h]
theorem Lk.vM_start (x:Int×Int) {P:Nat} (hP:P≠0):vM [] x P=[(x,P)]/\vS [] [] x P=[x]:=by
 have h:Lk.gN ([]:Lk.MP) x=0:=rfl;unfold vM vS;rw[h,Nat.zero_or,if_neg hP,if_neg hP];unfold Lk.orN;rw[h,Nat.zero_or];exact⟨rfl,rfl⟩
theorem zhj (G:Gm.Gr) (K:List (List Au.It)) (E:List (List (Int×Int))) (w:World) (base B T M D:Nat) (AT AN AR At:Option Addr) (cT cN cR ct:Nat) (tl:List ((Int×Int)×Value))
  (hG:WkG G K E tl) (h0:0<K.length) (hg:aT w B (.agg #[.slice AT G.ts.length cT,.slice AN G.ns.length cN,.slice AR G.rs.length cR,.int .i64 G.st]) G) (hB:B<=base) (htl:bU w At G) (hb:base<=w.heap.size)
  (hT:Mw.MapIs wkE w T tl) (hM:Mw.MapU wkE w M (Lk.encM [])) (hD:Mw.MapU enE w D (Lk.encM [])) (bT:base<=T) (bM:base<=M) (bD:base<=D) (hne:T≠M/\T≠D/\M≠D) :
  Calls Tryz.prog 49 #[.agg (wrC (.slice AT G.ts.length cT) (.slice AN G.ns.length cN) (.slice AR G.rs.length cR) (.int .i64 G.st) (.slice At (Lk.tlAll G).length ct) T M D)] w fun e w'=>e=.returned (.tuple #[]) /\
   ∃MM' DD',Mw.MapU enE w' D (Lk.encM DD')/\Lk.WI G K E MM' DD' []/\Below base w w'/\∀g,g<w.heap.size->g≠M->g≠D->w'.heap[g]?=w.heap[g]?:=by
 obtain⟨wb,hwb⟩:∃y,y=w.alloc (.cells (wrC (.slice AT G.ts.length cT) (.slice AN G.ns.length cN) (.slice AR G.rs.length cR) (.int .i64 G.st) (.slice At (Lk.tlAll G).length ct) T M D) 110):=⟨_,rfl⟩
 have HBB:Hid (Below w.heap.size w wb):=aA (by rw[hwb];exact(Below.refl _ _).alloc (Nat.le_refl _) _);have hbx:wb.heap[w.heap.size]?=some (.cells (wrC (.slice AT G.ts.length cT) (.slice AN G.ns.length cN) (.slice AR G.rs.length cR) (.int .i64 G.st) (.slice At (Lk.tlAll G).length ct) T M D) 110 (0,0)):=by rw[hwb];exact heap_alloc_new w _
 have HBX:=aA hbx;have hzb:wb.heap.size=w.heap.size+1:=by rw[hwb];simp
 obtain⟨wc,hwc⟩:∃y,y=wb.alloc (.cells #[.slice none 0 0] 147):=⟨_,rfl⟩
 have HBC:Hid (Below wb.heap.size wb wc):=aA (by rw[hwc];exact(Below.refl _ _).alloc (Nat.le_refl _) _);have hcx:wc.heap[wb.heap.size]?=some (.cells #[.slice none 0 0] 147 (0,0)):=by rw[hwc];exact heap_alloc_new wb _
 have HW0:Hid (Below w.heap.size w wc):=aA (HBB.o.trans (HBC.o.mono HBB.o.size));have HRC:=aA (aC HBC.o hbx);have HBS:=aA hb;have HB:=aA hB;have HSTI:Hid (0<=G.st/\G.st<G.ns.length/\G.ns.length<=40):=aA ⟨hG.hok.s0,hG.hok.s1,hG.hn⟩;have HTS:Hid (S.bit (G.ts.length:Int)=2 ^ G.ts.length):=aA (S.bit_nat (by have:=hG.ht;omega));have HPP:Hid ((2:Nat) ^ G.ts.length<4294967296):=aA (by have:=Nat.pow_le_pow_right (n:=2) (by decide) hG.ht;omega);have HPZ:Hid ((2:Nat) ^ G.ts.length≠0):=aA (by have:0<2 ^ G.ts.length:=Nat.pow_pos (by decide);omega)
 have HWC:Hid (WkA G wc base w.heap.size wb.heap.size T M D AT AN AR At cT cN cR ct tl [] [] []):=aA
  ⟨HRC.o,⟨_,hcx,aQ.nil _ _⟩,hT.block (HW0.o.block _ hT.lt),hM.block (HW0.o.block _ hM.lt),hD.block (HW0.o.block _ hD.lt),hb,by omega,bT,bM,bD,hne⟩
 have HOC:Hid (bS wc wb.heap.size=none):=aA (zbs (show wc.cell? ⟨wb.heap.size,0,none⟩=some (.slice none 0 0) from cell_of_row wc wb.heap.size 0 _ _ _ hcx));have HWIS:=aA (Lk.WI.start (E:=E) h0 hG.hok hG.ht);have HPC:=aA (Lk.pc_pos HPP.o HPZ.o ((0:Int),-1-G.st));have HKN:Hid (K.length<=300/\G.ns.length<=40):=aA ⟨hG.hK,hG.hn⟩;have HN:=aA (fun w=>ze6 G.st (by have:=HSTI.o;omega) (by have:=HSTI.o;omega) w);have HGM:Hid (w.heap.size≠wb.heap.size/\w.heap.size≠M/\w.heap.size≠D):=aA ⟨by omega,by have:=hM.lt;omega,by have:=hD.lt;omega⟩;have HGG:=aA hG;have HTL:=aA (htl.below HW0.o);have HGR:=aA hg;have hmf:∀(fn:Fn) (first cap:Array Value) (w:World),(Instr.makeFunc fn first cap).run Tryz.prog w=.ok (.func fn first cap) w:=fun _ _ _ _=>rfl;clear hG h0 hg hB htl hT hM hD bT bM bD hne hbx hcx hb
 go_enter Tryz.func49,Tryz.ntmps49
 go_upto_region 1 with fail
 rw[<-hwb];clear hwb;go_upto_region 2 with fail
 rw[<-hwc];clear hwc;obtain⟨gc,hgc⟩:∃g,g=w.heap.size+1:=⟨_,rfl⟩
 rw[hzb,<-hgc]at HWC HGM HOC;have HGCL:Hid (w.heap.size<gc):=aA (by omega);rw[<-hgc];clear hgc hzb;go_upto_region 3 with fail
 have HXI:Hid (Gm.In ((0:Int),-1-G.st).1/\Gm.In ((0:Int),-1-G.st).2):=aA ⟨by unfold Gm.In;simp only;omega,by have:=HSTI.o;unfold Gm.In;simp only;omega⟩;have HVS:=aA (Lk.vM_start ((0:Int),-1-G.st) HPZ.o);have HVI:=aA (fun(y:World) (h:WkA G y base w.heap.size gc T M D AT AN AR At cT cN cR ct tl [] [] [])=>zcB y base w.heap.size gc T M D _ _ _ _ _ tl [] [] [] ((0:Int),-1-G.st) (2 ^ G.ts.length) h HXI.o HPP.o (show(0:Nat)<4294967296 by decide) (by simp));rw[HVS.o.1,HVS.o.2]at HVI;generalize hP:(2:Nat) ^ G.ts.length=P at *;have q0:∀y:OnP [w.heap.size] wc,y.1.cell? ⟨w.heap.size,0,none⟩=some (.slice AT G.ts.length cT):=fun y=>y.row (by simp) HRC.o rfl;have q3:∀y:OnP [w.heap.size] wc,y.1.cell? ⟨w.heap.size,3,none⟩=some (.int .i64 G.st):=fun y=>y.row (by simp) HRC.o rfl;have HSK:Hid (∀y:World,y.heap[w.heap.size]?=wc.heap[w.heap.size]?->∃z:OnP [w.heap.size] wc,y=z.1):=aA (fun y e1=>⟨⟨y,fun g hg=>by rw[List.mem_singleton.1 hg];exact e1⟩,rfl⟩);have HSD:=aA (HSK.o wc.drew rfl);have HBD:Hid (Below base w wc.drew):=aA ((HW0.o.mono HBS.o).trans (aB ((Below.refl _ _).mono (Nat.le_trans HBS.o HW0.o.size)) 1));have HKD:Hid (KeepG gc M D wc wc.drew):=aA (.below (aB (Below.refl _ _) 1) HWC.o.gcl);have HTD:Hid (bU wc.drew At G):=aA (HTL.o.below (aB (Below.refl _ _) 1));have HWD:Hid (WkA G wc.drew base w.heap.size gc T M D AT AN AR At cT cN cR ct tl [] [] []):=aA (HWC.o.below (aB (Below.refl _ _) 1));refine CalmN.region_tree (fun x=>∃y:OnP [w.heap.size] wc,x=y.1) (.one [0,1,2,3,6,7,8,9] 4 (.one [5] 10 (.one [] 11 (.fin [])))) (by kernel_rfl) (by kernel_rfl) (fun _ _ d _ _ h=>by cases d <;> exact h) HSD.o ?_;simp only[CalmN.wpT,CalmN.wpSt,CalmN.pickOps,List.getElem?_toArray,List.getElem?_cons_zero,List.getElem?_cons_succ];repeat (go_big_quiet_step (fail))
 refine wpQuiet_nil ?_;intro KK hKK;rw[if_pos (by rfl)];go_wp2_with fail
 refine(HN.o _).mono ?_;rintro _ wd ⟨rfl,hwd⟩;rw[<-hwd]at HSD HWD HBD HTD HKD;clear hwd;go_wp2_with fail
 refine hKK _ _ HSD.o _ (fun _ h=>h) HSD.o ?_;clear hKK;repeat (go_big_quiet_step (fail))
 refine wpQuiet_nil ?_;intro KK hKK;rw[if_pos (by rfl)];go_wp2_with fail
 refine(zcc _ _).mono ?_;rintro _ we ⟨rfl,hwe⟩;rw[<-hwe]at HSD HWD HBD HTD HKD;rw[HTS.o];clear hwe;go_wp2_with fail
 refine hKK _ _ HSD.o _ (fun _ h=>h) HSD.o ?_;clear hKK q0 q3;refine wpQuiet_nil ?_;intro KK hKK;rw[if_pos (by rfl)];go_wp2_with fail
 refine(HVI.o _ HWD.o).mono ?_;rintro _ wf ⟨rfl,ha,hb,hk⟩;have HTF:=aA (HTD.o.keepG hk HWD.o);have HKF:=aA (HKD.o.trans hk);have HA0:=aA ha;have HB0:Hid (Below base w wf):=aA (HBD.o.trans hb);have HSF:=aA (HSK.o wf (ha.r.trans HRC.o.symm));clear ha hb hk;go_wp2_with fail
 refine hKK _ _ HSF.o _ (fun _ h=>h) HSF.o ?_;clear hKK;refine wpQuiet_nil ?_;go_wp2;go_loopw [] (fun wr=>∃(M1 D1:Lk.MP) (s1:List (Int×Int)),Hid (WkA G wr base w.heap.size gc T M D AT AN AR At cT cN cR ct tl M1 D1 s1)/\Hid (Lk.WI G K E M1 D1 s1)/\Hid (s1.length<=Lk.cntM M1)/\Hid (bU wr At G)/\Hid (KeepG gc M D wc wr)/\Hid (Below base w wr)) (fun wr=>2*(K.length*G.ns.length*32-zmt wr M)+zlx wr gc)
 case atStart=>exact⟨_,_,_,HA0,HWIS,HPC,HTF,HKF,HB0⟩
 case round =>
  obtain⟨M1,D1,s1,HA,HI,HC,HT,HKR,HW⟩:=hrel;obtain⟨v,hv1,hv2⟩:=HA.o.v;rcases List.eq_nil_or_concat s1 with rfl|⟨s,x,rfl⟩
  ·obtain⟨A,c,rfl,hlc,hmc,_⟩:=aQ.form hv2 aN;have c0:wr.cell? ⟨gc,0,none⟩=some (.slice A ([]:List (Int×Int)).length c):=cell_of_row wr gc 0 _ _ _ hv1;have hn:¬(0:Int)<(([]:List (Int×Int)).length:Int):=by simp
   clear hv1 hv2 hlc hmc;generalize ([]:List (Int×Int)).length=n at *;go_wp2;go_end0
   exact⟨rfl,M1,D1,HA.o.d,HI.o,HW.o,fun g h1 h2 h3=>(HKR.o.keep g (Nat.lt_of_lt_of_le h1 HW0.o.size) (by have:=HGCL.o;omega) h2 h3 (by rw[HOC.o];simp)).trans (HW0.o.block g h1)⟩
  ·rw[List.concat_eq_append]at hv2 HA HI HC;obtain⟨q,hxq,hWP⟩:=HI.o.take;have hqs:=HI.o.take_lt;obtain⟨x1,x2⟩:=x;simp only[Prod.mk.injEq,and_true]at hxq;subst hxq;simp only at hWP hqs;have HWP:=aA hWP;have HQS:=aA hqs;obtain⟨gB,c,rfl,hlc,hmc,hbg⟩:=aQ.addr hv2 (by simp);have c0:wr.cell? ⟨gc,0,none⟩=some (.slice (some ⟨gB,0,none⟩) (s++[((q:Int),x2)]).length c):=cell_of_row wr gc 0 _ _ _ hv1;have hsl:s.length<(s++[((q:Int),x2)]).length:=by simp
   have hse:(s++[((q:Int),x2)])[s.length]=((q:Int),x2):=by simp
   have e0:wr.cell? ⟨gB,s.length*2,none⟩=some (.int .i64 (q:Int)):=aQ.cellAt hv2 aN s.length 0 hsl _ (by rw[hse];rfl);have e1:wr.cell? ⟨gB,s.length*2+1,none⟩=some (.int .i64 x2):=aQ.cellAt hv2 aN s.length 1 hsl _ (by rw[hse];rfl);obtain⟨wx,hwx⟩:∃y,y=wr.alloc (.cells #[.int .i64 (q:Int),.int .i64 x2] 112):=⟨_,rfl⟩
   have HBX2:Hid (Below wr.heap.size wr wx):=aA (by rw[hwx];exact(Below.refl _ _).alloc (Nat.le_refl _) _);have HXX:Hid (wx.heap[wr.heap.size]?=some (.cells #[.int .i64 (q:Int),.int .i64 x2] 112 (0,0))):=aA (by rw[hwx];exact heap_alloc_new wr _);have HAX:=aA (HA.o.below HBX2.o);have hv1x:=aC HBX2.o hv1;have HOX:=aA (hv2.below HBX2.o (Nat.le_refl _));have htk:=HOX.o.take aN s.length (Nat.le_of_lt hsl);rw[List.take_left]at htk;have HPU:=aA (HAX.o.push hv1x HOX.o htk (World.grownBy.refl _ _));have cx0:wx.cell? ⟨gc,0,none⟩=some (.slice (some ⟨gB,0,none⟩) (s++[((q:Int),x2)]).length c):=cell_of_row wx gc 0 _ _ _ hv1x;have fx0:=frozen_of_row wx gc 0 _ _ hv1x;have lx0:=(Array.getElem?_eq_some_iff.1 hv1x).1;have hgx:gc≠wr.heap.size:=by have:=HA.o.gcl;omega
   have HYX:Hid ((wx.setCell ⟨gc,0,none⟩ (.slice (some ⟨gB,0,none⟩) s.length c)).heap[wr.heap.size]?=some (.cells #[.int .i64 (q:Int),.int .i64 x2] 112 (0,0))):=aA ((Below.heap_setCell _ _ _ _ (fun e=>hgx e.symm)).trans HXX.o);have HBW:Hid (Below base w (wx.setCell ⟨gc,0,none⟩ (.slice (some ⟨gB,0,none⟩) s.length c))):=aA ((HW.o.trans (HBX2.o.mono (Nat.le_trans HBS.o HW.o.size))).setCell HA.o.hg _)
   have HTY:Hid (bU (wx.setCell ⟨gc,0,none⟩ (.slice (some ⟨gB,0,none⟩) s.length c)) At G):=aA ((HT.o.below HBX2.o).keep (by simp) fun g cur ty hty hc=>(Below.heap_setCell wx ⟨gc,0,none⟩ _ g (fun e=>by
    have e:g=gc:=e;rw[e,hv1x]at hc;injection hc with hc;injection hc with _ hc _;rcases hty with rfl|rfl
    ·exact absurd hc (by decide)
    ·exact absurd hc (by decide))).trans hc)
   have HKY:Hid (KeepG gc M D wc (wx.setCell ⟨gc,0,none⟩ (.slice (some ⟨gB,0,none⟩) s.length c))):=aA ((HKR.o.trans (.below HBX2.o HA.o.gcl)).push cx0 (World.grownBy.refl _ _) (.inl rfl) hv1x);have SL:=fun w=>zgz (m:=2) w 147 Tryz.underlying147 (fun _=>by kernel_rfl) (some ⟨gB,0,none⟩) c (s++[((q:Int),x2)]).length s.length (by omega);have HC2:Hid (s.length<=Lk.cntM M1):=aA (by have:=HC.o;omega);have HLB:Hid (zlx wr gc=s.length+1):=aA (by rw[zhd c0];simp);have HCB:=aA (zhJ HA.o.m.is)
   have hsub:IntKind.i64.wrap (((s++[((q:Int),x2)]).length:Int)-1)=(s.length:Int):=by
    have:(s++[((q:Int),x2)]).length=s.length+1:=by simp
    have h9:=HC2.o;have h10:=HI.o.b.cnt;have h11:=Nat.mul_le_mul HKN.o.1 HKN.o.2;rw[this,IntWalk.i64_in _ (by omega)];omega
   have hpos:(0:Int)<(((s++[((q:Int),x2)]).length:Nat):Int):=by omega
   have hslI:((s.length:Nat):Int)<(((s++[((q:Int),x2)]).length:Nat):Int):=by omega
   clear hv1 hv2 hlc hmc hbg hsl hse hWP hqs hv1x htk hgx;generalize (s++[((q:Int),x2)]).length=ln at *;obtain⟨n,hn⟩:∃n,s.length=n:=⟨_,rfl⟩
   rw[hn]at e0 e1 SL hsub hslI HPU HYX HBW HTY HKY;have HN2:=aA hn;clear hn;go_upto_region 7 with fail
   rw[<-hwx];clear hwx c0 e0 e1 hpos hsub hslI;go_upto_region 8 with fail
   generalize wx.setCell ⟨gc,0,none⟩ (.slice (some ⟨gB,0,none⟩) n c)=wy at *;clear cx0 fx0 lx0 SL;have HPS:=aA (zhi G K E wy base B w.heap.size gc T M D AT AN AR At cT cN cR ct tl M1 D1 s q x2 HGG.o (HGR.o.below HBW.o HB.o) HB.o HTY.o HPU.o HWP.o HQS.o HC2.o);have k0:wy.cell? ⟨w.heap.size,0,none⟩=some (.slice AT G.ts.length cT):=cell_of_row wy _ 0 _ _ _ HPU.o.r;have k1:wy.cell? ⟨w.heap.size,1,none⟩=some (.slice AN G.ns.length cN):=cell_of_row wy _ 1 _ _ _ HPU.o.r;have k2:wy.cell? ⟨w.heap.size,2,none⟩=some (.slice AR G.rs.length cR):=cell_of_row wy _ 2 _ _ _ HPU.o.r;have k3:wy.cell? ⟨w.heap.size,3,none⟩=some (.int .i64 G.st):=cell_of_row wy _ 3 _ _ _ HPU.o.r;have k4:wy.cell? ⟨w.heap.size,4,none⟩=some (.slice At (Lk.tlAll G).length ct):=cell_of_row wy _ 4 _ _ _ HPU.o.r;have k5:wy.cell? ⟨w.heap.size,5,none⟩=some (.map (some T)):=cell_of_row wy _ 5 _ _ _ HPU.o.r;have k6:wy.cell? ⟨w.heap.size,6,none⟩=some (.map (some M)):=cell_of_row wy _ 6 _ _ _ HPU.o.r;have k7:wy.cell? ⟨w.heap.size,7,none⟩=some (.map (some D)):=cell_of_row wy _ 7 _ _ _ HPU.o.r;have z0:wy.cell? ⟨wr.heap.size,0,none⟩=some (.int .i64 (q:Int)):=cell_of_row wy _ 0 _ _ _ HYX.o;have z1:wy.cell? ⟨wr.heap.size,1,none⟩=some (.int .i64 x2):=cell_of_row wy _ 1 _ _ _ HYX.o;go_wp2_with fail
   refine HPS.o.mono ?_;rintro _ w8 ⟨rfl,MM',DD',st',ha8,hi8,ho8,hb8,hk8⟩;have HT8:=aA (HTY.o.keepG hk8 HPU.o);have HK8:=aA (HKY.o.trans hk8);have HA8:=aA ha8;have HI8:=aA hi8;have HW8:Hid (Below base w w8):=aA (HBW.o.trans hb8);have HC8:Hid (st'.length<=Lk.cntM MM'):=aA (by have:=ho8.l;have:=HC2.o;omega);have HO8:=aA ho8
   have HL8:Hid (zlx w8 gc=st'.length/\zmt w8 M=Lk.cntM MM'):=aA ⟨by
    obtain⟨v8,h1,h2⟩:=ha8.v;obtain⟨A8,c8,rfl,_,_,_⟩:=aQ.form h2 aN;exact zhd (cell_of_row w8 gc 0 _ _ _ h1),zhJ ha8.m.is⟩
   clear ha8 hi8 ho8 hb8 hk8 k0 k1 k2 k3 k4 k5 k6 k7 z0 z1;go_wp2;go_roundw
   case rel=>exact⟨MM',DD',st',HA8,HI8,HC8,HT8,HK8,HW8⟩
   case measure =>
    rw[HL8.o.1,HL8.o.2,HLB.o,HCB.o];have h1:=HO8.o.l;have h2:=HO8.o.c;have h3:=HI8.o.b.cnt;omega
structure MvSt (G:Gm.Gr) (w:World) (base D:Nat) (l:List Au.It):Prop where
 m:∃ml,Mw.MapIs zfU w D ml/\(∀s,(Mw.asc ml s=none/\Au.mv G l s=[]) \/ ∃v,Mw.asc ml s=some v/\Au.mv G l s≠[]/\aQ 60 2 prF w base v (Au.mv G l s)) /\
  ∀s s' v v',s≠s'->Mw.asc ml s=some v->Mw.asc ml s'=some v'->v'.ownBlock≠v.ownBlock
theorem zeU {T:TypeId} {m:Nat} {α:Type} {f:α->List Value} {w:World} {base:Nat} {v:Value} {xs:List α} (h:aQ T m f w base v xs) (h0:xs≠[]):∃g,v.ownBlock=some g/\base<=g/\g<w.heap.size:=by
 rcases h.2 with⟨_,h1⟩|⟨g,cap,cur,rfl,hb,hg,_⟩
 ·exact absurd (List.eq_nil_of_length_eq_zero h1) h0
 ·exact⟨g,rfl,hb,(Array.getElem?_eq_some_iff.1 hg).1⟩
section
variable {G:Gm.Gr} {w w' w2:World} {base D:Nat} {l:List Au.It}
theorem MvSt.start (G:Gm.Gr) (w:World) (base:Nat) (h:Mw.MapIs zfU w D []):MvSt G w base D []:=⟨[],h,fun s=>.inl ⟨rfl,rfl⟩,fun _ _ _ _ _ h=>by cases h⟩
theorem MvSt.keep (h:MvSt G w base D l) (hD:w'.heap[D]?=w.heap[D]?) (hk:∀g cur,base<=g->w.heap[g]?=some (.cells cur 60 (0,0))->w'.heap[g]?=some (.cells cur 60 (0,0))):MvSt G w' base D l:=by
 obtain⟨ml,h1,h2,h3⟩:=h;refine⟨ml,h1.block hD,fun s=>?_,h3⟩;rcases h2 s with q|⟨v,q1,q2,q3⟩
 ·exact .inl q
 ·refine .inr ⟨v,q1,q2,?_⟩;refine⟨q3.1,?_⟩;rcases q3.2 with h0|⟨g,cap,cur,e,hb1,hg,hr⟩
  ·exact .inl h0
  ·exact .inr ⟨g,cap,cur,e,hb1,hk g cur hb1 hg,hr⟩
theorem MvSt.below (h:MvSt G w base D l) (hb:Below w.heap.size w w'):MvSt G w' base D l:=h.keep (by obtain⟨ml,h1,_⟩:=h.m;exact hb.block _ h1.lt) fun g _ _ hg=>(hb.block g (Array.getElem?_eq_some_iff.1 hg).1).trans hg
theorem MvSt.skip (h:MvSt G w base D l) {x:Au.It} (hx:Au.nx G x=none):MvSt G w base D (l++[x]):=by
 obtain⟨ml,h1,h2,h3⟩:=h;refine⟨ml,h1,fun s=>?_,h3⟩;have e:Au.mv G (l++[x]) s=Au.mv G l s:=by rw[Au.mv_app,Au.mv_one_no (by rw[hx];simp),List.append_nil]
 rw[e];exact h2 s
theorem MvSt.put {ml:List (Int×Value)} {x:Au.It} {s:Int} {v v':Value} (hx:Au.nx G x=some s)
  (h2:∀s,(Mw.asc ml s=none/\Au.mv G l s=[]) \/ ∃v,Mw.asc ml s=some v/\Au.mv G l s≠[]/\aQ 60 2 prF w base v (Au.mv G l s))
  (h3:∀s s' v v',s≠s'->Mw.asc ml s=some v->Mw.asc ml s'=some v'->v'.ownBlock≠v.ownBlock)
  (hv:v=(Mw.asc ml s).getD (.slice none 0 0)) (ho:aQ 60 2 prF w' base v' (Au.mv G l s++[(x.1,x.2+1)])) (hg:w.grownBy w' v.ownBlock) (hat:v'.ownBlock=v.ownBlock \/ ∃j,w.heap.size<=j/\v'.ownBlock=some j)
  (hm:Mw.MapIs zfU w2 D (Mw.putA ml s v')) (hg2:w'.grownBy w2 (some D)) (hD:∃es ck,w'.heap[D]?=some (.map es ck)):MvSt G w2 base D (l++[x]):=by
 obtain⟨es,ck,hDb⟩:=hD;refine⟨_,hm,fun s'=>?_,fun s1 s2 v1 v2 hne e1 e2=>?_⟩
 ·rw[Mw.asc_put];by_cases e:s=s'
  ·subst e;rw[if_pos rfl];have e1:Au.mv G (l++[x]) s=Au.mv G l s++[(x.1,x.2+1)]:=by rw[Au.mv_app,Au.mv_one hx]
   rw[e1];exact .inr ⟨v',rfl,by simp,World.ownsRow.kept ho hg2 (zaf ho hDb fun cur e=>by cases e)⟩
  ·rw[if_neg e];have e1:Au.mv G (l++[x]) s'=Au.mv G l s':=by rw[Au.mv_app,Au.mv_one_no (by rw[hx];simp;exact e),List.append_nil]
   rw[e1];rcases h2 s' with q|⟨u,q1,q2,q3⟩
   ·exact .inl q
   ·have k1:aQ 60 2 prF w' base u (Au.mv G l s'):=World.ownsRow.kept q3 hg (by
     rcases h2 s with q|⟨u',p1,p2,p3⟩
     ·rw[hv,q.1];obtain⟨g,hg,_⟩:=zeU q3 q2;exact .inr (by rw[hg];intro q;cases q)
     ·rw[hv,p1];exact .inr (h3 s s' u' u e p1 q1))
    exact .inr ⟨u,q1,q2,World.ownsRow.kept k1 hg2 (zaf k1 hDb fun cur e=>by cases e)⟩
 ·rw[Mw.asc_put]at e1 e2
  have key:∀s2 u,s≠s2->Mw.asc ml s2=some u->u.ownBlock≠v'.ownBlock:=fun s2 u hs eu q=>by
   rcases h2 s2 with k|⟨u',p1,p2,p3⟩
   ·rw[k.1]at eu;cases eu
   ·rw[p1]at eu;injection eu with eu;subst eu;obtain⟨g,hg1,_,hg3⟩:=zeU p3 p2;rcases hat with hat|hat
    ·rw[hat]at q;rcases h2 s with k|⟨u2,r1,r2,r3⟩
     ·rw[hv,k.1,hg1]at q;cases q
     ·rw[hv,r1]at q;exact h3 s s2 u2 u' hs r1 p1 q
    ·obtain⟨j,hj,hat⟩:=hat;rw[hat,hg1]at q;injection q with q;omega
  by_cases a1:s=s1
  ·rw[if_pos a1]at e1;injection e1 with e1;subst e1;by_cases a2:s=s2
   ·exact absurd (a1.symm.trans a2) hne
   ·rw[if_neg a2]at e2;exact key s2 v2 a2 e2
  ·rw[if_neg a1]at e1;by_cases a2:s=s2
   ·rw[if_pos a2]at e2;injection e2 with e2;subst e2;exact fun q=>key s1 v1 a1 e1 q.symm
   ·rw[if_neg a2]at e2;exact h3 s1 s2 v1 v2 hne e1 e2
end
theorem zit {a w w':World} {D base n:Nat} {T:TypeId} {m:Nat} {v:Value} {xs:List Value} (h:a.grownBy w (some D)) (ho:w.ownsRow base T m v n xs) (hg:w.grownBy w' v.ownBlock) (hb:a.heap.size<=base):a.grownBy w' (some D) :=
 ⟨hg.os.trans h.os,hg.tape.trans h.tape,hg.output.trans h.output,Nat.le_trans h.size hg.size,fun i hi hne=>(hg.block i (Nat.lt_of_lt_of_le hi h.size) (fun e=>by have:=(World.ownsRow.lt ho i e.symm).1;omega)).trans (h.block i hi hne)⟩
theorem zhV (v:Value) (G:Gm.Gr) (B:Nat) (w:World) (hg:aT w B v G) (ht:G.ts.length<=1000) (hn:G.ns.length<=1000) :
  Calls Tryz.prog 74 #[v] w fun e w'=>∃v',e=.returned v'/\aU w' w.heap.size v' (Au.syms G)/\Below w.heap.size w w':=by
 obtain⟨AT,cT,AN,cN,AR,cR,rfl,⟨hlT,hmT⟩,⟨hlN,hmN⟩,_⟩:=hg;have HS0:=aA (bK.start 26 w #[.slice AT G.ts.length cT,.slice AN G.ns.length cN,.slice AR G.rs.length cR,.int .i64 G.st]);have g0:=HS0.o.c 0 _ rfl;have HE:Hid (Au.syms G=(List.range G.ts.length).map (fun i:Nat=>(i:Int))++(List.range G.ns.length).map fun i:Nat=>-1-(i:Int)):=aA rfl;rw[HE.o];clear HE;have ht2:(G.ts.length:Int)<=1000:=by omega
 have hn2:(G.ns.length:Int)<=1000:=by omega
 clear ht hn
 go_enter Tryz.func74,Tryz.ntmps74
 go_wp2;clear g0;go_loopw [3,9] (fun vl vi wr=>∃i:Nat,i<=G.ts.length/\vi=.int .i64 i/\Hid (aU wr (w.heap.size+1) vl ((List.range i).map fun i:Nat=>(i:Int)))/\Hid (bK 26 w #[.slice AT G.ts.length cT,.slice AN G.ns.length cN,.slice AR G.rs.length cR,.int .i64 G.st] wr)) (fun _ vi _=>G.ts.length-(intOf vi).toNat)
 case atStart=>exact⟨0,Nat.zero_le _,rfl,aA (aU.nil _ _),HS0⟩
 case round =>
  obtain⟨i,hi,rfl,HO,HW⟩:=hrel;have hZ:=HW.o.size;obtain⟨A1,c1,rfl,hlc,hmc,hrd⟩:=aU.form HO.o;by_cases hlt:i<G.ts.length
  ·have HLN:Hid (((List.range i).map fun i:Nat=>(i:Int)).length<=1000):=aA (by simp;omega);have HE:Hid (((List.range (i+1)).map fun i:Nat=>(i:Int))=((List.range i).map fun i:Nat=>(i:Int))++[(i:Int)]):=aA (by rw[List.range_succ,List.map_append];rfl);clear hrd;generalize ((List.range i).map fun i:Nat=>(i:Int))=t at *;have HO1:=aA (HO.o.alloc (.cells #[.int .i64 (i:Int)] 3));have HW1:=aA (HW.o.alloc (.cells #[.int .i64 (i:Int)] 3));go_wp2_with (at_builtin;refine zaT rfl (.tmp 12) (.tmp 14) _ rfl Tryz.underlying38 (w.heap.size+1) _ t rfl HO1.o _ _ (i:Int) rfl ((aL _ [.int .i64 (i:Int)] _ 0)) (by have:=HLN.o;omega) HW1.o.size ?_;intro v2 w2 ho2 hg2)
   have HO2:=aA ho2;have HW2:Hid (bK 26 w #[.slice AT G.ts.length cT,.slice AN G.ns.length cN,.slice AR G.rs.length cR,.int .i64 G.st] w2):=aA (Below.grown HW1.o hg2 HW1.o.size (fun k e=>(World.ownsRow.lt HO1.o k e).1));clear ho2 hg2;go_roundw
   case rel=>exact⟨i+1,hlt,by go_num,aA (by rw[HE.o];exact HO2.o),HW2⟩
   case measure=>simp[intOf];omega
  ·obtain rfl:i=G.ts.length:=by omega
   obtain⟨wo,hwo⟩:∃wo:World,wo=wr:=⟨_,rfl⟩
   subst hwo;have g1:=HW.o.c 1 _ rfl;have HTL:Hid (((List.range G.ts.length).map fun i:Nat=>(i:Int)).length<=1000):=aA (by simp;omega);clear hrd;generalize htl:((List.range G.ts.length).map fun i:Nat=>(i:Int))=tl at *;have HTE:=aA htl;clear htl;go_wp2;clear g1;go_loopw [3,20] (fun vl vi wr=>∃i:Nat,i<=G.ns.length/\vi=.int .i64 i/\Hid (aU wr (w.heap.size+1) vl (tl++(List.range i).map fun i:Nat=>-1-(i:Int)))/\Hid (bK 26 w #[.slice AT G.ts.length cT,.slice AN G.ns.length cN,.slice AR G.rs.length cR,.int .i64 G.st] wr)) (fun _ vi _=>G.ns.length-(intOf vi).toNat)
   case atStart=>exact⟨0,Nat.zero_le _,rfl,by simpa using HO,HW⟩
   case round =>
    obtain⟨i,hi,rfl,HO,HW⟩:=hrel;have hZ:=HW.o.size;obtain⟨A1,c1,rfl,hlc,hmc,hrd⟩:=aU.form HO.o;by_cases hlt:i<G.ns.length
    ·have HLN:Hid ((tl++(List.range i).map fun i:Nat=>-1-(i:Int)).length<=2000):=aA (by have:=HTL.o;simp;omega);have HE:Hid ((tl++(List.range (i+1)).map fun i:Nat=>-1-(i:Int))=(tl++(List.range i).map fun i:Nat=>-1-(i:Int))++[-1-(i:Int)]):=aA (by rw[List.range_succ,List.map_append,List.append_assoc];rfl);have HNO:=aA (fun w=>zdi (i:Int) (by omega) (by omega) w);clear hrd;generalize (tl++(List.range i).map fun i:Nat=>-1-(i:Int))=t at *;have HO1:=aA (HO.o.alloc (.cells #[.int .i64 (-1-(i:Int))] 3));have HW1:=aA (HW.o.alloc (.cells #[.int .i64 (-1-(i:Int))] 3));go_wp2_with fail
     refine(HNO.o _).mono ?_;rintro _ wz ⟨rfl,hwz⟩;subst hwz;go_wp2_with (at_builtin;refine zaT rfl (.tmp 23) (.tmp 26) _ rfl Tryz.underlying38 (w.heap.size+1) _ t rfl HO1.o _ _ (-1-(i:Int)) rfl ((aL _ [.int .i64 (-1-(i:Int))] _ 0)) (by have:=HLN.o;omega) HW1.o.size ?_;intro v2 w2 ho2 hg2)
     have HO2:=aA ho2;have HW2:Hid (bK 26 w #[.slice AT G.ts.length cT,.slice AN G.ns.length cN,.slice AR G.rs.length cR,.int .i64 G.st] w2):=aA (Below.grown HW1.o hg2 HW1.o.size (fun k e=>(World.ownsRow.lt HO1.o k e).1));clear ho2 hg2;go_roundw
     case rel=>exact⟨i+1,hlt,by go_num,aA (by rw[HE.o];exact HO2.o),HW2⟩
     case measure=>simp[intOf];omega
    ·obtain rfl:i=G.ns.length:=by omega
     have HX:Hid (aU wr w.heap.size (.slice A1 (tl++(List.range G.ns.length).map fun i:Nat=>-1-(i:Int)).length c1) (tl++(List.range G.ns.length).map fun i:Nat=>-1-(i:Int))):=aA (HO.o.mono (by omega));clear hrd;generalize hq:(tl++(List.range G.ns.length).map fun i:Nat=>-1-(i:Int))=q at *;have HQ:=aA hq;clear hq;go_wp2;go_ret
     exact⟨_,rfl,by rw[HTE.o,HQ.o];exact HX.o,HW.o.below⟩
end Go.Proofs.YtcmhaemaophplaaGreat
