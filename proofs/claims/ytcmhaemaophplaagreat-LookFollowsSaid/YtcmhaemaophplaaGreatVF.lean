/- Part of the proofs over this program: TrimReach, TrimRef, YaccW, LexToks, YaccRd, YaccP, YaccDecl, Ref8R, YaccSource, YaccOf, ScanL, Ref7, YaccList, BldW. -/
import Derived.Deep.DeepCutAuto
import Derived.Defers
import Derived.Recover
import Derived.Test.YtcmhaemaophplaaGreatVE
namespace Go.Proofs.YtcmhaemaophplaaGreat
set_option maxRecDepth 100000
set_option maxHeartbeats 40000000
open Go.RowKit
def Gm.brR (p is:List Bool) (x:Gm.Rl):List Int:=if is.getD x.l.toNat false=true/\Gm.allB true p x.r=true then Gm.nts x.r else []
theorem zfH (x:Gm.Rl) (is p:List Bool) (A A1 A2:Option Addr) (c c1 c2 B B1 B2 gk gp:Nat) (w:World)
  (hgk:w.cell? ⟨gk,0,none⟩=some (.slice A1 is.length c1)) (hgp:w.cell? ⟨gp,0,none⟩=some (.slice A2 p.length c2)) (hr:RdI w B A x.r) (h1:RdO w B1 A1 is) (h2:RdO w B2 A2 p)
  (hB:B<=w.heap.size) (hB2:B2<=w.heap.size) (hin:∀z∈x.r,Gm.In z) (hs:∀z∈x.r,z<0->-1-z<(p.length:Int)) (hx:0<=x.l/\x.l<is.length) (hl:x.r.length<=1000000) :
  Calls Tryz.prog 163 #[.agg #[.int .i64 x.l,.slice A x.r.length c,.int .i64 x.p],.pointer (some ⟨gk,0,none⟩),.pointer (some ⟨gp,0,none⟩)] w fun e w'=>∃v,e=.returned v/\aU w' w.heap.size v (Gm.brR p is x)/\Below w.heap.size w w':=by
 have HA:=aA (fun o=>(Below.refl w.heap.size w).alloc (Nat.le_refl _) o);have HNO:=aA (fun(y:World) (h:Below w.heap.size w y)=>zeX x A c B y (hr.below h hB) hin (Nat.le_trans hB h.size) hl);have HPR:=aA (fun(y:World) (h:Below w.heap.size w y)=>zaU x p A A2 c c2 w.heap.size y ((hr.below h hB).more hB) hin hs ((h2.below h hB2).more hB2) h.size hl);have HE:Hid (Gm.brR p is x=if is.getD x.l.toNat false=true/\Gm.allB true p x.r=true then Gm.nts x.r else []):=aA rfl;obtain⟨l,r,q⟩:=x;obtain⟨m,rfl⟩:∃m:Nat,l=(m:Int):=⟨l.toNat,by have:=hx.1;simp only at this;omega⟩
 simp only[Int.toNat_natCast]at HE hx HNO HPR ⊢;obtain⟨g,o,rfl,hgb,hc⟩:=h1 (by omega);have hm:m<is.length:=by omega
 have hm2:(m:Int)<(is.length:Int):=by omega
 have k0:=hc m hm;have hl1:=block_lt_of_cell hgk;have hl2:=block_lt_of_cell hgp;have hl3:=block_lt_of_cell k0;have HK2:=aA hgp;generalize is.getD m false=b at *;clear hr h1 h2 hB hB2 hin hs hx hl hc;cases b
 ·have HX:=aA (HE.o.trans (if_neg (by simp)));clear HE
  go_enter Tryz.func163,Tryz.ntmps163
  go_wp2;go_ret
  exact⟨_,rfl,by rw[HX.o];exact aU.nil _ _,HA.o _⟩
 ·cases ha:Gm.allB true p r
  ·have HX:=aA (HE.o.trans (if_neg (by rw[ha];simp)));rw[ha]at HPR;clear HE ha
   go_enter Tryz.func163,Tryz.ntmps163
   go_wp2_with fail
   refine(HPR.o _ (HA.o _)).mono ?_;rintro _ w2 ⟨rfl,hb2⟩;have HB2:=aA ((HA.o (.cells #[.int .i64 m,.slice A r.length c,.int .i64 q] 48)).trans (hb2.mono (by simp)));clear hb2;go_wp2;go_ret
   exact⟨_,rfl,by rw[HX.o];exact aU.nil _ _,HB2.o⟩
  ·have HX:=aA (HE.o.trans (if_pos ⟨rfl,ha⟩));rw[ha]at HPR;clear HE ha
   go_enter Tryz.func163,Tryz.ntmps163
   go_wp2_with fail
   refine(HPR.o _ (HA.o _)).mono ?_;rintro _ w2 ⟨rfl,hb2⟩;have HB2:=aA ((HA.o (.cells #[.int .i64 m,.slice A r.length c,.int .i64 q] 48)).trans (hb2.mono (by simp)));have hb:=(hb2.block w.heap.size (by simp)).trans (heap_alloc_new w _);have d0:=cell_of_row w2 _ 0 _ _ _ hb;have d1:=cell_of_row w2 _ 1 _ _ _ hb;have d2:=cell_of_row w2 _ 2 _ _ _ hb;have ld:=(Array.getElem?_eq_some_iff.1 hb).1;clear hb2 hb;go_wp2_with fail
   refine(HNO.o _ HB2.o).mono ?_;rintro _ w3 ⟨v,rfl,ho3,hb3⟩;have HO3:=aA (ho3.mono HB2.o.size);have HB3:=aA (HB2.o.trans (hb3.mono HB2.o.size));clear ho3 hb3;go_wp2;go_ret
   exact⟨_,rfl,by rw[HX.o];exact HO3.o,HB3.o⟩
theorem zjV (w:World) (t:TypeId) (ht:Tryz.prog.underlying t=some (.slice 4)) (n:Nat) (hn:n<=35184372088832) :
  ∃w',(Instr.makeSlice t (.int .i64 n) (.int .i64 n)).run Tryz.prog w=.ok (.slice (some ⟨w.heap.size,0,none⟩) n n) w'/\UBO w' w.heap.size (List.replicate n false)/\Below w.heap.size w w':=by
 obtain⟨i,hi,hz0,hz1,hz2⟩:=info_parts zlQ;obtain⟨w',hrun,hown,hgr⟩:=run_make_full (P:=Tryz.prog) w w.heap.size t 4 i (.bool false) 1 ht hi hz0 hz1 .i64 .i64 n (by rw[hz2];omega) (by unfold maxLen;omega) (Nat.le_refl _);refine⟨w',hrun,?_,⟨hgr.os,hgr.tape,hgr.output,hgr.size,fun k hk=>hgr.block k hk (by simp)⟩⟩;refine zbU (base:=w.heap.size) (n:=n) ?_;rw[zba]
 have e:(madeCells (Value.bool false).cells (n*1)).toList=List.replicate n (Value.bool false):=by
  rw[Nat.mul_one];exact toList_madeCells_one _ _
 rw[e]at hown;exact hown
theorem zlq {w:World} {o:Oper} {a:Act} {K:Act->World->Prop} {Q:Exit->Act->World->Prop} (l c:Operand) (t:TypeId) (hop:o.op=Op.makeSlice t l c) (ht:Tryz.prog.underlying t=some (.slice 4)) (n:Nat) (hl:a.eval l=.int .i64 n) (hc:a.eval c=.int .i64 n) (hn:n<=35184372088832)
  (hK:∀w',UBO w' w.heap.size (List.replicate n false)->Below w.heap.size w w'->K (a.put o.dst (.slice (some ⟨w.heap.size,0,none⟩) n n)) w'):Oper.wp Tryz.prog o a w K Q:=by
 obtain⟨w',hrun,h1,h2⟩:=zjV w t ht n hn;unfold Oper.wp;simp[execOp,hop,hl,hc,hrun,Result.andThen];exact hK w' h1 h2
structure JR (w2:World) (n:Nat) (row:List Bool) (todo:List Nat) (wx:World) (x3 x5 x6 x7:Value) (g3 g5 c6 c7:Nat):Prop where
 t:∀k∈todo,k=3\/k=5\/k=6\/k=7
 b:Below w2.heap.size w2 wx
 h3:3 ∉ todo->x3=.slice (some ⟨g3,0,none⟩) n n/\w2.heap.size<=g3/\UBO wx g3 (List.replicate n false)
 h5:5 ∉ todo->x5=.slice (some ⟨g5,0,none⟩) n n/\w2.heap.size<=g5/\UBO wx g5 row
 h6:6 ∉ todo->x6=.pointer (some ⟨c6,0,none⟩)/\w2.heap.size<=c6/\wx.heap[c6]?=some (.cells #[.slice none 0 0] 43 (0,0))
 h7:7 ∉ todo->x7=.pointer (some ⟨c7,0,none⟩)/\w2.heap.size<=c7/\wx.heap[c7]?=some (.cells #[.slice none 0 0] 43 (0,0))
 d35:3 ∉ todo->5 ∉ todo->g3≠g5
 d67:6 ∉ todo->7 ∉ todo->c6≠c7
section
variable {w2 wx w':World} {n:Nat} {row:List Bool} {todo:List Nat} {x3 x5 x6 x7:Value} {g3 g5 c6 c7:Nat}
theorem aD {l:List Nat} {j k:Nat} (h:j ∉ l.erase k) (hne:j≠k):j ∉ l:=fun hm=>h ((List.mem_erase_of_ne hne).2 hm)
theorem aC {g:Nat} {o:Obj} (hb:Below wx.heap.size wx w') (h:wx.heap[g]?=some o):w'.heap[g]?=some o:=(hb.block g (Array.getElem?_eq_some_iff.1 h).1).trans h
theorem JR.put3 (h:JR w2 n row todo wx x3 x5 x6 x7 g3 g5 c6 c7) (hb:Below wx.heap.size wx w') (hu:UBO w' wx.heap.size (List.replicate n false)):JR w2 n row (todo.erase 3) w' (.slice (some ⟨wx.heap.size,0,none⟩) n n) x5 x6 x7 wx.heap.size g5 c6 c7 where
 t k hk:=h.t k (List.mem_of_mem_erase hk)
 b:=h.b.trans (hb.mono h.b.size)
 h3 _:=⟨rfl,h.b.size,hu⟩
 h5 q:=by obtain⟨a1,a2,a3⟩:=h.h5 (aD q (by decide));exact⟨a1,a2,aC hb a3⟩
 h6 q:=by obtain⟨a1,a2,a3⟩:=h.h6 (aD q (by decide));exact⟨a1,a2,aC hb a3⟩
 h7 q:=by obtain⟨a1,a2,a3⟩:=h.h7 (aD q (by decide));exact⟨a1,a2,aC hb a3⟩
 d35 _ q:=by have:=UBO.lt (h.h5 (aD q (by decide))).2.2;omega
 d67 q1 q2:=h.d67 (aD q1 (by decide)) (aD q2 (by decide))
theorem JR.put5 (h:JR w2 n row todo wx x3 x5 x6 x7 g3 g5 c6 c7) (hb:Below wx.heap.size wx w') {g:Nat} (hg:wx.heap.size<=g) (hu:UBO w' g row):JR w2 n row (todo.erase 5) w' x3 (.slice (some ⟨g,0,none⟩) n n) x6 x7 g3 g c6 c7 where
 t k hk:=h.t k (List.mem_of_mem_erase hk)
 b:=h.b.trans (hb.mono h.b.size)
 h5 _:=⟨rfl,Nat.le_trans h.b.size hg,hu⟩
 h3 q:=by obtain⟨a1,a2,a3⟩:=h.h3 (aD q (by decide));exact⟨a1,a2,aC hb a3⟩
 h6 q:=by obtain⟨a1,a2,a3⟩:=h.h6 (aD q (by decide));exact⟨a1,a2,aC hb a3⟩
 h7 q:=by obtain⟨a1,a2,a3⟩:=h.h7 (aD q (by decide));exact⟨a1,a2,aC hb a3⟩
 d35 q _:=by have:=UBO.lt (h.h3 (aD q (by decide))).2.2;omega
 d67 q1 q2:=h.d67 (aD q1 (by decide)) (aD q2 (by decide))
theorem JR.put6 (h:JR w2 n row todo wx x3 x5 x6 x7 g3 g5 c6 c7):JR w2 n row (todo.erase 6) (wx.alloc (.cells #[.slice none 0 0] 43)) x3 x5 (.pointer (some ⟨wx.heap.size,0,none⟩)) x7 g3 g5 wx.heap.size c7 where
 t k hk:=h.t k (List.mem_of_mem_erase hk)
 b:=h.b.alloc h.b.size _
 h6 _:=⟨rfl,h.b.size,heap_alloc_new wx _⟩
 h3 q:=by obtain⟨a1,a2,a3⟩:=h.h3 (aD q (by decide));exact⟨a1,a2,a3.alloc _⟩
 h5 q:=by obtain⟨a1,a2,a3⟩:=h.h5 (aD q (by decide));exact⟨a1,a2,a3.alloc _⟩
 h7 q:=by obtain⟨a1,a2,a3⟩:=h.h7 (aD q (by decide));exact⟨a1,a2,aC ((Below.refl _ _).alloc (Nat.le_refl _) _) a3⟩
 d35 q1 q2:=h.d35 (aD q1 (by decide)) (aD q2 (by decide))
 d67 _ q:=by have:=(Array.getElem?_eq_some_iff.1 (h.h7 (aD q (by decide))).2.2).1;omega
theorem JR.put7 (h:JR w2 n row todo wx x3 x5 x6 x7 g3 g5 c6 c7):JR w2 n row (todo.erase 7) (wx.alloc (.cells #[.slice none 0 0] 43)) x3 x5 x6 (.pointer (some ⟨wx.heap.size,0,none⟩)) g3 g5 c6 wx.heap.size where
 t k hk:=h.t k (List.mem_of_mem_erase hk)
 b:=h.b.alloc h.b.size _
 h7 _:=⟨rfl,h.b.size,heap_alloc_new wx _⟩
 h3 q:=by obtain⟨a1,a2,a3⟩:=h.h3 (aD q (by decide));exact⟨a1,a2,a3.alloc _⟩
 h5 q:=by obtain⟨a1,a2,a3⟩:=h.h5 (aD q (by decide));exact⟨a1,a2,a3.alloc _⟩
 h6 q:=by obtain⟨a1,a2,a3⟩:=h.h6 (aD q (by decide));exact⟨a1,a2,aC ((Below.refl _ _).alloc (Nat.le_refl _) _) a3⟩
 d35 q1 q2:=h.d35 (aD q1 (by decide)) (aD q2 (by decide))
 d67 q _:=by have:=(Array.getElem?_eq_some_iff.1 (h.h6 (aD q (by decide))).2.2).1;omega
end
theorem Gm.brR_in {G:Gm.Gr} (hok:Gm.Ok G) {s:List Bool} {x:Gm.Rl} (hx:x∈G.rs) (hd:∀i:Nat,s.getD i false=true->Gm.Rc G (i:Int)) {m:Int} (hm:m∈Gm.brR (Gm.gn true G.rs G.ns.length) s x):0<=m/\m<G.ns.length/\Gm.Rc G m:=by
 unfold Gm.brR at hm;split at hm
 ·rename_i h
  obtain⟨h1,h2⟩:=Gm.nts_mem.1 hm;have h3:=hok.sin x hx _ h1 (by omega);have h4:=hd _ h.1;rw[Int.toNat_of_nonneg (hok.lin x hx).1]at h4;have h5:=Gm.Rc.on x hx h4 ((Gm.allB_gn hok.lin _).1 h.2) _ h1 (by omega);rw[show -1-(-1-m)=m by omega]at h5 h3;exact⟨h2,h3,h5⟩
 ·simp at hm
theorem Gm.brR_len (p s:List Bool) (x:Gm.Rl) (h:x.r.length<=6):(Gm.brR p s x).length<=1000000:=by
 unfold Gm.brR;split
 ·have:=Gm.nts_len x.r;omega
 ·simp
theorem Gm.rc_of {G:Gm.Gr} (hok:Gm.Ok G) {s:List Bool} (hl:s.length=G.ns.length) (hd:∀i:Nat,s.getD i false=true->Gm.Rc G (i:Int)) (hle:Gm.Le ((List.replicate G.ns.length false).set G.st.toNat true) s)
  (hc:∀x∈G.rs,∀m∈Gm.brR (Gm.gn true G.rs G.ns.length) s x,s.getD m.toNat false=true):s=Gm.rc G:=by
 refine Gm.rc_row hl hd ⟨hle.get _ (Gm.set_getD _ _ (by have:=hok.s0;have:=hok.s1;simp;omega)),fun x hx h1 h2 z hz hn=>?_⟩;refine hc x hx (-1-z) ?_;unfold Gm.brR;rw[if_pos ⟨h1,(Gm.allB_gn hok.lin _).2 h2⟩];exact Gm.nts_mem.2 ⟨by rw[show -1-(-1-z)=z by omega];exact hz,by omega⟩
theorem Gm.st_snd {G:Gm.Gr} (hok:Gm.Ok G) (i:Nat) (h:((List.replicate G.ns.length false).set G.st.toNat true).getD i false=true):Gm.Rc G (i:Int):=by
 rcases Gm.getD_set _ _ _ h with h1|h1
 ·rw[List.getD_eq_getElem?_getD,List.getElem?_replicate]at h1;split at h1 <;> cases h1
 ·rw[h1,Int.toNat_of_nonneg hok.s0];exact .st
theorem zcV (v:Value) (G:Gm.Gr) (B:Nat) (w:World) (hg:aT w B v G) (hf:Gm.Fit G) (hB:B<=w.heap.size) :
  Calls Tryz.prog 140 #[v] w (zkE (Gm.right G) (Gm.rc G) w):=by
 have H1:=aA (fun(x:World) (h:Below w.heap.size w x)=>zaK v G B x (hg.below h hB) hf (Nat.le_trans hB h.size));have H2:=aA (fun(x:World) (h:Below w.heap.size w x)=>zaH v G B x (hg.below h hB) hf (Nat.le_trans hB h.size));have HGG:=aA (fun(x:World) (h:Below w.heap.size w x)=>hg.below h hB);obtain⟨AT,cT,AN,cN,AR,cR,rfl,_,⟨hlN,hmN⟩,_,_,_,hR⟩:=hg;have HS0:=aA (One.start w #[.slice AT G.ts.length cT,.slice AN G.ns.length cN,.slice AR G.rs.length cR,.int .i64 G.st]);have HRl:=aA hR;have HB:=aA hB;have HFT:=aA hf;clear hf hR hB;cases q:Gm.right G
 ·rw[q]at H1;clear q H2
  go_enter Tryz.func140,Tryz.ntmps140
  go_wp2_with fail
  refine(H1.o _ HS0.o.below).mono ?_;rintro _ w2 ⟨rfl,hb⟩;have HB2:=aA (HS0.o.on hb);clear hb;go_wp2;go_ret
  exact⟨fun h=>by simp at h,fun _=>⟨rfl,HB2.o.below⟩⟩
 ·have HOK:=aA (Gm.right_ok.1 q);have HN:Hid (G.ns.length<=40):=aA (by have:=(Gm.nons_iff G).1 HOK.o.n;omega);have HR40:Hid (G.rs.length<=40):=aA HOK.o.r40;have H2:=aA (fun x h=>(show Calls _ _ _ _ (zh1 _ _) from(H2.o x h).mono fun e w' k=>k.1 q));rw[q]at H1;clear q;have hnn:=HN.o;have hlen:(G.ns.length:Int)<=9223372036854775807:=by omega
  go_enter Tryz.func140,Tryz.ntmps140
  go_upto_region 3 with fail
  refine(H1.o _ HS0.o.below).mono ?_;rintro _ w2 ⟨rfl,hb⟩;have HB2:=aA (HS0.o.on hb);clear hb;go_upto_region 3 with fail
  have HW2:Hid (Below w.heap.size w w2):=aA HB2.o.below;have HBX:=aA ((Below.block HB2.o w.heap.size (by omega)).trans (heap_alloc_new w _));have hd1:w.heap.size<w2.heap.size:=HB2.o.size;obtain⟨T,hT⟩:∃x,x=Gm.gn true G.rs G.ns.length:=⟨_,rfl⟩
  have HTl:Hid (T.length=G.ns.length):=aA (by rw[hT,Gm.gn_len]);rw[<-hT]at H2;have HT:=aA hT;clear hT;have H3:=aA (fun(x:World) (h:Below w2.heap.size w2 x)=>H2.o x (HW2.o.trans (h.mono (Nat.le_of_lt hd1))));have q0:=fun y:Calm.On w2.heap.size w2=>(y.2.cell (p:=⟨w.heap.size,0,none⟩) hd1).trans (HB2.o.c 0 _ rfl);have q1:=fun y:Calm.On w2.heap.size w2=>(y.2.cell (p:=⟨w.heap.size,1,none⟩) hd1).trans (HB2.o.c 1 _ rfl);have q2:=fun y:Calm.On w2.heap.size w2=>(y.2.cell (p:=⟨w.heap.size,2,none⟩) hd1).trans (HB2.o.c 2 _ rfl);have q3:=fun y:Calm.On w2.heap.size w2=>(y.2.cell (p:=⟨w.heap.size,3,none⟩) hd1).trans (HB2.o.c 3 _ rfl);clear H1 HS0 H2
  refine CalmN.region_all (fun x=>∃y:Calm.On w2.heap.size w2,x=y.1) [0,1,2,4] [3,5,6,7] (.one [] 8 (.one [] 9 (.fin [])))
   (fun todo a wx=>∃x3 x5 x6 x7 g3 g5 c6 c7,a = {tmps:=#[.agg #[.slice AT G.ts.length cT,.slice AN G.ns.length cN,.slice AR G.rs.length cR,.int .i64 G.st],.pointer (some ⟨w.heap.size,0,none⟩),.slice none 0 0,x6,x7,.agg #[.slice AT G.ts.length cT,.slice AN G.ns.length cN,.slice AR G.rs.length cR,.int .i64 G.st],.bool true,.bool false,.pointer (some ⟨w.heap.size,1,none⟩),.slice AN G.ns.length cN,.int .i64 G.ns.length,x3,.agg #[.slice AT G.ts.length cT,.slice AN G.ns.length cN,.slice AR G.rs.length cR,.int .i64 G.st],x5,undef,undef,undef,undef,undef,undef,undef,undef,undef,undef],defers:=[]}/\JR w2 G.ns.length T todo wx x3 x5 x6 x7 g3 g5 c6 c7)
   (by kernel_rfl) (by kernel_rfl) (fun _ _ d _ _ h=>by cases d <;> exact h) ⟨⟨w2.drew,aB (Below.refl _ _) 1⟩,rfl⟩ ?_ ?_ ?_
  ·simp only[CalmN.pickOps,List.getElem?_toArray,List.getElem?_cons_zero,List.getElem?_cons_succ];repeat (go_big_quiet_step (fail))
   refine wpQuiet_nil ?_;exact⟨undef,undef,undef,undef,0,0,0,0,rfl,⟨by simp,aB (Below.refl _ _) 1,fun h=>absurd (by simp) h,fun h=>absurd (by simp) h,fun h=>absurd (by simp) h,fun h=>absurd (by simp) h,fun h=>absurd (by simp) h,fun h=>absurd (by simp) h⟩⟩
  ·intro todo k a wx hk hJ hS;obtain⟨x3,x5,x6,x7,g3,g5,c6,c7,rfl,hJ⟩:=hJ;have HJ:=aA hJ;have hcase:=hJ.t k hk;clear hJ hS hk q0 q1 q2 q3;rcases hcase with rfl|rfl|rfl|rfl
   ·simp only[CalmN.wpSt,List.getElem?_toArray,List.getElem?_cons_zero,List.getElem?_cons_succ];intro KK hKK;rw[if_pos (by rfl)];refine zlq (.tmp 10) (.tmp 10) _ rfl Tryz.underlying43 G.ns.length rfl rfl (by omega) ?_;intro w' hu hb;have hj:=HJ.o.put3 hb hu;exact hKK _ _ ⟨⟨w',hj.b⟩,rfl⟩ (fun x=>∃y:Calm.On w2.heap.size w2,x=y.1) (fun _ h=>h) ⟨⟨w',hj.b⟩,rfl⟩ ⟨_,x5,x6,x7,_,g5,c6,c7,rfl,hj⟩
   ·simp only[CalmN.wpSt,List.getElem?_toArray,List.getElem?_cons_zero,List.getElem?_cons_succ];intro KK hKK;rw[if_pos (by rfl)];go_wp2_with fail
    refine(H3.o wx HJ.o.b).mono ?_;rintro _ w' ⟨g,rfl,hg,hu,hb⟩;have hj:=HJ.o.put5 hb hg hu;go_wp2_with fail
    rw[HTl.o];exact hKK _ _ ⟨⟨w',hj.b⟩,rfl⟩ (fun x=>∃y:Calm.On w2.heap.size w2,x=y.1) (fun _ h=>h) ⟨⟨w',hj.b⟩,rfl⟩ ⟨x3,_,x6,x7,g3,_,c6,c7,rfl,hj⟩
   ·simp only[CalmN.wpSt,List.getElem?_toArray,List.getElem?_cons_zero,List.getElem?_cons_succ];intro KK hKK;rw[if_pos (by rfl)];have hj:=HJ.o.put6;go_wp2_with fail
    exact hKK _ _ ⟨⟨_,hj.b⟩,rfl⟩ (fun x=>∃y:Calm.On w2.heap.size w2,x=y.1) (fun _ h=>h) ⟨⟨_,hj.b⟩,rfl⟩ ⟨x3,x5,_,x7,g3,g5,_,c7,rfl,hj⟩
   ·simp only[CalmN.wpSt,List.getElem?_toArray,List.getElem?_cons_zero,List.getElem?_cons_succ];intro KK hKK;rw[if_pos (by rfl)];have hj:=HJ.o.put7;go_wp2_with fail
    exact hKK _ _ ⟨⟨_,hj.b⟩,rfl⟩ (fun x=>∃y:Calm.On w2.heap.size w2,x=y.1) (fun _ h=>h) ⟨⟨_,hj.b⟩,rfl⟩ ⟨x3,x5,x6,_,g3,g5,c6,_,rfl,hj⟩
  ·intro a wx hJ hS;obtain⟨x3,x5,x6,x7,g3,g5,c6,c7,rfl,hJ⟩:=hJ;obtain⟨rfl,hg3,hu3⟩:=hJ.h3 (by simp);obtain⟨rfl,hg5,hu5⟩:=hJ.h5 (by simp);obtain⟨rfl,hc6,hu6⟩:=hJ.h6 (by simp);obtain⟨rfl,hc7,hu7⟩:=hJ.h7 (by simp);have hd35:=hJ.d35 (by simp) (by simp);have hd67:=hJ.d67 (by simp) (by simp);have hbx:=hJ.b;clear hS q0 q1 q2 q3;have hne36:g3≠c6:=fun e=>by subst e;unfold UBO at hu3;rw[hu6]at hu3;injection hu3 with hu3;injection hu3 with _ hu3;cases hu3
   have hne56:g5≠c6:=fun e=>by subst e;unfold UBO at hu5;rw[hu6]at hu5;injection hu5 with hu5;injection hu5 with _ hu5;cases hu5
   have hne37:g3≠c7:=fun e=>by subst e;unfold UBO at hu3;rw[hu7]at hu3;injection hu3 with hu3;injection hu3 with _ hu3;cases hu3
   have hne57:g5≠c7:=fun e=>by subst e;unfold UBO at hu5;rw[hu7]at hu5;injection hu5 with hu5;injection hu5 with _ hu5;cases hu5
   have l6:=(Array.getElem?_eq_some_iff.1 hu6).1;have f6:=frozen_of_row wx _ 0 _ _ hu6;have k6:=cell_of_row wx _ 0 _ _ _ hu6;obtain⟨wy,hwy⟩:∃y,y=wx.setCell ⟨c6,0,none⟩ (.slice (some ⟨g3,0,none⟩) G.ns.length G.ns.length):=⟨_,rfl⟩
   have hby:Below w2.heap.size w2 wy:=by rw[hwy];exact hbx.setCell (p:=⟨c6,0,none⟩) hc6 _
   have hy3:UBO wy g3 (List.replicate G.ns.length false):=by rw[hwy];exact UBO.far hu3 hne36 _
   have hy5:UBO wy g5 T:=by rw[hwy];exact UBO.far hu5 hne56 _
   have hy7:wy.heap[c7]?=some (.cells #[.slice none 0 0] 43 (0,0)):=by rw[hwy];exact(Below.heap_setCell wx ⟨c6,0,none⟩ _ c7 (by simp only;omega)).trans hu7
   have hy6:wy.heap[c6]?=some (.cells #[.slice (some ⟨g3,0,none⟩) G.ns.length G.ns.length] 43 (0,0)):=by rw[hwy];exact heap_setCell_same wx c6 0 _ _ _ hu6
   clear hu3 hu5 hu6 hu7 hJ hbx;simp only[CalmN.wpT,CalmN.wpSt,CalmN.pickOps,List.getElem?_toArray,List.getElem?_cons_zero,List.getElem?_cons_succ];refine wpQuiet_nil ?_;intro KK hKK;rw[if_pos (by rfl)];go_wp2_with fail
   rw[<-hwy];refine hKK _ _ ⟨⟨wy,hby⟩,rfl⟩ (fun x=>∃y:Calm.On w2.heap.size w2,x=y.1) (fun _ h=>h) ⟨⟨wy,hby⟩,rfl⟩ ?_;clear hKK k6 f6 l6 hwy;have l7:=(Array.getElem?_eq_some_iff.1 hy7).1;have f7:=frozen_of_row wy _ 0 _ _ hy7;have k7:=cell_of_row wy _ 0 _ _ _ hy7;obtain⟨wz,hwz⟩:∃y,y=wy.setCell ⟨c7,0,none⟩ (.slice (some ⟨g5,0,none⟩) G.ns.length G.ns.length):=⟨_,rfl⟩
   have hbz:Below w2.heap.size w2 wz:=by rw[hwz];exact hby.setCell (p:=⟨c7,0,none⟩) hc7 _
   have hz3:UBO wz g3 (List.replicate G.ns.length false):=by rw[hwz];exact UBO.far hy3 hne37 _
   have hz5:UBO wz g5 T:=by rw[hwz];exact UBO.far hy5 hne57 _
   have hz6:wz.heap[c6]?=some (.cells #[.slice (some ⟨g3,0,none⟩) G.ns.length G.ns.length] 43 (0,0)):=by rw[hwz];exact(Below.heap_setCell wy ⟨c7,0,none⟩ _ c6 (by simp only;omega)).trans hy6
   have hz7:wz.heap[c7]?=some (.cells #[.slice (some ⟨g5,0,none⟩) G.ns.length G.ns.length] 43 (0,0)):=by rw[hwz];exact heap_setCell_same wy c7 0 _ _ _ hy7
   clear hy3 hy5 hy6 hy7 hby;refine wpQuiet_nil ?_;intro KK hKK;rw[if_pos (by rfl)];go_wp2_with fail
   rw[<-hwz];refine hKK _ _ ⟨⟨wz,hbz⟩,rfl⟩ (fun x=>∃y:Calm.On w2.heap.size w2,x=y.1) (fun _ h=>h) ⟨⟨wz,hbz⟩,rfl⟩ ?_;clear hKK k7 f7 l7 hwz;refine wpQuiet_nil ?_;have r2:=(hbz.cell (p:=⟨w.heap.size,2,none⟩) hd1).trans (HB2.o.c 2 _ rfl);have r3:=(hbz.cell (p:=⟨w.heap.size,3,none⟩) hd1).trans (HB2.o.c 3 _ rfl);have hst:=HOK.o.s0;have hst1:=HOK.o.s1;obtain⟨m,hm⟩:∃m:Nat,G.st=(m:Int):=⟨G.st.toNat,by omega⟩
   have HM:=aA hm;rw[hm]at r3 hst1;have k3:=hz3.cell m (by simp;omega);have f3:=hz3.frozen m;have l3:=hz3.lt;have k6:=cell_of_row wz _ 0 _ _ _ hz6;have l6:=(Array.getElem?_eq_some_iff.1 hz6).1;have ld:w.heap.size<wz.heap.size:=Nat.lt_of_lt_of_le hd1 hbz.size;obtain⟨wv,hwv⟩:∃y,y=wz.setCell ⟨g3,m,none⟩ (.bool true):=⟨_,rfl⟩
   have hbv:Below w2.heap.size w2 wv:=by rw[hwv];exact hbz.setCell (p:=⟨g3,m,none⟩) hg3 _
   have hv3:UBO wv g3 ((List.replicate G.ns.length false).set m true):=by rw[hwv];exact hz3.set_ m true
   have hv5:UBO wv g5 T:=by rw[hwv];exact UBO.far hz5 (by simp only;omega) _
   have hv6:wv.heap[c6]?=some (.cells #[.slice (some ⟨g3,0,none⟩) G.ns.length G.ns.length] 43 (0,0)):=by rw[hwv];exact(Below.heap_setCell wz ⟨g3,m,none⟩ _ c6 (by simp only;omega)).trans hz6
   have hv7:wv.heap[c7]?=some (.cells #[.slice (some ⟨g5,0,none⟩) G.ns.length G.ns.length] 43 (0,0)):=by rw[hwv];exact(Below.heap_setCell wz ⟨g3,m,none⟩ _ c7 (by simp only;omega)).trans hz7
   have HD:=aA (And.intro hne36 (And.intro hne56 (And.intro hne37 (And.intro hne57 (And.intro hd35 (And.intro hg3 (And.intro hg5 hbz)))))));clear hz3 hz5 hz6 hz7 hm hne36 hne56 hne37 hne57 hd35 hd67 hc6 hc7 hg5 hbz;go_upto_region 5 with fail
   rw[<-hwv];have u2:=(hbv.cell (p:=⟨w.heap.size,2,none⟩) hd1).trans (HB2.o.c 2 _ rfl);have u6:wv.cell? ⟨c6,0,none⟩=some (.slice (some ⟨g3,0,none⟩) G.ns.length G.ns.length):=by rw[cell_of_row wv _ 0 _ _ _ hv6];rfl
   have u7:wv.cell? ⟨c7,0,none⟩=some (.slice (some ⟨g5,0,none⟩) G.ns.length G.ns.length):=by rw[cell_of_row wv _ 0 _ _ _ hv7];rfl
   have hWv:Below w.heap.size w wv:=HW2.o.trans (hbv.mono (Nat.le_of_lt hd1));have hdw:w.heap.size<=w2.heap.size:=Nat.le_of_lt hd1;have hRv:zd8 wv B AR G.rs:=HRl.o.keep fun g o hg=>hWv.cell (p:=⟨g,o,none⟩) (Nat.lt_of_lt_of_le hg HB.o);have hm2:G.st.toNat=m:=by rw[HM.o];simp
   have hBg:B<=g3:=Nat.le_trans (Nat.le_trans HB.o hdw) hg3;have hnT:G.ns.length=T.length:=HTl.o.symm
   have HGR:=aA (ze9 163 c6 c7 (za7 Tryz.func163 (by kernel_rfl) (by kernel_rfl)) G.rs AR cR G.ns.length B g3 G.ns.length wv ((List.replicate G.ns.length false).set G.st.toNat true) (Gm.Rc G) (Gm.brR T)
    hRv (Nat.le_trans HB.o hWv.size) hBg (by rw[hm2];exact hv3) (by simp) (Gm.st_snd HOK.o) (by have:=HR40.o;omega)
    (fun y s x A' c' hgr hu hl hx hr=>by
     have e:=HFT.o.r x hx;have q2:=zax hgr u6 (fun e=>HD.o.1 e.symm);rw[<-hl]at q2;have q3:=zax hgr u7 (fun e=>HD.o.2.2.1 e.symm);have q5:UBO y g5 T:=hv5.grown hgr (fun e=>by injection e with e;exact HD.o.2.2.2.2.1 e.symm);rw[hnT]at q3;exact zfH x s T A' (some ⟨g3,0,none⟩) (some ⟨g5,0,none⟩) c' s.length T.length B y.heap.size y.heap.size c6 c7 y q2 q3 hr (hu.rd0 hu.lt) (q5.rd0 q5.lt) (Nat.le_trans HB.o (Nat.le_trans hWv.size hgr.size)) (Nat.le_refl _) e.2.2 (fun z hz h=>by rw[<-hnT];exact HOK.o.sin x hx z hz h) (by rw[hl];exact HOK.o.lin x hx) (by have:=(Gm.rule_in (HOK.o.rr x hx)).1;omega))
    (fun s x hx hl hd m hm=>by rw[HT.o]at hm;exact Gm.brR_in HOK.o hx hd hm)
    (fun s x hx=>Gm.brR_len T s x (Gm.rule_in (HOK.o.rr x hx)).1))
   have HX6:=aA (fun(y:World) (h:wv.grownBy y (some g3))=>zax h u6 (fun e=>HD.o.1 e.symm));have HFIN:Hid (∀(y:World) (s:List Bool),Grw wv y g3 G.ns.length (Gm.Rc G) ((List.replicate G.ns.length false).set G.st.toNat true) s->(∀x∈G.rs,∀m∈Gm.brR T s x,s.getD m.toNat false=true)->s=Gm.rc G/\Below w.heap.size w y):=aA (fun y s hg hc=>⟨Gm.rc_of HOK.o hg.l hg.d hg.le (by rw[HT.o]at hc;exact hc),zaa hWv hg.g (Nat.le_trans hdw HD.o.2.2.2.2.2.1) hWv.size⟩);have lv:w.heap.size<wv.heap.size:=Nat.lt_of_lt_of_le hd1 hbv.size;have l6v:c6<wv.heap.size:=block_lt_of_cell u6;have HG3:=aA (Nat.le_trans hdw HD.o.2.2.2.2.2.1);clear hv3 hv5 hv6 hv7 hwv hbv u7 hRv hWv hm2 hBg hnT r2 r3 k3 f3 l3 k6 l6 ld hst hst1 hg3 HD HT HTl H3 H2;go_wp2_with fail
   refine HGR.o.mono ?_;rintro _ w4 ⟨rfl,s,hg4,hc4⟩;obtain⟨e4,hb4⟩:=HFIN.o w4 s hg4 hc4;have ck4:=HX6.o w4 hg4.g;have hu4:=aA hg4.u;have HB4:=aA hb4;have hl4:c6<w4.heap.size:=block_lt_of_cell ck4;clear hg4 hc4 hb4 HGR HFIN HX6 u6 u2;go_wp2;go_ret
   subst e4;exact⟨fun _=>⟨g3,by rw[Gm.rc_len];rfl,HG3.o,hu4.o,HB4.o⟩,fun h=>by simp at h⟩
end Go.Proofs.YtcmhaemaophplaaGreat
namespace Go.Proofs.YtcmhaemaophplaaGreat
set_option maxRecDepth 100000
set_option maxHeartbeats 40000000
open Go.RowKit
theorem Gm.growP_take {tm:Bool} {rs:List Gm.Rl} {k:Nat} (h:k<rs.length) (s:List Bool):(rs.take (k+1)).foldl (Gm.grow1 tm) s=Gm.grow1 tm ((rs.take k).foldl (Gm.grow1 tm) s) rs[k]:=by
 rw[List.take_succ_eq_append_getElem h,List.foldl_append];rfl
theorem Gm.growP_len (tm:Bool) (rs:List Gm.Rl) (s:List Bool):(rs.foldl (Gm.grow1 tm) s).length=s.length:=((Gm.foldl_le _ (Gm.grow1_le tm) rs s).len).symm
theorem zfG (tm:Bool) (v:Value) (G:Gm.Gr) (B:Nat) (w:World) (hg:aT w B v G) (hf:Gm.Fit G) (hB:B<=w.heap.size) :
  Calls Tryz.prog 55 #[v,.bool tm] w (zkE (Gm.right G) (Gm.gn tm G.rs G.ns.length) w):=by
 have H1:=aA (fun(x:World) (h:Below w.heap.size w x)=>zbr v G B x (hg.below h hB) hf (Nat.le_trans hB h.size));obtain⟨AT,cT,AN,cN,AR,cR,rfl,_,⟨hlN,hmN⟩,⟨hlR,hmR⟩,_,_,hR⟩:=hg;have HS0:=aA (One.start w #[.slice AT G.ts.length cT,.slice AN G.ns.length cN,.slice AR G.rs.length cR,.int .i64 G.st]);have HRl:=aA hR;have HB:=aA hB;have HFT:=aA hf;clear hf hR hB;cases q:Gm.right G
 ·rw[q]at H1;clear q
  go_enter Tryz.func55,Tryz.ntmps55
  go_wp2_with fail
  refine(H1.o _ HS0.o.below).mono ?_;rintro _ w2 ⟨rfl,hb⟩;have HB2:=aA (HS0.o.on hb);clear hb;go_wp2;go_ret
  exact⟨fun h=>by simp at h,fun _=>⟨rfl,HB2.o.below⟩⟩
 ·have HOK:=aA (Gm.right_ok.1 q);have HN:Hid (G.ns.length<=40):=aA (by have:=(Gm.nons_iff G).1 HOK.o.n;omega);have HR40:Hid (G.rs.length<=40):=aA HOK.o.r40;rw[q]at H1;clear q;have hnn:=HN.o;have hlen:(G.ns.length:Int)<=9223372036854775807:=by omega
  have hlen2:(G.rs.length:Int)<=9223372036854775807:=by omega
  go_enter Tryz.func55,Tryz.ntmps55
  go_wp2_with fail
  refine(H1.o _ HS0.o.below).mono ?_;rintro _ w2 ⟨rfl,hb⟩;have HB2:=aA (HS0.o.on hb);have q1:=HB2.o.c 1 _ rfl;have hd1:w.heap.size<w2.heap.size:=HB2.o.size;clear hb;go_upto_region 4 with(at_make;refine zc0 rfl (.tmp 13) (.tmp 13) _ rfl Tryz.underlying43 G.ns.length _ _ rfl rfl rfl rfl (by omega) ?_;intro w3 hu3 hb3 hlt3)
  have HB3:=aA (HB2.o.on hb3);have HU3:=aA hu3;have HGK:Hid (w.heap.size<w2.heap.size):=aA hd1;clear hu3 hb3 hlt3 q1 hd1 HS0 H1;go_wp2;go_loopw [6] (fun vn wr=>∃n:Nat,n<=G.ns.length/\vn=.int .i64 n/\Hid (UBO wr w2.heap.size (Gm.times (Gm.growP tm G.rs) n (List.replicate G.ns.length false)))/\Hid (One w #[.slice AT G.ts.length cT,.slice AN G.ns.length cN,.slice AR G.rs.length cR,.int .i64 G.st] wr)) (fun vn _=>G.ns.length-(intOf vn).toNat)
  case atStart=>exact⟨0,Nat.zero_le _,rfl,HU3,HB3⟩
  case round =>
   obtain⟨n,hn,rfl,HU,HW⟩:=hrel;obtain⟨wo,hwo⟩:∃wo:World,wo=wr:=⟨_,rfl⟩
   subst hwo;have q1:=HW.o.c 1 _ rfl;have ld:w.heap.size<wo.heap.size:=HW.o.size;clear HU3 HB3;by_cases hlt:n<G.ns.length
   ·have HSL:Hid ((Gm.times (Gm.growP tm G.rs) n (List.replicate G.ns.length false)).length=G.ns.length):=aA (by have:=(Gm.times_le (f:=Gm.growP tm G.rs) (fun s=>Gm.foldl_le _ (Gm.grow1_le tm) G.rs s) n (List.replicate G.ns.length false)).len;rw[<-this];simp);have HNX:Hid (Gm.times (Gm.growP tm G.rs) (n+1) (List.replicate G.ns.length false)=G.rs.foldl (Gm.grow1 tm) (Gm.times (Gm.growP tm G.rs) n (List.replicate G.ns.length false))):=aA rfl;generalize Gm.times (Gm.growP tm G.rs) n (List.replicate G.ns.length false)=s at *;go_wp2;go_loopw [7] (fun vi wr=>∃i:Nat,i<=G.rs.length/\vi=.int .i64 i/\Hid (UBO wr w2.heap.size ((G.rs.take i).foldl (Gm.grow1 tm) s))/\Hid (One w #[.slice AT G.ts.length cT,.slice AN G.ns.length cN,.slice AR G.rs.length cR,.int .i64 G.st] wr)) (fun vi _=>G.rs.length-(intOf vi).toNat)
    case atStart=>exact⟨0,Nat.zero_le _,rfl,HU,HW⟩
    case round =>
     clear HU HW q1 ld;obtain⟨i,hi,rfl,HU,HW⟩:=hrel;have q2:=HW.o.c 2 _ rfl;have ld:w.heap.size<wr.heap.size:=HW.o.size;by_cases hlt2:i<G.rs.length
     ·obtain⟨g,o,rfl,hgB,hc⟩:=HRl.o (by omega);obtain⟨k0,⟨A',c',k1,_,_,hri⟩,_⟩:=hc i hlt2;have k0:=(HW.o.below.cell (p:=⟨g,o+i*3,none⟩) (Nat.lt_of_lt_of_le hgB HB.o)).trans k0;have k1:=(HW.o.below.cell (p:=⟨g,o+i*3+1,none⟩) (Nat.lt_of_lt_of_le hgB HB.o)).trans k1;have hgs:g<wr.heap.size:=by have:=HB.o;omega
      have hxm:G.rs[i]∈G.rs:=List.getElem_mem hlt2;have e:=HFT.o.r _ hxm;have HCL:=aA ((Gm.growP_len tm (G.rs.take i) s).trans HSL.o);have HTK:=aA (Gm.growP_take (tm:=tm) hlt2 s);have hxl:=HOK.o.lin _ hxm;have HAL:=zik G.rs[i].r ((G.rs.take i).foldl (Gm.grow1 tm) s) tm A' (some ⟨w2.heap.size,0,none⟩) c' G.ns.length B wr.heap.size wr (hri.keep fun g o hg=>HW.o.below.cell (p:=⟨g,o,none⟩) (Nat.lt_of_lt_of_le hg HB.o)) e.2.2 (fun z hz h=>by rw[HCL.o];exact HOK.o.sin _ hxm z hz h) (HU.o.rd0 HU.o.lt) (by have:=(Gm.rule_in (HOK.o.rr _ hxm)).1;omega);rw[HCL.o]at HAL;have HAL:=aA HAL;have lu:=HU.o.lt;generalize (G.rs.take i).foldl (Gm.grow1 tm) s=cur at *;generalize G.rs[i]=x at *;obtain⟨m,hm⟩:∃m:Nat,x.l=(m:Int):=⟨x.l.toNat,by omega⟩
      have HM:Hid (x.l.toNat=m):=aA (by rw[hm];simp);have hmn:m<cur.length:=by rw[HCL.o];omega
      have km:=HU.o.cell m hmn;have fm:=HU.o.frozen m;rw[hm]at k0 hxl;have hmi:=hxl.2;clear hc hri e hxm hm hmn hxl;cases ha:Gm.allB tm cur x.r
      ·rw[ha]at HAL;have HX:=aA (HTK.o.trans (show Gm.grow1 tm cur x=cur by unfold Gm.grow1;rw[if_neg (by rw[ha];decide)]));clear ha HTK;go_wp2_with fail
       refine HAL.o.mono ?_;rintro _ w4 ⟨rfl,hw4⟩;subst hw4;go_wp2;go_roundw
       case rel=>exact⟨i+1,hlt2,by go_num,by rw[HX.o];exact HU,HW⟩
       case measure=>simp[intOf];omega
      ·rw[ha]at HAL;have HX:=aA (HTK.o.trans (show Gm.grow1 tm cur x=cur.set m true by unfold Gm.grow1;rw[if_pos ha,HM.o]));have HU2:=aA (HU.o.set_ m true);have HW2:Hid (One w #[.slice AT G.ts.length cT,.slice AN G.ns.length cN,.slice (some ⟨g,o,none⟩) G.rs.length cR,.int .i64 G.st] (wr.setCell ⟨w2.heap.size,m,none⟩ (.bool true))):=aA (Below.setCell (p:=⟨w2.heap.size,m,none⟩) HW.o (by have:=HGK.o;simp only;omega) _);clear ha HTK;go_wp2_with fail
       refine HAL.o.mono ?_;rintro _ w4 ⟨rfl,hw4⟩;subst hw4;go_wp2;go_roundw
       case rel=>exact⟨i+1,hlt2,by go_num,by rw[HX.o];exact HU2,HW2⟩
       case measure=>simp[intOf];omega
     ·obtain rfl:i=G.rs.length:=by omega
      rw[List.take_length]at HU;go_wp2;go_roundw
      case rel=>exact⟨n+1,hlt,by go_num,by rw[HNX.o];exact HU,HW⟩
      case measure=>simp[intOf];omega
   ·obtain rfl:n=G.ns.length:=by omega
    have HE:=aA (Gm.grow_gn (tm:=tm) HOK.o.lin);go_wp2;go_ret
    exact⟨fun _=>⟨w2.heap.size,by rw[Gm.gn_len];rfl,Nat.le_of_lt HGK.o,by rw[<-HE.o];exact HU.o,HW.o.below⟩,fun h=>by simp at h⟩
theorem zbj (v:Value) (G:Gm.Gr) (B:Nat) (w:World) (hg:aT w B v G) (hf:Gm.Fit G) (hB:B<=w.heap.size) :
  Calls Tryz.prog 33 #[v] w (zkE (Gm.right G) (Gm.gn false G.rs G.ns.length) w):=by
 have H1:=aA (fun(x:World) (h:Below w.heap.size w x)=>zfG false v G B x (hg.below h hB) hf (Nat.le_trans hB h.size));obtain⟨AT,cT,AN,cN,AR,cR,rfl,_⟩:=hg;have HS0:=aA (One.start w #[.slice AT G.ts.length cT,.slice AN G.ns.length cN,.slice AR G.rs.length cR,.int .i64 G.st]);clear hf;generalize Gm.gn false G.rs G.ns.length=T at *;generalize Gm.right G=q at *;cases q
 ·go_enter Tryz.func33,Tryz.ntmps33
  go_wp2_with fail
  refine(H1.o _ HS0.o.below).mono ?_;intro e w2 h;obtain⟨rfl,hb⟩:=h.2 rfl;have HB2:=aA (HS0.o.on hb);clear hb h;go_wp2;go_ret
  exact⟨fun h=>by simp at h,fun _=>⟨rfl,HB2.o.below⟩⟩
 ·go_enter Tryz.func33,Tryz.ntmps33
  go_wp2_with fail
  refine(H1.o _ HS0.o.below).mono ?_;intro e w2 h;obtain⟨g,rfl,hg,hu,hb⟩:=h.1 rfl;have HB2:=aA (HS0.o.on hb);have HU:=aA hu;have HG:=aA hg;clear hb h hu hg;go_wp2;go_ret
  exact⟨fun _=>⟨g,rfl,by have:=HG.o;simp at this;omega,HU.o,HB2.o.below⟩,fun h=>by simp at h⟩
def Gm.rcB (p s:List Bool) (x:Gm.Rl):Bool:=s.getD x.l.toNat false&&Gm.allB true p x.r
theorem zd6 (g o j:Nat):((⟨g,o,none⟩:Addr).add j)=⟨g,o+j,none⟩:=by unfold Addr.add;by_cases h0:j=0 <;> simp[h0]
def RdT (L:List Int) (w:World) (B:Nat) (A:Option Addr) (ts:List Tok):Prop :=
 ts.length≠0->∃g o,A=some ⟨g,o,none⟩/\g<B/\∀i j u,(hi:i<ts.length)->(zaI L ts[i])[j]?=some u->w.cell? ⟨g,o+(i*3+j),none⟩=some u
theorem RdT.nil (L:List Int) (w:World) (B:Nat) (A:Option Addr):RdT L w B A []:=fun h=>absurd rfl h
theorem RdT.keep {L:List Int} {w w':World} {B:Nat} {A:Option Addr} {ts:List Tok} (h:RdT L w B A ts) (hk:∀g o,g<B->w'.cell? ⟨g,o,none⟩=w.cell? ⟨g,o,none⟩):RdT L w' B A ts:=fun hn=>by
 obtain⟨g,o,e,hg,hc⟩:=h hn;exact⟨g,o,e,hg,fun i j u hi hu=>(hk _ _ hg).trans (hc i j u hi hu)⟩
theorem RdT.more {L:List Int} {w:World} {B B':Nat} {A:Option Addr} {ts:List Tok} (h:RdT L w B A ts) (hB:B<=B'):RdT L w B' A ts:=fun hn=>by
 obtain⟨g,o,e,hg,hc⟩:=h hn;exact⟨g,o,e,by omega,hc⟩
theorem RdT.grown {L:List Int} {w w':World} {B:Nat} {A:Option Addr} {ts:List Tok} {row:Option Nat} (h:RdT L w B A ts) (hg:w.grownBy w' row) (hr:∀k,row=some k->B<=k) (hs:B<=w.heap.size):RdT L w' B A ts :=
 h.keep fun p o hp=>World.cell?_of_block (hg.block p (by omega) (fun e=>by have:=hr p e.symm;omega))
theorem RdT.below {L:List Int} {w w':World} {B B':Nat} {A:Option Addr} {ts:List Tok} (h:RdT L w B A ts) (hb:Below B' w w') (hB:B<=B'):RdT L w' B A ts :=
 h.keep fun g o hg=>hb.cell (p:=⟨g,o,none⟩) (Nat.lt_of_lt_of_le hg hB)
theorem bQ.rd {L:List Int} {w:World} {base:Nat} {v:Value} {xs:List Tok} (h:bQ L w base v xs):∃A c,v=.slice A xs.length c/\xs.length<=c/\c<=maxLen/\RdT L w w.heap.size A xs:=by
 obtain⟨A,c,rfl,h1,h2⟩:=h.form;refine⟨A,c,rfl,h1,h2,fun h0=>?_⟩;obtain⟨g,c',e,_,_,_,hg,hcell⟩:=h.addr h0;injection e with e1 e2 e3;refine⟨g,0,e1,hg,fun i j u hi hu=>?_⟩
 have hj:j<3:=by
  have:=(List.getElem?_eq_some_iff.1 hu).1
  simpa[zaI] using this
 rw[Nat.zero_add];exact hcell i j u hi hj (by rw[List.getElem?_eq_getElem hi];exact hu)
def zg3 (A:Option Addr) (c:Nat):Option Addr:=if c=1 then A else A.map fun x=>x.add 3
theorem RdT.tail {L:List Int} {w:World} {B c:Nat} {A:Option Addr} {t:Tok} {ts:List Tok} (h:RdT L w B A (t::ts)) (hc:(t::ts).length<=c):RdT L w B (zg3 A c) ts:=by
 intro hn;obtain⟨g,o,rfl,hg,hcl⟩:=h (by simp);refine⟨g,o+3,?_,hg,fun i j u hi hu=>?_⟩
 ·unfold zg3;rw[if_neg (by simp at hc;omega),Option.map_some,zd6]
 ·have:=hcl (i+1) j u (by simp;omega) (by simpa using hu)
  rwa [show o+3+(i*3+j)=o+((i+1)*3+j) by omega]
def aW (L:List Int) (x:Tok):List Value:=[.string (K.str x.t),.complex .f64 (Fl.fl (Pl.pos (L.take x.o)).1) (Fl.fl (Pl.pos (L.take x.o)).2)]
theorem zcv (L:List Int) (xs:List Tok):(xs.flatMap (aW L)).length=xs.length*2:=by
 induction xs with
 | nil=>rfl
 | cons x r ih=>simp[List.flatMap_cons,ih,aW];omega
theorem zgQ (L:List Int) (xs:List Tok) (i j:Nat) (hi:i<xs.length) (hj:j<2):(xs.flatMap (aW L))[i*2+j]?=(aW L xs[i])[j]?:=by
 induction xs generalizing i with
 | nil=>simp at hi
 | cons x r ih =>
  rw[List.flatMap_cons];have hl:(aW L x).length=2:=rfl;cases i with
  | zero=>rw[List.getElem?_append_left (by omega)];simp
  | succ i =>
   rw[List.getElem?_append_right (by omega),hl,show(i+1)*2+j-2=i*2+j by omega]
   simpa using ih i (by simpa using hi)
def RdR (L:List Int) (w:World) (B:Nat) (A:Option Addr) (xs:List Tok):Prop :=
 xs.length≠0->∃(g:Nat) (cur:Array Value),A=some ⟨g,0,none⟩/\B<=g/\w.heap[g]?=some (.cells cur 127 (0,0))/\∀(j:Nat) (u:Value),(xs.flatMap (aW L))[j]?=some u->cur[j]?=some u
theorem RdR.nil (L:List Int) (w:World) (B:Nat) (A:Option Addr):RdR L w B A []:=fun h=>absurd rfl h
def aY (w:World) (row:Option Nat):Prop:=∀k,row=some k->∀cur,w.heap[k]? ≠ some (.cells cur 127 (0,0))
theorem aY.none (w:World):aY w .none:=fun _ h=>by cases h
theorem RdR.grown {L:List Int} {w w':World} {B:Nat} {A:Option Addr} {xs:List Tok} {row:Option Nat} (h:RdR L w B A xs) (hg:w.grownBy w' row) (hr:aY w row):RdR L w' B A xs:=fun hn=>by
 obtain⟨g,cur,e,hB,hh,hc⟩:=h hn;exact⟨g,cur,e,hB,(hg.block g (Array.getElem?_eq_some_iff.1 hh).1 (fun e=>hr g e.symm cur hh)).trans hh,hc⟩
theorem RdR.less {L:List Int} {w:World} {B B':Nat} {A:Option Addr} {xs:List Tok} (h:RdR L w B A xs) (hB:B'<=B):RdR L w B' A xs:=fun hn=>by
 obtain⟨g,cur,e,hb,hh⟩:=h hn;exact⟨g,cur,e,by omega,hh⟩
theorem RdR.below {L:List Int} {w w':World} {B:Nat} {A:Option Addr} {xs:List Tok} (h:RdR L w B A xs) (hb:Below w.heap.size w w'):RdR L w' B A xs:=h.grown (aM hb .none) (aY.none w)
theorem RdR.cell {L:List Int} {w:World} {B:Nat} {A:Option Addr} {xs:List Tok} (h:RdR L w B A xs) (h0:xs.length≠0):∃g,A=some ⟨g,0,none⟩/\B<=g/\∀i j u,(hi:i<xs.length)->j<2->(aW L xs[i])[j]?=some u->w.cell? ⟨g,i*2+j,none⟩=some u:=by
 obtain⟨g,cur,e,hB,hh,hc⟩:=h h0;refine⟨g,e,hB,fun i j u hi hj hu=>?_⟩;rw[cell_of_row w g _ _ _ _ hh];exact hc _ _ (by rw[zgQ L xs i j hi hj];exact hu)
def bI (L:List Int) (w:World) (base:Nat) (v:Value) (xs:List Tok):Prop:=w.ownsRow base 127 2 v xs.length (xs.flatMap (aW L))
theorem bI.nil (L:List Int) (w:World) (base:Nat):bI L w base (.slice none 0 0) []:=World.ownsRow_nil w base _ _
theorem bI.alloc {L:List Int} {w:World} {base:Nat} {v:Value} {xs:List Tok} (h:bI L w base v xs) (o:Obj):bI L (w.alloc o) base v xs:=World.ownsRow.alloc h o
theorem bI.grown {L:List Int} {w w':World} {base:Nat} {v:Value} {xs:List Tok} {row:Option Nat} (h:bI L w base v xs) (hg:w.grownBy w' row) (hr:aY w row):bI L w' base v xs:=by
 refine⟨h.1,?_⟩;rcases h.2 with h0|⟨g,cap,cur,e,hb1,hh,hrr⟩
 ·exact .inl h0
 ·exact .inr ⟨g,cap,cur,e,hb1,(hg.block g (Array.getElem?_eq_some_iff.1 hh).1 (fun e=>hr g e.symm cur hh)).trans hh,hrr⟩
theorem bI.below {L:List Int} {w w':World} {base:Nat} {v:Value} {xs:List Tok} (h:bI L w base v xs) (hb:Below w.heap.size w w'):bI L w' base v xs:=h.grown (aM hb .none) (aY.none w)
theorem bI.rd {L:List Int} {w:World} {base:Nat} {v:Value} {xs:List Tok} (h:bI L w base v xs):∃A c,v=.slice A xs.length c/\xs.length<=c/\c<=maxLen/\RdR L w base A xs:=by
 rcases h.2 with⟨rfl,h0⟩|⟨g,cap,cur,rfl,hb,hg,hn,hm,hs,ht⟩
 ·exact⟨none,0,by rw[h0],by omega,by unfold maxLen;omega,fun hc=>absurd h0 hc⟩
 ·refine⟨some ⟨g,0,none⟩,cap,rfl,hn,hm,fun _=>⟨g,cur,rfl,hb,hg,fun j u hu=>?_⟩⟩;rw[<-ht]at hu;have hj:=(List.getElem?_eq_some_iff.1 hu).1;rw[List.length_take]at hj;rw[List.getElem?_take_of_lt (by omega)]at hu
  simpa using hu
theorem zlO:(Tryz.prog.info? 127).map (fun i=>(i.zero,i.size,i.bytes))=some (some (.agg #[.string ⟨#[]⟩,.complex .f64 0 0]),2,32):=by kernel_rfl
theorem zkz {w:World} {ops:Array Oper} {rest:List Oper} {o:Oper} {a:Act} {Q:Exit->Act->World->Prop}
  (hgd:o.guard=none) (s x:Operand) (t:TypeId) (ho:o.op=.call {callee:=.builtin .append,args:=#[s,x],argTypes:=#[t,t]}) (ht:Tryz.prog.underlying t=some (.slice 127))
  (L:List Int) (base:Nat) (v:Value) (xs:List Tok) (hs:a.eval s=v) (hown:bI L w base v xs) (g c:Nat) (y:Tok) (hx:a.eval x=.slice (some ⟨g,0,none⟩) 1 c) (hz:∀j u,(aW L y)[j]?=some u->w.cell? ⟨g,j,none⟩=some u)
  (hlen:xs.length<=1000000) (hbase:base<=w.heap.size)
  (hK:∀v' w',bI L w' base v' (xs++[y])->w.grownBy w' v.ownBlock->wpList Tryz.prog ops Q rest (a.put o.dst v') w') :
  wpList Tryz.prog ops Q (o::rest) a w:=by
 obtain⟨i,hi,hz0,hz1,hz2⟩:=info_parts zlO;refine wpList_append_own w hgd s x t ho base 127 i _ 2 32 ht hi hz0 hz1 hz2 rfl (by decide) v xs.length (xs.flatMap (aW L)) hs hown ⟨g,0,none⟩ 1 c (aW L y) hx rfl ?_ ?_ (by unfold maxLen;omega) (by omega) hbase fun v' w' h1 h2 _=>hK v' w' ?_ h2
 ·intro j u hj;rw[zd6,Nat.zero_add];exact hz j u hj
 ·intro u hu;simp[aW]at hu;rcases hu with rfl|rfl <;> rfl
 ·unfold bI;rw[List.length_append,List.flatMap_append,List.flatMap_singleton];exact h1
theorem _root_.Go.World.grownBy.row {w w':World} (h:w.grownBy w' .none) (row:Option Nat):w.grownBy w' row:=⟨h.os,h.tape,h.output,h.size,fun k hk _=>h.block k hk (by simp)⟩
theorem zae {a w w':World} {row:Option Nat} {e:TypeId} {size n:Nat} {v:Value} {xs:List Value} (h:a.grownBy w row) (ho:w.ownsRow a.heap.size e size v n xs) (hg:w.grownBy w' v.ownBlock):a.grownBy w' row :=
 ⟨hg.os.trans h.os,hg.tape.trans h.tape,hg.output.trans h.output,Nat.le_trans h.size hg.size,fun k hk hne=>(hg.block k (Nat.lt_of_lt_of_le hk h.size) (fun e=>by have:=(World.ownsRow.lt ho k e.symm).1;omega)).trans (h.block k hk hne)⟩
theorem zgN (L:List Int) (w:World) (t:Tok):∀j u,(aW L t)[j]?=some u->(w.alloc (.cells #[.string (K.str t.t),.complex .f64 (Fl.fl (Pl.pos (L.take t.o)).1) (Fl.fl (Pl.pos (L.take t.o)).2)] 127)).cell? ⟨w.heap.size,j,none⟩=some u:=by
 intro j u hu;rw[World.cell?_alloc_new]
 simpa[aW] using hu
theorem zcH {w w2:World} {o:Obj} {R:Nat} (h:(w.alloc o).grownBy w2 (some R)) (hR:R<w.heap.size):w2.heap[w.heap.size]?=some o:=by
 rw[h.block w.heap.size (by simp) (fun e=>by injection e with e;omega)];exact heap_alloc_new w o
theorem zaR {a w:World} {row:Option Nat} (h:a.grownBy w row) (g i:Nat) (u:Value) (hg:a.heap.size<=g):a.grownBy (w.setCell ⟨g,i,none⟩ u) row :=
 ⟨h.os,h.tape,h.output,by simpa[World.setCell] using h.size,fun k hk hne=>(Below.heap_setCell w ⟨g,i,none⟩ u k (by simp only;omega)).trans (h.block k hk hne)⟩
def zch (v:Value):Nat:=match v with | .slice _ n _=>n|_=>0
def zkC (L:List Int) (r:Out) (w:World) (e:Ending) (w':World):Prop :=
 match r with
 | .ok xs=>∃v,e=.returned (.tuple #[v,.complex .f64 (Fl.fl (Pl.pos L).1) (Fl.fl (Pl.pos L).2),.int .i64 0])/\bQ L w' w.heap.size v xs/\Below w.heap.size w w'
 | .bad o d=>e=.returned (.tuple #[.slice none 0 0,.complex .f64 (Fl.fl (Pl.pos (L.take o)).1) (Fl.fl (Pl.pos (L.take o)).2),.int .i64 d])/\Below w.heap.size w w'
def At (L:List Int) (R:Out) (w:World) (k d f m:Nat) (acc:List Tok) (l:List Int) (p:Int×Int) (A':Option Addr) (c':Nat) (v:Value) (w':World):Prop :=
 L.length=k+d/\l=L.drop k/\p=Pl.pos (L.take k)/\Below w.heap.size w w'/\RdB w' w.heap.size A' l/\bQ L w' w.heap.size v acc/\d<=c'/\d<f/\acc.length<=k/\m<=k/\zfD f l k m acc=R
def bO (L:List Int) (t:Tok):Value:=.agg #[.string (K.str t.t),.complex .f64 (Fl.fl (Pl.pos (L.take t.o)).1) (Fl.fl (Pl.pos (L.take t.o)).2)]
theorem zfC (w:World) (A:Option Addr) (c n:Nat) (hk:1<=n):(Instr.sliceAt 121 (.slice A n c) (some (.int .i64 1)) none none).run Tryz.prog w=.ok (.slice (zg3 A c) (n-1) (c-1)) w:=by
 rw[run_sliceAt_slice _ _ _ _ _ _ (by kernel_rfl),run_slice_l _ _ _ _ _ (by kernel_rfl) .i64 (1:Int) (by omega) (by omega)];have hs:(sizeOf (Tryz.prog.elem 121)).run Tryz.prog w=.ok 3 w:=by kernel_rfl
 rw[hs];simp[Result.andThen,sliced,zg3]
def za3 (L:List Int):Option Tok->List Value
 | none=>[.string ⟨#[]⟩,.complex .f64 0 0]
 | some t=>aW L t
def aV (L:List Int) (p:Y.Prd) (A:Option Addr) (c:Nat):List Value:=aW L p.l++[.slice A p.r.length c]++za3 L p.p
def zaV (d:Y.Dcl) (A:Option Addr) (c:Nat):List Value:=[.int .i64 d.k,.slice A d.ns.length c]
abbrev PA:=Y.Prd×Option Addr×Nat
abbrev DA:=Y.Dcl×Option Addr×Nat
def zin (L:List Int) (qs:List PA):List Value:=qs.flatMap fun q=>aV L q.1 q.2.1 q.2.2
def zmb (qs:List DA):List Value:=qs.flatMap fun q=>zaV q.1 q.2.1 q.2.2
theorem zcy (L:List Int) (p:Y.Prd) (A:Option Addr) (c:Nat):(aV L p A c).length=5:=by
 unfold aV za3;split <;> rfl
theorem zj6 (L:List Int) (qs:List PA) (i j:Nat) (hi:i<qs.length) (hj:j<5):(zin L qs)[i*5+j]?=(aV L qs[i].1 qs[i].2.1 qs[i].2.2)[j]?:=by
 unfold zin;induction qs generalizing i with
 | nil=>simp at hi
 | cons x r ih =>
  rw[List.flatMap_cons];have hl:=zcy L x.1 x.2.1 x.2.2;cases i with
  | zero=>rw[List.getElem?_append_left (by omega)];simp
  | succ i =>
   rw[List.getElem?_append_right (by omega),hl,show(i+1)*5+j-5=i*5+j by omega]
   simpa using ih i (by simpa using hi)
theorem zhF (qs:List DA) (i j:Nat) (hi:i<qs.length) (hj:j<2):(zmb qs)[i*2+j]?=(zaV qs[i].1 qs[i].2.1 qs[i].2.2)[j]?:=by
 unfold zmb;induction qs generalizing i with
 | nil=>simp at hi
 | cons x r ih =>
  rw[List.flatMap_cons];have hl:(zaV x.1 x.2.1 x.2.2).length=2:=rfl;cases i with
  | zero=>rw[List.getElem?_append_left (by omega)];simp
  | succ i =>
   rw[List.getElem?_append_right (by omega),hl,show(i+1)*2+j-2=i*2+j by omega]
   simpa using ih i (by simpa using hi)
def bF (L:List Int) (w:World) (base:Nat) (v:Value) (ps:List Y.Prd):Prop :=
 ∃qs:List PA,qs.map (·.1)=ps/\w.ownsRow base 135 5 v ps.length (zin L qs)/\∀q∈qs,RdR L w base q.2.1 q.1.r
def bG (L:List Int) (w:World) (base:Nat) (v:Value) (ds:List Y.Dcl):Prop :=
 ∃qs:List DA,qs.map (·.1)=ds/\w.ownsRow base 168 2 v ds.length (zmb qs)/\∀q∈qs,RdR L w base q.2.1 q.1.ns
theorem bF.nil (L:List Int) (w:World) (base:Nat):bF L w base (.slice none 0 0) []:=⟨[],rfl,World.ownsRow_nil w base _ _,fun q h=>by cases h⟩
theorem bG.nil (L:List Int) (w:World) (base:Nat):bG L w base (.slice none 0 0) []:=⟨[],rfl,World.ownsRow_nil w base _ _,fun q h=>by cases h⟩
def zjH (w:World) (v:Value) (row:Option Nat):Prop:=aY w row/\(v.ownBlock=none\/v.ownBlock≠row)
theorem zjH.none (w:World) (v:Value):zjH w v .none:=⟨aY.none w,by rcases v.ownBlock with _|k;exact .inl rfl;exact .inr (by simp)⟩
theorem bF.grown {L:List Int} {w w':World} {base:Nat} {v:Value} {ps:List Y.Prd} {row:Option Nat} (h:bF L w base v ps) (hg:w.grownBy w' row) (ha:zjH w v row):bF L w' base v ps:=by
 obtain⟨qs,h1,h2,h3⟩:=h;exact⟨qs,h1,h2.kept hg ha.2,fun q hq=>(h3 q hq).grown hg ha.1⟩
theorem bG.grown {L:List Int} {w w':World} {base:Nat} {v:Value} {ds:List Y.Dcl} {row:Option Nat} (h:bG L w base v ds) (hg:w.grownBy w' row) (ha:zjH w v row):bG L w' base v ds:=by
 obtain⟨qs,h1,h2,h3⟩:=h;exact⟨qs,h1,h2.kept hg ha.2,fun q hq=>(h3 q hq).grown hg ha.1⟩
theorem zaq {w:World} {base:Nat} {v:Value} {n:Nat} {size:Nat} {e:TypeId} {xs:List Value} (h:w.ownsRow base e size v n xs) (he:e≠127):aY w v.ownBlock:=by
 intro k hk cur hc;rcases h.2 with⟨rfl,_⟩|⟨g,cap,cur',rfl,_,hg,_⟩
 ·cases hk
 ·injection hk with hk;subst hk;have hg':w.heap[g]?=some (.cells cur 127 (0,0)):=hc;rw[hg]at hg';injection hg' with e1;injection e1 with _ e2;exact he e2
theorem bF.form {L:List Int} {w:World} {base:Nat} {v:Value} {ps:List Y.Prd} (h:bF L w base v ps):∃A c,v=.slice A ps.length c/\ps.length<=c/\c<=maxLen:=by
 obtain⟨qs,h1,h2,h3⟩:=h;rcases h2.2 with⟨rfl,h0⟩|⟨g,cap,cur,rfl,hb,hg,hn,hm,hs,ht⟩
 ·exact⟨none,0,by rw[h0],by omega,by unfold maxLen;omega⟩
 ·exact⟨_,cap,rfl,hn,hm⟩
theorem bG.form {L:List Int} {w:World} {base:Nat} {v:Value} {ds:List Y.Dcl} (h:bG L w base v ds):∃A c,v=.slice A ds.length c/\ds.length<=c/\c<=maxLen:=by
 obtain⟨qs,h1,h2,h3⟩:=h;rcases h2.2 with⟨rfl,h0⟩|⟨g,cap,cur,rfl,hb,hg,hn,hm,hs,ht⟩
 ·exact⟨none,0,by rw[h0],by omega,by unfold maxLen;omega⟩
 ·exact⟨_,cap,rfl,hn,hm⟩
theorem zlP:(Tryz.prog.info? 135).map (fun i=>(i.zero,i.size,i.bytes))=some (some (.agg #[.string ⟨#[]⟩,.complex .f64 0 0,.slice none 0 0,.string ⟨#[]⟩,.complex .f64 0 0]),5,88):=by kernel_rfl
theorem zmU:(Tryz.prog.info? 168).map (fun i=>(i.zero,i.size,i.bytes))=some (some (.agg #[.int .i64 0,.slice none 0 0]),2,32):=by kernel_rfl
theorem zcx (L:List Int) (p:Y.Prd) (A:Option Addr) (c:Nat):∀u∈aV L p A c,u.oneCell'=true:=by
 intro u hu;unfold aV za3 at hu;split at hu <;> simp[aW]at hu <;> rcases hu with rfl|rfl|rfl|rfl|rfl <;> rfl
theorem zdg {w:World} {ops:Array Oper} {rest:List Oper} {o:Oper} {a:Act} {Q:Exit->Act->World->Prop}
  (hgd:o.guard=none) (s x:Operand) (t:TypeId) (ho:o.op=.call {callee:=.builtin .append,args:=#[s,x],argTypes:=#[t,t]}) (ht:Tryz.prog.underlying t=some (.slice 135))
  (L:List Int) (base:Nat) (v:Value) (ps:List Y.Prd) (hs:a.eval s=v) (hown:bF L w base v ps) (g c:Nat) (p:Y.Prd) (A:Option Addr) (pc:Nat) (hx:a.eval x=.slice (some ⟨g,0,none⟩) 1 c) (hz:∀j u,(aV L p A pc)[j]?=some u->w.cell? ⟨g,j,none⟩=some u) (hr:RdR L w base A p.r)
  (hlen:ps.length<=1000000) (hbase:base<=w.heap.size)
  (hK:∀v' w',bF L w' base v' (ps++[p])->w.grownBy w' v.ownBlock->wpList Tryz.prog ops Q rest (a.put o.dst v') w') :
  wpList Tryz.prog ops Q (o::rest) a w:=by
 obtain⟨i,hi,hz0,hz1,hz2⟩:=info_parts zlP;obtain⟨qs,hq1,hq2,hq3⟩:=hown;have hlq:qs.length=ps.length:=by rw[<-hq1,List.length_map]
 refine wpList_append_own w hgd s x t ho base 135 i _ 5 88 ht hi hz0 hz1 hz2 rfl (by decide) v ps.length (zin L qs) hs hq2 ⟨g,0,none⟩ 1 c (aV L p A pc) hx (by rw[zcy]) ?_ (zcx L p A pc) (by unfold maxLen;omega) (by omega) hbase fun v' w' h1 h2 _=>hK v' w' ?_ h2
 ·intro j u hj;rw[zd6,Nat.zero_add];exact hz j u hj
 ·have ho:=zaq hq2 (by decide);refine⟨qs++[(p,A,pc)],by rw[List.map_append,hq1];rfl,?_,fun q hq=>?_⟩
  ·rw[List.length_append];unfold zin;rw[List.flatMap_append,List.flatMap_singleton];exact h1
  ·rcases List.mem_append.1 hq with h|h
   ·exact(hq3 q h).grown h2 ho
   ·rw[List.mem_singleton]at h;subst h;exact hr.grown h2 ho
theorem aH (w:World) (row:Option Nat):w.grownBy w.drew row:=⟨rfl,rfl,rfl,Nat.le_refl _,fun _ _ _=>rfl⟩
theorem zad {w w2:World} {g R:Nat} {o:Obj} (h:w.grownBy w2 (some R)) (ho:w.heap[g]?=some o) (hne:g≠R):w2.heap[g]?=some o:=by
 rw[h.block g (Array.getElem?_eq_some_iff.1 ho).1 (fun e=>by injection e with e;omega)];exact ho
theorem zbK {w:World} {g:Nat} {cs:Array Value} {t:TypeId} (h:w.heap[g]?=some (.cells cs t (0,0))) (ht:t≠127):aY w (some g):=by
 intro k hk cur hc;injection hk with hk;subst hk;rw[h]at hc;injection hc with hc;injection hc with _ hc;exact ht hc
theorem zby (L:List Int) (p:Option Tok):∃x3 x4,za3 L p=[x3,x4]:=by cases p <;> exact⟨_,_,rfl⟩
theorem zgO {w w':World} {g:Nat} {cs:Array Value} {row:Option Nat} (h:w.heap[g]?=some (.cells cs 127 (0,0))) (hg:w.grownBy w' row) (ho:aY w row):w'.heap[g]?=some (.cells cs 127 (0,0)) :=
 (hg.block g (Array.getElem?_eq_some_iff.1 h).1 (fun e=>ho g e.symm cs h)).trans h
theorem bF.own {L:List Int} {w:World} {base:Nat} {v:Value} {ps:List Y.Prd} (h:bF L w base v ps):∃xs,w.ownsRow base 135 5 v ps.length xs:=by
 obtain⟨qs,_,h2,_⟩:=h;exact⟨_,h2⟩
theorem bG.own {L:List Int} {w:World} {base:Nat} {v:Value} {ds:List Y.Dcl} (h:bG L w base v ds):∃xs,w.ownsRow base 168 2 v ds.length xs:=by
 obtain⟨qs,_,h2,_⟩:=h;exact⟨_,h2⟩
theorem bF.other {L:List Int} {w:World} {base:Nat} {v:Value} {ps:List Y.Prd} (h:bF L w base v ps):aY w v.ownBlock:=by
 obtain⟨xs,h2⟩:=h.own;exact zaq h2 (by decide)
theorem bG.other {L:List Int} {w:World} {base:Nat} {v:Value} {ds:List Y.Dcl} (h:bG L w base v ds):aY w v.ownBlock:=by
 obtain⟨xs,h2⟩:=h.own;exact zaq h2 (by decide)
theorem zfg (p:Tok->Bool):∀ts:List Tok,(ts.dropWhile p).length<=ts.length
 | []=>Nat.le_refl _
 | t::r=>by
  have:=zfg p r
  rw[List.dropWhile_cons];split
  ·simp;omega
  ·exact Nat.le_refl _
theorem zig {left:Tok} {ts r:List Tok} {p:Y.Prd} (h:Y.rule left ts=.ok p r):r.length<=ts.length:=by
 unfold Y.rule Y.rule2 at h;have hd:=zfg Y.isRef ts;split at h
 ·obtain⟨t,m,h1,h2⟩:=Y.bind_eq_ok h;obtain⟨u,m2,h3,h4⟩:=Y.bind_eq_ok h2;injection h4 with _ h5;subst h5;have e1:=congrArg List.length (Y.take_ok h1).1;have e2:=congrArg List.length (Y.take_ok h3).1;simp at e1 e2;omega
 ·injection h with _ h5;subst h5;exact hd
theorem zkX {w:World} {g:Nat} {t:TypeId} {a0 a1 a2 a3 a4:Value} (h:w.heap[g]?=some (.cells #[a0,a1,a2,a3,a4] t (0,0))) (b0 b1 b2 b3 b4:Value) :
  (((((w.setCell ⟨g,0,none⟩ b0).setCell ⟨g,1,none⟩ b1).setCell ⟨g,2,none⟩ b2).setCell ⟨g,3,none⟩ b3).setCell ⟨g,4,none⟩ b4).heap[g]?=some (.cells #[b0,b1,b2,b3,b4] t (0,0)):=by
 have h0:=heap_setCell_same w g 0 _ _ b0 h;have h1:=heap_setCell_same _ g 1 _ _ b1 h0;have h2:=heap_setCell_same _ g 2 _ _ b2 h1;have h3:=heap_setCell_same _ g 3 _ _ b3 h2;have h4:=heap_setCell_same _ g 4 _ _ b4 h3;exact h4
theorem zaF (w:World) (p:Addr) (u:Value):(w.setCell p u).heap.size=w.heap.size:=by simp[World.setCell]
theorem zcY (L:List Int) (w:World) (base:Nat) (t:Tok) (hb:base<=w.heap.size):bI L (w.alloc (.cells #[.string (K.str t.t),.complex .f64 (Fl.fl (Pl.pos (L.take t.o)).1) (Fl.fl (Pl.pos (L.take t.o)).2)] 127)) base (.slice (some ⟨w.heap.size,0,none⟩) 1 1) [t] :=
 World.ownsRow_lit w #[.string (K.str t.t),.complex .f64 (Fl.fl (Pl.pos (L.take t.o)).1) (Fl.fl (Pl.pos (L.take t.o)).2)] 1 hb (by unfold maxLen;omega) rfl
theorem zdf {w:World} {o:Oper} {a:Act} {K:Act->World->Prop} {Q:Exit->Act->World->Prop}
  (s x:Operand) (t:TypeId) (ho:o.op=.call {callee:=.builtin .append,args:=#[s,x],argTypes:=#[t,t]}) (ht:Tryz.prog.underlying t=some (.slice 127))
  (L:List Int) (base B:Nat) (v:Value) (xs:List Tok) (hs:a.eval s=v) (hown:bI L w base v xs) (A:Option Addr) (m c:Nat) (ys:List Tok) (hx:a.eval x=.slice A m c) (hm:m=ys.length) (hr:RdR L w B A ys)
  (hlen:xs.length+ys.length<=1000000) (hbase:base<=w.heap.size)
  (hK:∀v' w',bI L w' base v' (xs++ys)->w.grownBy w' v.ownBlock->K (a.put o.dst v') w') :
  o.wp Tryz.prog a w K Q:=by
 obtain⟨i,hi,hz0,hz1,hz2⟩:=info_parts zlO;subst hm;rcases A with _|ad
 ·have hz:ys=[]:=by
   rcases Nat.eq_zero_or_pos ys.length with h0|h0
   ·exact List.eq_nil_of_length_eq_zero h0
   ·obtain⟨g,o',h,_⟩:=hr (by omega);cases h
  subst hz;have hrun:=zao (P:=Tryz.prog) w base t o.type 127 i 2 ht hi v xs.length _ hown c;unfold Oper.wp;simp[execOp,ho,resolve,invoke,builtin,hs,hx,hrun,Result.andThen];exact hK v w (by simpa using hown) (World.grownBy.refl _ _)
 ·refine wp_append_own w s x t ho base 127 i _ 2 32 ht hi hz0 hz1 hz2 rfl (by decide) v xs.length (xs.flatMap (aW L)) hs hown ad ys.length c (ys.flatMap (aW L)) hx (zcv L ys) ?_ ?_ (by unfold maxLen;omega) (by omega) hbase fun v' w' h1 h2 _=>hK v' w' ?_ h2
  ·intro j u hj;have hjl:j<(ys.flatMap (aW L)).length:=(List.getElem?_eq_some_iff.1 hj).1;rw[zcv]at hjl;obtain⟨g,cur,h,_,hh,hc⟩:=hr (by omega)
   replace h:=Option.some.inj h
   subst h;rw[zd6,Nat.zero_add,cell_of_row w g _ _ _ _ hh];exact hc j u hj
  ·intro u hu;obtain⟨z,_,hz⟩:=List.mem_flatMap.1 hu;simp[aW]at hz;rcases hz with rfl|rfl <;> rfl
  ·unfold bI;rw[List.length_append,List.flatMap_append];exact h1
def Rd8 (L:List Int) (B R px py:Nat) (w:World) (ts:List Tok):Prop :=
 ∃A c,w.heap[R]?=some (.cells #[.slice A ts.length c,.complex .f64 px py,.complex .f64 0 0,.int .i64 0] 162 (0,0))/\ts.length<=c/\ts.length<=4000/\RdT L w B A ts/\B<=R
theorem Rd8.lt {L:List Int} {B R px py:Nat} {w:World} {ts:List Tok} (h:Rd8 L B R px py w ts):R<w.heap.size:=by
 obtain⟨A,c,hh,_⟩:=h;exact(Array.getElem?_eq_some_iff.1 hh).1
theorem Rd8.other {L:List Int} {B R px py:Nat} {w:World} {ts:List Tok} (h:Rd8 L B R px py w ts):aY w (some R):=by
 obtain⟨A,c,hh,_⟩:=h;intro k hk cur he;injection hk with hk;subst hk;rw[hh]at he;injection he with he;injection he with _ he;cases he
theorem Rd8.grown {L:List Int} {B R px py:Nat} {w w':World} {ts:List Tok} {row:Option Nat} (h:Rd8 L B R px py w ts) (hg:w.grownBy w' row) (hr:∀k,row=some k->R<k):Rd8 L B R px py w' ts:=by
 have hlt:=h.lt;obtain⟨A,c,hh,h1,h2,h3,h4⟩:=h;exact⟨A,c,(hg.block R hlt (fun e=>by have:=hr R e.symm;omega)).trans hh,h1,h2,h3.grown hg (fun k e=>by have:=hr k e;omega) (by omega),h4⟩
theorem Rd8.alloc {L:List Int} {B R px py:Nat} {w:World} {ts:List Tok} (h:Rd8 L B R px py w ts) (o:Obj):Rd8 L B R px py (w.alloc o) ts :=
 h.grown (row:=.none) (aG (World.grownBy.refl _ _) o) (fun _ e=>by cases e)
theorem Rd8.own {L:List Int} {B R px py base:Nat} {w w':World} {ts:List Tok} {e:TypeId} {size n:Nat} {v:Value} {xs:List Value} (h:Rd8 L B R px py w ts) (ho:w.ownsRow base e size v n xs) (hg:w.grownBy w' v.ownBlock) (hb:R<base):Rd8 L B R px py w' ts :=
 h.grown hg (fun k e=>by have:=(World.ownsRow.lt ho k e).1;omega)
theorem Rd8.far {L:List Int} {B R px py:Nat} {w:World} {ts:List Tok} (h:Rd8 L B R px py w ts) (g i:Nat) (u:Value) (hg:R<g):Rd8 L B R px py (w.setCell ⟨g,i,none⟩ u) ts :=
 h.grown (aF (World.grownBy.refl w (some g)) i u) (fun k e=>by injection e with e;omega)
theorem Rd8.cell0 {L:List Int} {B R px py:Nat} {w:World} {ts:List Tok} (h:Rd8 L B R px py w ts):∃A c,w.cell? ⟨R,0,none⟩=some (.slice A ts.length c)/\w.cell? ⟨R,3,none⟩=some (.int .i64 0)/\w.frozen? ⟨R,0,none⟩=false/\ts.length<=c/\RdT L w B A ts /\
  ∀A' c' ts',ts'.length<=c'->ts'.length<=4000->RdT L w B A' ts'->Rd8 L B R px py (w.setCell ⟨R,0,none⟩ (.slice A' ts'.length c')) ts':=by
 obtain⟨A,c,hh,h1,h2,h3,h4⟩:=h;refine⟨A,c,by rw[cell_of_row w R 0 _ _ _ hh];rfl,by rw[cell_of_row w R 3 _ _ _ hh];rfl,frozen_of_row w R 0 _ _ hh,h1,h3,fun A' c' ts' k1 k2 k3=>⟨A',c',?_,k1,k2,?_,h4⟩⟩
 ·rw[heap_setCell_same w R 0 _ _ _ hh];rfl
 ·exact k3.keep fun g o hg=>World.cell?_of_block (Below.heap_setCell w ⟨R,0,none⟩ _ g (by simp only;omega))
def kd:List Tok->Int
 | []=>0
 | t::_=>t.k
theorem zkm (L:List Int) (B R px py:Nat) (ts:List Tok) (w:World) (hr:Rd8 L B R px py w ts) :
  Calls Tryz.prog 92 #[.pointer (some ⟨R,0,none⟩)] w fun e w'=>e=.returned (.int .i64 (kd ts))/\w=w':=by
 obtain⟨A,c,h0,h3,_,hc,ht,_⟩:=hr.cell0;rcases ts with _|⟨t,r⟩
 ·clear hr ht
  go_enter Tryz.func92,Tryz.ntmps92
  go_wp2;go_ret
  exact⟨rfl,rfl⟩
 ·obtain⟨g,o,rfl,_,hcl⟩:=ht (by simp);have hcell:w.cell? ⟨g,o,none⟩=some (.int .i64 t.k):=hcl 0 0 _ (by simp) rfl;have hl:0<((t::r).length:Int):=by simp
  have hl0:(((t::r).length:Int)==0)=false:=by simp;omega
  have HK:Hid (kd (t::r)=t.k):=aA rfl;rw[HK.o];clear hr ht hcl;generalize (t::r).length=n at *;generalize t.k=z at *
  go_enter Tryz.func92,Tryz.ntmps92
  go_wp2;go_ret
  exact⟨rfl,rfl⟩
theorem is8 (L:List Int) (B R px py:Nat) (ts:List Tok) (a b:Int) (w:World) (hr:Rd8 L B R px py w ts) :
  Calls Tryz.prog 130 #[.pointer (some ⟨R,0,none⟩),.int .i64 a,.int .i64 b] w fun e w'=>e=.returned (.bool (Y.is [a,b] ts))/\w=w':=by
 have HK:=aA (zkm L B R px py ts w hr);obtain⟨A,c,h0,h3,_,hc,ht,_⟩:=hr.cell0;rcases ts with _|⟨t,r⟩
 ·clear hr ht
  go_enter Tryz.func130,Tryz.ntmps130
  go_wp2;go_ret
  exact⟨rfl,rfl⟩
 ·have hl:0<((t::r).length:Int):=by simp
  have HE:Hid (Y.is [a,b] (t::r)=((t.k==a)||(t.k==b))):=aA (by show [a,b].contains t.k=_;simp[List.contains,List.elem];cases (t.k==a) <;> cases (t.k==b) <;> rfl);have HK2:Hid (kd (t::r)=t.k):=aA rfl;rw[HE.o];rw[HK2.o]at HK;clear hr ht;generalize (t::r).length=n at *;generalize t.k=z at *;by_cases ha:z=a
  ·have ha':(z==a)=true:=by simpa using ha
   rw[ha',Bool.true_or];clear ha
   go_enter Tryz.func130,Tryz.ntmps130
   go_wp2_with fail
   refine HK.o.mono ?_;rintro _ _ ⟨rfl,rfl⟩;go_wp2;go_ret
   exact⟨rfl,rfl⟩
  ·have ha':(z==a)=false:=by simpa using ha
   rw[ha',Bool.false_or];clear ha;generalize hb:(z==b)=q at *
   go_enter Tryz.func130,Tryz.ntmps130
   go_wp2_with fail
   refine HK.o.mono ?_;rintro _ _ ⟨rfl,rfl⟩;go_wp2_with fail
   refine HK.o.mono ?_;rintro _ _ ⟨rfl,rfl⟩;go_wp2;go_ret
   exact⟨rfl,rfl⟩
theorem zed (L:List Int) (B R px py:Nat) (t:Tok) (r:List Tok) (a b:Int) (w:World) (hr:Rd8 L B R px py w (t::r)) (hk:Y.is [a,b] (t::r)=true) :
  Calls Tryz.prog 90 #[.pointer (some ⟨R,0,none⟩),.int .i64 a,.int .i64 b] w fun e w'=>e=.returned (bO L t)/\w.grownBy w' (some R)/\Rd8 L B R px py w' r:=by
 have HR:=aA (fun(w1:World) (h1:Below w.heap.size w w1)=>hr.grown (row:=.none) (aM h1 .none) (fun _ e=>by cases e));have HB0:=aA (fun o=>((Below.refl w.heap.size w).alloc (Nat.le_refl _) o));have hlt:=hr.lt;obtain⟨A,c,h0,h3,hf,hc,ht,hset⟩:=hr.cell0;obtain⟨g,o,hA,hgB,hcl⟩:=ht (by simp);have hc0:w.cell? ⟨g,o,none⟩=some (.int .i64 t.k):=hcl 0 0 _ (by simp) rfl;have hc1:w.cell? ⟨g,o+1,none⟩=some (.string (K.str t.t)):=hcl 0 1 _ (by simp) rfl;have hc2:w.cell? ⟨g,o+2,none⟩=some (.complex .f64 (Fl.fl (Pl.pos (L.take t.o)).1) (Fl.fl (Pl.pos (L.take t.o)).2)):=hcl 0 2 _ (by simp) rfl;have hglt:g<w.heap.size:=by obtain⟨_,_,_,_,_,_,hBR⟩:=hr;omega
 have HIS:=aA (fun(w1:World) (h1:Below w.heap.size w w1)=>is8 L B R px py (t::r) a b w1 (HR.o w1 h1));rw[hk]at HIS;have HT:=aA (ht.tail hc);have HSET:=aA hset;have S1:=fun w=>zfC w A c (t::r).length (by simp);have SC:=fun a w m X Y=>show(store a (.complex .f64 X Y) m).run Tryz.prog w=stored Tryz.prog w a (.complex .f64 X Y) m from run_store _ w a _ m rfl;have hl0:(((t::r).length:Int)==0)=false:=by simp;omega
 have hl1:0<(t::r).length:=by simp
 have HN:Hid ((t::r).length=r.length+1/\r.length+1<=c/\r.length+1<=4000):=aA ⟨rfl,hc,by obtain⟨_,_,_,_,h4,_,_⟩:=hr;simpa using h4⟩;unfold bO;clear hr ht hcl hset hk;subst hA;generalize (t::r).length=n at *;generalize t.k=z at *;generalize K.str t.t=st at *;generalize Fl.fl (Pl.pos (L.take t.o)).1=X at *;generalize Fl.fl (Pl.pos (L.take t.o)).2=Y' at *
 go_enter Tryz.func90,Tryz.ntmps90
 go_wp2_with fail
 refine(HIS.o _ (HB0.o _)).mono ?_;rintro _ w2 ⟨rfl,rfl⟩;go_wp2;have hk:=HSET.o (zg3 (some ⟨g,o,none⟩) c) (c-1) r (by have:=HN.o;omega) (by have:=HN.o;omega) HT.o;refine bodyPost_ret (v:=.agg #[.string st,.complex .f64 X Y']) (by simp[results,Tryz.results90,go_sem]) rfl ⟨rfl,aG (aG (aF (World.grownBy.refl _ _) _ _) _) _,?_⟩;rw[show n-1=r.length by have:=HN.o;omega];exact(hk.alloc _).alloc _
def zm6 (L:List Int) (B R px py:Nat) (ts:List Tok) (w:World) (e:Ending) (w':World):Prop :=
 w.grownBy w' (some R)/\∃v,e=.returned v/\bI L w' w.heap.size v (ts.takeWhile Y.isRef)/\Rd8 L B R px py w' (ts.dropWhile Y.isRef)
theorem zj0 (L:List Int) (B R px py:Nat) (ts:List Tok) (w:World) (hr:Rd8 L B R px py w ts) :
  Calls Tryz.prog 129 #[.pointer (some ⟨R,0,none⟩)] w (zm6 L B R px py ts w):=by
 have HR:=aA hr;have hRlt:=hr.lt;have hts:ts.length<=4000:=by obtain⟨_,_,_,_,h,_⟩:=hr;exact h
 clear hr
 go_enter Tryz.func129,Tryz.ntmps129
 go_wp2;go_loopw [3] (fun v wr=>∃(acc rest:List Tok),bI L wr w.heap.size v acc/\Rd8 L B R px py wr rest/\w.grownBy wr (some R)/\acc.length+rest.length=ts.length/\acc++rest.takeWhile Y.isRef=ts.takeWhile Y.isRef/\rest.dropWhile Y.isRef=ts.dropWhile Y.isRef) (fun v _=>4001-zch v)
 case atStart=>exact⟨[],ts,bI.nil _ _ _,HR.o,World.grownBy.refl _ _,by simp,rfl,rfl⟩
 case round =>
  clear HR;obtain⟨acc,rest,ho,hr,hg,hlen,htk,hdp⟩:=hrel;have HO:=aA ho;have HR:=aA hr;have HG:=aA hg;have HL:=aA hlen;have HTK:=aA htk;have HDP:=aA hdp;obtain⟨A,c,rfl,hc1,hc2⟩:=ho.rd;have HIS:=aA (is8 L B R px py rest 1 2 wr hr);clear ho hr hg hlen htk hdp hc1 hc2;rcases hb:Y.is [1,2] rest with _|_
  ·rw[hb]at HIS;have HB:=aA hb;clear hb;go_wp2_with fail
   refine HIS.o.mono ?_;rintro _ w2 ⟨rfl,rfl⟩;go_wp2;go_ret
   obtain⟨e1,e2⟩:=Y.refs_end HB.o;rw[e1,List.append_nil]at HTK;rw[e2]at HDP;refine⟨HG.o,_,rfl,?_,?_⟩
   ·rw[<-HTK.o];exact HO.o
   ·rw[<-HDP.o];exact HR.o
  ·rw[hb]at HIS;have HB:=aA hb;obtain⟨t,r,rfl,htake,hk⟩:=Y.is_true hb;have HRF:=aA (zed L B R px py t r 1 2 wr HR.o hb);have HK:Hid (Y.isRef t=true):=aA hk;clear hb htake hk;unfold bO at HRF;go_wp2_with fail
   refine HIS.o.mono ?_;rintro _ w2 ⟨rfl,rfl⟩;go_wp2_with fail
   refine HRF.o.mono ?_;rintro _ w3 ⟨rfl,hg3,hrd⟩;have HG3:=aA hg3;have HRD:=aA hrd;have HO3:=aA (HO.o.grown hg3 HR.o.other);clear hg3 hrd;have HCE:=aA (zgN L w3 t);have HS0:Hid (w.heap.size<=w3.heap.size):=aA (by have h1:=HG.o.size;have h3:=HG3.o.size;omega);have HAC:Hid (acc.length<=4000):=aA (by have:=HL.o;simp at this;omega);go_wp2_with (at_builtin;refine zkz rfl (.tmp 6) (.tmp 9) _ rfl Tryz.underlying133 L w.heap.size _ acc rfl (HO3.o.alloc _) w3.heap.size 1 t rfl HCE.o (by have:=HAC.o;omega) (by have:=HS0.o;simp;omega) ?_;intro v4 w4 ho4 hg4)
   have HG4:=aA (zae (aG (HG.o.trans HG3.o) _) (HO3.o.alloc _) hg4);have HRD4:=aA ((HRD.o.alloc _).own (HO3.o.alloc _) hg4 hRlt);have HO4:=aA ho4;clear ho4 hg4;go_roundw
   case rel =>
    refine⟨acc++[t],r,HO4.o,HRD4.o,HG4.o,?_,?_,?_⟩
    ·have:=HL.o;simp at this ⊢;omega
    ·rw[<-HTK.o,List.takeWhile_cons,HK.o];simp
    ·rw[<-HDP.o,List.dropWhile_cons,HK.o];rfl
   case measure =>
    obtain⟨A4,c4,rfl,_,_⟩:=HO4.o.rd
    have:=HAC.o
    simp[zch];omega
namespace Y
theorem zfo (left:Tok):∀(f:Nat) (acc:List Prd) (ts:List Tok) (ps:List Prd) (r:List Tok),alts f left acc ts=.ok ps r->ps.length+r.length<=acc.length+ts.length
 | 0,acc,ts,ps,r,h=>by injection h with h1 h2;subst h1 h2;exact Nat.le_refl _
 | f+1,acc,ts,ps,r,h=>by
  rw[alts]at h;obtain⟨p,m,h1,h2⟩:=bind_eq_ok h;obtain⟨t,m2,h3,h4⟩:=bind_eq_ok h2;have e1:=zig h1;have e2:=congrArg List.length (take_ok h3).1;simp at e2;split at h4
  ·have:=zfo left f _ _ _ _ h4
   simp at this;omega
  ·injection h4 with h5 h6;subst h5 h6;simp;omega
theorem group_len {acc ps:List Prd} {ts r:List Tok} (h:group acc ts=.ok ps r):ps.length+r.length<acc.length+ts.length:=by
 unfold group at h;obtain⟨t,m,h1,h2⟩:=bind_eq_ok h;obtain⟨u,m2,h3,h4⟩:=bind_eq_ok h2;have e1:=congrArg List.length (take_ok h1).1;have e2:=congrArg List.length (take_ok h3).1;have e3:=zfo _ _ _ _ _ _ h4;simp at e1 e2;omega
end Y
theorem zeV {w:World} {base:Nat} {v:Value} {n size g:Nat} {e t:TypeId} {xs:List Value} {cs:Array Value} (h:w.ownsRow base e size v n xs) (hb:w.heap[g]?=some (.cells cs t (0,0))) (he:e≠t):v.ownBlock≠some g:=by
 intro hk;rcases h.2 with⟨rfl,_⟩|⟨g',cap,cur',rfl,_,hg,_⟩
 ·cases hk
 ·injection hk with hk;have hk':g'=g:=hk;subst hk';rw[hg]at hb;injection hb with e1;injection e1 with _ e2;exact he e2
theorem zbJ {w w':World} {base:Nat} {v:Value} {n size g:Nat} {e t:TypeId} {xs:List Value} {cs:Array Value} (h:w.ownsRow base e size v n xs) (hb:w.heap[g]?=some (.cells cs t (0,0))) (he:e≠t) (hg:w.grownBy w' v.ownBlock):w'.heap[g]?=some (.cells cs t (0,0)) :=
 (hg.block g (Array.getElem?_eq_some_iff.1 hb).1 (fun e'=>zeV h hb he e'.symm)).trans hb
theorem zfn {w:World} {o:Oper} {a:Act} {K:Act->World->Prop} {Q:Exit->Act->World->Prop}
  (s x:Operand) (t:TypeId) (ho:o.op=.call {callee:=.builtin .append,args:=#[s,x],argTypes:=#[t,t]}) (ht:Tryz.prog.underlying t=some (.slice 168))
  (L:List Int) (base:Nat) (v:Value) (ds:List Y.Dcl) (hs:a.eval s=v) (hown:bG L w base v ds) (g c:Nat) (d:Y.Dcl) (A:Option Addr) (dc:Nat) (hx:a.eval x=.slice (some ⟨g,0,none⟩) 1 c) (hz:∀j u,(zaV d A dc)[j]?=some u->w.cell? ⟨g,j,none⟩=some u) (hr:RdR L w base A d.ns)
  (hlen:ds.length<=1000000) (hbase:base<=w.heap.size)
  (hK:∀v' w',bG L w' base v' (ds++[d])->w.grownBy w' v.ownBlock->K (a.put o.dst v') w') :
  o.wp Tryz.prog a w K Q:=by
 obtain⟨i,hi,hz0,hz1,hz2⟩:=info_parts zmU;obtain⟨qs,hq1,hq2,hq3⟩:=hown;refine wp_append_own w s x t ho base 168 i _ 2 32 ht hi hz0 hz1 hz2 rfl (by decide) v ds.length (zmb qs) hs hq2 ⟨g,0,none⟩ 1 c (zaV d A dc) hx rfl ?_ (fun u hu=>by simp[zaV]at hu;rcases hu with rfl|rfl <;> rfl) (by unfold maxLen;omega) (by omega) hbase fun v' w' h1 h2 _=>hK v' w' ?_ h2
 ·intro j u hj;rw[zd6,Nat.zero_add];exact hz j u hj
 ·have ho:=zaq hq2 (by decide);refine⟨qs++[(d,A,dc)],by rw[List.map_append,hq1];rfl,?_,fun q hq=>?_⟩
  ·rw[List.length_append];unfold zmb;rw[List.flatMap_append,List.flatMap_singleton];exact h1
  ·rcases List.mem_append.1 hq with h|h
   ·exact(hq3 q h).grown h2 ho
   ·rw[List.mem_singleton]at h;subst h;exact hr.grown h2 ho
theorem bF.less {L:List Int} {w:World} {base base':Nat} {v:Value} {ps:List Y.Prd} (h:bF L w base v ps) (hb:base'<=base):bF L w base' v ps:=by
 obtain⟨qs,h1,h2,h3⟩:=h;refine⟨qs,h1,⟨h2.1,?_⟩,fun q hq=>(h3 q hq).less hb⟩;rcases h2.2 with h0|⟨g,cap,cur,e,hb1,hr⟩
 ·exact .inl h0
 ·exact .inr ⟨g,cap,cur,e,by omega,hr⟩
def zda (n:Nat) (w:World):Nat:=match w.cell? ⟨n,0,none⟩ with|some (.slice _ k _)=>k|_=>0
theorem bG.less {L:List Int} {w:World} {base base':Nat} {v:Value} {ds:List Y.Dcl} (h:bG L w base v ds) (hb:base'<=base):bG L w base' v ds:=by
 obtain⟨qs,h1,h2,h3⟩:=h;refine⟨qs,h1,⟨h2.1,?_⟩,fun q hq=>(h3 q hq).less hb⟩;rcases h2.2 with h0|⟨g,cap,cur,e,hb1,hr⟩
 ·exact .inl h0
 ·exact .inr ⟨g,cap,cur,e,by omega,hr⟩
theorem zaN {B g i:Nat} {a w:World} (h:Below B a w) (u:Value) (hg:B<=g):Below B a (w.setCell ⟨g,i,none⟩ u) :=
 ⟨h.os,h.tape,h.output,by simpa[World.setCell] using h.size,fun k hk=>(Below.heap_setCell w ⟨g,i,none⟩ u k (by simp only;omega)).trans (h.block k hk)⟩
structure Stands (L:List Int) (x:Tok):Prop where
 o:x.o<L.length
 len:x.t.length<=L.length-x.o
 text:(L.drop x.o).take x.t.length=x.t
 name:(x.k==1)=T.isName x.t
 lit:(x.k==2)=T.isLit x.t
 bytes:K.Bytes x.t
theorem zfB (L:List Int) (hL:K.Bytes L) (k:Nat) (hk:k<L.length) (x:T.P3) (hf:T.Fine (L.drop k) x) (he:x.2.2=0):Stands L ⟨x.1,a7 x.1 ((L.drop k).take x.2.1),k⟩:=by
 obtain⟨xk,xn,xe⟩:=x;obtain⟨h1,_,_,_,_,_⟩:=hf;obtain⟨h2,h3,h4,h5⟩:=h1 he;simp only at h2 h3 h4 h5;rw[List.length_drop]at h3;have hlen:((L.drop k).take xn).length=xn:=by rw[List.length_take,List.length_drop];omega
 by_cases hk1:xk=1
 ·subst hk1;have hn:=h4 rfl;have e:a7 1 ((L.drop k).take xn)=(L.drop k).take xn:=by simp[a7]
  refine⟨hk,?_,?_,?_,?_,?_⟩
  ·simp only;rw[e,hlen];exact h3
  ·simp only;rw[e,hlen]
  ·simp only;rw[e,hn];rfl
  ·simp only;rw[e,T.name_lit _ hn];rfl
  ·simp only;rw[e];exact(hL.drop k).take xn
 ·by_cases hk2:xk=2
  ·subst hk2;have hn:=h5 rfl;have e:a7 2 ((L.drop k).take xn)=(L.drop k).take xn:=by simp[a7]
   have hnn:T.isName ((L.drop k).take xn)=false:=by
    rcases hq:T.isName ((L.drop k).take xn) with _|_
    ·rfl
    ·have:=T.name_lit _ hq;rw[hn]at this;cases this
   refine⟨hk,?_,?_,?_,?_,?_⟩
   ·simp only;rw[e,hlen];exact h3
   ·simp only;rw[e,hlen]
   ·simp only;rw[e,hnn];rfl
   ·simp only;rw[e,hn];rfl
   ·simp only;rw[e];exact(hL.drop k).take xn
  ·have e:a7 xk ((L.drop k).take xn)=[]:=by unfold a7;rw[if_neg (by omega)]
   refine⟨hk,?_,?_,?_,?_,?_⟩
   ·simp only;rw[e];simp
   ·simp only;rw[e];simp
   ·simp only;rw[e,beq_eq_false_iff_ne.2 hk1];rfl
   ·simp only;rw[e,beq_eq_false_iff_ne.2 hk2];rfl
   ·simp only;rw[e];exact K.Bytes.nil
def zhY (L:List Int) (k:Nat) (xs:List Tok):Prop:=(∀x∈xs,Stands L x/\x.o<k)/\xs.Pairwise (fun a b=>a.o<b.o)
theorem zdt (L:List Int) (hL:K.Bytes L):∀(f k m:Nat) (acc xs:List Tok),k<=L.length->zhY L k acc->zfD f (L.drop k) k m acc=.ok xs->zhY L L.length xs
 | 0,k,m,acc,xs,hk,hr,h=>by
  injection h with h;subst h;exact⟨fun x hx=>⟨(hr.1 x hx).1,(hr.1 x hx).1.o⟩,hr.2⟩
 | f+1,k,m,acc,xs,hk,hr,h=>by
  by_cases he:(L.drop k).length=0\/m=2
  ·rw[zeN _ _ _ _ _ he]at h;injection h with h;subst h;exact⟨fun x hx=>⟨(hr.1 x hx).1,(hr.1 x hx).1.o⟩,hr.2⟩
  ·have hlt:k<L.length:=by rw[List.length_drop]at he;omega
   have hf:=T.piece_fine (L.drop k) (by rw[List.length_drop];omega) (hL.drop k);by_cases hb:(T.piece (L.drop k)).2.2=0
   ·rw[zgA _ _ _ _ _ he hb]at h;obtain⟨hn1,hn2,_,_⟩:=hf.1 hb;rw[List.length_drop]at hn2;rw[List.drop_drop]at h;refine zdt L hL f _ _ _ xs (by omega) ?_ h;unfold more;split
    ·exact⟨fun x hx=>⟨(hr.1 x hx).1,by have:=(hr.1 x hx).2;omega⟩,hr.2⟩
    ·refine⟨fun x hx=>?_,?_⟩
     ·rcases List.mem_append.1 hx with h1|h1
      ·exact⟨(hr.1 x h1).1,by have:=(hr.1 x h1).2;omega⟩
      ·rw[List.mem_singleton]at h1;subst h1;exact⟨zfB L hL k hlt _ hf hb,by simp only;omega⟩
     ·rw[List.pairwise_append];refine⟨hr.2,List.pairwise_singleton _ _,fun a ha b hb'=>?_⟩;rw[List.mem_singleton]at hb';subst hb';exact(hr.1 a ha).2
   ·rw[zeO _ _ _ _ _ he hb]at h;cases h
theorem zgo (L:List Int) (hL:K.Bytes L) (xs:List Tok) (h:zjN L=.ok xs):zhY L L.length xs :=
 zdt L hL _ 0 0 [] xs (Nat.zero_le _) ⟨fun x hx=>by simp at hx,List.Pairwise.nil⟩ (by simpa[zjN] using h)
theorem zhY.lt {L:List Int} {k:Nat} {xs:List Tok} (h:zhY L k xs) (i j:Nat) (hij:i<j) (hj:j<xs.length):xs[i].o<xs[j].o :=
 List.pairwise_iff_getElem.1 h.2 i j (by omega) hj hij
theorem zhY.at {L:List Int} {k:Nat} {xs:List Tok} (h:zhY L k xs) (i:Nat) (hi:i<xs.length):Stands L xs[i]:=(h.1 _ (List.getElem_mem hi)).1
theorem zhY.ge {L:List Int} {k:Nat} {xs:List Tok} (h:zhY L k xs):∀(i:Nat) (hi:i<xs.length),i<=xs[i].o
 | 0,_=>Nat.zero_le _
 | i+1,hi=>by
  have h1:=h.ge i (by omega);have h2:=h.lt i (i+1) (by omega) hi;omega
theorem zhY.count {L:List Int} {k:Nat} {xs:List Tok} (h:zhY L k xs):xs.length<=L.length:=by
 rcases Nat.eq_zero_or_pos xs.length with h0|h0
 ·omega
 ·have h1:=h.ge (xs.length-1) (by omega);have h2:=(h.at (xs.length-1) (by omega)).o;omega
theorem za0 (w:World) (A:Option Addr) (c n i j:Nat) (h1:i<=j) (h2:j<=c):(Instr.sliceAt 65 (.slice A n c) (some (.int .i64 i)) (some (.int .i64 j)) none).run Tryz.prog w=.ok (.slice (dropA A c i) (j-i) (c-i)) w:=by
 rw[run_sliceAt_slice _ _ _ _ _ _ (by kernel_rfl),run_slice_lh _ _ _ _ _ (by kernel_rfl) .i64 .i64 (i:Int) (j:Int) (by omega) (by omega) (by omega)];have hs:(sizeOf (Tryz.prog.elem 65)).run Tryz.prog w=.ok 1 w:=by kernel_rfl
 rw[hs];simp[Result.andThen,sliced,dropA]
namespace T
theorem str_list (l:List Int):(K.str l).toList=Lib.bytesOf l:=by
 rw[ByteArray.toList_eq];rfl
theorem pre_take (l s:List Int):pre l s=((K.str (l.take s.length)).toList==(K.str s).toList):=by
 rw[str_list,str_list];have e:Lib.bytesOf (l.take s.length)=(Lib.bytesOf l).take (Lib.bytesOf s).length:=by simp[Lib.bytesOf,List.map_take]
 rw[e];unfold pre Lib.hasPrefix;rw[Bool.eq_iff_iff,List.isPrefixOf_iff_prefix,beq_iff_eq,List.prefix_iff_eq_take,eq_comm]
theorem pre_short (l s:List Int) (h:l.length<s.length):pre l s=false:=by
 rcases hp:pre l s with _|_
 ·rfl
 ·have:=zb5 l s hp;omega
theorem ix_cons (z:Int) (r s:List Int):ix (z::r) s=if pre (z::r) s then 0 else if ix r s<0 then -1 else ix r s+1:=by
 unfold ix pre Lib.hasPrefix;rw[show Lib.bytesOf (z::r)=UInt8.ofNat z.toNat::Lib.bytesOf r from rfl,Lib.index]
 have:=Lib.index_ge (Lib.bytesOf r) (Lib.bytesOf s)
 split
 ·rfl
 ·by_cases h:Lib.index (Lib.bytesOf r) (Lib.bytesOf s) = -1
  ·rw[h];simp
  ·have h1:(Lib.index (Lib.bytesOf r) (Lib.bytesOf s) == -1)=false:=by simpa using h
   rw[h1];simp only[Bool.false_eq_true,if_false];rw[if_neg (by omega)]
theorem ix_nil (s:List Int) (h:s.length≠0):ix [] s = -1:=by
 cases s with
 | nil=>simp at h
 | cons a b=>rfl
theorem ix_next (l s:List Int) (k:Nat) (h:k<l.length):ix (l.drop k) s=if pre (l.drop k) s then 0 else if ix (l.drop (k+1)) s<0 then -1 else ix (l.drop (k+1)) s+1:=by
 rw[L.cons_drop l k h,ix_cons]
end T
theorem zaQ (A:Option Addr) (c B:Nat) (l s:List Int) (k:Nat) (w:World) (hr:RdB w B A l) (hl:K.Bytes l) (hc:l.length<=c) (hn:l.length<=5000) (hk:k<=l.length) (hs:s.length<=5000) :
  Calls Tryz.prog 121 #[.slice A l.length c,.int .i64 k,.string (K.str s)] w fun e w'=>e=.returned (.bool (T.pre (l.drop k) s))/\w=w':=by
 have hsz:=K.str_size s;by_cases h:k+s.length<=l.length
 ·have hp:=T.pre_take (l.drop k) s;have C1:=zbi (((hr.dropA hc k).take s.length)) ((hl.drop k).take s.length) (c-k);have S1:=fun w=>za0 w A c l.length k (k+s.length) (by omega) (by omega);rw[List.length_take,List.length_drop,Nat.min_eq_left (by omega)]at C1;rw[show k+s.length-k=s.length by omega]at S1;have hsz2:(k:Int)+((K.str s).size:Int)=((k+s.length:Nat):Int):=by rw[hsz];omega
  have h1:((k+s.length:Nat):Int)<=(l.length:Int):=by omega
  have HP:=aA hp;clear hp hsz hr hl hk hs hc;generalize T.pre (l.drop k) s=pb at *;generalize K.str (List.take s.length (List.drop k l))=st at *;generalize K.str s=s2 at *;generalize k+s.length=m at *;generalize dropA A c k=D at *;generalize c-k=c2 at *;generalize s.length=sl at *
  go_enter Tryz.func121,Tryz.ntmps121
  go_wp2_with (first|simp only[S1]|simp only[C1])
  go_ret
  exact⟨aE HP.o.symm,rfl⟩
 ·rw[T.pre_short (l.drop k) s (by rw[List.length_drop];omega)];have h1:¬(k:Int)+((K.str s).size:Int)<=(l.length:Int):=by rw[hsz];omega
  have h2:(k:Int)+((K.str s).size:Int)<=20000:=by rw[hsz];omega
  have h3:0<=(k:Int)+((K.str s).size:Int):=by omega
  clear hr hl hk hs hc hsz;generalize K.str s=s2 at *
  go_enter Tryz.func121,Tryz.ntmps121
  go_wp2;go_ret
  exact⟨rfl,rfl⟩
def T.pastV (l s:List Int) (k:Nat):Int:=if T.ix (l.drop k) s<0 then -1 else k+T.ix (l.drop k) s+s.length
theorem T.pastV_on (l s:List Int) (k:Nat) (h:k<l.length) (hp:T.pre (l.drop k) s=false):T.pastV l s k=T.pastV l s (k+1):=by
 unfold T.pastV;have hx:=T.ix_next l s k h;rw[hp]at hx;simp only[Bool.false_eq_true,if_false]at hx;have hg:=T.ix_ge (l.drop (k+1)) s;by_cases h1:T.ix (l.drop (k+1)) s<0
 ·rw[if_pos h1]at hx;rw[if_pos (by omega),if_pos h1]
 ·rw[if_neg h1]at hx;rw[if_neg (by omega),if_neg h1,hx];simp only[Int.natCast_add];omega
theorem T.pastV_here (l s:List Int) (k:Nat) (h:k<l.length) (hp:T.pre (l.drop k) s=true):T.pastV l s k=k+s.length:=by
 unfold T.pastV;have hx:=T.ix_next l s k h;rw[hp,if_pos rfl]at hx;rw[hx];simp
theorem T.pastV_end (l s:List Int) (k:Nat) (h:l.length<=k) (hs:s.length≠0):T.pastV l s k = -1:=by
 unfold T.pastV;rw[List.drop_eq_nil_of_le h,T.ix_nil s hs];rfl
theorem zbY (A:Option Addr) (c B:Nat) (l s:List Int) (k:Nat) (w:World) (hr:RdB w B A l) (hl:K.Bytes l) (hc:l.length<=c) (hn:l.length<=5000) (hk:k<=6000) (hs:s.length<=5000) (hs0:s.length≠0) :
  Calls Tryz.prog 122 #[.slice A l.length c,.int .i64 k,.string (K.str s)] w fun e w'=>e=.returned (.int .i64 (T.pastV l s k))/\w=w':=by
 have HP:=aA (fun(j:Nat) (h:j<=l.length)=>zaQ A c B l s j w hr hl hc hn h hs);have hsz:=aA (K.str_size s);have HE:=aA (fun j h=>T.pastV_end l s j h hs0);have HH:=aA (T.pastV_here l s);have HO:=aA (T.pastV_on l s);clear hr hl hc hs0
 go_enter Tryz.func122,Tryz.ntmps122
 go_wp2
 go_loop [1] (fun vi=>∃(j:Nat),j<=6000/\vi=.int .i64 j/\T.pastV l s j=T.pastV l s k) (fun vi=>6001-(intOf vi).toNat)
 case atStart=>exact⟨k,hk,rfl,rfl⟩
 case round =>
  obtain⟨j,hj,rfl,he⟩:=hrel;have HV:=aA he;clear he;by_cases hlt:j<l.length
  ·have HPj:=aA (HP.o j (by omega));rcases hb:T.pre (l.drop j) s with _|_
   ·rw[hb]at HPj;have HN:=aA (HO.o j hlt hb);clear hb HP HE HH HO;go_wp2_with fail
    refine HPj.o.mono ?_;rintro _ w' ⟨rfl,rfl⟩;go_wp2
    go_round
    case rel=>exact⟨j+1,by omega,by go_num,by rw[<-HV.o,HN.o]⟩
    case measure=>simp[intOf];omega
   ·rw[hb]at HPj;have HN:=aA (HH.o j hlt hb);clear hb HP HE HH HO;have hsz2:=hsz.o;have hb1:(j:Int)+((K.str s).size:Int)<=20000:=by rw[hsz2];omega
    have HZ:=aA hsz2;clear hsz2 hsz;generalize K.str s=s2 at *;go_wp2_with fail
    refine HPj.o.mono ?_;rintro _ w' ⟨rfl,rfl⟩;go_wp2;go_ret
    exact⟨aS (by rw[<-HV.o,HN.o,HZ.o]),rfl⟩
  ·have HN:=aA (HE.o j (by omega));clear HP HE HH HO;go_wp2;go_ret
   exact⟨aS (by rw[<-HV.o,HN.o]),rfl⟩
theorem T.line_cons (z:Int) (r:List Int) (hb:K.Bytes (z::r)):T.line (z::r)=if z=10 then [] else z::T.line r:=by
 have hp:T.pre (z::r) [10]=decide (z=10):=by
  unfold T.pre Lib.hasPrefix;simp only[Lib.bytesOf,List.map_cons,List.map_nil,List.isPrefixOf,Bool.and_true]
  have:=hb.hd
  rw[Bool.eq_iff_iff,decide_eq_true_iff,beq_iff_eq]
  constructor
  ·intro h
   have:=congrArg UInt8.toNat h
   simp at this;omega
  ·rintro rfl;rfl
 have hx:=T.ix_cons z r [10];have hg:=T.ix_ge r [10];rw[hp]at hx;unfold T.line;by_cases h:z=10
 ·rw[if_pos h];rw[decide_eq_true h,if_pos rfl]at hx;rw[hx];rfl
 ·rw[if_neg h];rw[decide_eq_false h,if_neg (by simp)]at hx;by_cases h1:T.ix r [10]<0
  ·rw[if_pos h1]at hx;rw[if_neg (by omega),if_neg (by omega)]
  ·rw[if_neg h1]at hx;rw[if_pos (by omega),if_pos (by omega),hx];rw[show(T.ix r [10]+1).toNat=(T.ix r [10]).toNat+1 by omega];rfl
theorem zdy (A:Option Addr) (c B:Nat) (l:List Int) (k:Nat) (w:World) (hr:RdB w B A l) (hl:K.Bytes l) (hn:l.length<=5000) (hk:k<=l.length) :
  Calls Tryz.prog 123 #[.slice A l.length c,.int .i64 k] w fun e w'=>e=.returned (.int .i64 ((k+(T.line (l.drop k)).length:Nat):Int))/\w=w':=by
 go_enter Tryz.func123,Tryz.ntmps123
 go_wp2
 go_loop [1] (fun vi=>∃(j:Nat),j<=l.length/\vi=.int .i64 j/\j+(T.line (l.drop j)).length=k+(T.line (l.drop k)).length) (fun vi=>l.length-(intOf vi).toNat)
 case atStart=>exact⟨k,hk,rfl,rfl⟩
 case round =>
  obtain⟨j,hj,rfl,he⟩:=hrel;have HV:=aA he;clear he;by_cases hlt:j<l.length
  ·obtain⟨g,o,rfl,_,hcl⟩:=hr (by omega);have hcell:=hcl j (by omega);have hcd:=L.cons_drop l j hlt;have hlc:=T.line_cons (l.getD j 0) (l.drop (j+1)) (hcd▸hl.drop j);rw[<-hcd]at hlc;have HL:=aA hlc;clear hcl hr hl hcd hlc;generalize l.getD j 0=z at *;by_cases h10:z=10
   ·subst h10;go_wp2;go_ret
    exact⟨aS (by have h:=HV.o;have h2:=HL.o;simp only[if_true]at h2;rw[h2]at h;simp at h;omega),rfl⟩
   ·have h11:(z==10)=false:=by simpa using h10
    have HN:=aA h10;clear h10;go_wp2
    go_round
    case rel=>exact⟨j+1,by omega,by go_num,by rw[<-HV.o,HL.o,if_neg HN.o];simp;omega⟩
    case measure=>simp[intOf];omega
  ·obtain rfl:j=l.length:=by omega
   clear hr hl;go_wp2;go_ret
   exact⟨aS (by have h:=HV.o;rw[List.drop_length,show T.line []=[] from rfl]at h;simp at h;omega),rfl⟩
def T.quoV (q:Int) (l:List Int) (k:Nat):Int:=match T.quoted q (l.drop k) with|none=>-1|some n=>k+n
theorem T.quoted_nil (q:Int):T.quoted q []=none:=by simp[T.quoted]
theorem T.quoV_end (q:Int) (l:List Int) (k:Nat) (h:l.length<=k):T.quoV q l k = -1:=by
 unfold T.quoV;rw[List.drop_eq_nil_of_le h,T.quoted_nil]
theorem T.quoV_here (q:Int) (l:List Int) (k:Nat) (h:k<l.length) (hq:l.getD k 0=q):T.quoV q l k=k+1:=by
 unfold T.quoV;rw[L.cons_drop l k h,hq]
 have:T.quoted q (q::l.drop (k+1))=some 1:=by unfold T.quoted;rw[if_pos rfl]
 rw[this];rfl
theorem T.quoV_on (q:Int) (l:List Int) (k:Nat) (h:k<l.length) (hq:¬l.getD k 0=q) (h92:¬l.getD k 0=92):T.quoV q l k=T.quoV q l (k+1):=by
 unfold T.quoV;rw[L.cons_drop l k h]
 have:T.quoted q (l.getD k 0::l.drop (k+1))=(T.quoted q (l.drop (k+1))).map (· + 1):=by
  generalize l.drop (k+1)=r;cases r with
  | nil =>
   rw[T.quoted_nil]
   have h1:T.quoted q [l.getD k 0]=none:=by
    generalize l.getD k 0=z at *;simp[T.quoted,hq,h92]
   rw[h1];rfl
  | cons a b=>rw[T.quoted,if_neg hq,if_neg h92]
 rw[this];cases T.quoted q (l.drop (k+1)) with
 | none=>rfl
 | some n=>simp only[Option.map_some];omega
theorem T.quoV_two (q:Int) (l:List Int) (k:Nat) (h:k<l.length) (hq:¬l.getD k 0=q) (h92:l.getD k 0=92):T.quoV q l k=T.quoV q l (k+2):=by
 unfold T.quoV;rw[L.cons_drop l k h];by_cases h2:k+1<l.length
 ·rw[L.cons_drop l (k+1) h2]
  have:T.quoted q (l.getD k 0::l.getD (k+1) 0::l.drop (k+1+1))=(T.quoted q (l.drop (k+2))).map (· + 2):=by
   rw[T.quoted,if_neg hq,if_pos h92]
  rw[this];cases T.quoted q (l.drop (k+2)) with
  | none=>rfl
  | some n=>simp only[Option.map_some];omega
 ·rw[List.drop_eq_nil_of_le (by omega:l.length<=k+1),List.drop_eq_nil_of_le (by omega:l.length<=k+2),T.quoted_nil]
  have:T.quoted q [l.getD k 0]=none:=by rw[T.quoted,if_neg hq,if_pos h92]
  rw[this]
theorem zef (A:Option Addr) (c B:Nat) (l:List Int) (k:Nat) (w:World) (hr:RdB w B A l) (hn:l.length<=5000) (hk:k<l.length) :
  Calls Tryz.prog 156 #[.slice A l.length c,.int .i64 k] w fun e w'=>e=.returned (.int .i64 (T.quoV (l.getD k 0) l (k+1)))/\w=w':=by
 obtain⟨g,o,rfl,_,hcl⟩:=hr (by omega);have hcell0:=hcl k hk;have HE:=aA (T.quoV_end (l.getD k 0) l);have HH:=aA (T.quoV_here (l.getD k 0) l);have HO:=aA (T.quoV_on (l.getD k 0) l);have HT:=aA (T.quoV_two (l.getD k 0) l);have HC:=aA hcl;clear hcl hr;generalize l.getD k 0=q at *
 go_enter Tryz.func156,Tryz.ntmps156
 go_wp2
 go_loop [1] (fun vi=>∃(j:Nat),j<=l.length+1/\vi=.int .i64 j/\T.quoV q l j=T.quoV q l (k+1)) (fun vi=>l.length+2-(intOf vi).toNat)
 case atStart=>exact⟨k+1,by omega,by go_num,rfl⟩
 case round =>
  clear hcell0;obtain⟨j,hj,rfl,he⟩:=hrel;have HV:=aA he;clear he;by_cases hlt:j<l.length
  ·have hcell:=HC.o j hlt;by_cases hz:l.getD j 0=q
   ·have HN:=aA (HH.o j hlt hz);have hz':(l.getD j 0==q)=true:=by simpa using hz
    clear hz HE HH HO HT HC;generalize l.getD j 0=z at *;go_wp2;go_ret
    exact⟨aS (by rw[<-HV.o,HN.o]),rfl⟩
   ·have hz':(l.getD j 0==q)=false:=by simpa using hz
    by_cases h92:l.getD j 0=92
    ·have HN:=aA (HT.o j hlt hz h92);have h92':(l.getD j 0==92)=true:=by simpa using h92
     clear hz h92 HE HH HO HT HC;generalize l.getD j 0=z at *;go_wp2
     go_round
     case rel=>exact⟨j+2,by omega,by go_num,by rw[<-HV.o,HN.o]⟩
     case measure=>simp[intOf];omega
    ·have HN:=aA (HO.o j hlt hz h92);have h92':(l.getD j 0==92)=false:=by simpa using h92
     clear hz h92 HE HH HO HT HC;generalize l.getD j 0=z at *;go_wp2
     go_round
     case rel=>exact⟨j+1,by omega,by go_num,by rw[<-HV.o,HN.o]⟩
     case measure=>simp[intOf];omega
  ·have HN:=aA (HE.o j (by omega));clear HE HH HO HT HC;go_wp2;go_ret
   exact⟨aS (by rw[<-HV.o,HN.o]),rfl⟩
theorem T.act_quo {f:Nat} {z:Int} {r:List Int} {o:Int} {m:Nat} (h:T.act f (z::r) o=some m) (hz:z=39\/z=34):∃f' q m',T.quoted z r=some q/\T.act f' (r.drop q) o=some m'/\m=m'+(q+1):=by
 cases f with
 | zero=>simp[T.act]at h
 | succ f =>
  rw[T.act]at h;rw[if_pos hz]at h;split at h
  ·cases h
  ·rename_i q hq
   rw[Option.map_eq_some_iff]at h;obtain⟨m',h1,h2⟩:=h;exact⟨f,q,m',hq,h1,h2.symm⟩
theorem T.act_on {f:Nat} {z:Int} {r:List Int} {o:Int} {m:Nat} (h:T.act f (z::r) o=some m) (hz:¬(z=39\/z=34)) (ho:0<T.ostep z o):∃f' m',T.act f' r (T.ostep z o)=some m'/\m=m'+1:=by
 cases f with
 | zero=>simp[T.act]at h
 | succ f =>
  rw[T.act]at h;rw[if_neg hz,if_pos ho,Option.map_eq_some_iff]at h;obtain⟨m',h1,h2⟩:=h;exact⟨f,m',h1,h2.symm⟩
theorem T.act_end {f:Nat} {z:Int} {r:List Int} {o:Int} {m:Nat} (h:T.act f (z::r) o=some m) (hz:¬(z=39\/z=34)) (ho:¬0<T.ostep z o):m=1:=by
 cases f with
 | zero=>simp[T.act]at h
 | succ f =>
  rw[T.act]at h;rw[if_neg hz,if_neg ho]at h;exact(Option.some.inj h).symm
theorem T.act_nil {f:Nat} {o:Int} {m:Nat} (h:T.act f [] o=some m):False:=by
 cases f with
 | zero=>simp[T.act]at h
 | succ f=>rw[T.act]at h;cases h
theorem zeh (A:Option Addr) (c B:Nat) (l:List Int) (k n f0:Nat) (w:World) (hr:RdB w B A l) (hn:l.length<=5000) (hk:k<l.length) (hz:l.getD k 0=123) (ha:T.act f0 (l.drop k) 0=some n) :
  Calls Tryz.prog 124 #[.slice A l.length c,.int .i64 k] w fun e w'=>e=.returned (.int .i64 ((k+n:Nat):Int))/\w=w':=by
 have HQ:=aA (fun(j:Nat) (h:j<l.length)=>zef A c B l j w hr hn h);have HA:=aA ha;have HZ:=aA hz;clear ha hz
 go_enter Tryz.func124,Tryz.ntmps124
 go_wp2
 go_loop [1,5] (fun vi vo=>∃(j f m:Nat) (o:Int),j<=l.length/\vi=.int .i64 j/\vo=.int .i64 o/\0<=o/\o+k<=j/\T.act f (l.drop j) o=some m/\j+m=k+n/\(o=0->l.getD j 0=123)) (fun vi _=>l.length-(intOf vi).toNat)
 case atStart=>exact⟨k,f0,n,0,by omega,rfl,rfl,by omega,by omega,HA.o,rfl,fun _=>HZ.o⟩
 case round =>
  clear HA HZ;obtain⟨j,f,m,o,hj,rfl,rfl,ho,hok,hact,hm,h123⟩:=hrel;have HM:=aA hm;clear hm;by_cases hlt:j<l.length
  ·obtain⟨g,o',rfl,_,hcl⟩:=hr (by omega);have hcell:=hcl j hlt;have HQj:=aA (HQ.o j hlt);rw[L.cons_drop l j hlt]at hact;have HACT:=aA hact;clear hact HQ hcl hr;have HD:Hid (∀q,(l.drop (j+1)).drop q=l.drop (j+1+q)):=aA (fun q=>by rw[List.drop_drop]);by_cases hq:l.getD j 0=39\/l.getD j 0=34
   ·obtain⟨f',q,m',h1,h2,h3⟩:=T.act_quo HACT.o hq;have hql:=T.quoted_le _ _ _ h1;rw[List.length_drop]at hql;have hv:T.quoV (l.getD j 0) l (j+1)=((j+1+q:Nat):Int):=by unfold T.quoV;rw[h1];simp only;omega
    rw[hv]at HQj;rw[HD.o]at h2;have H2:=aA h2;have H3:=aA h3;have ho1:¬o=0:=fun e=>by have:=h123 e;omega
    have ho2:(o==0)=false:=by simpa using ho1
    clear h1 h2 h3 hv HACT h123
    have hqq:(l.getD j 0==123)=false/\(l.getD j 0==125)=false:=by
     rcases hq with e|e <;> rw[e] <;> exact⟨rfl,rfl⟩
    obtain⟨q1,q2⟩:=hqq;have hpos:0<=((j+1+q:Nat):Int):=by omega
    have hle:j+1+q<=l.length:=by omega
    rcases hq with hq|hq
    ·have q3:(l.getD j 0==39)=true:=by rw[hq];rfl
     clear hq;generalize l.getD j 0=z at *;generalize hx:j+1+q=x at *;have HX:=aA hx;clear hx;go_wp2_with fail
     refine HQj.o.mono ?_;rintro _ w' ⟨rfl,rfl⟩;go_wp2
     go_round
     case rel=>exact⟨x,f',m',o,by omega,rfl,rfl,ho,by have:=HX.o;omega,H2.o,by have:=H3.o;have:=HM.o;have:=HX.o;omega,fun e=>absurd e ho1⟩
     case measure=>have:=HX.o;simp[intOf];omega
    ·have q3:(l.getD j 0==39)=false:=by rw[hq];rfl
     have q4:(l.getD j 0==34)=true:=by rw[hq];rfl
     clear hq;generalize l.getD j 0=z at *;generalize hx:j+1+q=x at *;have HX:=aA hx;clear hx;go_wp2_with fail
     refine HQj.o.mono ?_;rintro _ w' ⟨rfl,rfl⟩;go_wp2
     go_round
     case rel=>exact⟨x,f',m',o,by omega,rfl,rfl,ho,by have:=HX.o;omega,H2.o,by have:=H3.o;have:=HM.o;have:=HX.o;omega,fun e=>absurd e ho1⟩
     case measure=>have:=HX.o;simp[intOf];omega
   ·have q3:(l.getD j 0==39)=false:=by simpa using fun e=>hq (.inl e)
    have q4:(l.getD j 0==34)=false:=by simpa using fun e=>hq (.inr e)
    have HON:=aA (T.act_on HACT.o hq);have HEN:=aA (T.act_end HACT.o hq);clear HACT hq HQj HD;by_cases h1:l.getD j 0=123
    ·have q1:(l.getD j 0==123)=true:=by rw[h1];rfl
     have hs:T.ostep (l.getD j 0) o=o+1:=by unfold T.ostep;rw[if_pos h1]
     obtain⟨f',m',h2,h3⟩:=HON.o (by rw[hs];omega);rw[hs]at h2;have H2:=aA h2;have H3:=aA h3;clear HON HEN h1 hs h2 h3 h123;have ho2:(o+1==0)=false:=by rw[beq_eq_false_iff_ne];omega
     generalize l.getD j 0=z at *;go_wp2
     go_round
     case rel=>exact⟨j+1,f',m',o+1,by omega,by go_num,by go_num,by omega,by omega,H2.o,by have:=H3.o;have:=HM.o;omega,fun e=>by omega⟩
     case measure=>simp[intOf];omega
    ·have q1:(l.getD j 0==123)=false:=by simpa using h1
     have ho1:¬o=0:=fun e=>h1 (h123 e);by_cases h5:l.getD j 0=125
     ·have q2:(l.getD j 0==125)=true:=by rw[h5];rfl
      have hs:T.ostep (l.getD j 0) o=o-1:=by unfold T.ostep;rw[if_neg h1,if_pos h5]
      by_cases h0:0<o-1
      ·obtain⟨f',m',h2,h3⟩:=HON.o (by rw[hs];omega);rw[hs]at h2;have H2:=aA h2;have H3:=aA h3;clear HON HEN h1 h5 hs h2 h3 h123;have ho2:(o-1==0)=false:=by rw[beq_eq_false_iff_ne];omega
       generalize l.getD j 0=z at *;go_wp2
       go_round
       case rel=>exact⟨j+1,f',m',o-1,by omega,by go_num,by go_num,by omega,by omega,H2.o,by have:=H3.o;have:=HM.o;omega,fun e=>by omega⟩
       case measure=>simp[intOf];omega
      ·have hm1:=HEN.o (by rw[hs];omega);have H3:=aA hm1;have ho3:o=1:=by omega
       subst ho3;clear HON HEN h1 h5 hs hm1 h123 h0 ho1;generalize l.getD j 0=z at *;go_wp2;go_ret
       exact⟨aS (by have:=HM.o;have:=H3.o;omega),rfl⟩
     ·have q2:(l.getD j 0==125)=false:=by simpa using h5
      have hs:T.ostep (l.getD j 0) o=o:=by unfold T.ostep;rw[if_neg h1,if_neg h5]
      obtain⟨f',m',h2,h3⟩:=HON.o (by rw[hs];omega);rw[hs]at h2;have H2:=aA h2;have H3:=aA h3;clear HON HEN h1 h5 hs h2 h3 h123;have ho2:(o==0)=false:=by simpa using ho1
      generalize l.getD j 0=z at *;go_wp2
      go_round
      case rel=>exact⟨j+1,f',m',o,by omega,by go_num,rfl,by omega,by omega,H2.o,by have:=H3.o;have:=HM.o;omega,fun e=>absurd e ho1⟩
      case measure=>simp[intOf];omega
  ·exfalso
   rw[List.drop_eq_nil_of_le (by omega)]at hact;exact T.act_nil hact
theorem bG.at {L:List Int} {w:World} {base:Nat} {v:Value} {ds:List Y.Dcl} (h:bG L w base v ds) (i:Nat) (hi:i<ds.length):∃D c A c',v=.slice (some ⟨D,0,none⟩) ds.length c/\w.cell? ⟨D,i*2,none⟩=some (.int .i64 ds[i].k)/\w.cell? ⟨D,i*2+1,none⟩=some (.slice A ds[i].ns.length c')/\RdR L w base A ds[i].ns:=by
 obtain⟨qs,rfl,h2,h3⟩:=h;have hi':i<qs.length:=by simpa using hi
 rcases h2.2 with⟨_,h0⟩|⟨g,cap,cur,rfl,_⟩
 ·omega
 ·refine⟨g,cap,qs[i].2.1,qs[i].2.2,rfl,?_,?_,?_⟩
  ·have:=World.ownsRow.cells h2 (g:=g) rfl (i*2+0) _ (by rw[zhF qs i 0 hi' (by omega)];rfl)
   rw[zd6,Nat.zero_add]at this
   simpa using this
  ·have:=World.ownsRow.cells h2 (g:=g) rfl (i*2+1) _ (by rw[zhF qs i 1 hi' (by omega)];rfl)
   rw[zd6,Nat.zero_add]at this
   simpa using this
  ·have:=h3 qs[i] (List.getElem_mem hi')
   simpa using this
theorem bF.at {L:List Int} {w:World} {base:Nat} {v:Value} {ps:List Y.Prd} (h:bF L w base v ps) (i:Nat) (hi:i<ps.length):∃D c A c',v=.slice (some ⟨D,0,none⟩) ps.length c/\(∀j u,j<5->(aV L ps[i] A c')[j]?=some u->w.cell? ⟨D,i*5+j,none⟩=some u)/\RdR L w base A ps[i].r:=by
 obtain⟨qs,rfl,h2,h3⟩:=h;have hi':i<qs.length:=by simpa using hi
 rcases h2.2 with⟨_,h0⟩|⟨g,cap,cur,rfl,_⟩
 ·omega
 ·refine⟨g,cap,qs[i].2.1,qs[i].2.2,rfl,fun j u hj hu=>?_,?_⟩
  ·have:=World.ownsRow.cells h2 (g:=g) rfl (i*5+j) u (by rw[zj6 L qs i j hi' hj];simpa using hu)
   rw[zd6,Nat.zero_add]at this;exact this
  ·have:=h3 qs[i] (List.getElem_mem hi')
   simpa using this
namespace Y
end Y
theorem bI.base_le {L:List Int} {w:World} {base base':Nat} {v:Value} {xs:List Tok} (h:bI L w base v xs) (hb:base'<=base):bI L w base' v xs:=by
 refine⟨h.1,?_⟩;rcases h.2 with h0|⟨g,cap,cur,e,hb1,hr⟩
 ·exact .inl h0
 ·exact .inr ⟨g,cap,cur,e,by omega,hr⟩
def tmC (t:Gm.Tm):List Value:=[.string (K.str t.nm),.int .i64 t.lv,.int .i64 t.wy]
def zec (ts:List Gm.Tm):List Value:=ts.flatMap tmC
def zkM (ns:List (List Int)):List Value:=ns.map fun s=>.string (K.str s)
abbrev RA:=Gm.Rl×Option Addr×Nat
def rlC (q:RA):List Value:=[.int .i64 q.1.l,.slice q.2.1 q.1.r.length q.2.2,.int .i64 q.1.p]
def zmr (qs:List RA):List Value:=qs.flatMap rlC
theorem zbg {α:Type} (f:α->List Value) (hf:∀x,(f x).length=3) (xs:List α) (i j:Nat) (hi:i<xs.length) (hj:j<3):(xs.flatMap f)[i*3+j]?=(f xs[i])[j]?:=by
 induction xs generalizing i with
 | nil=>simp at hi
 | cons x r ih =>
  rw[List.flatMap_cons];have hl:=hf x;cases i with
  | zero=>rw[List.getElem?_append_left (by omega)];simp
  | succ i =>
   rw[List.getElem?_append_right (by omega),hl,show(i+1)*3+j-3=i*3+j by omega]
   simpa using ih i (by simpa using hi)
theorem zdn {α:Type} (f:α->List Value) (hf:∀x,(f x).length=3) (xs:List α):(xs.flatMap f).length=xs.length*3:=by
 induction xs with
 | nil=>rfl
 | cons x r ih=>rw[List.flatMap_cons,List.length_append,ih,hf,List.length_cons];omega
def aX (w:World) (base:Nat) (v:Value) (ts:List Gm.Tm):Prop:=w.ownsRow base 81 3 v ts.length (zec ts)
def bH (w:World) (base:Nat) (v:Value) (ns:List (List Int)):Prop:=w.ownsRow base 9 1 v ns.length (zkM ns)
def zdj (w:World) (base N:Nat) (A:Option Addr) (zs:List Int):Prop :=
 zs.length≠0->∃(g:Nat) (cur:Array Value),A=some ⟨g,0,none⟩/\base<=g/\g<N/\w.heap[g]?=some (.cells cur 3 (0,0))/\∀j (h:j<zs.length),cur[j]?=some (.int .i64 zs[j])
def bA (w:World) (base N:Nat) (v:Value) (rs:List Gm.Rl):Prop :=
 ∃qs:List RA,qs.map (·.1)=rs/\w.ownsRow base 48 3 v rs.length (zmr qs)/\(∀k,v.ownBlock=some k->k<N)/\∀q∈qs,q.1.r.length<=q.2.2/\q.2.2<=9223372036854775807/\zdj w base N q.2.1 q.1.r
theorem aX.nil (w:World) (base:Nat):aX w base (.slice none 0 0) []:=World.ownsRow_nil w base _ _
theorem bH.nil (w:World) (base:Nat):bH w base (.slice none 0 0) []:=World.ownsRow_nil w base _ _
theorem bA.nil (w:World) (base N:Nat):bA w base N (.slice none 0 0) []:=⟨[],rfl,World.ownsRow_nil w base _ _,(by intro k h;cases h),(by intro q h;cases h)⟩
theorem aO {w:World} {base:Nat} {e:TypeId} {size n:Nat} {v:Value} {xs:List Value} (h:w.ownsRow base e size v n xs):∃A c,v=.slice A n c/\n<=c/\c<=maxLen:=by
 rcases h.2 with⟨rfl,h0⟩|⟨g,cap,cur,rfl,hb,hg,hn,hm,hs,ht⟩
 ·exact⟨none,0,by rw[h0],by omega,by unfold maxLen;omega⟩
 ·exact⟨_,cap,rfl,hn,hm⟩
theorem zaJ {w:World} {base:Nat} {e:TypeId} {size n:Nat} {v:Value} {xs:List Value} (h:w.ownsRow base e size v n xs):∃A m c,v=.slice A m c:=by
 obtain⟨A,c,rfl,_⟩:=aO h;exact⟨A,n,c,rfl⟩
theorem aP {w:World} {base:Nat} {e:TypeId} {size n:Nat} {v:Value} {xs:List Value} (h:w.ownsRow base e size v n xs) {g:Nat} {o:Obj} (hg:w.heap[g]?=some o) (ho:∀cur,o ≠ .cells cur e (0,0)):v.ownBlock=none\/v.ownBlock≠some g:=by
 rcases h.2 with⟨rfl,_⟩|⟨g',cap,cur,rfl,_,hg',_⟩
 ·exact .inl rfl
 ·refine .inr fun e1=>?_;injection e1 with e1;have e1:g'=g:=e1;subst e1;rw[hg]at hg';injection hg' with hg';exact ho _ hg'
theorem aI {w:World} {base:Nat} {e:TypeId} {size n:Nat} {v:Value} {xs:List Value} (h:w.ownsRow base e size v n xs) {k:Nat} (hk:v.ownBlock=some k):base<=k/\∃cur,w.heap[k]?=some (.cells cur e (0,0)):=by
 rcases h.2 with⟨rfl,_⟩|⟨g',cap,cur,rfl,hb,hg',_⟩
 ·cases hk
 ·injection hk with hk;have hk:g'=k:=hk;subst hk;exact⟨hb,cur,hg'⟩
theorem zdj.grown {w w':World} {base N:Nat} {A:Option Addr} {zs:List Int} {row:Option Nat} (h:zdj w base N A zs) (hg:w.grownBy w' row) (hr:∀g,row=some g->(∀cur,w.heap[g]? ≠ some (.cells cur 3 (0,0)))\/N<=g):zdj w' base N A zs:=fun hn=>by
 obtain⟨g,cur,e,hb,hN,hh,hc⟩:=h hn;refine⟨g,cur,e,hb,hN,(hg.block g (Array.getElem?_eq_some_iff.1 hh).1 (fun e=>?_)).trans hh,hc⟩;rcases hr g e.symm with q|q
 ·exact q _ hh
 ·omega
theorem zdj.more {w:World} {base N N':Nat} {A:Option Addr} {zs:List Int} (h:zdj w base N A zs) (hN:N<=N'):zdj w base N' A zs:=fun hn=>by
 obtain⟨g,cur,e,hb,h1,hh⟩:=h hn;exact⟨g,cur,e,hb,by omega,hh⟩
theorem bA.grown {w w':World} {base N:Nat} {v:Value} {rs:List Gm.Rl} {row:Option Nat} (h:bA w base N v rs) (hg:w.grownBy w' row) (hr:∀g,row=some g->((∀cur,w.heap[g]? ≠ some (.cells cur 3 (0,0)))/\(∀cur,w.heap[g]? ≠ some (.cells cur 48 (0,0))))\/N<=g):bA w' base N v rs:=by
 obtain⟨qs,h1,h2,h3,h4⟩:=h;refine⟨qs,h1,h2.kept hg ?_,h3,fun q hq=>⟨(h4 q hq).1,(h4 q hq).2.1,(h4 q hq).2.2.grown hg fun g e=>?_⟩⟩
 ·rcases hv:v.ownBlock with _|k
  ·exact .inl rfl
  ·refine .inr fun e=>?_;rcases hr k e.symm with q|q
   ·obtain⟨_,cur,hc⟩:=aI h2 hv;exact q.2 _ hc
   ·have:=h3 k hv;omega
 ·rcases hr g e with q|q
  ·exact .inl q.1
  ·exact .inr q
theorem bA.more {w:World} {base N N':Nat} {v:Value} {rs:List Gm.Rl} (h:bA w base N v rs) (hN:N<=N'):bA w base N' v rs:=by
 obtain⟨qs,h1,h2,h3,h4⟩:=h;exact⟨qs,h1,h2,fun k hk=>by have:=h3 k hk;omega,fun q hq=>⟨(h4 q hq).1,(h4 q hq).2.1,(h4 q hq).2.2.more hN⟩⟩
structure St where
 s:Gm.S1
 ns:List (List Int)
 rs:List Gm.Rl
 z:Int
def soS:Option Tok->ByteArray|none=>⟨#[]⟩|some x=>K.str x.t
def soX (L:List Int):Option Tok->Nat|none=>0|some x=>Fl.fl (Pl.pos (L.take x.o)).1
def soY (L:List Int):Option Tok->Nat|none=>0|some x=>Fl.fl (Pl.pos (L.take x.o)).2
theorem aR {w:World} {g:Nat} {cs:Array Value} {T T':TypeId} (h:w.heap[g]?=some (.cells cs T (0,0))) (hT:T≠T') (cur:Array Value):w.heap[g]? ≠ some (.cells cur T' (0,0)):=by
 rw[h];intro e;injection e with e;injection e with _ e;exact hT e
theorem zav (v:Value):v.ownBlock=none\/v.ownBlock≠(none:Option Nat):=by
 rcases v.ownBlock with _|k
 ·exact .inl rfl
 ·exact .inr (by simp)
section
variable {w w':World} {B N R:Nat} {cs:Array Value} {vT vN vR:Value} {ts:List Gm.Tm} {ns:List (List Int)} {rs:List Gm.Rl} {Ms Mt:Nat} {ml tl:List (List Int×Value)} {row:Option Nat}
theorem zat {e e':TypeId} {size size' n n' base base':Nat} {v u:Value} {xs ys:List Value} (h:w.ownsRow base e size v n xs) (k:w.ownsRow base' e' size' u n' ys) (he:e≠e'):v.ownBlock=none\/v.ownBlock≠u.ownBlock:=by
 rcases hu:u.ownBlock with _|g
 ·exact zav _
 ·obtain⟨_,cur,hc⟩:=aI k hu;exact aP h hc (fun cur' q=>by injection q with _ q;exact he q.symm)
theorem zai {e T:TypeId} {size n base g:Nat} {u:Value} {ys:List Value} (hb:w.heap[g]?=some (.cells cs T (0,0))) (k:w.ownsRow base e size u n ys) (he:T≠e) (hg:w.grownBy w' u.ownBlock):w'.heap[g]?=some (.cells cs T (0,0)):=by
 refine(hg.block g (Array.getElem?_eq_some_iff.1 hb).1 (fun q=>?_)).trans hb;obtain⟨_,cur,hc⟩:=aI k q.symm;exact aR hb he _ hc
end
theorem zjk:(Tryz.prog.info? 81).map (fun i=>(i.zero,i.size,i.bytes))=some (some (.agg #[.string ⟨#[]⟩,.int .i64 0,.int .i64 0]),3,32):=by kernel_rfl
theorem zjl:(Tryz.prog.info? 9).map (fun i=>(i.zero,i.size,i.bytes))=some (some (.string ⟨#[]⟩),1,16):=by kernel_rfl
theorem zlN:(Tryz.prog.info? 48).map (fun i=>(i.zero,i.size,i.bytes))=some (some (.agg #[.int .i64 0,.slice none 0 0,.int .i64 0]),3,40):=by kernel_rfl
theorem aL (w:World) (l:List Value) (T:TypeId) (j:Nat):(w.alloc (.cells l.toArray T)).cell? ⟨w.heap.size,j,none⟩=l[j]?:=by
 rw[cell_of_row _ _ j _ _ _ (heap_alloc_new w _)];simp
section
variable {w w':World} {B N R:Nat} {cs:Array Value} {vT vN vR:Value} {ts:List Gm.Tm} {ns:List (List Int)} {rs:List Gm.Rl} {Ms Mt:Nat} {ml tl:List (List Int×Value)}
end
end Go.Proofs.YtcmhaemaophplaaGreat
