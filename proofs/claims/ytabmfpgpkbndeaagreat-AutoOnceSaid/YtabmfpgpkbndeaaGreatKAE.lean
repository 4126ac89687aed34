/- Part of the proofs over this program: TrimReach, TrimRef, YaccW, LexToks, YaccRd, YaccP, YaccDecl, Ref8R, YaccSource, YaccOf, ScanL. -/
import Derived.Deep.DeepCutAuto
import Derived.Defers
import Derived.Recover
import Derived.Test.YtabmfpgpkbndeaaGreatKAD
namespace Go.Proofs.YtabmfpgpkbndeaaGreat
set_option maxRecDepth 100000
set_option maxHeartbeats 40000000
open Go.RowKit
def Gm.brR (p is:List Bool) (x:Gm.Rl):List Int:=if is.getD x.l.toNat false=true∧Gm.allB true p x.r=true then Gm.nts x.r else []
theorem ze6 (x:Gm.Rl) (is p:List Bool) (A A1 A2:Option Addr) (c c1 c2 B B1 B2 gk gp:Nat) (w:World)
  (hgk:w.cell? ⟨gk,0,none⟩=some (.slice A1 is.length c1)) (hgp:w.cell? ⟨gp,0,none⟩=some (.slice A2 p.length c2)) (hr:RdI w B A x.r) (h1:RdO w B1 A1 is) (h2:RdO w B2 A2 p)
  (hB:B≤w.heap.size) (hB2:B2≤w.heap.size) (hin:∀z∈x.r,Gm.In z) (hs:∀z∈x.r,z<0→-1-z<(p.length:Int)) (hx:0≤x.l∧x.l<is.length) (hl:x.r.length≤1000000) :
  Calls Tryz.prog 163 #[.agg #[.int .i64 x.l,.slice A x.r.length c,.int .i64 x.p],.pointer (some ⟨gk,0,none⟩),.pointer (some ⟨gp,0,none⟩)] w fun e w'=>∃v,e=.returned v∧aS w' w.heap.size v (Gm.brR p is x)∧Below w.heap.size w w':=by
 have HA:=aA (fun o=>(Below.refl w.heap.size w).alloc (Nat.le_refl _) o)
 have HNO:=aA (fun(y:World) (h:Below w.heap.size w y)=>zes x A c B y (hr.below h hB) hin (Nat.le_trans hB h.size) hl)
 have HPR:=aA (fun(y:World) (h:Below w.heap.size w y)=>zaZ x p A A2 c c2 w.heap.size y ((hr.below h hB).more hB) hin hs ((h2.below h hB2).more hB2) h.size hl)
 have HE:Hid (Gm.brR p is x=if is.getD x.l.toNat false=true∧Gm.allB true p x.r=true then Gm.nts x.r else []):=aA rfl
 obtain⟨l,r,q⟩:=x
 obtain⟨m,rfl⟩:∃m:Nat,l=(m:Int):=⟨l.toNat,by have:=hx.1;simp only at this;omega⟩
 simp only[Int.toNat_natCast]at HE hx HNO HPR ⊢
 obtain⟨g,o,rfl,hgb,hc⟩:=h1 (by omega)
 have hm:m<is.length:=by omega
 have hm2:(m:Int)<(is.length:Int):=by omega
 have k0:=hc m hm
 have hl1:=block_lt_of_cell hgk
 have hl2:=block_lt_of_cell hgp
 have hl3:=block_lt_of_cell k0
 have HK2:=aA hgp
 generalize is.getD m false=b at *
 clear hr h1 h2 hB hB2 hin hs hx hl hc
 cases b
 ·have HX:=aA (HE.out.trans (if_neg (by simp)))
  clear HE
  go_enter Tryz.func163,Tryz.ntmps163
  go_wp2
  go_ret
  exact⟨_,rfl,by rw[HX.out];exact aS.nil _ _,HA.out _⟩
 ·cases ha:Gm.allB true p r
  ·have HX:=aA (HE.out.trans (if_neg (by rw[ha];simp)))
   rw[ha]at HPR
   clear HE ha
   go_enter Tryz.func163,Tryz.ntmps163
   go_wp2_with fail
   refine(HPR.out _ (HA.out _)).mono ?_;rintro _ w2 ⟨rfl,hb2⟩
   have HB2:=aA ((HA.out (.cells #[.int .i64 m,.slice A r.length c,.int .i64 q] 60)).trans (hb2.mono (by simp)))
   clear hb2
   go_wp2
   go_ret
   exact⟨_,rfl,by rw[HX.out];exact aS.nil _ _,HB2.out⟩
  ·have HX:=aA (HE.out.trans (if_pos ⟨rfl,ha⟩))
   rw[ha]at HPR
   clear HE ha
   go_enter Tryz.func163,Tryz.ntmps163
   go_wp2_with fail
   refine(HPR.out _ (HA.out _)).mono ?_;rintro _ w2 ⟨rfl,hb2⟩
   have HB2:=aA ((HA.out (.cells #[.int .i64 m,.slice A r.length c,.int .i64 q] 60)).trans (hb2.mono (by simp)))
   have hb:=(hb2.block w.heap.size (by simp)).trans (heap_alloc_new w _)
   have d0:=cell_of_row w2 _ 0 _ _ _ hb
   have d1:=cell_of_row w2 _ 1 _ _ _ hb
   have d2:=cell_of_row w2 _ 2 _ _ _ hb
   have ld:=(Array.getElem?_eq_some_iff.1 hb).1
   clear hb2 hb
   go_wp2_with fail
   refine(HNO.out _ HB2.out).mono ?_;rintro _ w3 ⟨v,rfl,ho3,hb3⟩
   have HO3:=aA (ho3.mono HB2.out.size)
   have HB3:=aA (HB2.out.trans (hb3.mono HB2.out.size))
   clear ho3 hb3
   go_wp2
   go_ret
   exact⟨_,rfl,by rw[HX.out];exact HO3.out,HB3.out⟩
theorem zid (w:World) (t:TypeId) (ht:Tryz.prog.underlying t=some (.slice 4)) (n:Nat) (hn:n≤35184372088832) :
  ∃w',(Instr.makeSlice t (.int .i64 n) (.int .i64 n)).run Tryz.prog w=.ok (.slice (some ⟨w.heap.size,0,none⟩) n n) w'∧UBO w' w.heap.size (List.replicate n false)∧Below w.heap.size w w':=by
 obtain⟨i,hi,hz0,hz1,hz2⟩:=info_parts zji
 obtain⟨w',hrun,hown,hgr⟩:=run_make_full (P:=Tryz.prog) w w.heap.size t 4 i (.bool false) 1 ht hi hz0 hz1 .i64 .i64 n (by rw[hz2];omega) (by unfold maxLen;omega) (Nat.le_refl _)
 refine⟨w',hrun,?_,⟨hgr.os,hgr.tape,hgr.output,hgr.size,fun k hk=>hgr.block k hk (by simp)⟩⟩
 refine zbV (base:=w.heap.size) (n:=n) ?_
 rw[zbc]
 have e:(madeCells (Value.bool false).cells (n*1)).toList=List.replicate n (Value.bool false):=by
  rw[Nat.mul_one];exact toList_madeCells_one _ _
 rw[e]at hown;exact hown
theorem zja {w:World} {o:Oper} {a:Act} {K:Act→World→Prop} {Q:Exit→Act→World→Prop} (l c:Operand) (t:TypeId) (hop:o.op=Op.makeSlice t l c) (ht:Tryz.prog.underlying t=some (.slice 4)) (n:Nat) (hl:a.eval l=.int .i64 n) (hc:a.eval c=.int .i64 n) (hn:n≤35184372088832)
  (hK:∀w',UBO w' w.heap.size (List.replicate n false)→Below w.heap.size w w'→K (a.put o.dst (.slice (some ⟨w.heap.size,0,none⟩) n n)) w'):Oper.wp Tryz.prog o a w K Q:=by
 obtain⟨w',hrun,h1,h2⟩:=zid w t ht n hn
 unfold Oper.wp
 simp[execOp,hop,hl,hc,hrun,Result.andThen]
 exact hK w' h1 h2
structure JR (w2:World) (n:Nat) (row:List Bool) (todo:List Nat) (wx:World) (x3 x5 x6 x7:Value) (g3 g5 c6 c7:Nat):Prop where
 t:∀k∈todo,k=3∨k=5∨k=6∨k=7
 b:Below w2.heap.size w2 wx
 h3:3 ∉ todo→x3=.slice (some ⟨g3,0,none⟩) n n∧w2.heap.size≤g3∧UBO wx g3 (List.replicate n false)
 h5:5 ∉ todo→x5=.slice (some ⟨g5,0,none⟩) n n∧w2.heap.size≤g5∧UBO wx g5 row
 h6:6 ∉ todo→x6=.pointer (some ⟨c6,0,none⟩)∧w2.heap.size≤c6∧wx.heap[c6]?=some (.cells #[.slice none 0 0] 47 (0,0))
 h7:7 ∉ todo→x7=.pointer (some ⟨c7,0,none⟩)∧w2.heap.size≤c7∧wx.heap[c7]?=some (.cells #[.slice none 0 0] 47 (0,0))
 d35:3 ∉ todo→5 ∉ todo→g3≠g5
 d67:6 ∉ todo→7 ∉ todo→c6≠c7
section
variable {w2 wx w':World} {n:Nat} {row:List Bool} {todo:List Nat} {x3 x5 x6 x7:Value} {g3 g5 c6 c7:Nat}
theorem aN {l:List Nat} {j k:Nat} (h:j ∉ l.erase k) (hne:j≠k):j ∉ l:=fun hm=>h ((List.mem_erase_of_ne hne).2 hm)
theorem aE {g:Nat} {o:Obj} (hb:Below wx.heap.size wx w') (h:wx.heap[g]?=some o):w'.heap[g]?=some o:=(hb.block g (Array.getElem?_eq_some_iff.1 h).1).trans h
theorem JR.put3 (h:JR w2 n row todo wx x3 x5 x6 x7 g3 g5 c6 c7) (hb:Below wx.heap.size wx w') (hu:UBO w' wx.heap.size (List.replicate n false)):JR w2 n row (todo.erase 3) w' (.slice (some ⟨wx.heap.size,0,none⟩) n n) x5 x6 x7 wx.heap.size g5 c6 c7 where
 t k hk:=h.t k (List.mem_of_mem_erase hk)
 b:=h.b.trans (hb.mono h.b.size)
 h3 _:=⟨rfl,h.b.size,hu⟩
 h5 q:=by obtain⟨a1,a2,a3⟩:=h.h5 (aN q (by decide));exact⟨a1,a2,aE hb a3⟩
 h6 q:=by obtain⟨a1,a2,a3⟩:=h.h6 (aN q (by decide));exact⟨a1,a2,aE hb a3⟩
 h7 q:=by obtain⟨a1,a2,a3⟩:=h.h7 (aN q (by decide));exact⟨a1,a2,aE hb a3⟩
 d35 _ q:=by have:=UBO.lt (h.h5 (aN q (by decide))).2.2;omega
 d67 q1 q2:=h.d67 (aN q1 (by decide)) (aN q2 (by decide))
theorem JR.put5 (h:JR w2 n row todo wx x3 x5 x6 x7 g3 g5 c6 c7) (hb:Below wx.heap.size wx w') {g:Nat} (hg:wx.heap.size≤g) (hu:UBO w' g row):JR w2 n row (todo.erase 5) w' x3 (.slice (some ⟨g,0,none⟩) n n) x6 x7 g3 g c6 c7 where
 t k hk:=h.t k (List.mem_of_mem_erase hk)
 b:=h.b.trans (hb.mono h.b.size)
 h5 _:=⟨rfl,Nat.le_trans h.b.size hg,hu⟩
 h3 q:=by obtain⟨a1,a2,a3⟩:=h.h3 (aN q (by decide));exact⟨a1,a2,aE hb a3⟩
 h6 q:=by obtain⟨a1,a2,a3⟩:=h.h6 (aN q (by decide));exact⟨a1,a2,aE hb a3⟩
 h7 q:=by obtain⟨a1,a2,a3⟩:=h.h7 (aN q (by decide));exact⟨a1,a2,aE hb a3⟩
 d35 q _:=by have:=UBO.lt (h.h3 (aN q (by decide))).2.2;omega
 d67 q1 q2:=h.d67 (aN q1 (by decide)) (aN q2 (by decide))
theorem JR.put6 (h:JR w2 n row todo wx x3 x5 x6 x7 g3 g5 c6 c7):JR w2 n row (todo.erase 6) (wx.alloc (.cells #[.slice none 0 0] 47)) x3 x5 (.pointer (some ⟨wx.heap.size,0,none⟩)) x7 g3 g5 wx.heap.size c7 where
 t k hk:=h.t k (List.mem_of_mem_erase hk)
 b:=h.b.alloc h.b.size _
 h6 _:=⟨rfl,h.b.size,heap_alloc_new wx _⟩
 h3 q:=by obtain⟨a1,a2,a3⟩:=h.h3 (aN q (by decide));exact⟨a1,a2,a3.alloc _⟩
 h5 q:=by obtain⟨a1,a2,a3⟩:=h.h5 (aN q (by decide));exact⟨a1,a2,a3.alloc _⟩
 h7 q:=by obtain⟨a1,a2,a3⟩:=h.h7 (aN q (by decide));exact⟨a1,a2,aE ((Below.refl _ _).alloc (Nat.le_refl _) _) a3⟩
 d35 q1 q2:=h.d35 (aN q1 (by decide)) (aN q2 (by decide))
 d67 _ q:=by have:=(Array.getElem?_eq_some_iff.1 (h.h7 (aN q (by decide))).2.2).1;omega
theorem JR.put7 (h:JR w2 n row todo wx x3 x5 x6 x7 g3 g5 c6 c7):JR w2 n row (todo.erase 7) (wx.alloc (.cells #[.slice none 0 0] 47)) x3 x5 x6 (.pointer (some ⟨wx.heap.size,0,none⟩)) g3 g5 c6 wx.heap.size where
 t k hk:=h.t k (List.mem_of_mem_erase hk)
 b:=h.b.alloc h.b.size _
 h7 _:=⟨rfl,h.b.size,heap_alloc_new wx _⟩
 h3 q:=by obtain⟨a1,a2,a3⟩:=h.h3 (aN q (by decide));exact⟨a1,a2,a3.alloc _⟩
 h5 q:=by obtain⟨a1,a2,a3⟩:=h.h5 (aN q (by decide));exact⟨a1,a2,a3.alloc _⟩
 h6 q:=by obtain⟨a1,a2,a3⟩:=h.h6 (aN q (by decide));exact⟨a1,a2,aE ((Below.refl _ _).alloc (Nat.le_refl _) _) a3⟩
 d35 q1 q2:=h.d35 (aN q1 (by decide)) (aN q2 (by decide))
 d67 q _:=by have:=(Array.getElem?_eq_some_iff.1 (h.h6 (aN q (by decide))).2.2).1;omega
end
theorem Gm.brR_in {G:Gm.Gr} (hok:Gm.Ok G) {s:List Bool} {x:Gm.Rl} (hx:x∈G.rs) (hd:∀i:Nat,s.getD i false=true→Gm.Rc G (i:Int)) {m:Int} (hm:m∈Gm.brR (Gm.gn true G.rs G.ns.length) s x):0≤m∧m<G.ns.length∧Gm.Rc G m:=by
 unfold Gm.brR at hm
 split at hm
 ·rename_i h
  obtain⟨h1,h2⟩:=Gm.nts_mem.1 hm
  have h3:=hok.sin x hx _ h1 (by omega)
  have h4:=hd _ h.1
  rw[Int.toNat_of_nonneg (hok.lin x hx).1]at h4
  have h5:=Gm.Rc.on x hx h4 ((Gm.allB_gn hok.lin _).1 h.2) _ h1 (by omega)
  rw[show -1-(-1-m)=m by omega]at h5 h3
  exact⟨h2,h3,h5⟩
 ·simp at hm
theorem Gm.brR_len (p s:List Bool) (x:Gm.Rl) (h:x.r.length≤6):(Gm.brR p s x).length≤1000000:=by
 unfold Gm.brR
 split
 ·have:=Gm.nts_len x.r;omega
 ·simp
theorem Gm.rc_of {G:Gm.Gr} (hok:Gm.Ok G) {s:List Bool} (hl:s.length=G.ns.length) (hd:∀i:Nat,s.getD i false=true→Gm.Rc G (i:Int)) (hle:Gm.Le ((List.replicate G.ns.length false).set G.st.toNat true) s)
  (hc:∀x∈G.rs,∀m∈Gm.brR (Gm.gn true G.rs G.ns.length) s x,s.getD m.toNat false=true):s=Gm.rc G:=by
 refine Gm.rc_row hl hd ⟨hle.get _ (Gm.set_getD _ _ (by have:=hok.s0;have:=hok.s1;simp;omega)),fun x hx h1 h2 z hz hn=>?_⟩
 refine hc x hx (-1-z) ?_
 unfold Gm.brR
 rw[if_pos ⟨h1,(Gm.allB_gn hok.lin _).2 h2⟩]
 exact Gm.nts_mem.2 ⟨by rw[show -1-(-1-z)=z by omega];exact hz,by omega⟩
theorem Gm.st_snd {G:Gm.Gr} (hok:Gm.Ok G) (i:Nat) (h:((List.replicate G.ns.length false).set G.st.toNat true).getD i false=true):Gm.Rc G (i:Int):=by
 rcases Gm.getD_set _ _ _ h with h1|h1
 ·rw[List.getD_eq_getElem?_getD,List.getElem?_replicate]at h1
  split at h1 <;> cases h1
 ·rw[h1,Int.toNat_of_nonneg hok.s0];exact .st
theorem zcY (v:Value) (G:Gm.Gr) (B:Nat) (w:World) (hg:aT w B v G) (hf:Gm.Fit G) (hB:B≤w.heap.size) :
  Calls Tryz.prog 132 #[v] w (ziI (Gm.right G) (Gm.rc G) w):=by
 have H1:=aA (fun(x:World) (h:Below w.heap.size w x)=>zaz v G B x (hg.below h hB) hf (Nat.le_trans hB h.size))
 have H2:=aA (fun(x:World) (h:Below w.heap.size w x)=>zaL v G B x (hg.below h hB) hf (Nat.le_trans hB h.size))
 have HGG:=aA (fun(x:World) (h:Below w.heap.size w x)=>hg.below h hB)
 obtain⟨AT,cT,AN,cN,AR,cR,rfl,_,⟨hlN,hmN⟩,_,_,_,hR⟩:=hg
 have HS0:=aA (One.start w #[.slice AT G.ts.length cT,.slice AN G.ns.length cN,.slice AR G.rs.length cR,.int .i64 G.st])
 have HRl:=aA hR
 have HB:=aA hB
 have HFT:=aA hf
 clear hf hR hB
 cases q:Gm.right G
 ·rw[q]at H1
  clear q H2
  go_enter Tryz.func132,Tryz.ntmps132
  go_wp2_with fail
  refine(H1.out _ HS0.out.below).mono ?_;rintro _ w2 ⟨rfl,hb⟩
  have HB2:=aA (HS0.out.on hb)
  clear hb
  go_wp2
  go_ret
  exact⟨fun h=>by simp at h,fun _=>⟨rfl,HB2.out.below⟩⟩
 ·have HOK:=aA (Gm.right_ok.1 q)
  have HN:Hid (G.ns.length≤40):=aA (by have:=(Gm.nons_iff G).1 HOK.out.n;omega)
  have HR40:Hid (G.rs.length≤40):=aA HOK.out.r40
  have H2:=aA (fun x h=>(show Calls _ _ _ _ (zhE _ _) from(H2.out x h).mono fun e w' k=>k.1 q))
  rw[q]at H1
  clear q
  have hnn:=HN.out
  have hlen:(G.ns.length:Int)≤9223372036854775807:=by omega
  go_enter Tryz.func132,Tryz.ntmps132
  go_upto_region 3 with fail
  refine(H1.out _ HS0.out.below).mono ?_;rintro _ w2 ⟨rfl,hb⟩
  have HB2:=aA (HS0.out.on hb)
  clear hb
  go_upto_region 3 with fail
  have HW2:Hid (Below w.heap.size w w2):=aA HB2.out.below
  have HBX:=aA ((Below.block HB2.out w.heap.size (by omega)).trans (heap_alloc_new w _))
  have hd1:w.heap.size<w2.heap.size:=HB2.out.size
  obtain⟨T,hT⟩:∃x,x=Gm.gn true G.rs G.ns.length:=⟨_,rfl⟩
  have HTl:Hid (T.length=G.ns.length):=aA (by rw[hT,Gm.gn_len])
  rw[←hT]at H2
  have HT:=aA hT
  clear hT
  have H3:=aA (fun(x:World) (h:Below w2.heap.size w2 x)=>H2.out x (HW2.out.trans (h.mono (Nat.le_of_lt hd1))))
  have q0:=fun y:Calm.On w2.heap.size w2=>(y.2.cell (p:=⟨w.heap.size,0,none⟩) hd1).trans (HB2.out.c 0 _ rfl)
  have q1:=fun y:Calm.On w2.heap.size w2=>(y.2.cell (p:=⟨w.heap.size,1,none⟩) hd1).trans (HB2.out.c 1 _ rfl)
  have q2:=fun y:Calm.On w2.heap.size w2=>(y.2.cell (p:=⟨w.heap.size,2,none⟩) hd1).trans (HB2.out.c 2 _ rfl)
  have q3:=fun y:Calm.On w2.heap.size w2=>(y.2.cell (p:=⟨w.heap.size,3,none⟩) hd1).trans (HB2.out.c 3 _ rfl)
  clear H1 HS0 H2
  refine CalmN.region_all (fun x=>∃y:Calm.On w2.heap.size w2,x=y.1) [0,1,2,4] [3,5,6,7] (.one [] 8 (.one [] 9 (.fin [])))
   (fun todo a wx=>∃x3 x5 x6 x7 g3 g5 c6 c7,a = {tmps:=#[.agg #[.slice AT G.ts.length cT,.slice AN G.ns.length cN,.slice AR G.rs.length cR,.int .i64 G.st],.pointer (some ⟨w.heap.size,0,none⟩),.slice none 0 0,x6,x7,.agg #[.slice AT G.ts.length cT,.slice AN G.ns.length cN,.slice AR G.rs.length cR,.int .i64 G.st],.bool true,.bool false,.pointer (some ⟨w.heap.size,1,none⟩),.slice AN G.ns.length cN,.int .i64 G.ns.length,x3,.agg #[.slice AT G.ts.length cT,.slice AN G.ns.length cN,.slice AR G.rs.length cR,.int .i64 G.st],x5,undef,undef,undef,undef,undef,undef,undef,undef,undef,undef],defers:=[]}∧JR w2 G.ns.length T todo wx x3 x5 x6 x7 g3 g5 c6 c7)
   (by kernel_rfl) (by kernel_rfl) (fun _ _ d _ _ h=>by cases d <;> exact h) ⟨⟨w2.drew,aB (Below.refl _ _) 1⟩,rfl⟩ ?_ ?_ ?_
  ·simp only[CalmN.pickOps,List.getElem?_toArray,List.getElem?_cons_zero,List.getElem?_cons_succ]
   repeat (go_big_quiet_step (fail))
   refine wpQuiet_nil ?_
   exact⟨undef,undef,undef,undef,0,0,0,0,rfl,⟨by simp,aB (Below.refl _ _) 1,fun h=>absurd (by simp) h,fun h=>absurd (by simp) h,fun h=>absurd (by simp) h,fun h=>absurd (by simp) h,fun h=>absurd (by simp) h,fun h=>absurd (by simp) h⟩⟩
  ·intro todo k a wx hk hJ hS
   obtain⟨x3,x5,x6,x7,g3,g5,c6,c7,rfl,hJ⟩:=hJ
   have HJ:=aA hJ
   have hcase:=hJ.t k hk
   clear hJ hS hk q0 q1 q2 q3
   rcases hcase with rfl|rfl|rfl|rfl
   ·simp only[CalmN.wpSt,List.getElem?_toArray,List.getElem?_cons_zero,List.getElem?_cons_succ]
    intro KK hKK
    rw[if_pos (by rfl)]
    refine zja (.tmp 10) (.tmp 10) _ rfl Tryz.underlying47 G.ns.length rfl rfl (by omega) ?_
    intro w' hu hb
    have hj:=HJ.out.put3 hb hu
    exact hKK _ _ ⟨⟨w',hj.b⟩,rfl⟩ (fun x=>∃y:Calm.On w2.heap.size w2,x=y.1) (fun _ h=>h) ⟨⟨w',hj.b⟩,rfl⟩ ⟨_,x5,x6,x7,_,g5,c6,c7,rfl,hj⟩
   ·simp only[CalmN.wpSt,List.getElem?_toArray,List.getElem?_cons_zero,List.getElem?_cons_succ]
    intro KK hKK
    rw[if_pos (by rfl)]
    go_wp2_with fail
    refine(H3.out wx HJ.out.b).mono ?_;rintro _ w' ⟨g,rfl,hg,hu,hb⟩
    have hj:=HJ.out.put5 hb hg hu
    go_wp2_with fail
    rw[HTl.out]
    exact hKK _ _ ⟨⟨w',hj.b⟩,rfl⟩ (fun x=>∃y:Calm.On w2.heap.size w2,x=y.1) (fun _ h=>h) ⟨⟨w',hj.b⟩,rfl⟩ ⟨x3,_,x6,x7,g3,_,c6,c7,rfl,hj⟩
   ·simp only[CalmN.wpSt,List.getElem?_toArray,List.getElem?_cons_zero,List.getElem?_cons_succ]
    intro KK hKK
    rw[if_pos (by rfl)]
    have hj:=HJ.out.put6
    go_wp2_with fail
    exact hKK _ _ ⟨⟨_,hj.b⟩,rfl⟩ (fun x=>∃y:Calm.On w2.heap.size w2,x=y.1) (fun _ h=>h) ⟨⟨_,hj.b⟩,rfl⟩ ⟨x3,x5,_,x7,g3,g5,_,c7,rfl,hj⟩
   ·simp only[CalmN.wpSt,List.getElem?_toArray,List.getElem?_cons_zero,List.getElem?_cons_succ]
    intro KK hKK
    rw[if_pos (by rfl)]
    have hj:=HJ.out.put7
    go_wp2_with fail
    exact hKK _ _ ⟨⟨_,hj.b⟩,rfl⟩ (fun x=>∃y:Calm.On w2.heap.size w2,x=y.1) (fun _ h=>h) ⟨⟨_,hj.b⟩,rfl⟩ ⟨x3,x5,x6,_,g3,g5,c6,_,rfl,hj⟩
  ·intro a wx hJ hS
   obtain⟨x3,x5,x6,x7,g3,g5,c6,c7,rfl,hJ⟩:=hJ
   obtain⟨rfl,hg3,hu3⟩:=hJ.h3 (by simp)
   obtain⟨rfl,hg5,hu5⟩:=hJ.h5 (by simp)
   obtain⟨rfl,hc6,hu6⟩:=hJ.h6 (by simp)
   obtain⟨rfl,hc7,hu7⟩:=hJ.h7 (by simp)
   have hd35:=hJ.d35 (by simp) (by simp)
   have hd67:=hJ.d67 (by simp) (by simp)
   have hbx:=hJ.b
   clear hS q0 q1 q2 q3
   have hne36:g3≠c6:=fun e=>by subst e;unfold UBO at hu3;rw[hu6]at hu3;injection hu3 with hu3;injection hu3 with _ hu3;cases hu3
   have hne56:g5≠c6:=fun e=>by subst e;unfold UBO at hu5;rw[hu6]at hu5;injection hu5 with hu5;injection hu5 with _ hu5;cases hu5
   have hne37:g3≠c7:=fun e=>by subst e;unfold UBO at hu3;rw[hu7]at hu3;injection hu3 with hu3;injection hu3 with _ hu3;cases hu3
   have hne57:g5≠c7:=fun e=>by subst e;unfold UBO at hu5;rw[hu7]at hu5;injection hu5 with hu5;injection hu5 with _ hu5;cases hu5
   have l6:=(Array.getElem?_eq_some_iff.1 hu6).1
   have f6:=frozen_of_row wx _ 0 _ _ hu6
   have k6:=cell_of_row wx _ 0 _ _ _ hu6
   obtain⟨wy,hwy⟩:∃y,y=wx.setCell ⟨c6,0,none⟩ (.slice (some ⟨g3,0,none⟩) G.ns.length G.ns.length):=⟨_,rfl⟩
   have hby:Below w2.heap.size w2 wy:=by rw[hwy];exact hbx.setCell (p:=⟨c6,0,none⟩) hc6 _
   have hy3:UBO wy g3 (List.replicate G.ns.length false):=by rw[hwy];exact UBO.far hu3 hne36 _
   have hy5:UBO wy g5 T:=by rw[hwy];exact UBO.far hu5 hne56 _
   have hy7:wy.heap[c7]?=some (.cells #[.slice none 0 0] 47 (0,0)):=by rw[hwy];exact(Below.heap_setCell wx ⟨c6,0,none⟩ _ c7 (by simp only;omega)).trans hu7
   have hy6:wy.heap[c6]?=some (.cells #[.slice (some ⟨g3,0,none⟩) G.ns.length G.ns.length] 47 (0,0)):=by rw[hwy];exact heap_setCell_same wx c6 0 _ _ _ hu6
   clear hu3 hu5 hu6 hu7 hJ hbx
   simp only[CalmN.wpT,CalmN.wpSt,CalmN.pickOps,List.getElem?_toArray,List.getElem?_cons_zero,List.getElem?_cons_succ]
   refine wpQuiet_nil ?_
   intro KK hKK
   rw[if_pos (by rfl)]
   go_wp2_with fail
   rw[←hwy]
   refine hKK _ _ ⟨⟨wy,hby⟩,rfl⟩ (fun x=>∃y:Calm.On w2.heap.size w2,x=y.1) (fun _ h=>h) ⟨⟨wy,hby⟩,rfl⟩ ?_
   clear hKK k6 f6 l6 hwy
   have l7:=(Array.getElem?_eq_some_iff.1 hy7).1
   have f7:=frozen_of_row wy _ 0 _ _ hy7
   have k7:=cell_of_row wy _ 0 _ _ _ hy7
   obtain⟨wz,hwz⟩:∃y,y=wy.setCell ⟨c7,0,none⟩ (.slice (some ⟨g5,0,none⟩) G.ns.length G.ns.length):=⟨_,rfl⟩
   have hbz:Below w2.heap.size w2 wz:=by rw[hwz];exact hby.setCell (p:=⟨c7,0,none⟩) hc7 _
   have hz3:UBO wz g3 (List.replicate G.ns.length false):=by rw[hwz];exact UBO.far hy3 hne37 _
   have hz5:UBO wz g5 T:=by rw[hwz];exact UBO.far hy5 hne57 _
   have hz6:wz.heap[c6]?=some (.cells #[.slice (some ⟨g3,0,none⟩) G.ns.length G.ns.length] 47 (0,0)):=by rw[hwz];exact(Below.heap_setCell wy ⟨c7,0,none⟩ _ c6 (by simp only;omega)).trans hy6
   have hz7:wz.heap[c7]?=some (.cells #[.slice (some ⟨g5,0,none⟩) G.ns.length G.ns.length] 47 (0,0)):=by rw[hwz];exact heap_setCell_same wy c7 0 _ _ _ hy7
   clear hy3 hy5 hy6 hy7 hby
   refine wpQuiet_nil ?_
   intro KK hKK
   rw[if_pos (by rfl)]
   go_wp2_with fail
   rw[←hwz]
   refine hKK _ _ ⟨⟨wz,hbz⟩,rfl⟩ (fun x=>∃y:Calm.On w2.heap.size w2,x=y.1) (fun _ h=>h) ⟨⟨wz,hbz⟩,rfl⟩ ?_
   clear hKK k7 f7 l7 hwz
   refine wpQuiet_nil ?_
   have r2:=(hbz.cell (p:=⟨w.heap.size,2,none⟩) hd1).trans (HB2.out.c 2 _ rfl)
   have r3:=(hbz.cell (p:=⟨w.heap.size,3,none⟩) hd1).trans (HB2.out.c 3 _ rfl)
   have hst:=HOK.out.s0
   have hst1:=HOK.out.s1
   obtain⟨m,hm⟩:∃m:Nat,G.st=(m:Int):=⟨G.st.toNat,by omega⟩
   have HM:=aA hm
   rw[hm]at r3 hst1
   have k3:=hz3.cell m (by simp;omega)
   have f3:=hz3.frozen m
   have l3:=hz3.lt
   have k6:=cell_of_row wz _ 0 _ _ _ hz6
   have l6:=(Array.getElem?_eq_some_iff.1 hz6).1
   have ld:w.heap.size<wz.heap.size:=Nat.lt_of_lt_of_le hd1 hbz.size
   obtain⟨wv,hwv⟩:∃y,y=wz.setCell ⟨g3,m,none⟩ (.bool true):=⟨_,rfl⟩
   have hbv:Below w2.heap.size w2 wv:=by rw[hwv];exact hbz.setCell (p:=⟨g3,m,none⟩) hg3 _
   have hv3:UBO wv g3 ((List.replicate G.ns.length false).set m true):=by rw[hwv];exact hz3.set_ m true
   have hv5:UBO wv g5 T:=by rw[hwv];exact UBO.far hz5 (by simp only;omega) _
   have hv6:wv.heap[c6]?=some (.cells #[.slice (some ⟨g3,0,none⟩) G.ns.length G.ns.length] 47 (0,0)):=by rw[hwv];exact(Below.heap_setCell wz ⟨g3,m,none⟩ _ c6 (by simp only;omega)).trans hz6
   have hv7:wv.heap[c7]?=some (.cells #[.slice (some ⟨g5,0,none⟩) G.ns.length G.ns.length] 47 (0,0)):=by rw[hwv];exact(Below.heap_setCell wz ⟨g3,m,none⟩ _ c7 (by simp only;omega)).trans hz7
   have HD:=aA (And.intro hne36 (And.intro hne56 (And.intro hne37 (And.intro hne57 (And.intro hd35 (And.intro hg3 (And.intro hg5 hbz)))))))
   clear hz3 hz5 hz6 hz7 hm hne36 hne56 hne37 hne57 hd35 hd67 hc6 hc7 hg5 hbz
   go_upto_region 5 with fail
   rw[←hwv]
   have u2:=(hbv.cell (p:=⟨w.heap.size,2,none⟩) hd1).trans (HB2.out.c 2 _ rfl)
   have u6:wv.cell? ⟨c6,0,none⟩=some (.slice (some ⟨g3,0,none⟩) G.ns.length G.ns.length):=by rw[cell_of_row wv _ 0 _ _ _ hv6];rfl
   have u7:wv.cell? ⟨c7,0,none⟩=some (.slice (some ⟨g5,0,none⟩) G.ns.length G.ns.length):=by rw[cell_of_row wv _ 0 _ _ _ hv7];rfl
   have hWv:Below w.heap.size w wv:=HW2.out.trans (hbv.mono (Nat.le_of_lt hd1))
   have hdw:w.heap.size≤w2.heap.size:=Nat.le_of_lt hd1
   have hRv:zeQ wv B AR G.rs:=HRl.out.keep fun g o hg=>hWv.cell (p:=⟨g,o,none⟩) (Nat.lt_of_lt_of_le hg HB.out)
   have hm2:G.st.toNat=m:=by rw[HM.out];simp
   have hBg:B≤g3:=Nat.le_trans (Nat.le_trans HB.out hdw) hg3
   have hnT:G.ns.length=T.length:=HTl.out.symm
   have HGR:=aA (zez 163 c6 c7 (zc8 Tryz.func163 (by kernel_rfl) (by kernel_rfl)) G.rs AR cR G.ns.length B g3 G.ns.length wv ((List.replicate G.ns.length false).set G.st.toNat true) (Gm.Rc G) (Gm.brR T)
    hRv (Nat.le_trans HB.out hWv.size) hBg (by rw[hm2];exact hv3) (by simp) (Gm.st_snd HOK.out) (by have:=HR40.out;omega)
    (fun y s x A' c' hgr hu hl hx hr=>by
     have e:=HFT.out.r x hx
     have q2:=zan hgr u6 (fun e=>HD.out.1 e.symm)
     rw[←hl]at q2
     have q3:=zan hgr u7 (fun e=>HD.out.2.2.1 e.symm)
     have q5:UBO y g5 T:=hv5.grown hgr (fun e=>by injection e with e;exact HD.out.2.2.2.2.1 e.symm)
     rw[hnT]at q3
     exact ze6 x s T A' (some ⟨g3,0,none⟩) (some ⟨g5,0,none⟩) c' s.length T.length B y.heap.size y.heap.size c6 c7 y q2 q3 hr (hu.rd0 hu.lt) (q5.rd0 q5.lt) (Nat.le_trans HB.out (Nat.le_trans hWv.size hgr.size)) (Nat.le_refl _) e.2.2 (fun z hz h=>by rw[←hnT];exact HOK.out.sin x hx z hz h) (by rw[hl];exact HOK.out.lin x hx) (by have:=(Gm.rule_in (HOK.out.rr x hx)).1;omega))
    (fun s x hx hl hd m hm=>by rw[HT.out]at hm;exact Gm.brR_in HOK.out hx hd hm)
    (fun s x hx=>Gm.brR_len T s x (Gm.rule_in (HOK.out.rr x hx)).1))
   have HX6:=aA (fun(y:World) (h:wv.grownBy y (some g3))=>zan h u6 (fun e=>HD.out.1 e.symm))
   have HFIN:Hid (∀(y:World) (s:List Bool),Grw wv y g3 G.ns.length (Gm.Rc G) ((List.replicate G.ns.length false).set G.st.toNat true) s→(∀x∈G.rs,∀m∈Gm.brR T s x,s.getD m.toNat false=true)→s=Gm.rc G∧Below w.heap.size w y):=aA (fun y s hg hc=>⟨Gm.rc_of HOK.out hg.l hg.d hg.le (by rw[HT.out]at hc;exact hc),zai hWv hg.g (Nat.le_trans hdw HD.out.2.2.2.2.2.1) hWv.size⟩)
   have lv:w.heap.size<wv.heap.size:=Nat.lt_of_lt_of_le hd1 hbv.size
   have l6v:c6<wv.heap.size:=block_lt_of_cell u6
   have HG3:=aA (Nat.le_trans hdw HD.out.2.2.2.2.2.1)
   clear hv3 hv5 hv6 hv7 hwv hbv u7 hRv hWv hm2 hBg hnT r2 r3 k3 f3 l3 k6 l6 ld hst hst1 hg3 HD HT HTl H3 H2
   go_wp2_with fail
   refine HGR.out.mono ?_;rintro _ w4 ⟨rfl,s,hg4,hc4⟩
   obtain⟨e4,hb4⟩:=HFIN.out w4 s hg4 hc4
   have ck4:=HX6.out w4 hg4.g
   have hu4:=aA hg4.u
   have HB4:=aA hb4
   have hl4:c6<w4.heap.size:=block_lt_of_cell ck4
   clear hg4 hc4 hb4 HGR HFIN HX6 u6 u2
   go_wp2
   go_ret
   subst e4
   exact⟨fun _=>⟨g3,by rw[Gm.rc_len];rfl,HG3.out,hu4.out,HB4.out⟩,fun h=>by simp at h⟩
end Go.Proofs.YtabmfpgpkbndeaaGreat
namespace Go.Proofs.YtabmfpgpkbndeaaGreat
set_option maxRecDepth 100000
set_option maxHeartbeats 40000000
open Go.RowKit
theorem Gm.growP_take {tm:Bool} {rs:List Gm.Rl} {k:Nat} (h:k<rs.length) (s:List Bool):(rs.take (k+1)).foldl (Gm.grow1 tm) s=Gm.grow1 tm ((rs.take k).foldl (Gm.grow1 tm) s) rs[k]:=by
 rw[List.take_succ_eq_append_getElem h,List.foldl_append];rfl
theorem Gm.growP_len (tm:Bool) (rs:List Gm.Rl) (s:List Bool):(rs.foldl (Gm.grow1 tm) s).length=s.length:=((Gm.foldl_le _ (Gm.grow1_le tm) rs s).len).symm
theorem ze5 (tm:Bool) (v:Value) (G:Gm.Gr) (B:Nat) (w:World) (hg:aT w B v G) (hf:Gm.Fit G) (hB:B≤w.heap.size) :
  Calls Tryz.prog 97 #[v,.bool tm] w (ziI (Gm.right G) (Gm.gn tm G.rs G.ns.length) w):=by
 have H1:=aA (fun(x:World) (h:Below w.heap.size w x)=>za6 v G B x (hg.below h hB) hf (Nat.le_trans hB h.size))
 obtain⟨AT,cT,AN,cN,AR,cR,rfl,_,⟨hlN,hmN⟩,⟨hlR,hmR⟩,_,_,hR⟩:=hg
 have HS0:=aA (One.start w #[.slice AT G.ts.length cT,.slice AN G.ns.length cN,.slice AR G.rs.length cR,.int .i64 G.st])
 have HRl:=aA hR
 have HB:=aA hB
 have HFT:=aA hf
 clear hf hR hB
 cases q:Gm.right G
 ·rw[q]at H1
  clear q
  go_enter Tryz.func97,Tryz.ntmps97
  go_wp2_with fail
  refine(H1.out _ HS0.out.below).mono ?_;rintro _ w2 ⟨rfl,hb⟩
  have HB2:=aA (HS0.out.on hb)
  clear hb
  go_wp2
  go_ret
  exact⟨fun h=>by simp at h,fun _=>⟨rfl,HB2.out.below⟩⟩
 ·have HOK:=aA (Gm.right_ok.1 q)
  have HN:Hid (G.ns.length≤40):=aA (by have:=(Gm.nons_iff G).1 HOK.out.n;omega)
  have HR40:Hid (G.rs.length≤40):=aA HOK.out.r40
  rw[q]at H1
  clear q
  have hnn:=HN.out
  have hlen:(G.ns.length:Int)≤9223372036854775807:=by omega
  have hlen2:(G.rs.length:Int)≤9223372036854775807:=by omega
  go_enter Tryz.func97,Tryz.ntmps97
  go_wp2_with fail
  refine(H1.out _ HS0.out.below).mono ?_;rintro _ w2 ⟨rfl,hb⟩
  have HB2:=aA (HS0.out.on hb)
  have q1:=HB2.out.c 1 _ rfl
  have hd1:w.heap.size<w2.heap.size:=HB2.out.size
  clear hb
  go_upto_region 4 with(at_make;refine zca rfl (.tmp 13) (.tmp 13) _ rfl Tryz.underlying47 G.ns.length _ _ rfl rfl rfl rfl (by omega) ?_;intro w3 hu3 hb3 hlt3)
  have HB3:=aA (HB2.out.on hb3)
  have HU3:=aA hu3
  have HGK:Hid (w.heap.size<w2.heap.size):=aA hd1
  clear hu3 hb3 hlt3 q1 hd1 HS0 H1
  go_wp2
  go_loopw [6] (fun vn wr=>∃n:Nat,n≤G.ns.length∧vn=.int .i64 n∧Hid (UBO wr w2.heap.size (Gm.times (Gm.growP tm G.rs) n (List.replicate G.ns.length false)))∧Hid (One w #[.slice AT G.ts.length cT,.slice AN G.ns.length cN,.slice AR G.rs.length cR,.int .i64 G.st] wr)) (fun vn _=>G.ns.length-(intOf vn).toNat)
  case atStart=>exact⟨0,Nat.zero_le _,rfl,HU3,HB3⟩
  case round =>
   obtain⟨n,hn,rfl,HU,HW⟩:=hrel
   obtain⟨wo,hwo⟩:∃wo:World,wo=wr:=⟨_,rfl⟩
   subst hwo
   have q1:=HW.out.c 1 _ rfl
   have ld:w.heap.size<wo.heap.size:=HW.out.size
   clear HU3 HB3
   by_cases hlt:n<G.ns.length
   ·have HSL:Hid ((Gm.times (Gm.growP tm G.rs) n (List.replicate G.ns.length false)).length=G.ns.length):=aA (by have:=(Gm.times_le (f:=Gm.growP tm G.rs) (fun s=>Gm.foldl_le _ (Gm.grow1_le tm) G.rs s) n (List.replicate G.ns.length false)).len;rw[←this];simp)
    have HNX:Hid (Gm.times (Gm.growP tm G.rs) (n+1) (List.replicate G.ns.length false)=G.rs.foldl (Gm.grow1 tm) (Gm.times (Gm.growP tm G.rs) n (List.replicate G.ns.length false))):=aA rfl
    generalize Gm.times (Gm.growP tm G.rs) n (List.replicate G.ns.length false)=s at *
    go_wp2
    go_loopw [7] (fun vi wr=>∃i:Nat,i≤G.rs.length∧vi=.int .i64 i∧Hid (UBO wr w2.heap.size ((G.rs.take i).foldl (Gm.grow1 tm) s))∧Hid (One w #[.slice AT G.ts.length cT,.slice AN G.ns.length cN,.slice AR G.rs.length cR,.int .i64 G.st] wr)) (fun vi _=>G.rs.length-(intOf vi).toNat)
    case atStart=>exact⟨0,Nat.zero_le _,rfl,HU,HW⟩
    case round =>
     clear HU HW q1 ld
     obtain⟨i,hi,rfl,HU,HW⟩:=hrel
     have q2:=HW.out.c 2 _ rfl
     have ld:w.heap.size<wr.heap.size:=HW.out.size
     by_cases hlt2:i<G.rs.length
     ·obtain⟨g,o,rfl,hgB,hc⟩:=HRl.out (by omega)
      obtain⟨k0,⟨A',c',k1,_,_,hri⟩,_⟩:=hc i hlt2
      have k0:=(HW.out.below.cell (p:=⟨g,o+i*3,none⟩) (Nat.lt_of_lt_of_le hgB HB.out)).trans k0
      have k1:=(HW.out.below.cell (p:=⟨g,o+i*3+1,none⟩) (Nat.lt_of_lt_of_le hgB HB.out)).trans k1
      have hgs:g<wr.heap.size:=by have:=HB.out;omega
      have hxm:G.rs[i]∈G.rs:=List.getElem_mem hlt2
      have e:=HFT.out.r _ hxm
      have HCL:=aA ((Gm.growP_len tm (G.rs.take i) s).trans HSL.out)
      have HTK:=aA (Gm.growP_take (tm:=tm) hlt2 s)
      have hxl:=HOK.out.lin _ hxm
      have HAL:=zcZ G.rs[i].r ((G.rs.take i).foldl (Gm.grow1 tm) s) tm A' (some ⟨w2.heap.size,0,none⟩) c' G.ns.length B wr.heap.size wr (hri.keep fun g o hg=>HW.out.below.cell (p:=⟨g,o,none⟩) (Nat.lt_of_lt_of_le hg HB.out)) e.2.2 (fun z hz h=>by rw[HCL.out];exact HOK.out.sin _ hxm z hz h) (HU.out.rd0 HU.out.lt) (by have:=(Gm.rule_in (HOK.out.rr _ hxm)).1;omega)
      rw[HCL.out]at HAL
      have HAL:=aA HAL
      have lu:=HU.out.lt
      generalize (G.rs.take i).foldl (Gm.grow1 tm) s=cur at *
      generalize G.rs[i]=x at *
      obtain⟨m,hm⟩:∃m:Nat,x.l=(m:Int):=⟨x.l.toNat,by omega⟩
      have HM:Hid (x.l.toNat=m):=aA (by rw[hm];simp)
      have hmn:m<cur.length:=by rw[HCL.out];omega
      have km:=HU.out.cell m hmn
      have fm:=HU.out.frozen m
      rw[hm]at k0 hxl
      have hmi:=hxl.2
      clear hc hri e hxm hm hmn hxl
      cases ha:Gm.allB tm cur x.r
      ·rw[ha]at HAL
       have HX:=aA (HTK.out.trans (show Gm.grow1 tm cur x=cur by unfold Gm.grow1;rw[if_neg (by rw[ha];decide)]))
       clear ha HTK
       go_wp2_with fail
       refine HAL.out.mono ?_;rintro _ w4 ⟨rfl,hw4⟩
       subst hw4
       go_wp2
       go_roundw
       case rel=>exact⟨i+1,hlt2,by go_num,by rw[HX.out];exact HU,HW⟩
       case measure=>simp[intOf];omega
      ·rw[ha]at HAL
       have HX:=aA (HTK.out.trans (show Gm.grow1 tm cur x=cur.set m true by unfold Gm.grow1;rw[if_pos ha,HM.out]))
       have HU2:=aA (HU.out.set_ m true)
       have HW2:Hid (One w #[.slice AT G.ts.length cT,.slice AN G.ns.length cN,.slice (some ⟨g,o,none⟩) G.rs.length cR,.int .i64 G.st] (wr.setCell ⟨w2.heap.size,m,none⟩ (.bool true))):=aA (Below.setCell (p:=⟨w2.heap.size,m,none⟩) HW.out (by have:=HGK.out;simp only;omega) _)
       clear ha HTK
       go_wp2_with fail
       refine HAL.out.mono ?_;rintro _ w4 ⟨rfl,hw4⟩
       subst hw4
       go_wp2
       go_roundw
       case rel=>exact⟨i+1,hlt2,by go_num,by rw[HX.out];exact HU2,HW2⟩
       case measure=>simp[intOf];omega
     ·obtain rfl:i=G.rs.length:=by omega
      rw[List.take_length]at HU
      go_wp2
      go_roundw
      case rel=>exact⟨n+1,hlt,by go_num,by rw[HNX.out];exact HU,HW⟩
      case measure=>simp[intOf];omega
   ·obtain rfl:n=G.ns.length:=by omega
    have HE:=aA (Gm.grow_gn (tm:=tm) HOK.out.lin)
    go_wp2
    go_ret
    exact⟨fun _=>⟨w2.heap.size,by rw[Gm.gn_len];rfl,Nat.le_of_lt HGK.out,by rw[←HE.out];exact HU.out,HW.out.below⟩,fun h=>by simp at h⟩
theorem za3 (v:Value) (G:Gm.Gr) (B:Nat) (w:World) (hg:aT w B v G) (hf:Gm.Fit G) (hB:B≤w.heap.size) :
  Calls Tryz.prog 65 #[v] w (ziI (Gm.right G) (Gm.gn true G.rs G.ns.length) w):=by
 have H1:=aA (fun(x:World) (h:Below w.heap.size w x)=>ze5 true v G B x (hg.below h hB) hf (Nat.le_trans hB h.size))
 obtain⟨AT,cT,AN,cN,AR,cR,rfl,_⟩:=hg
 have HS0:=aA (One.start w #[.slice AT G.ts.length cT,.slice AN G.ns.length cN,.slice AR G.rs.length cR,.int .i64 G.st])
 clear hf
 generalize Gm.gn true G.rs G.ns.length=T at *
 generalize Gm.right G=q at *
 cases q
 ·go_enter Tryz.func65,Tryz.ntmps65
  go_wp2_with fail
  refine(H1.out _ HS0.out.below).mono ?_;intro e w2 h
  obtain⟨rfl,hb⟩:=h.2 rfl
  have HB2:=aA (HS0.out.on hb)
  clear hb h
  go_wp2
  go_ret
  exact⟨fun h=>by simp at h,fun _=>⟨rfl,HB2.out.below⟩⟩
 ·go_enter Tryz.func65,Tryz.ntmps65
  go_wp2_with fail
  refine(H1.out _ HS0.out.below).mono ?_;intro e w2 h
  obtain⟨g,rfl,hg,hu,hb⟩:=h.1 rfl
  have HB2:=aA (HS0.out.on hb)
  have HU:=aA hu
  have HG:=aA hg
  clear hb h hu hg
  go_wp2
  go_ret
  exact⟨fun _=>⟨g,rfl,by have:=HG.out;simp at this;omega,HU.out,HB2.out.below⟩,fun h=>by simp at h⟩
theorem Gm.reachP_take {p:List Bool} {rs:List Gm.Rl} {k:Nat} (h:k<rs.length) (s:List Bool):(rs.take (k+1)).foldl (Gm.reach1 p) s=Gm.reach1 p ((rs.take k).foldl (Gm.reach1 p) s) rs[k]:=by
 rw[List.take_succ_eq_append_getElem h,List.foldl_append];rfl
theorem Gm.reachP_len (p:List Bool) (rs:List Gm.Rl) (s:List Bool):(rs.foldl (Gm.reach1 p) s).length=s.length:=((Gm.foldl_le _ (Gm.reach1_le p) rs s).len).symm
theorem Gm.marks_take {r:List Int} {k:Nat} (h:k<r.length) (s:List Bool):Gm.marks s (r.take (k+1))=Gm.mark1 (Gm.marks s (r.take k)) r[k]:=by
 unfold Gm.marks
 rw[List.take_succ_eq_append_getElem h,List.foldl_append];rfl
def Gm.rcB (p s:List Bool) (x:Gm.Rl):Bool:=s.getD x.l.toNat false&&Gm.allB true p x.r
theorem Gm.reach1_yes {p s:List Bool} {x:Gm.Rl} (h:Gm.rcB p s x=true):Gm.reach1 p s x=Gm.marks s x.r:=by
 unfold Gm.rcB at h
 rw[Bool.and_eq_true]at h
 unfold Gm.reach1;rw[if_pos h]
theorem Gm.reach1_no {p s:List Bool} {x:Gm.Rl} (h:Gm.rcB p s x=false):Gm.reach1 p s x=s:=by
 unfold Gm.rcB at h
 unfold Gm.reach1;rw[if_neg (by rw[←Bool.and_eq_true,h];decide)]
theorem zcn (v:Value) (G:Gm.Gr) (B:Nat) (w:World) (hg:aT w B v G) (hf:Gm.Fit G) (hB:B≤w.heap.size) :
  Calls Tryz.prog 66 #[v] w (ziI (Gm.right G) (Gm.rc G) w):=by
 have H1:=aA (fun(x:World) (h:Below w.heap.size w x)=>za6 v G B x (hg.below h hB) hf (Nat.le_trans hB h.size))
 have H2:=aA (fun(x:World) (h:Below w.heap.size w x)=>za3 v G B x (hg.below h hB) hf (Nat.le_trans hB h.size))
 obtain⟨AT,cT,AN,cN,AR,cR,rfl,_,⟨hlN,hmN⟩,⟨hlR,hmR⟩,_,_,hR⟩:=hg
 have HS0:=aA (One.start w #[.slice AT G.ts.length cT,.slice AN G.ns.length cN,.slice AR G.rs.length cR,.int .i64 G.st])
 have HRl:=aA hR
 have HB:=aA hB
 have HFT:=aA hf
 clear hf hR hB
 cases q:Gm.right G
 ·rw[q]at H1
  clear q H2
  go_enter Tryz.func66,Tryz.ntmps66
  go_wp2_with fail
  refine(H1.out _ HS0.out.below).mono ?_;rintro _ w2 ⟨rfl,hb⟩
  have HB2:=aA (HS0.out.on hb)
  clear hb
  go_wp2
  go_ret
  exact⟨fun h=>by simp at h,fun _=>⟨rfl,HB2.out.below⟩⟩
 ·have HOK:=aA (Gm.right_ok.1 q)
  have HN:Hid (G.ns.length≤40):=aA (by have:=(Gm.nons_iff G).1 HOK.out.n;omega)
  have HR40:Hid (G.rs.length≤40):=aA HOK.out.r40
  have H2:=aA (fun x h=>(show Calls _ _ _ _ (zhE _ _) from(H2.out x h).mono fun e w' k=>k.1 q))
  rw[q]at H1
  clear q
  have hnn:=HN.out
  have hlen:(G.ns.length:Int)≤9223372036854775807:=by omega
  have hlen2:(G.rs.length:Int)≤9223372036854775807:=by omega
  obtain⟨T,hT⟩:∃x,x=Gm.gn true G.rs G.ns.length:=⟨_,rfl⟩
  have HTl:Hid (T.length=G.ns.length):=aA (by rw[hT,Gm.gn_len])
  rw[←hT]at H2
  have HT:=aA hT
  clear hT
  go_enter Tryz.func66,Tryz.ntmps66
  go_wp2_with fail
  refine(H1.out _ HS0.out.below).mono ?_;rintro _ w2 ⟨rfl,hb⟩
  have HB2:=aA (HS0.out.on hb)
  have q0:=HB2.out.c 0 _ rfl
  have q1:=HB2.out.c 1 _ rfl
  have q2:=HB2.out.c 2 _ rfl
  have q3:=HB2.out.c 3 _ rfl
  have hd1:w.heap.size<w2.heap.size:=HB2.out.size
  clear hb
  go_wp2_with fail
  refine(H2.out _ HB2.out.below).mono ?_;rintro _ w3 ⟨gp,rfl,hgp,hup,hb3⟩
  rw[HTl.out]
  have HB3:=aA (HB2.out.on hb3)
  have HUP3:=aA hup
  clear q0 q1 q2 q3 hd1
  have q1:=HB3.out.c 1 _ rfl
  have hd1:w.heap.size<w3.heap.size:=HB3.out.size
  clear hup hb3 hgp
  go_upto_region 5 with(at_make;refine zca rfl (.tmp 16) (.tmp 16) _ rfl Tryz.underlying47 G.ns.length _ _ rfl rfl rfl rfl (by omega) ?_;intro w4 hu4 hb4 hlt4)
  have HB4:=aA (HB3.out.on hb4)
  have HUP4:=aA (HUP3.out.below hb4 HUP3.out.lt)
  have HGP:Hid (gp<w3.heap.size):=aA HUP3.out.lt
  have HU4:=aA hu4
  clear hu4 hb4 q1 HS0 H1 H2 HB2
  have hst:=HOK.out.s0
  have hst1:=HOK.out.s1
  obtain⟨m,hm⟩:∃m:Nat,G.st=(m:Int):=⟨G.st.toNat,by omega⟩
  have HM:Hid (G.st.toNat=m):=aA (by rw[hm];simp)
  have q3:=HB4.out.c 3 _ rfl
  have ld:w.heap.size<w4.heap.size:=HB4.out.size
  rw[hm]at q3 hst1
  have k3:=HU4.out.cell m (by simp;omega)
  have f3:=HU4.out.frozen m
  clear hm hst
  obtain⟨wv,hwv⟩:∃y,y=w4.setCell ⟨w3.heap.size,m,none⟩ (.bool true):=⟨_,rfl⟩
  have HBv:Hid (One w #[.slice AT G.ts.length cT,.slice AN G.ns.length cN,.slice AR G.rs.length cR,.int .i64 G.st] wv):=aA (by rw[hwv];exact Below.setCell (p:=⟨w3.heap.size,m,none⟩) HB4.out (by simp only;omega) _)
  have HUv:Hid (UBO wv w3.heap.size ((List.replicate G.ns.length false).set m true)):=aA (by rw[hwv];exact HU4.out.set_ m true)
  have HPv:Hid (UBO wv gp T):=aA (by rw[hwv];exact UBO.far HUP4.out (by have:=HGP.out;simp only;omega) _)
  have HGK:Hid (w.heap.size<w3.heap.size):=aA hd1
  clear HB3 HB4 HU4 HUP3 HUP4
  go_upto_region 6 with fail
  rw[←hwv]
  obtain⟨gk,hgk⟩:∃gk,gk=w3.heap.size:=⟨_,rfl⟩
  rw[←hgk]at HUv HGK HGP ⊢
  have HS0:=aA (Gm.reach_rc HOK.out.lin HOK.out.sin HOK.out.s0 HOK.out.s1)
  rw[HM.out,←HT.out]at HS0
  have HL0:Hid (((List.replicate G.ns.length false).set m true).length=G.ns.length):=aA (by simp)
  generalize (List.replicate G.ns.length false).set m true=s0 at *
  clear k3 f3 q3 ld hlt4 hd1 hwv hgk hst1
  go_wp2
  go_loopw [5] (fun vn wr=>∃n:Nat,n≤G.ns.length∧vn=.int .i64 n∧Hid (UBO wr gk (Gm.times (Gm.reachP T G.rs) n s0))∧Hid (wv.grownBy wr (some gk))) (fun vn _=>G.ns.length-(intOf vn).toNat)
  case atStart=>exact⟨0,Nat.zero_le _,rfl,HUv,aA (World.grownBy.refl _ _)⟩
  case round =>
   obtain⟨n,hn,rfl,HU,HW⟩:=hrel
   obtain⟨wo,hwo⟩:∃wo:World,wo=wr:=⟨_,rfl⟩
   subst hwo
   have q1:=zan HW.out (HBv.out.c 1 _ rfl) (by have:=HGK.out;omega)
   have ld:=block_lt_of_cell q1
   by_cases hlt:n<G.ns.length
   ·have HSL:Hid ((Gm.times (Gm.reachP T G.rs) n s0).length=G.ns.length):=aA (by have:=(Gm.times_le (f:=Gm.reachP T G.rs) (fun s=>Gm.foldl_le _ (Gm.reach1_le T) G.rs s) n s0).len;rw[←this];exact HL0.out)
    have HNX:Hid (Gm.times (Gm.reachP T G.rs) (n+1) s0=G.rs.foldl (Gm.reach1 T) (Gm.times (Gm.reachP T G.rs) n s0)):=aA rfl
    generalize Gm.times (Gm.reachP T G.rs) n s0=s at *
    go_wp2
    go_loopw [6] (fun vi wr=>∃i:Nat,i≤G.rs.length∧vi=.int .i64 i∧Hid (UBO wr gk ((G.rs.take i).foldl (Gm.reach1 T) s))∧Hid (wv.grownBy wr (some gk))) (fun vi _=>G.rs.length-(intOf vi).toNat)
    case atStart=>exact⟨0,Nat.zero_le _,rfl,HU,HW⟩
    case round =>
     clear HU HW q1 ld
     obtain⟨i,hi,rfl,HU,HW⟩:=hrel
     obtain⟨wi,hwi⟩:∃wi:World,wi=wr:=⟨_,rfl⟩
     subst hwi
     have q2:=zan HW.out (HBv.out.c 2 _ rfl) (by have:=HGK.out;omega)
     have ld:=block_lt_of_cell q2
     by_cases hlt2:i<G.rs.length
     ·obtain⟨g,o,rfl,hgB,hc⟩:=HRl.out (by omega)
      obtain⟨k0,⟨A',c',k1,_,_,hri⟩,k2⟩:=hc i hlt2
      have hBv:B≤wv.heap.size:=Nat.le_trans HB.out HBv.out.below.size
      have hBk:B≤gk:=Nat.le_trans HB.out (Nat.le_of_lt HGK.out)
      have HCV:=aA (fun(y:World) (h:wv.grownBy y (some gk)) (o':Nat)=>(zay (o:=o') h hBv hBk hgB).trans (HBv.out.below.cell (p:=⟨g,o',none⟩) (Nat.lt_of_lt_of_le hgB HB.out)))
      have k0:=(HCV.out _ HW.out _).trans k0
      have k1:=(HCV.out _ HW.out _).trans k1
      have k2:=(HCV.out _ HW.out _).trans k2
      have hgs:g<wi.heap.size:=block_lt_of_cell k0
      have hxm:G.rs[i]∈G.rs:=List.getElem_mem hlt2
      have e:=HFT.out.r _ hxm
      have HCL:=aA ((Gm.reachP_len T (G.rs.take i) s).trans HSL.out)
      have HTK:=aA (Gm.reachP_take (p:=T) hlt2 s)
      have hxl:=HOK.out.lin _ hxm
      have hRI:∀y:World,wv.grownBy y (some gk)→RdI y B A' G.rs[i].r:=fun y h=>hri.keep fun g o hg=>(zay h hBv hBk hg).trans (HBv.out.below.cell (p:=⟨g,o,none⟩) (Nat.lt_of_lt_of_le hg HB.out))
      have HAL:=aA (fun(y:World) (h:wv.grownBy y (some gk))=>zcZ G.rs[i].r T true A' (some ⟨gp,0,none⟩) c' G.ns.length B y.heap.size y (hRI y h) e.2.2 (fun z hz h=>by rw[HTl.out];exact HOK.out.sin _ hxm z hz h) ((HPv.out.grown h (fun e=>by injection e with e;have:=HGP.out;omega)).rd0 (Nat.lt_of_lt_of_le HPv.out.lt h.size)) (by have:=(Gm.rule_in (HOK.out.rr _ hxm)).1;omega))
      rw[HTl.out]at HAL
      have HRI:=aA hRI
      have HSN:=aA (HOK.out.sin _ hxm)
      have hr6:=(Gm.rule_in (HOK.out.rr _ hxm)).1
      have HIN:=aA e.2.2
      generalize (G.rs.take i).foldl (Gm.reach1 T) s=cur at *
      generalize G.rs[i]=x at *
      obtain⟨l,r,pz⟩:=x
      simp only at k0 k1 k2 HAL HRI HSN hr6 hxl HIN
      obtain⟨m,rfl⟩:∃m:Nat,l=(m:Int):=⟨l.toNat,by omega⟩
      have hmn:m<cur.length:=by rw[HCL.out];omega
      have hmi:=hxl.2
      have lu:=HU.out.lt
      have hrl:(r.length:Int)≤9223372036854775807:=by omega
      have HE0:Hid (Gm.rcB T cur ⟨m,r,pz⟩=(cur.getD m false&&Gm.allB true T r)):=aA (by simp[Gm.rcB])
      have HX0:=aA (heap_alloc_new wi (.cells #[.int .i64 m,.slice A' r.length c',.int .i64 pz] 60))
      have HU1:=aA (HU.out.alloc (.cells #[.int .i64 m,.slice A' r.length c',.int .i64 pz] 60))
      have HW1:=aA (aF HW.out (.cells #[.int .i64 m,.slice A' r.length c',.int .i64 pz] 60))
      clear hc hri e hxm hxl hRI hBv hBk HCV
      go_wp2
      go_loopw [8] (fun vk wr=>∃k:Nat,k≤r.length∧vk=.int .i64 k∧Hid (Gm.rcB T cur ⟨m,r,pz⟩=false→k=0)∧Hid (UBO wr gk (Gm.marks cur (r.take k)))∧Hid (wv.grownBy wr (some gk))∧Hid (wr.heap[wi.heap.size]?=some (.cells #[.int .i64 m,.slice A' r.length c',.int .i64 pz] 60 (0,0)))) (fun vk _=>r.length-(intOf vk).toNat)
      case atStart=>exact⟨0,Nat.zero_le _,rfl,aA (fun _=>rfl),by simpa[Gm.marks] using HU1,HW1,HX0⟩
      case round =>
       clear HU HW HU1 HW1 HX0 k0 k1 k2
       obtain⟨k,hk,rfl,HK,HU,HW,HX⟩:=hrel
       have d0:=cell_of_row wr _ 0 _ _ _ HX.out
       have d1:=cell_of_row wr _ 1 _ _ _ HX.out
       have hd:=(Array.getElem?_eq_some_iff.1 HX.out).1
       have lk:=HU.out.lt
       have HML:Hid ((Gm.marks cur (r.take k)).length=G.ns.length):=aA ((Gm.marks_le cur _).len.symm.trans HCL.out)
       have km:=HU.out.cell m (by rw[HML.out];omega)
       by_cases hlt3:k<r.length
       ·have HAW:=aA (HAL.out wr HW.out)
        cases hc:Gm.rcB T cur ⟨m,r,pz⟩
        ·obtain rfl:=HK.out hc
         have HTK2:=aA (HTK.out.trans (Gm.reach1_no hc))
         rw[List.take_zero,show Gm.marks cur []=cur from rfl]at HU km
         have HE1:=aA (HE0.out.symm.trans hc)
         cases hv:cur.getD m false
         ·rw[hv]at km
          clear hc hv HE1 HAW
          go_wp2
          go_roundw
          case rel=>exact⟨i+1,hlt2,by go_num,by rw[HTK2.out];exact HU,HW⟩
          case measure=>simp[intOf];omega
         ·rw[hv]at km
          have ha:Gm.allB true T r=false:=by have:=HE1.out;rw[hv]at this;simpa using this
          rw[ha]at HAW
          clear hc hv HE1 ha
          go_wp2_with fail
          refine HAW.out.mono ?_;rintro _ w5 ⟨rfl,hw5⟩
          subst hw5
          go_wp2
          go_roundw
          case rel=>exact⟨i+1,hlt2,by go_num,by rw[HTK2.out];exact HU,HW⟩
          case measure=>simp[intOf];omega
        ·have h2:=HE0.out.symm.trans hc
         rw[Bool.and_eq_true]at h2
         rw[(Gm.marks_le cur (r.take k)).get m h2.1]at km
         rw[h2.2]at HAW
         obtain⟨g5,o5,rfl,hg5,hc5⟩:=HRI.out wr HW.out (by omega)
         have k5:=hc5 k hlt3
         rw[L.gd_lt hlt3]at k5
         have HSZ:=aA (HSN.out _ (List.getElem_mem hlt3))
         have HIZ:=HIN.out _ (List.getElem_mem hlt3)
         have HMT:=aA (Gm.marks_take hlt3 cur)
         have HKn:=HK
         have l5:=block_lt_of_cell k5
         unfold Gm.In at HIZ
         generalize r[k]=z at *
         clear hc5 h2
         by_cases hz:z<0
         ·have hz1:=HSZ.out hz
          obtain⟨j,hj⟩:∃j:Nat,-1-z=(j:Int):=⟨(-1-z).toNat,by omega⟩
          have hw1:IntKind.i64.wrap (-1-z)=(j:Int):=by rw[IntWalk.i64_in _ (by omega)];exact hj
          have HMT2:Hid (Gm.marks cur (r.take (k+1))=(Gm.marks cur (r.take k)).set j true):=aA (HMT.out.trans (by unfold Gm.mark1;rw[if_pos hz,hj];simp))
          have hjn:j<(Gm.marks cur (r.take k)).length:=by rw[HML.out];omega
          have HU2:=aA (HU.out.set_ j true)
          have HW2:=aA (aD HW.out j (.bool true))
          have HX2:=aA ((Below.heap_setCell wr ⟨gk,j,none⟩ (.bool true) wi.heap.size (by simp only;omega)).trans HX.out)
          have kj:=HU.out.cell j hjn
          have fj:=HU.out.frozen j
          have hji:(j:Int)<(G.ns.length:Int):=by omega
          have hz0:decide (z<0)=true:=decide_eq_true hz
          clear hz hz1 hj HMT hc HIZ hjn
          go_wp2_with fail
          refine HAW.out.mono ?_;rintro _ w5 ⟨rfl,hw5⟩
          subst hw5
          go_wp2
          go_roundw
          case rel=>exact⟨k+1,hlt3,by go_num,aA (fun h=>by cases h),by rw[HMT2.out];exact HU2,HW2,HX2⟩
          case measure=>simp[intOf];omega
         ·have HMT2:Hid (Gm.marks cur (r.take (k+1))=Gm.marks cur (r.take k)):=aA (HMT.out.trans (by unfold Gm.mark1;rw[if_neg hz]))
          have hz0:decide (z<0)=false:=decide_eq_false hz
          clear hz HMT hc HIZ
          go_wp2_with fail
          refine HAW.out.mono ?_;rintro _ w5 ⟨rfl,hw5⟩
          subst hw5
          go_wp2
          go_roundw
          case rel=>exact⟨k+1,hlt3,by go_num,aA (fun h=>by cases h),by rw[HMT2.out];exact HU,HW,HX⟩
          case measure=>simp[intOf];omega
       ·obtain rfl:k=r.length:=by omega
        have HTK2:Hid ((G.rs.take (i+1)).foldl (Gm.reach1 T) s=Gm.marks cur (r.take r.length)):=aA (HTK.out.trans (by
         cases hc:Gm.rcB T cur ⟨m,r,pz⟩
         ·rw[Gm.reach1_no hc]
          have:=HK.out hc
          rw[List.eq_nil_of_length_eq_zero this];rfl
         ·rw[Gm.reach1_yes hc,List.take_length]))
        go_wp2
        go_roundw
        case rel=>exact⟨i+1,hlt2,by go_num,by rw[HTK2.out];exact HU,HW⟩
        case measure=>simp[intOf];omega
     ·obtain rfl:i=G.rs.length:=by omega
      rw[List.take_length]at HU
      go_wp2
      go_roundw
      case rel=>exact⟨n+1,hlt,by go_num,by rw[HNX.out];exact HU,HW⟩
      case measure=>simp[intOf];omega
   ·obtain rfl:n=G.ns.length:=by omega
    go_wp2
    go_ret
    exact⟨fun _=>⟨gk,by rw[Gm.rc_len];rfl,Nat.le_of_lt HGK.out,by rw[←HS0.out];exact HU.out,zai HBv.out.below HW.out (Nat.le_of_lt HGK.out) HBv.out.below.size⟩,fun h=>by simp at h⟩
theorem zdH (g o j:Nat):((⟨g,o,none⟩:Addr).add j)=⟨g,o+j,none⟩:=by unfold Addr.add;by_cases h0:j=0 <;> simp[h0]
def RdT (L:List Int) (w:World) (B:Nat) (A:Option Addr) (ts:List Tok):Prop :=
 ts.length≠0→∃g o,A=some ⟨g,o,none⟩∧g<B∧∀i j u,(hi:i<ts.length)→(zaM L ts[i])[j]?=some u→w.cell? ⟨g,o+(i*3+j),none⟩=some u
theorem RdT.nil (L:List Int) (w:World) (B:Nat) (A:Option Addr):RdT L w B A []:=fun h=>absurd rfl h
theorem RdT.keep {L:List Int} {w w':World} {B:Nat} {A:Option Addr} {ts:List Tok} (h:RdT L w B A ts) (hk:∀g o,g<B→w'.cell? ⟨g,o,none⟩=w.cell? ⟨g,o,none⟩):RdT L w' B A ts:=fun hn=>by
 obtain⟨g,o,e,hg,hc⟩:=h hn
 exact⟨g,o,e,hg,fun i j u hi hu=>(hk _ _ hg).trans (hc i j u hi hu)⟩
theorem RdT.more {L:List Int} {w:World} {B B':Nat} {A:Option Addr} {ts:List Tok} (h:RdT L w B A ts) (hB:B≤B'):RdT L w B' A ts:=fun hn=>by
 obtain⟨g,o,e,hg,hc⟩:=h hn
 exact⟨g,o,e,by omega,hc⟩
theorem RdT.grown {L:List Int} {w w':World} {B:Nat} {A:Option Addr} {ts:List Tok} {row:Option Nat} (h:RdT L w B A ts) (hg:w.grownBy w' row) (hr:∀k,row=some k→B≤k) (hs:B≤w.heap.size):RdT L w' B A ts :=
 h.keep fun p o hp=>World.cell?_of_block (hg.block p (by omega) (fun e=>by have:=hr p e.symm;omega))
theorem RdT.below {L:List Int} {w w':World} {B B':Nat} {A:Option Addr} {ts:List Tok} (h:RdT L w B A ts) (hb:Below B' w w') (hB:B≤B'):RdT L w' B A ts :=
 h.keep fun g o hg=>hb.cell (p:=⟨g,o,none⟩) (Nat.lt_of_lt_of_le hg hB)
theorem bP.rd {L:List Int} {w:World} {base:Nat} {v:Value} {xs:List Tok} (h:bP L w base v xs):∃A c,v=.slice A xs.length c∧xs.length≤c∧c≤maxLen∧RdT L w w.heap.size A xs:=by
 obtain⟨A,c,rfl,h1,h2⟩:=h.form
 refine⟨A,c,rfl,h1,h2,fun h0=>?_⟩
 obtain⟨g,c',e,_,_,_,hg,hcell⟩:=h.addr h0
 injection e with e1 e2 e3
 refine⟨g,0,e1,hg,fun i j u hi hu=>?_⟩
 have hj:j<3:=by
  have:=(List.getElem?_eq_some_iff.1 hu).1
  simpa[zaM] using this
 rw[Nat.zero_add]
 exact hcell i j u hi hj (by rw[List.getElem?_eq_getElem hi];exact hu)
def zf9 (A:Option Addr) (c:Nat):Option Addr:=if c=1 then A else A.map fun x=>x.add 3
theorem RdT.tail {L:List Int} {w:World} {B c:Nat} {A:Option Addr} {t:Tok} {ts:List Tok} (h:RdT L w B A (t::ts)) (hc:(t::ts).length≤c):RdT L w B (zf9 A c) ts:=by
 intro hn
 obtain⟨g,o,rfl,hg,hcl⟩:=h (by simp)
 refine⟨g,o+3,?_,hg,fun i j u hi hu=>?_⟩
 ·unfold zf9
  rw[if_neg (by simp at hc;omega),Option.map_some,zdH]
 ·have:=hcl (i+1) j u (by simp;omega) (by simpa using hu)
  rwa [show o+3+(i*3+j)=o+((i+1)*3+j) by omega]
def aW (L:List Int) (x:Tok):List Value:=[.string (K.str x.t),.complex .f64 (Fl.fl (Pl.pos (L.take x.o)).1) (Fl.fl (Pl.pos (L.take x.o)).2)]
theorem zcC (L:List Int) (xs:List Tok):(xs.flatMap (aW L)).length=xs.length*2:=by
 induction xs with
 | nil=>rfl
 | cons x r ih=>simp[List.flatMap_cons,ih,aW];omega
theorem zfZ (L:List Int) (xs:List Tok) (i j:Nat) (hi:i<xs.length) (hj:j<2):(xs.flatMap (aW L))[i*2+j]?=(aW L xs[i])[j]?:=by
 induction xs generalizing i with
 | nil=>simp at hi
 | cons x r ih =>
  rw[List.flatMap_cons]
  have hl:(aW L x).length=2:=rfl
  cases i with
  | zero=>rw[List.getElem?_append_left (by omega)];simp
  | succ i =>
   rw[List.getElem?_append_right (by omega),hl,show(i+1)*2+j-2=i*2+j by omega]
   simpa using ih i (by simpa using hi)
def RdR (L:List Int) (w:World) (B:Nat) (A:Option Addr) (xs:List Tok):Prop :=
 xs.length≠0→∃(g:Nat) (cur:Array Value),A=some ⟨g,0,none⟩∧B≤g∧w.heap[g]?=some (.cells cur 112 (0,0))∧∀(j:Nat) (u:Value),(xs.flatMap (aW L))[j]?=some u→cur[j]?=some u
theorem RdR.nil (L:List Int) (w:World) (B:Nat) (A:Option Addr):RdR L w B A []:=fun h=>absurd rfl h
def a8 (w:World) (row:Option Nat):Prop:=∀k,row=some k→∀cur,w.heap[k]? ≠ some (.cells cur 112 (0,0))
theorem a8.none (w:World):a8 w .none:=fun _ h=>by cases h
theorem RdR.grown {L:List Int} {w w':World} {B:Nat} {A:Option Addr} {xs:List Tok} {row:Option Nat} (h:RdR L w B A xs) (hg:w.grownBy w' row) (hr:a8 w row):RdR L w' B A xs:=fun hn=>by
 obtain⟨g,cur,e,hB,hh,hc⟩:=h hn
 exact⟨g,cur,e,hB,(hg.block g (Array.getElem?_eq_some_iff.1 hh).1 (fun e=>hr g e.symm cur hh)).trans hh,hc⟩
theorem RdR.less {L:List Int} {w:World} {B B':Nat} {A:Option Addr} {xs:List Tok} (h:RdR L w B A xs) (hB:B'≤B):RdR L w B' A xs:=fun hn=>by
 obtain⟨g,cur,e,hb,hh⟩:=h hn
 exact⟨g,cur,e,by omega,hh⟩
theorem RdR.below {L:List Int} {w w':World} {B:Nat} {A:Option Addr} {xs:List Tok} (h:RdR L w B A xs) (hb:Below w.heap.size w w'):RdR L w' B A xs:=h.grown (aL hb .none) (a8.none w)
theorem RdR.cell {L:List Int} {w:World} {B:Nat} {A:Option Addr} {xs:List Tok} (h:RdR L w B A xs) (h0:xs.length≠0):∃g,A=some ⟨g,0,none⟩∧B≤g∧∀i j u,(hi:i<xs.length)→j<2→(aW L xs[i])[j]?=some u→w.cell? ⟨g,i*2+j,none⟩=some u:=by
 obtain⟨g,cur,e,hB,hh,hc⟩:=h h0
 refine⟨g,e,hB,fun i j u hi hj hu=>?_⟩
 rw[cell_of_row w g _ _ _ _ hh]
 exact hc _ _ (by rw[zfZ L xs i j hi hj];exact hu)
def bJ (L:List Int) (w:World) (base:Nat) (v:Value) (xs:List Tok):Prop:=w.ownsRow base 112 2 v xs.length (xs.flatMap (aW L))
theorem bJ.nil (L:List Int) (w:World) (base:Nat):bJ L w base (.slice none 0 0) []:=World.ownsRow_nil w base _ _
theorem bJ.alloc {L:List Int} {w:World} {base:Nat} {v:Value} {xs:List Tok} (h:bJ L w base v xs) (o:Obj):bJ L (w.alloc o) base v xs:=World.ownsRow.alloc h o
theorem bJ.grown {L:List Int} {w w':World} {base:Nat} {v:Value} {xs:List Tok} {row:Option Nat} (h:bJ L w base v xs) (hg:w.grownBy w' row) (hr:a8 w row):bJ L w' base v xs:=by
 refine⟨h.1,?_⟩
 rcases h.2 with h0|⟨g,cap,cur,e,hb1,hh,hrr⟩
 ·exact .inl h0
 ·exact .inr ⟨g,cap,cur,e,hb1,(hg.block g (Array.getElem?_eq_some_iff.1 hh).1 (fun e=>hr g e.symm cur hh)).trans hh,hrr⟩
theorem bJ.below {L:List Int} {w w':World} {base:Nat} {v:Value} {xs:List Tok} (h:bJ L w base v xs) (hb:Below w.heap.size w w'):bJ L w' base v xs:=h.grown (aL hb .none) (a8.none w)
theorem bJ.rd {L:List Int} {w:World} {base:Nat} {v:Value} {xs:List Tok} (h:bJ L w base v xs):∃A c,v=.slice A xs.length c∧xs.length≤c∧c≤maxLen∧RdR L w base A xs:=by
 rcases h.2 with⟨rfl,h0⟩|⟨g,cap,cur,rfl,hb,hg,hn,hm,hs,ht⟩
 ·exact⟨none,0,by rw[h0],by omega,by unfold maxLen;omega,fun hc=>absurd h0 hc⟩
 ·refine⟨some ⟨g,0,none⟩,cap,rfl,hn,hm,fun _=>⟨g,cur,rfl,hb,hg,fun j u hu=>?_⟩⟩
  rw[←ht]at hu
  have hj:=(List.getElem?_eq_some_iff.1 hu).1
  rw[List.length_take]at hj
  rw[List.getElem?_take_of_lt (by omega)]at hu
  simpa using hu
theorem zjg:(Tryz.prog.info? 112).map (fun i=>(i.zero,i.size,i.bytes))=some (some (.agg #[.string ⟨#[]⟩,.complex .f64 0 0]),2,32):=by kernel_rfl
theorem ziD {w:World} {ops:Array Oper} {rest:List Oper} {o:Oper} {a:Act} {Q:Exit→Act→World→Prop}
  (hgd:o.guard=none) (s x:Operand) (t:TypeId) (ho:o.op=.call {callee:=.builtin .append,args:=#[s,x],argTypes:=#[t,t]}) (ht:Tryz.prog.underlying t=some (.slice 112))
  (L:List Int) (base:Nat) (v:Value) (xs:List Tok) (hs:a.eval s=v) (hown:bJ L w base v xs) (g c:Nat) (y:Tok) (hx:a.eval x=.slice (some ⟨g,0,none⟩) 1 c) (hz:∀j u,(aW L y)[j]?=some u→w.cell? ⟨g,j,none⟩=some u)
  (hlen:xs.length≤1000000) (hbase:base≤w.heap.size)
  (hK:∀v' w',bJ L w' base v' (xs++[y])→w.grownBy w' v.ownBlock→wpList Tryz.prog ops Q rest (a.put o.dst v') w') :
  wpList Tryz.prog ops Q (o::rest) a w:=by
 obtain⟨i,hi,hz0,hz1,hz2⟩:=info_parts zjg
 refine wpList_append_own w hgd s x t ho base 112 i _ 2 32 ht hi hz0 hz1 hz2 rfl (by decide) v xs.length (xs.flatMap (aW L)) hs hown ⟨g,0,none⟩ 1 c (aW L y) hx rfl ?_ ?_ (by unfold maxLen;omega) (by omega) hbase fun v' w' h1 h2 _=>hK v' w' ?_ h2
 ·intro j u hj
  rw[zdH,Nat.zero_add]
  exact hz j u hj
 ·intro u hu;simp[aW]at hu;rcases hu with rfl|rfl <;> rfl
 ·unfold bJ
  rw[List.length_append,List.flatMap_append,List.flatMap_singleton];exact h1
theorem _root_.Go.World.grownBy.row {w w':World} (h:w.grownBy w' .none) (row:Option Nat):w.grownBy w' row:=⟨h.os,h.tape,h.output,h.size,fun k hk _=>h.block k hk (by simp)⟩
theorem zad {a w w':World} {row:Option Nat} {e:TypeId} {size n:Nat} {v:Value} {xs:List Value} (h:a.grownBy w row) (ho:w.ownsRow a.heap.size e size v n xs) (hg:w.grownBy w' v.ownBlock):a.grownBy w' row :=
 ⟨hg.os.trans h.os,hg.tape.trans h.tape,hg.output.trans h.output,Nat.le_trans h.size hg.size,fun k hk hne=>(hg.block k (Nat.lt_of_lt_of_le hk h.size) (fun e=>by have:=(World.ownsRow.lt ho k e.symm).1;omega)).trans (h.block k hk hne)⟩
theorem zfW (L:List Int) (w:World) (t:Tok):∀j u,(aW L t)[j]?=some u→(w.alloc (.cells #[.string (K.str t.t),.complex .f64 (Fl.fl (Pl.pos (L.take t.o)).1) (Fl.fl (Pl.pos (L.take t.o)).2)] 112)).cell? ⟨w.heap.size,j,none⟩=some u:=by
 intro j u hu
 rw[World.cell?_alloc_new]
 simpa[aW] using hu
theorem zcN {w w2:World} {o:Obj} {R:Nat} (h:(w.alloc o).grownBy w2 (some R)) (hR:R<w.heap.size):w2.heap[w.heap.size]?=some o:=by
 rw[h.block w.heap.size (by simp) (fun e=>by injection e with e;omega)]
 exact heap_alloc_new w o
theorem zaV {a w:World} {row:Option Nat} (h:a.grownBy w row) (g i:Nat) (u:Value) (hg:a.heap.size≤g):a.grownBy (w.setCell ⟨g,i,none⟩ u) row :=
 ⟨h.os,h.tape,h.output,by simpa[World.setCell] using h.size,fun k hk hne=>(Below.heap_setCell w ⟨g,i,none⟩ u k (by simp only;omega)).trans (h.block k hk hne)⟩
def zcl (v:Value):Nat:=match v with | .slice _ n _=>n|_=>0
def ziG (L:List Int) (r:Out) (w:World) (e:Ending) (w':World):Prop :=
 match r with
 | .ok xs=>∃v,e=.returned (.tuple #[v,.complex .f64 (Fl.fl (Pl.pos L).1) (Fl.fl (Pl.pos L).2),.int .i64 0])∧bP L w' w.heap.size v xs∧Below w.heap.size w w'
 | .bad o d=>e=.returned (.tuple #[.slice none 0 0,.complex .f64 (Fl.fl (Pl.pos (L.take o)).1) (Fl.fl (Pl.pos (L.take o)).2),.int .i64 d])∧Below w.heap.size w w'
def At (L:List Int) (R:Out) (w:World) (k d f m:Nat) (acc:List Tok) (l:List Int) (p:Int×Int) (A':Option Addr) (c':Nat) (v:Value) (w':World):Prop :=
 L.length=k+d∧l=L.drop k∧p=Pl.pos (L.take k)∧Below w.heap.size w w'∧RdB w' w.heap.size A' l∧bP L w' w.heap.size v acc∧d≤c'∧d<f∧acc.length≤k∧m≤k∧ze2 f l k m acc=R
def bO (L:List Int) (t:Tok):Value:=.agg #[.string (K.str t.t),.complex .f64 (Fl.fl (Pl.pos (L.take t.o)).1) (Fl.fl (Pl.pos (L.take t.o)).2)]
theorem ze1 (w:World) (A:Option Addr) (c n:Nat) (hk:1≤n):(Instr.sliceAt 106 (.slice A n c) (some (.int .i64 1)) none none).run Tryz.prog w=.ok (.slice (zf9 A c) (n-1) (c-1)) w:=by
 rw[run_sliceAt_slice _ _ _ _ _ _ (by kernel_rfl),run_slice_l _ _ _ _ _ (by kernel_rfl) .i64 (1:Int) (by omega) (by omega)]
 have hs:(sizeOf (Tryz.prog.elem 106)).run Tryz.prog w=.ok 3 w:=by kernel_rfl
 rw[hs]
 simp[Result.andThen,sliced,zf9]
def za7 (L:List Int):Option Tok→List Value
 | none=>[.string ⟨#[]⟩,.complex .f64 0 0]
 | some t=>aW L t
def aU (L:List Int) (p:Y.Prd) (A:Option Addr) (c:Nat):List Value:=aW L p.l++[.slice A p.r.length c]++za7 L p.p
def za0 (d:Y.Dcl) (A:Option Addr) (c:Nat):List Value:=[.int .i64 d.k,.slice A d.ns.length c]
abbrev PA:=Y.Prd×Option Addr×Nat
abbrev DA:=Y.Dcl×Option Addr×Nat
def zg4 (L:List Int) (qs:List PA):List Value:=qs.flatMap fun q=>aU L q.1 q.2.1 q.2.2
def zju (qs:List DA):List Value:=qs.flatMap fun q=>za0 q.1 q.2.1 q.2.2
theorem zcG (L:List Int) (p:Y.Prd) (A:Option Addr) (c:Nat):(aU L p A c).length=5:=by
 unfold aU za7
 split <;> rfl
theorem zik (L:List Int) (qs:List PA) (i j:Nat) (hi:i<qs.length) (hj:j<5):(zg4 L qs)[i*5+j]?=(aU L qs[i].1 qs[i].2.1 qs[i].2.2)[j]?:=by
 unfold zg4
 induction qs generalizing i with
 | nil=>simp at hi
 | cons x r ih =>
  rw[List.flatMap_cons]
  have hl:=zcG L x.1 x.2.1 x.2.2
  cases i with
  | zero=>rw[List.getElem?_append_left (by omega)];simp
  | succ i =>
   rw[List.getElem?_append_right (by omega),hl,show(i+1)*5+j-5=i*5+j by omega]
   simpa using ih i (by simpa using hi)
theorem zgv (qs:List DA) (i j:Nat) (hi:i<qs.length) (hj:j<2):(zju qs)[i*2+j]?=(za0 qs[i].1 qs[i].2.1 qs[i].2.2)[j]?:=by
 unfold zju
 induction qs generalizing i with
 | nil=>simp at hi
 | cons x r ih =>
  rw[List.flatMap_cons]
  have hl:(za0 x.1 x.2.1 x.2.2).length=2:=rfl
  cases i with
  | zero=>rw[List.getElem?_append_left (by omega)];simp
  | succ i =>
   rw[List.getElem?_append_right (by omega),hl,show(i+1)*2+j-2=i*2+j by omega]
   simpa using ih i (by simpa using hi)
def bD (L:List Int) (w:World) (base:Nat) (v:Value) (ps:List Y.Prd):Prop :=
 ∃qs:List PA,qs.map (·.1)=ps∧w.ownsRow base 120 5 v ps.length (zg4 L qs)∧∀q∈qs,RdR L w base q.2.1 q.1.r
def bE (L:List Int) (w:World) (base:Nat) (v:Value) (ds:List Y.Dcl):Prop :=
 ∃qs:List DA,qs.map (·.1)=ds∧w.ownsRow base 154 2 v ds.length (zju qs)∧∀q∈qs,RdR L w base q.2.1 q.1.ns
theorem bD.nil (L:List Int) (w:World) (base:Nat):bD L w base (.slice none 0 0) []:=⟨[],rfl,World.ownsRow_nil w base _ _,fun q h=>by cases h⟩
theorem bE.nil (L:List Int) (w:World) (base:Nat):bE L w base (.slice none 0 0) []:=⟨[],rfl,World.ownsRow_nil w base _ _,fun q h=>by cases h⟩
def zh5 (w:World) (v:Value) (row:Option Nat):Prop:=a8 w row∧(v.ownBlock=none∨v.ownBlock≠row)
theorem zh5.none (w:World) (v:Value):zh5 w v .none:=⟨a8.none w,by rcases v.ownBlock with _|k;exact .inl rfl;exact .inr (by simp)⟩
theorem bD.grown {L:List Int} {w w':World} {base:Nat} {v:Value} {ps:List Y.Prd} {row:Option Nat} (h:bD L w base v ps) (hg:w.grownBy w' row) (ha:zh5 w v row):bD L w' base v ps:=by
 obtain⟨qs,h1,h2,h3⟩:=h
 exact⟨qs,h1,h2.kept hg ha.2,fun q hq=>(h3 q hq).grown hg ha.1⟩
theorem bE.grown {L:List Int} {w w':World} {base:Nat} {v:Value} {ds:List Y.Dcl} {row:Option Nat} (h:bE L w base v ds) (hg:w.grownBy w' row) (ha:zh5 w v row):bE L w' base v ds:=by
 obtain⟨qs,h1,h2,h3⟩:=h
 exact⟨qs,h1,h2.kept hg ha.2,fun q hq=>(h3 q hq).grown hg ha.1⟩
theorem zas {w:World} {base:Nat} {v:Value} {n:Nat} {size:Nat} {e:TypeId} {xs:List Value} (h:w.ownsRow base e size v n xs) (he:e≠112):a8 w v.ownBlock:=by
 intro k hk cur hc
 rcases h.2 with⟨rfl,_⟩|⟨g,cap,cur',rfl,_,hg,_⟩
 ·cases hk
 ·injection hk with hk
  subst hk
  have hg':w.heap[g]?=some (.cells cur 112 (0,0)):=hc
  rw[hg]at hg'
  injection hg' with e1
  injection e1 with _ e2
  exact he e2
theorem bD.form {L:List Int} {w:World} {base:Nat} {v:Value} {ps:List Y.Prd} (h:bD L w base v ps):∃A c,v=.slice A ps.length c∧ps.length≤c∧c≤maxLen:=by
 obtain⟨qs,h1,h2,h3⟩:=h
 rcases h2.2 with⟨rfl,h0⟩|⟨g,cap,cur,rfl,hb,hg,hn,hm,hs,ht⟩
 ·exact⟨none,0,by rw[h0],by omega,by unfold maxLen;omega⟩
 ·exact⟨_,cap,rfl,hn,hm⟩
theorem bE.form {L:List Int} {w:World} {base:Nat} {v:Value} {ds:List Y.Dcl} (h:bE L w base v ds):∃A c,v=.slice A ds.length c∧ds.length≤c∧c≤maxLen:=by
 obtain⟨qs,h1,h2,h3⟩:=h
 rcases h2.2 with⟨rfl,h0⟩|⟨g,cap,cur,rfl,hb,hg,hn,hm,hs,ht⟩
 ·exact⟨none,0,by rw[h0],by omega,by unfold maxLen;omega⟩
 ·exact⟨_,cap,rfl,hn,hm⟩
theorem zjh:(Tryz.prog.info? 120).map (fun i=>(i.zero,i.size,i.bytes))=some (some (.agg #[.string ⟨#[]⟩,.complex .f64 0 0,.slice none 0 0,.string ⟨#[]⟩,.complex .f64 0 0]),5,88):=by kernel_rfl
theorem zjP:(Tryz.prog.info? 154).map (fun i=>(i.zero,i.size,i.bytes))=some (some (.agg #[.int .i64 0,.slice none 0 0]),2,32):=by kernel_rfl
theorem zcF (L:List Int) (p:Y.Prd) (A:Option Addr) (c:Nat):∀u∈aU L p A c,u.oneCell'=true:=by
 intro u hu
 unfold aU za7 at hu
 split at hu <;> simp[aW]at hu <;> rcases hu with rfl|rfl|rfl|rfl|rfl <;> rfl
theorem zdg {w:World} {ops:Array Oper} {rest:List Oper} {o:Oper} {a:Act} {Q:Exit→Act→World→Prop}
  (hgd:o.guard=none) (s x:Operand) (t:TypeId) (ho:o.op=.call {callee:=.builtin .append,args:=#[s,x],argTypes:=#[t,t]}) (ht:Tryz.prog.underlying t=some (.slice 120))
  (L:List Int) (base:Nat) (v:Value) (ps:List Y.Prd) (hs:a.eval s=v) (hown:bD L w base v ps) (g c:Nat) (p:Y.Prd) (A:Option Addr) (pc:Nat) (hx:a.eval x=.slice (some ⟨g,0,none⟩) 1 c) (hz:∀j u,(aU L p A pc)[j]?=some u→w.cell? ⟨g,j,none⟩=some u) (hr:RdR L w base A p.r)
  (hlen:ps.length≤1000000) (hbase:base≤w.heap.size)
  (hK:∀v' w',bD L w' base v' (ps++[p])→w.grownBy w' v.ownBlock→wpList Tryz.prog ops Q rest (a.put o.dst v') w') :
  wpList Tryz.prog ops Q (o::rest) a w:=by
 obtain⟨i,hi,hz0,hz1,hz2⟩:=info_parts zjh
 obtain⟨qs,hq1,hq2,hq3⟩:=hown
 have hlq:qs.length=ps.length:=by rw[←hq1,List.length_map]
 refine wpList_append_own w hgd s x t ho base 120 i _ 5 88 ht hi hz0 hz1 hz2 rfl (by decide) v ps.length (zg4 L qs) hs hq2 ⟨g,0,none⟩ 1 c (aU L p A pc) hx (by rw[zcG]) ?_ (zcF L p A pc) (by unfold maxLen;omega) (by omega) hbase fun v' w' h1 h2 _=>hK v' w' ?_ h2
 ·intro j u hj
  rw[zdH,Nat.zero_add]
  exact hz j u hj
 ·have ho:=zas hq2 (by decide)
  refine⟨qs++[(p,A,pc)],by rw[List.map_append,hq1];rfl,?_,fun q hq=>?_⟩
  ·rw[List.length_append]
   unfold zg4
   rw[List.flatMap_append,List.flatMap_singleton]
   exact h1
  ·rcases List.mem_append.1 hq with h|h
   ·exact(hq3 q h).grown h2 ho
   ·rw[List.mem_singleton]at h
    subst h
    exact hr.grown h2 ho
theorem aJ (w:World) (row:Option Nat):w.grownBy w.drew row:=⟨rfl,rfl,rfl,Nat.le_refl _,fun _ _ _=>rfl⟩
theorem zac {w w2:World} {g R:Nat} {o:Obj} (h:w.grownBy w2 (some R)) (ho:w.heap[g]?=some o) (hne:g≠R):w2.heap[g]?=some o:=by
 rw[h.block g (Array.getElem?_eq_some_iff.1 ho).1 (fun e=>by injection e with e;omega)];exact ho
theorem zbO {w:World} {g:Nat} {cs:Array Value} {t:TypeId} (h:w.heap[g]?=some (.cells cs t (0,0))) (ht:t≠112):a8 w (some g):=by
 intro k hk cur hc
 injection hk with hk
 subst hk
 rw[h]at hc
 injection hc with hc
 injection hc with _ hc
 exact ht hc
theorem zbB (L:List Int) (p:Option Tok):∃x3 x4,za7 L p=[x3,x4]:=by cases p <;> exact⟨_,_,rfl⟩
theorem zfX {w w':World} {g:Nat} {cs:Array Value} {row:Option Nat} (h:w.heap[g]?=some (.cells cs 112 (0,0))) (hg:w.grownBy w' row) (ho:a8 w row):w'.heap[g]?=some (.cells cs 112 (0,0)) :=
 (hg.block g (Array.getElem?_eq_some_iff.1 h).1 (fun e=>ho g e.symm cs h)).trans h
theorem bD.own {L:List Int} {w:World} {base:Nat} {v:Value} {ps:List Y.Prd} (h:bD L w base v ps):∃xs,w.ownsRow base 120 5 v ps.length xs:=by
 obtain⟨qs,_,h2,_⟩:=h;exact⟨_,h2⟩
theorem bE.own {L:List Int} {w:World} {base:Nat} {v:Value} {ds:List Y.Dcl} (h:bE L w base v ds):∃xs,w.ownsRow base 154 2 v ds.length xs:=by
 obtain⟨qs,_,h2,_⟩:=h;exact⟨_,h2⟩
theorem bD.other {L:List Int} {w:World} {base:Nat} {v:Value} {ps:List Y.Prd} (h:bD L w base v ps):a8 w v.ownBlock:=by
 obtain⟨xs,h2⟩:=h.own;exact zas h2 (by decide)
theorem bE.other {L:List Int} {w:World} {base:Nat} {v:Value} {ds:List Y.Dcl} (h:bE L w base v ds):a8 w v.ownBlock:=by
 obtain⟨xs,h2⟩:=h.own;exact zas h2 (by decide)
theorem zeD (p:Tok→Bool):∀ts:List Tok,(ts.dropWhile p).length≤ts.length
 | []=>Nat.le_refl _
 | t::r=>by
  have:=zeD p r
  rw[List.dropWhile_cons]
  split
  ·simp;omega
  ·exact Nat.le_refl _
theorem zgY {left:Tok} {ts r:List Tok} {p:Y.Prd} (h:Y.rule left ts=.ok p r):r.length≤ts.length:=by
 unfold Y.rule Y.rule2 at h
 have hd:=zeD Y.isRef ts
 split at h
 ·obtain⟨t,m,h1,h2⟩:=Y.bind_eq_ok h
  obtain⟨u,m2,h3,h4⟩:=Y.bind_eq_ok h2
  injection h4 with _ h5
  subst h5
  have e1:=congrArg List.length (Y.take_ok h1).1
  have e2:=congrArg List.length (Y.take_ok h3).1
  simp at e1 e2
  omega
 ·injection h with _ h5
  subst h5
  exact hd
theorem ziW {w:World} {g:Nat} {t:TypeId} {a0 a1 a2 a3 a4:Value} (h:w.heap[g]?=some (.cells #[a0,a1,a2,a3,a4] t (0,0))) (b0 b1 b2 b3 b4:Value) :
  (((((w.setCell ⟨g,0,none⟩ b0).setCell ⟨g,1,none⟩ b1).setCell ⟨g,2,none⟩ b2).setCell ⟨g,3,none⟩ b3).setCell ⟨g,4,none⟩ b4).heap[g]?=some (.cells #[b0,b1,b2,b3,b4] t (0,0)):=by
 have h0:=heap_setCell_same w g 0 _ _ b0 h
 have h1:=heap_setCell_same _ g 1 _ _ b1 h0
 have h2:=heap_setCell_same _ g 2 _ _ b2 h1
 have h3:=heap_setCell_same _ g 3 _ _ b3 h2
 have h4:=heap_setCell_same _ g 4 _ _ b4 h3
 exact h4
theorem zaG (w:World) (p:Addr) (u:Value):(w.setCell p u).heap.size=w.heap.size:=by simp[World.setCell]
theorem zc3 (L:List Int) (w:World) (base:Nat) (t:Tok) (hb:base≤w.heap.size):bJ L (w.alloc (.cells #[.string (K.str t.t),.complex .f64 (Fl.fl (Pl.pos (L.take t.o)).1) (Fl.fl (Pl.pos (L.take t.o)).2)] 112)) base (.slice (some ⟨w.heap.size,0,none⟩) 1 1) [t] :=
 World.ownsRow_lit w #[.string (K.str t.t),.complex .f64 (Fl.fl (Pl.pos (L.take t.o)).1) (Fl.fl (Pl.pos (L.take t.o)).2)] 1 hb (by unfold maxLen;omega) rfl
theorem zde {w:World} {o:Oper} {a:Act} {K:Act→World→Prop} {Q:Exit→Act→World→Prop}
  (s x:Operand) (t:TypeId) (ho:o.op=.call {callee:=.builtin .append,args:=#[s,x],argTypes:=#[t,t]}) (ht:Tryz.prog.underlying t=some (.slice 112))
  (L:List Int) (base B:Nat) (v:Value) (xs:List Tok) (hs:a.eval s=v) (hown:bJ L w base v xs) (A:Option Addr) (m c:Nat) (ys:List Tok) (hx:a.eval x=.slice A m c) (hm:m=ys.length) (hr:RdR L w B A ys)
  (hlen:xs.length+ys.length≤1000000) (hbase:base≤w.heap.size)
  (hK:∀v' w',bJ L w' base v' (xs++ys)→w.grownBy w' v.ownBlock→K (a.put o.dst v') w') :
  o.wp Tryz.prog a w K Q:=by
 obtain⟨i,hi,hz0,hz1,hz2⟩:=info_parts zjg
 subst hm
 rcases A with _|ad
 ·have hz:ys=[]:=by
   rcases Nat.eq_zero_or_pos ys.length with h0|h0
   ·exact List.eq_nil_of_length_eq_zero h0
   ·obtain⟨g,o',h,_⟩:=hr (by omega);cases h
  subst hz
  have hrun:=zah (P:=Tryz.prog) w base t o.type 112 i 2 ht hi v xs.length _ hown c
  unfold Oper.wp
  simp[execOp,ho,resolve,invoke,builtin,hs,hx,hrun,Result.andThen]
  exact hK v w (by simpa using hown) (World.grownBy.refl _ _)
 ·refine wp_append_own w s x t ho base 112 i _ 2 32 ht hi hz0 hz1 hz2 rfl (by decide) v xs.length (xs.flatMap (aW L)) hs hown ad ys.length c (ys.flatMap (aW L)) hx (zcC L ys) ?_ ?_ (by unfold maxLen;omega) (by omega) hbase fun v' w' h1 h2 _=>hK v' w' ?_ h2
  ·intro j u hj
   have hjl:j<(ys.flatMap (aW L)).length:=(List.getElem?_eq_some_iff.1 hj).1
   rw[zcC]at hjl
   obtain⟨g,cur,h,_,hh,hc⟩:=hr (by omega)
   replace h:=Option.some.inj h
   subst h
   rw[zdH,Nat.zero_add,cell_of_row w g _ _ _ _ hh]
   exact hc j u hj
  ·intro u hu
   obtain⟨z,_,hz⟩:=List.mem_flatMap.1 hu
   simp[aW]at hz;rcases hz with rfl|rfl <;> rfl
  ·unfold bJ
   rw[List.length_append,List.flatMap_append];exact h1
def Rd8 (L:List Int) (B R px py:Nat) (w:World) (ts:List Tok):Prop :=
 ∃A c,w.heap[R]?=some (.cells #[.slice A ts.length c,.complex .f64 px py,.complex .f64 0 0,.int .i64 0] 148 (0,0))∧ts.length≤c∧ts.length≤4000∧RdT L w B A ts∧B≤R
theorem Rd8.lt {L:List Int} {B R px py:Nat} {w:World} {ts:List Tok} (h:Rd8 L B R px py w ts):R<w.heap.size:=by
 obtain⟨A,c,hh,_⟩:=h
 exact(Array.getElem?_eq_some_iff.1 hh).1
theorem Rd8.other {L:List Int} {B R px py:Nat} {w:World} {ts:List Tok} (h:Rd8 L B R px py w ts):a8 w (some R):=by
 obtain⟨A,c,hh,_⟩:=h
 intro k hk cur he
 injection hk with hk
 subst hk
 rw[hh]at he
 injection he with he
 injection he with _ he
 cases he
theorem Rd8.grown {L:List Int} {B R px py:Nat} {w w':World} {ts:List Tok} {row:Option Nat} (h:Rd8 L B R px py w ts) (hg:w.grownBy w' row) (hr:∀k,row=some k→R<k):Rd8 L B R px py w' ts:=by
 have hlt:=h.lt
 obtain⟨A,c,hh,h1,h2,h3,h4⟩:=h
 exact⟨A,c,(hg.block R hlt (fun e=>by have:=hr R e.symm;omega)).trans hh,h1,h2,h3.grown hg (fun k e=>by have:=hr k e;omega) (by omega),h4⟩
theorem Rd8.alloc {L:List Int} {B R px py:Nat} {w:World} {ts:List Tok} (h:Rd8 L B R px py w ts) (o:Obj):Rd8 L B R px py (w.alloc o) ts :=
 h.grown (row:=.none) (aF (World.grownBy.refl _ _) o) (fun _ e=>by cases e)
theorem Rd8.own {L:List Int} {B R px py base:Nat} {w w':World} {ts:List Tok} {e:TypeId} {size n:Nat} {v:Value} {xs:List Value} (h:Rd8 L B R px py w ts) (ho:w.ownsRow base e size v n xs) (hg:w.grownBy w' v.ownBlock) (hb:R<base):Rd8 L B R px py w' ts :=
 h.grown hg (fun k e=>by have:=(World.ownsRow.lt ho k e).1;omega)
theorem Rd8.far {L:List Int} {B R px py:Nat} {w:World} {ts:List Tok} (h:Rd8 L B R px py w ts) (g i:Nat) (u:Value) (hg:R<g):Rd8 L B R px py (w.setCell ⟨g,i,none⟩ u) ts :=
 h.grown (aD (World.grownBy.refl w (some g)) i u) (fun k e=>by injection e with e;omega)
theorem Rd8.cell0 {L:List Int} {B R px py:Nat} {w:World} {ts:List Tok} (h:Rd8 L B R px py w ts):∃A c,w.cell? ⟨R,0,none⟩=some (.slice A ts.length c)∧w.cell? ⟨R,3,none⟩=some (.int .i64 0)∧w.frozen? ⟨R,0,none⟩=false∧ts.length≤c∧RdT L w B A ts ∧
  ∀A' c' ts',ts'.length≤c'→ts'.length≤4000→RdT L w B A' ts'→Rd8 L B R px py (w.setCell ⟨R,0,none⟩ (.slice A' ts'.length c')) ts':=by
 obtain⟨A,c,hh,h1,h2,h3,h4⟩:=h
 refine⟨A,c,by rw[cell_of_row w R 0 _ _ _ hh];rfl,by rw[cell_of_row w R 3 _ _ _ hh];rfl,frozen_of_row w R 0 _ _ hh,h1,h3,fun A' c' ts' k1 k2 k3=>⟨A',c',?_,k1,k2,?_,h4⟩⟩
 ·rw[heap_setCell_same w R 0 _ _ _ hh];rfl
 ·exact k3.keep fun g o hg=>World.cell?_of_block (Below.heap_setCell w ⟨R,0,none⟩ _ g (by simp only;omega))
def kd:List Tok→Int
 | []=>0
 | t::_=>t.k
theorem ziu (L:List Int) (B R px py:Nat) (ts:List Tok) (w:World) (hr:Rd8 L B R px py w ts) :
  Calls Tryz.prog 104 #[.pointer (some ⟨R,0,none⟩)] w fun e w'=>e=.returned (.int .i64 (kd ts))∧w=w':=by
 obtain⟨A,c,h0,h3,_,hc,ht,_⟩:=hr.cell0
 rcases ts with _|⟨t,r⟩
 ·clear hr ht
  go_enter Tryz.func104,Tryz.ntmps104
  go_wp2
  go_ret
  exact⟨rfl,rfl⟩
 ·obtain⟨g,o,rfl,_,hcl⟩:=ht (by simp)
  have hcell:w.cell? ⟨g,o,none⟩=some (.int .i64 t.k):=hcl 0 0 _ (by simp) rfl
  have hl:0<((t::r).length:Int):=by simp
  have hl0:(((t::r).length:Int)==0)=false:=by simp;omega
  have HK:Hid (kd (t::r)=t.k):=aA rfl
  rw[HK.out]
  clear hr ht hcl
  generalize (t::r).length=n at *
  generalize t.k=z at *
  go_enter Tryz.func104,Tryz.ntmps104
  go_wp2
  go_ret
  exact⟨rfl,rfl⟩
theorem is8 (L:List Int) (B R px py:Nat) (ts:List Tok) (a b:Int) (w:World) (hr:Rd8 L B R px py w ts) :
  Calls Tryz.prog 146 #[.pointer (some ⟨R,0,none⟩),.int .i64 a,.int .i64 b] w fun e w'=>e=.returned (.bool (Y.is [a,b] ts))∧w=w':=by
 have HK:=aA (ziu L B R px py ts w hr)
 obtain⟨A,c,h0,h3,_,hc,ht,_⟩:=hr.cell0
 rcases ts with _|⟨t,r⟩
 ·clear hr ht
  go_enter Tryz.func146,Tryz.ntmps146
  go_wp2
  go_ret
  exact⟨rfl,rfl⟩
 ·have hl:0<((t::r).length:Int):=by simp
  have HE:Hid (Y.is [a,b] (t::r)=((t.k==a)||(t.k==b))):=aA (by show [a,b].contains t.k=_;simp[List.contains,List.elem];cases (t.k==a) <;> cases (t.k==b) <;> rfl)
  have HK2:Hid (kd (t::r)=t.k):=aA rfl
  rw[HE.out]
  rw[HK2.out]at HK
  clear hr ht
  generalize (t::r).length=n at *
  generalize t.k=z at *
  by_cases ha:z=a
  ·have ha':(z==a)=true:=by simpa using ha
   rw[ha',Bool.true_or]
   clear ha
   go_enter Tryz.func146,Tryz.ntmps146
   go_wp2_with fail
   refine HK.out.mono ?_;rintro _ _ ⟨rfl,rfl⟩
   go_wp2
   go_ret
   exact⟨rfl,rfl⟩
  ·have ha':(z==a)=false:=by simpa using ha
   rw[ha',Bool.false_or]
   clear ha
   generalize hb:(z==b)=q at *
   go_enter Tryz.func146,Tryz.ntmps146
   go_wp2_with fail
   refine HK.out.mono ?_;rintro _ _ ⟨rfl,rfl⟩
   go_wp2_with fail
   refine HK.out.mono ?_;rintro _ _ ⟨rfl,rfl⟩
   go_wp2
   go_ret
   exact⟨rfl,rfl⟩
theorem zdQ (L:List Int) (B R px py:Nat) (t:Tok) (r:List Tok) (a b:Int) (w:World) (hr:Rd8 L B R px py w (t::r)) (hk:Y.is [a,b] (t::r)=true) :
  Calls Tryz.prog 102 #[.pointer (some ⟨R,0,none⟩),.int .i64 a,.int .i64 b] w fun e w'=>e=.returned (bO L t)∧w.grownBy w' (some R)∧Rd8 L B R px py w' r:=by
 have HR:=aA (fun(w1:World) (h1:Below w.heap.size w w1)=>hr.grown (row:=.none) (aL h1 .none) (fun _ e=>by cases e))
 have HB0:=aA (fun o=>((Below.refl w.heap.size w).alloc (Nat.le_refl _) o))
 have hlt:=hr.lt
 obtain⟨A,c,h0,h3,hf,hc,ht,hset⟩:=hr.cell0
 obtain⟨g,o,hA,hgB,hcl⟩:=ht (by simp)
 have hc0:w.cell? ⟨g,o,none⟩=some (.int .i64 t.k):=hcl 0 0 _ (by simp) rfl
 have hc1:w.cell? ⟨g,o+1,none⟩=some (.string (K.str t.t)):=hcl 0 1 _ (by simp) rfl
 have hc2:w.cell? ⟨g,o+2,none⟩=some (.complex .f64 (Fl.fl (Pl.pos (L.take t.o)).1) (Fl.fl (Pl.pos (L.take t.o)).2)):=hcl 0 2 _ (by simp) rfl
 have hglt:g<w.heap.size:=by obtain⟨_,_,_,_,_,_,hBR⟩:=hr;omega
 have HIS:=aA (fun(w1:World) (h1:Below w.heap.size w w1)=>is8 L B R px py (t::r) a b w1 (HR.out w1 h1))
 rw[hk]at HIS
 have HT:=aA (ht.tail hc)
 have HSET:=aA hset
 have S1:=fun w=>ze1 w A c (t::r).length (by simp)
 have SC:=fun a w m X Y=>show(store a (.complex .f64 X Y) m).run Tryz.prog w=stored Tryz.prog w a (.complex .f64 X Y) m from run_store _ w a _ m rfl
 have hl0:(((t::r).length:Int)==0)=false:=by simp;omega
 have hl1:0<(t::r).length:=by simp
 have HN:Hid ((t::r).length=r.length+1∧r.length+1≤c∧r.length+1≤4000):=aA ⟨rfl,hc,by obtain⟨_,_,_,_,h4,_,_⟩:=hr;simpa using h4⟩
 unfold bO
 clear hr ht hcl hset hk
 subst hA
 generalize (t::r).length=n at *
 generalize t.k=z at *
 generalize K.str t.t=st at *
 generalize Fl.fl (Pl.pos (L.take t.o)).1=X at *
 generalize Fl.fl (Pl.pos (L.take t.o)).2=Y' at *
 go_enter Tryz.func102,Tryz.ntmps102
 go_wp2_with fail
 refine(HIS.out _ (HB0.out _)).mono ?_;rintro _ w2 ⟨rfl,rfl⟩
 go_wp2
 have hk:=HSET.out (zf9 (some ⟨g,o,none⟩) c) (c-1) r (by have:=HN.out;omega) (by have:=HN.out;omega) HT.out
 refine bodyPost_ret (v:=.agg #[.string st,.complex .f64 X Y']) (by simp[results,Tryz.results102,go_sem]) rfl ⟨rfl,aF (aF (aD (World.grownBy.refl _ _) _ _) _) _,?_⟩
 rw[show n-1=r.length by have:=HN.out;omega]
 exact(hk.alloc _).alloc _
def zjY (L:List Int) (B R px py:Nat) (ts:List Tok) (w:World) (e:Ending) (w':World):Prop :=
 w.grownBy w' (some R)∧∃v,e=.returned v∧bJ L w' w.heap.size v (ts.takeWhile Y.isRef)∧Rd8 L B R px py w' (ts.dropWhile Y.isRef)
theorem zii (L:List Int) (B R px py:Nat) (ts:List Tok) (w:World) (hr:Rd8 L B R px py w ts) :
  Calls Tryz.prog 145 #[.pointer (some ⟨R,0,none⟩)] w (zjY L B R px py ts w):=by
 have HR:=aA hr
 have hRlt:=hr.lt
 have hts:ts.length≤4000:=by obtain⟨_,_,_,_,h,_⟩:=hr;exact h
 clear hr
 go_enter Tryz.func145,Tryz.ntmps145
 go_wp2
 go_loopw [3] (fun v wr=>∃(acc rest:List Tok),bJ L wr w.heap.size v acc∧Rd8 L B R px py wr rest∧w.grownBy wr (some R)∧acc.length+rest.length=ts.length∧acc++rest.takeWhile Y.isRef=ts.takeWhile Y.isRef∧rest.dropWhile Y.isRef=ts.dropWhile Y.isRef) (fun v _=>4001-zcl v)
 case atStart=>exact⟨[],ts,bJ.nil _ _ _,HR.out,World.grownBy.refl _ _,by simp,rfl,rfl⟩
 case round =>
  clear HR
  obtain⟨acc,rest,ho,hr,hg,hlen,htk,hdp⟩:=hrel
  have HO:=aA ho
  have HR:=aA hr
  have HG:=aA hg
  have HL:=aA hlen
  have HTK:=aA htk
  have HDP:=aA hdp
  obtain⟨A,c,rfl,hc1,hc2⟩:=ho.rd
  have HIS:=aA (is8 L B R px py rest 1 2 wr hr)
  clear ho hr hg hlen htk hdp hc1 hc2
  rcases hb:Y.is [1,2] rest with _|_
  ·rw[hb]at HIS
   have HB:=aA hb
   clear hb
   go_wp2_with fail
   refine HIS.out.mono ?_;rintro _ w2 ⟨rfl,rfl⟩
   go_wp2
   go_ret
   obtain⟨e1,e2⟩:=Y.refs_end HB.out
   rw[e1,List.append_nil]at HTK
   rw[e2]at HDP
   refine⟨HG.out,_,rfl,?_,?_⟩
   ·rw[←HTK.out];exact HO.out
   ·rw[←HDP.out];exact HR.out
  ·rw[hb]at HIS
   have HB:=aA hb
   obtain⟨t,r,rfl,htake,hk⟩:=Y.is_true hb
   have HRF:=aA (zdQ L B R px py t r 1 2 wr HR.out hb)
   have HK:Hid (Y.isRef t=true):=aA hk
   clear hb htake hk
   unfold bO at HRF
   go_wp2_with fail
   refine HIS.out.mono ?_;rintro _ w2 ⟨rfl,rfl⟩
   go_wp2_with fail
   refine HRF.out.mono ?_;rintro _ w3 ⟨rfl,hg3,hrd⟩
   have HG3:=aA hg3
   have HRD:=aA hrd
   have HO3:=aA (HO.out.grown hg3 HR.out.other)
   clear hg3 hrd
   have HCE:=aA (zfW L w3 t)
   have HS0:Hid (w.heap.size≤w3.heap.size):=aA (by have h1:=HG.out.size;have h3:=HG3.out.size;omega)
   have HAC:Hid (acc.length≤4000):=aA (by have:=HL.out;simp at this;omega)
   go_wp2_with (at_builtin;refine ziD rfl (.tmp 6) (.tmp 9) _ rfl Tryz.underlying118 L w.heap.size _ acc rfl (HO3.out.alloc _) w3.heap.size 1 t rfl HCE.out (by have:=HAC.out;omega) (by have:=HS0.out;simp;omega) ?_;intro v4 w4 ho4 hg4)
   have HG4:=aA (zad (aF (HG.out.trans HG3.out) _) (HO3.out.alloc _) hg4)
   have HRD4:=aA ((HRD.out.alloc _).own (HO3.out.alloc _) hg4 hRlt)
   have HO4:=aA ho4
   clear ho4 hg4
   go_roundw
   case rel =>
    refine⟨acc++[t],r,HO4.out,HRD4.out,HG4.out,?_,?_,?_⟩
    ·have:=HL.out;simp at this ⊢;omega
    ·rw[←HTK.out,List.takeWhile_cons,HK.out];simp
    ·rw[←HDP.out,List.dropWhile_cons,HK.out];rfl
   case measure =>
    obtain⟨A4,c4,rfl,_,_⟩:=HO4.out.rd
    have:=HAC.out
    simp[zcl];omega
namespace Y
theorem zeL (left:Tok):∀(f:Nat) (acc:List Prd) (ts:List Tok) (ps:List Prd) (r:List Tok),alts f left acc ts=.ok ps r→ps.length+r.length≤acc.length+ts.length
 | 0,acc,ts,ps,r,h=>by injection h with h1 h2;subst h1 h2;exact Nat.le_refl _
 | f+1,acc,ts,ps,r,h=>by
  rw[alts]at h
  obtain⟨p,m,h1,h2⟩:=bind_eq_ok h
  obtain⟨t,m2,h3,h4⟩:=bind_eq_ok h2
  have e1:=zgY h1
  have e2:=congrArg List.length (take_ok h3).1
  simp at e2
  split at h4
  ·have:=zeL left f _ _ _ _ h4
   simp at this
   omega
  ·injection h4 with h5 h6
   subst h5 h6
   simp
   omega
theorem group_len {acc ps:List Prd} {ts r:List Tok} (h:group acc ts=.ok ps r):ps.length+r.length<acc.length+ts.length:=by
 unfold group at h
 obtain⟨t,m,h1,h2⟩:=bind_eq_ok h
 obtain⟨u,m2,h3,h4⟩:=bind_eq_ok h2
 have e1:=congrArg List.length (take_ok h1).1
 have e2:=congrArg List.length (take_ok h3).1
 have e3:=zeL _ _ _ _ _ _ h4
 simp at e1 e2
 omega
end Y
theorem zer {w:World} {base:Nat} {v:Value} {n size g:Nat} {e t:TypeId} {xs:List Value} {cs:Array Value} (h:w.ownsRow base e size v n xs) (hb:w.heap[g]?=some (.cells cs t (0,0))) (he:e≠t):v.ownBlock≠some g:=by
 intro hk
 rcases h.2 with⟨rfl,_⟩|⟨g',cap,cur',rfl,_,hg,_⟩
 ·cases hk
 ·injection hk with hk
  have hk':g'=g:=hk
  subst hk'
  rw[hg]at hb
  injection hb with e1
  injection e1 with _ e2
  exact he e2
theorem zbN {w w':World} {base:Nat} {v:Value} {n size g:Nat} {e t:TypeId} {xs:List Value} {cs:Array Value} (h:w.ownsRow base e size v n xs) (hb:w.heap[g]?=some (.cells cs t (0,0))) (he:e≠t) (hg:w.grownBy w' v.ownBlock):w'.heap[g]?=some (.cells cs t (0,0)) :=
 (hg.block g (Array.getElem?_eq_some_iff.1 hb).1 (fun e'=>zer h hb he e'.symm)).trans hb
theorem zeK {w:World} {o:Oper} {a:Act} {K:Act→World→Prop} {Q:Exit→Act→World→Prop}
  (s x:Operand) (t:TypeId) (ho:o.op=.call {callee:=.builtin .append,args:=#[s,x],argTypes:=#[t,t]}) (ht:Tryz.prog.underlying t=some (.slice 154))
  (L:List Int) (base:Nat) (v:Value) (ds:List Y.Dcl) (hs:a.eval s=v) (hown:bE L w base v ds) (g c:Nat) (d:Y.Dcl) (A:Option Addr) (dc:Nat) (hx:a.eval x=.slice (some ⟨g,0,none⟩) 1 c) (hz:∀j u,(za0 d A dc)[j]?=some u→w.cell? ⟨g,j,none⟩=some u) (hr:RdR L w base A d.ns)
  (hlen:ds.length≤1000000) (hbase:base≤w.heap.size)
  (hK:∀v' w',bE L w' base v' (ds++[d])→w.grownBy w' v.ownBlock→K (a.put o.dst v') w') :
  o.wp Tryz.prog a w K Q:=by
 obtain⟨i,hi,hz0,hz1,hz2⟩:=info_parts zjP
 obtain⟨qs,hq1,hq2,hq3⟩:=hown
 refine wp_append_own w s x t ho base 154 i _ 2 32 ht hi hz0 hz1 hz2 rfl (by decide) v ds.length (zju qs) hs hq2 ⟨g,0,none⟩ 1 c (za0 d A dc) hx rfl ?_ (fun u hu=>by simp[za0]at hu;rcases hu with rfl|rfl <;> rfl) (by unfold maxLen;omega) (by omega) hbase fun v' w' h1 h2 _=>hK v' w' ?_ h2
 ·intro j u hj
  rw[zdH,Nat.zero_add]
  exact hz j u hj
 ·have ho:=zas hq2 (by decide)
  refine⟨qs++[(d,A,dc)],by rw[List.map_append,hq1];rfl,?_,fun q hq=>?_⟩
  ·rw[List.length_append]
   unfold zju
   rw[List.flatMap_append,List.flatMap_singleton]
   exact h1
  ·rcases List.mem_append.1 hq with h|h
   ·exact(hq3 q h).grown h2 ho
   ·rw[List.mem_singleton]at h
    subst h
    exact hr.grown h2 ho
theorem bD.less {L:List Int} {w:World} {base base':Nat} {v:Value} {ps:List Y.Prd} (h:bD L w base v ps) (hb:base'≤base):bD L w base' v ps:=by
 obtain⟨qs,h1,h2,h3⟩:=h
 refine⟨qs,h1,⟨h2.1,?_⟩,fun q hq=>(h3 q hq).less hb⟩
 rcases h2.2 with h0|⟨g,cap,cur,e,hb1,hr⟩
 ·exact .inl h0
 ·exact .inr ⟨g,cap,cur,e,by omega,hr⟩
def zc9 (n:Nat) (w:World):Nat:=match w.cell? ⟨n,0,none⟩ with|some (.slice _ k _)=>k|_=>0
theorem bE.less {L:List Int} {w:World} {base base':Nat} {v:Value} {ds:List Y.Dcl} (h:bE L w base v ds) (hb:base'≤base):bE L w base' v ds:=by
 obtain⟨qs,h1,h2,h3⟩:=h
 refine⟨qs,h1,⟨h2.1,?_⟩,fun q hq=>(h3 q hq).less hb⟩
 rcases h2.2 with h0|⟨g,cap,cur,e,hb1,hr⟩
 ·exact .inl h0
 ·exact .inr ⟨g,cap,cur,e,by omega,hr⟩
theorem zaQ {B g i:Nat} {a w:World} (h:Below B a w) (u:Value) (hg:B≤g):Below B a (w.setCell ⟨g,i,none⟩ u) :=
 ⟨h.os,h.tape,h.output,by simpa[World.setCell] using h.size,fun k hk=>(Below.heap_setCell w ⟨g,i,none⟩ u k (by simp only;omega)).trans (h.block k hk)⟩
end Go.Proofs.YtabmfpgpkbndeaaGreat
namespace Go.Proofs.YtabmfpgpkbndeaaGreat
set_option maxRecDepth 100000
set_option maxHeartbeats 40000000
structure Stands (L:List Int) (x:Tok):Prop where
 o:x.o<L.length
 len:x.t.length≤L.length-x.o
 text:(L.drop x.o).take x.t.length=x.t
 name:(x.k==1)=T.isName x.t
 lit:(x.k==2)=T.isLit x.t
 bytes:K.Bytes x.t
theorem ze0 (L:List Int) (hL:K.Bytes L) (k:Nat) (hk:k<L.length) (x:T.P3) (hf:T.Fine (L.drop k) x) (he:x.2.2=0):Stands L ⟨x.1,bB x.1 ((L.drop k).take x.2.1),k⟩:=by
 obtain⟨xk,xn,xe⟩:=x
 obtain⟨h1,_,_,_,_,_⟩:=hf
 obtain⟨h2,h3,h4,h5⟩:=h1 he
 simp only at h2 h3 h4 h5
 rw[List.length_drop]at h3
 have hlen:((L.drop k).take xn).length=xn:=by rw[List.length_take,List.length_drop];omega
 by_cases hk1:xk=1
 ·subst hk1
  have hn:=h4 rfl
  have e:bB 1 ((L.drop k).take xn)=(L.drop k).take xn:=by simp[bB]
  refine⟨hk,?_,?_,?_,?_,?_⟩
  ·simp only;rw[e,hlen];exact h3
  ·simp only;rw[e,hlen]
  ·simp only;rw[e,hn];rfl
  ·simp only;rw[e,T.name_lit _ hn];rfl
  ·simp only;rw[e];exact(hL.drop k).take xn
 ·by_cases hk2:xk=2
  ·subst hk2
   have hn:=h5 rfl
   have e:bB 2 ((L.drop k).take xn)=(L.drop k).take xn:=by simp[bB]
   have hnn:T.isName ((L.drop k).take xn)=false:=by
    rcases hq:T.isName ((L.drop k).take xn) with _|_
    ·rfl
    ·have:=T.name_lit _ hq;rw[hn]at this;cases this
   refine⟨hk,?_,?_,?_,?_,?_⟩
   ·simp only;rw[e,hlen];exact h3
   ·simp only;rw[e,hlen]
   ·simp only;rw[e,hnn];rfl
   ·simp only;rw[e,hn];rfl
   ·simp only;rw[e];exact(hL.drop k).take xn
  ·have e:bB xk ((L.drop k).take xn)=[]:=by unfold bB;rw[if_neg (by omega)]
   refine⟨hk,?_,?_,?_,?_,?_⟩
   ·simp only;rw[e];simp
   ·simp only;rw[e];simp
   ·simp only;rw[e,beq_eq_false_iff_ne.2 hk1];rfl
   ·simp only;rw[e,beq_eq_false_iff_ne.2 hk2];rfl
   ·simp only;rw[e];exact K.Bytes.nil
def zgL (L:List Int) (k:Nat) (xs:List Tok):Prop:=(∀x∈xs,Stands L x∧x.o<k)∧xs.Pairwise (fun a b=>a.o<b.o)
theorem zdr (L:List Int) (hL:K.Bytes L):∀(f k m:Nat) (acc xs:List Tok),k≤L.length→zgL L k acc→ze2 f (L.drop k) k m acc=.ok xs→zgL L L.length xs
 | 0,k,m,acc,xs,hk,hr,h=>by
  injection h with h
  subst h
  exact⟨fun x hx=>⟨(hr.1 x hx).1,(hr.1 x hx).1.o⟩,hr.2⟩
 | f+1,k,m,acc,xs,hk,hr,h=>by
  by_cases he:(L.drop k).length=0∨m=2
  ·rw[zej _ _ _ _ _ he]at h
   injection h with h
   subst h
   exact⟨fun x hx=>⟨(hr.1 x hx).1,(hr.1 x hx).1.o⟩,hr.2⟩
  ·have hlt:k<L.length:=by rw[List.length_drop]at he;omega
   have hf:=T.piece_fine (L.drop k) (by rw[List.length_drop];omega) (hL.drop k)
   by_cases hb:(T.piece (L.drop k)).2.2=0
   ·rw[zfI _ _ _ _ _ he hb]at h
    obtain⟨hn1,hn2,_,_⟩:=hf.1 hb
    rw[List.length_drop]at hn2
    rw[List.drop_drop]at h
    refine zdr L hL f _ _ _ xs (by omega) ?_ h
    unfold more
    split
    ·exact⟨fun x hx=>⟨(hr.1 x hx).1,by have:=(hr.1 x hx).2;omega⟩,hr.2⟩
    ·refine⟨fun x hx=>?_,?_⟩
     ·rcases List.mem_append.1 hx with h1|h1
      ·exact⟨(hr.1 x h1).1,by have:=(hr.1 x h1).2;omega⟩
      ·rw[List.mem_singleton]at h1
       subst h1
       exact⟨ze0 L hL k hlt _ hf hb,by simp only;omega⟩
     ·rw[List.pairwise_append]
      refine⟨hr.2,List.pairwise_singleton _ _,fun a ha b hb'=>?_⟩
      rw[List.mem_singleton]at hb'
      subst hb'
      exact(hr.1 a ha).2
   ·rw[zek _ _ _ _ _ he hb]at h
    cases h
theorem zfw (L:List Int) (hL:K.Bytes L) (xs:List Tok) (h:zh7 L=.ok xs):zgL L L.length xs :=
 zdr L hL _ 0 0 [] xs (Nat.zero_le _) ⟨fun x hx=>by simp at hx,List.Pairwise.nil⟩ (by simpa[zh7] using h)
theorem zgL.lt {L:List Int} {k:Nat} {xs:List Tok} (h:zgL L k xs) (i j:Nat) (hij:i<j) (hj:j<xs.length):xs[i].o<xs[j].o :=
 List.pairwise_iff_getElem.1 h.2 i j (by omega) hj hij
theorem zgL.at {L:List Int} {k:Nat} {xs:List Tok} (h:zgL L k xs) (i:Nat) (hi:i<xs.length):Stands L xs[i]:=(h.1 _ (List.getElem_mem hi)).1
theorem zgL.ge {L:List Int} {k:Nat} {xs:List Tok} (h:zgL L k xs):∀(i:Nat) (hi:i<xs.length),i≤xs[i].o
 | 0,_=>Nat.zero_le _
 | i+1,hi=>by
  have h1:=h.ge i (by omega)
  have h2:=h.lt i (i+1) (by omega) hi
  omega
theorem zgL.count {L:List Int} {k:Nat} {xs:List Tok} (h:zgL L k xs):xs.length≤L.length:=by
 rcases Nat.eq_zero_or_pos xs.length with h0|h0
 ·omega
 ·have h1:=h.ge (xs.length-1) (by omega)
  have h2:=(h.at (xs.length-1) (by omega)).o
  omega
end Go.Proofs.YtabmfpgpkbndeaaGreat
