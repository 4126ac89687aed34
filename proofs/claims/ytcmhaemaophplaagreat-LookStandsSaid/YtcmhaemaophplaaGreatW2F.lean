/- Part of the proofs over this program: TrimReach, TrimRef, YaccW, LexToks, YaccRd, YaccP, Ref8R, YaccSource, YaccOf, ScanL, Ref7, YaccList. -/
import Derived.Deep.DeepCutAuto
import Derived.Defers
import Derived.Recover
import Derived.Test.YtcmhaemaophplaaGreatW2E
set_option linter.all false
namespace Go
def B4:=@And.intro
def Eh:=@Go.RowKit.Below.setCell
def CX:=@List.getElem?_take_of_lt
def Cj:=@Go.bodyPost_ret
def DP:=@List.drop_drop
def Et:=@List.drop_length
end Go
set_option maxRecDepth 100000
set_option maxHeartbeats 40000000
variable {A:Option Go.Addr} {B B' base base' f g i k m n px py:Nat} {G:Go.Proofs.YtcmhaemaophplaaGreat.Gm.Gr} {cs:Array Go.Value} {ds:List Go.Proofs.YtcmhaemaophplaaGreat.Y.Dcl} {ops:Array Go.Oper} {r:List Int} {rs:List Go.Proofs.YtcmhaemaophplaaGreat.Gm.Rl} {tm:Bool} {v:Go.Value} {w w':Go.World} {x:Go.Proofs.YtcmhaemaophplaaGreat.Gm.Rl} {xs:List Go.Value} {z:Int}
namespace Go.Proofs.YtcmhaemaophplaaGreat
open Go.RowKit
def Gm.brR (p is:List Bool) (x:Gm.Rl):List Int:=if is.getD x.l.toNat false=true/\Gm.allB true p x.r=true then Gm.nts x.r else []
theorem zfX (x:Gm.Rl) (is p:List Bool) (A A1 A2:Option Addr) (c c1 c2 B B1 B2 gk gp:Nat) (w:World) (ag:w.cell? ⟨gk,0,none⟩=some (.slice A1 is.length c1)) (ac:w.cell? ⟨gp,0,none⟩=some (.slice A2 p.length c2)) (hr:RdI w B A x.r) (h1:RdO w B1 A1 is) (h2:RdO w B2 A2 p) (hB:B<=w.heap.size) (aa:B2<=w.heap.size) (ab:∀z∈x.r,Gm.In z) (hs:∀z∈x.r,z<0->-1-z<(p.length:Int)) (hx:0<=x.l/\x.l<is.length) (hl:x.r.length<=1000000) :
  Calls Tryz.prog 163 #[.agg #[.int .i64 x.l,.slice A x.r.length c,.int .i64 x.p],.pointer (some ⟨gk,0,none⟩),.pointer (some ⟨gp,0,none⟩)] w fun e w'=>∃v,e=.returned v/\aS w' w.heap.size v (Gm.brR p is x)/\Below w.heap.size w w':=by
 have HA:=aA (fun o=>(AB w.heap.size w).alloc (Af _) o);have ad:=aA (fun(y:World) (h:Below w.heap.size w y)=>zfa x A c B y (hr.below h hB) ab (Am hB h.size) hl);have i:=aA (fun(y:World) (h:Below w.heap.size w y)=>zaY x p A A2 c c2 w.heap.size y ((hr.below h hB).more hB) ab hs ((h2.below h aa).more aa) h.size hl);have HE:Hid (Gm.brR p is x=if is.getD x.l.toNat false=true/\Gm.allB true p x.r=true then Gm.nts x.r else []):=aA rfl;obtain⟨l,r,q⟩:=x;obtain⟨m,rfl⟩:∃m:Nat,l=(m:Int):=⟨l.toNat,by have:=hx.1;simp only at this;omega⟩
 simp only[BP]at HE hx ad i ⊢;obtain⟨g,o,rfl,aj,hc⟩:=h1 (by omega);have hm:m<is.length:=by omega
 have ak:(m:Int)<(is.length:Int):=by omega
 have k0:=hc m hm;have al:=Bi ag;have am:=Bi ac;have ao:=Bi k0;have ap:=aA ac;generalize is.getD m false=b at *;clear hr h1 h2 hB aa ab hs hx hl hc;cases b
 ·have HX:=aA (HE.o.trans (AG (by simp)));clear HE
  go_enter Tryz.func163,Tryz.ntmps163
  go_wp2;go_ret
  exact⟨_,rfl,by rw[HX.o];exact aS.nil _ _,HA.o _⟩
 ·cases ha:Gm.allB true p r
  ·have HX:=aA (HE.o.trans (AG (by rw[ha];simp)));rw[ha]at i;clear HE ha
   go_enter Tryz.func163,Tryz.ntmps163
   go_wp2_with fail
   refine(i.o _ (HA.o _)).mono ?_;rintro _ w2 ⟨rfl,d⟩;have f:=aA ((HA.o (.cells #[.int .i64 m,.slice A r.length c,.int .i64 q] 48)).trans (d.mono (by simp)));clear d;go_wp2;go_ret
   exact⟨_,rfl,by rw[HX.o];exact aS.nil _ _,f.o⟩
  ·have HX:=aA (HE.o.trans (Az ⟨rfl,ha⟩));rw[ha]at i;clear HE ha
   go_enter Tryz.func163,Tryz.ntmps163
   go_wp2_with fail
   refine(i.o _ (HA.o _)).mono ?_;rintro _ w2 ⟨rfl,d⟩;have f:=aA ((HA.o (.cells #[.int .i64 m,.slice A r.length c,.int .i64 q] 48)).trans (d.mono (by simp)));have hb:=(d.block w.heap.size (by simp)).trans (AE w _);have d0:=AD w2 _ 0 _ _ _ hb;have d1:=AD w2 _ 1 _ _ _ hb;have d2:=AD w2 _ 2 _ _ _ hb;have ld:=(Ad.1 hb).1;clear d hb;go_wp2_with fail
   refine(ad.o _ f.o).mono ?_;rintro _ w3 ⟨v,rfl,ae,af⟩;have ah:=aA (ae.mono f.o.size);have ai:=aA (f.o.trans (af.mono f.o.size));clear ae af;go_wp2;go_ret
   exact⟨_,rfl,by rw[HX.o];exact ah.o,ai.o⟩
theorem zkp (w:World) (t:TypeId) (ht:Tryz.prog.underlying t=some (.slice 4)) (n:Nat) (hn:n<=35184372088832) :
  ∃w',(Instr.makeSlice t (.int .i64 n) (.int .i64 n)).run Tryz.prog w=.ok (.slice (some ⟨w.heap.size,0,none⟩) n n) w'/\UBO w' w.heap.size (List.replicate n false)/\Below w.heap.size w w':=by
 obtain⟨i,hi,ac,ad,ae⟩:=Cv zmq;obtain⟨w',ab,aa,b⟩:=run_make_full (P:=Tryz.prog) w w.heap.size t 4 i (.bool false) 1 ht hi ac ad .i64 .i64 n (by rw[ae];omega) (by unfold maxLen;omega) (Af _);refine⟨w',ab,?_,⟨b.os,b.tape,b.output,b.size,fun k hk=>b.block k hk (by simp)⟩⟩;refine zb5 (base:=w.heap.size) (n:=n) ?_;rw[zbh]
 have e:(madeCells (Value.bool false).cells (n*1)).toList=List.replicate n (Value.bool false):=by
  rw[D6];exact DT _ _
 rw[e]at aa;exact aa
theorem zl0 {o:Oper} {a:Act} {K:Act->World->Prop} {Q:Exit->Act->World->Prop} (l c:Operand) (t:TypeId) (ab:o.op=Op.makeSlice t l c) (ht:Tryz.prog.underlying t=some (.slice 4)) (n:Nat) (hl:a.eval l=.int .i64 n) (hc:a.eval c=.int .i64 n) (hn:n<=35184372088832) (hK:∀w',UBO w' w.heap.size (List.replicate n false)->Below w.heap.size w w'->K (a.put o.dst (.slice (some ⟨w.heap.size,0,none⟩) n n)) w'):Oper.wp Tryz.prog o a w K Q:=by
 obtain⟨w',aa,h1,h2⟩:=zkp w t ht n hn;unfold Oper.wp;simp[execOp,ab,hl,hc,aa,Result.andThen];exact hK w' h1 h2
structure JR (w2:World) (n:Nat) (row:List Bool) (todo:List Nat) (wx:World) (x3 x5 x6 x7:Value) (g3 g5 c6 c7:Nat):Prop where
 t:∀k∈todo,k=3\/k=5\/k=6\/k=7
 b:Below w2.heap.size w2 wx
 h3:3 ∉ todo->x3=.slice (some ⟨g3,0,none⟩) n n/\w2.heap.size<=g3/\UBO wx g3 (List.replicate n false)
 h5:5 ∉ todo->x5=.slice (some ⟨g5,0,none⟩) n n/\w2.heap.size<=g5/\UBO wx g5 row
 h6:6 ∉ todo->x6=.pointer (some ⟨c6,0,none⟩)/\w2.heap.size<=c6/\wx.heap[c6]?=some (.cells #[.slice none 0 0] 43 (0,0))
 h7:7 ∉ todo->x7=.pointer (some ⟨c7,0,none⟩)/\w2.heap.size<=c7/\wx.heap[c7]?=some (.cells #[.slice none 0 0] 43 (0,0))
 d35:3 ∉ todo->5 ∉ todo->g3≠g5
 d67:6 ∉ todo->7 ∉ todo->c6≠c7
section
variable {w2 wx w':World} {n:Nat} {row:List Bool} {todo:List Nat} {x3 x5 x6 x7:Value} {g3 g5 c6 c7:Nat}
theorem aD {l:List Nat} {j:Nat} (h:j ∉ l.erase k) (aa:j≠k):j ∉ l:=fun hm=>h ((List.mem_erase_of_ne aa).2 hm)
theorem aC {o:Obj} (hb:Below wx.heap.size wx w') (h:wx.heap[g]?=some o):w'.heap[g]?=some o:=(hb.block g (Ad.1 h).1).trans h
theorem JR.put3 (h:JR w2 n row todo wx x3 x5 x6 x7 g3 g5 c6 c7) (hb:Below wx.heap.size wx w') (hu:UBO w' wx.heap.size (List.replicate n false)):JR w2 n row (todo.erase 3) w' (.slice (some ⟨wx.heap.size,0,none⟩) n n) x5 x6 x7 wx.heap.size g5 c6 c7 where
 t k hk:=h.t k (Bp hk)
 b:=h.b.trans (hb.mono h.b.size)
 h3 _:=⟨rfl,h.b.size,hu⟩
 h5 q:=by obtain⟨a1,a2,a3⟩:=h.h5 (aD q (by decide));exact⟨a1,a2,aC hb a3⟩
 h6 q:=by obtain⟨a1,a2,a3⟩:=h.h6 (aD q (by decide));exact⟨a1,a2,aC hb a3⟩
 h7 q:=by obtain⟨a1,a2,a3⟩:=h.h7 (aD q (by decide));exact⟨a1,a2,aC hb a3⟩
 d35 _ q:=by have:=UBO.lt (h.h5 (aD q (by decide))).2.2;omega
 d67 q1 q2:=h.d67 (aD q1 (by decide)) (aD q2 (by decide))
theorem JR.put5 (h:JR w2 n row todo wx x3 x5 x6 x7 g3 g5 c6 c7) (hb:Below wx.heap.size wx w') (hg:wx.heap.size<=g) (hu:UBO w' g row):JR w2 n row (todo.erase 5) w' x3 (.slice (some ⟨g,0,none⟩) n n) x6 x7 g3 g c6 c7 where
 t k hk:=h.t k (Bp hk)
 b:=h.b.trans (hb.mono h.b.size)
 h5 _:=⟨rfl,Am h.b.size hg,hu⟩
 h3 q:=by obtain⟨a1,a2,a3⟩:=h.h3 (aD q (by decide));exact⟨a1,a2,aC hb a3⟩
 h6 q:=by obtain⟨a1,a2,a3⟩:=h.h6 (aD q (by decide));exact⟨a1,a2,aC hb a3⟩
 h7 q:=by obtain⟨a1,a2,a3⟩:=h.h7 (aD q (by decide));exact⟨a1,a2,aC hb a3⟩
 d35 q _:=by have:=UBO.lt (h.h3 (aD q (by decide))).2.2;omega
 d67 q1 q2:=h.d67 (aD q1 (by decide)) (aD q2 (by decide))
theorem JR.put6 (h:JR w2 n row todo wx x3 x5 x6 x7 g3 g5 c6 c7):JR w2 n row (todo.erase 6) (wx.alloc (.cells #[.slice none 0 0] 43)) x3 x5 (.pointer (some ⟨wx.heap.size,0,none⟩)) x7 g3 g5 wx.heap.size c7 where
 t k hk:=h.t k (Bp hk)
 b:=h.b.alloc h.b.size _
 h6 _:=⟨rfl,h.b.size,AE wx _⟩
 h3 q:=by obtain⟨a1,a2,a3⟩:=h.h3 (aD q (by decide));exact⟨a1,a2,a3.alloc _⟩
 h5 q:=by obtain⟨a1,a2,a3⟩:=h.h5 (aD q (by decide));exact⟨a1,a2,a3.alloc _⟩
 h7 q:=by obtain⟨a1,a2,a3⟩:=h.h7 (aD q (by decide));exact⟨a1,a2,aC ((AB _ _).alloc (Af _) _) a3⟩
 d35 q1 q2:=h.d35 (aD q1 (by decide)) (aD q2 (by decide))
 d67 _ q:=by have:=(Ad.1 (h.h7 (aD q (by decide))).2.2).1;omega
theorem JR.put7 (h:JR w2 n row todo wx x3 x5 x6 x7 g3 g5 c6 c7):JR w2 n row (todo.erase 7) (wx.alloc (.cells #[.slice none 0 0] 43)) x3 x5 x6 (.pointer (some ⟨wx.heap.size,0,none⟩)) g3 g5 c6 wx.heap.size where
 t k hk:=h.t k (Bp hk)
 b:=h.b.alloc h.b.size _
 h7 _:=⟨rfl,h.b.size,AE wx _⟩
 h3 q:=by obtain⟨a1,a2,a3⟩:=h.h3 (aD q (by decide));exact⟨a1,a2,a3.alloc _⟩
 h5 q:=by obtain⟨a1,a2,a3⟩:=h.h5 (aD q (by decide));exact⟨a1,a2,a3.alloc _⟩
 h6 q:=by obtain⟨a1,a2,a3⟩:=h.h6 (aD q (by decide));exact⟨a1,a2,aC ((AB _ _).alloc (Af _) _) a3⟩
 d35 q1 q2:=h.d35 (aD q1 (by decide)) (aD q2 (by decide))
 d67 q _:=by have:=(Ad.1 (h.h6 (aD q (by decide))).2.2).1;omega
end
theorem Gm.brR_in (aa:Gm.Ok G) {s:List Bool} (hx:x∈G.rs) (hd:∀i:Nat,s.getD i false=true->Gm.Rc G (i:Int)) {m:Int} (hm:m∈Gm.brR (Gm.gn true G.rs G.ns.length) s x):0<=m/\m<G.ns.length/\Gm.Rc G m:=by
 unfold Gm.brR at hm;split at hm
 ·rename_i h
  obtain⟨h1,h2⟩:=Gm.nts_mem.1 hm;have h3:=aa.sin x hx _ h1 (by omega);have h4:=hd _ h.1;rw[Bq (aa.lin x hx).1]at h4;have h5:=Gm.Rc.on x hx h4 ((Gm.allB_gn aa.lin _).1 h.2) _ h1 (by omega);rw[show -1-(-1-m)=m by omega]at h5 h3;exact⟨h2,h3,h5⟩
 ·simp at hm
theorem Gm.brR_len (p s:List Bool) (x:Gm.Rl) (h:x.r.length<=6):(Gm.brR p s x).length<=1000000:=by
 unfold Gm.brR;split
 ·have:=Gm.nts_len x.r;omega
 ·simp
theorem Gm.rc_of (aa:Gm.Ok G) {s:List Bool} (hl:s.length=G.ns.length) (hd:∀i:Nat,s.getD i false=true->Gm.Rc G (i:Int)) (ab:Gm.Le ((List.replicate G.ns.length false).set G.st.toNat true) s) (hc:∀x∈G.rs,∀m∈Gm.brR (Gm.gn true G.rs G.ns.length) s x,s.getD m.toNat false=true):s=Gm.rc G:=by
 refine Gm.rc_row hl hd ⟨ab.get _ (Gm.set_getD _ _ (by have:=aa.s0;have:=aa.s1;simp;omega)),fun x hx h1 h2 z hz hn=>?_⟩;refine hc x hx (-1-z) ?_;unfold Gm.brR;rw[Az ⟨h1,(Gm.allB_gn aa.lin _).2 h2⟩];exact Gm.nts_mem.2 ⟨by rw[show -1-(-1-z)=z by omega];exact hz,by omega⟩
theorem Gm.st_snd (aa:Gm.Ok G) (i:Nat) (h:((List.replicate G.ns.length false).set G.st.toNat true).getD i false=true):Gm.Rc G (i:Int):=by
 rcases Gm.getD_set _ _ _ h with h1|h1
 ·rw[Ap,Cy]at h1;split at h1 <;> cases h1
 ·rw[h1,Bq aa.s0];exact .st
theorem zdc (v:Value) (G:Gm.Gr) (B:Nat) (w:World) (hg:aR w B v G) (hf:Gm.Fit G) (hB:B<=w.heap.size) :
  Calls Tryz.prog 140 #[v] w (zjz (Gm.right G) (Gm.rc G) w):=by
 have H1:=aA (fun(x:World) (h:Below w.heap.size w x)=>zaO v G B x (hg.below h hB) hf (Am hB h.size));have H2:=aA (fun(x:World) (h:Below w.heap.size w x)=>zaJ v G B x (hg.below h hB) hf (Am hB h.size));have bu:=aA (fun(x:World) (h:Below w.heap.size w x)=>hg.below h hB);obtain⟨AT,cT,AN,cN,AR,cR,rfl,_,⟨bv,bw⟩,_,_,_,hR⟩:=hg;have N:=aA (One.start w #[.slice AT G.ts.length cT,.slice AN G.ns.length cN,.slice AR G.rs.length cR,.int .i64 G.st]);have bl:=aA hR;have HB:=aA hB;have bm:=aA hf;clear hf hR hB;cases q:Gm.right G
 ·rw[q]at H1;clear q H2
  go_enter Tryz.func140,Tryz.ntmps140
  go_wp2_with fail
  refine(H1.o _ N.o.below).mono ?_;rintro _ w2 ⟨rfl,hb⟩;have A:=aA (N.o.on hb);clear hb;go_wp2;go_ret
  exact⟨fun h=>by simp at h,fun _=>⟨rfl,A.o.below⟩⟩
 ·have D:=aA (Gm.right_ok.1 q);have HN:Hid (G.ns.length<=40):=aA (by have:=(Gm.nons_iff G).1 D.o.n;omega);have aq:Hid (G.rs.length<=40):=aA D.o.r40;have H2:=aA (fun x h=>(show Calls _ _ _ _ (zgz _ _) from(H2.o x h).mono fun e w' k=>k.1 q));rw[q]at H1;clear q;have bx:=HN.o;have bo:(G.ns.length:Int)<=9223372036854775807:=by omega
  go_enter Tryz.func140,Tryz.ntmps140
  go_upto_region 3 with fail
  refine(H1.o _ N.o.below).mono ?_;rintro _ w2 ⟨rfl,hb⟩;have A:=aA (N.o.on hb);clear hb;go_upto_region 3 with fail
  have ax:Hid (Below w.heap.size w w2):=aA A.o.below;have bz:=aA ((DV A.o w.heap.size (by omega)).trans (AE w _));have C:w.heap.size<w2.heap.size:=A.o.size;obtain⟨T,hT⟩:∃x,x=Gm.gn true G.rs G.ns.length:=⟨_,rfl⟩
  have ar:Hid (T.length=G.ns.length):=aA (by rw[hT,Gm.gn_len]);rw[<-hT]at H2;have HT:=aA hT;clear hT;have H3:=aA (fun(x:World) (h:Below w2.heap.size w2 x)=>H2.o x (ax.o.trans (h.mono (CN C))));have q0:=fun y:Calm.On w2.heap.size w2=>(y.2.cell (p:=⟨w.heap.size,0,none⟩) C).trans (A.o.c 0 _ rfl);have q1:=fun y:Calm.On w2.heap.size w2=>(y.2.cell (p:=⟨w.heap.size,1,none⟩) C).trans (A.o.c 1 _ rfl);have q2:=fun y:Calm.On w2.heap.size w2=>(y.2.cell (p:=⟨w.heap.size,2,none⟩) C).trans (A.o.c 2 _ rfl);have q3:=fun y:Calm.On w2.heap.size w2=>(y.2.cell (p:=⟨w.heap.size,3,none⟩) C).trans (A.o.c 3 _ rfl);clear H1 N H2
  refine CalmN.region_all (fun x=>∃y:Calm.On w2.heap.size w2,x=y.1) [0,1,2,4] [3,5,6,7] (.one [] 8 (.one [] 9 (.fin [])))
   (fun todo a wx=>∃x3 x5 x6 x7 g3 g5 c6 c7,a = {tmps:=#[.agg #[.slice AT G.ts.length cT,.slice AN G.ns.length cN,.slice AR G.rs.length cR,.int .i64 G.st],.pointer (some ⟨w.heap.size,0,none⟩),.slice none 0 0,x6,x7,.agg #[.slice AT G.ts.length cT,.slice AN G.ns.length cN,.slice AR G.rs.length cR,.int .i64 G.st],.bool true,.bool false,.pointer (some ⟨w.heap.size,1,none⟩),.slice AN G.ns.length cN,.int .i64 G.ns.length,x3,.agg #[.slice AT G.ts.length cT,.slice AN G.ns.length cN,.slice AR G.rs.length cR,.int .i64 G.st],x5,undef,undef,undef,undef,undef,undef,undef,undef,undef,undef],defers:=[]}/\JR w2 G.ns.length T todo wx x3 x5 x6 x7 g3 g5 c6 c7)
   (by kernel_rfl) (by kernel_rfl) (fun _ _ d _ _ h=>by cases d <;> exact h) ⟨⟨w2.drew,aB (AB _ _) 1⟩,rfl⟩ ?_ ?_ ?_
  ·simp only[CalmN.pickOps,Aw,Ah,Aj];repeat (go_big_quiet_step (fail))
   refine Aq ?_;exact⟨undef,undef,undef,undef,0,0,0,0,rfl,⟨by simp,aB (AB _ _) 1,fun h=>absurd (by simp) h,fun h=>absurd (by simp) h,fun h=>absurd (by simp) h,fun h=>absurd (by simp) h,fun h=>absurd (by simp) h,fun h=>absurd (by simp) h⟩⟩
  ·intro todo k a wx hk hJ hS;obtain⟨x3,x5,x6,x7,g3,g5,c6,c7,rfl,hJ⟩:=hJ;have HJ:=aA hJ;have ae:=hJ.t k hk;clear hJ hS hk q0 q1 q2 q3;rcases ae with rfl|rfl|rfl|rfl
   ·simp only[CalmN.wpSt,Aw,Ah,Aj];intro KK j;rw[Az (by rfl)];refine zl0 (.tmp 10) (.tmp 10) _ rfl Tryz.underlying43 G.ns.length rfl rfl (by omega) ?_;intro w' hu hb;have hj:=HJ.o.put3 hb hu;exact j _ _ ⟨⟨w',hj.b⟩,rfl⟩ _ (fun _ h=>h) ⟨⟨w',hj.b⟩,rfl⟩ ⟨_,x5,x6,x7,_,g5,c6,c7,rfl,hj⟩
   ·simp only[CalmN.wpSt,Aw,Ah,Aj];intro KK j;rw[Az (by rfl)];go_wp2_with fail
    refine(H3.o wx HJ.o.b).mono ?_;rintro _ w' ⟨g,rfl,hg,hu,hb⟩;have hj:=HJ.o.put5 hb hg hu;go_wp2_with fail
    rw[ar.o];exact j _ _ ⟨⟨w',hj.b⟩,rfl⟩ _ (fun _ h=>h) ⟨⟨w',hj.b⟩,rfl⟩ ⟨x3,_,x6,x7,g3,_,c6,c7,rfl,hj⟩
   ·simp only[CalmN.wpSt,Aw,Ah,Aj];intro KK j;rw[Az (by rfl)];have hj:=HJ.o.put6;go_wp2_with fail
    exact j _ _ ⟨⟨_,hj.b⟩,rfl⟩ _ (fun _ h=>h) ⟨⟨_,hj.b⟩,rfl⟩ ⟨x3,x5,_,x7,g3,g5,_,c7,rfl,hj⟩
   ·simp only[CalmN.wpSt,Aw,Ah,Aj];intro KK j;rw[Az (by rfl)];have hj:=HJ.o.put7;go_wp2_with fail
    exact j _ _ ⟨⟨_,hj.b⟩,rfl⟩ _ (fun _ h=>h) ⟨⟨_,hj.b⟩,rfl⟩ ⟨x3,x5,x6,_,g3,g5,c6,_,rfl,hj⟩
  ·intro a wx hJ hS;obtain⟨x3,x5,x6,x7,g3,g5,c6,c7,rfl,hJ⟩:=hJ;obtain⟨rfl,ai,f⟩:=hJ.h3 (by simp);obtain⟨rfl,ay,i⟩:=hJ.h5 (by simp);obtain⟨rfl,az,F⟩:=hJ.h6 (by simp);obtain⟨rfl,a0,aj⟩:=hJ.h7 (by simp);have af:=hJ.d35 (by simp) (by simp);have au:=hJ.d67 (by simp) (by simp);have a1:=hJ.b;clear hS q0 q1 q2 q3;have aa:g3≠c6:=fun e=>by subst e;unfold UBO at f;rw[F]at f;injection f with f;injection f with _ f;cases f
   have ab:g5≠c6:=fun e=>by subst e;unfold UBO at i;rw[F]at i;injection i with i;injection i with _ i;cases i
   have ac:g3≠c7:=fun e=>by subst e;unfold UBO at f;rw[aj]at f;injection f with f;injection f with _ f;cases f
   have ad:g5≠c7:=fun e=>by subst e;unfold UBO at i;rw[aj]at i;injection i with i;injection i with _ i;cases i
   have l6:=(Ad.1 F).1;have f6:=AH wx _ 0 _ _ F;have k6:=AD wx _ 0 _ _ _ F;obtain⟨wy,H⟩:∃y,y=wx.setCell ⟨c6,0,none⟩ (.slice (some ⟨g3,0,none⟩) G.ns.length G.ns.length):=⟨_,rfl⟩
   have ak:Below w2.heap.size w2 wy:=by rw[H];exact a1.setCell (p:=⟨c6,0,none⟩) az _
   have a2:UBO wy g3 (List.replicate G.ns.length false):=by rw[H];exact UBO.far f aa _
   have a3:UBO wy g5 T:=by rw[H];exact UBO.far i ab _
   have O:wy.heap[c7]?=some (.cells #[.slice none 0 0] 43 (0,0)):=by rw[H];exact(AP wx ⟨c6,0,none⟩ _ c7 (by simp only;omega)).trans aj
   have a4:wy.heap[c6]?=some (.cells #[.slice (some ⟨g3,0,none⟩) G.ns.length G.ns.length] 43 (0,0)):=by rw[H];exact AW wx c6 0 _ _ _ F
   clear f i F aj hJ a1;simp only[CalmN.wpT,CalmN.wpSt,CalmN.pickOps,Aw,Ah,Aj];refine Aq ?_;intro KK j;rw[Az (by rfl)];go_wp2_with fail
   rw[<-H];refine j _ _ ⟨⟨wy,ak⟩,rfl⟩ _ (fun _ h=>h) ⟨⟨wy,ak⟩,rfl⟩ ?_;clear j k6 f6 l6 H;have l7:=(Ad.1 O).1;have f7:=AH wy _ 0 _ _ O;have k7:=AD wy _ 0 _ _ _ O;obtain⟨wz,I⟩:∃y,y=wy.setCell ⟨c7,0,none⟩ (.slice (some ⟨g5,0,none⟩) G.ns.length G.ns.length):=⟨_,rfl⟩
   have E:Below w2.heap.size w2 wz:=by rw[I];exact ak.setCell (p:=⟨c7,0,none⟩) a0 _
   have U:UBO wz g3 (List.replicate G.ns.length false):=by rw[I];exact UBO.far a2 ac _
   have a5:UBO wz g5 T:=by rw[I];exact UBO.far a3 ad _
   have al:wz.heap[c6]?=some (.cells #[.slice (some ⟨g3,0,none⟩) G.ns.length G.ns.length] 43 (0,0)):=by rw[I];exact(AP wy ⟨c7,0,none⟩ _ c6 (by simp only;omega)).trans a4
   have a6:wz.heap[c7]?=some (.cells #[.slice (some ⟨g5,0,none⟩) G.ns.length G.ns.length] 43 (0,0)):=by rw[I];exact AW wy c7 0 _ _ _ O
   clear a2 a3 a4 O ak;refine Aq ?_;intro KK j;rw[Az (by rfl)];go_wp2_with fail
   rw[<-I];refine j _ _ ⟨⟨wz,E⟩,rfl⟩ _ (fun _ h=>h) ⟨⟨wz,E⟩,rfl⟩ ?_;clear j k7 f7 l7 I;refine Aq ?_;have r2:=(E.cell (p:=⟨w.heap.size,2,none⟩) C).trans (A.o.c 2 _ rfl);have r3:=(E.cell (p:=⟨w.heap.size,3,none⟩) C).trans (A.o.c 3 _ rfl);have bp:=D.o.s0;have ag:=D.o.s1;obtain⟨m,hm⟩:∃m:Nat,G.st=(m:Int):=⟨G.st.toNat,by omega⟩
   have HM:=aA hm;rw[hm]at r3 ag;have k3:=U.cell m (by simp;omega);have f3:=U.frozen m;have l3:=U.lt;have k6:=AD wz _ 0 _ _ _ al;have l6:=(Ad.1 al).1;have ld:w.heap.size<wz.heap.size:=Ag C E.size;obtain⟨wv,J⟩:∃y,y=wz.setCell ⟨g3,m,none⟩ (.bool true):=⟨_,rfl⟩
   have am:Below w2.heap.size w2 wv:=by rw[J];exact E.setCell (p:=⟨g3,m,none⟩) ai _
   have a9:UBO wv g3 ((List.replicate G.ns.length false).set m true):=by rw[J];exact U.set_ m true
   have ba:UBO wv g5 T:=by rw[J];exact UBO.far a5 (by simp only;omega) _
   have bb:wv.heap[c6]?=some (.cells #[.slice (some ⟨g3,0,none⟩) G.ns.length G.ns.length] 43 (0,0)):=by rw[J];exact(AP wz ⟨g3,m,none⟩ _ c6 (by simp only;omega)).trans al
   have bc:wv.heap[c7]?=some (.cells #[.slice (some ⟨g5,0,none⟩) G.ns.length G.ns.length] 43 (0,0)):=by rw[J];exact(AP wz ⟨g3,m,none⟩ _ c7 (by simp only;omega)).trans a6
   have HD:=aA (B4 aa (B4 ab (B4 ac (B4 ad (B4 af (B4 ai (B4 ay E)))))));clear U a5 al a6 hm aa ab ac ad af au az a0 ay E;go_upto_region 5 with fail
   rw[<-J];have u2:=(am.cell (p:=⟨w.heap.size,2,none⟩) C).trans (A.o.c 2 _ rfl);have u6:=aT bb;have u7:=aT bc;have M:Below w.heap.size w wv:=ax.o.trans (am.mono (CN C));have av:w.heap.size<=w2.heap.size:=CN C;have bd:zec wv B AR G.rs:=bl.o.keep fun g o hg=>M.cell (p:=⟨g,o,none⟩) (Ag hg HB.o);have bf:G.st.toNat=m:=by rw[HM.o];simp
   have bg:B<=g3:=Am (Am HB.o av) ai;have aw:G.ns.length=T.length:=ar.o.symm
   have bh:=aA (zfn 163 c6 c7 (zbd Tryz.func163 (by kernel_rfl) (by kernel_rfl)) G.rs AR cR G.ns.length B g3 G.ns.length wv ((List.replicate G.ns.length false).set G.st.toNat true) (Gm.Rc G) (Gm.brR T)
    bd (Am HB.o M.size) bg (by rw[bf];exact a9) (by simp) (Gm.st_snd D.o) (by have:=aq.o;omega)
    (fun y s x A' c' ao hu hl hx hr=>by
     have e:=bm.o.r x hx;have q2:=zaq ao u6 (fun e=>HD.o.1 e.symm);rw[<-hl]at q2;have q3:=zaq ao u7 (fun e=>HD.o.2.2.1 e.symm);have q5:UBO y g5 T:=ba.grown ao (fun e=>by injection e with e;exact HD.o.2.2.2.2.1 e.symm);rw[aw]at q3;exact zfX x s T A' (some ⟨g3,0,none⟩) (some ⟨g5,0,none⟩) c' s.length T.length B y.heap.size y.heap.size c6 c7 y q2 q3 hr (hu.rd0 hu.lt) (q5.rd0 q5.lt) (Am HB.o (Am M.size ao.size)) (Af _) e.2.2 (fun z hz h=>by rw[<-aw];exact D.o.sin x hx z hz h) (by rw[hl];exact D.o.lin x hx) (by have:=(Gm.rule_in (D.o.rr x hx)).1;omega))
    (fun s x hx hl hd m hm=>by rw[HT.o]at hm;exact Gm.brR_in D.o hx hd hm)
    (fun s x hx=>Gm.brR_len T s x (Gm.rule_in (D.o.rr x hx)).1))
   have bi:=aA (fun(y:World) (h:wv.grownBy y (some g3))=>zaq h u6 (fun e=>HD.o.1 e.symm));have ah:Hid (∀(y:World) (s:List Bool),Grw wv y g3 G.ns.length (Gm.Rc G) ((List.replicate G.ns.length false).set G.st.toNat true) s->(∀x∈G.rs,∀m∈Gm.brR T s x,s.getD m.toNat false=true)->s=Gm.rc G/\Below w.heap.size w y):=aA (fun y s hg hc=>⟨Gm.rc_of D.o hg.l hg.d hg.le (by rw[HT.o]at hc;exact hc),zaa M hg.g (Am av HD.o.2.2.2.2.2.1) M.size⟩);have lv:w.heap.size<wv.heap.size:=Ag C am.size;have l6v:c6<wv.heap.size:=Bi u6;have bq:=aA (Am av HD.o.2.2.2.2.2.1);clear a9 ba bb bc J am u7 bd M bf bg aw r2 r3 k3 f3 l3 k6 l6 ld bp ag ai HD HT ar H3 H2;go_wp2_with fail
   refine bh.o.mono ?_;rintro _ w4 ⟨rfl,s,ap,bj⟩;obtain⟨e4,bk⟩:=ah.o w4 s ap bj;have ck4:=bi.o w4 ap.g;have br:=aA ap.u;have bs:=aA bk;have bD:c6<w4.heap.size:=Bi ck4;clear ap bj bk bh ah bi u6 u2;go_wp2;go_ret
   subst e4;exact⟨fun _=>⟨g3,by rw[Gm.rc_len];rfl,bq.o,br.o,bs.o⟩,fun h=>by simp at h⟩
end Go.Proofs.YtcmhaemaophplaaGreat
namespace Go.Proofs.YtcmhaemaophplaaGreat
open Go.RowKit
theorem Gm.growP_take (h:k<rs.length) (s:List Bool):(rs.take (k+1)).foldl (Gm.grow1 tm) s=Gm.grow1 tm ((rs.take k).foldl (Gm.grow1 tm) s) rs[k]:=by
 rw[AI h,Dt];rfl
theorem Gm.growP_len (tm:Bool) (rs:List Gm.Rl) (s:List Bool):(rs.foldl (Gm.grow1 tm) s).length=s.length:=((Gm.foldl_le _ (Gm.grow1_le tm) rs s).len).symm
theorem zcL (tm:Bool) (v:Value) (G:Gm.Gr) (B:Nat) (w:World) (hg:aR w B v G) (hf:Gm.Fit G) (hB:B<=w.heap.size) :
  Calls Tryz.prog 55 #[v,.bool tm] w (zjz (Gm.right G) (Gm.gn tm G.rs G.ns.length) w):=by
 have H1:=aA (fun(x:World) (h:Below w.heap.size w x)=>zaw v G B x (hg.below h hB) hf (Am hB h.size));obtain⟨AT,cT,AN,cN,AR,cR,rfl,_,⟨a2,a3⟩,⟨a4,a5⟩,_,_,hR⟩:=hg;have k:=aA (One.start w #[.slice AT G.ts.length cT,.slice AN G.ns.length cN,.slice AR G.rs.length cR,.int .i64 G.st]);have aq:=aA hR;have HB:=aA hB;have ar:=aA hf;clear hf hR hB;cases q:Gm.right G
 ·rw[q]at H1;clear q
  go_enter Tryz.func55,Tryz.ntmps55
  go_wp2_with fail
  refine(H1.o _ k.o.below).mono ?_;rintro _ w2 ⟨rfl,hb⟩;have t:=aA (k.o.on hb);clear hb;go_wp2;go_ret
  exact⟨fun h=>by simp at h,fun _=>⟨rfl,t.o.below⟩⟩
 ·have j:=aA (Gm.right_ok.1 q);have HN:Hid (G.ns.length<=40):=aA (by have:=(Gm.nons_iff G).1 j.o.n;omega);have au:Hid (G.rs.length<=40):=aA j.o.r40;rw[q]at H1;clear q;have a6:=HN.o;have av:(G.ns.length:Int)<=9223372036854775807:=by omega
  have af:(G.rs.length:Int)<=9223372036854775807:=by omega
  go_enter Tryz.func55,Tryz.ntmps55
  go_wp2_with fail
  refine(H1.o _ k.o.below).mono ?_;rintro _ w2 ⟨rfl,hb⟩;have t:=aA (k.o.on hb);have q1:=t.o.c 1 _ rfl;have ag:w.heap.size<w2.heap.size:=t.o.size;clear hb;go_upto_region 4 with(at_make;refine zdk rfl (.tmp 13) (.tmp 13) _ rfl Tryz.underlying43 G.ns.length _ _ rfl rfl rfl rfl (by omega) ?_;intro w3 ah ai ab)
  have aj:=aA (t.o.on ai);have ak:=aA ah;have al:Hid (w.heap.size<w2.heap.size):=aA ag;clear ah ai ab q1 ag k H1;go_wp2;go_loopw [6] (fun vn wr=>∃n:Nat,n<=G.ns.length/\vn=.int .i64 n/\Hid (UBO wr w2.heap.size (Gm.times (Gm.growP tm G.rs) n (List.replicate G.ns.length false)))/\Hid (One w #[.slice AT G.ts.length cT,.slice AN G.ns.length cN,.slice AR G.rs.length cR,.int .i64 G.st] wr)) (fun vn _=>G.ns.length-(intOf vn).toNat)
  case atStart=>exact⟨0,AU _,rfl,ak,aj⟩
  case round =>
   obtain⟨n,hn,rfl,HU,HW⟩:=hrel;obtain⟨wo,aw⟩:∃wo:World,wo=wr:=⟨_,rfl⟩
   subst aw;have q1:=HW.o.c 1 _ rfl;have ld:w.heap.size<wo.heap.size:=HW.o.size;clear ak aj;by_cases ax:n<G.ns.length
   ·have ay:Hid ((Gm.times (Gm.growP tm G.rs) n (List.replicate G.ns.length false)).length=G.ns.length):=aA (by have:=(Gm.times_le (f:=Gm.growP tm G.rs) (fun s=>Gm.foldl_le _ (Gm.grow1_le tm) G.rs s) n (List.replicate G.ns.length false)).len;rw[<-this];simp);have az:Hid (Gm.times (Gm.growP tm G.rs) (n+1) (List.replicate G.ns.length false)=G.rs.foldl (Gm.grow1 tm) (Gm.times (Gm.growP tm G.rs) n (List.replicate G.ns.length false))):=aA rfl;generalize Gm.times (Gm.growP tm G.rs) n (List.replicate G.ns.length false)=s at *;go_wp2;go_loopw [7] (fun vi wr=>∃i:Nat,i<=G.rs.length/\vi=.int .i64 i/\Hid (UBO wr w2.heap.size ((G.rs.take i).foldl (Gm.grow1 tm) s))/\Hid (One w #[.slice AT G.ts.length cT,.slice AN G.ns.length cN,.slice AR G.rs.length cR,.int .i64 G.st] wr)) (fun vi _=>G.rs.length-(intOf vi).toNat)
    case atStart=>exact⟨0,AU _,rfl,HU,HW⟩
    case round =>
     clear HU HW q1 ld;obtain⟨i,hi,rfl,HU,HW⟩:=hrel;have q2:=HW.o.c 2 _ rfl;have ld:w.heap.size<wr.heap.size:=HW.o.size;by_cases b:i<G.rs.length
     ·obtain⟨g,o,rfl,am,hc⟩:=aq.o (by omega);obtain⟨k0,⟨A',c',k1,_,_,ao⟩,_⟩:=hc i b;have k0:=(HW.o.below.cell (p:=⟨g,o+i*3,none⟩) (Ag am HB.o)).trans k0;have k1:=(HW.o.below.cell (p:=⟨g,o+i*3+1,none⟩) (Ag am HB.o)).trans k1;have a9:g<wr.heap.size:=by have:=HB.o;omega
      have u:G.rs[i]∈G.rs:=AC b;have e:=ar.o.r _ u;have ac:=aA ((Gm.growP_len tm (G.rs.take i) s).trans ay.o);have aa:=aA (Gm.growP_take (tm:=tm) b s);have ad:=j.o.lin _ u;have d:=zdd G.rs[i].r ((G.rs.take i).foldl (Gm.grow1 tm) s) tm A' (some ⟨w2.heap.size,0,none⟩) c' G.ns.length B wr.heap.size wr (ao.keep fun g o hg=>HW.o.below.cell (p:=⟨g,o,none⟩) (Ag hg HB.o)) e.2.2 (fun z hz h=>by rw[ac.o];exact j.o.sin _ u z hz h) (HU.o.rd0 HU.o.lt) (by have:=(Gm.rule_in (j.o.rr _ u)).1;omega);rw[ac.o]at d;have d:=aA d;have lu:=HU.o.lt;generalize (G.rs.take i).foldl (Gm.grow1 tm) s=cur at *;generalize G.rs[i]=x at *;obtain⟨m,hm⟩:∃m:Nat,x.l=(m:Int):=⟨x.l.toNat,by omega⟩
      have HM:Hid (x.l.toNat=m):=aA (by rw[hm];simp);have ap:m<cur.length:=by rw[ac.o];omega
      have km:=HU.o.cell m ap;have fm:=HU.o.frozen m;rw[hm]at k0 ad;have ba:=ad.2;clear hc ao e u hm ap ad;cases ha:Gm.allB tm cur x.r
      ·rw[ha]at d;have HX:=aA (aa.o.trans (show Gm.grow1 tm cur x=cur by unfold Gm.grow1;rw[AG (by rw[ha];decide)]));clear ha aa;go_wp2_with fail
       refine d.o.mono ?_;rintro _ w4 ⟨rfl,ae⟩;subst ae;go_wp2;go_roundw
       case rel=>exact⟨i+1,b,by go_num,by rw[HX.o];exact HU,HW⟩
       case measure=>simp[intOf];omega
      ·rw[ha]at d;have HX:=aA (aa.o.trans (show Gm.grow1 tm cur x=cur.set m true by unfold Gm.grow1;rw[Az ha,HM.o]));have a0:=aA (HU.o.set_ m true);have a1:Hid (One w #[.slice AT G.ts.length cT,.slice AN G.ns.length cN,.slice (some ⟨g,o,none⟩) G.rs.length cR,.int .i64 G.st] (wr.setCell ⟨w2.heap.size,m,none⟩ (.bool true))):=aA (Eh (p:=⟨w2.heap.size,m,none⟩) HW.o (by have:=al.o;simp only;omega) _);clear ha aa;go_wp2_with fail
       refine d.o.mono ?_;rintro _ w4 ⟨rfl,ae⟩;subst ae;go_wp2;go_roundw
       case rel=>exact⟨i+1,b,by go_num,by rw[HX.o];exact a0,a1⟩
       case measure=>simp[intOf];omega
     ·obtain rfl:i=G.rs.length:=by omega
      rw[Bk]at HU;go_wp2;go_roundw
      case rel=>exact⟨n+1,ax,by go_num,by rw[az.o];exact HU,HW⟩
      case measure=>simp[intOf];omega
   ·obtain rfl:n=G.ns.length:=by omega
    have HE:=aA (Gm.grow_gn (tm:=tm) j.o.lin);go_wp2;go_ret
    exact⟨fun _=>⟨w2.heap.size,by rw[Gm.gn_len];rfl,CN al.o,by rw[<-HE.o];exact HU.o,HW.o.below⟩,fun h=>by simp at h⟩
theorem zbq (v:Value) (G:Gm.Gr) (B:Nat) (w:World) (hg:aR w B v G) (hf:Gm.Fit G) (hB:B<=w.heap.size) :
  Calls Tryz.prog 33 #[v] w (zjz (Gm.right G) (Gm.gn false G.rs G.ns.length) w):=by
 have H1:=aA (fun(x:World) (h:Below w.heap.size w x)=>zcL false v G B x (hg.below h hB) hf (Am hB h.size));obtain⟨AT,cT,AN,cN,AR,cR,rfl,_⟩:=hg;have aa:=aA (One.start w #[.slice AT G.ts.length cT,.slice AN G.ns.length cN,.slice AR G.rs.length cR,.int .i64 G.st]);clear hf;generalize Gm.gn false G.rs G.ns.length=T at *;generalize Gm.right G=q at *;cases q
 ·go_enter Tryz.func33,Tryz.ntmps33
  go_wp2_with fail
  refine(H1.o _ aa.o.below).mono ?_;intro e w2 h;obtain⟨rfl,hb⟩:=h.2 rfl;have ab:=aA (aa.o.on hb);clear hb h;go_wp2;go_ret
  exact⟨fun h=>by simp at h,fun _=>⟨rfl,ab.o.below⟩⟩
 ·go_enter Tryz.func33,Tryz.ntmps33
  go_wp2_with fail
  refine(H1.o _ aa.o.below).mono ?_;intro e w2 h;obtain⟨g,rfl,hg,hu,hb⟩:=h.1 rfl;have ab:=aA (aa.o.on hb);have HU:=aA hu;have HG:=aA hg;clear hb h hu hg;go_wp2;go_ret
  exact⟨fun _=>⟨g,rfl,by have:=HG.o;simp at this;omega,HU.o,ab.o.below⟩,fun h=>by simp at h⟩
theorem za2 (v:Value) (G:Gm.Gr) (B:Nat) (w:World) (hg:aR w B v G) (hf:Gm.Fit G) (hB:B<=w.heap.size) :
  Calls Tryz.prog 56 #[v] w (zjz (Gm.right G) (Gm.gn true G.rs G.ns.length) w):=by
 have H1:=aA (fun(x:World) (h:Below w.heap.size w x)=>zcL true v G B x (hg.below h hB) hf (Am hB h.size));obtain⟨AT,cT,AN,cN,AR,cR,rfl,_⟩:=hg;have aa:=aA (One.start w #[.slice AT G.ts.length cT,.slice AN G.ns.length cN,.slice AR G.rs.length cR,.int .i64 G.st]);clear hf;generalize Gm.gn true G.rs G.ns.length=T at *;generalize Gm.right G=q at *;cases q
 ·go_enter Tryz.func56,Tryz.ntmps56
  go_wp2_with fail
  refine(H1.o _ aa.o.below).mono ?_;intro e w2 h;obtain⟨rfl,hb⟩:=h.2 rfl;have ab:=aA (aa.o.on hb);clear hb h;go_wp2;go_ret
  exact⟨fun h=>by simp at h,fun _=>⟨rfl,ab.o.below⟩⟩
 ·go_enter Tryz.func56,Tryz.ntmps56
  go_wp2_with fail
  refine(H1.o _ aa.o.below).mono ?_;intro e w2 h;obtain⟨g,rfl,hg,hu,hb⟩:=h.1 rfl;have ab:=aA (aa.o.on hb);have HU:=aA hu;have HG:=aA hg;clear hb h hu hg;go_wp2;go_ret
  exact⟨fun _=>⟨g,rfl,by have:=HG.o;simp at this;omega,HU.o,ab.o.below⟩,fun h=>by simp at h⟩
theorem Gm.reachP_take {p:List Bool} (h:k<rs.length) (s:List Bool):(rs.take (k+1)).foldl (Gm.reach1 p) s=Gm.reach1 p ((rs.take k).foldl (Gm.reach1 p) s) rs[k]:=by
 rw[AI h,Dt];rfl
theorem Gm.reachP_len (p:List Bool) (rs:List Gm.Rl) (s:List Bool):(rs.foldl (Gm.reach1 p) s).length=s.length:=((Gm.foldl_le _ (Gm.reach1_le p) rs s).len).symm
theorem Gm.marks_take (h:k<r.length) (s:List Bool):Gm.marks s (r.take (k+1))=Gm.mark1 (Gm.marks s (r.take k)) r[k]:=by
 unfold Gm.marks;rw[AI h,Dt];rfl
def Gm.rcB (p s:List Bool) (x:Gm.Rl):Bool:=s.getD x.l.toNat false&&Gm.allB true p x.r
theorem Gm.reach1_yes {p s:List Bool} (h:Gm.rcB p s x=true):Gm.reach1 p s x=Gm.marks s x.r:=by
 unfold Gm.rcB at h;rw[AV]at h;unfold Gm.reach1;rw[Az h]
theorem Gm.reach1_no {p s:List Bool} (h:Gm.rcB p s x=false):Gm.reach1 p s x=s:=by
 unfold Gm.rcB at h;unfold Gm.reach1;rw[AG (by rw[<-AV,h];decide)]
theorem zcy (v:Value) (G:Gm.Gr) (B:Nat) (w:World) (hg:aR w B v G) (hf:Gm.Fit G) (hB:B<=w.heap.size) :
  Calls Tryz.prog 57 #[v] w (zjz (Gm.right G) (Gm.rc G) w):=by
 have H1:=aA (fun(x:World) (h:Below w.heap.size w x)=>zaw v G B x (hg.below h hB) hf (Am hB h.size));have H2:=aA (fun(x:World) (h:Below w.heap.size w x)=>za2 v G B x (hg.below h hB) hf (Am hB h.size));obtain⟨AT,cT,AN,cN,AR,cR,rfl,_,⟨b3,b4⟩,⟨b5,b6⟩,_,_,hR⟩:=hg;have A:=aA (One.start w #[.slice AT G.ts.length cT,.slice AN G.ns.length cN,.slice AR G.rs.length cR,.int .i64 G.st]);have bo:=aA hR;have HB:=aA hB;have bp:=aA hf;clear hf hR hB;cases q:Gm.right G
 ·rw[q]at H1;clear q H2
  go_enter Tryz.func57,Tryz.ntmps57
  go_wp2_with fail
  refine(H1.o _ A.o.below).mono ?_;rintro _ w2 ⟨rfl,hb⟩;have u:=aA (A.o.on hb);clear hb;go_wp2;go_ret
  exact⟨fun h=>by simp at h,fun _=>⟨rfl,u.o.below⟩⟩
 ·have d:=aA (Gm.right_ok.1 q);have HN:Hid (G.ns.length<=40):=aA (by have:=(Gm.nons_iff G).1 d.o.n;omega);have bq:Hid (G.rs.length<=40):=aA d.o.r40;have H2:=aA (fun x h=>(show Calls _ _ _ _ (zgz _ _) from(H2.o x h).mono fun e w' k=>k.1 q));rw[q]at H1;clear q;have b7:=HN.o;have br:(G.ns.length:Int)<=9223372036854775807:=by omega
  have az:(G.rs.length:Int)<=9223372036854775807:=by omega
  obtain⟨T,hT⟩:∃x,x=Gm.gn true G.rs G.ns.length:=⟨_,rfl⟩
  have al:Hid (T.length=G.ns.length):=aA (by rw[hT,Gm.gn_len]);rw[<-hT]at H2;have HT:=aA hT;clear hT
  go_enter Tryz.func57,Tryz.ntmps57
  go_wp2_with fail
  refine(H1.o _ A.o.below).mono ?_;rintro _ w2 ⟨rfl,hb⟩;have u:=aA (A.o.on hb);have q0:=u.o.c 0 _ rfl;have q1:=u.o.c 1 _ rfl;have q2:=u.o.c 2 _ rfl;have q3:=u.o.c 3 _ rfl;have af:w.heap.size<w2.heap.size:=u.o.size;clear hb;go_wp2_with fail
  refine(H2.o _ u.o.below).mono ?_;rintro _ w3 ⟨gp,rfl,bs,a0,a1⟩;rw[al.o];have ag:=aA (u.o.on a1);have aa:=aA a0;clear q0 q1 q2 q3 af;have q1:=ag.o.c 1 _ rfl;have af:w.heap.size<w3.heap.size:=ag.o.size;clear a0 a1 bs;go_upto_region 5 with(at_make;refine zdk rfl (.tmp 16) (.tmp 16) _ rfl Tryz.underlying43 G.ns.length _ _ rfl rfl rfl rfl (by omega) ?_;intro w4 a2 am ao)
  have ah:=aA (ag.o.on am);have ad:=aA (aa.o.below am aa.o.lt);have ap:Hid (gp<w3.heap.size):=aA aa.o.lt;have ai:=aA a2;clear a2 am q1 A H1 H2 u;have bu:=d.o.s0;have ae:=d.o.s1;obtain⟨m,hm⟩:∃m:Nat,G.st=(m:Int):=⟨G.st.toNat,by omega⟩
  have HM:Hid (G.st.toNat=m):=aA (by rw[hm];simp);have q3:=ah.o.c 3 _ rfl;have ld:w.heap.size<w4.heap.size:=ah.o.size;rw[hm]at q3 ae;have k3:=ai.o.cell m (by simp;omega);have f3:=ai.o.frozen m;clear hm bu;obtain⟨wv,H⟩:∃y,y=w4.setCell ⟨w3.heap.size,m,none⟩ (.bool true):=⟨_,rfl⟩
  have C:Hid (One w #[.slice AT G.ts.length cT,.slice AN G.ns.length cN,.slice AR G.rs.length cR,.int .i64 G.st] wv):=aA (by rw[H];exact Eh (p:=⟨w3.heap.size,m,none⟩) ah.o (by simp only;omega) _);have a3:Hid (UBO wv w3.heap.size ((List.replicate G.ns.length false).set m true)):=aA (by rw[H];exact ai.o.set_ m true);have a4:Hid (UBO wv gp T):=aA (by rw[H];exact UBO.far ad.o (by have:=ap.o;simp only;omega) _);have E:Hid (w.heap.size<w3.heap.size):=aA af;clear ag ah ai aa ad;go_upto_region 6 with fail
  rw[<-H];obtain⟨gk,a5⟩:∃gk,gk=w3.heap.size:=⟨_,rfl⟩
  rw[<-a5]at a3 E ap ⊢;have A:=aA (Gm.reach_rc d.o.lin d.o.sin d.o.s0 d.o.s1);rw[HM.o,<-HT.o]at A;have bv:Hid (((List.replicate G.ns.length false).set m true).length=G.ns.length):=aA (by simp);generalize (List.replicate G.ns.length false).set m true=s0 at *;clear k3 f3 q3 ld ao af H a5 ae;go_wp2;go_loopw [5] (fun vn wr=>∃n:Nat,n<=G.ns.length/\vn=.int .i64 n/\Hid (UBO wr gk (Gm.times (Gm.reachP T G.rs) n s0))/\Hid (wv.grownBy wr (some gk))) (fun vn _=>G.ns.length-(intOf vn).toNat)
  case atStart=>exact⟨0,AU _,rfl,a3,aA (AM _ _)⟩
  case round =>
   obtain⟨n,hn,rfl,HU,HW⟩:=hrel;obtain⟨wo,bw⟩:∃wo:World,wo=wr:=⟨_,rfl⟩
   subst bw;have q1:=zaq HW.o (C.o.c 1 _ rfl) (by have:=E.o;omega);have ld:=Bi q1;by_cases bx:n<G.ns.length
   ·have bz:Hid ((Gm.times (Gm.reachP T G.rs) n s0).length=G.ns.length):=aA (by have:=(Gm.times_le (f:=Gm.reachP T G.rs) (fun s=>Gm.foldl_le _ (Gm.reach1_le T) G.rs s) n s0).len;rw[<-this];exact bv.o);have bD:Hid (Gm.times (Gm.reachP T G.rs) (n+1) s0=G.rs.foldl (Gm.reach1 T) (Gm.times (Gm.reachP T G.rs) n s0)):=aA rfl;generalize Gm.times (Gm.reachP T G.rs) n s0=s at *;go_wp2;go_loopw [6] (fun vi wr=>∃i:Nat,i<=G.rs.length/\vi=.int .i64 i/\Hid (UBO wr gk ((G.rs.take i).foldl (Gm.reach1 T) s))/\Hid (wv.grownBy wr (some gk))) (fun vi _=>G.rs.length-(intOf vi).toNat)
    case atStart=>exact⟨0,AU _,rfl,HU,HW⟩
    case round =>
     clear HU HW q1 ld;obtain⟨i,hi,rfl,HU,HW⟩:=hrel;obtain⟨wi,bM⟩:∃wi:World,wi=wr:=⟨_,rfl⟩
     subst bM;have q2:=zaq HW.o (C.o.c 2 _ rfl) (by have:=E.o;omega);have ld:=Bi q2;by_cases t:i<G.rs.length
     ·obtain⟨g,o,rfl,a6,hc⟩:=bo.o (by omega);obtain⟨k0,⟨A',c',k1,_,_,a9⟩,k2⟩:=hc i t;have aq:B<=wv.heap.size:=Am HB.o C.o.below.size;have ar:B<=gk:=Am HB.o (CN E.o);have aj:=aA (fun(y:World) (h:wv.grownBy y (some gk)) (o':Nat)=>(zag (o:=o') h aq ar a6).trans (C.o.below.cell (p:=⟨g,o',none⟩) (Ag a6 HB.o)));have k0:=(aj.o _ HW.o _).trans k0;have k1:=(aj.o _ HW.o _).trans k1;have k2:=(aj.o _ HW.o _).trans k2;have b8:g<wi.heap.size:=Bi k0;have D:G.rs[i]∈G.rs:=AC t;have e:=bp.o.r _ D;have ba:=aA ((Gm.reachP_len T (G.rs.take i) s).trans bz.o);have bb:=aA (Gm.reachP_take (p:=T) t s);have au:=d.o.lin _ D;have av:∀y:World,wv.grownBy y (some gk)->RdI y B A' G.rs[i].r:=fun y h=>a9.keep fun g o hg=>(zag h aq ar hg).trans (C.o.below.cell (p:=⟨g,o,none⟩) (Ag hg HB.o));have aw:=aA (fun(y:World) (h:wv.grownBy y (some gk))=>zdd G.rs[i].r T true A' (some ⟨gp,0,none⟩) c' G.ns.length B y.heap.size y (av y h) e.2.2 (fun z hz h=>by rw[al.o];exact d.o.sin _ D z hz h) ((a4.o.grown h (fun e=>by injection e with e;have:=ap.o;omega)).rd0 (Ag a4.o.lt h.size)) (by have:=(Gm.rule_in (d.o.rr _ D)).1;omega));rw[al.o]at aw;have bc:=aA av;have bd:=aA (d.o.sin _ D);have bT:=(Gm.rule_in (d.o.rr _ D)).1;have bf:=aA e.2.2;generalize (G.rs.take i).foldl (Gm.reach1 T) s=cur at *;generalize G.rs[i]=x at *;obtain⟨l,r,pz⟩:=x;simp only at k0 k1 k2 aw bc bd bT au bf;obtain⟨m,rfl⟩:∃m:Nat,l=(m:Int):=⟨l.toNat,by omega⟩
      have b9:m<cur.length:=by rw[ba.o];omega
      have ca:=au.2;have lu:=HU.o.lt;have cb:(r.length:Int)<=9223372036854775807:=by omega
      have bg:Hid (Gm.rcB T cur ⟨m,r,pz⟩=(cur.getD m false&&Gm.allB true T r)):=aA (by simp[Gm.rcB]);have bh:=aA (AE wi (.cells #[.int .i64 m,.slice A' r.length c',.int .i64 pz] 48));have bi:=aA (HU.o.alloc (.cells #[.int .i64 m,.slice A' r.length c',.int .i64 pz] 48));have bj:=aA (aK HW.o (.cells #[.int .i64 m,.slice A' r.length c',.int .i64 pz] 48));clear hc a9 e D au av aq ar aj;go_wp2;go_loopw [8] (fun vk wr=>∃k:Nat,k<=r.length/\vk=.int .i64 k/\Hid (Gm.rcB T cur ⟨m,r,pz⟩=false->k=0)/\Hid (UBO wr gk (Gm.marks cur (r.take k)))/\Hid (wv.grownBy wr (some gk))/\Hid (wr.heap[wi.heap.size]?=some (.cells #[.int .i64 m,.slice A' r.length c',.int .i64 pz] 48 (0,0)))) (fun vk _=>r.length-(intOf vk).toNat)
      case atStart=>exact⟨0,AU _,rfl,aA (fun _=>rfl),by simpa[Gm.marks] using bi,bj,bh⟩
      case round =>
       clear HU HW bi bj bh k0 k1 k2;obtain⟨k,hk,rfl,HK,HU,HW,HX⟩:=hrel;have d0:=AD wr _ 0 _ _ _ HX.o;have d1:=AD wr _ 1 _ _ _ HX.o;have hd:=(Ad.1 HX.o).1;have lk:=HU.o.lt;have bk:Hid ((Gm.marks cur (r.take k)).length=G.ns.length):=aA ((Gm.marks_le cur _).len.symm.trans ba.o);have km:=HU.o.cell m (by rw[bk.o];omega);by_cases b:k<r.length
       ·have F:=aA (aw.o wr HW.o);cases hc:Gm.rcB T cur ⟨m,r,pz⟩
        ·obtain rfl:=HK.o hc;have ab:=aA (bb.o.trans (Gm.reach1_no hc));rw[List.take_zero,show Gm.marks cur []=cur from rfl]at HU km;have ax:=aA (bg.o.symm.trans hc);cases hv:cur.getD m false
         ·rw[hv]at km;clear hc hv ax F;go_wp2;go_roundw
          case rel=>exact⟨i+1,t,by go_num,by rw[ab.o];exact HU,HW⟩
          case measure=>simp[intOf];omega
         ·rw[hv]at km;have ha:Gm.allB true T r=false:=by have:=ax.o;rw[hv]at this;simpa using this
          rw[ha]at F;clear hc hv ax ha;go_wp2_with fail
          refine F.o.mono ?_;rintro _ w5 ⟨rfl,I⟩;subst I;go_wp2;go_roundw
          case rel=>exact⟨i+1,t,by go_num,by rw[ab.o];exact HU,HW⟩
          case measure=>simp[intOf];omega
        ·have h2:=bg.o.symm.trans hc;rw[AV]at h2;rw[(Gm.marks_le cur (r.take k)).get m h2.1]at km;rw[h2.2]at F;obtain⟨g5,o5,rfl,cc,bl⟩:=bc.o wr HW.o (by omega);have k5:=bl k b;rw[L.gd_lt b]at k5;have bX:=aA (bd.o _ (AC b));have ay:=bf.o _ (AC b);have ak:=aA (Gm.marks_take b cur);have cd:=HK;have l5:=Bi k5;unfold Gm.In at ay;generalize r[k]=z at *;clear bl h2;by_cases hz:z<0
         ·have bY:=bX.o hz;obtain⟨j,hj⟩:∃j:Nat,-1-z=(j:Int):=⟨(-1-z).toNat,by omega⟩
          have ce:IntKind.i64.wrap (-1-z)=(j:Int):=by rw[B5 _ (by omega)];exact hj
          have ac:Hid (Gm.marks cur (r.take (k+1))=(Gm.marks cur (r.take k)).set j true):=aA (ak.o.trans (by unfold Gm.mark1;rw[Az hz,hj];simp));have bm:j<(Gm.marks cur (r.take k)).length:=by rw[bk.o];omega
          have bZ:=aA (HU.o.set_ j true);have b0:=aA (aF HW.o j (.bool true));have b1:=aA ((AP wr ⟨gk,j,none⟩ (.bool true) wi.heap.size (by simp only;omega)).trans HX.o);have kj:=HU.o.cell j bm;have fj:=HU.o.frozen j;have cf:(j:Int)<(G.ns.length:Int):=by omega
          have b2:decide (z<0)=true:=AL hz;clear hz bY hj ak hc ay bm;go_wp2_with fail
          refine F.o.mono ?_;rintro _ w5 ⟨rfl,I⟩;subst I;go_wp2;go_roundw
          case rel=>exact⟨k+1,b,by go_num,aA (fun h=>by cases h),by rw[ac.o];exact bZ,b0,b1⟩
          case measure=>simp[intOf];omega
         ·have ac:Hid (Gm.marks cur (r.take (k+1))=Gm.marks cur (r.take k)):=aA (ak.o.trans (by unfold Gm.mark1;rw[AG hz]));have b2:decide (z<0)=false:=AO hz;clear hz ak hc ay;go_wp2_with fail
          refine F.o.mono ?_;rintro _ w5 ⟨rfl,I⟩;subst I;go_wp2;go_roundw
          case rel=>exact⟨k+1,b,by go_num,aA (fun h=>by cases h),by rw[ac.o];exact HU,HW,HX⟩
          case measure=>simp[intOf];omega
       ·obtain rfl:k=r.length:=by omega
        have ab:Hid ((G.rs.take (i+1)).foldl (Gm.reach1 T) s=Gm.marks cur (r.take r.length)):=aA (bb.o.trans (by
         cases hc:Gm.rcB T cur ⟨m,r,pz⟩
         ·rw[Gm.reach1_no hc]
          have:=HK.o hc
          rw[BC this];rfl
         ·rw[Gm.reach1_yes hc,Bk]))
        go_wp2;go_roundw
        case rel=>exact⟨i+1,t,by go_num,by rw[ab.o];exact HU,HW⟩
        case measure=>simp[intOf];omega
     ·obtain rfl:i=G.rs.length:=by omega
      rw[Bk]at HU;go_wp2;go_roundw
      case rel=>exact⟨n+1,bx,by go_num,by rw[bD.o];exact HU,HW⟩
      case measure=>simp[intOf];omega
   ·obtain rfl:n=G.ns.length:=by omega
    go_wp2;go_ret
    exact⟨fun _=>⟨gk,by rw[Gm.rc_len];rfl,CN E.o,by rw[<-A.o];exact HU.o,zaa C.o.below HW.o (CN E.o) C.o.below.size⟩,fun h=>by simp at h⟩
theorem zeN (g o j:Nat):((⟨g,o,none⟩:Addr).add j)=⟨g,o+j,none⟩:=by unfold Addr.add;by_cases h0:j=0 <;> simp[h0]
def RdT (L:List Int) (w:World) (B:Nat) (A:Option Addr) (ts:List Tok):Prop :=
 ts.length≠0->∃g o,A=some ⟨g,o,none⟩/\g<B/\∀i j u,(hi:i<ts.length)->(zaL L ts[i])[j]?=some u->w.cell? ⟨g,o+(i*3+j),none⟩=some u
theorem RdT.nil (L:List Int) (w:World) (B:Nat) (A:Option Addr):RdT L w B A []:=fun h=>absurd rfl h
theorem RdT.keep {L:List Int} {ts:List Tok} (h:RdT L w B A ts) (hk:∀g o,g<B->w'.cell? ⟨g,o,none⟩=w.cell? ⟨g,o,none⟩):RdT L w' B A ts:=fun hn=>by
 obtain⟨g,o,e,hg,hc⟩:=h hn;exact⟨g,o,e,hg,fun i j u hi hu=>(hk _ _ hg).trans (hc i j u hi hu)⟩
theorem RdT.more {L:List Int} {ts:List Tok} (h:RdT L w B A ts) (hB:B<=B'):RdT L w B' A ts:=fun hn=>by
 obtain⟨g,o,e,hg,hc⟩:=h hn;exact⟨g,o,e,by omega,hc⟩
theorem RdT.grown {L:List Int} {ts:List Tok} {row:Option Nat} (h:RdT L w B A ts) (hg:w.grownBy w' row) (hr:∀k,row=some k->B<=k) (hs:B<=w.heap.size):RdT L w' B A ts :=
 h.keep fun p o hp=>Cb (hg.block p (by omega) (fun e=>by have:=hr p e.symm;omega))
theorem RdT.below {L:List Int} {ts:List Tok} (h:RdT L w B A ts) (hb:Below B' w w') (hB:B<=B'):RdT L w' B A ts :=
 h.keep fun g o hg=>hb.cell (p:=⟨g,o,none⟩) (Ag hg hB)
theorem bQ.rd {L:List Int} {xs:List Tok} (h:bQ L w base v xs):∃A c,v=.slice A xs.length c/\xs.length<=c/\c<=maxLen/\RdT L w w.heap.size A xs:=by
 obtain⟨A,c,rfl,h1,h2⟩:=h.form;refine⟨A,c,rfl,h1,h2,fun h0=>?_⟩;obtain⟨g,c',e,_,_,_,hg,aa⟩:=h.addr h0;injection e with e1 e2 e3;refine⟨g,0,e1,hg,fun i j u hi hu=>?_⟩
 have hj:j<3:=by
  have:=(AZ.1 hu).1
  simpa[zaL] using this
 rw[BA];exact aa i j u hi hj (by rw[AF hi];exact hu)
def zhv (A:Option Addr) (c:Nat):Option Addr:=if c=1 then A else A.map fun x=>x.add 3
theorem RdT.tail {L:List Int} {c:Nat} {t:Tok} {ts:List Tok} (h:RdT L w B A (t::ts)) (hc:(t::ts).length<=c):RdT L w B (zhv A c) ts:=by
 intro hn;obtain⟨g,o,rfl,hg,aa⟩:=h (by simp);refine⟨g,o+3,?_,hg,fun i j u hi hu=>?_⟩
 ·unfold zhv;rw[AG (by simp at hc;omega),DH,zeN]
 ·have:=aa (i+1) j u (by simp;omega) (by simpa using hu)
  rwa [show o+3+(i*3+j)=o+((i+1)*3+j) by omega]
def zay (L:List Int) (x:Tok):List Value:=[.string (K.str x.t),.complex .f64 (Fl.fl (Pl.pos (L.take x.o)).1) (Fl.fl (Pl.pos (L.take x.o)).2)]
theorem zhd (L:List Int) (xs:List Tok) (i j:Nat) (hi:i<xs.length) (hj:j<2):(xs.flatMap (zay L))[i*2+j]?=(zay L xs[i])[j]?:=by
 induction xs generalizing i with
 | nil=>simp at hi
 | cons x r ih =>
  rw[Ce];have hl:(zay L x).length=2:=rfl;cases i with
  | zero=>rw[BF (by omega)];simp
  | succ i =>
   rw[B8 (by omega),hl,show(i+1)*2+j-2=i*2+j by omega]
   simpa using ih i (by simpa using hi)
def RdR (L:List Int) (w:World) (B:Nat) (A:Option Addr) (xs:List Tok):Prop :=
 xs.length≠0->∃(g:Nat) (cur:Array Value),A=some ⟨g,0,none⟩/\B<=g/\w.heap[g]?=some (.cells cur 127 (0,0))/\∀(j:Nat) (u:Value),(xs.flatMap (zay L))[j]?=some u->cur[j]?=some u
theorem RdR.nil (L:List Int) (w:World) (B:Nat) (A:Option Addr):RdR L w B A []:=fun h=>absurd rfl h
def za0 (w:World) (row:Option Nat):Prop:=∀k,row=some k->∀cur,w.heap[k]? ≠ some (.cells cur 127 (0,0))
theorem za0.none (w:World):za0 w .none:=fun _ h=>by cases h
theorem RdR.grown {L:List Int} {xs:List Tok} {row:Option Nat} (h:RdR L w B A xs) (hg:w.grownBy w' row) (hr:za0 w row):RdR L w' B A xs:=fun hn=>by
 obtain⟨g,cur,e,hB,hh,hc⟩:=h hn;exact⟨g,cur,e,hB,(hg.block g (Ad.1 hh).1 (fun e=>hr g e.symm cur hh)).trans hh,hc⟩
theorem RdR.less {L:List Int} {xs:List Tok} (h:RdR L w B A xs) (hB:B'<=B):RdR L w B' A xs:=fun hn=>by
 obtain⟨g,cur,e,hb,hh⟩:=h hn;exact⟨g,cur,e,by omega,hh⟩
theorem RdR.below {L:List Int} {xs:List Tok} (h:RdR L w B A xs) (hb:Below w.heap.size w w'):RdR L w' B A xs:=h.grown (aL hb .none) (za0.none w)
theorem RdR.cell {L:List Int} {xs:List Tok} (h:RdR L w B A xs) (h0:xs.length≠0):∃g,A=some ⟨g,0,none⟩/\B<=g/\∀i j u,(hi:i<xs.length)->j<2->(zay L xs[i])[j]?=some u->w.cell? ⟨g,i*2+j,none⟩=some u:=by
 obtain⟨g,cur,e,hB,hh,hc⟩:=h h0;refine⟨g,e,hB,fun i j u hi hj hu=>?_⟩;rw[AD w g _ _ _ _ hh];exact hc _ _ (by rw[zhd L xs i j hi hj];exact hu)
def bU (L:List Int) (w:World) (base:Nat) (v:Value) (xs:List Tok):Prop:=w.ownsRow base 127 2 v xs.length (xs.flatMap (zay L))
theorem bU.nil (L:List Int) (w:World) (base:Nat):bU L w base (.slice none 0 0) []:=C3 w base _ _
theorem bU.alloc {L:List Int} {xs:List Tok} (h:bU L w base v xs) (o:Obj):bU L (w.alloc o) base v xs:=Dc h o
theorem bU.grown {L:List Int} {xs:List Tok} {row:Option Nat} (h:bU L w base v xs) (hg:w.grownBy w' row) (hr:za0 w row):bU L w' base v xs:=by
 refine⟨h.1,?_⟩;rcases h.2 with h0|⟨g,cap,cur,e,aa,hh,ab⟩
 ·exact .inl h0
 ·exact .inr ⟨g,cap,cur,e,aa,(hg.block g (Ad.1 hh).1 (fun e=>hr g e.symm cur hh)).trans hh,ab⟩
theorem bU.below {L:List Int} {xs:List Tok} (h:bU L w base v xs) (hb:Below w.heap.size w w'):bU L w' base v xs:=h.grown (aL hb .none) (za0.none w)
theorem bU.rd {L:List Int} {xs:List Tok} (h:bU L w base v xs):∃A c,v=.slice A xs.length c/\xs.length<=c/\c<=maxLen/\RdR L w base A xs:=by
 rcases h.2 with⟨rfl,h0⟩|⟨g,cap,cur,rfl,hb,hg,hn,hm,hs,ht⟩
 ·exact⟨none,0,by rw[h0],by omega,by unfold maxLen;omega,fun hc=>absurd h0 hc⟩
 ·refine⟨some ⟨g,0,none⟩,cap,rfl,hn,hm,fun _=>⟨g,cur,rfl,hb,hg,fun j u hu=>?_⟩⟩;rw[<-ht]at hu;have hj:=(AZ.1 hu).1;rw[Bb]at hj;rw[CX (by omega)]at hu
  simpa using hu
theorem znu:(Tryz.prog.info? 127).map (fun i=>(i.zero,i.size,i.bytes))=some (some (.agg #[.string ⟨#[]⟩,.complex .f64 0 0]),2,32):=by kernel_rfl
theorem zk7 {rest:List Oper} {o:Oper} {a:Act} {Q:Exit->Act->World->Prop} (ac:o.guard=none) (s x:Operand) (t:TypeId) (ho:o.op=.call {callee:=.builtin .append,args:=#[s,x],argTypes:=#[t,t]}) (ht:Tryz.prog.underlying t=some (.slice 127)) (L:List Int) (base:Nat) (v:Value) (xs:List Tok) (hs:a.eval s=v) (ab:bU L w base v xs) (g c:Nat) (y:Tok) (hx:a.eval x=.slice (some ⟨g,0,none⟩) 1 c) (hz:∀j u,(zay L y)[j]?=some u->w.cell? ⟨g,j,none⟩=some u) (ad:xs.length<=1000000) (aa:base<=w.heap.size) (hK:∀v' w',bU L w' base v' (xs++[y])->w.grownBy w' v.ownBlock->wpList Tryz.prog ops Q rest (a.put o.dst v') w') :
  wpList Tryz.prog ops Q (o::rest) a w:=by
 obtain⟨i,hi,ae,af,ag⟩:=Cv znu;refine De w ac s x t ho base 127 i _ 2 32 ht hi ae af ag rfl (by decide) v xs.length (xs.flatMap (zay L)) hs ab ⟨g,0,none⟩ 1 c (zay L y) hx rfl ?_ ?_ (by unfold maxLen;omega) (by omega) aa fun v' w' h1 h2 _=>hK v' w' ?_ h2
 ·intro j u hj;rw[zeN,BA];exact hz j u hj
 ·intro u hu;simp[zay]at hu;rcases hu with rfl|rfl <;> rfl
 ·unfold bU;rw[AQ,B9,Cq];exact h1
theorem _root_.Go.World.grownBy.row (h:w.grownBy w' .none) (row:Option Nat):w.grownBy w' row:=⟨h.os,h.tape,h.output,h.size,fun k hk _=>h.block k hk (by simp)⟩
theorem zct {a:World} {row:Option Nat} {e:TypeId} {size:Nat} (h:a.grownBy w row) (ho:w.ownsRow a.heap.size e size v n xs) (hg:w.grownBy w' v.ownBlock):a.grownBy w' row :=
 ⟨hg.os.trans h.os,hg.tape.trans h.tape,hg.output.trans h.output,Am h.size hg.size,fun k hk aa=>(hg.block k (Ag hk h.size) (fun e=>by have:=(Bn ho k e.symm).1;omega)).trans (h.block k hk aa)⟩
theorem zhb (L:List Int) (w:World) (t:Tok):∀j u,(zay L t)[j]?=some u->(w.alloc (.cells #[.string (K.str t.t),.complex .f64 (Fl.fl (Pl.pos (L.take t.o)).1) (Fl.fl (Pl.pos (L.take t.o)).2)] 127)).cell? ⟨w.heap.size,j,none⟩=some u:=by
 intro j u hu;rw[CZ]
 simpa[zay] using hu
theorem zcZ {w2:World} {o:Obj} {R:Nat} (h:(w.alloc o).grownBy w2 (some R)) (hR:R<w.heap.size):w2.heap[w.heap.size]?=some o:=by
 rw[h.block w.heap.size (by simp) (fun e=>by injection e with e;omega)];exact AE w o
theorem zaW {a:World} {row:Option Nat} (h:a.grownBy w row) (g i:Nat) (u:Value) (hg:a.heap.size<=g):a.grownBy (w.setCell ⟨g,i,none⟩ u) row :=
 ⟨h.os,h.tape,h.output,by simpa[World.setCell] using h.size,fun k hk aa=>(AP w ⟨g,i,none⟩ u k (by simp only;omega)).trans (h.block k hk aa)⟩
def zfS (v:Value):Nat:=match v with | .slice _ n _=>n|_=>0
def zla (L:List Int) (r:Out) (w:World) (e:Ending) (w':World):Prop :=
 match r with
 | .ok xs=>∃v,e=.returned (.tuple #[v,.complex .f64 (Fl.fl (Pl.pos L).1) (Fl.fl (Pl.pos L).2),.int .i64 0])/\bQ L w' w.heap.size v xs/\Below w.heap.size w w'
 | .bad o d=>e=.returned (.tuple #[.slice none 0 0,.complex .f64 (Fl.fl (Pl.pos (L.take o)).1) (Fl.fl (Pl.pos (L.take o)).2),.int .i64 d])/\Below w.heap.size w w'
def At (L:List Int) (R:Out) (w:World) (k d f m:Nat) (acc:List Tok) (l:List Int) (p:Int×Int) (A':Option Addr) (c':Nat) (v:Value) (w':World):Prop :=
 L.length=k+d/\l=L.drop k/\p=Pl.pos (L.take k)/\Below w.heap.size w w'/\RdB w' w.heap.size A' l/\bQ L w' w.heap.size v acc/\d<=c'/\d<f/\acc.length<=k/\m<=k/\zfT f l k m acc=R
def ze1 (L:List Int) (t:Tok):Value:=.agg #[.string (K.str t.t),.complex .f64 (Fl.fl (Pl.pos (L.take t.o)).1) (Fl.fl (Pl.pos (L.take t.o)).2)]
theorem zfR (w:World) (A:Option Addr) (c n:Nat) (hk:1<=n):(Instr.sliceAt 121 (.slice A n c) (some (.int .i64 1)) none none).run Tryz.prog w=.ok (.slice (zhv A c) (n-1) (c-1)) w:=by
 rw[DW _ _ _ _ _ _ (by kernel_rfl),run_slice_l _ _ _ _ _ (by kernel_rfl) .i64 (1:Int) (by omega) (by omega)];have hs:(sizeOf (Tryz.prog.elem 121)).run Tryz.prog w=.ok 3 w:=by kernel_rfl
 rw[hs];simp[Result.andThen,sliced,zhv]
def za7 (L:List Int):Option Tok->List Value
 | none=>[.string ⟨#[]⟩,.complex .f64 0 0]
 | some t=>zay L t
def aW (L:List Int) (p:Y.Prd) (A:Option Addr) (c:Nat):List Value:=zay L p.l++[.slice A p.r.length c]++za7 L p.p
def zia (d:Y.Dcl) (A:Option Addr) (c:Nat):List Value:=[.int .i64 d.k,.slice A d.ns.length c]
abbrev PA:=Y.Prd×Option Addr×Nat
abbrev DA:=Y.Dcl×Option Addr×Nat
def ziT (L:List Int) (qs:List PA):List Value:=qs.flatMap fun q=>aW L q.1 q.2.1 q.2.2
def znC (qs:List DA):List Value:=qs.flatMap fun q=>zia q.1 q.2.1 q.2.2
theorem zcQ (L:List Int) (p:Y.Prd) (A:Option Addr) (c:Nat):(aW L p A c).length=5:=by
 unfold aW za7;split <;> rfl
theorem zkB (L:List Int) (qs:List PA) (i j:Nat) (hi:i<qs.length) (hj:j<5):(ziT L qs)[i*5+j]?=(aW L qs[i].1 qs[i].2.1 qs[i].2.2)[j]?:=by
 unfold ziT;induction qs generalizing i with
 | nil=>simp at hi
 | cons x r ih =>
  rw[Ce];have hl:=zcQ L x.1 x.2.1 x.2.2;cases i with
  | zero=>rw[BF (by omega)];simp
  | succ i =>
   rw[B8 (by omega),hl,show(i+1)*5+j-5=i*5+j by omega]
   simpa using ih i (by simpa using hi)
theorem zib (qs:List DA) (i j:Nat) (hi:i<qs.length) (hj:j<2):(znC qs)[i*2+j]?=(zia qs[i].1 qs[i].2.1 qs[i].2.2)[j]?:=by
 unfold znC;induction qs generalizing i with
 | nil=>simp at hi
 | cons x r ih =>
  rw[Ce];have hl:(zia x.1 x.2.1 x.2.2).length=2:=rfl;cases i with
  | zero=>rw[BF (by omega)];simp
  | succ i =>
   rw[B8 (by omega),hl,show(i+1)*2+j-2=i*2+j by omega]
   simpa using ih i (by simpa using hi)
def bH (L:List Int) (w:World) (base:Nat) (v:Value) (ps:List Y.Prd):Prop :=
 ∃qs:List PA,qs.map (·.1)=ps/\w.ownsRow base 135 5 v ps.length (ziT L qs)/\∀q∈qs,RdR L w base q.2.1 q.1.r
def bL (L:List Int) (w:World) (base:Nat) (v:Value) (ds:List Y.Dcl):Prop :=
 ∃qs:List DA,qs.map (·.1)=ds/\w.ownsRow base 168 2 v ds.length (znC qs)/\∀q∈qs,RdR L w base q.2.1 q.1.ns
theorem bH.nil (L:List Int) (w:World) (base:Nat):bH L w base (.slice none 0 0) []:=⟨[],rfl,C3 w base _ _,fun q h=>by cases h⟩
theorem bL.nil (L:List Int) (w:World) (base:Nat):bL L w base (.slice none 0 0) []:=⟨[],rfl,C3 w base _ _,fun q h=>by cases h⟩
def zlh (w:World) (v:Value) (row:Option Nat):Prop:=za0 w row/\(v.ownBlock=none\/v.ownBlock≠row)
theorem zlh.none (w:World) (v:Value):zlh w v .none:=⟨za0.none w,by rcases v.ownBlock with _|k;exact .inl rfl;exact .inr (by simp)⟩
theorem bH.grown {L:List Int} {ps:List Y.Prd} {row:Option Nat} (h:bH L w base v ps) (hg:w.grownBy w' row) (ha:zlh w v row):bH L w' base v ps:=by
 obtain⟨qs,h1,h2,h3⟩:=h;exact⟨qs,h1,h2.kept hg ha.2,fun q hq=>(h3 q hq).grown hg ha.1⟩
theorem bL.grown {L:List Int} {row:Option Nat} (h:bL L w base v ds) (hg:w.grownBy w' row) (ha:zlh w v row):bL L w' base v ds:=by
 obtain⟨qs,h1,h2,h3⟩:=h;exact⟨qs,h1,h2.kept hg ha.2,fun q hq=>(h3 q hq).grown hg ha.1⟩
theorem zaN {size:Nat} {e:TypeId} (h:w.ownsRow base e size v n xs) (he:e≠127):za0 w v.ownBlock:=by
 intro k hk cur hc;rcases h.2 with⟨rfl,_⟩|⟨g,cap,cur',rfl,_,hg,_⟩
 ·cases hk
 ·injection hk with hk;subst hk;have aa:w.heap[g]?=some (.cells cur 127 (0,0)):=hc;rw[hg]at aa;injection aa with e1;injection e1 with _ e2;exact he e2
theorem bH.form {L:List Int} {ps:List Y.Prd} (h:bH L w base v ps):∃A c,v=.slice A ps.length c/\ps.length<=c/\c<=maxLen:=by
 obtain⟨qs,h1,h2,h3⟩:=h;rcases h2.2 with⟨rfl,h0⟩|⟨g,cap,cur,rfl,hb,hg,hn,hm,hs,ht⟩
 ·exact⟨none,0,by rw[h0],by omega,by unfold maxLen;omega⟩
 ·exact⟨_,cap,rfl,hn,hm⟩
theorem bL.form {L:List Int} (h:bL L w base v ds):∃A c,v=.slice A ds.length c/\ds.length<=c/\c<=maxLen:=by
 obtain⟨qs,h1,h2,h3⟩:=h;rcases h2.2 with⟨rfl,h0⟩|⟨g,cap,cur,rfl,hb,hg,hn,hm,hs,ht⟩
 ·exact⟨none,0,by rw[h0],by omega,by unfold maxLen;omega⟩
 ·exact⟨_,cap,rfl,hn,hm⟩
theorem zmp:(Tryz.prog.info? 135).map (fun i=>(i.zero,i.size,i.bytes))=some (some (.agg #[.string ⟨#[]⟩,.complex .f64 0 0,.slice none 0 0,.string ⟨#[]⟩,.complex .f64 0 0]),5,88):=by kernel_rfl
theorem zcP (L:List Int) (p:Y.Prd) (A:Option Addr) (c:Nat):∀u∈aW L p A c,u.oneCell'=true:=by
 intro u hu;unfold aW za7 at hu;split at hu <;> simp[zay]at hu <;> rcases hu with rfl|rfl|rfl|rfl|rfl <;> rfl
theorem zin {rest:List Oper} {o:Oper} {a:Act} {Q:Exit->Act->World->Prop} (ae:o.guard=none) (s x:Operand) (t:TypeId) (ho:o.op=.call {callee:=.builtin .append,args:=#[s,x],argTypes:=#[t,t]}) (ht:Tryz.prog.underlying t=some (.slice 135)) (L:List Int) (base:Nat) (v:Value) (ps:List Y.Prd) (hs:a.eval s=v) (ab:bH L w base v ps) (g c:Nat) (p:Y.Prd) (A:Option Addr) (pc:Nat) (hx:a.eval x=.slice (some ⟨g,0,none⟩) 1 c) (hz:∀j u,(aW L p A pc)[j]?=some u->w.cell? ⟨g,j,none⟩=some u) (hr:RdR L w base A p.r) (af:ps.length<=1000000) (aa:base<=w.heap.size) (hK:∀v' w',bH L w' base v' (ps++[p])->w.grownBy w' v.ownBlock->wpList Tryz.prog ops Q rest (a.put o.dst v') w') :
  wpList Tryz.prog ops Q (o::rest) a w:=by
 obtain⟨i,hi,ag,ah,ai⟩:=Cv zmp;obtain⟨qs,ac,ad,aj⟩:=ab;have ak:qs.length=ps.length:=by rw[<-ac,Bd]
 refine De w ae s x t ho base 135 i _ 5 88 ht hi ag ah ai rfl (by decide) v ps.length (ziT L qs) hs ad ⟨g,0,none⟩ 1 c (aW L p A pc) hx (by rw[zcQ]) ?_ (zcP L p A pc) (by unfold maxLen;omega) (by omega) aa fun v' w' h1 h2 _=>hK v' w' ?_ h2
 ·intro j u hj;rw[zeN,BA];exact hz j u hj
 ·have ho:=zaN ad (by decide);refine⟨qs++[(p,A,pc)],by rw[Bf,ac];rfl,?_,fun q hq=>?_⟩
  ·rw[AQ];unfold ziT;rw[B9,Cq];exact h1
  ·rcases Bs.1 hq with h|h
   ·exact(aj q h).grown h2 ho
   ·rw[AJ]at h;subst h;exact hr.grown h2 ho
theorem zap (w:World) (row:Option Nat):w.grownBy w.drew row:=⟨rfl,rfl,rfl,Af _,fun _ _ _=>rfl⟩
theorem zaf {w2:World} {R:Nat} {o:Obj} (h:w.grownBy w2 (some R)) (ho:w.heap[g]?=some o) (aa:g≠R):w2.heap[g]?=some o:=by
 rw[h.block g (Ad.1 ho).1 (fun e=>by injection e with e;omega)];exact ho
theorem zbU {t:TypeId} (h:w.heap[g]?=some (.cells cs t (0,0))) (ht:t≠127):za0 w (some g):=by
 intro k hk cur hc;injection hk with hk;subst hk;rw[h]at hc;injection hc with hc;injection hc with _ hc;exact ht hc
theorem zdQ (L:List Int) (p:Option Tok):∃x3 x4,za7 L p=[x3,x4]:=by cases p <;> exact⟨_,_,rfl⟩
theorem zhc {row:Option Nat} (h:w.heap[g]?=some (.cells cs 127 (0,0))) (hg:w.grownBy w' row) (ho:za0 w row):w'.heap[g]?=some (.cells cs 127 (0,0)) :=
 (hg.block g (Ad.1 h).1 (fun e=>ho g e.symm cs h)).trans h
theorem bH.own {L:List Int} {ps:List Y.Prd} (h:bH L w base v ps):∃xs,w.ownsRow base 135 5 v ps.length xs:=by
 obtain⟨qs,_,h2,_⟩:=h;exact⟨_,h2⟩
theorem bL.own {L:List Int} (h:bL L w base v ds):∃xs,w.ownsRow base 168 2 v ds.length xs:=by
 obtain⟨qs,_,h2,_⟩:=h;exact⟨_,h2⟩
theorem bH.other {L:List Int} {ps:List Y.Prd} (h:bH L w base v ps):za0 w v.ownBlock:=by
 obtain⟨xs,h2⟩:=h.own;exact zaN h2 (by decide)
theorem bL.other {L:List Int} (h:bL L w base v ds):za0 w v.ownBlock:=by
 obtain⟨xs,h2⟩:=h.own;exact zaN h2 (by decide)
theorem zfu (p:Tok->Bool):∀ts:List Tok,(ts.dropWhile p).length<=ts.length
 | []=>Af _
 | t::r=>by
  have:=zfu p r
  rw[List.dropWhile_cons];split
  ·simp;omega
  ·exact Af _
theorem ziM {left:Tok} {ts r:List Tok} {p:Y.Prd} (h:Y.rule left ts=.ok p r):r.length<=ts.length:=by
 unfold Y.rule Y.rule2 at h;have hd:=zfu Y.isRef ts;split at h
 ·obtain⟨t,m,h1,h2⟩:=Y.bind_eq_ok h;obtain⟨u,m2,h3,h4⟩:=Y.bind_eq_ok h2;injection h4 with _ h5;subst h5;have e1:=congrArg List.length (Y.take_ok h1).1;have e2:=congrArg List.length (Y.take_ok h3).1;simp at e1 e2;omega
 ·injection h with _ h5;subst h5;exact hd
theorem zlv {t:TypeId} {a0 a1 a2 a3 a4:Value} (h:w.heap[g]?=some (.cells #[a0,a1,a2,a3,a4] t (0,0))) (b0 b1 b2 b3 b4:Value) :
  (((((w.setCell ⟨g,0,none⟩ b0).setCell ⟨g,1,none⟩ b1).setCell ⟨g,2,none⟩ b2).setCell ⟨g,3,none⟩ b3).setCell ⟨g,4,none⟩ b4).heap[g]?=some (.cells #[b0,b1,b2,b3,b4] t (0,0)):=by
 have h0:=AW w g 0 _ _ b0 h;have h1:=AW _ g 1 _ _ b1 h0;have h2:=AW _ g 2 _ _ b2 h1;have h3:=AW _ g 3 _ _ b3 h2;have h4:=AW _ g 4 _ _ b4 h3;exact h4
theorem ziG (w:World) (p:Addr) (u:Value):(w.setCell p u).heap.size=w.heap.size:=by simp[World.setCell]
def Rd8 (L:List Int) (B R px py:Nat) (w:World) (ts:List Tok):Prop :=
 ∃A c,w.heap[R]?=some (.cells #[.slice A ts.length c,.complex .f64 px py,.complex .f64 0 0,.int .i64 0] 162 (0,0))/\ts.length<=c/\ts.length<=4000/\RdT L w B A ts/\B<=R
theorem Rd8.lt {L:List Int} {R:Nat} {ts:List Tok} (h:Rd8 L B R px py w ts):R<w.heap.size:=by
 obtain⟨A,c,hh,_⟩:=h;exact(Ad.1 hh).1
theorem Rd8.other {L:List Int} {R:Nat} {ts:List Tok} (h:Rd8 L B R px py w ts):za0 w (some R):=by
 obtain⟨A,c,hh,_⟩:=h;intro k hk cur he;injection hk with hk;subst hk;rw[hh]at he;injection he with he;injection he with _ he;cases he
theorem Rd8.grown {L:List Int} {R:Nat} {ts:List Tok} {row:Option Nat} (h:Rd8 L B R px py w ts) (hg:w.grownBy w' row) (hr:∀k,row=some k->R<k):Rd8 L B R px py w' ts:=by
 have aa:=h.lt;obtain⟨A,c,hh,h1,h2,h3,h4⟩:=h;exact⟨A,c,(hg.block R aa (fun e=>by have:=hr R e.symm;omega)).trans hh,h1,h2,h3.grown hg (fun k e=>by have:=hr k e;omega) (by omega),h4⟩
theorem Rd8.alloc {L:List Int} {R:Nat} {ts:List Tok} (h:Rd8 L B R px py w ts) (o:Obj):Rd8 L B R px py (w.alloc o) ts :=
 h.grown (row:=.none) (aK (AM _ _) o) (fun _ e=>by cases e)
theorem Rd8.own {L:List Int} {R:Nat} {ts:List Tok} {e:TypeId} {size:Nat} (h:Rd8 L B R px py w ts) (ho:w.ownsRow base e size v n xs) (hg:w.grownBy w' v.ownBlock) (hb:R<base):Rd8 L B R px py w' ts :=
 h.grown hg (fun k e=>by have:=(Bn ho k e).1;omega)
theorem Rd8.far {L:List Int} {R:Nat} {ts:List Tok} (h:Rd8 L B R px py w ts) (g i:Nat) (u:Value) (hg:R<g):Rd8 L B R px py (w.setCell ⟨g,i,none⟩ u) ts :=
 h.grown (aF (AM w (some g)) i u) (fun k e=>by injection e with e;omega)
theorem Rd8.cell0 {L:List Int} {R:Nat} {ts:List Tok} (h:Rd8 L B R px py w ts):∃A c,w.cell? ⟨R,0,none⟩=some (.slice A ts.length c)/\w.cell? ⟨R,3,none⟩=some (.int .i64 0)/\w.frozen? ⟨R,0,none⟩=false/\ts.length<=c/\RdT L w B A ts /\
  ∀A' c' ts',ts'.length<=c'->ts'.length<=4000->RdT L w B A' ts'->Rd8 L B R px py (w.setCell ⟨R,0,none⟩ (.slice A' ts'.length c')) ts':=by
 obtain⟨A,c,hh,h1,h2,h3,h4⟩:=h;refine⟨A,c,by rw[AD w R 0 _ _ _ hh];rfl,by rw[AD w R 3 _ _ _ hh];rfl,AH w R 0 _ _ hh,h1,h3,fun A' c' ts' k1 k2 k3=>⟨A',c',?_,k1,k2,?_,h4⟩⟩
 ·rw[AW w R 0 _ _ _ hh];rfl
 ·exact k3.keep fun g o hg=>Cb (AP w ⟨R,0,none⟩ _ g (by simp only;omega))
def kd:List Tok->Int
 | []=>0
 | t::_=>t.k
theorem zkQ (L:List Int) (B R px py:Nat) (ts:List Tok) (w:World) (hr:Rd8 L B R px py w ts) :
  Calls Tryz.prog 92 #[.pointer (some ⟨R,0,none⟩)] w fun e w'=>e=.returned (.int .i64 (kd ts))/\w=w':=by
 obtain⟨A,c,h0,h3,_,hc,ht,_⟩:=hr.cell0;rcases ts with _|⟨t,r⟩
 ·clear hr ht
  go_enter Tryz.func92,Tryz.ntmps92
  go_wp2;go_ret
  exact⟨rfl,rfl⟩
 ·obtain⟨g,o,rfl,_,aa⟩:=ht (by simp);have ab:w.cell? ⟨g,o,none⟩=some (.int .i64 t.k):=aa 0 0 _ (by simp) rfl;have hl:0<((t::r).length:Int):=by simp
  have ac:(((t::r).length:Int)==0)=false:=by simp;omega
  have HK:Hid (kd (t::r)=t.k):=aA rfl;rw[HK.o];clear hr ht aa;generalize (t::r).length=n at *;generalize t.k=z at *
  go_enter Tryz.func92,Tryz.ntmps92
  go_wp2;go_ret
  exact⟨rfl,rfl⟩
theorem is8 (L:List Int) (B R px py:Nat) (ts:List Tok) (a b:Int) (w:World) (hr:Rd8 L B R px py w ts) :
  Calls Tryz.prog 130 #[.pointer (some ⟨R,0,none⟩),.int .i64 a,.int .i64 b] w fun e w'=>e=.returned (.bool (Y.is [a,b] ts))/\w=w':=by
 have HK:=aA (zkQ L B R px py ts w hr);obtain⟨A,c,h0,h3,_,hc,ht,_⟩:=hr.cell0;rcases ts with _|⟨t,r⟩
 ·clear hr ht
  go_enter Tryz.func130,Tryz.ntmps130
  go_wp2;go_ret
  exact⟨rfl,rfl⟩
 ·have hl:0<((t::r).length:Int):=by simp
  have HE:Hid (Y.is [a,b] (t::r)=((t.k==a)||(t.k==b))):=aA (by show [a,b].contains t.k=_;simp[List.contains,List.elem];cases (t.k==a) <;> cases (t.k==b) <;> rfl);have ab:Hid (kd (t::r)=t.k):=aA rfl;rw[HE.o];rw[ab.o]at HK;clear hr ht;generalize (t::r).length=n at *;generalize t.k=z at *;by_cases ha:z=a
  ·have aa:(z==a)=true:=by simpa using ha
   rw[aa,DB];clear ha
   go_enter Tryz.func130,Tryz.ntmps130
   go_wp2_with fail
   refine HK.o.mono ?_;rintro _ _ ⟨rfl,rfl⟩;go_wp2;go_ret
   exact⟨rfl,rfl⟩
  ·have aa:(z==a)=false:=by simpa using ha
   rw[aa,EO];clear ha;generalize hb:(z==b)=q at *
   go_enter Tryz.func130,Tryz.ntmps130
   go_wp2_with fail
   refine HK.o.mono ?_;rintro _ _ ⟨rfl,rfl⟩;go_wp2_with fail
   refine HK.o.mono ?_;rintro _ _ ⟨rfl,rfl⟩;go_wp2;go_ret
   exact⟨rfl,rfl⟩
theorem zfL (L:List Int) (B R px py:Nat) (t:Tok) (r:List Tok) (a b:Int) (w:World) (hr:Rd8 L B R px py w (t::r)) (hk:Y.is [a,b] (t::r)=true) :
  Calls Tryz.prog 90 #[.pointer (some ⟨R,0,none⟩),.int .i64 a,.int .i64 b] w fun e w'=>e=.returned (ze1 L t)/\w.grownBy w' (some R)/\Rd8 L B R px py w' r:=by
 have HR:=aA (fun(w1:World) (h1:Below w.heap.size w w1)=>hr.grown (row:=.none) (aL h1 .none) (fun _ e=>by cases e));have ae:=aA (fun o=>((AB w.heap.size w).alloc (Af _) o));have ag:=hr.lt;obtain⟨A,c,h0,h3,hf,hc,ht,aa⟩:=hr.cell0;obtain⟨g,o,hA,ah,ab⟩:=ht (by simp);have ai:w.cell? ⟨g,o,none⟩=some (.int .i64 t.k):=ab 0 0 _ (by simp) rfl;have aj:w.cell? ⟨g,o+1,none⟩=some (.string (K.str t.t)):=ab 0 1 _ (by simp) rfl;have ak:w.cell? ⟨g,o+2,none⟩=some (.complex .f64 (Fl.fl (Pl.pos (L.take t.o)).1) (Fl.fl (Pl.pos (L.take t.o)).2)):=ab 0 2 _ (by simp) rfl;have af:g<w.heap.size:=by obtain⟨_,_,_,_,_,_,al⟩:=hr;omega
 have ad:=aA (fun(w1:World) (h1:Below w.heap.size w w1)=>is8 L B R px py (t::r) a b w1 (HR.o w1 h1));rw[hk]at ad;have HT:=aA (ht.tail hc);have ac:=aA aa;have S1:=fun w=>zfR w A c (t::r).length (by simp);have SC:=fun a w m X Y=>show(store a (.complex .f64 X Y) m).run Tryz.prog w=stored Tryz.prog w a (.complex .f64 X Y) m from run_store _ w a _ m rfl;have am:(((t::r).length:Int)==0)=false:=by simp;omega
 have ao:0<(t::r).length:=by simp
 have HN:Hid ((t::r).length=r.length+1/\r.length+1<=c/\r.length+1<=4000):=aA ⟨rfl,hc,by obtain⟨_,_,_,_,h4,_,_⟩:=hr;simpa using h4⟩;unfold ze1;clear hr ht ab aa hk;subst hA;generalize (t::r).length=n at *;generalize t.k=z at *;generalize K.str t.t=st at *;generalize Fl.fl (Pl.pos (L.take t.o)).1=X at *;generalize Fl.fl (Pl.pos (L.take t.o)).2=Y' at *
 go_enter Tryz.func90,Tryz.ntmps90
 go_wp2_with fail
 refine(ad.o _ (ae.o _)).mono ?_;rintro _ w2 ⟨rfl,rfl⟩;go_wp2;have hk:=ac.o (zhv (some ⟨g,o,none⟩) c) (c-1) r (by have:=HN.o;omega) (by have:=HN.o;omega) HT.o;refine Cj (v:=.agg #[.string st,.complex .f64 X Y']) (by simp[results,Tryz.results90,go_sem]) rfl ⟨rfl,aK (aK (aF (AM _ _) _ _) _) _,?_⟩;rw[show n-1=r.length by have:=HN.o;omega];exact(hk.alloc _).alloc _
def znI (L:List Int) (B R px py:Nat) (ts:List Tok) (w:World) (e:Ending) (w':World):Prop :=
 w.grownBy w' (some R)/\∃v,e=.returned v/\bU L w' w.heap.size v (ts.takeWhile Y.isRef)/\Rd8 L B R px py w' (ts.dropWhile Y.isRef)
theorem zna (L:List Int) (B R px py:Nat) (ts:List Tok) (w:World) (hr:Rd8 L B R px py w ts) :
  Calls Tryz.prog 129 #[.pointer (some ⟨R,0,none⟩)] w (znI L B R px py ts w):=by
 have HR:=aA hr;have ad:=hr.lt;have a1:ts.length<=4000:=by obtain⟨_,_,_,_,h,_⟩:=hr;exact h
 clear hr
 go_enter Tryz.func129,Tryz.ntmps129
 go_wp2;go_loopw [3] (fun v wr=>∃(acc rest:List Tok),bU L wr w.heap.size v acc/\Rd8 L B R px py wr rest/\w.grownBy wr (some R)/\acc.length+rest.length=ts.length/\acc++rest.takeWhile Y.isRef=ts.takeWhile Y.isRef/\rest.dropWhile Y.isRef=ts.dropWhile Y.isRef) (fun v _=>4001-zfS v)
 case atStart=>exact⟨[],ts,bU.nil _ _ _,HR.o,AM _ _,by simp,rfl,rfl⟩
 case round =>
  clear HR;obtain⟨acc,rest,ho,hr,hg,aa,ak,al⟩:=hrel;have HO:=aA ho;have HR:=aA hr;have HG:=aA hg;have HL:=aA aa;have ae:=aA ak;have af:=aA al;obtain⟨A,c,rfl,av,aw⟩:=ho.rd;have ac:=aA (is8 L B R px py rest 1 2 wr hr);clear ho hr hg aa ak al av aw;rcases hb:Y.is [1,2] rest with _|_
  ·rw[hb]at ac;have HB:=aA hb;clear hb;go_wp2_with fail
   refine ac.o.mono ?_;rintro _ w2 ⟨rfl,rfl⟩;go_wp2;go_ret
   obtain⟨e1,e2⟩:=Y.refs_end HB.o;rw[e1,CP]at ae;rw[e2]at af;refine⟨HG.o,_,rfl,?_,?_⟩
   ·rw[<-ae.o];exact HO.o
   ·rw[<-af.o];exact HR.o
  ·rw[hb]at ac;have HB:=aA hb;obtain⟨t,r,rfl,ab,hk⟩:=Y.is_true hb;have am:=aA (zfL L B R px py t r 1 2 wr HR.o hb);have HK:Hid (Y.isRef t=true):=aA hk;clear hb ab hk;unfold ze1 at am;go_wp2_with fail
   refine ac.o.mono ?_;rintro _ w2 ⟨rfl,rfl⟩;go_wp2_with fail
   refine am.o.mono ?_;rintro _ w3 ⟨rfl,ag,ao⟩;have ap:=aA ag;have ax:=aA ao;have ah:=aA (HO.o.grown ag HR.o.other);clear ag ao;have ay:=aA (zhb L w3 t);have az:Hid (w.heap.size<=w3.heap.size):=aA (by have h1:=HG.o.size;have h3:=ap.o.size;omega);have aq:Hid (acc.length<=4000):=aA (by have:=HL.o;simp at this;omega);go_wp2_with (at_builtin;refine zk7 rfl (.tmp 6) (.tmp 9) _ rfl Tryz.underlying133 L w.heap.size _ acc rfl (ah.o.alloc _) w3.heap.size 1 t rfl ay.o (by have:=aq.o;omega) (by have:=az.o;simp;omega) ?_;intro v4 w4 ar ai)
   have a0:=aA (zct (aK (HG.o.trans ap.o) _) (ah.o.alloc _) ai);have aj:=aA ((ax.o.alloc _).own (ah.o.alloc _) ai ad);have au:=aA ar;clear ar ai;go_roundw
   case rel =>
    refine⟨acc++[t],r,au.o,aj.o,a0.o,?_,?_,?_⟩
    ·have:=HL.o;simp at this ⊢;omega
    ·rw[<-ae.o,List.takeWhile_cons,HK.o];simp
    ·rw[<-af.o,List.dropWhile_cons,HK.o];rfl
   case measure =>
    obtain⟨A4,c4,rfl,_,_⟩:=au.o.rd
    have:=aq.o
    simp[zfS];omega
namespace Y
theorem zfC (left:Tok):∀(f:Nat) (acc:List Prd) (ts:List Tok) (ps:List Prd) (r:List Tok),alts f left acc ts=.ok ps r->ps.length+r.length<=acc.length+ts.length
 | 0,acc,ts,ps,r,h=>by injection h with h1 h2;subst h1 h2;exact Af _
 | f+1,acc,ts,ps,r,h=>by
  rw[alts]at h;obtain⟨p,m,h1,h2⟩:=bind_eq_ok h;obtain⟨t,m2,h3,h4⟩:=bind_eq_ok h2;have e1:=ziM h1;have e2:=congrArg List.length (take_ok h3).1;simp at e2;split at h4
  ·have:=zfC left f _ _ _ _ h4
   simp at this;omega
  ·injection h4 with h5 h6;subst h5 h6;simp;omega
theorem group_len {acc ps:List Prd} {ts r:List Tok} (h:group acc ts=.ok ps r):ps.length+r.length<acc.length+ts.length:=by
 unfold group at h;obtain⟨t,m,h1,h2⟩:=bind_eq_ok h;obtain⟨u,m2,h3,h4⟩:=bind_eq_ok h2;have e1:=congrArg List.length (take_ok h1).1;have e2:=congrArg List.length (take_ok h3).1;have e3:=zfC _ _ _ _ _ _ h4;simp at e1 e2;omega
end Y
theorem ze7 {size:Nat} {e t:TypeId} (h:w.ownsRow base e size v n xs) (hb:w.heap[g]?=some (.cells cs t (0,0))) (he:e≠t):v.ownBlock≠some g:=by
 intro hk;rcases h.2 with⟨rfl,_⟩|⟨g',cap,cur',rfl,_,hg,_⟩
 ·cases hk
 ·injection hk with hk;have aa:g'=g:=hk;subst aa;rw[hg]at hb;injection hb with e1;injection e1 with _ e2;exact he e2
theorem ze8 {size:Nat} {e t:TypeId} (h:w.ownsRow base e size v n xs) (hb:w.heap[g]?=some (.cells cs t (0,0))) (he:e≠t) (hg:w.grownBy w' v.ownBlock):w'.heap[g]?=some (.cells cs t (0,0)) :=
 (hg.block g (Ad.1 hb).1 (fun e'=>ze7 h hb he e'.symm)).trans hb
theorem bH.less {L:List Int} {ps:List Y.Prd} (h:bH L w base v ps) (hb:base'<=base):bH L w base' v ps:=by
 obtain⟨qs,h1,h2,h3⟩:=h;refine⟨qs,h1,⟨h2.1,?_⟩,fun q hq=>(h3 q hq).less hb⟩;rcases h2.2 with h0|⟨g,cap,cur,e,aa,hr⟩
 ·exact .inl h0
 ·exact .inr ⟨g,cap,cur,e,by omega,hr⟩
def zds (n:Nat) (w:World):Nat:=match w.cell? ⟨n,0,none⟩ with|some (.slice _ k _)=>k|_=>0
theorem bL.less {L:List Int} (h:bL L w base v ds) (hb:base'<=base):bL L w base' v ds:=by
 obtain⟨qs,h1,h2,h3⟩:=h;refine⟨qs,h1,⟨h2.1,?_⟩,fun q hq=>(h3 q hq).less hb⟩;rcases h2.2 with h0|⟨g,cap,cur,e,aa,hr⟩
 ·exact .inl h0
 ·exact .inr ⟨g,cap,cur,e,by omega,hr⟩
theorem zaR {a:World} (h:Below B a w) (u:Value) (hg:B<=g):Below B a (w.setCell ⟨g,i,none⟩ u) :=
 ⟨h.os,h.tape,h.output,by simpa[World.setCell] using h.size,fun k hk=>(AP w ⟨g,i,none⟩ u k (by simp only;omega)).trans (h.block k hk)⟩
structure Stands (L:List Int) (x:Tok):Prop where
 o:x.o<L.length
 len:x.t.length<=L.length-x.o
 text:(L.drop x.o).take x.t.length=x.t
 name:(x.k==1)=T.isName x.t
 lit:(x.k==2)=T.isLit x.t
 bytes:K.Bytes x.t
theorem zfQ (L:List Int) (hL:K.Bytes L) (k:Nat) (hk:k<L.length) (x:T.P3) (hf:T.Fine (L.drop k) x) (he:x.2.2=0):Stands L ⟨x.1,bA x.1 ((L.drop k).take x.2.1),k⟩:=by
 obtain⟨xk,xn,xe⟩:=x;obtain⟨h1,_,_,_,_,_⟩:=hf;obtain⟨h2,h3,h4,h5⟩:=h1 he;simp only at h2 h3 h4 h5;rw[Bl]at h3;have aa:((L.drop k).take xn).length=xn:=by rw[Bb,Bl];omega
 by_cases ab:xk=1
 ·subst ab;have hn:=h4 rfl;have e:bA 1 ((L.drop k).take xn)=(L.drop k).take xn:=by simp[bA]
  refine⟨hk,?_,?_,?_,?_,?_⟩
  ·simp only;rw[e,aa];exact h3
  ·simp only;rw[e,aa]
  ·simp only;rw[e,hn];rfl
  ·simp only;rw[e,T.name_lit _ hn];rfl
  ·simp only;rw[e];exact(hL.drop k).take xn
 ·by_cases ac:xk=2
  ·subst ac;have hn:=h5 rfl;have e:bA 2 ((L.drop k).take xn)=(L.drop k).take xn:=by simp[bA]
   have ad:T.isName ((L.drop k).take xn)=false:=by
    rcases hq:T.isName ((L.drop k).take xn) with _|_
    ·rfl
    ·have:=T.name_lit _ hq;rw[hn]at this;cases this
   refine⟨hk,?_,?_,?_,?_,?_⟩
   ·simp only;rw[e,aa];exact h3
   ·simp only;rw[e,aa]
   ·simp only;rw[e,ad];rfl
   ·simp only;rw[e,hn];rfl
   ·simp only;rw[e];exact(hL.drop k).take xn
  ·have e:bA xk ((L.drop k).take xn)=[]:=by unfold bA;rw[AG (by omega)]
   refine⟨hk,?_,?_,?_,?_,?_⟩
   ·simp only;rw[e];simp
   ·simp only;rw[e];simp
   ·simp only;rw[e,AY.2 ab];rfl
   ·simp only;rw[e,AY.2 ac];rfl
   ·simp only;rw[e];exact K.Bytes.nil
def ziu (L:List Int) (k:Nat) (xs:List Tok):Prop:=(∀x∈xs,Stands L x/\x.o<k)/\xs.Pairwise (fun a b=>a.o<b.o)
theorem zdE (L:List Int) (hL:K.Bytes L):∀(f k m:Nat) (acc xs:List Tok),k<=L.length->ziu L k acc->zfT f (L.drop k) k m acc=.ok xs->ziu L L.length xs
 | 0,k,m,acc,xs,hk,hr,h=>by
  injection h with h;subst h;exact⟨fun x hx=>⟨(hr.1 x hx).1,(hr.1 x hx).1.o⟩,hr.2⟩
 | f+1,k,m,acc,xs,hk,hr,h=>by
  by_cases he:(L.drop k).length=0\/m=2
  ·rw[zeW _ _ _ _ _ he]at h;injection h with h;subst h;exact⟨fun x hx=>⟨(hr.1 x hx).1,(hr.1 x hx).1.o⟩,hr.2⟩
  ·have ab:k<L.length:=by rw[Bl]at he;omega
   have hf:=T.piece_fine (L.drop k) (by rw[Bl];omega) (hL.drop k);by_cases hb:(T.piece (L.drop k)).2.2=0
   ·rw[zgX _ _ _ _ _ he hb]at h;obtain⟨ad,ac,_,_⟩:=hf.1 hb;rw[Bl]at ac;rw[DP]at h;refine zdE L hL f _ _ _ xs (by omega) ?_ h;unfold more;split
    ·exact⟨fun x hx=>⟨(hr.1 x hx).1,by have:=(hr.1 x hx).2;omega⟩,hr.2⟩
    ·refine⟨fun x hx=>?_,?_⟩
     ·rcases Bs.1 hx with h1|h1
      ·exact⟨(hr.1 x h1).1,by have:=(hr.1 x h1).2;omega⟩
      ·rw[AJ]at h1;subst h1;exact⟨zfQ L hL k ab _ hf hb,by simp only;omega⟩
     ·rw[DX];refine⟨hr.2,List.pairwise_singleton _ _,fun a ha b aa=>?_⟩;rw[AJ]at aa;subst aa;exact(hr.1 a ha).2
   ·rw[zeX _ _ _ _ _ he hb]at h;cases h
theorem zgJ (L:List Int) (hL:K.Bytes L) (xs:List Tok) (h:zki L=.ok xs):ziu L L.length xs :=
 zdE L hL _ 0 0 [] xs (AU _) ⟨fun x hx=>by simp at hx,List.Pairwise.nil⟩ (by simpa[zki] using h)
theorem ziu.lt {L:List Int} {xs:List Tok} (h:ziu L k xs) (i j:Nat) (aa:i<j) (hj:j<xs.length):xs[i].o<xs[j].o :=
 CB.1 h.2 i j (by omega) hj aa
theorem ziu.at {L:List Int} {xs:List Tok} (h:ziu L k xs) (i:Nat) (hi:i<xs.length):Stands L xs[i]:=(h.1 _ (AC hi)).1
theorem ziu.ge {L:List Int} {xs:List Tok} (h:ziu L k xs):∀(i:Nat) (hi:i<xs.length),i<=xs[i].o
 | 0,_=>AU _
 | i+1,hi=>by
  have h1:=h.ge i (by omega);have h2:=h.lt i (i+1) (by omega) hi;omega
theorem ziu.count {L:List Int} {xs:List Tok} (h:ziu L k xs):xs.length<=L.length:=by
 rcases Dj xs.length with h0|h0
 ·omega
 ·have h1:=h.ge (xs.length-1) (by omega);have h2:=(h.at (xs.length-1) (by omega)).o;omega
theorem za5 (w:World) (A:Option Addr) (c n i j:Nat) (h1:i<=j) (h2:j<=c):(Instr.sliceAt 65 (.slice A n c) (some (.int .i64 i)) (some (.int .i64 j)) none).run Tryz.prog w=.ok (.slice (dropA A c i) (j-i) (c-i)) w:=by
 rw[DW _ _ _ _ _ _ (by kernel_rfl),run_slice_lh _ _ _ _ _ (by kernel_rfl) .i64 .i64 (i:Int) (j:Int) (by omega) (by omega) (by omega)];have hs:(sizeOf (Tryz.prog.elem 65)).run Tryz.prog w=.ok 1 w:=by kernel_rfl
 rw[hs];simp[Result.andThen,sliced,dropA]
namespace T
theorem str_list (l:List Int):(K.str l).toList=Lib.bytesOf l:=by
 rw[CM];rfl
theorem pre_take (l s:List Int):pre l s=((K.str (l.take s.length)).toList==(K.str s).toList):=by
 rw[str_list,str_list];have e:Lib.bytesOf (l.take s.length)=(Lib.bytesOf l).take (Lib.bytesOf s).length:=by simp[Lib.bytesOf,List.map_take]
 rw[e];unfold pre Lib.hasPrefix;rw[Bt,List.isPrefixOf_iff_prefix,BI,List.prefix_iff_eq_take,eq_comm]
theorem pre_short (l s:List Int) (h:l.length<s.length):pre l s=false:=by
 rcases hp:pre l s with _|_
 ·rfl
 ·have:=zch l s hp;omega
theorem ix_cons (z:Int) (r s:List Int):ix (z::r) s=if pre (z::r) s then 0 else if ix r s<0 then -1 else ix r s+1:=by
 unfold ix pre Lib.hasPrefix;rw[show Lib.bytesOf (z::r)=UInt8.ofNat z.toNat::Lib.bytesOf r from rfl,Lib.index]
 have:=Lib.index_ge (Lib.bytesOf r) (Lib.bytesOf s)
 split
 ·rfl
 ·by_cases h:Lib.index (Lib.bytesOf r) (Lib.bytesOf s) = -1
  ·rw[h];simp
  ·have h1:(Lib.index (Lib.bytesOf r) (Lib.bytesOf s) == -1)=false:=by simpa using h
   rw[h1];simp only[Dy,if_false];rw[AG (by omega)]
theorem ix_nil (s:List Int) (h:s.length≠0):ix [] s = -1:=by
 cases s with
 | nil=>simp at h
 | cons a b=>rfl
theorem ix_next (l s:List Int) (k:Nat) (h:k<l.length):ix (l.drop k) s=if pre (l.drop k) s then 0 else if ix (l.drop (k+1)) s<0 then -1 else ix (l.drop (k+1)) s+1:=by
 rw[L.cons_drop l k h,ix_cons]
end T
theorem zaU (A:Option Addr) (c B:Nat) (l s:List Int) (k:Nat) (w:World) (hr:RdB w B A l) (hl:K.Bytes l) (hc:l.length<=c) (hn:l.length<=5000) (hk:k<=l.length) (hs:s.length<=5000) :
  Calls Tryz.prog 121 #[.slice A l.length c,.int .i64 k,.string (K.str s)] w fun e w'=>e=.returned (.bool (T.pre (l.drop k) s))/\w=w':=by
 have b:=K.str_size s;by_cases h:k+s.length<=l.length
 ·have hp:=T.pre_take (l.drop k) s;have C1:=zbp (((hr.dropA hc k).take s.length)) ((hl.drop k).take s.length) (c-k);have S1:=fun w=>za5 w A c l.length k (k+s.length) (by omega) (by omega);rw[Bb,Bl,Eg (by omega)]at C1;rw[show k+s.length-k=s.length by omega]at S1;have aa:(k:Int)+((K.str s).size:Int)=((k+s.length:Nat):Int):=by rw[b];omega
  have h1:((k+s.length:Nat):Int)<=(l.length:Int):=by omega
  have HP:=aA hp;clear hp b hr hl hk hs hc;generalize T.pre (l.drop k) s=pb at *;generalize K.str (List.take s.length (List.drop k l))=st at *;generalize K.str s=s2 at *;generalize k+s.length=m at *;generalize dropA A c k=D at *;generalize c-k=c2 at *;generalize s.length=sl at *
  go_enter Tryz.func121,Tryz.ntmps121
  go_wp2_with (first|simp only[S1]|simp only[C1])
  go_ret
  exact⟨aE HP.o.symm,rfl⟩
 ·rw[T.pre_short (l.drop k) s (by rw[Bl];omega)];have h1:¬(k:Int)+((K.str s).size:Int)<=(l.length:Int):=by rw[b];omega
  have h2:(k:Int)+((K.str s).size:Int)<=20000:=by rw[b];omega
  have h3:0<=(k:Int)+((K.str s).size:Int):=by omega
  clear hr hl hk hs hc b;generalize K.str s=s2 at *
  go_enter Tryz.func121,Tryz.ntmps121
  go_wp2;go_ret
  exact⟨rfl,rfl⟩
def T.pastV (l s:List Int) (k:Nat):Int:=if T.ix (l.drop k) s<0 then -1 else k+T.ix (l.drop k) s+s.length
theorem T.pastV_on (l s:List Int) (k:Nat) (h:k<l.length) (hp:T.pre (l.drop k) s=false):T.pastV l s k=T.pastV l s (k+1):=by
 unfold T.pastV;have hx:=T.ix_next l s k h;rw[hp]at hx;simp only[Dy,if_false]at hx;have hg:=T.ix_ge (l.drop (k+1)) s;by_cases h1:T.ix (l.drop (k+1)) s<0
 ·rw[Az h1]at hx;rw[Az (by omega),Az h1]
 ·rw[AG h1]at hx;rw[AG (by omega),AG h1,hx];simp only[Int.natCast_add];omega
theorem T.pastV_here (l s:List Int) (k:Nat) (h:k<l.length) (hp:T.pre (l.drop k) s=true):T.pastV l s k=k+s.length:=by
 unfold T.pastV;have hx:=T.ix_next l s k h;rw[hp,Az rfl]at hx;rw[hx];simp
theorem T.pastV_end (l s:List Int) (k:Nat) (h:l.length<=k) (hs:s.length≠0):T.pastV l s k = -1:=by
 unfold T.pastV;rw[BM h,T.ix_nil s hs];rfl
theorem zcb (A:Option Addr) (c B:Nat) (l s:List Int) (k:Nat) (w:World) (hr:RdB w B A l) (hl:K.Bytes l) (hc:l.length<=c) (hn:l.length<=5000) (hk:k<=6000) (hs:s.length<=5000) (ac:s.length≠0) :
  Calls Tryz.prog 122 #[.slice A l.length c,.int .i64 k,.string (K.str s)] w fun e w'=>e=.returned (.int .i64 (T.pastV l s k))/\w=w':=by
 have HP:=aA (fun(j:Nat) (h:j<=l.length)=>zaU A c B l s j w hr hl hc hn h hs);have ad:=aA (K.str_size s);have HE:=aA (fun j h=>T.pastV_end l s j h ac);have HH:=aA (T.pastV_here l s);have HO:=aA (T.pastV_on l s);clear hr hl hc ac
 go_enter Tryz.func122,Tryz.ntmps122
 go_wp2
 go_loop [1] (fun vi=>∃(j:Nat),j<=6000/\vi=.int .i64 j/\T.pastV l s j=T.pastV l s k) (fun vi=>6001-(intOf vi).toNat)
 case atStart=>exact⟨k,hk,rfl,rfl⟩
 case round =>
  obtain⟨j,hj,rfl,he⟩:=hrel;have HV:=aA he;clear he;by_cases ae:j<l.length
  ·have ab:=aA (HP.o j (by omega));rcases hb:T.pre (l.drop j) s with _|_
   ·rw[hb]at ab;have HN:=aA (HO.o j ae hb);clear hb HP HE HH HO;go_wp2_with fail
    refine ab.o.mono ?_;rintro _ w' ⟨rfl,rfl⟩;go_wp2
    go_round
    case rel=>exact⟨j+1,by omega,by go_num,by rw[<-HV.o,HN.o]⟩
    case measure=>simp[intOf];omega
   ·rw[hb]at ab;have HN:=aA (HH.o j ae hb);clear hb HP HE HH HO;have aa:=ad.o;have af:(j:Int)+((K.str s).size:Int)<=20000:=by rw[aa];omega
    have HZ:=aA aa;clear aa ad;generalize K.str s=s2 at *;go_wp2_with fail
    refine ab.o.mono ?_;rintro _ w' ⟨rfl,rfl⟩;go_wp2;go_ret
    exact⟨aQ (by rw[<-HV.o,HN.o,HZ.o]),rfl⟩
  ·have HN:=aA (HE.o j (by omega));clear HP HE HH HO;go_wp2;go_ret
   exact⟨aQ (by rw[<-HV.o,HN.o]),rfl⟩
theorem T.line_cons (z:Int) (r:List Int) (hb:K.Bytes (z::r)):T.line (z::r)=if z=10 then [] else z::T.line r:=by
 have hp:T.pre (z::r) [10]=decide (z=10):=by
  unfold T.pre Lib.hasPrefix;simp only[Lib.bytesOf,Bw,Dr,List.isPrefixOf,Bool.and_true]
  have:=hb.hd
  rw[Bt,BZ,BI]
  constructor
  ·intro h
   have:=congrArg UInt8.toNat h
   simp at this;omega
  ·rintro rfl;rfl
 have hx:=T.ix_cons z r [10];have hg:=T.ix_ge r [10];rw[hp]at hx;unfold T.line;by_cases h:z=10
 ·rw[Az h];rw[AL h,Az rfl]at hx;rw[hx];rfl
 ·rw[AG h];rw[AO h,AG (by simp)]at hx;by_cases h1:T.ix r [10]<0
  ·rw[Az h1]at hx;rw[AG (by omega),AG (by omega)]
  ·rw[AG h1]at hx;rw[Az (by omega),Az (by omega),hx];rw[show(T.ix r [10]+1).toNat=(T.ix r [10]).toNat+1 by omega];rfl
theorem zdJ (A:Option Addr) (c B:Nat) (l:List Int) (k:Nat) (w:World) (hr:RdB w B A l) (hl:K.Bytes l) (hn:l.length<=5000) (hk:k<=l.length) :
  Calls Tryz.prog 123 #[.slice A l.length c,.int .i64 k] w fun e w'=>e=.returned (.int .i64 ((k+(T.line (l.drop k)).length:Nat):Int))/\w=w':=by
 go_enter Tryz.func123,Tryz.ntmps123
 go_wp2
 go_loop [1] (fun vi=>∃(j:Nat),j<=l.length/\vi=.int .i64 j/\j+(T.line (l.drop j)).length=k+(T.line (l.drop k)).length) (fun vi=>l.length-(intOf vi).toNat)
 case atStart=>exact⟨k,hk,rfl,rfl⟩
 case round =>
  obtain⟨j,hj,rfl,he⟩:=hrel;have HV:=aA he;clear he;by_cases af:j<l.length
  ·obtain⟨g,o,rfl,_,ad⟩:=hr (by omega);have ae:=ad j (by omega);have ab:=L.cons_drop l j af;have ac:=T.line_cons (l.getD j 0) (l.drop (j+1)) (ab▸hl.drop j);rw[<-ab]at ac;have HL:=aA ac;clear ad hr hl ab ac;generalize l.getD j 0=z at *;by_cases aa:z=10
   ·subst aa;go_wp2;go_ret
    exact⟨aQ (by have h:=HV.o;have h2:=HL.o;simp only[if_true]at h2;rw[h2]at h;simp at h;omega),rfl⟩
   ·have ag:(z==10)=false:=by simpa using aa
    have HN:=aA aa;clear aa;go_wp2
    go_round
    case rel=>exact⟨j+1,by omega,by go_num,by rw[<-HV.o,HL.o,AG HN.o];simp;omega⟩
    case measure=>simp[intOf];omega
  ·obtain rfl:j=l.length:=by omega
   clear hr hl;go_wp2;go_ret
   exact⟨aQ (by have h:=HV.o;rw[Et,show T.line []=[] from rfl]at h;simp at h;omega),rfl⟩
def T.quoV (q:Int) (l:List Int) (k:Nat):Int:=match T.quoted q (l.drop k) with|none=>-1|some n=>k+n
theorem T.quoted_nil (q:Int):T.quoted q []=none:=by simp[T.quoted]
theorem T.quoV_end (q:Int) (l:List Int) (k:Nat) (h:l.length<=k):T.quoV q l k = -1:=by
 unfold T.quoV;rw[BM h,T.quoted_nil]
theorem T.quoV_here (q:Int) (l:List Int) (k:Nat) (h:k<l.length) (hq:l.getD k 0=q):T.quoV q l k=k+1:=by
 unfold T.quoV;rw[L.cons_drop l k h,hq]
 have:T.quoted q (q::l.drop (k+1))=some 1:=by unfold T.quoted;rw[Az rfl]
 rw[this];rfl
theorem T.quoV_on (q:Int) (l:List Int) (k:Nat) (h:k<l.length) (hq:¬l.getD k 0=q) (aa:¬l.getD k 0=92):T.quoV q l k=T.quoV q l (k+1):=by
 unfold T.quoV;rw[L.cons_drop l k h]
 have:T.quoted q (l.getD k 0::l.drop (k+1))=(T.quoted q (l.drop (k+1))).map (· + 1):=by
  generalize l.drop (k+1)=r;cases r with
  | nil =>
   rw[T.quoted_nil]
   have h1:T.quoted q [l.getD k 0]=none:=by
    generalize l.getD k 0=z at *;simp[T.quoted,hq,aa]
   rw[h1];rfl
  | cons a b=>rw[T.quoted,AG hq,AG aa]
 rw[this];cases T.quoted q (l.drop (k+1)) with
 | none=>rfl
 | some n=>simp only[DH];omega
theorem T.quoV_two (q:Int) (l:List Int) (k:Nat) (h:k<l.length) (hq:¬l.getD k 0=q) (aa:l.getD k 0=92):T.quoV q l k=T.quoV q l (k+2):=by
 unfold T.quoV;rw[L.cons_drop l k h];by_cases h2:k+1<l.length
 ·rw[L.cons_drop l (k+1) h2]
  have:T.quoted q (l.getD k 0::l.getD (k+1) 0::l.drop (k+1+1))=(T.quoted q (l.drop (k+2))).map (· + 2):=by
   rw[T.quoted,AG hq,Az aa]
  rw[this];cases T.quoted q (l.drop (k+2)) with
  | none=>rfl
  | some n=>simp only[DH];omega
 ·rw[BM (by omega:l.length<=k+1),BM (by omega:l.length<=k+2),T.quoted_nil]
  have:T.quoted q [l.getD k 0]=none:=by rw[T.quoted,AG hq,Az aa]
  rw[this]
theorem zei (A:Option Addr) (c B:Nat) (l:List Int) (k:Nat) (w:World) (hr:RdB w B A l) (hn:l.length<=5000) (hk:k<l.length) :
  Calls Tryz.prog 156 #[.slice A l.length c,.int .i64 k] w fun e w'=>e=.returned (.int .i64 (T.quoV (l.getD k 0) l (k+1)))/\w=w':=by
 obtain⟨g,o,rfl,_,ac⟩:=hr (by omega);have aa:=ac k hk;have HE:=aA (T.quoV_end (l.getD k 0) l);have HH:=aA (T.quoV_here (l.getD k 0) l);have HO:=aA (T.quoV_on (l.getD k 0) l);have HT:=aA (T.quoV_two (l.getD k 0) l);have HC:=aA ac;clear ac hr;generalize l.getD k 0=q at *
 go_enter Tryz.func156,Tryz.ntmps156
 go_wp2
 go_loop [1] (fun vi=>∃(j:Nat),j<=l.length+1/\vi=.int .i64 j/\T.quoV q l j=T.quoV q l (k+1)) (fun vi=>l.length+2-(intOf vi).toNat)
 case atStart=>exact⟨k+1,by omega,by go_num,rfl⟩
 case round =>
  clear aa;obtain⟨j,hj,rfl,he⟩:=hrel;have HV:=aA he;clear he;by_cases ab:j<l.length
  ·have ae:=HC.o j ab;by_cases hz:l.getD j 0=q
   ·have HN:=aA (HH.o j ab hz);have af:(l.getD j 0==q)=true:=by simpa using hz
    clear hz HE HH HO HT HC;generalize l.getD j 0=z at *;go_wp2;go_ret
    exact⟨aQ (by rw[<-HV.o,HN.o]),rfl⟩
   ·have af:(l.getD j 0==q)=false:=by simpa using hz
    by_cases b:l.getD j 0=92
    ·have HN:=aA (HT.o j ab hz b);have ad:(l.getD j 0==92)=true:=by simpa using b
     clear hz b HE HH HO HT HC;generalize l.getD j 0=z at *;go_wp2
     go_round
     case rel=>exact⟨j+2,by omega,by go_num,by rw[<-HV.o,HN.o]⟩
     case measure=>simp[intOf];omega
    ·have HN:=aA (HO.o j ab hz b);have ad:(l.getD j 0==92)=false:=by simpa using b
     clear hz b HE HH HO HT HC;generalize l.getD j 0=z at *;go_wp2
     go_round
     case rel=>exact⟨j+1,by omega,by go_num,by rw[<-HV.o,HN.o]⟩
     case measure=>simp[intOf];omega
  ·have HN:=aA (HE.o j (by omega));clear HE HH HO HT HC;go_wp2;go_ret
   exact⟨aQ (by rw[<-HV.o,HN.o]),rfl⟩
theorem T.act_quo {o:Int} (h:T.act f (z::r) o=some m) (hz:z=39\/z=34):∃f' q m',T.quoted z r=some q/\T.act f' (r.drop q) o=some m'/\m=m'+(q+1):=by
 cases f with
 | zero=>simp[T.act]at h
 | succ f =>
  rw[T.act]at h;rw[Az hz]at h;split at h
  ·cases h
  ·rename_i q hq
   rw[Da]at h;obtain⟨m',h1,h2⟩:=h;exact⟨f,q,m',hq,h1,h2.symm⟩
theorem T.act_on {o:Int} (h:T.act f (z::r) o=some m) (hz:¬(z=39\/z=34)) (ho:0<T.ostep z o):∃f' m',T.act f' r (T.ostep z o)=some m'/\m=m'+1:=by
 cases f with
 | zero=>simp[T.act]at h
 | succ f =>
  rw[T.act]at h;rw[AG hz,Az ho,Da]at h;obtain⟨m',h1,h2⟩:=h;exact⟨f,m',h1,h2.symm⟩
theorem T.act_end {o:Int} (h:T.act f (z::r) o=some m) (hz:¬(z=39\/z=34)) (ho:¬0<T.ostep z o):m=1:=by
 cases f with
 | zero=>simp[T.act]at h
 | succ f =>
  rw[T.act]at h;rw[AG hz,AG ho]at h;exact(Ec h).symm
theorem T.act_nil {o:Int} (h:T.act f [] o=some m):False:=by
 cases f with
 | zero=>simp[T.act]at h
 | succ f=>rw[T.act]at h;cases h
theorem zel (A:Option Addr) (c B:Nat) (l:List Int) (k n f0:Nat) (w:World) (hr:RdB w B A l) (hn:l.length<=5000) (hk:k<l.length) (hz:l.getD k 0=123) (ha:T.act f0 (l.drop k) 0=some n) :
  Calls Tryz.prog 124 #[.slice A l.length c,.int .i64 k] w fun e w'=>e=.returned (.int .i64 ((k+n:Nat):Int))/\w=w':=by
 have HQ:=aA (fun(j:Nat) (h:j<l.length)=>zei A c B l j w hr hn h);have HA:=aA ha;have HZ:=aA hz;clear ha hz
 go_enter Tryz.func124,Tryz.ntmps124
 go_wp2
 go_loop [1,5] (fun vi vo=>∃(j f m:Nat) (o:Int),j<=l.length/\vi=.int .i64 j/\vo=.int .i64 o/\0<=o/\o+k<=j/\T.act f (l.drop j) o=some m/\j+m=k+n/\(o=0->l.getD j 0=123)) (fun vi _=>l.length-(intOf vi).toNat)
 case atStart=>exact⟨k,f0,n,0,by omega,rfl,rfl,by omega,by omega,HA.o,rfl,fun _=>HZ.o⟩
 case round =>
  clear HA HZ;obtain⟨j,f,m,o,hj,rfl,rfl,ho,ak,d,hm,b⟩:=hrel;have HM:=aA hm;clear hm;by_cases aa:j<l.length
  ·obtain⟨g,o',rfl,_,ad⟩:=hr (by omega);have ae:=ad j aa;have ab:=aA (HQ.o j aa);rw[L.cons_drop l j aa]at d;have i:=aA d;clear d HQ ad hr;have HD:Hid (∀q,(l.drop (j+1)).drop q=l.drop (j+1+q)):=aA (fun q=>by rw[DP]);by_cases hq:l.getD j 0=39\/l.getD j 0=34
   ·obtain⟨f',q,m',h1,h2,h3⟩:=T.act_quo i.o hq;have ag:=T.quoted_le _ _ _ h1;rw[Bl]at ag;have hv:T.quoV (l.getD j 0) l (j+1)=((j+1+q:Nat):Int):=by unfold T.quoV;rw[h1];simp only;omega
    rw[hv]at ab;rw[HD.o]at h2;have H2:=aA h2;have H3:=aA h3;have r:¬o=0:=fun e=>by have:=b e;omega
    have ac:(o==0)=false:=by simpa using r
    clear h1 h2 h3 hv i b
    have ah:(l.getD j 0==123)=false/\(l.getD j 0==125)=false:=by
     rcases hq with e|e <;> rw[e] <;> exact⟨rfl,rfl⟩
    obtain⟨q1,q2⟩:=ah;have ai:0<=((j+1+q:Nat):Int):=by omega
    have al:j+1+q<=l.length:=by omega
    rcases hq with hq|hq
    focus
     have q3:(l.getD j 0==39)=true:=by rw[hq];rfl
    rotate_left
    focus
     have q3:(l.getD j 0==39)=false:=by rw[hq];rfl
     have q4:(l.getD j 0==34)=true:=by rw[hq];rfl
    all_goals
     clear hq;generalize l.getD j 0=z at *;generalize hx:j+1+q=x at *;have HX:=aA hx;clear hx;go_wp2_with fail
     refine ab.o.mono ?_;rintro _ w' ⟨rfl,rfl⟩;go_wp2
     go_round
     case rel=>exact⟨x,f',m',o,by omega,rfl,rfl,ho,by have:=HX.o;omega,H2.o,by have:=H3.o;have:=HM.o;have:=HX.o;omega,fun e=>absurd e r⟩
     case measure=>have:=HX.o;simp[intOf];omega
   ·have q3:(l.getD j 0==39)=false:=by simpa using fun e=>hq (.inl e)
    have q4:(l.getD j 0==34)=false:=by simpa using fun e=>hq (.inr e)
    have p:=aA (T.act_on i.o hq);have s:=aA (T.act_end i.o hq);clear i hq ab HD;by_cases h1:l.getD j 0=123
    ·have q1:(l.getD j 0==123)=true:=by rw[h1];rfl
     have hs:T.ostep (l.getD j 0) o=o+1:=by unfold T.ostep;rw[Az h1]
     obtain⟨f',m',h2,h3⟩:=p.o (by rw[hs];omega);rw[hs]at h2;have H2:=aA h2;have H3:=aA h3;clear p s h1 hs h2 h3 b;have ac:(o+1==0)=false:=by rw[AY];omega
     generalize l.getD j 0=z at *;go_wp2
     go_round
     case rel=>exact⟨j+1,f',m',o+1,by omega,by go_num,by go_num,by omega,by omega,H2.o,by have:=H3.o;have:=HM.o;omega,fun e=>by omega⟩
     case measure=>simp[intOf];omega
    ·have q1:(l.getD j 0==123)=false:=by simpa using h1
     have r:¬o=0:=fun e=>h1 (b e);by_cases h5:l.getD j 0=125
     ·have q2:(l.getD j 0==125)=true:=by rw[h5];rfl
      have hs:T.ostep (l.getD j 0) o=o-1:=by unfold T.ostep;rw[AG h1,Az h5]
      by_cases h0:0<o-1
      ·obtain⟨f',m',h2,h3⟩:=p.o (by rw[hs];omega);rw[hs]at h2;have H2:=aA h2;have H3:=aA h3;clear p s h1 h5 hs h2 h3 b;have ac:(o-1==0)=false:=by rw[AY];omega
       generalize l.getD j 0=z at *;go_wp2
       go_round
       case rel=>exact⟨j+1,f',m',o-1,by omega,by go_num,by go_num,by omega,by omega,H2.o,by have:=H3.o;have:=HM.o;omega,fun e=>by omega⟩
       case measure=>simp[intOf];omega
      ·have af:=s.o (by rw[hs];omega);have H3:=aA af;have aj:o=1:=by omega
       subst aj;clear p s h1 h5 hs af b h0 r;generalize l.getD j 0=z at *;go_wp2;go_ret
       exact⟨aQ (by have:=HM.o;have:=H3.o;omega),rfl⟩
     ·have q2:(l.getD j 0==125)=false:=by simpa using h5
      have hs:T.ostep (l.getD j 0) o=o:=by unfold T.ostep;rw[AG h1,AG h5]
      obtain⟨f',m',h2,h3⟩:=p.o (by rw[hs];omega);rw[hs]at h2;have H2:=aA h2;have H3:=aA h3;clear p s h1 h5 hs h2 h3 b;have ac:(o==0)=false:=by simpa using r
      generalize l.getD j 0=z at *;go_wp2
      go_round
      case rel=>exact⟨j+1,f',m',o,by omega,by go_num,rfl,by omega,by omega,H2.o,by have:=H3.o;have:=HM.o;omega,fun e=>absurd e r⟩
      case measure=>simp[intOf];omega
  ·exfalso
   rw[BM (by omega)]at d;exact T.act_nil d
theorem bL.at {L:List Int} (h:bL L w base v ds) (i:Nat) (hi:i<ds.length):∃D c A c',v=.slice (some ⟨D,0,none⟩) ds.length c/\w.cell? ⟨D,i*2,none⟩=some (.int .i64 ds[i].k)/\w.cell? ⟨D,i*2+1,none⟩=some (.slice A ds[i].ns.length c')/\RdR L w base A ds[i].ns:=by
 obtain⟨qs,rfl,h2,h3⟩:=h;have aa:i<qs.length:=by simpa using hi
 rcases h2.2 with⟨_,h0⟩|⟨g,cap,cur,rfl,_⟩
 ·omega
 ·refine⟨g,cap,qs[i].2.1,qs[i].2.2,rfl,?_,?_,?_⟩
  ·have:=CA h2 (g:=g) rfl (i*2+0) _ (by rw[zib qs i 0 aa (by omega)];rfl)
   rw[zeN,BA]at this
   simpa using this
  ·have:=CA h2 (g:=g) rfl (i*2+1) _ (by rw[zib qs i 1 aa (by omega)];rfl)
   rw[zeN,BA]at this
   simpa using this
  ·have:=h3 qs[i] (AC aa)
   simpa using this
theorem bH.at {L:List Int} {ps:List Y.Prd} (h:bH L w base v ps) (i:Nat) (hi:i<ps.length):∃D c A c',v=.slice (some ⟨D,0,none⟩) ps.length c/\(∀j u,j<5->(aW L ps[i] A c')[j]?=some u->w.cell? ⟨D,i*5+j,none⟩=some u)/\RdR L w base A ps[i].r:=by
 obtain⟨qs,rfl,h2,h3⟩:=h;have aa:i<qs.length:=by simpa using hi
 rcases h2.2 with⟨_,h0⟩|⟨g,cap,cur,rfl,_⟩
 ·omega
 ·refine⟨g,cap,qs[i].2.1,qs[i].2.2,rfl,fun j u hj hu=>?_,?_⟩
  ·have:=CA h2 (g:=g) rfl (i*5+j) u (by rw[zkB L qs i j aa hj];simpa using hu)
   rw[zeN,BA]at this;exact this
  ·have:=h3 qs[i] (AC aa)
   simpa using this
namespace Y
end Y
theorem bU.base_le {L:List Int} {xs:List Tok} (h:bU L w base v xs) (hb:base'<=base):bU L w base' v xs:=by
 refine⟨h.1,?_⟩;rcases h.2 with h0|⟨g,cap,cur,e,aa,hr⟩
 ·exact .inl h0
 ·exact .inr ⟨g,cap,cur,e,by omega,hr⟩
end Go.Proofs.YtcmhaemaophplaaGreat
