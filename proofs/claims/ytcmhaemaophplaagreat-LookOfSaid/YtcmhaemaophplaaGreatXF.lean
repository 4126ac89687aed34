/- Part of the proofs over this program: TrimReach, TrimRef, YaccW, LexToks, YaccRd, YaccP, Ref8R, YaccSource, YaccOf, ScanL, Ref7, YaccList. -/
import Derived.Deep.DeepCutAuto
import Derived.Defers
import Derived.Recover
import Derived.Test.YtcmhaemaophplaaGreatXE
set_option linter.all false
namespace Go
def BD:=@And.intro
def EB:=@Go.RowKit.Below.setCell
def CO:=@List.getElem?_take_of_lt
def B8:=@Go.bodyPost_ret
def DR:=@List.drop_drop
def Ew:=@List.drop_length
end Go
open Go.RowKit Go.Proofs.Tryz
set_option maxRecDepth 100000
set_option maxHeartbeats 40000000
namespace Go.Proofs.YtcmhaemaophplaaGreat
variable {A:Option Go.Addr} {B B' base base' f g i k m n px py:Nat} {G:Gm.Gr} {cs:Array Go.Value} {ds:List Y.kB} {ops:Array Go.Oper} {r:List Int} {rs:List Gm.Rl} {tm:Bool} {v:Go.Value} {w w':Go.World} {xs:List Go.Value} {z:Int}
def Gm.vr (p is:List Bool) (x:Gm.Rl):List Int:=if is.getD x.l.toNat false=true/\Gm.iw true p x.r=true then Gm.p9 x.r else []
theorem NX (x:Gm.Rl) (is p:List Bool) (A A1 A2:Option Addr) (c c1 c2 B B1 B2 gk gp:Nat) (w:World) (ag:w.cell? ⟨gk,0,none⟩=some (.slice A1 is.length c1)) (ac:w.cell? ⟨gp,0,none⟩=some (.slice A2 p.length c2)) (hr:gd w B A x.r) (h1:jl w B1 A1 is) (h2:jl w B2 A2 p) (hB:B<=w.heap.size) (aa:B2<=w.heap.size) (ab:∀z∈x.r,Gm.In z) (hs:∀z∈x.r,z<0->-1-z<(p.length:Int)) (hx:0<=x.l/\x.l<is.length) (hl:x.r.length<=1000000) :
  Calls prog 163 #[.agg #[.int .i64 x.l,.slice A x.r.length c,.int .i64 x.p],.pointer (some ⟨gk,0,none⟩),.pointer (some ⟨gp,0,none⟩)] w fun e w'=>∃v,e=.returned v/\aV w' w.heap.size v (Gm.vr p is x)/\Below w.heap.size w w':=by
 have HA:=aA (fun o=>(AB w.heap.size w).alloc (Af _) o);have ad:=aA (fun(y:World) (h:Below w.heap.size w y)=>KO x A c B y (hr.below h hB) ab (Aj hB h.size) hl);have i:=aA (fun(y:World) (h:Below w.heap.size w y)=>Jr x p A A2 c c2 w.heap.size y ((hr.below h hB).more hB) ab hs ((h2.below h aa).more aa) h.size hl);have HE:Hid (Gm.vr p is x=if is.getD x.l.toNat false=true/\Gm.iw true p x.r=true then Gm.p9 x.r else []):=aA rfl;obtain⟨l,r,q⟩:=x;obtain⟨m,rfl⟩:∃m:Nat,l=(m:Int):=⟨l.toNat,by have:=hx.1;simp only at this;omega⟩
 simp only[Cq]at HE hx ad i ⊢;obtain⟨g,o,rfl,aj,hc⟩:=h1 (by omega);have hm:m<is.length:=by omega
 have ak:(m:Int)<(is.length:Int):=by omega
 have k0:=hc m hm;have al:=Bj ag;have am:=Bj ac;have ao:=Bj k0;have ap:=aA ac;generalize is.getD m false=b at *;clear hr h1 h2 hB aa ab hs hx hl hc;cases b
 ·have HX:=aA (HE.o.trans (AI (by simp)));clear HE
  go_enter func163,ntmps163
  go_wp2;go_ret
  exact⟨_,rfl,by rw[HX.o];exact aV.nil _ _,HA.o _⟩
 ·cases ha:Gm.iw true p r
  ·have HX:=aA (HE.o.trans (AI (by rw[ha];simp)));rw[ha]at i;clear HE ha
   go_enter func163,ntmps163
   go_wp2_with fail
   refine(i.o _ (HA.o _)).mono ?_;rintro _ w2 ⟨rfl,d⟩;have f:=aA ((HA.o (.cells #[.int .i64 m,.slice A r.length c,.int .i64 q] 48)).trans (d.mono (by simp)));clear d;go_wp2;go_ret
   exact⟨_,rfl,by rw[HX.o];exact aV.nil _ _,f.o⟩
  ·have HX:=aA (HE.o.trans (AC ⟨rfl,ha⟩));rw[ha]at i;clear HE ha
   go_enter func163,ntmps163
   go_wp2_with fail
   refine(i.o _ (HA.o _)).mono ?_;rintro _ w2 ⟨rfl,d⟩;have f:=aA ((HA.o (.cells #[.int .i64 m,.slice A r.length c,.int .i64 q] 48)).trans (d.mono (by simp)));have hb:=(d.block w.heap.size (by simp)).trans (AG w _);have d0:=AF w2 _ 0 _ _ _ hb;have d1:=AF w2 _ 1 _ _ _ hb;have d2:=AF w2 _ 2 _ _ _ hb;have ld:=(Ad.1 hb).1;clear d hb;go_wp2_with fail
   refine(ad.o _ f.o).mono ?_;rintro _ w3 ⟨v,rfl,ae,af⟩;have ah:=aA (ae.mono f.o.size);have ai:=aA (f.o.trans (af.mono f.o.size));clear ae af;go_wp2;go_ret
   exact⟨_,rfl,by rw[HX.o];exact ah.o,ai.o⟩
theorem Qv (w:World) (t:TypeId) (ht:prog.underlying t=some (.slice 4)) (n:Nat) (hn:n<=35184372088832) :
  ∃w',(Instr.makeSlice t (.int .i64 n) (.int .i64 n)).run prog w=.ok (.slice (some ⟨w.heap.size,0,none⟩) n n) w'/\fL w' w.heap.size (List.replicate n false)/\Below w.heap.size w w':=by
 obtain⟨i,hi,ac,ad,ae⟩:=Cs Mo;obtain⟨w',ab,aa,b⟩:=run_make_full (P:=prog) w w.heap.size t 4 i (.bool false) 1 ht hi ac ad .i64 .i64 n (by rw[ae];omega) (by unfold maxLen;omega) (Af _);refine⟨w',ab,?_,⟨b.os,b.tape,b.output,b.size,fun k hk=>b.block k hk (by simp)⟩⟩;refine Jt (base:=w.heap.size) (n:=n) ?_;rw[Jz]
 have e:(madeCells (Value.bool false).cells (n*1)).toList=List.replicate n (Value.bool false):=by
  rw[DG];exact DU _ _
 rw[e]at aa;exact aa
theorem R2 {o:Oper} {a:Act} {K:Act->World->Prop} {Q:Exit->Act->World->Prop} (l c:Operand) (t:TypeId) (ab:o.op=Op.makeSlice t l c) (ht:prog.underlying t=some (.slice 4)) (n:Nat) (hl:a.eval l=.int .i64 n) (hc:a.eval c=.int .i64 n) (hn:n<=35184372088832) (hK:∀w',fL w' w.heap.size (List.replicate n false)->Below w.heap.size w w'->K (a.put o.dst (.slice (some ⟨w.heap.size,0,none⟩) n n)) w'):Oper.wp prog o a w K Q:=by
 obtain⟨w',aa,h1,h2⟩:=Qv w t ht n hn;unfold Oper.wp;simp[execOp,ab,hl,hc,aa,Result.andThen];exact hK w' h1 h2
structure JR (w2:World) (n:Nat) (row:List Bool) (todo:List Nat) (wx:World) (x3 x5 x6 x7:Value) (g3 g5 c6 c7:Nat):Prop where
 t:∀k∈todo,k=3\/k=5\/k=6\/k=7
 b:Below w2.heap.size w2 wx
 h3:3 ∉ todo->x3=.slice (some ⟨g3,0,none⟩) n n/\w2.heap.size<=g3/\fL wx g3 (List.replicate n false)
 h5:5 ∉ todo->x5=.slice (some ⟨g5,0,none⟩) n n/\w2.heap.size<=g5/\fL wx g5 row
 h6:6 ∉ todo->x6=.pointer (some ⟨c6,0,none⟩)/\w2.heap.size<=c6/\wx.heap[c6]?=some (.cells #[.slice none 0 0] 43 (0,0))
 h7:7 ∉ todo->x7=.pointer (some ⟨c7,0,none⟩)/\w2.heap.size<=c7/\wx.heap[c7]?=some (.cells #[.slice none 0 0] 43 (0,0))
 d35:3 ∉ todo->5 ∉ todo->g3≠g5
 d67:6 ∉ todo->7 ∉ todo->c6≠c7
section
variable {w2 wx w':World} {n:Nat} {row:List Bool} {todo:List Nat} {x3 x5 x6 x7:Value} {g3 g5 c6 c7:Nat}
theorem aD {l:List Nat} {j:Nat} (h:j ∉ l.erase k) (aa:j≠k):j ∉ l:=fun hm=>h ((List.mem_erase_of_ne aa).2 hm)
theorem aC {o:Obj} (hb:Below wx.heap.size wx w') (h:wx.heap[g]?=some o):w'.heap[g]?=some o:=(hb.block g (Ad.1 h).1).trans h
theorem JR.yP (h:JR w2 n row todo wx x3 x5 x6 x7 g3 g5 c6 c7) (hb:Below wx.heap.size wx w') (hu:fL w' wx.heap.size (List.replicate n false)):JR w2 n row (todo.erase 3) w' (.slice (some ⟨wx.heap.size,0,none⟩) n n) x5 x6 x7 wx.heap.size g5 c6 c7 where
 t k hk:=h.t k (Bq hk)
 b:=h.b.trans (hb.mono h.b.size)
 h3 _:=⟨rfl,h.b.size,hu⟩
 h5 q:=by obtain⟨a1,a2,a3⟩:=h.h5 (aD q (by decide));exact⟨a1,a2,aC hb a3⟩
 h6 q:=by obtain⟨a1,a2,a3⟩:=h.h6 (aD q (by decide));exact⟨a1,a2,aC hb a3⟩
 h7 q:=by obtain⟨a1,a2,a3⟩:=h.h7 (aD q (by decide));exact⟨a1,a2,aC hb a3⟩
 d35 _ q:=by have:=fL.lt (h.h5 (aD q (by decide))).2.2;omega
 d67 q1 q2:=h.d67 (aD q1 (by decide)) (aD q2 (by decide))
theorem JR.uJ (h:JR w2 n row todo wx x3 x5 x6 x7 g3 g5 c6 c7) (hb:Below wx.heap.size wx w') (hg:wx.heap.size<=g) (hu:fL w' g row):JR w2 n row (todo.erase 5) w' x3 (.slice (some ⟨g,0,none⟩) n n) x6 x7 g3 g c6 c7 where
 t k hk:=h.t k (Bq hk)
 b:=h.b.trans (hb.mono h.b.size)
 h5 _:=⟨rfl,Aj h.b.size hg,hu⟩
 h3 q:=by obtain⟨a1,a2,a3⟩:=h.h3 (aD q (by decide));exact⟨a1,a2,aC hb a3⟩
 h6 q:=by obtain⟨a1,a2,a3⟩:=h.h6 (aD q (by decide));exact⟨a1,a2,aC hb a3⟩
 h7 q:=by obtain⟨a1,a2,a3⟩:=h.h7 (aD q (by decide));exact⟨a1,a2,aC hb a3⟩
 d35 q _:=by have:=fL.lt (h.h3 (aD q (by decide))).2.2;omega
 d67 q1 q2:=h.d67 (aD q1 (by decide)) (aD q2 (by decide))
theorem JR.uK (h:JR w2 n row todo wx x3 x5 x6 x7 g3 g5 c6 c7):JR w2 n row (todo.erase 6) (wx.alloc (.cells #[.slice none 0 0] 43)) x3 x5 (.pointer (some ⟨wx.heap.size,0,none⟩)) x7 g3 g5 wx.heap.size c7 where
 t k hk:=h.t k (Bq hk)
 b:=h.b.alloc h.b.size _
 h6 _:=⟨rfl,h.b.size,AG wx _⟩
 h3 q:=by obtain⟨a1,a2,a3⟩:=h.h3 (aD q (by decide));exact⟨a1,a2,a3.alloc _⟩
 h5 q:=by obtain⟨a1,a2,a3⟩:=h.h5 (aD q (by decide));exact⟨a1,a2,a3.alloc _⟩
 h7 q:=by obtain⟨a1,a2,a3⟩:=h.h7 (aD q (by decide));exact⟨a1,a2,aC ((AB _ _).alloc (Af _) _) a3⟩
 d35 q1 q2:=h.d35 (aD q1 (by decide)) (aD q2 (by decide))
 d67 _ q:=by have:=(Ad.1 (h.h7 (aD q (by decide))).2.2).1;omega
theorem JR.uL (h:JR w2 n row todo wx x3 x5 x6 x7 g3 g5 c6 c7):JR w2 n row (todo.erase 7) (wx.alloc (.cells #[.slice none 0 0] 43)) x3 x5 x6 (.pointer (some ⟨wx.heap.size,0,none⟩)) g3 g5 c6 wx.heap.size where
 t k hk:=h.t k (Bq hk)
 b:=h.b.alloc h.b.size _
 h7 _:=⟨rfl,h.b.size,AG wx _⟩
 h3 q:=by obtain⟨a1,a2,a3⟩:=h.h3 (aD q (by decide));exact⟨a1,a2,a3.alloc _⟩
 h5 q:=by obtain⟨a1,a2,a3⟩:=h.h5 (aD q (by decide));exact⟨a1,a2,a3.alloc _⟩
 h6 q:=by obtain⟨a1,a2,a3⟩:=h.h6 (aD q (by decide));exact⟨a1,a2,aC ((AB _ _).alloc (Af _) _) a3⟩
 d35 q1 q2:=h.d35 (aD q1 (by decide)) (aD q2 (by decide))
 d67 q _:=by have:=(Ad.1 (h.h6 (aD q (by decide))).2.2).1;omega
end
theorem Gm.yo (aa:Gm.Ok G) {s:List Bool} {x:Gm.Rl} (hx:x∈G.rs) (hd:∀i:Nat,s.getD i false=true->Gm.Rc G (i:Int)) {m:Int} (hm:m∈Gm.vr (Gm.gn true G.rs G.ns.length) s x):0<=m/\m<G.ns.length/\Gm.Rc G m:=by
 unfold Gm.vr at hm;split at hm
 ·rename_i h
  obtain⟨h1,h2⟩:=Gm.ly.1 hm;have h3:=aa.sin x hx _ h1 (by omega);have h4:=hd _ h.1;rw[BI (aa.iT x hx).1]at h4;have h5:=Gm.Rc.on x hx h4 ((Gm.kR aa.iT _).1 h.2) _ h1 (by omega);rw[show -1-(-1-m)=m by omega]at h5 h3;exact⟨h2,h3,h5⟩
 ·simp at hm
theorem Gm.vY (p s:List Bool) (x:Gm.Rl) (h:x.r.length<=6):(Gm.vr p s x).length<=1000000:=by
 unfold Gm.vr;split
 ·have:=Gm.oS x.r;omega
 ·simp
theorem Gm.Fq (aa:Gm.Ok G) {s:List Bool} (hl:s.length=G.ns.length) (hd:∀i:Nat,s.getD i false=true->Gm.Rc G (i:Int)) (ab:Gm.Le ((List.replicate G.ns.length false).set G.st.toNat true) s) (hc:∀x∈G.rs,∀m∈Gm.vr (Gm.gn true G.rs G.ns.length) s x,s.getD m.toNat false=true):s=Gm.rc G:=by
 refine Gm.uO hl hd ⟨ab.get _ (Gm.jA _ _ (by have:=aa.s0;have:=aa.s1;simp;omega)),fun x hx h1 h2 z hz hn=>?_⟩;refine hc x hx (-1-z) ?_;unfold Gm.vr;rw[AC ⟨h1,(Gm.kR aa.iT _).2 h2⟩];exact Gm.ly.2 ⟨by rw[show -1-(-1-z)=z by omega];exact hz,by omega⟩
theorem Gm.y6 (aa:Gm.Ok G) (i:Nat) (h:((List.replicate G.ns.length false).set G.st.toNat true).getD i false=true):Gm.Rc G (i:Int):=by
 rcases Gm.jx _ _ _ h with h1|h1
 ·rw[Ag,Dc]at h1;split at h1 <;> cases h1
 ·rw[h1,BI aa.s0];exact .st
theorem MW (v:Value) (G:Gm.Gr) (B:Nat) (w:World) (hg:aT w B v G) (hf:Gm.Fit G) (hB:B<=w.heap.size) :
  Calls prog 140 #[v] w (xB (Gm.right G) (Gm.rc G) w):=by
 have H1:=aA (fun(x:World) (h:Below w.heap.size w x)=>FC v G B x (hg.below h hB) hf (Aj hB h.size));have H2:=aA (fun(x:World) (h:Below w.heap.size w x)=>Hu v G B x (hg.below h hB) hf (Aj hB h.size));have bu:=aA (fun(x:World) (h:Below w.heap.size w x)=>hg.below h hB);obtain⟨AT,cT,AN,cN,AR,cR,rfl,_,⟨bv,bw⟩,_,_,_,hR⟩:=hg;have N:=aA (One.start w #[.slice AT G.ts.length cT,.slice AN G.ns.length cN,.slice AR G.rs.length cR,.int .i64 G.st]);have bl:=aA hR;have HB:=aA hB;have bm:=aA hf;clear hf hR hB;cases q:Gm.right G
 ·rw[q]at H1;clear q H2
  go_enter func140,ntmps140
  go_wp2_with fail
  refine(H1.o _ N.o.below).mono ?_;rintro _ w2 ⟨rfl,hb⟩;have A:=aA (N.o.on hb);clear hb;go_wp2;go_ret
  exact⟨fun h=>by simp at h,fun _=>⟨rfl,A.o.below⟩⟩
 ·have D:=aA (Gm.ft.1 q);have HN:Hid (G.ns.length<=40):=aA (by have:=(Gm.fG G).1 D.o.n;omega);have aq:Hid (G.rs.length<=40):=aA D.o.kz;have H2:=aA (fun x h=>(show Calls _ _ _ _ (tK _ _) from(H2.o x h).mono fun e w' k=>k.1 q));rw[q]at H1;clear q;have bx:=HN.o;have bo:(G.ns.length:Int)<=9223372036854775807:=by omega
  go_enter func140,ntmps140
  go_upto_region 3 with fail
  refine(H1.o _ N.o.below).mono ?_;rintro _ w2 ⟨rfl,hb⟩;have A:=aA (N.o.on hb);clear hb;go_upto_region 3 with fail
  have ax:Hid (Below w.heap.size w w2):=aA A.o.below;have bz:=aA ((Eb A.o w.heap.size (by omega)).trans (AG w _));have C:w.heap.size<w2.heap.size:=A.o.size;obtain⟨T,hT⟩:∃x,x=Gm.gn true G.rs G.ns.length:=⟨_,rfl⟩
  have ar:Hid (T.length=G.ns.length):=aA (by rw[hT,Gm.gW]);rw[<-hT]at H2;have HT:=aA hT;clear hT;have H3:=aA (fun(x:World) (h:Below w2.heap.size w2 x)=>H2.o x (ax.o.trans (h.mono (CQ C))));have q0:=fun y:Calm.On w2.heap.size w2=>(y.2.cell (p:=⟨w.heap.size,0,none⟩) C).trans (A.o.c 0 _ rfl);have q1:=fun y:Calm.On w2.heap.size w2=>(y.2.cell (p:=⟨w.heap.size,1,none⟩) C).trans (A.o.c 1 _ rfl);have q2:=fun y:Calm.On w2.heap.size w2=>(y.2.cell (p:=⟨w.heap.size,2,none⟩) C).trans (A.o.c 2 _ rfl);have q3:=fun y:Calm.On w2.heap.size w2=>(y.2.cell (p:=⟨w.heap.size,3,none⟩) C).trans (A.o.c 3 _ rfl);clear H1 N H2
  refine CalmN.rJ (fun x=>∃y:Calm.On w2.heap.size w2,x=y.1) [0,1,2,4] [3,5,6,7] (.one [] 8 (.one [] 9 (.fin [])))
   (fun todo a wx=>∃x3 x5 x6 x7 g3 g5 c6 c7,a = {tmps:=#[.agg #[.slice AT G.ts.length cT,.slice AN G.ns.length cN,.slice AR G.rs.length cR,.int .i64 G.st],.pointer (some ⟨w.heap.size,0,none⟩),.slice none 0 0,x6,x7,.agg #[.slice AT G.ts.length cT,.slice AN G.ns.length cN,.slice AR G.rs.length cR,.int .i64 G.st],.bool true,.bool false,.pointer (some ⟨w.heap.size,1,none⟩),.slice AN G.ns.length cN,.int .i64 G.ns.length,x3,.agg #[.slice AT G.ts.length cT,.slice AN G.ns.length cN,.slice AR G.rs.length cR,.int .i64 G.st],x5,undef,undef,undef,undef,undef,undef,undef,undef,undef,undef],defers:=[]}/\JR w2 G.ns.length T todo wx x3 x5 x6 x7 g3 g5 c6 c7)
   (by kernel_rfl) (by kernel_rfl) (fun _ _ d _ _ h=>by cases d <;> exact h) ⟨⟨w2.drew,aB (AB _ _) 1⟩,rfl⟩ ?_ ?_ ?_
  ·simp only[CalmN.fo,Az,Am,Ap];repeat (go_big_quiet_step (fail))
   refine Aw ?_;exact⟨undef,undef,undef,undef,0,0,0,0,rfl,⟨by simp,aB (AB _ _) 1,fun h=>absurd (by simp) h,fun h=>absurd (by simp) h,fun h=>absurd (by simp) h,fun h=>absurd (by simp) h,fun h=>absurd (by simp) h,fun h=>absurd (by simp) h⟩⟩
  ·intro todo k a wx hk hJ hS;obtain⟨x3,x5,x6,x7,g3,g5,c6,c7,rfl,hJ⟩:=hJ;have HJ:=aA hJ;have ae:=hJ.t k hk;clear hJ hS hk q0 q1 q2 q3;rcases ae with rfl|rfl|rfl|rfl
   ·simp only[CalmN.fv,Az,Am,Ap];intro KK j;rw[AC (by rfl)];refine R2 (.tmp 10) (.tmp 10) _ rfl underlying43 G.ns.length rfl rfl (by omega) ?_;intro w' hu hb;have hj:=HJ.o.yP hb hu;exact j _ _ ⟨⟨w',hj.b⟩,rfl⟩ _ (fun _ h=>h) ⟨⟨w',hj.b⟩,rfl⟩ ⟨_,x5,x6,x7,_,g5,c6,c7,rfl,hj⟩
   ·simp only[CalmN.fv,Az,Am,Ap];intro KK j;rw[AC (by rfl)];go_wp2_with fail
    refine(H3.o wx HJ.o.b).mono ?_;rintro _ w' ⟨g,rfl,hg,hu,hb⟩;have hj:=HJ.o.uJ hb hg hu;go_wp2_with fail
    rw[ar.o];exact j _ _ ⟨⟨w',hj.b⟩,rfl⟩ _ (fun _ h=>h) ⟨⟨w',hj.b⟩,rfl⟩ ⟨x3,_,x6,x7,g3,_,c6,c7,rfl,hj⟩
   ·simp only[CalmN.fv,Az,Am,Ap];intro KK j;rw[AC (by rfl)];have hj:=HJ.o.uK;go_wp2_with fail
    exact j _ _ ⟨⟨_,hj.b⟩,rfl⟩ _ (fun _ h=>h) ⟨⟨_,hj.b⟩,rfl⟩ ⟨x3,x5,_,x7,g3,g5,_,c7,rfl,hj⟩
   ·simp only[CalmN.fv,Az,Am,Ap];intro KK j;rw[AC (by rfl)];have hj:=HJ.o.uL;go_wp2_with fail
    exact j _ _ ⟨⟨_,hj.b⟩,rfl⟩ _ (fun _ h=>h) ⟨⟨_,hj.b⟩,rfl⟩ ⟨x3,x5,x6,_,g3,g5,c6,_,rfl,hj⟩
  ·intro a wx hJ hS;obtain⟨x3,x5,x6,x7,g3,g5,c6,c7,rfl,hJ⟩:=hJ;obtain⟨rfl,ai,f⟩:=hJ.h3 (by simp);obtain⟨rfl,ay,i⟩:=hJ.h5 (by simp);obtain⟨rfl,az,F⟩:=hJ.h6 (by simp);obtain⟨rfl,a0,aj⟩:=hJ.h7 (by simp);have af:=hJ.d35 (by simp) (by simp);have au:=hJ.d67 (by simp) (by simp);have a1:=hJ.b;clear hS q0 q1 q2 q3;have aa:g3≠c6:=fun e=>by subst e;unfold fL at f;rw[F]at f;injection f with f;injection f with _ f;cases f
   have ab:g5≠c6:=fun e=>by subst e;unfold fL at i;rw[F]at i;injection i with i;injection i with _ i;cases i
   have ac:g3≠c7:=fun e=>by subst e;unfold fL at f;rw[aj]at f;injection f with f;injection f with _ f;cases f
   have ad:g5≠c7:=fun e=>by subst e;unfold fL at i;rw[aj]at i;injection i with i;injection i with _ i;cases i
   have l6:=(Ad.1 F).1;have f6:=AH wx _ 0 _ _ F;have k6:=AF wx _ 0 _ _ _ F;obtain⟨wy,H⟩:∃y,y=wx.setCell ⟨c6,0,none⟩ (.slice (some ⟨g3,0,none⟩) G.ns.length G.ns.length):=⟨_,rfl⟩
   have ak:Below w2.heap.size w2 wy:=by rw[H];exact a1.setCell (p:=⟨c6,0,none⟩) az _
   have a2:fL wy g3 (List.replicate G.ns.length false):=by rw[H];exact fL.jr f aa _
   have a3:fL wy g5 T:=by rw[H];exact fL.jr i ab _
   have O:wy.heap[c7]?=some (.cells #[.slice none 0 0] 43 (0,0)):=by rw[H];exact(AU wx ⟨c6,0,none⟩ _ c7 (by simp only;omega)).trans aj
   have a4:wy.heap[c6]?=some (.cells #[.slice (some ⟨g3,0,none⟩) G.ns.length G.ns.length] 43 (0,0)):=by rw[H];exact AZ wx c6 0 _ _ _ F
   clear f i F aj hJ a1;simp only[CalmN.fN,CalmN.fv,CalmN.fo,Az,Am,Ap];refine Aw ?_;intro KK j;rw[AC (by rfl)];go_wp2_with fail
   rw[<-H];refine j _ _ ⟨⟨wy,ak⟩,rfl⟩ _ (fun _ h=>h) ⟨⟨wy,ak⟩,rfl⟩ ?_;clear j k6 f6 l6 H;have l7:=(Ad.1 O).1;have f7:=AH wy _ 0 _ _ O;have k7:=AF wy _ 0 _ _ _ O;obtain⟨wz,I⟩:∃y,y=wy.setCell ⟨c7,0,none⟩ (.slice (some ⟨g5,0,none⟩) G.ns.length G.ns.length):=⟨_,rfl⟩
   have E:Below w2.heap.size w2 wz:=by rw[I];exact ak.setCell (p:=⟨c7,0,none⟩) a0 _
   have U:fL wz g3 (List.replicate G.ns.length false):=by rw[I];exact fL.jr a2 ac _
   have a5:fL wz g5 T:=by rw[I];exact fL.jr a3 ad _
   have al:wz.heap[c6]?=some (.cells #[.slice (some ⟨g3,0,none⟩) G.ns.length G.ns.length] 43 (0,0)):=by rw[I];exact(AU wy ⟨c7,0,none⟩ _ c6 (by simp only;omega)).trans a4
   have a6:wz.heap[c7]?=some (.cells #[.slice (some ⟨g5,0,none⟩) G.ns.length G.ns.length] 43 (0,0)):=by rw[I];exact AZ wy c7 0 _ _ _ O
   clear a2 a3 a4 O ak;refine Aw ?_;intro KK j;rw[AC (by rfl)];go_wp2_with fail
   rw[<-I];refine j _ _ ⟨⟨wz,E⟩,rfl⟩ _ (fun _ h=>h) ⟨⟨wz,E⟩,rfl⟩ ?_;clear j k7 f7 l7 I;refine Aw ?_;have r2:=(E.cell (p:=⟨w.heap.size,2,none⟩) C).trans (A.o.c 2 _ rfl);have r3:=(E.cell (p:=⟨w.heap.size,3,none⟩) C).trans (A.o.c 3 _ rfl);have bp:=D.o.s0;have ag:=D.o.s1;obtain⟨m,hm⟩:∃m:Nat,G.st=(m:Int):=⟨G.st.toNat,by omega⟩
   have HM:=aA hm;rw[hm]at r3 ag;have k3:=U.cell m (by simp;omega);have f3:=U.frozen m;have l3:=U.lt;have k6:=AF wz _ 0 _ _ _ al;have l6:=(Ad.1 al).1;have ld:w.heap.size<wz.heap.size:=Ah C E.size;obtain⟨wv,J⟩:∃y,y=wz.setCell ⟨g3,m,none⟩ (.bool true):=⟨_,rfl⟩
   have am:Below w2.heap.size w2 wv:=by rw[J];exact E.setCell (p:=⟨g3,m,none⟩) ai _
   have a9:fL wv g3 ((List.replicate G.ns.length false).set m true):=by rw[J];exact U.jY m true
   have ba:fL wv g5 T:=by rw[J];exact fL.jr a5 (by simp only;omega) _
   have bb:wv.heap[c6]?=some (.cells #[.slice (some ⟨g3,0,none⟩) G.ns.length G.ns.length] 43 (0,0)):=by rw[J];exact(AU wz ⟨g3,m,none⟩ _ c6 (by simp only;omega)).trans al
   have bc:wv.heap[c7]?=some (.cells #[.slice (some ⟨g5,0,none⟩) G.ns.length G.ns.length] 43 (0,0)):=by rw[J];exact(AU wz ⟨g3,m,none⟩ _ c7 (by simp only;omega)).trans a6
   have HD:=aA (BD aa (BD ab (BD ac (BD ad (BD af (BD ai (BD ay E)))))));clear U a5 al a6 hm aa ab ac ad af au az a0 ay E;go_upto_region 5 with fail
   rw[<-J];have u2:=(am.cell (p:=⟨w.heap.size,2,none⟩) C).trans (A.o.c 2 _ rfl);have u6:=aS bb;have u7:=aS bc;have M:Below w.heap.size w wv:=ax.o.trans (am.mono (CQ C));have av:w.heap.size<=w2.heap.size:=CQ C;have bd:qR wv B AR G.rs:=bl.o.fp fun g o hg=>M.cell (p:=⟨g,o,none⟩) (Ah hg HB.o);have bf:G.st.toNat=m:=by rw[HM.o];simp
   have bg:B<=g3:=Aj (Aj HB.o av) ai;have aw:G.ns.length=T.length:=ar.o.symm
   have bh:=aA (Ky 163 c6 c7 (zP func163 (by kernel_rfl) (by kernel_rfl)) G.rs AR cR G.ns.length B g3 G.ns.length wv ((List.replicate G.ns.length false).set G.st.toNat true) (Gm.Rc G) (Gm.vr T)
    bd (Aj HB.o M.size) bg (by rw[bf];exact a9) (by simp) (Gm.y6 D.o) (by have:=aq.o;omega)
    (fun y s x A' c' ao hu hl hx hr=>by
     have e:=bm.o.r x hx;have q2:=xm ao u6 (fun e=>HD.o.1 e.symm);rw[<-hl]at q2;have q3:=xm ao u7 (fun e=>HD.o.2.2.1 e.symm);have q5:fL y g5 T:=ba.grown ao (fun e=>by injection e with e;exact HD.o.2.2.2.2.1 e.symm);rw[aw]at q3;exact NX x s T A' (some ⟨g3,0,none⟩) (some ⟨g5,0,none⟩) c' s.length T.length B y.heap.size y.heap.size c6 c7 y q2 q3 hr (hu.o4 hu.lt) (q5.o4 q5.lt) (Aj HB.o (Aj M.size ao.size)) (Af _) e.2.2 (fun z hz h=>by rw[<-aw];exact D.o.sin x hx z hz h) (by rw[hl];exact D.o.iT x hx) (by have:=(Gm.fJ (D.o.rr x hx)).1;omega))
    (fun s x hx hl hd m hm=>by rw[HT.o]at hm;exact Gm.yo D.o hx hd hm)
    (fun s x hx=>Gm.vY T s x (Gm.fJ (D.o.rr x hx)).1))
   have bi:=aA (fun(y:World) (h:wv.grownBy y (some g3))=>xm h u6 (fun e=>HD.o.1 e.symm));have ah:Hid (∀(y:World) (s:List Bool),qH wv y g3 G.ns.length (Gm.Rc G) ((List.replicate G.ns.length false).set G.st.toNat true) s->(∀x∈G.rs,∀m∈Gm.vr T s x,s.getD m.toNat false=true)->s=Gm.rc G/\Below w.heap.size w y):=aA (fun y s hg hc=>⟨Gm.Fq D.o hg.l hg.d hg.le (by rw[HT.o]at hc;exact hc),pF M hg.g (Aj av HD.o.2.2.2.2.2.1) M.size⟩);have lv:w.heap.size<wv.heap.size:=Ah C am.size;have l6v:c6<wv.heap.size:=Bj u6;have bq:=aA (Aj av HD.o.2.2.2.2.2.1);clear a9 ba bb bc J am u7 bd M bf bg aw r2 r3 k3 f3 l3 k6 l6 ld bp ag ai HD HT ar H3 H2;go_wp2_with fail
   refine bh.o.mono ?_;rintro _ w4 ⟨rfl,s,ap,bj⟩;obtain⟨e4,bk⟩:=ah.o w4 s ap bj;have ck4:=bi.o w4 ap.g;have br:=aA ap.u;have bs:=aA bk;have bD:c6<w4.heap.size:=Bj ck4;clear ap bj bk bh ah bi u6 u2;go_wp2;go_ret
   subst e4;exact⟨fun _=>⟨g3,by rw[Gm.mZ];rfl,bq.o,br.o,bs.o⟩,fun h=>by simp at h⟩
theorem Gm.rh (h:k<rs.length) (s:List Bool):(rs.take (k+1)).foldl (Gm.iy tm) s=Gm.iy tm ((rs.take k).foldl (Gm.iy tm) s) rs[k]:=by
 rw[AL h,Dj];rfl
theorem Gm.sZ (tm:Bool) (rs:List Gm.Rl) (s:List Bool):(rs.foldl (Gm.iy tm) s).length=s.length:=((Gm.ia _ (Gm.kY tm) rs s).len).symm
theorem JG (tm:Bool) (v:Value) (G:Gm.Gr) (B:Nat) (w:World) (hg:aT w B v G) (hf:Gm.Fit G) (hB:B<=w.heap.size) :
  Calls prog 55 #[v,.bool tm] w (xB (Gm.right G) (Gm.gn tm G.rs G.ns.length) w):=by
 have H1:=aA (fun(x:World) (h:Below w.heap.size w x)=>zJ v G B x (hg.below h hB) hf (Aj hB h.size));obtain⟨AT,cT,AN,cN,AR,cR,rfl,_,⟨a2,a3⟩,⟨a4,a5⟩,_,_,hR⟩:=hg;have k:=aA (One.start w #[.slice AT G.ts.length cT,.slice AN G.ns.length cN,.slice AR G.rs.length cR,.int .i64 G.st]);have aq:=aA hR;have HB:=aA hB;have ar:=aA hf;clear hf hR hB;cases q:Gm.right G
 ·rw[q]at H1;clear q
  go_enter func55,ntmps55
  go_wp2_with fail
  refine(H1.o _ k.o.below).mono ?_;rintro _ w2 ⟨rfl,hb⟩;have t:=aA (k.o.on hb);clear hb;go_wp2;go_ret
  exact⟨fun h=>by simp at h,fun _=>⟨rfl,t.o.below⟩⟩
 ·have j:=aA (Gm.ft.1 q);have HN:Hid (G.ns.length<=40):=aA (by have:=(Gm.fG G).1 j.o.n;omega);have au:Hid (G.rs.length<=40):=aA j.o.kz;rw[q]at H1;clear q;have a6:=HN.o;have av:(G.ns.length:Int)<=9223372036854775807:=by omega
  have af:(G.rs.length:Int)<=9223372036854775807:=by omega
  go_enter func55,ntmps55
  go_wp2_with fail
  refine(H1.o _ k.o.below).mono ?_;rintro _ w2 ⟨rfl,hb⟩;have t:=aA (k.o.on hb);have q1:=t.o.c 1 _ rfl;have ag:w.heap.size<w2.heap.size:=t.o.size;clear hb;go_upto_region 4 with(at_make;refine GC rfl (.tmp 13) (.tmp 13) _ rfl underlying43 G.ns.length _ _ rfl rfl rfl rfl (by omega) ?_;intro w3 ah ai ab)
  have aj:=aA (t.o.on ai);have ak:=aA ah;have al:Hid (w.heap.size<w2.heap.size):=aA ag;clear ah ai ab q1 ag k H1;go_wp2;go_loopw [6] (fun vn wr=>∃n:Nat,n<=G.ns.length/\vn=.int .i64 n/\Hid (fL wr w2.heap.size (Gm.times (Gm.jS tm G.rs) n (List.replicate G.ns.length false)))/\Hid (One w #[.slice AT G.ts.length cT,.slice AN G.ns.length cN,.slice AR G.rs.length cR,.int .i64 G.st] wr)) (fun vn _=>G.ns.length-(intOf vn).toNat)
  case atStart=>exact⟨0,AV _,rfl,ak,aj⟩
  case round =>
   obtain⟨n,hn,rfl,HU,HW⟩:=hrel;obtain⟨wo,aw⟩:∃wo:World,wo=wr:=⟨_,rfl⟩
   subst aw;have q1:=HW.o.c 1 _ rfl;have ld:w.heap.size<wo.heap.size:=HW.o.size;clear ak aj;by_cases ax:n<G.ns.length
   ·have ay:Hid ((Gm.times (Gm.jS tm G.rs) n (List.replicate G.ns.length false)).length=G.ns.length):=aA (by have:=(Gm.jb (f:=Gm.jS tm G.rs) (fun s=>Gm.ia _ (Gm.kY tm) G.rs s) n (List.replicate G.ns.length false)).len;rw[<-this];simp);have az:Hid (Gm.times (Gm.jS tm G.rs) (n+1) (List.replicate G.ns.length false)=G.rs.foldl (Gm.iy tm) (Gm.times (Gm.jS tm G.rs) n (List.replicate G.ns.length false))):=aA rfl;generalize Gm.times (Gm.jS tm G.rs) n (List.replicate G.ns.length false)=s at *;go_wp2;go_loopw [7] (fun vi wr=>∃i:Nat,i<=G.rs.length/\vi=.int .i64 i/\Hid (fL wr w2.heap.size ((G.rs.take i).foldl (Gm.iy tm) s))/\Hid (One w #[.slice AT G.ts.length cT,.slice AN G.ns.length cN,.slice AR G.rs.length cR,.int .i64 G.st] wr)) (fun vi _=>G.rs.length-(intOf vi).toNat)
    case atStart=>exact⟨0,AV _,rfl,HU,HW⟩
    case round =>
     clear HU HW q1 ld;obtain⟨i,hi,rfl,HU,HW⟩:=hrel;have q2:=HW.o.c 2 _ rfl;have ld:w.heap.size<wr.heap.size:=HW.o.size;by_cases b:i<G.rs.length
     ·obtain⟨g,o,rfl,am,hc⟩:=aq.o (by omega);obtain⟨k0,⟨A',c',k1,_,_,ao⟩,_⟩:=hc i b;have k0:=(HW.o.below.cell (p:=⟨g,o+i*3,none⟩) (Ah am HB.o)).trans k0;have k1:=(HW.o.below.cell (p:=⟨g,o+i*3+1,none⟩) (Ah am HB.o)).trans k1;have a9:g<wr.heap.size:=by have:=HB.o;omega
      have u:G.rs[i]∈G.rs:=AE b;have e:=ar.o.r _ u;have ac:=aA ((Gm.sZ tm (G.rs.take i) s).trans ay.o);have aa:=aA (Gm.rh (tm:=tm) b s);have ad:=j.o.iT _ u;have d:=Ii G.rs[i].r ((G.rs.take i).foldl (Gm.iy tm) s) tm A' (some ⟨w2.heap.size,0,none⟩) c' G.ns.length B wr.heap.size wr (ao.fp fun g o hg=>HW.o.below.cell (p:=⟨g,o,none⟩) (Ah hg HB.o)) e.2.2 (fun z hz h=>by rw[ac.o];exact j.o.sin _ u z hz h) (HU.o.o4 HU.o.lt) (by have:=(Gm.fJ (j.o.rr _ u)).1;omega);rw[ac.o]at d;have d:=aA d;have lu:=HU.o.lt;generalize (G.rs.take i).foldl (Gm.iy tm) s=cur at *;generalize G.rs[i]=x at *;obtain⟨m,hm⟩:∃m:Nat,x.l=(m:Int):=⟨x.l.toNat,by omega⟩
      have HM:Hid (x.l.toNat=m):=aA (by rw[hm];simp);have ap:m<cur.length:=by rw[ac.o];omega
      have km:=HU.o.cell m ap;have fm:=HU.o.frozen m;rw[hm]at k0 ad;have ba:=ad.2;clear hc ao e u hm ap ad;cases ha:Gm.iw tm cur x.r
      ·rw[ha]at d;have HX:=aA (aa.o.trans (show Gm.iy tm cur x=cur by unfold Gm.iy;rw[AI (by rw[ha];decide)]));clear ha aa;go_wp2_with fail
       refine d.o.mono ?_;rintro _ w4 ⟨rfl,ae⟩;subst ae;go_wp2;go_roundw
       case rel=>exact⟨i+1,b,by go_num,by rw[HX.o];exact HU,HW⟩
       case measure=>simp[intOf];omega
      ·rw[ha]at d;have HX:=aA (aa.o.trans (show Gm.iy tm cur x=cur.set m true by unfold Gm.iy;rw[AC ha,HM.o]));have a0:=aA (HU.o.jY m true);have a1:Hid (One w #[.slice AT G.ts.length cT,.slice AN G.ns.length cN,.slice (some ⟨g,o,none⟩) G.rs.length cR,.int .i64 G.st] (wr.setCell ⟨w2.heap.size,m,none⟩ (.bool true))):=aA (EB (p:=⟨w2.heap.size,m,none⟩) HW.o (by have:=al.o;simp only;omega) _);clear ha aa;go_wp2_with fail
       refine d.o.mono ?_;rintro _ w4 ⟨rfl,ae⟩;subst ae;go_wp2;go_roundw
       case rel=>exact⟨i+1,b,by go_num,by rw[HX.o];exact a0,a1⟩
       case measure=>simp[intOf];omega
     ·obtain rfl:i=G.rs.length:=by omega
      rw[Bn]at HU;go_wp2;go_roundw
      case rel=>exact⟨n+1,ax,by go_num,by rw[az.o];exact HU,HW⟩
      case measure=>simp[intOf];omega
   ·obtain rfl:n=G.ns.length:=by omega
    have HE:=aA (Gm.kZ (tm:=tm) j.o.iT);go_wp2;go_ret
    exact⟨fun _=>⟨w2.heap.size,by rw[Gm.gW];rfl,CQ al.o,by rw[<-HE.o];exact HU.o,HW.o.below⟩,fun h=>by simp at h⟩
theorem JA (v:Value) (G:Gm.Gr) (B:Nat) (w:World) (hg:aT w B v G) (hf:Gm.Fit G) (hB:B<=w.heap.size) :
  Calls prog 33 #[v] w (xB (Gm.right G) (Gm.gn false G.rs G.ns.length) w):=by
 have H1:=aA (fun(x:World) (h:Below w.heap.size w x)=>JG false v G B x (hg.below h hB) hf (Aj hB h.size));obtain⟨AT,cT,AN,cN,AR,cR,rfl,_⟩:=hg;have aa:=aA (One.start w #[.slice AT G.ts.length cT,.slice AN G.ns.length cN,.slice AR G.rs.length cR,.int .i64 G.st]);clear hf;generalize Gm.gn false G.rs G.ns.length=T at *;generalize Gm.right G=q at *;cases q
 ·go_enter func33,ntmps33
  go_wp2_with fail
  refine(H1.o _ aa.o.below).mono ?_;intro e w2 h;obtain⟨rfl,hb⟩:=h.2 rfl;have ab:=aA (aa.o.on hb);clear hb h;go_wp2;go_ret
  exact⟨fun h=>by simp at h,fun _=>⟨rfl,ab.o.below⟩⟩
 ·go_enter func33,ntmps33
  go_wp2_with fail
  refine(H1.o _ aa.o.below).mono ?_;intro e w2 h;obtain⟨g,rfl,hg,hu,hb⟩:=h.1 rfl;have ab:=aA (aa.o.on hb);have HU:=aA hu;have HG:=aA hg;clear hb h hu hg;go_wp2;go_ret
  exact⟨fun _=>⟨g,rfl,by have:=HG.o;simp at this;omega,HU.o,ab.o.below⟩,fun h=>by simp at h⟩
theorem Jq (v:Value) (G:Gm.Gr) (B:Nat) (w:World) (hg:aT w B v G) (hf:Gm.Fit G) (hB:B<=w.heap.size) :
  Calls prog 56 #[v] w (xB (Gm.right G) (Gm.gn true G.rs G.ns.length) w):=by
 have H1:=aA (fun(x:World) (h:Below w.heap.size w x)=>JG true v G B x (hg.below h hB) hf (Aj hB h.size));obtain⟨AT,cT,AN,cN,AR,cR,rfl,_⟩:=hg;have aa:=aA (One.start w #[.slice AT G.ts.length cT,.slice AN G.ns.length cN,.slice AR G.rs.length cR,.int .i64 G.st]);clear hf;generalize Gm.gn true G.rs G.ns.length=T at *;generalize Gm.right G=q at *;cases q
 ·go_enter func56,ntmps56
  go_wp2_with fail
  refine(H1.o _ aa.o.below).mono ?_;intro e w2 h;obtain⟨rfl,hb⟩:=h.2 rfl;have ab:=aA (aa.o.on hb);clear hb h;go_wp2;go_ret
  exact⟨fun h=>by simp at h,fun _=>⟨rfl,ab.o.below⟩⟩
 ·go_enter func56,ntmps56
  go_wp2_with fail
  refine(H1.o _ aa.o.below).mono ?_;intro e w2 h;obtain⟨g,rfl,hg,hu,hb⟩:=h.1 rfl;have ab:=aA (aa.o.on hb);have HU:=aA hu;have HG:=aA hg;clear hb h hu hg;go_wp2;go_ret
  exact⟨fun _=>⟨g,rfl,by have:=HG.o;simp at this;omega,HU.o,ab.o.below⟩,fun h=>by simp at h⟩
theorem Gm.ql {p:List Bool} (h:k<rs.length) (s:List Bool):(rs.take (k+1)).foldl (Gm.gu p) s=Gm.gu p ((rs.take k).foldl (Gm.gu p) s) rs[k]:=by
 rw[AL h,Dj];rfl
theorem Gm.rI (p:List Bool) (rs:List Gm.Rl) (s:List Bool):(rs.foldl (Gm.gu p) s).length=s.length:=((Gm.ia _ (Gm.kq p) rs s).len).symm
theorem Gm.rj (h:k<r.length) (s:List Bool):Gm.marks s (r.take (k+1))=Gm.jT (Gm.marks s (r.take k)) r[k]:=by
 unfold Gm.marks;rw[AL h,Dj];rfl
def Gm.oZ (p s:List Bool) (x:Gm.Rl):Bool:=s.getD x.l.toNat false&&Gm.iw true p x.r
theorem Gm.rH {p s:List Bool} {x:Gm.Rl} (h:Gm.oZ p s x=true):Gm.gu p s x=Gm.marks s x.r:=by
 unfold Gm.oZ at h;rw[Bb]at h;unfold Gm.gu;rw[AC h]
theorem Gm.nW {p s:List Bool} {x:Gm.Rl} (h:Gm.oZ p s x=false):Gm.gu p s x=s:=by
 unfold Gm.oZ at h;unfold Gm.gu;rw[AI (by rw[<-Bb,h];decide)]
theorem MY (v:Value) (G:Gm.Gr) (B:Nat) (w:World) (hg:aT w B v G) (hf:Gm.Fit G) (hB:B<=w.heap.size) :
  Calls prog 57 #[v] w (xB (Gm.right G) (Gm.rc G) w):=by
 have H1:=aA (fun(x:World) (h:Below w.heap.size w x)=>zJ v G B x (hg.below h hB) hf (Aj hB h.size));have H2:=aA (fun(x:World) (h:Below w.heap.size w x)=>Jq v G B x (hg.below h hB) hf (Aj hB h.size));obtain⟨AT,cT,AN,cN,AR,cR,rfl,_,⟨b5,b6⟩,⟨b7,b9⟩,_,_,hR⟩:=hg;have A:=aA (One.start w #[.slice AT G.ts.length cT,.slice AN G.ns.length cN,.slice AR G.rs.length cR,.int .i64 G.st]);have bo:=aA hR;have HB:=aA hB;have bp:=aA hf;clear hf hR hB;cases q:Gm.right G
 ·rw[q]at H1;clear q H2
  go_enter func57,ntmps57
  go_wp2_with fail
  refine(H1.o _ A.o.below).mono ?_;rintro _ w2 ⟨rfl,hb⟩;have u:=aA (A.o.on hb);clear hb;go_wp2;go_ret
  exact⟨fun h=>by simp at h,fun _=>⟨rfl,u.o.below⟩⟩
 ·have d:=aA (Gm.ft.1 q);have HN:Hid (G.ns.length<=40):=aA (by have:=(Gm.fG G).1 d.o.n;omega);have bq:Hid (G.rs.length<=40):=aA d.o.kz;have H2:=aA (fun x h=>(show Calls _ _ _ _ (tK _ _) from(H2.o x h).mono fun e w' k=>k.1 q));rw[q]at H1;clear q;have ca:=HN.o;have br:(G.ns.length:Int)<=9223372036854775807:=by omega
  have az:(G.rs.length:Int)<=9223372036854775807:=by omega
  obtain⟨T,hT⟩:∃x,x=Gm.gn true G.rs G.ns.length:=⟨_,rfl⟩
  have al:Hid (T.length=G.ns.length):=aA (by rw[hT,Gm.gW]);rw[<-hT]at H2;have HT:=aA hT;clear hT
  go_enter func57,ntmps57
  go_wp2_with fail
  refine(H1.o _ A.o.below).mono ?_;rintro _ w2 ⟨rfl,hb⟩;have u:=aA (A.o.on hb);have q0:=u.o.c 0 _ rfl;have q1:=u.o.c 1 _ rfl;have q2:=u.o.c 2 _ rfl;have q3:=u.o.c 3 _ rfl;have af:w.heap.size<w2.heap.size:=u.o.size;clear hb;go_wp2_with fail
  refine(H2.o _ u.o.below).mono ?_;rintro _ w3 ⟨gp,rfl,bs,a0,a1⟩;rw[al.o];have ag:=aA (u.o.on a1);have aa:=aA a0;clear q0 q1 q2 q3 af;have q1:=ag.o.c 1 _ rfl;have af:w.heap.size<w3.heap.size:=ag.o.size;clear a0 a1 bs;go_upto_region 5 with(at_make;refine GC rfl (.tmp 16) (.tmp 16) _ rfl underlying43 G.ns.length _ _ rfl rfl rfl rfl (by omega) ?_;intro w4 a2 am ao)
  have ah:=aA (ag.o.on am);have ad:=aA (aa.o.below am aa.o.lt);have ap:Hid (gp<w3.heap.size):=aA aa.o.lt;have ai:=aA a2;clear a2 am q1 A H1 H2 u;have bu:=d.o.s0;have ae:=d.o.s1;obtain⟨m,hm⟩:∃m:Nat,G.st=(m:Int):=⟨G.st.toNat,by omega⟩
  have HM:Hid (G.st.toNat=m):=aA (by rw[hm];simp);have q3:=ah.o.c 3 _ rfl;have ld:w.heap.size<w4.heap.size:=ah.o.size;rw[hm]at q3 ae;have k3:=ai.o.cell m (by simp;omega);have f3:=ai.o.frozen m;clear hm bu;obtain⟨wv,H⟩:∃y,y=w4.setCell ⟨w3.heap.size,m,none⟩ (.bool true):=⟨_,rfl⟩
  have C:Hid (One w #[.slice AT G.ts.length cT,.slice AN G.ns.length cN,.slice AR G.rs.length cR,.int .i64 G.st] wv):=aA (by rw[H];exact EB (p:=⟨w3.heap.size,m,none⟩) ah.o (by simp only;omega) _);have a3:Hid (fL wv w3.heap.size ((List.replicate G.ns.length false).set m true)):=aA (by rw[H];exact ai.o.jY m true);have a4:Hid (fL wv gp T):=aA (by rw[H];exact fL.jr ad.o (by have:=ap.o;simp only;omega) _);have E:Hid (w.heap.size<w3.heap.size):=aA af;clear ag ah ai aa ad;go_upto_region 6 with fail
  rw[<-H];obtain⟨gk,a5⟩:∃gk,gk=w3.heap.size:=⟨_,rfl⟩
  rw[<-a5]at a3 E ap ⊢;have A:=aA (Gm.nf d.o.iT d.o.sin d.o.s0 d.o.s1);rw[HM.o,<-HT.o]at A;have bv:Hid (((List.replicate G.ns.length false).set m true).length=G.ns.length):=aA (by simp);generalize (List.replicate G.ns.length false).set m true=s0 at *;clear k3 f3 q3 ld ao af H a5 ae;go_wp2;go_loopw [5] (fun vn wr=>∃n:Nat,n<=G.ns.length/\vn=.int .i64 n/\Hid (fL wr gk (Gm.times (Gm.js T G.rs) n s0))/\Hid (wv.grownBy wr (some gk))) (fun vn _=>G.ns.length-(intOf vn).toNat)
  case atStart=>exact⟨0,AV _,rfl,a3,aA (AJ _ _)⟩
  case round =>
   obtain⟨n,hn,rfl,HU,HW⟩:=hrel;obtain⟨wo,bw⟩:∃wo:World,wo=wr:=⟨_,rfl⟩
   subst bw;have q1:=xm HW.o (C.o.c 1 _ rfl) (by have:=E.o;omega);have ld:=Bj q1;by_cases bx:n<G.ns.length
   ·have bz:Hid ((Gm.times (Gm.js T G.rs) n s0).length=G.ns.length):=aA (by have:=(Gm.jb (f:=Gm.js T G.rs) (fun s=>Gm.ia _ (Gm.kq T) G.rs s) n s0).len;rw[<-this];exact bv.o);have bD:Hid (Gm.times (Gm.js T G.rs) (n+1) s0=G.rs.foldl (Gm.gu T) (Gm.times (Gm.js T G.rs) n s0)):=aA rfl;generalize Gm.times (Gm.js T G.rs) n s0=s at *;go_wp2;go_loopw [6] (fun vi wr=>∃i:Nat,i<=G.rs.length/\vi=.int .i64 i/\Hid (fL wr gk ((G.rs.take i).foldl (Gm.gu T) s))/\Hid (wv.grownBy wr (some gk))) (fun vi _=>G.rs.length-(intOf vi).toNat)
    case atStart=>exact⟨0,AV _,rfl,HU,HW⟩
    case round =>
     clear HU HW q1 ld;obtain⟨i,hi,rfl,HU,HW⟩:=hrel;obtain⟨wi,bM⟩:∃wi:World,wi=wr:=⟨_,rfl⟩
     subst bM;have q2:=xm HW.o (C.o.c 2 _ rfl) (by have:=E.o;omega);have ld:=Bj q2;by_cases t:i<G.rs.length
     ·obtain⟨g,o,rfl,a6,hc⟩:=bo.o (by omega);obtain⟨k0,⟨A',c',k1,_,_,a9⟩,k2⟩:=hc i t;have aq:B<=wv.heap.size:=Aj HB.o C.o.below.size;have ar:B<=gk:=Aj HB.o (CQ E.o);have aj:=aA (fun(y:World) (h:wv.grownBy y (some gk)) (o':Nat)=>(vA (o:=o') h aq ar a6).trans (C.o.below.cell (p:=⟨g,o',none⟩) (Ah a6 HB.o)));have k0:=(aj.o _ HW.o _).trans k0;have k1:=(aj.o _ HW.o _).trans k1;have k2:=(aj.o _ HW.o _).trans k2;have cb:g<wi.heap.size:=Bj k0;have D:G.rs[i]∈G.rs:=AE t;have e:=bp.o.r _ D;have ba:=aA ((Gm.rI T (G.rs.take i) s).trans bz.o);have bb:=aA (Gm.ql (p:=T) t s);have au:=d.o.iT _ D;have av:∀y:World,wv.grownBy y (some gk)->gd y B A' G.rs[i].r:=fun y h=>a9.fp fun g o hg=>(vA h aq ar hg).trans (C.o.below.cell (p:=⟨g,o,none⟩) (Ah hg HB.o));have aw:=aA (fun(y:World) (h:wv.grownBy y (some gk))=>Ii G.rs[i].r T true A' (some ⟨gp,0,none⟩) c' G.ns.length B y.heap.size y (av y h) e.2.2 (fun z hz h=>by rw[al.o];exact d.o.sin _ D z hz h) ((a4.o.grown h (fun e=>by injection e with e;have:=ap.o;omega)).o4 (Ah a4.o.lt h.size)) (by have:=(Gm.fJ (d.o.rr _ D)).1;omega));rw[al.o]at aw;have bc:=aA av;have bd:=aA (d.o.sin _ D);have bT:=(Gm.fJ (d.o.rr _ D)).1;have bf:=aA e.2.2;generalize (G.rs.take i).foldl (Gm.gu T) s=cur at *;generalize G.rs[i]=x at *;obtain⟨l,r,pz⟩:=x;simp only at k0 k1 k2 aw bc bd bT au bf;obtain⟨m,rfl⟩:∃m:Nat,l=(m:Int):=⟨l.toNat,by omega⟩
      have cc:m<cur.length:=by rw[ba.o];omega
      have cd:=au.2;have lu:=HU.o.lt;have ce:(r.length:Int)<=9223372036854775807:=by omega
      have bg:Hid (Gm.oZ T cur ⟨m,r,pz⟩=(cur.getD m false&&Gm.iw true T r)):=aA (by simp[Gm.oZ]);have bh:=aA (AG wi (.cells #[.int .i64 m,.slice A' r.length c',.int .i64 pz] 48));have bi:=aA (HU.o.alloc (.cells #[.int .i64 m,.slice A' r.length c',.int .i64 pz] 48));have bj:=aA (aL HW.o (.cells #[.int .i64 m,.slice A' r.length c',.int .i64 pz] 48));clear hc a9 e D au av aq ar aj;go_wp2;go_loopw [8] (fun vk wr=>∃k:Nat,k<=r.length/\vk=.int .i64 k/\Hid (Gm.oZ T cur ⟨m,r,pz⟩=false->k=0)/\Hid (fL wr gk (Gm.marks cur (r.take k)))/\Hid (wv.grownBy wr (some gk))/\Hid (wr.heap[wi.heap.size]?=some (.cells #[.int .i64 m,.slice A' r.length c',.int .i64 pz] 48 (0,0)))) (fun vk _=>r.length-(intOf vk).toNat)
      case atStart=>exact⟨0,AV _,rfl,aA (fun _=>rfl),by simpa[Gm.marks] using bi,bj,bh⟩
      case round =>
       clear HU HW bi bj bh k0 k1 k2;obtain⟨k,hk,rfl,HK,HU,HW,HX⟩:=hrel;have d0:=AF wr _ 0 _ _ _ HX.o;have d1:=AF wr _ 1 _ _ _ HX.o;have hd:=(Ad.1 HX.o).1;have lk:=HU.o.lt;have bk:Hid ((Gm.marks cur (r.take k)).length=G.ns.length):=aA ((Gm.lb cur _).len.symm.trans ba.o);have km:=HU.o.cell m (by rw[bk.o];omega);by_cases b:k<r.length
       ·have F:=aA (aw.o wr HW.o);cases hc:Gm.oZ T cur ⟨m,r,pz⟩
        ·obtain rfl:=HK.o hc;have ab:=aA (bb.o.trans (Gm.nW hc));rw[EH,show Gm.marks cur []=cur from rfl]at HU km;have ax:=aA (bg.o.symm.trans hc);cases hv:cur.getD m false
         ·rw[hv]at km;clear hc hv ax F;go_wp2;go_roundw
          case rel=>exact⟨i+1,t,by go_num,by rw[ab.o];exact HU,HW⟩
          case measure=>simp[intOf];omega
         ·rw[hv]at km;have ha:Gm.iw true T r=false:=by have:=ax.o;rw[hv]at this;simpa using this
          rw[ha]at F;clear hc hv ax ha;go_wp2_with fail
          refine F.o.mono ?_;rintro _ w5 ⟨rfl,I⟩;subst I;go_wp2;go_roundw
          case rel=>exact⟨i+1,t,by go_num,by rw[ab.o];exact HU,HW⟩
          case measure=>simp[intOf];omega
        ·have h2:=bg.o.symm.trans hc;rw[Bb]at h2;rw[(Gm.lb cur (r.take k)).get m h2.1]at km;rw[h2.2]at F;obtain⟨g5,o5,rfl,cf,bl⟩:=bc.o wr HW.o (by omega);have k5:=bl k b;rw[L.fy b]at k5;have bX:=aA (bd.o _ (AE b));have ay:=bf.o _ (AE b);have ak:=aA (Gm.rj b cur);have cg:=HK;have l5:=Bj k5;unfold Gm.In at ay;generalize r[k]=z at *;clear bl h2;by_cases hz:z<0
         ·have b0:=bX.o hz;obtain⟨j,hj⟩:∃j:Nat,-1-z=(j:Int):=⟨(-1-z).toNat,by omega⟩
          have ch:IntKind.i64.wrap (-1-z)=(j:Int):=by rw[B3 _ (by omega)];exact hj
          have ac:Hid (Gm.marks cur (r.take (k+1))=(Gm.marks cur (r.take k)).set j true):=aA (ak.o.trans (by unfold Gm.jT;rw[AC hz,hj];simp));have bm:j<(Gm.marks cur (r.take k)).length:=by rw[bk.o];omega
          have b1:=aA (HU.o.jY j true);have b2:=aA (aF HW.o j (.bool true));have b3:=aA ((AU wr ⟨gk,j,none⟩ (.bool true) wi.heap.size (by simp only;omega)).trans HX.o);have kj:=HU.o.cell j bm;have fj:=HU.o.frozen j;have ci:(j:Int)<(G.ns.length:Int):=by omega
          have b4:decide (z<0)=true:=AQ hz;clear hz b0 hj ak hc ay bm;go_wp2_with fail
          refine F.o.mono ?_;rintro _ w5 ⟨rfl,I⟩;subst I;go_wp2;go_roundw
          case rel=>exact⟨k+1,b,by go_num,aA (fun h=>by cases h),by rw[ac.o];exact b1,b2,b3⟩
          case measure=>simp[intOf];omega
         ·have ac:Hid (Gm.marks cur (r.take (k+1))=Gm.marks cur (r.take k)):=aA (ak.o.trans (by unfold Gm.jT;rw[AI hz]));have b4:decide (z<0)=false:=AM hz;clear hz ak hc ay;go_wp2_with fail
          refine F.o.mono ?_;rintro _ w5 ⟨rfl,I⟩;subst I;go_wp2;go_roundw
          case rel=>exact⟨k+1,b,by go_num,aA (fun h=>by cases h),by rw[ac.o];exact HU,HW,HX⟩
          case measure=>simp[intOf];omega
       ·obtain rfl:k=r.length:=by omega
        have ab:Hid ((G.rs.take (i+1)).foldl (Gm.gu T) s=Gm.marks cur (r.take r.length)):=aA (bb.o.trans (by
         cases hc:Gm.oZ T cur ⟨m,r,pz⟩
         ·rw[Gm.nW hc]
          have:=HK.o hc
          rw[BB this];rfl
         ·rw[Gm.rH hc,Bn]))
        go_wp2;go_roundw
        case rel=>exact⟨i+1,t,by go_num,by rw[ab.o];exact HU,HW⟩
        case measure=>simp[intOf];omega
     ·obtain rfl:i=G.rs.length:=by omega
      rw[Bn]at HU;go_wp2;go_roundw
      case rel=>exact⟨n+1,bx,by go_num,by rw[bD.o];exact HU,HW⟩
      case measure=>simp[intOf];omega
   ·obtain rfl:n=G.ns.length:=by omega
    go_wp2;go_ret
    exact⟨fun _=>⟨gk,by rw[Gm.mZ];rfl,CQ E.o,by rw[<-A.o];exact HU.o,pF C.o.below HW.o (CQ E.o) C.o.below.size⟩,fun h=>by simp at h⟩
theorem rX (g o j:Nat):((⟨g,o,none⟩:Addr).add j)=⟨g,o+j,none⟩:=by unfold Addr.add;by_cases h0:j=0 <;> simp[h0]
def my (L:List Int) (w:World) (B:Nat) (A:Option Addr) (ts:List fw):Prop :=
 ts.length≠0->∃g o,A=some ⟨g,o,none⟩/\g<B/\∀i j u,(hi:i<ts.length)->(tC L ts[i])[j]?=some u->w.cell? ⟨g,o+(i*3+j),none⟩=some u
theorem my.nil (L:List Int) (w:World) (B:Nat) (A:Option Addr):my L w B A []:=fun h=>absurd rfl h
theorem my.fp {L:List Int} {ts:List fw} (h:my L w B A ts) (hk:∀g o,g<B->w'.cell? ⟨g,o,none⟩=w.cell? ⟨g,o,none⟩):my L w' B A ts:=fun hn=>by
 obtain⟨g,o,e,hg,hc⟩:=h hn;exact⟨g,o,e,hg,fun i j u hi hu=>(hk _ _ hg).trans (hc i j u hi hu)⟩
theorem my.more {L:List Int} {ts:List fw} (h:my L w B A ts) (hB:B<=B'):my L w B' A ts:=fun hn=>by
 obtain⟨g,o,e,hg,hc⟩:=h hn;exact⟨g,o,e,by omega,hc⟩
theorem my.grown {L:List Int} {ts:List fw} {row:Option Nat} (h:my L w B A ts) (hg:w.grownBy w' row) (hr:∀k,row=some k->B<=k) (hs:B<=w.heap.size):my L w' B A ts :=
 h.fp fun p o hp=>Ca (hg.block p (by omega) (fun e=>by have:=hr p e.symm;omega))
theorem my.below {L:List Int} {ts:List fw} (h:my L w B A ts) (hb:Below B' w w') (hB:B<=B'):my L w' B A ts :=
 h.fp fun g o hg=>hb.cell (p:=⟨g,o,none⟩) (Ah hg hB)
theorem bV.rd {L:List Int} {xs:List fw} (h:bV L w base v xs):∃A c,v=.slice A xs.length c/\xs.length<=c/\c<=maxLen/\my L w w.heap.size A xs:=by
 obtain⟨A,c,rfl,h1,h2⟩:=h.form;refine⟨A,c,rfl,h1,h2,fun h0=>?_⟩;obtain⟨g,c',e,_,_,_,hg,aa⟩:=h.addr h0;injection e with e1 e2 e3;refine⟨g,0,e1,hg,fun i j u hi hu=>?_⟩
 have hj:j<3:=by
  have:=(Bc.1 hu).1
  simpa[tC] using this
 rw[BG];exact aa i j u hi hj (by rw[AD hi];exact hu)
def FR (A:Option Addr) (c:Nat):Option Addr:=if c=1 then A else A.map fun x=>x.add 3
theorem my.tail {L:List Int} {c:Nat} {t:fw} {ts:List fw} (h:my L w B A (t::ts)) (hc:(t::ts).length<=c):my L w B (FR A c) ts:=by
 intro hn;obtain⟨g,o,rfl,hg,aa⟩:=h (by simp);refine⟨g,o+3,?_,hg,fun i j u hi hu=>?_⟩
 ·unfold FR;rw[AI (by simp at hc;omega),Dm,rX]
 ·have:=aa (i+1) j u (by simp;omega) (by simpa using hu)
  rwa [show o+3+(i*3+j)=o+((i+1)*3+j) by omega]
def rS (L:List Int) (x:fw):List Value:=[.string (K.str x.t),.complex .f64 (Fl.fl (Pl.pos (L.take x.o)).1) (Fl.fl (Pl.pos (L.take x.o)).2)]
theorem Oh (L:List Int) (xs:List fw) (i j:Nat) (hi:i<xs.length) (hj:j<2):(xs.flatMap (rS L))[i*2+j]?=(rS L xs[i])[j]?:=by
 induction xs generalizing i with
 | nil=>simp at hi
 | cons x r ih =>
  rw[B5];have hl:(rS L x).length=2:=rfl;cases i with
  | zero=>rw[BM (by omega)];simp
  | succ i =>
   rw[Ce (by omega),hl,show(i+1)*2+j-2=i*2+j by omega]
   simpa using ih i (by simpa using hi)
def mx (L:List Int) (w:World) (B:Nat) (A:Option Addr) (xs:List fw):Prop :=
 xs.length≠0->∃(g:Nat) (cur:Array Value),A=some ⟨g,0,none⟩/\B<=g/\w.heap[g]?=some (.cells cur 127 (0,0))/\∀(j:Nat) (u:Value),(xs.flatMap (rS L))[j]?=some u->cur[j]?=some u
theorem mx.nil (L:List Int) (w:World) (B:Nat) (A:Option Addr):mx L w B A []:=fun h=>absurd rfl h
def pE (w:World) (row:Option Nat):Prop:=∀k,row=some k->∀cur,w.heap[k]? ≠ some (.cells cur 127 (0,0))
theorem pE.none (w:World):pE w .none:=fun _ h=>by cases h
theorem mx.grown {L:List Int} {xs:List fw} {row:Option Nat} (h:mx L w B A xs) (hg:w.grownBy w' row) (hr:pE w row):mx L w' B A xs:=fun hn=>by
 obtain⟨g,cur,e,hB,hh,hc⟩:=h hn;exact⟨g,cur,e,hB,(hg.block g (Ad.1 hh).1 (fun e=>hr g e.symm cur hh)).trans hh,hc⟩
theorem mx.less {L:List Int} {xs:List fw} (h:mx L w B A xs) (hB:B'<=B):mx L w B' A xs:=fun hn=>by
 obtain⟨g,cur,e,hb,hh⟩:=h hn;exact⟨g,cur,e,by omega,hh⟩
theorem mx.below {L:List Int} {xs:List fw} (h:mx L w B A xs) (hb:Below w.heap.size w w'):mx L w' B A xs:=h.grown (aK hb .none) (pE.none w)
theorem mx.cell {L:List Int} {xs:List fw} (h:mx L w B A xs) (h0:xs.length≠0):∃g,A=some ⟨g,0,none⟩/\B<=g/\∀i j u,(hi:i<xs.length)->j<2->(rS L xs[i])[j]?=some u->w.cell? ⟨g,i*2+j,none⟩=some u:=by
 obtain⟨g,cur,e,hB,hh,hc⟩:=h h0;refine⟨g,e,hB,fun i j u hi hj hu=>?_⟩;rw[AF w g _ _ _ _ hh];exact hc _ _ (by rw[Oh L xs i j hi hj];exact hu)
def bZ (L:List Int) (w:World) (base:Nat) (v:Value) (xs:List fw):Prop:=w.ownsRow base 127 2 v xs.length (xs.flatMap (rS L))
theorem bZ.nil (L:List Int) (w:World) (base:Nat):bZ L w base (.slice none 0 0) []:=Da w base _ _
theorem bZ.alloc {L:List Int} {xs:List fw} (h:bZ L w base v xs) (o:Obj):bZ L (w.alloc o) base v xs:=C5 h o
theorem bZ.grown {L:List Int} {xs:List fw} {row:Option Nat} (h:bZ L w base v xs) (hg:w.grownBy w' row) (hr:pE w row):bZ L w' base v xs:=by
 refine⟨h.1,?_⟩;rcases h.2 with h0|⟨g,cap,cur,e,aa,hh,ab⟩
 ·exact .inl h0
 ·exact .inr ⟨g,cap,cur,e,aa,(hg.block g (Ad.1 hh).1 (fun e=>hr g e.symm cur hh)).trans hh,ab⟩
theorem bZ.below {L:List Int} {xs:List fw} (h:bZ L w base v xs) (hb:Below w.heap.size w w'):bZ L w' base v xs:=h.grown (aK hb .none) (pE.none w)
theorem bZ.rd {L:List Int} {xs:List fw} (h:bZ L w base v xs):∃A c,v=.slice A xs.length c/\xs.length<=c/\c<=maxLen/\mx L w base A xs:=by
 rcases h.2 with⟨rfl,h0⟩|⟨g,cap,cur,rfl,hb,hg,hn,hm,hs,ht⟩
 ·exact⟨none,0,by rw[h0],by omega,by unfold maxLen;omega,fun hc=>absurd h0 hc⟩
 ·refine⟨some ⟨g,0,none⟩,cap,rfl,hn,hm,fun _=>⟨g,cur,rfl,hb,hg,fun j u hu=>?_⟩⟩;rw[<-ht]at hu;have hj:=(Bc.1 hu).1;rw[Bd]at hj;rw[CO (by omega)]at hu
  simpa using hu
theorem SA:(prog.info? 127).map (fun i=>(i.zero,i.size,i.bytes))=some (some (.agg #[.string ⟨#[]⟩,.complex .f64 0 0]),2,32):=by kernel_rfl
theorem Rj {rest:List Oper} {o:Oper} {a:Act} {Q:Exit->Act->World->Prop} (ac:o.guard=none) (s x:Operand) (t:TypeId) (ho:o.op=.call {callee:=.builtin .append,args:=#[s,x],argTypes:=#[t,t]}) (ht:prog.underlying t=some (.slice 127)) (L:List Int) (base:Nat) (v:Value) (xs:List fw) (hs:a.eval s=v) (ab:bZ L w base v xs) (g c:Nat) (y:fw) (hx:a.eval x=.slice (some ⟨g,0,none⟩) 1 c) (hz:∀j u,(rS L y)[j]?=some u->w.cell? ⟨g,j,none⟩=some u) (ad:xs.length<=1000000) (aa:base<=w.heap.size) (hK:∀v' w',bZ L w' base v' (xs++[y])->w.grownBy w' v.ownBlock->wpList prog ops Q rest (a.put o.dst v') w') :
  wpList prog ops Q (o::rest) a w:=by
 obtain⟨i,hi,ae,af,ag⟩:=Cs SA;refine CT w ac s x t ho base 127 i _ 2 32 ht hi ae af ag rfl (by decide) v xs.length (xs.flatMap (rS L)) hs ab ⟨g,0,none⟩ 1 c (rS L y) hx rfl ?_ ?_ (by unfold maxLen;omega) (by omega) aa fun v' w' h1 h2 _=>hK v' w' ?_ h2
 ·intro j u hj;rw[rX,BG];exact hz j u hj
 ·intro u hu;simp[rS]at hu;rcases hu with rfl|rfl <;> rfl
 ·unfold bZ;rw[AW,B4,Cw];exact h1
theorem _root_.Go.World.grownBy.row (h:w.grownBy w' .none) (row:Option Nat):w.grownBy w' row:=⟨h.os,h.tape,h.output,h.size,fun k hk _=>h.block k hk (by simp)⟩
theorem Ir {a:World} {row:Option Nat} {e:TypeId} {size:Nat} (h:a.grownBy w row) (ho:w.ownsRow a.heap.size e size v n xs) (hg:w.grownBy w' v.ownBlock):a.grownBy w' row :=
 ⟨hg.os.trans h.os,hg.tape.trans h.tape,hg.output.trans h.output,Aj h.size hg.size,fun k hk aa=>(hg.block k (Ah hk h.size) (fun e=>by have:=(Bk ho k e.symm).1;omega)).trans (h.block k hk aa)⟩
theorem Of (L:List Int) (w:World) (t:fw):∀j u,(rS L t)[j]?=some u->(w.alloc (.cells #[.string (K.str t.t),.complex .f64 (Fl.fl (Pl.pos (L.take t.o)).1) (Fl.fl (Pl.pos (L.take t.o)).2)] 127)).cell? ⟨w.heap.size,j,none⟩=some u:=by
 intro j u hu;rw[C8]
 simpa[rS] using hu
theorem JV {w2:World} {o:Obj} {R:Nat} (h:(w.alloc o).grownBy w2 (some R)) (hR:R<w.heap.size):w2.heap[w.heap.size]?=some o:=by
 rw[h.block w.heap.size (by simp) (fun e=>by injection e with e;omega)];exact AG w o
theorem zf {a:World} {row:Option Nat} (h:a.grownBy w row) (g i:Nat) (u:Value) (hg:a.heap.size<=g):a.grownBy (w.setCell ⟨g,i,none⟩ u) row :=
 ⟨h.os,h.tape,h.output,by simpa[World.setCell] using h.size,fun k hk aa=>(AU w ⟨g,i,none⟩ u k (by simp only;omega)).trans (h.block k hk aa)⟩
def zX (v:Value):Nat:=match v with | .slice _ n _=>n|_=>0
def Ro (L:List Int) (r:Out) (w:World) (e:Ending) (w':World):Prop :=
 match r with
 | .ok xs=>∃v,e=.returned (.tuple #[v,.complex .f64 (Fl.fl (Pl.pos L).1) (Fl.fl (Pl.pos L).2),.int .i64 0])/\bV L w' w.heap.size v xs/\Below w.heap.size w w'
 | .bad o d=>e=.returned (.tuple #[.slice none 0 0,.complex .f64 (Fl.fl (Pl.pos (L.take o)).1) (Fl.fl (Pl.pos (L.take o)).2),.int .i64 d])/\Below w.heap.size w w'
def At (L:List Int) (R:Out) (w:World) (k d f m:Nat) (acc:List fw) (l:List Int) (p:Int×Int) (A':Option Addr) (c':Nat) (v:Value) (w':World):Prop :=
 L.length=k+d/\l=L.drop k/\p=Pl.pos (L.take k)/\Below w.heap.size w w'/\il w' w.heap.size A' l/\bV L w' w.heap.size v acc/\d<=c'/\d<f/\acc.length<=k/\m<=k/\tG f l k m acc=R
def sQ (L:List Int) (t:fw):Value:=.agg #[.string (K.str t.t),.complex .f64 (Fl.fl (Pl.pos (L.take t.o)).1) (Fl.fl (Pl.pos (L.take t.o)).2)]
theorem NT (w:World) (A:Option Addr) (c n:Nat) (hk:1<=n):(Instr.sliceAt 121 (.slice A n c) (some (.int .i64 1)) none none).run prog w=.ok (.slice (FR A c) (n-1) (c-1)) w:=by
 rw[DX _ _ _ _ _ _ (by kernel_rfl),run_slice_l _ _ _ _ _ (by kernel_rfl) .i64 (1:Int) (by omega) (by omega)];have hs:(sizeOf (prog.elem 121)).run prog w=.ok 3 w:=by kernel_rfl
 rw[hs];simp[Result.andThen,sliced,FR]
def zE (L:List Int):Option fw->List Value
 | none=>[.string ⟨#[]⟩,.complex .f64 0 0]
 | some t=>rS L t
def a7 (L:List Int) (p:Y.iv) (A:Option Addr) (c:Nat):List Value:=rS L p.l++[.slice A p.r.length c]++zE L p.p
def I0 (d:Y.kB) (A:Option Addr) (c:Nat):List Value:=[.int .i64 d.k,.slice A d.ns.length c]
abbrev PA:=Y.iv×Option Addr×Nat
abbrev DA:=Y.kB×Option Addr×Nat
def xx (L:List Int) (qs:List PA):List Value:=qs.flatMap fun q=>a7 L q.1 q.2.1 q.2.2
def Jd (qs:List DA):List Value:=qs.flatMap fun q=>I0 q.1 q.2.1 q.2.2
theorem JL (L:List Int) (p:Y.iv) (A:Option Addr) (c:Nat):(a7 L p A c).length=5:=by
 unfold a7 zE;split <;> rfl
theorem Rx (L:List Int) (qs:List PA) (i j:Nat) (hi:i<qs.length) (hj:j<5):(xx L qs)[i*5+j]?=(a7 L qs[i].1 qs[i].2.1 qs[i].2.2)[j]?:=by
 unfold xx;induction qs generalizing i with
 | nil=>simp at hi
 | cons x r ih =>
  rw[B5];have hl:=JL L x.1 x.2.1 x.2.2;cases i with
  | zero=>rw[BM (by omega)];simp
  | succ i =>
   rw[Ce (by omega),hl,show(i+1)*5+j-5=i*5+j by omega]
   simpa using ih i (by simpa using hi)
theorem Ls (qs:List DA) (i j:Nat) (hi:i<qs.length) (hj:j<2):(Jd qs)[i*2+j]?=(I0 qs[i].1 qs[i].2.1 qs[i].2.2)[j]?:=by
 unfold Jd;induction qs generalizing i with
 | nil=>simp at hi
 | cons x r ih =>
  rw[B5];have hl:(I0 x.1 x.2.1 x.2.2).length=2:=rfl;cases i with
  | zero=>rw[BM (by omega)];simp
  | succ i =>
   rw[Ce (by omega),hl,show(i+1)*2+j-2=i*2+j by omega]
   simpa using ih i (by simpa using hi)
def bL (L:List Int) (w:World) (base:Nat) (v:Value) (ps:List Y.iv):Prop :=
 ∃qs:List PA,qs.map (·.1)=ps/\w.ownsRow base 135 5 v ps.length (xx L qs)/\∀q∈qs,mx L w base q.2.1 q.1.r
def bR (L:List Int) (w:World) (base:Nat) (v:Value) (ds:List Y.kB):Prop :=
 ∃qs:List DA,qs.map (·.1)=ds/\w.ownsRow base 168 2 v ds.length (Jd qs)/\∀q∈qs,mx L w base q.2.1 q.1.ns
theorem bL.nil (L:List Int) (w:World) (base:Nat):bL L w base (.slice none 0 0) []:=⟨[],rfl,Da w base _ _,fun q h=>by cases h⟩
theorem bR.nil (L:List Int) (w:World) (base:Nat):bR L w base (.slice none 0 0) []:=⟨[],rfl,Da w base _ _,fun q h=>by cases h⟩
def zu (w:World) (v:Value) (row:Option Nat):Prop:=pE w row/\(v.ownBlock=none\/v.ownBlock≠row)
theorem zu.none (w:World) (v:Value):zu w v .none:=⟨pE.none w,by rcases v.ownBlock with _|k;exact .inl rfl;exact .inr (by simp)⟩
theorem bL.grown {L:List Int} {w w':World} {base:Nat} {v:Value} {ps:List Y.iv} {row:Option Nat} (h:bL L w base v ps) (hg:w.grownBy w' row) (ha:zu w v row):bL L w' base v ps:=by
 obtain⟨qs,h1,h2,h3⟩:=h;exact⟨qs,h1,h2.kept hg ha.2,fun q hq=>(h3 q hq).grown hg ha.1⟩
theorem bR.grown {L:List Int} {w w':World} {base:Nat} {v:Value} {ds:List Y.kB} {row:Option Nat} (h:bR L w base v ds) (hg:w.grownBy w' row) (ha:zu w v row):bR L w' base v ds:=by
 obtain⟨qs,h1,h2,h3⟩:=h;exact⟨qs,h1,h2.kept hg ha.2,fun q hq=>(h3 q hq).grown hg ha.1⟩
theorem zG {size:Nat} {e:TypeId} (h:w.ownsRow base e size v n xs) (he:e≠127):pE w v.ownBlock:=by
 intro k hk cur hc;rcases h.2 with⟨rfl,_⟩|⟨g,cap,cur',rfl,_,hg,_⟩
 ·cases hk
 ·injection hk with hk;subst hk;have aa:w.heap[g]?=some (.cells cur 127 (0,0)):=hc;rw[hg]at aa;injection aa with e1;injection e1 with _ e2;exact he e2
theorem bL.form {L:List Int} {ps:List Y.iv} (h:bL L w base v ps):∃A c,v=.slice A ps.length c/\ps.length<=c/\c<=maxLen:=by
 obtain⟨qs,h1,h2,h3⟩:=h;rcases h2.2 with⟨rfl,h0⟩|⟨g,cap,cur,rfl,hb,hg,hn,hm,hs,ht⟩
 ·exact⟨none,0,by rw[h0],by omega,by unfold maxLen;omega⟩
 ·exact⟨_,cap,rfl,hn,hm⟩
theorem bR.form {L:List Int} (h:bR L w base v ds):∃A c,v=.slice A ds.length c/\ds.length<=c/\c<=maxLen:=by
 obtain⟨qs,h1,h2,h3⟩:=h;rcases h2.2 with⟨rfl,h0⟩|⟨g,cap,cur,rfl,hb,hg,hn,hm,hs,ht⟩
 ·exact⟨none,0,by rw[h0],by omega,by unfold maxLen;omega⟩
 ·exact⟨_,cap,rfl,hn,hm⟩
theorem Mn:(prog.info? 135).map (fun i=>(i.zero,i.size,i.bytes))=some (some (.agg #[.string ⟨#[]⟩,.complex .f64 0 0,.slice none 0 0,.string ⟨#[]⟩,.complex .f64 0 0]),5,88):=by kernel_rfl
theorem JJ (L:List Int) (p:Y.iv) (A:Option Addr) (c:Nat):∀u∈a7 L p A c,u.oneCell'=true:=by
 intro u hu;unfold a7 zE at hu;split at hu <;> simp[rS]at hu <;> rcases hu with rfl|rfl|rfl|rfl|rfl <;> rfl
theorem LQ {rest:List Oper} {o:Oper} {a:Act} {Q:Exit->Act->World->Prop} (ae:o.guard=none) (s x:Operand) (t:TypeId) (ho:o.op=.call {callee:=.builtin .append,args:=#[s,x],argTypes:=#[t,t]}) (ht:prog.underlying t=some (.slice 135)) (L:List Int) (base:Nat) (v:Value) (ps:List Y.iv) (hs:a.eval s=v) (ab:bL L w base v ps) (g c:Nat) (p:Y.iv) (A:Option Addr) (pc:Nat) (hx:a.eval x=.slice (some ⟨g,0,none⟩) 1 c) (hz:∀j u,(a7 L p A pc)[j]?=some u->w.cell? ⟨g,j,none⟩=some u) (hr:mx L w base A p.r) (af:ps.length<=1000000) (aa:base<=w.heap.size) (hK:∀v' w',bL L w' base v' (ps++[p])->w.grownBy w' v.ownBlock->wpList prog ops Q rest (a.put o.dst v') w') :
  wpList prog ops Q (o::rest) a w:=by
 obtain⟨i,hi,ag,ah,ai⟩:=Cs Mn;obtain⟨qs,ac,ad,aj⟩:=ab;have ak:qs.length=ps.length:=by rw[<-ac,Bh]
 refine CT w ae s x t ho base 135 i _ 5 88 ht hi ag ah ai rfl (by decide) v ps.length (xx L qs) hs ad ⟨g,0,none⟩ 1 c (a7 L p A pc) hx (by rw[JL]) ?_ (JJ L p A pc) (by unfold maxLen;omega) (by omega) aa fun v' w' h1 h2 _=>hK v' w' ?_ h2
 ·intro j u hj;rw[rX,BG];exact hz j u hj
 ·have ho:=zG ad (by decide);refine⟨qs++[(p,A,pc)],by rw[Bf,ac];rfl,?_,fun q hq=>?_⟩
  ·rw[AW];unfold xx;rw[B4,Cw];exact h1
  ·rcases Bt.1 hq with h|h
   ·exact(aj q h).grown h2 ho
   ·rw[AP]at h;subst h;exact hr.grown h2 ho
theorem xW (w:World) (row:Option Nat):w.grownBy w.drew row:=⟨rfl,rfl,rfl,Af _,fun _ _ _=>rfl⟩
theorem rQ {w2:World} {R:Nat} {o:Obj} (h:w.grownBy w2 (some R)) (ho:w.heap[g]?=some o) (aa:g≠R):w2.heap[g]?=some o:=by
 rw[h.block g (Ad.1 ho).1 (fun e=>by injection e with e;omega)];exact ho
theorem Gf {t:TypeId} (h:w.heap[g]?=some (.cells cs t (0,0))) (ht:t≠127):pE w (some g):=by
 intro k hk cur hc;injection hk with hk;subst hk;rw[h]at hc;injection hc with hc;injection hc with _ hc;exact ht hc
theorem Nh (L:List Int) (p:Option fw):∃x3 x4,zE L p=[x3,x4]:=by cases p <;> exact⟨_,_,rfl⟩
theorem Og {row:Option Nat} (h:w.heap[g]?=some (.cells cs 127 (0,0))) (hg:w.grownBy w' row) (ho:pE w row):w'.heap[g]?=some (.cells cs 127 (0,0)) :=
 (hg.block g (Ad.1 h).1 (fun e=>ho g e.symm cs h)).trans h
theorem bL.own {L:List Int} {ps:List Y.iv} (h:bL L w base v ps):∃xs,w.ownsRow base 135 5 v ps.length xs:=by
 obtain⟨qs,_,h2,_⟩:=h;exact⟨_,h2⟩
theorem bR.own {L:List Int} (h:bR L w base v ds):∃xs,w.ownsRow base 168 2 v ds.length xs:=by
 obtain⟨qs,_,h2,_⟩:=h;exact⟨_,h2⟩
theorem bL.other {L:List Int} {ps:List Y.iv} (h:bL L w base v ps):pE w v.ownBlock:=by
 obtain⟨xs,h2⟩:=h.own;exact zG h2 (by decide)
theorem bR.other {L:List Int} (h:bR L w base v ds):pE w v.ownBlock:=by
 obtain⟨xs,h2⟩:=h.own;exact zG h2 (by decide)
theorem K0 (p:fw->Bool):∀ts:List fw,(ts.dropWhile p).length<=ts.length
 | []=>Af _
 | t::r=>by
  have:=K0 p r
  rw[List.dropWhile_cons];split
  ·simp;omega
  ·exact Af _
theorem PQ {left:fw} {ts r:List fw} {p:Y.iv} (h:Y.gD left ts=.ok p r):r.length<=ts.length:=by
 unfold Y.gD Y.qn at h;have hd:=K0 Y.isRef ts;split at h
 ·obtain⟨t,m,h1,h2⟩:=Y.fD h;obtain⟨u,m2,h3,h4⟩:=Y.fD h2;injection h4 with _ h5;subst h5;have e1:=congrArg List.length (Y.ik h1).1;have e2:=congrArg List.length (Y.ik h3).1;simp at e1 e2;omega
 ·injection h with _ h5;subst h5;exact hd
theorem Sa {t:TypeId} {a0 a1 a2 a3 a4:Value} (h:w.heap[g]?=some (.cells #[a0,a1,a2,a3,a4] t (0,0))) (b0 b1 b2 b3 b4:Value) :
  (((((w.setCell ⟨g,0,none⟩ b0).setCell ⟨g,1,none⟩ b1).setCell ⟨g,2,none⟩ b2).setCell ⟨g,3,none⟩ b3).setCell ⟨g,4,none⟩ b4).heap[g]?=some (.cells #[b0,b1,b2,b3,b4] t (0,0)):=by
 have h0:=AZ w g 0 _ _ b0 h;have h1:=AZ _ g 1 _ _ b1 h0;have h2:=AZ _ g 2 _ _ b2 h1;have h3:=AZ _ g 3 _ _ b3 h2;have h4:=AZ _ g 4 _ _ b4 h3;exact h4
theorem Qm (w:World) (p:Addr) (u:Value):(w.setCell p u).heap.size=w.heap.size:=by simp[World.setCell]
def ie (L:List Int) (B R px py:Nat) (w:World) (ts:List fw):Prop :=
 ∃A c,w.heap[R]?=some (.cells #[.slice A ts.length c,.complex .f64 px py,.complex .f64 0 0,.int .i64 0] 162 (0,0))/\ts.length<=c/\ts.length<=4000/\my L w B A ts/\B<=R
theorem ie.lt {L:List Int} {R:Nat} {ts:List fw} (h:ie L B R px py w ts):R<w.heap.size:=by
 obtain⟨A,c,hh,_⟩:=h;exact(Ad.1 hh).1
theorem ie.other {L:List Int} {R:Nat} {ts:List fw} (h:ie L B R px py w ts):pE w (some R):=by
 obtain⟨A,c,hh,_⟩:=h;intro k hk cur he;injection hk with hk;subst hk;rw[hh]at he;injection he with he;injection he with _ he;cases he
theorem ie.grown {L:List Int} {B R px py:Nat} {w w':World} {ts:List fw} {row:Option Nat} (h:ie L B R px py w ts) (hg:w.grownBy w' row) (hr:∀k,row=some k->R<k):ie L B R px py w' ts:=by
 have aa:=h.lt;obtain⟨A,c,hh,h1,h2,h3,h4⟩:=h;exact⟨A,c,(hg.block R aa (fun e=>by have:=hr R e.symm;omega)).trans hh,h1,h2,h3.grown hg (fun k e=>by have:=hr k e;omega) (by omega),h4⟩
theorem ie.alloc {L:List Int} {R:Nat} {ts:List fw} (h:ie L B R px py w ts) (o:Obj):ie L B R px py (w.alloc o) ts :=
 h.grown (row:=.none) (aL (AJ _ _) o) (fun _ e=>by cases e)
theorem ie.own {L:List Int} {R:Nat} {ts:List fw} {e:TypeId} {size:Nat} (h:ie L B R px py w ts) (ho:w.ownsRow base e size v n xs) (hg:w.grownBy w' v.ownBlock) (hb:R<base):ie L B R px py w' ts :=
 h.grown hg (fun k e=>by have:=(Bk ho k e).1;omega)
theorem ie.jr {L:List Int} {R:Nat} {ts:List fw} (h:ie L B R px py w ts) (g i:Nat) (u:Value) (hg:R<g):ie L B R px py (w.setCell ⟨g,i,none⟩ u) ts :=
 h.grown (aF (AJ w (some g)) i u) (fun k e=>by injection e with e;omega)
theorem ie.cell0 {L:List Int} {R:Nat} {ts:List fw} (h:ie L B R px py w ts):∃A c,w.cell? ⟨R,0,none⟩=some (.slice A ts.length c)/\w.cell? ⟨R,3,none⟩=some (.int .i64 0)/\w.frozen? ⟨R,0,none⟩=false/\ts.length<=c/\my L w B A ts /\
  ∀A' c' ts',ts'.length<=c'->ts'.length<=4000->my L w B A' ts'->ie L B R px py (w.setCell ⟨R,0,none⟩ (.slice A' ts'.length c')) ts':=by
 obtain⟨A,c,hh,h1,h2,h3,h4⟩:=h;refine⟨A,c,by rw[AF w R 0 _ _ _ hh];rfl,by rw[AF w R 3 _ _ _ hh];rfl,AH w R 0 _ _ hh,h1,h3,fun A' c' ts' k1 k2 k3=>⟨A',c',?_,k1,k2,?_,h4⟩⟩
 ·rw[AZ w R 0 _ _ _ hh];rfl
 ·exact k3.fp fun g o hg=>Ca (AU w ⟨R,0,none⟩ _ g (by simp only;omega))
def kd:List fw->Int
 | []=>0
 | t::_=>t.k
theorem I9 (L:List Int) (B R px py:Nat) (ts:List fw) (w:World) (hr:ie L B R px py w ts) :
  Calls prog 92 #[.pointer (some ⟨R,0,none⟩)] w fun e w'=>e=.returned (.int .i64 (kd ts))/\w=w':=by
 obtain⟨A,c,h0,h3,_,hc,ht,_⟩:=hr.cell0;rcases ts with _|⟨t,r⟩
 ·clear hr ht
  go_enter func92,ntmps92
  go_wp2;go_ret
  exact⟨rfl,rfl⟩
 ·obtain⟨g,o,rfl,_,aa⟩:=ht (by simp);have ab:w.cell? ⟨g,o,none⟩=some (.int .i64 t.k):=aa 0 0 _ (by simp) rfl;have hl:0<((t::r).length:Int):=by simp
  have ac:(((t::r).length:Int)==0)=false:=by simp;omega
  have HK:Hid (kd (t::r)=t.k):=aA rfl;rw[HK.o];clear hr ht aa;generalize (t::r).length=n at *;generalize t.k=z at *
  go_enter func92,ntmps92
  go_wp2;go_ret
  exact⟨rfl,rfl⟩
theorem F3 (L:List Int) (B R px py:Nat) (ts:List fw) (a b:Int) (w:World) (hr:ie L B R px py w ts) :
  Calls prog 130 #[.pointer (some ⟨R,0,none⟩),.int .i64 a,.int .i64 b] w fun e w'=>e=.returned (.bool (Y.is [a,b] ts))/\w=w':=by
 have HK:=aA (I9 L B R px py ts w hr);obtain⟨A,c,h0,h3,_,hc,ht,_⟩:=hr.cell0;rcases ts with _|⟨t,r⟩
 ·clear hr ht
  go_enter func130,ntmps130
  go_wp2;go_ret
  exact⟨rfl,rfl⟩
 ·have hl:0<((t::r).length:Int):=by simp
  have HE:Hid (Y.is [a,b] (t::r)=((t.k==a)||(t.k==b))):=aA (by show [a,b].contains t.k=_;simp[List.contains,List.elem];cases (t.k==a) <;> cases (t.k==b) <;> rfl);have ab:Hid (kd (t::r)=t.k):=aA rfl;rw[HE.o];rw[ab.o]at HK;clear hr ht;generalize (t::r).length=n at *;generalize t.k=z at *;by_cases ha:z=a
  ·have aa:(z==a)=true:=by simpa using ha
   rw[aa,Dw];clear ha
   go_enter func130,ntmps130
   go_wp2_with fail
   refine HK.o.mono ?_;rintro _ _ ⟨rfl,rfl⟩;go_wp2;go_ret
   exact⟨rfl,rfl⟩
  ·have aa:(z==a)=false:=by simpa using ha
   rw[aa,ES];clear ha;generalize hb:(z==b)=q at *
   go_enter func130,ntmps130
   go_wp2_with fail
   refine HK.o.mono ?_;rintro _ _ ⟨rfl,rfl⟩;go_wp2_with fail
   refine HK.o.mono ?_;rintro _ _ ⟨rfl,rfl⟩;go_wp2;go_ret
   exact⟨rfl,rfl⟩
theorem zV (L:List Int) (B R px py:Nat) (t:fw) (r:List fw) (a b:Int) (w:World) (hr:ie L B R px py w (t::r)) (hk:Y.is [a,b] (t::r)=true) :
  Calls prog 90 #[.pointer (some ⟨R,0,none⟩),.int .i64 a,.int .i64 b] w fun e w'=>e=.returned (sQ L t)/\w.grownBy w' (some R)/\ie L B R px py w' r:=by
 have HR:=aA (fun(w1:World) (h1:Below w.heap.size w w1)=>hr.grown (row:=.none) (aK h1 .none) (fun _ e=>by cases e));have ae:=aA (fun o=>((AB w.heap.size w).alloc (Af _) o));have ag:=hr.lt;obtain⟨A,c,h0,h3,hf,hc,ht,aa⟩:=hr.cell0;obtain⟨g,o,hA,ah,ab⟩:=ht (by simp);have ai:w.cell? ⟨g,o,none⟩=some (.int .i64 t.k):=ab 0 0 _ (by simp) rfl;have aj:w.cell? ⟨g,o+1,none⟩=some (.string (K.str t.t)):=ab 0 1 _ (by simp) rfl;have ak:w.cell? ⟨g,o+2,none⟩=some (.complex .f64 (Fl.fl (Pl.pos (L.take t.o)).1) (Fl.fl (Pl.pos (L.take t.o)).2)):=ab 0 2 _ (by simp) rfl;have af:g<w.heap.size:=by obtain⟨_,_,_,_,_,_,al⟩:=hr;omega
 have ad:=aA (fun(w1:World) (h1:Below w.heap.size w w1)=>F3 L B R px py (t::r) a b w1 (HR.o w1 h1));rw[hk]at ad;have HT:=aA (ht.tail hc);have ac:=aA aa;have S1:=fun w=>NT w A c (t::r).length (by simp);have SC:=fun a w m X Y=>show(store a (.complex .f64 X Y) m).run prog w=stored prog w a (.complex .f64 X Y) m from run_store _ w a _ m rfl;have am:(((t::r).length:Int)==0)=false:=by simp;omega
 have ao:0<(t::r).length:=by simp
 have HN:Hid ((t::r).length=r.length+1/\r.length+1<=c/\r.length+1<=4000):=aA ⟨rfl,hc,by obtain⟨_,_,_,_,h4,_,_⟩:=hr;simpa using h4⟩;unfold sQ;clear hr ht ab aa hk;subst hA;generalize (t::r).length=n at *;generalize t.k=z at *;generalize K.str t.t=st at *;generalize Fl.fl (Pl.pos (L.take t.o)).1=X at *;generalize Fl.fl (Pl.pos (L.take t.o)).2=Y' at *
 go_enter func90,ntmps90
 go_wp2_with fail
 refine(ad.o _ (ae.o _)).mono ?_;rintro _ w2 ⟨rfl,rfl⟩;go_wp2;have hk:=ac.o (FR (some ⟨g,o,none⟩) c) (c-1) r (by have:=HN.o;omega) (by have:=HN.o;omega) HT.o;refine B8 (v:=.agg #[.string st,.complex .f64 X Y']) (by simp[results,results90,go_sem]) rfl ⟨rfl,aL (aL (aF (AJ _ _) _ _) _) _,?_⟩;rw[show n-1=r.length by have:=HN.o;omega];exact(hk.alloc _).alloc _
def Tu (L:List Int) (B R px py:Nat) (ts:List fw) (w:World) (e:Ending) (w':World):Prop :=
 w.grownBy w' (some R)/\∃v,e=.returned v/\bZ L w' w.heap.size v (ts.takeWhile Y.isRef)/\ie L B R px py w' (ts.dropWhile Y.isRef)
theorem SO (L:List Int) (B R px py:Nat) (ts:List fw) (w:World) (hr:ie L B R px py w ts) :
  Calls prog 129 #[.pointer (some ⟨R,0,none⟩)] w (Tu L B R px py ts w):=by
 have HR:=aA hr;have ad:=hr.lt;have a1:ts.length<=4000:=by obtain⟨_,_,_,_,h,_⟩:=hr;exact h
 clear hr
 go_enter func129,ntmps129
 go_wp2;go_loopw [3] (fun v wr=>∃(acc rest:List fw),bZ L wr w.heap.size v acc/\ie L B R px py wr rest/\w.grownBy wr (some R)/\acc.length+rest.length=ts.length/\acc++rest.takeWhile Y.isRef=ts.takeWhile Y.isRef/\rest.dropWhile Y.isRef=ts.dropWhile Y.isRef) (fun v _=>4001-zX v)
 case atStart=>exact⟨[],ts,bZ.nil _ _ _,HR.o,AJ _ _,by simp,rfl,rfl⟩
 case round =>
  clear HR;obtain⟨acc,rest,ho,hr,hg,aa,ak,al⟩:=hrel;have HO:=aA ho;have HR:=aA hr;have HG:=aA hg;have HL:=aA aa;have ae:=aA ak;have af:=aA al;obtain⟨A,c,rfl,av,aw⟩:=ho.rd;have ac:=aA (F3 L B R px py rest 1 2 wr hr);clear ho hr hg aa ak al av aw;rcases hb:Y.is [1,2] rest with _|_
  ·rw[hb]at ac;have HB:=aA hb;clear hb;go_wp2_with fail
   refine ac.o.mono ?_;rintro _ w2 ⟨rfl,rfl⟩;go_wp2;go_ret
   obtain⟨e1,e2⟩:=Y.uQ HB.o;rw[e1,CF]at ae;rw[e2]at af;refine⟨HG.o,_,rfl,?_,?_⟩
   ·rw[<-ae.o];exact HO.o
   ·rw[<-af.o];exact HR.o
  ·rw[hb]at ac;have HB:=aA hb;obtain⟨t,r,rfl,ab,hk⟩:=Y.se hb;have am:=aA (zV L B R px py t r 1 2 wr HR.o hb);have HK:Hid (Y.isRef t=true):=aA hk;clear hb ab hk;unfold sQ at am;go_wp2_with fail
   refine ac.o.mono ?_;rintro _ w2 ⟨rfl,rfl⟩;go_wp2_with fail
   refine am.o.mono ?_;rintro _ w3 ⟨rfl,ag,ao⟩;have ap:=aA ag;have ax:=aA ao;have ah:=aA (HO.o.grown ag HR.o.other);clear ag ao;have ay:=aA (Of L w3 t);have az:Hid (w.heap.size<=w3.heap.size):=aA (by have h1:=HG.o.size;have h3:=ap.o.size;omega);have aq:Hid (acc.length<=4000):=aA (by have:=HL.o;simp at this;omega);go_wp2_with (at_builtin;refine Rj rfl (.tmp 6) (.tmp 9) _ rfl underlying133 L w.heap.size _ acc rfl (ah.o.alloc _) w3.heap.size 1 t rfl ay.o (by have:=aq.o;omega) (by have:=az.o;simp;omega) ?_;intro v4 w4 ar ai)
   have a0:=aA (Ir (aL (HG.o.trans ap.o) _) (ah.o.alloc _) ai);have aj:=aA ((ax.o.alloc _).own (ah.o.alloc _) ai ad);have au:=aA ar;clear ar ai;go_roundw
   case rel =>
    refine⟨acc++[t],r,au.o,aj.o,a0.o,?_,?_,?_⟩
    ·have:=HL.o;simp at this ⊢;omega
    ·rw[<-ae.o,List.takeWhile_cons,HK.o];simp
    ·rw[<-af.o,List.dropWhile_cons,HK.o];rfl
   case measure =>
    obtain⟨A4,c4,rfl,_,_⟩:=au.o.rd
    have:=aq.o
    simp[zX];omega
namespace Y
theorem K7 (left:fw):∀(f:Nat) (acc:List iv) (ts:List fw) (ps:List iv) (r:List fw),alts f left acc ts=.ok ps r->ps.length+r.length<=acc.length+ts.length
 | 0,acc,ts,ps,r,h=>by injection h with h1 h2;subst h1 h2;exact Af _
 | f+1,acc,ts,ps,r,h=>by
  rw[alts]at h;obtain⟨p,m,h1,h2⟩:=fD h;obtain⟨t,m2,h3,h4⟩:=fD h2;have e1:=PQ h1;have e2:=congrArg List.length (ik h3).1;simp at e2;split at h4
  ·have:=K7 left f _ _ _ _ h4
   simp at this;omega
  ·injection h4 with h5 h6;subst h5 h6;simp;omega
theorem nK {acc ps:List iv} {ts r:List fw} (h:group acc ts=.ok ps r):ps.length+r.length<acc.length+ts.length:=by
 unfold group at h;obtain⟨t,m,h1,h2⟩:=fD h;obtain⟨u,m2,h3,h4⟩:=fD h2;have e1:=congrArg List.length (ik h1).1;have e2:=congrArg List.length (ik h3).1;have e3:=K7 _ _ _ _ _ _ h4;simp at e1 e2;omega
end Y
theorem GM {size:Nat} {e t:TypeId} (h:w.ownsRow base e size v n xs) (hb:w.heap[g]?=some (.cells cs t (0,0))) (he:e≠t):v.ownBlock≠some g:=by
 intro hk;rcases h.2 with⟨rfl,_⟩|⟨g',cap,cur',rfl,_,hg,_⟩
 ·cases hk
 ·injection hk with hk;have aa:g'=g:=hk;subst aa;rw[hg]at hb;injection hb with e1;injection e1 with _ e2;exact he e2
theorem KM {size:Nat} {e t:TypeId} (h:w.ownsRow base e size v n xs) (hb:w.heap[g]?=some (.cells cs t (0,0))) (he:e≠t) (hg:w.grownBy w' v.ownBlock):w'.heap[g]?=some (.cells cs t (0,0)) :=
 (hg.block g (Ad.1 hb).1 (fun e'=>GM h hb he e'.symm)).trans hb
theorem bL.less {L:List Int} {w:World} {base base':Nat} {v:Value} {ps:List Y.iv} (h:bL L w base v ps) (hb:base'<=base):bL L w base' v ps:=by
 obtain⟨qs,h1,h2,h3⟩:=h;refine⟨qs,h1,⟨h2.1,?_⟩,fun q hq=>(h3 q hq).less hb⟩;rcases h2.2 with h0|⟨g,cap,cur,e,aa,hr⟩
 ·exact .inl h0
 ·exact .inr ⟨g,cap,cur,e,by omega,hr⟩
def GG (n:Nat) (w:World):Nat:=match w.cell? ⟨n,0,none⟩ with|some (.slice _ k _)=>k|_=>0
theorem bR.less {L:List Int} {w:World} {base base':Nat} {v:Value} {ds:List Y.kB} (h:bR L w base v ds) (hb:base'<=base):bR L w base' v ds:=by
 obtain⟨qs,h1,h2,h3⟩:=h;refine⟨qs,h1,⟨h2.1,?_⟩,fun q hq=>(h3 q hq).less hb⟩;rcases h2.2 with h0|⟨g,cap,cur,e,aa,hr⟩
 ·exact .inl h0
 ·exact .inr ⟨g,cap,cur,e,by omega,hr⟩
theorem zI {a:World} (h:Below B a w) (u:Value) (hg:B<=g):Below B a (w.setCell ⟨g,i,none⟩ u) :=
 ⟨h.os,h.tape,h.output,by simpa[World.setCell] using h.size,fun k hk=>(AU w ⟨g,i,none⟩ u k (by simp only;omega)).trans (h.block k hk)⟩
structure qW (L:List Int) (x:fw):Prop where
 o:x.o<L.length
 len:x.t.length<=L.length-x.o
 text:(L.drop x.o).take x.t.length=x.t
 name:(x.k==1)=T.isName x.t
 lit:(x.k==2)=T.isLit x.t
 bytes:K.Bytes x.t
theorem NS (L:List Int) (hL:K.Bytes L) (k:Nat) (hk:k<L.length) (x:T.P3) (hf:T.tU (L.drop k) x) (he:x.2.2=0):qW L ⟨x.1,bG x.1 ((L.drop k).take x.2.1),k⟩:=by
 obtain⟨xk,xn,xe⟩:=x;obtain⟨h1,_,_,_,_,_⟩:=hf;obtain⟨h2,h3,h4,h5⟩:=h1 he;simp only at h2 h3 h4 h5;rw[Bl]at h3;have aa:((L.drop k).take xn).length=xn:=by rw[Bd,Bl];omega
 by_cases ab:xk=1
 ·subst ab;have hn:=h4 rfl;have e:bG 1 ((L.drop k).take xn)=(L.drop k).take xn:=by simp[bG]
  refine⟨hk,?_,?_,?_,?_,?_⟩
  ·simp only;rw[e,aa];exact h3
  ·simp only;rw[e,aa]
  ·simp only;rw[e,hn];rfl
  ·simp only;rw[e,T.p7 _ hn];rfl
  ·simp only;rw[e];exact(hL.drop k).take xn
 ·by_cases ac:xk=2
  ·subst ac;have hn:=h5 rfl;have e:bG 2 ((L.drop k).take xn)=(L.drop k).take xn:=by simp[bG]
   have ad:T.isName ((L.drop k).take xn)=false:=by
    rcases hq:T.isName ((L.drop k).take xn) with _|_
    ·rfl
    ·have:=T.p7 _ hq;rw[hn]at this;cases this
   refine⟨hk,?_,?_,?_,?_,?_⟩
   ·simp only;rw[e,aa];exact h3
   ·simp only;rw[e,aa]
   ·simp only;rw[e,ad];rfl
   ·simp only;rw[e,hn];rfl
   ·simp only;rw[e];exact(hL.drop k).take xn
  ·have e:bG xk ((L.drop k).take xn)=[]:=by unfold bG;rw[AI (by omega)]
   refine⟨hk,?_,?_,?_,?_,?_⟩
   ·simp only;rw[e];simp
   ·simp only;rw[e];simp
   ·simp only;rw[e,Ba.2 ab];rfl
   ·simp only;rw[e,Ba.2 ac];rfl
   ·simp only;rw[e];exact K.Bytes.nil
def vh (L:List Int) (k:Nat) (xs:List fw):Prop:=(∀x∈xs,qW L x/\x.o<k)/\xs.Pairwise (fun a b=>a.o<b.o)
theorem Km (L:List Int) (hL:K.Bytes L):∀(f k m:Nat) (acc xs:List fw),k<=L.length->vh L k acc->tG f (L.drop k) k m acc=.ok xs->vh L L.length xs
 | 0,k,m,acc,xs,hk,hr,h=>by
  injection h with h;subst h;exact⟨fun x hx=>⟨(hr.1 x hx).1,(hr.1 x hx).1.o⟩,hr.2⟩
 | f+1,k,m,acc,xs,hk,hr,h=>by
  by_cases he:(L.drop k).length=0\/m=2
  ·rw[KC _ _ _ _ _ he]at h;injection h with h;subst h;exact⟨fun x hx=>⟨(hr.1 x hx).1,(hr.1 x hx).1.o⟩,hr.2⟩
  ·have ab:k<L.length:=by rw[Bl]at he;omega
   have hf:=T.mX (L.drop k) (by rw[Bl];omega) (hL.drop k);by_cases hb:(T.piece (L.drop k)).2.2=0
   ·rw[Lh _ _ _ _ _ he hb]at h;obtain⟨ad,ac,_,_⟩:=hf.1 hb;rw[Bl]at ac;rw[DR]at h;refine Km L hL f _ _ _ xs (by omega) ?_ h;unfold more;split
    ·exact⟨fun x hx=>⟨(hr.1 x hx).1,by have:=(hr.1 x hx).2;omega⟩,hr.2⟩
    ·refine⟨fun x hx=>?_,?_⟩
     ·rcases Bt.1 hx with h1|h1
      ·exact⟨(hr.1 x h1).1,by have:=(hr.1 x h1).2;omega⟩
      ·rw[AP]at h1;subst h1;exact⟨NS L hL k ab _ hf hb,by simp only;omega⟩
     ·rw[DY];refine⟨hr.2,List.pairwise_singleton _ _,fun a ha b aa=>?_⟩;rw[AP]at aa;subst aa;exact(hr.1 a ha).2
   ·rw[KD _ _ _ _ _ he hb]at h;cases h
theorem OW (L:List Int) (hL:K.Bytes L) (xs:List fw) (h:zt L=.ok xs):vh L L.length xs :=
 Km L hL _ 0 0 [] xs (AV _) ⟨fun x hx=>by simp at hx,List.Pairwise.nil⟩ (by simpa[zt] using h)
theorem vh.lt {L:List Int} {xs:List fw} (h:vh L k xs) (i j:Nat) (aa:i<j) (hj:j<xs.length):xs[i].o<xs[j].o :=
 CX.1 h.2 i j (by omega) hj aa
theorem vh.at {L:List Int} {xs:List fw} (h:vh L k xs) (i:Nat) (hi:i<xs.length):qW L xs[i]:=(h.1 _ (AE hi)).1
theorem vh.ge {L:List Int} {k:Nat} {xs:List fw} (h:vh L k xs):∀(i:Nat) (hi:i<xs.length),i<=xs[i].o
 | 0,_=>AV _
 | i+1,hi=>by
  have h1:=h.ge i (by omega);have h2:=h.lt i (i+1) (by omega) hi;omega
theorem vh.count {L:List Int} {xs:List fw} (h:vh L k xs):xs.length<=L.length:=by
 rcases CY xs.length with h0|h0
 ·omega
 ·have h1:=h.ge (xs.length-1) (by omega);have h2:=(h.at (xs.length-1) (by omega)).o;omega
theorem F6 (w:World) (A:Option Addr) (c n i j:Nat) (h1:i<=j) (h2:j<=c):(Instr.sliceAt 65 (.slice A n c) (some (.int .i64 i)) (some (.int .i64 j)) none).run prog w=.ok (.slice (fU A c i) (j-i) (c-i)) w:=by
 rw[DX _ _ _ _ _ _ (by kernel_rfl),run_slice_lh _ _ _ _ _ (by kernel_rfl) .i64 .i64 (i:Int) (j:Int) (by omega) (by omega) (by omega)];have hs:(sizeOf (prog.elem 65)).run prog w=.ok 1 w:=by kernel_rfl
 rw[hs];simp[Result.andThen,sliced,fU]
namespace T
theorem gI (l:List Int):(K.str l).toList=Lib.bytesOf l:=by
 rw[CP];rfl
theorem qi (l s:List Int):pre l s=((K.str (l.take s.length)).toList==(K.str s).toList):=by
 rw[gI,gI];have e:Lib.bytesOf (l.take s.length)=(Lib.bytesOf l).take (Lib.bytesOf s).length:=by simp[Lib.bytesOf,List.map_take]
 rw[e];unfold pre Lib.hasPrefix;rw[Bw,List.isPrefixOf_iff_prefix,BJ,List.prefix_iff_eq_take,eq_comm]
theorem tf (l s:List Int) (h:l.length<s.length):pre l s=false:=by
 rcases hp:pre l s with _|_
 ·rfl
 ·have:=FI l s hp;omega
theorem sf (z:Int) (r s:List Int):ix (z::r) s=if pre (z::r) s then 0 else if ix r s<0 then -1 else ix r s+1:=by
 unfold ix pre Lib.hasPrefix;rw[show Lib.bytesOf (z::r)=UInt8.ofNat z.toNat::Lib.bytesOf r from rfl,Lib.index]
 have:=Lib.index_ge (Lib.bytesOf r) (Lib.bytesOf s)
 split
 ·rfl
 ·by_cases h:Lib.index (Lib.bytesOf r) (Lib.bytesOf s) = -1
  ·rw[h];simp
  ·have h1:(Lib.index (Lib.bytesOf r) (Lib.bytesOf s) == -1)=false:=by simpa using h
   rw[h1];simp only[DF,if_false];rw[AI (by omega)]
theorem yw (s:List Int) (h:s.length≠0):ix [] s = -1:=by
 cases s with
 | nil=>simp at h
 | cons a b=>rfl
theorem sg (l s:List Int) (k:Nat) (h:k<l.length):ix (l.drop k) s=if pre (l.drop k) s then 0 else if ix (l.drop (k+1)) s<0 then -1 else ix (l.drop (k+1)) s+1:=by
 rw[L.fM l k h,sf]
end T
theorem ze (A:Option Addr) (c B:Nat) (l s:List Int) (k:Nat) (w:World) (hr:il w B A l) (hl:K.Bytes l) (hc:l.length<=c) (hn:l.length<=5000) (hk:k<=l.length) (hs:s.length<=5000) :
  Calls prog 121 #[.slice A l.length c,.int .i64 k,.string (K.str s)] w fun e w'=>e=.returned (.bool (T.pre (l.drop k) s))/\w=w':=by
 have b:=K.gJ s;by_cases h:k+s.length<=l.length
 ·have hp:=T.qi (l.drop k) s;have C1:=FE (((hr.fU hc k).take s.length)) ((hl.drop k).take s.length) (c-k);have S1:=fun w=>F6 w A c l.length k (k+s.length) (by omega) (by omega);rw[Bd,Bl,Eh (by omega)]at C1;rw[show k+s.length-k=s.length by omega]at S1;have aa:(k:Int)+((K.str s).size:Int)=((k+s.length:Nat):Int):=by rw[b];omega
  have h1:((k+s.length:Nat):Int)<=(l.length:Int):=by omega
  have HP:=aA hp;clear hp b hr hl hk hs hc;generalize T.pre (l.drop k) s=pb at *;generalize K.str (List.take s.length (List.drop k l))=st at *;generalize K.str s=s2 at *;generalize k+s.length=m at *;generalize fU A c k=D at *;generalize c-k=c2 at *;generalize s.length=sl at *
  go_enter func121,ntmps121
  go_wp2_with (first|simp only[S1]|simp only[C1])
  go_ret
  exact⟨aE HP.o.symm,rfl⟩
 ·rw[T.tf (l.drop k) s (by rw[Bl];omega)];have h1:¬(k:Int)+((K.str s).size:Int)<=(l.length:Int):=by rw[b];omega
  have h2:(k:Int)+((K.str s).size:Int)<=20000:=by rw[b];omega
  have h3:0<=(k:Int)+((K.str s).size:Int):=by omega
  clear hr hl hk hs hc b;generalize K.str s=s2 at *
  go_enter func121,ntmps121
  go_wp2;go_ret
  exact⟨rfl,rfl⟩
def T.iY (l s:List Int) (k:Nat):Int:=if T.ix (l.drop k) s<0 then -1 else k+T.ix (l.drop k) s+s.length
theorem T.uG (l s:List Int) (k:Nat) (h:k<l.length) (hp:T.pre (l.drop k) s=false):T.iY l s k=T.iY l s (k+1):=by
 unfold T.iY;have hx:=T.sg l s k h;rw[hp]at hx;simp only[DF,if_false]at hx;have hg:=T.ur (l.drop (k+1)) s;by_cases h1:T.ix (l.drop (k+1)) s<0
 ·rw[AC h1]at hx;rw[AC (by omega),AC h1]
 ·rw[AI h1]at hx;rw[AI (by omega),AI h1,hx];simp only[Int.natCast_add];omega
theorem T.rv (l s:List Int) (k:Nat) (h:k<l.length) (hp:T.pre (l.drop k) s=true):T.iY l s k=k+s.length:=by
 unfold T.iY;have hx:=T.sg l s k h;rw[hp,AC rfl]at hx;rw[hx];simp
theorem T.td (l s:List Int) (k:Nat) (h:l.length<=k) (hs:s.length≠0):T.iY l s k = -1:=by
 unfold T.iY;rw[BU h,T.yw s hs];rfl
theorem Hy (A:Option Addr) (c B:Nat) (l s:List Int) (k:Nat) (w:World) (hr:il w B A l) (hl:K.Bytes l) (hc:l.length<=c) (hn:l.length<=5000) (hk:k<=6000) (hs:s.length<=5000) (ac:s.length≠0) :
  Calls prog 122 #[.slice A l.length c,.int .i64 k,.string (K.str s)] w fun e w'=>e=.returned (.int .i64 (T.iY l s k))/\w=w':=by
 have HP:=aA (fun(j:Nat) (h:j<=l.length)=>ze A c B l s j w hr hl hc hn h hs);have ad:=aA (K.gJ s);have HE:=aA (fun j h=>T.td l s j h ac);have HH:=aA (T.rv l s);have HO:=aA (T.uG l s);clear hr hl hc ac
 go_enter func122,ntmps122
 go_wp2
 go_loop [1] (fun vi=>∃(j:Nat),j<=6000/\vi=.int .i64 j/\T.iY l s j=T.iY l s k) (fun vi=>6001-(intOf vi).toNat)
 case atStart=>exact⟨k,hk,rfl,rfl⟩
 case round =>
  obtain⟨j,hj,rfl,he⟩:=hrel;have HV:=aA he;clear he;by_cases ae:j<l.length
  ·have ab:=aA (HP.o j (by omega));rcases hb:T.pre (l.drop j) s with _|_
   ·rw[hb]at ab;have HN:=aA (HO.o j ae hb);clear hb HP HE HH HO;go_wp2_with fail
    refine ab.o.mono ?_;rintro _ w' ⟨rfl,rfl⟩;go_wp2
    go_round
    case rel=>exact⟨j+1,by omega,by go_num,by rw[<-HV.o,HN.o]⟩
    case measure=>simp[intOf];omega
   ·rw[hb]at ab;have HN:=aA (HH.o j ae hb);clear hb HP HE HH HO;have aa:=ad.o;have af:(j:Int)+((K.str s).size:Int)<=20000:=by rw[aa];omega
    have HZ:=aA aa;clear aa ad;generalize K.str s=s2 at *;go_wp2_with fail
    refine ab.o.mono ?_;rintro _ w' ⟨rfl,rfl⟩;go_wp2;go_ret
    exact⟨aU (by rw[<-HV.o,HN.o,HZ.o]),rfl⟩
  ·have HN:=aA (HE.o j (by omega));clear HP HE HH HO;go_wp2;go_ret
   exact⟨aU (by rw[<-HV.o,HN.o]),rfl⟩
theorem T.s9 (z:Int) (r:List Int) (hb:K.Bytes (z::r)):T.line (z::r)=if z=10 then [] else z::T.line r:=by
 have hp:T.pre (z::r) [10]=decide (z=10):=by
  unfold T.pre Lib.hasPrefix;simp only[Lib.bytesOf,Bz,Du,List.isPrefixOf,Bool.and_true]
  have:=hb.hd
  rw[Bw,Cg,BJ]
  constructor
  ·intro h
   have:=congrArg UInt8.toNat h
   simp at this;omega
  ·rintro rfl;rfl
 have hx:=T.sf z r [10];have hg:=T.ur r [10];rw[hp]at hx;unfold T.line;by_cases h:z=10
 ·rw[AC h];rw[AQ h,AC rfl]at hx;rw[hx];rfl
 ·rw[AI h];rw[AM h,AI (by simp)]at hx;by_cases h1:T.ix r [10]<0
  ·rw[AC h1]at hx;rw[AI (by omega),AI (by omega)]
  ·rw[AI h1]at hx;rw[AC (by omega),AC (by omega),hx];rw[show(T.ix r [10]+1).toNat=(T.ix r [10]).toNat+1 by omega];rfl
theorem Kp (A:Option Addr) (c B:Nat) (l:List Int) (k:Nat) (w:World) (hr:il w B A l) (hl:K.Bytes l) (hn:l.length<=5000) (hk:k<=l.length) :
  Calls prog 123 #[.slice A l.length c,.int .i64 k] w fun e w'=>e=.returned (.int .i64 ((k+(T.line (l.drop k)).length:Nat):Int))/\w=w':=by
 go_enter func123,ntmps123
 go_wp2
 go_loop [1] (fun vi=>∃(j:Nat),j<=l.length/\vi=.int .i64 j/\j+(T.line (l.drop j)).length=k+(T.line (l.drop k)).length) (fun vi=>l.length-(intOf vi).toNat)
 case atStart=>exact⟨k,hk,rfl,rfl⟩
 case round =>
  obtain⟨j,hj,rfl,he⟩:=hrel;have HV:=aA he;clear he;by_cases af:j<l.length
  ·obtain⟨g,o,rfl,_,ad⟩:=hr (by omega);have ae:=ad j (by omega);have ab:=L.fM l j af;have ac:=T.s9 (l.getD j 0) (l.drop (j+1)) (ab▸hl.drop j);rw[<-ab]at ac;have HL:=aA ac;clear ad hr hl ab ac;generalize l.getD j 0=z at *;by_cases aa:z=10
   ·subst aa;go_wp2;go_ret
    exact⟨aU (by have h:=HV.o;have h2:=HL.o;simp only[if_true]at h2;rw[h2]at h;simp at h;omega),rfl⟩
   ·have ag:(z==10)=false:=by simpa using aa
    have HN:=aA aa;clear aa;go_wp2
    go_round
    case rel=>exact⟨j+1,by omega,by go_num,by rw[<-HV.o,HL.o,AI HN.o];simp;omega⟩
    case measure=>simp[intOf];omega
  ·obtain rfl:j=l.length:=by omega
   clear hr hl;go_wp2;go_ret
   exact⟨aU (by have h:=HV.o;rw[Ew,show T.line []=[] from rfl]at h;simp at h;omega),rfl⟩
def T.ky (q:Int) (l:List Int) (k:Nat):Int:=match T.quoted q (l.drop k) with|none=>-1|some n=>k+n
theorem T.kM (q:Int):T.quoted q []=none:=by simp[T.quoted]
theorem T.uM (q:Int) (l:List Int) (k:Nat) (h:l.length<=k):T.ky q l k = -1:=by
 unfold T.ky;rw[BU h,T.kM]
theorem T.ti (q:Int) (l:List Int) (k:Nat) (h:k<l.length) (hq:l.getD k 0=q):T.ky q l k=k+1:=by
 unfold T.ky;rw[L.fM l k h,hq]
 have:T.quoted q (q::l.drop (k+1))=some 1:=by unfold T.quoted;rw[AC rfl]
 rw[this];rfl
theorem T.wV (q:Int) (l:List Int) (k:Nat) (h:k<l.length) (hq:¬l.getD k 0=q) (aa:¬l.getD k 0=92):T.ky q l k=T.ky q l (k+1):=by
 unfold T.ky;rw[L.fM l k h]
 have:T.quoted q (l.getD k 0::l.drop (k+1))=(T.quoted q (l.drop (k+1))).map (· + 1):=by
  generalize l.drop (k+1)=r;cases r with
  | nil =>
   rw[T.kM]
   have h1:T.quoted q [l.getD k 0]=none:=by
    generalize l.getD k 0=z at *;simp[T.quoted,hq,aa]
   rw[h1];rfl
  | cons a b=>rw[T.quoted,AI hq,AI aa]
 rw[this];cases T.quoted q (l.drop (k+1)) with
 | none=>rfl
 | some n=>simp only[Dm];omega
theorem T.uN (q:Int) (l:List Int) (k:Nat) (h:k<l.length) (hq:¬l.getD k 0=q) (aa:l.getD k 0=92):T.ky q l k=T.ky q l (k+2):=by
 unfold T.ky;rw[L.fM l k h];by_cases h2:k+1<l.length
 ·rw[L.fM l (k+1) h2]
  have:T.quoted q (l.getD k 0::l.getD (k+1) 0::l.drop (k+1+1))=(T.quoted q (l.drop (k+2))).map (· + 2):=by
   rw[T.quoted,AI hq,AC aa]
  rw[this];cases T.quoted q (l.drop (k+2)) with
  | none=>rfl
  | some n=>simp only[Dm];omega
 ·rw[BU (by omega:l.length<=k+1),BU (by omega:l.length<=k+2),T.kM]
  have:T.quoted q [l.getD k 0]=none:=by rw[T.quoted,AI hq,AC aa]
  rw[this]
theorem Na (A:Option Addr) (c B:Nat) (l:List Int) (k:Nat) (w:World) (hr:il w B A l) (hn:l.length<=5000) (hk:k<l.length) :
  Calls prog 156 #[.slice A l.length c,.int .i64 k] w fun e w'=>e=.returned (.int .i64 (T.ky (l.getD k 0) l (k+1)))/\w=w':=by
 obtain⟨g,o,rfl,_,ac⟩:=hr (by omega);have aa:=ac k hk;have HE:=aA (T.uM (l.getD k 0) l);have HH:=aA (T.ti (l.getD k 0) l);have HO:=aA (T.wV (l.getD k 0) l);have HT:=aA (T.uN (l.getD k 0) l);have HC:=aA ac;clear ac hr;generalize l.getD k 0=q at *
 go_enter func156,ntmps156
 go_wp2
 go_loop [1] (fun vi=>∃(j:Nat),j<=l.length+1/\vi=.int .i64 j/\T.ky q l j=T.ky q l (k+1)) (fun vi=>l.length+2-(intOf vi).toNat)
 case atStart=>exact⟨k+1,by omega,by go_num,rfl⟩
 case round =>
  clear aa;obtain⟨j,hj,rfl,he⟩:=hrel;have HV:=aA he;clear he;by_cases ab:j<l.length
  ·have ae:=HC.o j ab;by_cases hz:l.getD j 0=q
   ·have HN:=aA (HH.o j ab hz);have af:(l.getD j 0==q)=true:=by simpa using hz
    clear hz HE HH HO HT HC;generalize l.getD j 0=z at *;go_wp2;go_ret
    exact⟨aU (by rw[<-HV.o,HN.o]),rfl⟩
   ·have af:(l.getD j 0==q)=false:=by simpa using hz
    by_cases b:l.getD j 0=92
    ·have HN:=aA (HT.o j ab hz b);have ad:(l.getD j 0==92)=true:=by simpa using b
     clear hz b HE HH HO HT HC;generalize l.getD j 0=z at *;go_wp2
     go_round
     case rel=>exact⟨j+2,by omega,by go_num,by rw[<-HV.o,HN.o]⟩
     case measure=>simp[intOf];omega
    ·have HN:=aA (HO.o j ab hz b);have ad:(l.getD j 0==92)=false:=by simpa using b
     clear hz b HE HH HO HT HC;generalize l.getD j 0=z at *;go_wp2
     go_round
     case rel=>exact⟨j+1,by omega,by go_num,by rw[<-HV.o,HN.o]⟩
     case measure=>simp[intOf];omega
  ·have HN:=aA (HE.o j (by omega));clear HE HH HO HT HC;go_wp2;go_ret
   exact⟨aU (by rw[<-HV.o,HN.o]),rfl⟩
theorem T.vJ {o:Int} (h:T.act f (z::r) o=some m) (hz:z=39\/z=34):∃f' q m',T.quoted z r=some q/\T.act f' (r.drop q) o=some m'/\m=m'+(q+1):=by
 cases f with
 | zero=>simp[T.act]at h
 | succ f =>
  rw[T.act]at h;rw[AC hz]at h;split at h
  ·cases h
  ·rename_i q hq
   rw[Df]at h;obtain⟨m',h1,h2⟩:=h;exact⟨f,q,m',hq,h1,h2.symm⟩
theorem T.yh {o:Int} (h:T.act f (z::r) o=some m) (hz:¬(z=39\/z=34)) (ho:0<T.jK z o):∃f' m',T.act f' r (T.jK z o)=some m'/\m=m'+1:=by
 cases f with
 | zero=>simp[T.act]at h
 | succ f =>
  rw[T.act]at h;rw[AI hz,AC ho,Df]at h;obtain⟨m',h1,h2⟩:=h;exact⟨f,m',h1,h2.symm⟩
theorem T.vH {o:Int} (h:T.act f (z::r) o=some m) (hz:¬(z=39\/z=34)) (ho:¬0<T.jK z o):m=1:=by
 cases f with
 | zero=>simp[T.act]at h
 | succ f =>
  rw[T.act]at h;rw[AI hz,AI ho]at h;exact(DI h).symm
theorem T.vI {o:Int} (h:T.act f [] o=some m):False:=by
 cases f with
 | zero=>simp[T.act]at h
 | succ f=>rw[T.act]at h;cases h
theorem Nd (A:Option Addr) (c B:Nat) (l:List Int) (k n f0:Nat) (w:World) (hr:il w B A l) (hn:l.length<=5000) (hk:k<l.length) (hz:l.getD k 0=123) (ha:T.act f0 (l.drop k) 0=some n) :
  Calls prog 124 #[.slice A l.length c,.int .i64 k] w fun e w'=>e=.returned (.int .i64 ((k+n:Nat):Int))/\w=w':=by
 have HQ:=aA (fun(j:Nat) (h:j<l.length)=>Na A c B l j w hr hn h);have HA:=aA ha;have HZ:=aA hz;clear ha hz
 go_enter func124,ntmps124
 go_wp2
 go_loop [1,5] (fun vi vo=>∃(j f m:Nat) (o:Int),j<=l.length/\vi=.int .i64 j/\vo=.int .i64 o/\0<=o/\o+k<=j/\T.act f (l.drop j) o=some m/\j+m=k+n/\(o=0->l.getD j 0=123)) (fun vi _=>l.length-(intOf vi).toNat)
 case atStart=>exact⟨k,f0,n,0,by omega,rfl,rfl,by omega,by omega,HA.o,rfl,fun _=>HZ.o⟩
 case round =>
  clear HA HZ;obtain⟨j,f,m,o,hj,rfl,rfl,ho,ak,d,hm,b⟩:=hrel;have HM:=aA hm;clear hm;by_cases aa:j<l.length
  ·obtain⟨g,o',rfl,_,ad⟩:=hr (by omega);have ae:=ad j aa;have ab:=aA (HQ.o j aa);rw[L.fM l j aa]at d;have i:=aA d;clear d HQ ad hr;have HD:Hid (∀q,(l.drop (j+1)).drop q=l.drop (j+1+q)):=aA (fun q=>by rw[DR]);by_cases hq:l.getD j 0=39\/l.getD j 0=34
   ·obtain⟨f',q,m',h1,h2,h3⟩:=T.vJ i.o hq;have ag:=T.kh _ _ _ h1;rw[Bl]at ag;have hv:T.ky (l.getD j 0) l (j+1)=((j+1+q:Nat):Int):=by unfold T.ky;rw[h1];simp only;omega
    rw[hv]at ab;rw[HD.o]at h2;have H2:=aA h2;have H3:=aA h3;have r:¬o=0:=fun e=>by have:=b e;omega
    have ac:(o==0)=false:=by simpa using r
    clear h1 h2 h3 hv i b
    have ah:(l.getD j 0==123)=false/\(l.getD j 0==125)=false:=by
     rcases hq with e|e <;> rw[e] <;> exact⟨rfl,rfl⟩
    obtain⟨q1,q2⟩:=ah;have ai:0<=((j+1+q:Nat):Int):=by omega
    have al:j+1+q<=l.length:=by omega
    rcases hq with hq|hq
    focus
     have q3:(l.getD j 0==39)=true:=by rw[hq];rfl
    rotate_left
    focus
     have q3:(l.getD j 0==39)=false:=by rw[hq];rfl
     have q4:(l.getD j 0==34)=true:=by rw[hq];rfl
    all_goals
     clear hq;generalize l.getD j 0=z at *;generalize hx:j+1+q=x at *;have HX:=aA hx;clear hx;go_wp2_with fail
     refine ab.o.mono ?_;rintro _ w' ⟨rfl,rfl⟩;go_wp2
     go_round
     case rel=>exact⟨x,f',m',o,by omega,rfl,rfl,ho,by have:=HX.o;omega,H2.o,by have:=H3.o;have:=HM.o;have:=HX.o;omega,fun e=>absurd e r⟩
     case measure=>have:=HX.o;simp[intOf];omega
   ·have q3:(l.getD j 0==39)=false:=by simpa using fun e=>hq (.inl e)
    have q4:(l.getD j 0==34)=false:=by simpa using fun e=>hq (.inr e)
    have p:=aA (T.yh i.o hq);have s:=aA (T.vH i.o hq);clear i hq ab HD;by_cases h1:l.getD j 0=123
    ·have q1:(l.getD j 0==123)=true:=by rw[h1];rfl
     have hs:T.jK (l.getD j 0) o=o+1:=by unfold T.jK;rw[AC h1]
     obtain⟨f',m',h2,h3⟩:=p.o (by rw[hs];omega);rw[hs]at h2;have H2:=aA h2;have H3:=aA h3;clear p s h1 hs h2 h3 b;have ac:(o+1==0)=false:=by rw[Ba];omega
     generalize l.getD j 0=z at *;go_wp2
     go_round
     case rel=>exact⟨j+1,f',m',o+1,by omega,by go_num,by go_num,by omega,by omega,H2.o,by have:=H3.o;have:=HM.o;omega,fun e=>by omega⟩
     case measure=>simp[intOf];omega
    ·have q1:(l.getD j 0==123)=false:=by simpa using h1
     have r:¬o=0:=fun e=>h1 (b e);by_cases h5:l.getD j 0=125
     ·have q2:(l.getD j 0==125)=true:=by rw[h5];rfl
      have hs:T.jK (l.getD j 0) o=o-1:=by unfold T.jK;rw[AI h1,AC h5]
      by_cases h0:0<o-1
      ·obtain⟨f',m',h2,h3⟩:=p.o (by rw[hs];omega);rw[hs]at h2;have H2:=aA h2;have H3:=aA h3;clear p s h1 h5 hs h2 h3 b;have ac:(o-1==0)=false:=by rw[Ba];omega
       generalize l.getD j 0=z at *;go_wp2
       go_round
       case rel=>exact⟨j+1,f',m',o-1,by omega,by go_num,by go_num,by omega,by omega,H2.o,by have:=H3.o;have:=HM.o;omega,fun e=>by omega⟩
       case measure=>simp[intOf];omega
      ·have af:=s.o (by rw[hs];omega);have H3:=aA af;have aj:o=1:=by omega
       subst aj;clear p s h1 h5 hs af b h0 r;generalize l.getD j 0=z at *;go_wp2;go_ret
       exact⟨aU (by have:=HM.o;have:=H3.o;omega),rfl⟩
     ·have q2:(l.getD j 0==125)=false:=by simpa using h5
      have hs:T.jK (l.getD j 0) o=o:=by unfold T.jK;rw[AI h1,AI h5]
      obtain⟨f',m',h2,h3⟩:=p.o (by rw[hs];omega);rw[hs]at h2;have H2:=aA h2;have H3:=aA h3;clear p s h1 h5 hs h2 h3 b;have ac:(o==0)=false:=by simpa using r
      generalize l.getD j 0=z at *;go_wp2
      go_round
      case rel=>exact⟨j+1,f',m',o,by omega,by go_num,rfl,by omega,by omega,H2.o,by have:=H3.o;have:=HM.o;omega,fun e=>absurd e r⟩
      case measure=>simp[intOf];omega
  ·exfalso
   rw[BU (by omega)]at d;exact T.vI d
theorem bR.at {L:List Int} {w:World} {base:Nat} {v:Value} {ds:List Y.kB} (h:bR L w base v ds) (i:Nat) (hi:i<ds.length):∃D c A c',v=.slice (some ⟨D,0,none⟩) ds.length c/\w.cell? ⟨D,i*2,none⟩=some (.int .i64 ds[i].k)/\w.cell? ⟨D,i*2+1,none⟩=some (.slice A ds[i].ns.length c')/\mx L w base A ds[i].ns:=by
 obtain⟨qs,rfl,h2,h3⟩:=h;have aa:i<qs.length:=by simpa using hi
 rcases h2.2 with⟨_,h0⟩|⟨g,cap,cur,rfl,_⟩
 ·omega
 ·refine⟨g,cap,qs[i].2.1,qs[i].2.2,rfl,?_,?_,?_⟩
  ·have:=CE h2 (g:=g) rfl (i*2+0) _ (by rw[Ls qs i 0 aa (by omega)];rfl)
   rw[rX,BG]at this
   simpa using this
  ·have:=CE h2 (g:=g) rfl (i*2+1) _ (by rw[Ls qs i 1 aa (by omega)];rfl)
   rw[rX,BG]at this
   simpa using this
  ·have:=h3 qs[i] (AE aa)
   simpa using this
theorem bL.at {L:List Int} {w:World} {base:Nat} {v:Value} {ps:List Y.iv} (h:bL L w base v ps) (i:Nat) (hi:i<ps.length):∃D c A c',v=.slice (some ⟨D,0,none⟩) ps.length c/\(∀j u,j<5->(a7 L ps[i] A c')[j]?=some u->w.cell? ⟨D,i*5+j,none⟩=some u)/\mx L w base A ps[i].r:=by
 obtain⟨qs,rfl,h2,h3⟩:=h;have aa:i<qs.length:=by simpa using hi
 rcases h2.2 with⟨_,h0⟩|⟨g,cap,cur,rfl,_⟩
 ·omega
 ·refine⟨g,cap,qs[i].2.1,qs[i].2.2,rfl,fun j u hj hu=>?_,?_⟩
  ·have:=CE h2 (g:=g) rfl (i*5+j) u (by rw[Rx L qs i j aa hj];simpa using hu)
   rw[rX,BG]at this;exact this
  ·have:=h3 qs[i] (AE aa)
   simpa using this
theorem bZ.fC {L:List Int} {xs:List fw} (h:bZ L w base v xs) (hb:base'<=base):bZ L w base' v xs:=by
 refine⟨h.1,?_⟩;rcases h.2 with h0|⟨g,cap,cur,e,aa,hr⟩
 ·exact .inl h0
 ·exact .inr ⟨g,cap,cur,e,by omega,hr⟩
end Go.Proofs.YtcmhaemaophplaaGreat
