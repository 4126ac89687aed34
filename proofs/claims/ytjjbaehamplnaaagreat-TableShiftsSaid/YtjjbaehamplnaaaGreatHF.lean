/- Part of the proofs over this program: TrimReach, TrimRef, YaccW, LexToks, YaccRd, YaccP, YaccDecl, Ref8R, YaccSource, YaccOf, ScanL, Ref7. -/
import Derived.Deep.DeepCutAuto
import Derived.Defers
import Derived.Recover
import Derived.Test.YtjjbaehamplnaaaGreatHE
set_option linter.all false
namespace Go
def Ca:=@And.intro
def Em:=@Go.RowKit.Below.setCell
def Dd:=@List.getElem?_take_of_lt
def En:=@Go.wp_append_own
def B3:=@Go.bodyPost_ret
def D6:=@List.drop_drop
def Et:=@List.drop_length
end Go
open Go.RowKit Go.Proofs.Tryz
set_option maxRecDepth 100000
set_option maxHeartbeats 40000000
namespace Go.Proofs.YtjjbaehamplnaaaGreat
variable {A:Option Go.Addr} {B B' base f g i k m n px py:Nat} {G:Gm.Gr} {cs:Array Go.Value} {ds:List Y.jL} {ops:Array Go.Oper} {r:List Int} {rs:List Gm.Rl} {tm:Bool} {v:Go.Value} {w w':Go.World} {xs:List Go.Value} {z:Int}
def Gm.wh (p is:List Bool) (x:Gm.Rl):List Int:=if is.getD x.l.toNat false=true/\Gm.iv true p x.r=true then Gm.pW x.r else []
theorem Pa (x:Gm.Rl) (is p:List Bool) (A A1 A2:Option Addr) (c c1 c2 B B1 B2 gk gp:Nat) (w:World) (ag:w.cell? ⟨gk,0,none⟩=some (.slice A1 is.length c1)) (ac:w.cell? ⟨gp,0,none⟩=some (.slice A2 p.length c2)) (hr:gg w B A x.r) (h1:jk w B1 A1 is) (h2:jk w B2 A2 p) (hB:B<=w.heap.size) (aa:B2<=w.heap.size) (ab:∀z∈x.r,Gm.In z) (hs:∀z∈x.r,z<0->-1-z<(p.length:Int)) (hx:0<=x.l/\x.l<is.length) (hl:x.r.length<=1000000) :
  Calls prog 200 #[.agg #[.int .i64 x.l,.slice A x.r.length c,.int .i64 x.p],.pointer (some ⟨gk,0,none⟩),.pointer (some ⟨gp,0,none⟩)] w fun e w'=>∃v,e=.returned v/\aV w' w.heap.size v (Gm.wh p is x)/\β w w':=by
 have HA:=aA (fun o=>(AB w.heap.size w).alloc (Af _) o);have ad:=aA (fun(y:World) (h:β w y)=>L8 x A c B y (hr.below h hB) ab (Ah hB h.size) hl);have i:=aA (fun(y:World) (h:β w y)=>Kx x p A A2 c c2 w.heap.size y ((hr.below h hB).more hB) ab hs ((h2.below h aa).more aa) h.size hl);have HE:Hid (Gm.wh p is x=if is.getD x.l.toNat false=true/\Gm.iv true p x.r=true then Gm.pW x.r else []):=aA rfl;obtain⟨l,r,q⟩:=x;obtain⟨m,rfl⟩:∃m:Nat,l=(m:Int):=⟨l.toNat,by have:=hx.1;simp only at this;omega⟩
 simp only[Cj]at HE hx ad i ⊢;obtain⟨g,o,rfl,aj,hc⟩:=h1 ω;have hm:m<is.length:=ω
 have ak:(m:Int)<(is.length:Int):=ω
 have k0:=hc m hm;have al:=Bl ag;have am:=Bl ac;have ao:=Bl k0;have ap:=aA ac;generalize is.getD m false=b at *;clear hr h1 h2 hB aa ab hs hx hl hc;cases b
 ·have HX:=aA (HE.o.trans (AJ σ));clear HE
  go_enter func200,ntmps200
  go_wp2;go_ret
  exact⟨_,rfl,by rw[HX.o];exact aV.nil _ _,HA.o _⟩
 ·cases ha:Gm.iv true p r
  ·have HX:=aA (HE.o.trans (AJ (by rw[ha];simp)));rw[ha]at i;clear HE ha
   go_enter func200,ntmps200
   go_wp2_with fail
   refine(i.o _ (HA.o _)).mono ?_;rintro _ w2 ⟨rfl,d⟩;have f:=aA ((HA.o (.cells #[.int .i64 m,.slice A r.length c,.int .i64 q] 74)).trans (d.mono σ));clear d;go_wp2;go_ret
   exact⟨_,rfl,by rw[HX.o];exact aV.nil _ _,f.o⟩
  ·have HX:=aA (HE.o.trans (Az ⟨rfl,ha⟩));rw[ha]at i;clear HE ha
   go_enter func200,ntmps200
   go_wp2_with fail
   refine(i.o _ (HA.o _)).mono ?_;rintro _ w2 ⟨rfl,d⟩;have f:=aA ((HA.o (.cells #[.int .i64 m,.slice A r.length c,.int .i64 q] 74)).trans (d.mono σ));have hb:=(d.block w.heap.size σ).trans (AI w _);have d0:=AF w2 _ 0 _ _ _ hb;have d1:=AF w2 _ 1 _ _ _ hb;have d2:=AF w2 _ 2 _ _ _ hb;have ld:=(Ad.1 hb).1;clear d hb;go_wp2_with fail
   refine(ad.o _ f.o).mono ?_;rintro _ w3 ⟨v,rfl,ae,af⟩;have ah:=aA (ae.mono f.o.size);have ai:=aA (f.o.trans (af.mono f.o.size));clear ae af;go_wp2;go_ret
   exact⟨_,rfl,by rw[HX.o];exact ah.o,ai.o⟩
theorem SQ (w:World) (t:TypeId) (ht:prog.underlying t=some (.slice 4)) (n:Nat) (hn:n<=35184372088832) :
  ∃w',(Instr.makeSlice t (.int .i64 n) (.int .i64 n)).run prog w=.ok (.slice (some ⟨w.heap.size,0,none⟩) n n) w'/\fU w' w.heap.size (List.replicate n false)/\β w w':=by
 obtain⟨i,hi,ac,ad,ae⟩:=CF NW;obtain⟨w',ab,aa,b⟩:=run_make_full (P:=prog) w w.heap.size t 4 i (.bool false) 1 ht hi ac ad .i64 .i64 n (by rw[ae];omega) (by unfold maxLen;omega) (Af _);refine⟨w',ab,?_,⟨b.os,b.tape,b.output,b.size,fun k hk=>b.block k hk σ⟩⟩;refine Ky (base:=w.heap.size) (n:=n) ?_;rw[KE]
 have e:(madeCells (Value.bool false).cells (n*1)).toList=List.replicate n (Value.bool false):=by
  rw[DS];exact EL _ _
 rw[e]at aa;exact aa
theorem Ub {o:Oper} {a:Act} {K:Act->World->Prop} {Q:Exit->Act->World->Prop} (l c:Operand) (t:TypeId) (ab:o.op=Op.makeSlice t l c) (ht:prog.underlying t=some (.slice 4)) (n:Nat) (hl:a.eval l=.int .i64 n) (hc:a.eval c=.int .i64 n) (hn:n<=35184372088832) (hK:∀w',fU w' w.heap.size (List.replicate n false)->β w w'->K (a.put o.dst (.slice (some ⟨w.heap.size,0,none⟩) n n)) w'):Oper.wp prog o a w K Q:=by
 obtain⟨w',aa,h1,h2⟩:=SQ w t ht n hn;unfold Oper.wp;simp[execOp,ab,hl,hc,aa,Result.andThen];exact hK w' h1 h2
structure JR (w2:World) (n:Nat) (row:List Bool) (todo:List Nat) (wx:World) (x3 x5 x6 x7:Value) (g3 g5 c6 c7:Nat):Prop where
 t:∀k∈todo,k=3\/k=5\/k=6\/k=7
 b:β w2 wx
 h3:3 ∉ todo->x3=.slice (some ⟨g3,0,none⟩) n n/\w2.heap.size<=g3/\fU wx g3 (List.replicate n false)
 h5:5 ∉ todo->x5=.slice (some ⟨g5,0,none⟩) n n/\w2.heap.size<=g5/\fU wx g5 row
 h6:6 ∉ todo->x6=.pointer (some ⟨c6,0,none⟩)/\w2.heap.size<=c6/\wx.heap[c6]?=some (.cells #[.slice none 0 0] 188 (0,0))
 h7:7 ∉ todo->x7=.pointer (some ⟨c7,0,none⟩)/\w2.heap.size<=c7/\wx.heap[c7]?=some (.cells #[.slice none 0 0] 188 (0,0))
 d35:3 ∉ todo->5 ∉ todo->g3≠g5
 d67:6 ∉ todo->7 ∉ todo->c6≠c7
section
variable {w2 wx w':World} {n:Nat} {row:List Bool} {todo:List Nat} {x3 x5 x6 x7:Value} {g3 g5 c6 c7:Nat}
theorem aE {l:List Nat} {j:Nat} (h:j ∉ l.erase k) (aa:j≠k):j ∉ l:=fun hm=>h ((List.mem_erase_of_ne aa).2 hm)
theorem aC {o:Obj} (hb:β wx w') (h:wx.heap[g]?=some o):w'.heap[g]?=some o:=(hb.block g (Ad.1 h).1).trans h
theorem JR.zC (h:JR w2 n row todo wx x3 x5 x6 x7 g3 g5 c6 c7) (hb:β wx w') (hu:fU w' wx.heap.size (List.replicate n false)):JR w2 n row (todo.erase 3) w' (.slice (some ⟨wx.heap.size,0,none⟩) n n) x5 x6 x7 wx.heap.size g5 c6 c7 where
 t k hk:=h.t k (Bv hk)
 b:=h.b.trans (hb.mono h.b.size)
 h3 _:=⟨rfl,h.b.size,hu⟩
 h5 q:=by obtain⟨a1,a2,a3⟩:=h.h5 (aE q δ);exact⟨a1,a2,aC hb a3⟩
 h6 q:=by obtain⟨a1,a2,a3⟩:=h.h6 (aE q δ);exact⟨a1,a2,aC hb a3⟩
 h7 q:=by obtain⟨a1,a2,a3⟩:=h.h7 (aE q δ);exact⟨a1,a2,aC hb a3⟩
 d35 _ q:=by have:=fU.lt (h.h5 (aE q δ)).2.2;omega
 d67 q1 q2:=h.d67 (aE q1 δ) (aE q2 δ)
theorem JR.uS (h:JR w2 n row todo wx x3 x5 x6 x7 g3 g5 c6 c7) (hb:β wx w') (hg:wx.heap.size<=g) (hu:fU w' g row):JR w2 n row (todo.erase 5) w' x3 (.slice (some ⟨g,0,none⟩) n n) x6 x7 g3 g c6 c7 where
 t k hk:=h.t k (Bv hk)
 b:=h.b.trans (hb.mono h.b.size)
 h5 _:=⟨rfl,Ah h.b.size hg,hu⟩
 h3 q:=by obtain⟨a1,a2,a3⟩:=h.h3 (aE q δ);exact⟨a1,a2,aC hb a3⟩
 h6 q:=by obtain⟨a1,a2,a3⟩:=h.h6 (aE q δ);exact⟨a1,a2,aC hb a3⟩
 h7 q:=by obtain⟨a1,a2,a3⟩:=h.h7 (aE q δ);exact⟨a1,a2,aC hb a3⟩
 d35 q _:=by have:=fU.lt (h.h3 (aE q δ)).2.2;omega
 d67 q1 q2:=h.d67 (aE q1 δ) (aE q2 δ)
theorem JR.uT (h:JR w2 n row todo wx x3 x5 x6 x7 g3 g5 c6 c7):JR w2 n row (todo.erase 6) (wx.alloc (.cells #[.slice none 0 0] 188)) x3 x5 (.pointer (some ⟨wx.heap.size,0,none⟩)) x7 g3 g5 wx.heap.size c7 where
 t k hk:=h.t k (Bv hk)
 b:=h.b.alloc h.b.size _
 h6 _:=⟨rfl,h.b.size,AI wx _⟩
 h3 q:=by obtain⟨a1,a2,a3⟩:=h.h3 (aE q δ);exact⟨a1,a2,a3.alloc _⟩
 h5 q:=by obtain⟨a1,a2,a3⟩:=h.h5 (aE q δ);exact⟨a1,a2,a3.alloc _⟩
 h7 q:=by obtain⟨a1,a2,a3⟩:=h.h7 (aE q δ);exact⟨a1,a2,aC ((AB _ _).alloc (Af _) _) a3⟩
 d35 q1 q2:=h.d35 (aE q1 δ) (aE q2 δ)
 d67 _ q:=by have:=(Ad.1 (h.h7 (aE q δ)).2.2).1;omega
theorem JR.uU (h:JR w2 n row todo wx x3 x5 x6 x7 g3 g5 c6 c7):JR w2 n row (todo.erase 7) (wx.alloc (.cells #[.slice none 0 0] 188)) x3 x5 x6 (.pointer (some ⟨wx.heap.size,0,none⟩)) g3 g5 c6 wx.heap.size where
 t k hk:=h.t k (Bv hk)
 b:=h.b.alloc h.b.size _
 h7 _:=⟨rfl,h.b.size,AI wx _⟩
 h3 q:=by obtain⟨a1,a2,a3⟩:=h.h3 (aE q δ);exact⟨a1,a2,a3.alloc _⟩
 h5 q:=by obtain⟨a1,a2,a3⟩:=h.h5 (aE q δ);exact⟨a1,a2,a3.alloc _⟩
 h6 q:=by obtain⟨a1,a2,a3⟩:=h.h6 (aE q δ);exact⟨a1,a2,aC ((AB _ _).alloc (Af _) _) a3⟩
 d35 q1 q2:=h.d35 (aE q1 δ) (aE q2 δ)
 d67 q _:=by have:=(Ad.1 (h.h6 (aE q δ)).2.2).1;omega
end
theorem Gm.y5 (aa:Gm.Ok G) {s:List Bool} {x:Gm.Rl} (hx:x∈G.rs) (hd:∀i:Nat,s.getD i false=true->Gm.Rc G (i:Int)) {m:Int} (hm:m∈Gm.wh (Gm.gn true G.rs G.ns.length) s x):0<=m/\m<G.ns.length/\Gm.Rc G m:=by
 unfold Gm.wh at hm;split at hm
 ·rename_i h
  obtain⟨h1,h2⟩:=Gm.lj.1 hm;have h3:=aa.sin x hx _ h1 ω;have h4:=hd _ h.1;rw[BH (aa.iO x hx).1]at h4;have h5:=Gm.Rc.on x hx h4 ((Gm.kR aa.iO _).1 h.2) _ h1 ω;rw[show -1-(-1-m)=m by omega]at h5 h3;exact⟨h2,h3,h5⟩
 ·simp at hm
theorem Gm.wV (p s:List Bool) (x:Gm.Rl) (h:x.r.length<=6):(Gm.wh p s x).length<=1000000:=by
 unfold Gm.wh;split
 ·have:=Gm.oB x.r;omega
 ·simp
theorem Gm.GA (aa:Gm.Ok G) {s:List Bool} (hl:s.length=G.ns.length) (hd:∀i:Nat,s.getD i false=true->Gm.Rc G (i:Int)) (ab:Gm.Le ((List.replicate G.ns.length false).set G.st.toNat true) s) (hc:∀x∈G.rs,∀m∈Gm.wh (Gm.gn true G.rs G.ns.length) s x,s.getD m.toNat false=true):s=Gm.rc G:=by
 refine Gm.uX hl hd ⟨ab.get _ (Gm.js _ _ (by have:=aa.s0;have:=aa.s1;simp;omega)),fun x hx h1 h2 z hz hn=>?_⟩;refine hc x hx (-1-z) ?_;unfold Gm.wh;rw[Az ⟨h1,(Gm.kR aa.iO _).2 h2⟩];exact Gm.lj.2 ⟨by rw[show -1-(-1-z)=z by omega];exact hz,ω⟩
theorem Gm.zI (aa:Gm.Ok G) (i:Nat) (h:((List.replicate G.ns.length false).set G.st.toNat true).getD i false=true):Gm.Rc G (i:Int):=by
 rcases Gm.jq _ _ _ h with h1|h1
 ·rw[Aw,CO]at h1;split at h1 <;> cases h1
 ·rw[h1,BH aa.s0];exact .st
theorem OE (v:Value) (G:Gm.Gr) (B:Nat) (w:World) (hg:aT w B v G) (hf:Gm.Fit G) (hB:B<=w.heap.size) :
  Calls prog 178 #[v] w (yT (Gm.right G) (Gm.rc G) w):=by
 have H1:=aA (fun(x:World) (h:β w x)=>zT v G B x (hg.below h hB) hf (Ah hB h.size));have H2:=aA (fun(x:World) (h:β w x)=>Jk v G B x (hg.below h hB) hf (Ah hB h.size));have bs:=aA (fun(x:World) (h:β w x)=>hg.below h hB);obtain⟨AT,cT,AN,cN,AR,cR,rfl,_,⟨bu,bv⟩,_,_,_,hR⟩:=hg;have N:=aA (One.start w #[.slice AT G.ts.length cT,.slice AN G.ns.length cN,.slice AR G.rs.length cR,.int .i64 G.st]);have bl:=aA hR;have HB:=aA hB;have bm:=aA hf;clear hf hR hB;cases q:Gm.right G
 ·rw[q]at H1;clear q H2
  go_enter func178,ntmps178
  go_wp2_with fail
  refine(H1.o _ N.o.below).mono ?_;rintro _ w2 ⟨rfl,hb⟩;have A:=aA (N.o.on hb);clear hb;go_wp2;go_ret
  exact⟨fun h=>by simp at h,fun _=>⟨rfl,A.o.below⟩⟩
 ·have D:=aA (Gm.fq.1 q);have HN:Hid (G.ns.length<=40):=aA (by have:=(Gm.fF G).1 D.o.n;omega);have aq:Hid (G.rs.length<=40):=aA D.o.kL;have H2:=aA (fun x h=>(show Calls _ _ _ _ (wI _ _) from(H2.o x h).mono fun e w' k=>k.1 q));rw[q]at H1;clear q;have bw:=HN.o;have bn:(G.ns.length:Int)<=9223372036854775807:=ω
  go_enter func178,ntmps178
  go_upto_region 3 with fail
  refine(H1.o _ N.o.below).mono ?_;rintro _ w2 ⟨rfl,hb⟩;have A:=aA (N.o.on hb);clear hb;go_upto_region 3 with fail
  have ax:Hid (β w w2):=aA A.o.below;have bx:=aA ((Ef A.o w.heap.size ω).trans (AI w _));have C:w.heap.size<w2.heap.size:=A.o.size;obtain⟨T,hT⟩:∃x,x=Gm.gn true G.rs G.ns.length:=⟨_,rfl⟩
  have ar:Hid (T.length=G.ns.length):=aA (by rw[hT,Gm.iJ]);rw[<-hT]at H2;have HT:=aA hT;clear hT;have H3:=aA (fun(x:World) (h:β w2 x)=>H2.o x (ax.o.trans (h.mono (Cx C))));have q0:=fun y:Calm.On w2.heap.size w2=>(y.2.cell (p:=⟨w.heap.size,0,none⟩) C).trans (A.o.c 0 _ rfl);have q1:=fun y:Calm.On w2.heap.size w2=>(y.2.cell (p:=⟨w.heap.size,1,none⟩) C).trans (A.o.c 1 _ rfl);have q2:=fun y:Calm.On w2.heap.size w2=>(y.2.cell (p:=⟨w.heap.size,2,none⟩) C).trans (A.o.c 2 _ rfl);have q3:=fun y:Calm.On w2.heap.size w2=>(y.2.cell (p:=⟨w.heap.size,3,none⟩) C).trans (A.o.c 3 _ rfl);clear H1 N H2
  refine CalmN.rB (γ w2) [0,1,2,4] [3,5,6,7] (.one [] 8 (.one [] 9 (.fin [])))
   (fun todo a wx=>∃x3 x5 x6 x7 g3 g5 c6 c7,a = {tmps:=#[.agg #[.slice AT G.ts.length cT,.slice AN G.ns.length cN,.slice AR G.rs.length cR,.int .i64 G.st],.pointer (some ⟨w.heap.size,0,none⟩),.slice none 0 0,x6,x7,.agg #[.slice AT G.ts.length cT,.slice AN G.ns.length cN,.slice AR G.rs.length cR,.int .i64 G.st],.bool true,.bool false,.pointer (some ⟨w.heap.size,1,none⟩),.slice AN G.ns.length cN,.int .i64 G.ns.length,x3,.agg #[.slice AT G.ts.length cT,.slice AN G.ns.length cN,.slice AR G.rs.length cR,.int .i64 G.st],x5,undef,undef,undef,undef,undef,undef,undef,undef,undef,undef],defers:=[]}/\JR w2 G.ns.length T todo wx x3 x5 x6 x7 g3 g5 c6 c7)
   κ κ (fun _ _ d _ _ h=>by cases d <;> exact h) ⟨⟨w2.drew,aB (AB _ _) 1⟩,rfl⟩ ?_ ?_ ?_
  ·simp only[CalmN.fo,Aq,Ai,Am];repeat (go_big_quiet_step (fail))
   refine Ap ?_;exact⟨undef,undef,undef,undef,0,0,0,0,rfl,⟨σ,aB (AB _ _) 1,fun h=>absurd σ h,fun h=>absurd σ h,fun h=>absurd σ h,fun h=>absurd σ h,fun h=>absurd σ h,fun h=>absurd σ h⟩⟩
  ·intro todo k a wx hk hJ hS;obtain⟨x3,x5,x6,x7,g3,g5,c6,c7,rfl,hJ⟩:=hJ;have HJ:=aA hJ;have ae:=hJ.t k hk;clear hJ hS hk q0 q1 q2 q3;rcases ae with rfl|rfl|rfl|rfl
   ·simp only[CalmN.fu,Aq,Ai,Am];intro KK j;rw[Az ε];refine Ub (.tmp 10) (.tmp 10) _ rfl underlying188 G.ns.length rfl rfl ω ?_;intro w' hu hb;have hj:=HJ.o.zC hb hu;exact j _ _ ⟨⟨w',hj.b⟩,rfl⟩ _ ι ⟨⟨w',hj.b⟩,rfl⟩ ⟨_,x5,x6,x7,_,g5,c6,c7,rfl,hj⟩
   ·simp only[CalmN.fu,Aq,Ai,Am];intro KK j;rw[Az ε];go_wp2_with fail
    refine(H3.o wx HJ.o.b).mono ?_;rintro _ w' ⟨g,rfl,hg,hu,hb⟩;have hj:=HJ.o.uS hb hg hu;go_wp2_with fail
    rw[ar.o];exact j _ _ ⟨⟨w',hj.b⟩,rfl⟩ _ ι ⟨⟨w',hj.b⟩,rfl⟩ ⟨x3,_,x6,x7,g3,_,c6,c7,rfl,hj⟩
   ·simp only[CalmN.fu,Aq,Ai,Am];intro KK j;rw[Az ε];have hj:=HJ.o.uT;go_wp2_with fail
    exact j _ _ ⟨⟨_,hj.b⟩,rfl⟩ _ ι ⟨⟨_,hj.b⟩,rfl⟩ ⟨x3,x5,_,x7,g3,g5,_,c7,rfl,hj⟩
   ·simp only[CalmN.fu,Aq,Ai,Am];intro KK j;rw[Az ε];have hj:=HJ.o.uU;go_wp2_with fail
    exact j _ _ ⟨⟨_,hj.b⟩,rfl⟩ _ ι ⟨⟨_,hj.b⟩,rfl⟩ ⟨x3,x5,x6,_,g3,g5,c6,_,rfl,hj⟩
  ·intro a wx hJ hS;obtain⟨x3,x5,x6,x7,g3,g5,c6,c7,rfl,hJ⟩:=hJ;obtain⟨rfl,ai,f⟩:=hJ.h3 σ;obtain⟨rfl,ay,i⟩:=hJ.h5 σ;obtain⟨rfl,az,F⟩:=hJ.h6 σ;obtain⟨rfl,a0,aj⟩:=hJ.h7 σ;have af:=hJ.d35 σ σ;have au:=hJ.d67 σ σ;have a1:=hJ.b;clear hS q0 q1 q2 q3;have aa:g3≠c6:=fun e=>by subst e;unfold fU at f;rw[F]at f;injection f with f;injection f with _ f;cases f
   have ab:g5≠c6:=fun e=>by subst e;unfold fU at i;rw[F]at i;injection i with i;injection i with _ i;cases i
   have ac:g3≠c7:=fun e=>by subst e;unfold fU at f;rw[aj]at f;injection f with f;injection f with _ f;cases f
   have ad:g5≠c7:=fun e=>by subst e;unfold fU at i;rw[aj]at i;injection i with i;injection i with _ i;cases i
   have l6:=(Ad.1 F).1;have f6:=AM wx _ 0 _ _ F;have k6:=AF wx _ 0 _ _ _ F;obtain⟨wy,H⟩:∃y,y=wx.setCell ⟨c6,0,none⟩ (.slice (some ⟨g3,0,none⟩) G.ns.length G.ns.length):=⟨_,rfl⟩
   have ak:β w2 wy:=by rw[H];exact a1.setCell (p:=⟨c6,0,none⟩) az _
   have a2:fU wy g3 (List.replicate G.ns.length false):=by rw[H];exact fU.jv f aa _
   have a3:fU wy g5 T:=by rw[H];exact fU.jv i ab _
   have O:wy.heap[c7]?=some (.cells #[.slice none 0 0] 188 (0,0)):=by rw[H];exact(AQ wx ⟨c6,0,none⟩ _ c7 (by simp only;omega)).trans aj
   have a4:wy.heap[c6]?=some (.cells #[.slice (some ⟨g3,0,none⟩) G.ns.length G.ns.length] 188 (0,0)):=by rw[H];exact Ba wx c6 0 _ _ _ F
   clear f i F aj hJ a1;simp only[CalmN.fS,CalmN.fu,CalmN.fo,Aq,Ai,Am];refine Ap ?_;intro KK j;rw[Az ε];go_wp2_with fail
   rw[<-H];refine j _ _ ⟨⟨wy,ak⟩,rfl⟩ _ ι ⟨⟨wy,ak⟩,rfl⟩ ?_;clear j k6 f6 l6 H;have l7:=(Ad.1 O).1;have f7:=AM wy _ 0 _ _ O;have k7:=AF wy _ 0 _ _ _ O;obtain⟨wz,I⟩:∃y,y=wy.setCell ⟨c7,0,none⟩ (.slice (some ⟨g5,0,none⟩) G.ns.length G.ns.length):=⟨_,rfl⟩
   have E:β w2 wz:=by rw[I];exact ak.setCell (p:=⟨c7,0,none⟩) a0 _
   have U:fU wz g3 (List.replicate G.ns.length false):=by rw[I];exact fU.jv a2 ac _
   have a5:fU wz g5 T:=by rw[I];exact fU.jv a3 ad _
   have al:wz.heap[c6]?=some (.cells #[.slice (some ⟨g3,0,none⟩) G.ns.length G.ns.length] 188 (0,0)):=by rw[I];exact(AQ wy ⟨c7,0,none⟩ _ c6 (by simp only;omega)).trans a4
   have a6:wz.heap[c7]?=some (.cells #[.slice (some ⟨g5,0,none⟩) G.ns.length G.ns.length] 188 (0,0)):=by rw[I];exact Ba wy c7 0 _ _ _ O
   clear a2 a3 a4 O ak;refine Ap ?_;intro KK j;rw[Az ε];go_wp2_with fail
   rw[<-I];refine j _ _ ⟨⟨wz,E⟩,rfl⟩ _ ι ⟨⟨wz,E⟩,rfl⟩ ?_;clear j k7 f7 l7 I;refine Ap ?_;have r2:=(E.cell (p:=⟨w.heap.size,2,none⟩) C).trans (A.o.c 2 _ rfl);have r3:=(E.cell (p:=⟨w.heap.size,3,none⟩) C).trans (A.o.c 3 _ rfl);have bo:=D.o.s0;have ag:=D.o.s1;obtain⟨m,hm⟩:∃m:Nat,G.st=(m:Int):=⟨G.st.toNat,ω⟩
   have HM:=aA hm;rw[hm]at r3 ag;have k3:=U.cell m (by simp;omega);have f3:=U.frozen m;have l3:=U.lt;have k6:=AF wz _ 0 _ _ _ al;have l6:=(Ad.1 al).1;have ld:w.heap.size<wz.heap.size:=Aj C E.size;obtain⟨wv,J⟩:∃y,y=wz.setCell ⟨g3,m,none⟩ (.bool true):=⟨_,rfl⟩
   have am:β w2 wv:=by rw[J];exact E.setCell (p:=⟨g3,m,none⟩) ai _
   have a9:fU wv g3 ((List.replicate G.ns.length false).set m true):=by rw[J];exact U.ky m true
   have ba:fU wv g5 T:=by rw[J];exact fU.jv a5 (by simp only;omega) _
   have bb:wv.heap[c6]?=some (.cells #[.slice (some ⟨g3,0,none⟩) G.ns.length G.ns.length] 188 (0,0)):=by rw[J];exact(AQ wz ⟨g3,m,none⟩ _ c6 (by simp only;omega)).trans al
   have bc:wv.heap[c7]?=some (.cells #[.slice (some ⟨g5,0,none⟩) G.ns.length G.ns.length] 188 (0,0)):=by rw[J];exact(AQ wz ⟨g3,m,none⟩ _ c7 (by simp only;omega)).trans a6
   have HD:=aA (Ca aa (Ca ab (Ca ac (Ca ad (Ca af (Ca ai (Ca ay E)))))));clear U a5 al a6 hm aa ab ac ad af au az a0 ay E;go_upto_region 5 with fail
   rw[<-J];have u2:=(am.cell (p:=⟨w.heap.size,2,none⟩) C).trans (A.o.c 2 _ rfl);have u6:=aQ bb;have u7:=aQ bc;have M:β w wv:=ax.o.trans (am.mono (Cx C));have av:w.heap.size<=w2.heap.size:=Cx C;have bd:qL wv B AR G.rs:=bl.o.fp fun g o hg=>M.cell (p:=⟨g,o,none⟩) (Aj hg HB.o);have bf:G.st.toNat=m:=by rw[HM.o];simp
   have bg:B<=g3:=Ah (Ah HB.o av) ai;have aw:G.ns.length=T.length:=ar.o.symm
   have bh:=aA (Mj 200 c6 c7 (yE func200 κ κ) G.rs AR cR G.ns.length B g3 G.ns.length wv ((List.replicate G.ns.length false).set G.st.toNat true) (Gm.Rc G) (Gm.wh T)
    bd (Ah HB.o M.size) bg (by rw[bf];exact a9) σ (Gm.zI D.o) (by have:=aq.o;omega)
    (fun y s x A' c' ao hu hl hx hr=>by
     have e:=bm.o.r x hx;have q2:=xU ao u6 (fun e=>HD.o.1 e.symm);rw[<-hl]at q2;have q3:=xU ao u7 (fun e=>HD.o.2.2.1 e.symm);have q5:fU y g5 T:=ba.grown ao (fun e=>by injection e with e;exact HD.o.2.2.2.2.1 e.symm);rw[aw]at q3;exact Pa x s T A' (some ⟨g3,0,none⟩) (some ⟨g5,0,none⟩) c' s.length T.length B y.heap.size y.heap.size c6 c7 y q2 q3 hr (hu.p7 hu.lt) (q5.p7 q5.lt) (Ah HB.o (Ah M.size ao.size)) (Af _) e.2.2 (fun z hz h=>by rw[<-aw];exact D.o.sin x hx z hz h) (by rw[hl];exact D.o.iO x hx) (by have:=(Gm.fT (D.o.rr x hx)).1;omega))
    (fun s x hx hl hd m hm=>by rw[HT.o]at hm;exact Gm.y5 D.o hx hd hm)
    (fun s x hx=>Gm.wV T s x (Gm.fT (D.o.rr x hx)).1))
   have bi:=aA (fun(y:World) (h:wv.grownBy y (some g3))=>xU h u6 (fun e=>HD.o.1 e.symm));have ah:Hid (∀(y:World) (s:List Bool),qw wv y g3 G.ns.length (Gm.Rc G) ((List.replicate G.ns.length false).set G.st.toNat true) s->(∀x∈G.rs,∀m∈Gm.wh T s x,s.getD m.toNat false=true)->s=Gm.rc G/\β w y):=aA (fun y s hg hc=>⟨Gm.GA D.o hg.l hg.d hg.le (by rw[HT.o]at hc;exact hc),aM M hg.g (Ah av HD.o.2.2.2.2.2.1) M.size⟩);have lv:w.heap.size<wv.heap.size:=Aj C am.size;have l6v:c6<wv.heap.size:=Bl u6;have bp:=aA (Ah av HD.o.2.2.2.2.2.1);clear a9 ba bb bc J am u7 bd M bf bg aw r2 r3 k3 f3 l3 k6 l6 ld bo ag ai HD HT ar H3 H2;go_wp2_with fail
   refine bh.o.mono ?_;rintro _ w4 ⟨rfl,s,ap,bj⟩;obtain⟨e4,bk⟩:=ah.o w4 s ap bj;have ck4:=bi.o w4 ap.g;have bq:=aA ap.u;have br:=aA bk;have bz:c6<w4.heap.size:=Bl ck4;clear ap bj bk bh ah bi u6 u2;go_wp2;go_ret
   subst e4;exact⟨fun _=>⟨g3,by rw[Gm.mR];rfl,bp.o,bq.o,br.o⟩,fun h=>by simp at h⟩
theorem Gm.qX (h:k<rs.length) (s:List Bool):(rs.take (k+1)).foldl (Gm.iw tm) s=Gm.iw tm ((rs.take k).foldl (Gm.iw tm) s) rs[k]:=by
 rw[AP h,Ei];rfl
theorem Gm.sW (tm:Bool) (rs:List Gm.Rl) (s:List Bool):(rs.foldl (Gm.iw tm) s).length=s.length:=((Gm.ib _ (Gm.kW tm) rs s).len).symm
theorem O9 (tm:Bool) (v:Value) (G:Gm.Gr) (B:Nat) (w:World) (hg:aT w B v G) (hf:Gm.Fit G) (hB:B<=w.heap.size) :
  Calls prog 161 #[v,.bool tm] w (yT (Gm.right G) (Gm.gn tm G.rs G.ns.length) w):=by
 have H1:=aA (fun(x:World) (h:β w x)=>Ib v G B x (hg.below h hB) hf (Ah hB h.size));obtain⟨AT,cT,AN,cN,AR,cR,rfl,_,⟨a2,a3⟩,⟨a4,a5⟩,_,_,hR⟩:=hg;have k:=aA (One.start w #[.slice AT G.ts.length cT,.slice AN G.ns.length cN,.slice AR G.rs.length cR,.int .i64 G.st]);have aq:=aA hR;have HB:=aA hB;have ar:=aA hf;clear hf hR hB;cases q:Gm.right G
 ·rw[q]at H1;clear q
  go_enter func161,ntmps161
  go_wp2_with fail
  refine(H1.o _ k.o.below).mono ?_;rintro _ w2 ⟨rfl,hb⟩;have t:=aA (k.o.on hb);clear hb;go_wp2;go_ret
  exact⟨fun h=>by simp at h,fun _=>⟨rfl,t.o.below⟩⟩
 ·have j:=aA (Gm.fq.1 q);have HN:Hid (G.ns.length<=40):=aA (by have:=(Gm.fF G).1 j.o.n;omega);have au:Hid (G.rs.length<=40):=aA j.o.kL;rw[q]at H1;clear q;have a6:=HN.o;have av:(G.ns.length:Int)<=9223372036854775807:=ω
  have af:(G.rs.length:Int)<=9223372036854775807:=ω
  go_enter func161,ntmps161
  go_wp2_with fail
  refine(H1.o _ k.o.below).mono ?_;rintro _ w2 ⟨rfl,hb⟩;have t:=aA (k.o.on hb);have q1:=t.o.c 1 _ rfl;have ag:w.heap.size<w2.heap.size:=t.o.size;clear hb;go_upto_region 4 with(at_make;refine Ir rfl (.tmp 13) (.tmp 13) _ rfl underlying188 G.ns.length _ _ rfl rfl rfl rfl ω ?_;intro w3 ah ai ab)
  have aj:=aA (t.o.on ai);have ak:=aA ah;have al:Hid (w.heap.size<w2.heap.size):=aA ag;clear ah ai ab q1 ag k H1;go_wp2;go_loopw [6] (fun vn wr=>∃n:Nat,n<=G.ns.length/\vn=.int .i64 n/\Hid (fU wr w2.heap.size (Gm.times (Gm.jQ tm G.rs) n (List.replicate G.ns.length false)))/\Hid (One w #[.slice AT G.ts.length cT,.slice AN G.ns.length cN,.slice AR G.rs.length cR,.int .i64 G.st] wr)) (fun vn _=>G.ns.length-(intOf vn).toNat)
  case atStart=>exact⟨0,Bb _,rfl,ak,aj⟩
  case round =>
   obtain⟨n,hn,rfl,HU,HW⟩:=hrel;obtain⟨wo,aw⟩:∃wo:World,wo=wr:=⟨_,rfl⟩
   subst aw;have q1:=HW.o.c 1 _ rfl;have ld:w.heap.size<wo.heap.size:=HW.o.size;clear ak aj;by_cases ax:n<G.ns.length
   ·have ay:Hid ((Gm.times (Gm.jQ tm G.rs) n (List.replicate G.ns.length false)).length=G.ns.length):=aA (by have:=(Gm.iW (f:=Gm.jQ tm G.rs) (fun s=>Gm.ib _ (Gm.kW tm) G.rs s) n (List.replicate G.ns.length false)).len;rw[<-this];simp);have az:Hid (Gm.times (Gm.jQ tm G.rs) (n+1) (List.replicate G.ns.length false)=G.rs.foldl (Gm.iw tm) (Gm.times (Gm.jQ tm G.rs) n (List.replicate G.ns.length false))):=aA rfl;generalize Gm.times (Gm.jQ tm G.rs) n (List.replicate G.ns.length false)=s at *;go_wp2;go_loopw [7] (fun vi wr=>∃i:Nat,i<=G.rs.length/\vi=.int .i64 i/\Hid (fU wr w2.heap.size ((G.rs.take i).foldl (Gm.iw tm) s))/\Hid (One w #[.slice AT G.ts.length cT,.slice AN G.ns.length cN,.slice AR G.rs.length cR,.int .i64 G.st] wr)) (fun vi _=>G.rs.length-(intOf vi).toNat)
    case atStart=>exact⟨0,Bb _,rfl,HU,HW⟩
    case round =>
     clear HU HW q1 ld;obtain⟨i,hi,rfl,HU,HW⟩:=hrel;have q2:=HW.o.c 2 _ rfl;have ld:w.heap.size<wr.heap.size:=HW.o.size;by_cases b:i<G.rs.length
     ·obtain⟨g,o,rfl,am,hc⟩:=aq.o ω;obtain⟨k0,⟨A',c',k1,_,_,ao⟩,_⟩:=hc i b;have k0:=(HW.o.below.cell (p:=⟨g,o+i*3,none⟩) (Aj am HB.o)).trans k0;have k1:=(HW.o.below.cell (p:=⟨g,o+i*3+1,none⟩) (Aj am HB.o)).trans k1;have a9:g<wr.heap.size:=by have:=HB.o;omega
      have u:G.rs[i]∈G.rs:=AD b;have e:=ar.o.r _ u;have ac:=aA ((Gm.sW tm (G.rs.take i) s).trans ay.o);have aa:=aA (Gm.qX (tm:=tm) b s);have ad:=j.o.iO _ u;have d:=JA G.rs[i].r ((G.rs.take i).foldl (Gm.iw tm) s) tm A' (some ⟨w2.heap.size,0,none⟩) c' G.ns.length B wr.heap.size wr (ao.fp fun g o hg=>HW.o.below.cell (p:=⟨g,o,none⟩) (Aj hg HB.o)) e.2.2 (fun z hz h=>by rw[ac.o];exact j.o.sin _ u z hz h) (HU.o.p7 HU.o.lt) (by have:=(Gm.fT (j.o.rr _ u)).1;omega);rw[ac.o]at d;have d:=aA d;have lu:=HU.o.lt;generalize (G.rs.take i).foldl (Gm.iw tm) s=cur at *;generalize G.rs[i]=x at *;obtain⟨m,hm⟩:∃m:Nat,x.l=(m:Int):=⟨x.l.toNat,ω⟩
      have HM:Hid (x.l.toNat=m):=aA (by rw[hm];simp);have ap:m<cur.length:=by rw[ac.o];omega
      have km:=HU.o.cell m ap;have fm:=HU.o.frozen m;rw[hm]at k0 ad;have ba:=ad.2;clear hc ao e u hm ap ad;cases ha:Gm.iv tm cur x.r
      ·rw[ha]at d;have HX:=aA (aa.o.trans (show Gm.iw tm cur x=cur by unfold Gm.iw;rw[AJ (by rw[ha];decide)]));clear ha aa;go_wp2_with fail
       refine d.o.mono ?_;rintro _ w4 ⟨rfl,ae⟩;subst ae;go_wp2;go_roundw
       case rel=>exact⟨i+1,b,ν,by rw[HX.o];exact HU,HW⟩
       case measure=>simp[intOf];omega
      ·rw[ha]at d;have HX:=aA (aa.o.trans (show Gm.iw tm cur x=cur.set m true by unfold Gm.iw;rw[Az ha,HM.o]));have a0:=aA (HU.o.ky m true);have a1:Hid (One w #[.slice AT G.ts.length cT,.slice AN G.ns.length cN,.slice (some ⟨g,o,none⟩) G.rs.length cR,.int .i64 G.st] (wr.setCell ⟨w2.heap.size,m,none⟩ (.bool true))):=aA (Em (p:=⟨w2.heap.size,m,none⟩) HW.o (by have:=al.o;simp only;omega) _);clear ha aa;go_wp2_with fail
       refine d.o.mono ?_;rintro _ w4 ⟨rfl,ae⟩;subst ae;go_wp2;go_roundw
       case rel=>exact⟨i+1,b,ν,by rw[HX.o];exact a0,a1⟩
       case measure=>simp[intOf];omega
     ·obtain rfl:i=G.rs.length:=ω
      rw[Bp]at HU;go_wp2;go_roundw
      case rel=>exact⟨n+1,ax,ν,by rw[az.o];exact HU,HW⟩
      case measure=>simp[intOf];omega
   ·obtain rfl:n=G.ns.length:=ω
    have HE:=aA (Gm.kX (tm:=tm) j.o.iO);go_wp2;go_ret
    exact⟨fun _=>⟨w2.heap.size,by rw[Gm.iJ];rfl,Cx al.o,by rw[<-HE.o];exact HU.o,HW.o.below⟩,fun h=>by simp at h⟩
theorem Kw (v:Value) (G:Gm.Gr) (B:Nat) (w:World) (hg:aT w B v G) (hf:Gm.Fit G) (hB:B<=w.heap.size) :
  Calls prog 113 #[v] w (yT (Gm.right G) (Gm.gn true G.rs G.ns.length) w):=by
 have H1:=aA (fun(x:World) (h:β w x)=>O9 true v G B x (hg.below h hB) hf (Ah hB h.size));obtain⟨AT,cT,AN,cN,AR,cR,rfl,_⟩:=hg;have aa:=aA (One.start w #[.slice AT G.ts.length cT,.slice AN G.ns.length cN,.slice AR G.rs.length cR,.int .i64 G.st]);clear hf;generalize Gm.gn true G.rs G.ns.length=T at *;generalize Gm.right G=q at *;cases q
 ·go_enter func113,ntmps113
  go_wp2_with fail
  refine(H1.o _ aa.o.below).mono ?_;intro e w2 h;obtain⟨rfl,hb⟩:=h.2 rfl;have ab:=aA (aa.o.on hb);clear hb h;go_wp2;go_ret
  exact⟨fun h=>by simp at h,fun _=>⟨rfl,ab.o.below⟩⟩
 ·go_enter func113,ntmps113
  go_wp2_with fail
  refine(H1.o _ aa.o.below).mono ?_;intro e w2 h;obtain⟨g,rfl,hg,hu,hb⟩:=h.1 rfl;have ab:=aA (aa.o.on hb);have HU:=aA hu;have HG:=aA hg;clear hb h hu hg;go_wp2;go_ret
  exact⟨fun _=>⟨g,rfl,by have:=HG.o;simp at this;omega,HU.o,ab.o.below⟩,fun h=>by simp at h⟩
theorem Gm.p8 {p:List Bool} (h:k<rs.length) (s:List Bool):(rs.take (k+1)).foldl (Gm.gE p) s=Gm.gE p ((rs.take k).foldl (Gm.gE p) s) rs[k]:=by
 rw[AP h,Ei];rfl
theorem Gm.rA (p:List Bool) (rs:List Gm.Rl) (s:List Bool):(rs.foldl (Gm.gE p) s).length=s.length:=((Gm.ib _ (Gm.kg p) rs s).len).symm
theorem Gm.qZ (h:k<r.length) (s:List Bool):Gm.marks s (r.take (k+1))=Gm.jR (Gm.marks s (r.take k)) r[k]:=by
 unfold Gm.marks;rw[AP h,Ei];rfl
def Gm.oJ (p s:List Bool) (x:Gm.Rl):Bool:=s.getD x.l.toNat false&&Gm.iv true p x.r
theorem Gm.ry {p s:List Bool} {x:Gm.Rl} (h:Gm.oJ p s x=true):Gm.gE p s x=Gm.marks s x.r:=by
 unfold Gm.oJ at h;rw[Bd]at h;unfold Gm.gE;rw[Az h]
theorem Gm.nM {p s:List Bool} {x:Gm.Rl} (h:Gm.oJ p s x=false):Gm.gE p s x=s:=by
 unfold Gm.oJ at h;unfold Gm.gE;rw[AJ (by rw[<-Bd,h];decide)]
theorem Oh (v:Value) (G:Gm.Gr) (B:Nat) (w:World) (hg:aT w B v G) (hf:Gm.Fit G) (hB:B<=w.heap.size) :
  Calls prog 114 #[v] w (yT (Gm.right G) (Gm.rc G) w):=by
 have H1:=aA (fun(x:World) (h:β w x)=>Ib v G B x (hg.below h hB) hf (Ah hB h.size));have H2:=aA (fun(x:World) (h:β w x)=>Kw v G B x (hg.below h hB) hf (Ah hB h.size));obtain⟨AT,cT,AN,cN,AR,cR,rfl,_,⟨b5,b6⟩,⟨b7,b8⟩,_,_,hR⟩:=hg;have A:=aA (One.start w #[.slice AT G.ts.length cT,.slice AN G.ns.length cN,.slice AR G.rs.length cR,.int .i64 G.st]);have bn:=aA hR;have HB:=aA hB;have bo:=aA hf;clear hf hR hB;cases q:Gm.right G
 ·rw[q]at H1;clear q H2
  go_enter func114,ntmps114
  go_wp2_with fail
  refine(H1.o _ A.o.below).mono ?_;rintro _ w2 ⟨rfl,hb⟩;have u:=aA (A.o.on hb);clear hb;go_wp2;go_ret
  exact⟨fun h=>by simp at h,fun _=>⟨rfl,u.o.below⟩⟩
 ·have d:=aA (Gm.fq.1 q);have HN:Hid (G.ns.length<=40):=aA (by have:=(Gm.fF G).1 d.o.n;omega);have bp:Hid (G.rs.length<=40):=aA d.o.kL;have H2:=aA (fun x h=>(show Calls _ _ _ _ (wI _ _) from(H2.o x h).mono fun e w' k=>k.1 q));rw[q]at H1;clear q;have b9:=HN.o;have bq:(G.ns.length:Int)<=9223372036854775807:=ω
  have az:(G.rs.length:Int)<=9223372036854775807:=ω
  obtain⟨T,hT⟩:∃x,x=Gm.gn true G.rs G.ns.length:=⟨_,rfl⟩
  have al:Hid (T.length=G.ns.length):=aA (by rw[hT,Gm.iJ]);rw[<-hT]at H2;have HT:=aA hT;clear hT
  go_enter func114,ntmps114
  go_wp2_with fail
  refine(H1.o _ A.o.below).mono ?_;rintro _ w2 ⟨rfl,hb⟩;have u:=aA (A.o.on hb);have q0:=u.o.c 0 _ rfl;have q1:=u.o.c 1 _ rfl;have q2:=u.o.c 2 _ rfl;have q3:=u.o.c 3 _ rfl;have af:w.heap.size<w2.heap.size:=u.o.size;clear hb;go_wp2_with fail
  refine(H2.o _ u.o.below).mono ?_;rintro _ w3 ⟨gp,rfl,br,a0,a1⟩;rw[al.o];have ag:=aA (u.o.on a1);have aa:=aA a0;clear q0 q1 q2 q3 af;have q1:=ag.o.c 1 _ rfl;have af:w.heap.size<w3.heap.size:=ag.o.size;clear a0 a1 br;go_upto_region 5 with(at_make;refine Ir rfl (.tmp 16) (.tmp 16) _ rfl underlying188 G.ns.length _ _ rfl rfl rfl rfl ω ?_;intro w4 a2 am ao)
  have ah:=aA (ag.o.on am);have ad:=aA (aa.o.below am aa.o.lt);have ap:Hid (gp<w3.heap.size):=aA aa.o.lt;have ai:=aA a2;clear a2 am q1 A H1 H2 u;have bs:=d.o.s0;have ae:=d.o.s1;obtain⟨m,hm⟩:∃m:Nat,G.st=(m:Int):=⟨G.st.toNat,ω⟩
  have HM:Hid (G.st.toNat=m):=aA (by rw[hm];simp);have q3:=ah.o.c 3 _ rfl;have ld:w.heap.size<w4.heap.size:=ah.o.size;rw[hm]at q3 ae;have k3:=ai.o.cell m (by simp;omega);have f3:=ai.o.frozen m;clear hm bs;obtain⟨wv,H⟩:∃y,y=w4.setCell ⟨w3.heap.size,m,none⟩ (.bool true):=⟨_,rfl⟩
  have C:Hid (One w #[.slice AT G.ts.length cT,.slice AN G.ns.length cN,.slice AR G.rs.length cR,.int .i64 G.st] wv):=aA (by rw[H];exact Em (p:=⟨w3.heap.size,m,none⟩) ah.o (by simp only;omega) _);have a3:Hid (fU wv w3.heap.size ((List.replicate G.ns.length false).set m true)):=aA (by rw[H];exact ai.o.ky m true);have a4:Hid (fU wv gp T):=aA (by rw[H];exact fU.jv ad.o (by have:=ap.o;simp only;omega) _);have E:Hid (w.heap.size<w3.heap.size):=aA af;clear ag ah ai aa ad;go_upto_region 6 with fail
  rw[<-H];obtain⟨gk,a5⟩:∃gk,gk=w3.heap.size:=⟨_,rfl⟩
  rw[<-a5]at a3 E ap ⊢;have A:=aA (Gm.mS d.o.iO d.o.sin d.o.s0 d.o.s1);rw[HM.o,<-HT.o]at A;have bu:Hid (((List.replicate G.ns.length false).set m true).length=G.ns.length):=aA σ;generalize (List.replicate G.ns.length false).set m true=s0 at *;clear k3 f3 q3 ld ao af H a5 ae;go_wp2;go_loopw [5] (fun vn wr=>∃n:Nat,n<=G.ns.length/\vn=.int .i64 n/\Hid (fU wr gk (Gm.times (Gm.jj T G.rs) n s0))/\Hid (wv.grownBy wr (some gk))) (fun vn _=>G.ns.length-(intOf vn).toNat)
  case atStart=>exact⟨0,Bb _,rfl,a3,aA (AO _ _)⟩
  case round =>
   obtain⟨n,hn,rfl,HU,HW⟩:=hrel;obtain⟨wo,bv⟩:∃wo:World,wo=wr:=⟨_,rfl⟩
   subst bv;have q1:=xU HW.o (C.o.c 1 _ rfl) (by have:=E.o;omega);have ld:=Bl q1;by_cases bw:n<G.ns.length
   ·have bx:Hid ((Gm.times (Gm.jj T G.rs) n s0).length=G.ns.length):=aA (by have:=(Gm.iW (f:=Gm.jj T G.rs) (fun s=>Gm.ib _ (Gm.kg T) G.rs s) n s0).len;rw[<-this];exact bu.o);have bz:Hid (Gm.times (Gm.jj T G.rs) (n+1) s0=G.rs.foldl (Gm.gE T) (Gm.times (Gm.jj T G.rs) n s0)):=aA rfl;generalize Gm.times (Gm.jj T G.rs) n s0=s at *;go_wp2;go_loopw [6] (fun vi wr=>∃i:Nat,i<=G.rs.length/\vi=.int .i64 i/\Hid (fU wr gk ((G.rs.take i).foldl (Gm.gE T) s))/\Hid (wv.grownBy wr (some gk))) (fun vi _=>G.rs.length-(intOf vi).toNat)
    case atStart=>exact⟨0,Bb _,rfl,HU,HW⟩
    case round =>
     clear HU HW q1 ld;obtain⟨i,hi,rfl,HU,HW⟩:=hrel;obtain⟨wi,bD⟩:∃wi:World,wi=wr:=⟨_,rfl⟩
     subst bD;have q2:=xU HW.o (C.o.c 2 _ rfl) (by have:=E.o;omega);have ld:=Bl q2;by_cases t:i<G.rs.length
     ·obtain⟨g,o,rfl,a6,hc⟩:=bn.o ω;obtain⟨k0,⟨A',c',k1,_,_,a9⟩,k2⟩:=hc i t;have aq:B<=wv.heap.size:=Ah HB.o C.o.below.size;have ar:B<=gk:=Ah HB.o (Cx E.o);have aj:=aA (fun(y:World) (h:wv.grownBy y (some gk)) (o':Nat)=>(wD (o:=o') h aq ar a6).trans (C.o.below.cell (p:=⟨g,o',none⟩) (Aj a6 HB.o)));have k0:=(aj.o _ HW.o _).trans k0;have k1:=(aj.o _ HW.o _).trans k1;have k2:=(aj.o _ HW.o _).trans k2;have ca:g<wi.heap.size:=Bl k0;have D:G.rs[i]∈G.rs:=AD t;have e:=bo.o.r _ D;have ba:=aA ((Gm.rA T (G.rs.take i) s).trans bx.o);have bb:=aA (Gm.p8 (p:=T) t s);have au:=d.o.iO _ D;have av:∀y:World,wv.grownBy y (some gk)->gg y B A' G.rs[i].r:=fun y h=>a9.fp fun g o hg=>(wD h aq ar hg).trans (C.o.below.cell (p:=⟨g,o,none⟩) (Aj hg HB.o));have aw:=aA (fun(y:World) (h:wv.grownBy y (some gk))=>JA G.rs[i].r T true A' (some ⟨gp,0,none⟩) c' G.ns.length B y.heap.size y (av y h) e.2.2 (fun z hz h=>by rw[al.o];exact d.o.sin _ D z hz h) ((a4.o.grown h (fun e=>by injection e with e;have:=ap.o;omega)).p7 (Aj a4.o.lt h.size)) (by have:=(Gm.fT (d.o.rr _ D)).1;omega));rw[al.o]at aw;have bc:=aA av;have bd:=aA (d.o.sin _ D);have bM:=(Gm.fT (d.o.rr _ D)).1;have bf:=aA e.2.2;generalize (G.rs.take i).foldl (Gm.gE T) s=cur at *;generalize G.rs[i]=x at *;obtain⟨l,r,pz⟩:=x;simp only at k0 k1 k2 aw bc bd bM au bf;obtain⟨m,rfl⟩:∃m:Nat,l=(m:Int):=⟨l.toNat,ω⟩
      have cb:m<cur.length:=by rw[ba.o];omega
      have cc:=au.2;have lu:=HU.o.lt;have cd:(r.length:Int)<=9223372036854775807:=ω
      have bg:Hid (Gm.oJ T cur ⟨m,r,pz⟩=(cur.getD m false&&Gm.iv true T r)):=aA (by simp[Gm.oJ]);have bh:=aA (AI wi (.cells #[.int .i64 m,.slice A' r.length c',.int .i64 pz] 74));have bi:=aA (HU.o.alloc (.cells #[.int .i64 m,.slice A' r.length c',.int .i64 pz] 74));have bj:=aA (aI HW.o (.cells #[.int .i64 m,.slice A' r.length c',.int .i64 pz] 74));clear hc a9 e D au av aq ar aj;go_wp2;go_loopw [8] (fun vk wr=>∃k:Nat,k<=r.length/\vk=.int .i64 k/\Hid (Gm.oJ T cur ⟨m,r,pz⟩=false->k=0)/\Hid (fU wr gk (Gm.marks cur (r.take k)))/\Hid (wv.grownBy wr (some gk))/\Hid (wr.heap[wi.heap.size]?=some (.cells #[.int .i64 m,.slice A' r.length c',.int .i64 pz] 74 (0,0)))) (fun vk _=>r.length-(intOf vk).toNat)
      case atStart=>exact⟨0,Bb _,rfl,aA (fun _=>rfl),by simpa[Gm.marks] using bi,bj,bh⟩
      case round =>
       clear HU HW bi bj bh k0 k1 k2;obtain⟨k,hk,rfl,HK,HU,HW,HX⟩:=hrel;have d0:=AF wr _ 0 _ _ _ HX.o;have d1:=AF wr _ 1 _ _ _ HX.o;have hd:=(Ad.1 HX.o).1;have lk:=HU.o.lt;have bk:Hid ((Gm.marks cur (r.take k)).length=G.ns.length):=aA ((Gm.kZ cur _).len.symm.trans ba.o);have km:=HU.o.cell m (by rw[bk.o];omega);by_cases b:k<r.length
       ·have F:=aA (aw.o wr HW.o);cases hc:Gm.oJ T cur ⟨m,r,pz⟩
        ·obtain rfl:=HK.o hc;have ab:=aA (bb.o.trans (Gm.nM hc));rw[D5,show Gm.marks cur []=cur from rfl]at HU km;have ax:=aA (bg.o.symm.trans hc);cases hv:cur.getD m false
         ·rw[hv]at km;clear hc hv ax F;go_wp2;go_roundw
          case rel=>exact⟨i+1,t,ν,by rw[ab.o];exact HU,HW⟩
          case measure=>simp[intOf];omega
         ·rw[hv]at km;have ha:Gm.iv true T r=false:=by have:=ax.o;rw[hv]at this;simpa using this
          rw[ha]at F;clear hc hv ax ha;go_wp2_with fail
          refine F.o.mono ?_;rintro _ w5 ⟨rfl,I⟩;subst I;go_wp2;go_roundw
          case rel=>exact⟨i+1,t,ν,by rw[ab.o];exact HU,HW⟩
          case measure=>simp[intOf];omega
        ·have h2:=bg.o.symm.trans hc;rw[Bd]at h2;rw[(Gm.kZ cur (r.take k)).get m h2.1]at km;rw[h2.2]at F;obtain⟨g5,o5,rfl,ce,bl⟩:=bc.o wr HW.o ω;have k5:=bl k b;rw[L.fy b]at k5;have bT:=aA (bd.o _ (AD b));have ay:=bf.o _ (AD b);have ak:=aA (Gm.qZ b cur);have cf:=HK;have l5:=Bl k5;unfold Gm.In at ay;generalize r[k]=z at *;clear bl h2;by_cases hz:z<0
         ·have bX:=bT.o hz;obtain⟨j,hj⟩:∃j:Nat,-1-z=(j:Int):=⟨(-1-z).toNat,ω⟩
          have cg:IntKind.i64.wrap (-1-z)=(j:Int):=by rw[BV _ ω];exact hj
          have ac:Hid (Gm.marks cur (r.take (k+1))=(Gm.marks cur (r.take k)).set j true):=aA (ak.o.trans (by unfold Gm.jR;rw[Az hz,hj];simp));have bm:j<(Gm.marks cur (r.take k)).length:=by rw[bk.o];omega
          have b0:=aA (HU.o.ky j true);have b1:=aA (aF HW.o j (.bool true));have b3:=aA ((AQ wr ⟨gk,j,none⟩ (.bool true) wi.heap.size (by simp only;omega)).trans HX.o);have kj:=HU.o.cell j bm;have fj:=HU.o.frozen j;have ch:(j:Int)<(G.ns.length:Int):=ω
          have b4:decide (z<0)=true:=AV hz;clear hz bX hj ak hc ay bm;go_wp2_with fail
          refine F.o.mono ?_;rintro _ w5 ⟨rfl,I⟩;subst I;go_wp2;go_roundw
          case rel=>exact⟨k+1,b,ν,aA (fun h=>by cases h),by rw[ac.o];exact b0,b1,b3⟩
          case measure=>simp[intOf];omega
         ·have ac:Hid (Gm.marks cur (r.take (k+1))=Gm.marks cur (r.take k)):=aA (ak.o.trans (by unfold Gm.jR;rw[AJ hz]));have b4:decide (z<0)=false:=AU hz;clear hz ak hc ay;go_wp2_with fail
          refine F.o.mono ?_;rintro _ w5 ⟨rfl,I⟩;subst I;go_wp2;go_roundw
          case rel=>exact⟨k+1,b,ν,aA (fun h=>by cases h),by rw[ac.o];exact HU,HW,HX⟩
          case measure=>simp[intOf];omega
       ·obtain rfl:k=r.length:=ω
        have ab:Hid ((G.rs.take (i+1)).foldl (Gm.gE T) s=Gm.marks cur (r.take r.length)):=aA (bb.o.trans (by
         cases hc:Gm.oJ T cur ⟨m,r,pz⟩
         ·rw[Gm.nM hc]
          have:=HK.o hc
          rw[BI this];rfl
         ·rw[Gm.ry hc,Bp]))
        go_wp2;go_roundw
        case rel=>exact⟨i+1,t,ν,by rw[ab.o];exact HU,HW⟩
        case measure=>simp[intOf];omega
     ·obtain rfl:i=G.rs.length:=ω
      rw[Bp]at HU;go_wp2;go_roundw
      case rel=>exact⟨n+1,bw,ν,by rw[bz.o];exact HU,HW⟩
      case measure=>simp[intOf];omega
   ·obtain rfl:n=G.ns.length:=ω
    go_wp2;go_ret
    exact⟨fun _=>⟨gk,by rw[Gm.mR];rfl,Cx E.o,by rw[<-A.o];exact HU.o,aM C.o.below HW.o (Cx E.o) C.o.below.size⟩,fun h=>by simp at h⟩
theorem qq (g o j:Nat):((⟨g,o,none⟩:Addr).add j)=⟨g,o+j,none⟩:=by unfold Addr.add;by_cases h0:j=0 <;> simp[h0]
def mr (L:List Int) (w:World) (B:Nat) (A:Option Addr) (ts:List fv):Prop :=
 ts.length≠0->∃g o,A=some ⟨g,o,none⟩/\g<B/\∀i j u,(hi:i<ts.length)->(tx L ts[i])[j]?=some u->w.cell? ⟨g,o+(i*3+j),none⟩=some u
theorem mr.nil (L:List Int) (w:World) (B:Nat) (A:Option Addr):mr L w B A []:=fun h=>absurd rfl h
theorem mr.fp {L:List Int} {ts:List fv} (h:mr L w B A ts) (hk:∀g o,g<B->w'.cell? ⟨g,o,none⟩=w.cell? ⟨g,o,none⟩):mr L w' B A ts:=fun hn=>by
 obtain⟨g,o,e,hg,hc⟩:=h hn;exact⟨g,o,e,hg,fun i j u hi hu=>(hk _ _ hg).trans (hc i j u hi hu)⟩
theorem mr.more {L:List Int} {ts:List fv} (h:mr L w B A ts) (hB:B<=B'):mr L w B' A ts:=fun hn=>by
 obtain⟨g,o,e,hg,hc⟩:=h hn;exact⟨g,o,e,ω,hc⟩
theorem mr.grown {L:List Int} {ts:List fv} {row:Option Nat} (h:mr L w B A ts) (hg:w.grownBy w' row) (hr:∀k,row=some k->B<=k) (hs:B<=w.heap.size):mr L w' B A ts :=
 h.fp fun p o hp=>Ck (hg.block p ω (fun e=>by have:=hr p e.symm;omega))
theorem mr.below {L:List Int} {ts:List fv} (h:mr L w B A ts) (hb:Below B' w w') (hB:B<=B'):mr L w' B A ts :=
 h.fp fun g o hg=>hb.cell (p:=⟨g,o,none⟩) (Aj hg hB)
theorem bZ.rd {L:List Int} {xs:List fv} (h:bZ L w base v xs):∃A c,v=.slice A xs.length c/\xs.length<=c/\c<=maxLen/\mr L w w.heap.size A xs:=by
 obtain⟨A,c,rfl,h1,h2⟩:=h.form;refine⟨A,c,rfl,h1,h2,fun h0=>?_⟩;obtain⟨g,c',e,_,_,_,hg,aa⟩:=h.addr h0;injection e with e1 e2 e3;refine⟨g,0,e1,hg,fun i j u hi hu=>?_⟩
 have hj:j<3:=by
  have:=(Bk.1 hu).1
  simpa[tx] using this
 rw[BF];exact aa i j u hi hj (by rw[AH hi];exact hu)
def G6 (A:Option Addr) (c:Nat):Option Addr:=if c=1 then A else A.map fun x=>x.add 3
theorem mr.tail {L:List Int} {c:Nat} {t:fv} {ts:List fv} (h:mr L w B A (t::ts)) (hc:(t::ts).length<=c):mr L w B (G6 A c) ts:=by
 intro hn;obtain⟨g,o,rfl,hg,aa⟩:=h σ;refine⟨g,o+3,?_,hg,fun i j u hi hu=>?_⟩
 ·unfold G6;rw[AJ (by simp at hc;omega),DH,qq]
 ·have:=aa (i+1) j u (by simp;omega) (by simpa using hu)
  rwa [show o+3+(i*3+j)=o+((i+1)*3+j) by omega]
def aY (L:List Int) (x:fv):List Value:=[.string (K.str x.t),.complex .f64 (Fl.fl (Pl.pos (L.take x.o)).1) (Fl.fl (Pl.pos (L.take x.o)).2)]
theorem KV (L:List Int) (xs:List fv):(xs.flatMap (aY L)).length=xs.length*2:=by
 induction xs with
 | nil=>rfl
 | cons x r ih=>simp[B7,ih,aY];omega
theorem QR (L:List Int) (xs:List fv) (i j:Nat) (hi:i<xs.length) (hj:j<2):(xs.flatMap (aY L))[i*2+j]?=(aY L xs[i])[j]?:=by
 induction xs generalizing i with
 | nil=>simp at hi
 | cons x r ih =>
  rw[B7];have hl:(aY L x).length=2:=rfl;cases i with
  | zero=>rw[BQ ω];simp
  | succ i =>
   rw[Cp ω,hl,show(i+1)*2+j-2=i*2+j by omega]
   simpa using ih i (by simpa using hi)
def kQ (L:List Int) (w:World) (B:Nat) (A:Option Addr) (xs:List fv):Prop :=
 xs.length≠0->∃(g:Nat) (cur:Array Value),A=some ⟨g,0,none⟩/\B<=g/\w.heap[g]?=some (.cells cur 153 (0,0))/\∀(j:Nat) (u:Value),(xs.flatMap (aY L))[j]?=some u->cur[j]?=some u
theorem kQ.nil (L:List Int) (w:World) (B:Nat) (A:Option Addr):kQ L w B A []:=fun h=>absurd rfl h
def bJ (w:World) (row:Option Nat):Prop:=∀k,row=some k->∀cur,w.heap[k]? ≠ some (.cells cur 153 (0,0))
theorem bJ.none (w:World):bJ w .none:=fun _ h=>by cases h
theorem kQ.grown {L:List Int} {xs:List fv} {row:Option Nat} (h:kQ L w B A xs) (hg:w.grownBy w' row) (hr:bJ w row):kQ L w' B A xs:=fun hn=>by
 obtain⟨g,cur,e,hB,hh,hc⟩:=h hn;exact⟨g,cur,e,hB,(hg.block g (Ad.1 hh).1 (fun e=>hr g e.symm cur hh)).trans hh,hc⟩
theorem kQ.less {L:List Int} {xs:List fv} (h:kQ L w B A xs) (hB:B'<=B):kQ L w B' A xs:=fun hn=>by
 obtain⟨g,cur,e,hb,hh⟩:=h hn;exact⟨g,cur,e,ω,hh⟩
theorem kQ.below {L:List Int} {xs:List fv} (h:kQ L w B A xs) (hb:β w w'):kQ L w' B A xs:=h.grown (aL hb .none) (bJ.none w)
theorem kQ.cell {L:List Int} {xs:List fv} (h:kQ L w B A xs) (h0:xs.length≠0):∃g,A=some ⟨g,0,none⟩/\B<=g/\∀i j u,(hi:i<xs.length)->j<2->(aY L xs[i])[j]?=some u->w.cell? ⟨g,i*2+j,none⟩=some u:=by
 obtain⟨g,cur,e,hB,hh,hc⟩:=h h0;refine⟨g,e,hB,fun i j u hi hj hu=>?_⟩;rw[AF w g _ _ _ _ hh];exact hc _ _ (by rw[QR L xs i j hi hj];exact hu)
def bV (L:List Int) (w:World) (base:Nat) (v:Value) (xs:List fv):Prop:=w.ownsRow base 153 2 v xs.length (xs.flatMap (aY L))
theorem bV.nil (L:List Int) (w:World) (base:Nat):bV L w base (.slice none 0 0) []:=Dg w base _ _
theorem bV.alloc {L:List Int} {xs:List fv} (h:bV L w base v xs) (o:Obj):bV L (w.alloc o) base v xs:=Dm h o
theorem bV.grown {L:List Int} {xs:List fv} {row:Option Nat} (h:bV L w base v xs) (hg:w.grownBy w' row) (hr:bJ w row):bV L w' base v xs:=by
 refine⟨h.1,?_⟩;rcases h.2 with h0|⟨g,cap,cur,e,aa,hh,ab⟩
 ·exact .inl h0
 ·exact .inr ⟨g,cap,cur,e,aa,(hg.block g (Ad.1 hh).1 (fun e=>hr g e.symm cur hh)).trans hh,ab⟩
theorem bV.below {L:List Int} {xs:List fv} (h:bV L w base v xs) (hb:β w w'):bV L w' base v xs:=h.grown (aL hb .none) (bJ.none w)
theorem bV.rd {L:List Int} {xs:List fv} (h:bV L w base v xs):∃A c,v=.slice A xs.length c/\xs.length<=c/\c<=maxLen/\kQ L w base A xs:=by
 rcases h.2 with⟨rfl,h0⟩|⟨g,cap,cur,rfl,hb,hg,hn,hm,hs,ht⟩
 ·exact⟨none,0,by rw[h0],ω,by unfold maxLen;omega,fun hc=>absurd h0 hc⟩
 ·refine⟨some ⟨g,0,none⟩,cap,rfl,hn,hm,fun _=>⟨g,cur,rfl,hb,hg,fun j u hu=>?_⟩⟩;rw[<-ht]at hu;have hj:=(Bk.1 hu).1;rw[Bm]at hj;rw[Dd ω]at hu
  simpa using hu
theorem NU:(prog.info? 153).map (fun i=>(i.zero,i.size,i.bytes))=some (some (.agg #[.string ⟨#[]⟩,.complex .f64 0 0]),2,32):=κ
theorem Tr {rest:List Oper} {o:Oper} {a:Act} {Q:Exit->Act->World->Prop} (ac:o.guard=none) (s x:Operand) (t:TypeId) (ho:o.op=.call {callee:=.builtin .append,args:=#[s,x],argTypes:=#[t,t]}) (ht:prog.underlying t=some (.slice 153)) (L:List Int) (base:Nat) (v:Value) (xs:List fv) (hs:a.eval s=v) (ab:bV L w base v xs) (g c:Nat) (y:fv) (hx:a.eval x=.slice (some ⟨g,0,none⟩) 1 c) (hz:∀j u,(aY L y)[j]?=some u->w.cell? ⟨g,j,none⟩=some u) (ad:xs.length<=1000000) (aa:base<=w.heap.size) (hK:∀v' w',bV L w' base v' (xs++[y])->w.grownBy w' v.ownBlock->wpList prog ops Q rest (a.put o.dst v') w') :
  wpList prog ops Q (o::rest) a w:=by
 obtain⟨i,hi,ae,af,ag⟩:=CF NU;refine Dp w ac s x t ho base 153 i _ 2 32 ht hi ae af ag rfl δ v xs.length (xs.flatMap (aY L)) hs ab ⟨g,0,none⟩ 1 c (aY L y) hx rfl ?_ ?_ (by unfold maxLen;omega) ω aa fun v' w' h1 h2 _=>hK v' w' ?_ h2
 ·intro j u hj;rw[qq,BF];exact hz j u hj
 ·intro u hu;simp[aY]at hu;rcases hu with rfl|rfl <;> rfl
 ·unfold bV;rw[AZ,BW,Ci];exact h1
theorem _root_.Go.World.grownBy.row (h:w.grownBy w' .none) (row:Option Nat):w.grownBy w' row:=⟨h.os,h.tape,h.output,h.size,fun k hk _=>h.block k hk σ⟩
theorem zM {a:World} {row:Option Nat} {e:TypeId} {size:Nat} (h:a.grownBy w row) (ho:w.ownsRow a.heap.size e size v n xs) (hg:w.grownBy w' v.ownBlock):a.grownBy w' row :=
 ⟨hg.os.trans h.os,hg.tape.trans h.tape,hg.output.trans h.output,Ah h.size hg.size,fun k hk aa=>(hg.block k (Aj hk h.size) (fun e=>by have:=(Br ho k e.symm).1;omega)).trans (h.block k hk aa)⟩
theorem QO (L:List Int) (w:World) (t:fv):∀j u,(aY L t)[j]?=some u->(w.alloc (.cells #[.string (K.str t.t),.complex .f64 (Fl.fl (Pl.pos (L.take t.o)).1) (Fl.fl (Pl.pos (L.take t.o)).2)] 153)).cell? ⟨w.heap.size,j,none⟩=some u:=by
 intro j u hu;rw[Df]
 simpa[aY] using hu
theorem KI {w2:World} {o:Obj} {R:Nat} (h:(w.alloc o).grownBy w2 (some R)) (hR:R<w.heap.size):w2.heap[w.heap.size]?=some o:=by
 rw[h.block w.heap.size σ (fun e=>by injection e with e;omega)];exact AI w o
theorem zR {a:World} {row:Option Nat} (h:a.grownBy w row) (g i:Nat) (u:Value) (hg:a.heap.size<=g):a.grownBy (w.setCell ⟨g,i,none⟩ u) row :=
 ⟨h.os,h.tape,h.output,by simpa[World.setCell] using h.size,fun k hk aa=>(AQ w ⟨g,i,none⟩ u k (by simp only;omega)).trans (h.block k hk aa)⟩
def yL (v:Value):Nat:=match v with | .slice _ n _=>n|_=>0
def Tu (L:List Int) (r:Out) (w:World) (e:Ending) (w':World):Prop :=
 match r with
 | .ok xs=>∃v,e=.returned (.tuple #[v,.complex .f64 (Fl.fl (Pl.pos L).1) (Fl.fl (Pl.pos L).2),.int .i64 0])/\bZ L w' w.heap.size v xs/\β w w'
 | .bad o d=>e=.returned (.tuple #[.slice none 0 0,.complex .f64 (Fl.fl (Pl.pos (L.take o)).1) (Fl.fl (Pl.pos (L.take o)).2),.int .i64 d])/\β w w'
def At (L:List Int) (R:Out) (w:World) (k d f m:Nat) (acc:List fv) (l:List Int) (p:Int×Int) (A':Option Addr) (c':Nat) (v:Value) (w':World):Prop :=
 L.length=k+d/\l=L.drop k/\p=Pl.pos (L.take k)/\β w w'/\ij w' w.heap.size A' l/\bZ L w' w.heap.size v acc/\d<=c'/\d<f/\acc.length<=k/\m<=k/\tG f l k m acc=R
def cH (L:List Int) (t:fv):Value:=.agg #[.string (K.str t.t),.complex .f64 (Fl.fl (Pl.pos (L.take t.o)).1) (Fl.fl (Pl.pos (L.take t.o)).2)]
theorem Pt (w:World) (A:Option Addr) (c n:Nat) (hk:1<=n):(Instr.sliceAt 147 (.slice A n c) (some (.int .i64 1)) none none).run prog w=.ok (.slice (G6 A c) (n-1) (c-1)) w:=by
 rw[DU _ _ _ _ _ _ κ,run_slice_l _ _ _ _ _ κ .i64 (1:Int) ω ω];have hs:(sizeOf (prog.elem 147)).run prog w=.ok 3 w:=κ
 rw[hs];simp[Result.andThen,sliced,G6]
def FC (L:List Int):Option fv->List Value
 | none=>[.string ⟨#[]⟩,.complex .f64 0 0]
 | some t=>aY L t
def a7 (L:List Int) (p:Y.iu) (A:Option Addr) (c:Nat):List Value:=aY L p.l++[.slice A p.r.length c]++FC L p.p
def wE (d:Y.jL) (A:Option Addr) (c:Nat):List Value:=[.int .i64 d.k,.slice A d.ns.length c]
abbrev PA:=Y.iu×Option Addr×Nat
abbrev DA:=Y.jL×Option Addr×Nat
def yc (L:List Int) (qs:List PA):List Value:=qs.flatMap fun q=>a7 L q.1 q.2.1 q.2.2
def Hd (qs:List DA):List Value:=qs.flatMap fun q=>wE q.1 q.2.1 q.2.2
theorem K0 (L:List Int) (p:Y.iu) (A:Option Addr) (c:Nat):(a7 L p A c).length=5:=by
 unfold a7 FC;split <;> rfl
theorem S6 (L:List Int) (qs:List PA) (i j:Nat) (hi:i<qs.length) (hj:j<5):(yc L qs)[i*5+j]?=(a7 L qs[i].1 qs[i].2.1 qs[i].2.2)[j]?:=by
 unfold yc;induction qs generalizing i with
 | nil=>simp at hi
 | cons x r ih =>
  rw[B7];have hl:=K0 L x.1 x.2.1 x.2.2;cases i with
  | zero=>rw[BQ ω];simp
  | succ i =>
   rw[Cp ω,hl,show(i+1)*5+j-5=i*5+j by omega]
   simpa using ih i (by simpa using hi)
theorem M9 (qs:List DA) (i j:Nat) (hi:i<qs.length) (hj:j<2):(Hd qs)[i*2+j]?=(wE qs[i].1 qs[i].2.1 qs[i].2.2)[j]?:=by
 unfold Hd;induction qs generalizing i with
 | nil=>simp at hi
 | cons x r ih =>
  rw[B7];have hl:(wE x.1 x.2.1 x.2.2).length=2:=rfl;cases i with
  | zero=>rw[BQ ω];simp
  | succ i =>
   rw[Cp ω,hl,show(i+1)*2+j-2=i*2+j by omega]
   simpa using ih i (by simpa using hi)
def bO (L:List Int) (w:World) (base:Nat) (v:Value) (ps:List Y.iu):Prop :=
 ∃qs:List PA,qs.map (·.1)=ps/\w.ownsRow base 161 5 v ps.length (yc L qs)/\∀q∈qs,kQ L w base q.2.1 q.1.r
def bP (L:List Int) (w:World) (base:Nat) (v:Value) (ds:List Y.jL):Prop :=
 ∃qs:List DA,qs.map (·.1)=ds/\w.ownsRow base 209 2 v ds.length (Hd qs)/\∀q∈qs,kQ L w base q.2.1 q.1.ns
theorem bO.nil (L:List Int) (w:World) (base:Nat):bO L w base (.slice none 0 0) []:=⟨[],rfl,Dg w base _ _,fun q h=>by cases h⟩
theorem bP.nil (L:List Int) (w:World) (base:Nat):bP L w base (.slice none 0 0) []:=⟨[],rfl,Dg w base _ _,fun q h=>by cases h⟩
def yU (w:World) (v:Value) (row:Option Nat):Prop:=bJ w row/\(v.ownBlock=none\/v.ownBlock≠row)
theorem yU.none (w:World) (v:Value):yU w v .none:=⟨bJ.none w,by rcases v.ownBlock with _|k;exact .inl rfl;exact .inr σ⟩
theorem bO.grown {L:List Int} {w w':World} {base:Nat} {v:Value} {ps:List Y.iu} {row:Option Nat} (h:bO L w base v ps) (hg:w.grownBy w' row) (ha:yU w v row):bO L w' base v ps:=by
 obtain⟨qs,h1,h2,h3⟩:=h;exact⟨qs,h1,h2.kept hg ha.2,fun q hq=>(h3 q hq).grown hg ha.1⟩
theorem bP.grown {L:List Int} {w w':World} {base:Nat} {v:Value} {ds:List Y.jL} {row:Option Nat} (h:bP L w base v ds) (hg:w.grownBy w' row) (ha:yU w v row):bP L w' base v ds:=by
 obtain⟨qs,h1,h2,h3⟩:=h;exact⟨qs,h1,h2.kept hg ha.2,fun q hq=>(h3 q hq).grown hg ha.1⟩
theorem zV {size:Nat} {e:TypeId} (h:w.ownsRow base e size v n xs) (he:e≠153):bJ w v.ownBlock:=by
 intro k hk cur hc;rcases h.2 with⟨rfl,_⟩|⟨g,cap,cur',rfl,_,hg,_⟩
 ·cases hk
 ·injection hk with hk;subst hk;have aa:w.heap[g]?=some (.cells cur 153 (0,0)):=hc;rw[hg]at aa;injection aa with e1;injection e1 with _ e2;exact he e2
theorem bO.form {L:List Int} {ps:List Y.iu} (h:bO L w base v ps):∃A c,v=.slice A ps.length c/\ps.length<=c/\c<=maxLen:=by
 obtain⟨qs,h1,h2,h3⟩:=h;rcases h2.2 with⟨rfl,h0⟩|⟨g,cap,cur,rfl,hb,hg,hn,hm,hs,ht⟩
 ·exact⟨none,0,by rw[h0],ω,by unfold maxLen;omega⟩
 ·exact⟨_,cap,rfl,hn,hm⟩
theorem bP.form {L:List Int} (h:bP L w base v ds):∃A c,v=.slice A ds.length c/\ds.length<=c/\c<=maxLen:=by
 obtain⟨qs,h1,h2,h3⟩:=h;rcases h2.2 with⟨rfl,h0⟩|⟨g,cap,cur,rfl,hb,hg,hn,hm,hs,ht⟩
 ·exact⟨none,0,by rw[h0],ω,by unfold maxLen;omega⟩
 ·exact⟨_,cap,rfl,hn,hm⟩
theorem NV:(prog.info? 161).map (fun i=>(i.zero,i.size,i.bytes))=some (some (.agg #[.string ⟨#[]⟩,.complex .f64 0 0,.slice none 0 0,.string ⟨#[]⟩,.complex .f64 0 0]),5,88):=κ
theorem UO:(prog.info? 209).map (fun i=>(i.zero,i.size,i.bytes))=some (some (.agg #[.int .i64 0,.slice none 0 0]),2,32):=κ
theorem KZ (L:List Int) (p:Y.iu) (A:Option Addr) (c:Nat):∀u∈a7 L p A c,u.oneCell'=true:=by
 intro u hu;unfold a7 FC at hu;split at hu <;> simp[aY]at hu <;> rcases hu with rfl|rfl|rfl|rfl|rfl <;> rfl
theorem M5 {rest:List Oper} {o:Oper} {a:Act} {Q:Exit->Act->World->Prop} (ae:o.guard=none) (s x:Operand) (t:TypeId) (ho:o.op=.call {callee:=.builtin .append,args:=#[s,x],argTypes:=#[t,t]}) (ht:prog.underlying t=some (.slice 161)) (L:List Int) (base:Nat) (v:Value) (ps:List Y.iu) (hs:a.eval s=v) (ab:bO L w base v ps) (g c:Nat) (p:Y.iu) (A:Option Addr) (pc:Nat) (hx:a.eval x=.slice (some ⟨g,0,none⟩) 1 c) (hz:∀j u,(a7 L p A pc)[j]?=some u->w.cell? ⟨g,j,none⟩=some u) (hr:kQ L w base A p.r) (af:ps.length<=1000000) (aa:base<=w.heap.size) (hK:∀v' w',bO L w' base v' (ps++[p])->w.grownBy w' v.ownBlock->wpList prog ops Q rest (a.put o.dst v') w') :
  wpList prog ops Q (o::rest) a w:=by
 obtain⟨i,hi,ag,ah,ai⟩:=CF NV;obtain⟨qs,ac,ad,aj⟩:=ab;have ak:qs.length=ps.length:=by rw[<-ac,Bh]
 refine Dp w ae s x t ho base 161 i _ 5 88 ht hi ag ah ai rfl δ v ps.length (yc L qs) hs ad ⟨g,0,none⟩ 1 c (a7 L p A pc) hx (by rw[K0]) ?_ (KZ L p A pc) (by unfold maxLen;omega) ω aa fun v' w' h1 h2 _=>hK v' w' ?_ h2
 ·intro j u hj;rw[qq,BF];exact hz j u hj
 ·have ho:=zV ad δ;refine⟨qs++[(p,A,pc)],by rw[Bi,ac];rfl,?_,fun q hq=>?_⟩
  ·rw[AZ];unfold yc;rw[BW,Ci];exact h1
  ·rcases Bs.1 hq with h|h
   ·exact(aj q h).grown h2 ho
   ·rw[AW]at h;subst h;exact hr.grown h2 ho
theorem tC (w:World) (row:Option Nat):w.grownBy w.drew row:=⟨rfl,rfl,rfl,Af _,fun _ _ _=>rfl⟩
theorem rL {w2:World} {R:Nat} {o:Obj} (h:w.grownBy w2 (some R)) (ho:w.heap[g]?=some o) (aa:g≠R):w2.heap[g]?=some o:=by
 rw[h.block g (Ad.1 ho).1 (fun e=>by injection e with e;omega)];exact ho
theorem Hy {t:TypeId} (h:w.heap[g]?=some (.cells cs t (0,0))) (ht:t≠153):bJ w (some g):=by
 intro k hk cur hc;injection hk with hk;subst hk;rw[h]at hc;injection hc with hc;injection hc with _ hc;exact ht hc
theorem OB (L:List Int) (p:Option fv):∃x3 x4,FC L p=[x3,x4]:=by cases p <;> exact⟨_,_,rfl⟩
theorem QQ {row:Option Nat} (h:w.heap[g]?=some (.cells cs 153 (0,0))) (hg:w.grownBy w' row) (ho:bJ w row):w'.heap[g]?=some (.cells cs 153 (0,0)) :=
 (hg.block g (Ad.1 h).1 (fun e=>ho g e.symm cs h)).trans h
theorem bO.own {L:List Int} {ps:List Y.iu} (h:bO L w base v ps):∃xs,w.ownsRow base 161 5 v ps.length xs:=by
 obtain⟨qs,_,h2,_⟩:=h;exact⟨_,h2⟩
theorem bP.own {L:List Int} (h:bP L w base v ds):∃xs,w.ownsRow base 209 2 v ds.length xs:=by
 obtain⟨qs,_,h2,_⟩:=h;exact⟨_,h2⟩
theorem bO.other {L:List Int} {ps:List Y.iu} (h:bO L w base v ps):bJ w v.ownBlock:=by
 obtain⟨xs,h2⟩:=h.own;exact zV h2 δ
theorem bP.other {L:List Int} (h:bP L w base v ds):bJ w v.ownBlock:=by
 obtain⟨xs,h2⟩:=h.own;exact zV h2 δ
theorem Mp (p:fv->Bool):∀ts:List fv,(ts.dropWhile p).length<=ts.length
 | []=>Af _
 | t::r=>by
  have:=Mp p r
  rw[List.dropWhile_cons];split
  ·simp;omega
  ·exact Af _
theorem Rb {left:fv} {ts r:List fv} {p:Y.iu} (h:Y.gu left ts=.ok p r):r.length<=ts.length:=by
 unfold Y.gu Y.qc at h;have hd:=Mp Y.isRef ts;split at h
 ·obtain⟨t,m,h1,h2⟩:=Y.fx h;obtain⟨u,m2,h3,h4⟩:=Y.fx h2;injection h4 with _ h5;subst h5;have e1:=congrArg List.length (Y.gH h1).1;have e2:=congrArg List.length (Y.gH h3).1;simp at e1 e2;omega
 ·injection h with _ h5;subst h5;exact hd
theorem Tj {t:TypeId} {a0 a1 a2 a3 a4:Value} (h:w.heap[g]?=some (.cells #[a0,a1,a2,a3,a4] t (0,0))) (b0 b1 b2 b3 b4:Value) :
  (((((w.setCell ⟨g,0,none⟩ b0).setCell ⟨g,1,none⟩ b1).setCell ⟨g,2,none⟩ b2).setCell ⟨g,3,none⟩ b3).setCell ⟨g,4,none⟩ b4).heap[g]?=some (.cells #[b0,b1,b2,b3,b4] t (0,0)):=by
 have h0:=Ba w g 0 _ _ b0 h;have h1:=Ba _ g 1 _ _ b1 h0;have h2:=Ba _ g 2 _ _ b2 h1;have h3:=Ba _ g 3 _ _ b3 h2;have h4:=Ba _ g 4 _ _ b4 h3;exact h4
theorem Q6 (w:World) (p:Addr) (u:Value):(w.setCell p u).heap.size=w.heap.size:=by simp[World.setCell]
theorem Iq (L:List Int) (w:World) (base:Nat) (t:fv) (hb:base<=w.heap.size):bV L (w.alloc (.cells #[.string (K.str t.t),.complex .f64 (Fl.fl (Pl.pos (L.take t.o)).1) (Fl.fl (Pl.pos (L.take t.o)).2)] 153)) base (.slice (some ⟨w.heap.size,0,none⟩) 1 1) [t] :=
 World.ownsRow_lit w #[.string (K.str t.t),.complex .f64 (Fl.fl (Pl.pos (L.take t.o)).1) (Fl.fl (Pl.pos (L.take t.o)).2)] 1 hb (by unfold maxLen;omega) rfl
theorem M0 {o:Oper} {a:Act} {K:Act->World->Prop} {Q:Exit->Act->World->Prop} (s x:Operand) (t:TypeId) (ho:o.op=.call {callee:=.builtin .append,args:=#[s,x],argTypes:=#[t,t]}) (ht:prog.underlying t=some (.slice 153)) (L:List Int) (base B:Nat) (v:Value) (xs:List fv) (hs:a.eval s=v) (aa:bV L w base v xs) (A:Option Addr) (m c:Nat) (ys:List fv) (hx:a.eval x=.slice A m c) (hm:m=ys.length) (hr:kQ L w B A ys) (ae:xs.length+ys.length<=1000000) (ab:base<=w.heap.size) (hK:∀v' w',bV L w' base v' (xs++ys)->w.grownBy w' v.ownBlock->K (a.put o.dst v') w') :
  o.wp prog a w K Q:=by
 obtain⟨i,hi,af,ag,ah⟩:=CF NU;subst hm;rcases A with _|ad
 ·have hz:ys=[]:=by
   rcases Di ys.length with h0|h0
   ·exact BI h0
   ·obtain⟨g,o',h,_⟩:=hr ω;cases h
  subst hz;have ac:=Fx (P:=prog) w base t o.type 153 i 2 ht hi v xs.length _ aa c;unfold Oper.wp;simp[execOp,ho,resolve,invoke,builtin,hs,hx,ac,Result.andThen];exact hK v w (by simpa using aa) (AO _ _)
 ·refine En w s x t ho base 153 i _ 2 32 ht hi af ag ah rfl δ v xs.length (xs.flatMap (aY L)) hs aa ad ys.length c (ys.flatMap (aY L)) hx (KV L ys) ?_ ?_ (by unfold maxLen;omega) ω ab fun v' w' h1 h2 _=>hK v' w' ?_ h2
  ·intro j u hj;have ai:j<(ys.flatMap (aY L)).length:=(Bk.1 hj).1;rw[KV]at ai;obtain⟨g,cur,h,_,hh,hc⟩:=hr ω
   replace h:=DG h
   subst h;rw[qq,BF,AF w g _ _ _ _ hh];exact hc j u hj
  ·intro u hu;obtain⟨z,_,hz⟩:=CJ.1 hu;simp[aY]at hz;rcases hz with rfl|rfl <;> rfl
  ·unfold bV;rw[AZ,BW];exact h1
def gU (L:List Int) (B R px py:Nat) (w:World) (ts:List fv):Prop :=
 ∃A c,w.heap[R]?=some (.cells #[.slice A ts.length c,.complex .f64 px py,.complex .f64 0 0,.int .i64 0] 203 (0,0))/\ts.length<=c/\ts.length<=4000/\mr L w B A ts/\B<=R
theorem gU.lt {L:List Int} {R:Nat} {ts:List fv} (h:gU L B R px py w ts):R<w.heap.size:=by
 obtain⟨A,c,hh,_⟩:=h;exact(Ad.1 hh).1
theorem gU.other {L:List Int} {R:Nat} {ts:List fv} (h:gU L B R px py w ts):bJ w (some R):=by
 obtain⟨A,c,hh,_⟩:=h;intro k hk cur he;injection hk with hk;subst hk;rw[hh]at he;injection he with he;injection he with _ he;cases he
theorem gU.grown {L:List Int} {B R px py:Nat} {w w':World} {ts:List fv} {row:Option Nat} (h:gU L B R px py w ts) (hg:w.grownBy w' row) (hr:∀k,row=some k->R<k):gU L B R px py w' ts:=by
 have aa:=h.lt;obtain⟨A,c,hh,h1,h2,h3,h4⟩:=h;exact⟨A,c,(hg.block R aa (fun e=>by have:=hr R e.symm;omega)).trans hh,h1,h2,h3.grown hg (fun k e=>by have:=hr k e;omega) ω,h4⟩
theorem gU.alloc {L:List Int} {R:Nat} {ts:List fv} (h:gU L B R px py w ts) (o:Obj):gU L B R px py (w.alloc o) ts :=
 h.grown (row:=.none) (aI (AO _ _) o) (fun _ e=>by cases e)
theorem gU.own {L:List Int} {R:Nat} {ts:List fv} {e:TypeId} {size:Nat} (h:gU L B R px py w ts) (ho:w.ownsRow base e size v n xs) (hg:w.grownBy w' v.ownBlock) (hb:R<base):gU L B R px py w' ts :=
 h.grown hg (fun k e=>by have:=(Br ho k e).1;omega)
theorem gU.jv {L:List Int} {R:Nat} {ts:List fv} (h:gU L B R px py w ts) (g i:Nat) (u:Value) (hg:R<g):gU L B R px py (w.setCell ⟨g,i,none⟩ u) ts :=
 h.grown (aF (AO w (some g)) i u) (fun k e=>by injection e with e;omega)
theorem gU.cell0 {L:List Int} {R:Nat} {ts:List fv} (h:gU L B R px py w ts):∃A c,w.cell? ⟨R,0,none⟩=some (.slice A ts.length c)/\w.cell? ⟨R,3,none⟩=some (.int .i64 0)/\w.frozen? ⟨R,0,none⟩=false/\ts.length<=c/\mr L w B A ts /\
  ∀A' c' ts',ts'.length<=c'->ts'.length<=4000->mr L w B A' ts'->gU L B R px py (w.setCell ⟨R,0,none⟩ (.slice A' ts'.length c')) ts':=by
 obtain⟨A,c,hh,h1,h2,h3,h4⟩:=h;refine⟨A,c,by rw[AF w R 0 _ _ _ hh];rfl,by rw[AF w R 3 _ _ _ hh];rfl,AM w R 0 _ _ hh,h1,h3,fun A' c' ts' k1 k2 k3=>⟨A',c',?_,k1,k2,?_,h4⟩⟩
 ·rw[Ba w R 0 _ _ _ hh];rfl
 ·exact k3.fp fun g o hg=>Ck (AQ w ⟨R,0,none⟩ _ g (by simp only;omega))
def kd:List fv->Int
 | []=>0
 | t::_=>t.k
theorem Ke (L:List Int) (B R px py:Nat) (ts:List fv) (w:World) (hr:gU L B R px py w ts) :
  Calls prog 127 #[.pointer (some ⟨R,0,none⟩)] w fun e w'=>e=.returned (.int .i64 (kd ts))/\w=w':=by
 obtain⟨A,c,h0,h3,_,hc,ht,_⟩:=hr.cell0;rcases ts with _|⟨t,r⟩
 ·clear hr ht
  go_enter func127,ntmps127
  go_wp2;go_ret
  exact⟨rfl,rfl⟩
 ·obtain⟨g,o,rfl,_,aa⟩:=ht σ;have ab:w.cell? ⟨g,o,none⟩=some (.int .i64 t.k):=aa 0 0 _ σ rfl;have hl:0<((t::r).length:Int):=σ
  have ac:(((t::r).length:Int)==0)=false:=by simp;omega
  have HK:Hid (kd (t::r)=t.k):=aA rfl;rw[HK.o];clear hr ht aa;generalize (t::r).length=n at *;generalize t.k=z at *
  go_enter func127,ntmps127
  go_wp2;go_ret
  exact⟨rfl,rfl⟩
theorem Hi (L:List Int) (B R px py:Nat) (ts:List fv) (a b:Int) (w:World) (hr:gU L B R px py w ts) :
  Calls prog 171 #[.pointer (some ⟨R,0,none⟩),.int .i64 a,.int .i64 b] w fun e w'=>e=.returned (.bool (Y.is [a,b] ts))/\w=w':=by
 have HK:=aA (Ke L B R px py ts w hr);obtain⟨A,c,h0,h3,_,hc,ht,_⟩:=hr.cell0;rcases ts with _|⟨t,r⟩
 ·clear hr ht
  go_enter func171,ntmps171
  go_wp2;go_ret
  exact⟨rfl,rfl⟩
 ·have hl:0<((t::r).length:Int):=σ
  have HE:Hid (Y.is [a,b] (t::r)=((t.k==a)||(t.k==b))):=aA (by show [a,b].contains t.k=_;simp[List.contains,List.elem];cases (t.k==a) <;> cases (t.k==b) <;> rfl);have ab:Hid (kd (t::r)=t.k):=aA rfl;rw[HE.o];rw[ab.o]at HK;clear hr ht;generalize (t::r).length=n at *;generalize t.k=z at *;by_cases ha:z=a
  ·have aa:(z==a)=true:=by simpa using ha
   rw[aa,DQ];clear ha
   go_enter func171,ntmps171
   go_wp2_with fail
   refine HK.o.mono ?_;rintro _ _ ⟨rfl,rfl⟩;go_wp2;go_ret
   exact⟨rfl,rfl⟩
  ·have aa:(z==a)=false:=by simpa using ha
   rw[aa,Ff];clear ha;generalize hb:(z==b)=q at *
   go_enter func171,ntmps171
   go_wp2_with fail
   refine HK.o.mono ?_;rintro _ _ ⟨rfl,rfl⟩;go_wp2_with fail
   refine HK.o.mono ?_;rintro _ _ ⟨rfl,rfl⟩;go_wp2;go_ret
   exact⟨rfl,rfl⟩
theorem z8 (L:List Int) (B R px py:Nat) (t:fv) (r:List fv) (a b:Int) (w:World) (hr:gU L B R px py w (t::r)) (hk:Y.is [a,b] (t::r)=true) :
  Calls prog 125 #[.pointer (some ⟨R,0,none⟩),.int .i64 a,.int .i64 b] w fun e w'=>e=.returned (cH L t)/\w.grownBy w' (some R)/\gU L B R px py w' r:=by
 have HR:=aA (fun(w1:World) (h1:β w w1)=>hr.grown (row:=.none) (aL h1 .none) (fun _ e=>by cases e));have ae:=aA (fun o=>((AB w.heap.size w).alloc (Af _) o));have ag:=hr.lt;obtain⟨A,c,h0,h3,hf,hc,ht,aa⟩:=hr.cell0;obtain⟨g,o,hA,ah,ab⟩:=ht σ;have ai:w.cell? ⟨g,o,none⟩=some (.int .i64 t.k):=ab 0 0 _ σ rfl;have aj:w.cell? ⟨g,o+1,none⟩=some (.string (K.str t.t)):=ab 0 1 _ σ rfl;have ak:w.cell? ⟨g,o+2,none⟩=some (.complex .f64 (Fl.fl (Pl.pos (L.take t.o)).1) (Fl.fl (Pl.pos (L.take t.o)).2)):=ab 0 2 _ σ rfl;have af:g<w.heap.size:=by obtain⟨_,_,_,_,_,_,al⟩:=hr;omega
 have ad:=aA (fun(w1:World) (h1:β w w1)=>Hi L B R px py (t::r) a b w1 (HR.o w1 h1));rw[hk]at ad;have HT:=aA (ht.tail hc);have ac:=aA aa;have S1:=fun w=>Pt w A c (t::r).length σ;have SC:=fun a w m X Y=>show(store a (.complex .f64 X Y) m).run prog w=stored prog w a (.complex .f64 X Y) m from run_store _ w a _ m rfl;have am:(((t::r).length:Int)==0)=false:=by simp;omega
 have ao:0<(t::r).length:=σ
 have HN:Hid ((t::r).length=r.length+1/\r.length+1<=c/\r.length+1<=4000):=aA ⟨rfl,hc,by obtain⟨_,_,_,_,h4,_,_⟩:=hr;simpa using h4⟩;unfold cH;clear hr ht ab aa hk;subst hA;generalize (t::r).length=n at *;generalize t.k=z at *;generalize K.str t.t=st at *;generalize Fl.fl (Pl.pos (L.take t.o)).1=X at *;generalize Fl.fl (Pl.pos (L.take t.o)).2=Y' at *
 go_enter func125,ntmps125
 go_wp2_with fail
 refine(ad.o _ (ae.o _)).mono ?_;rintro _ w2 ⟨rfl,rfl⟩;go_wp2;have hk:=ac.o (G6 (some ⟨g,o,none⟩) c) (c-1) r (by have:=HN.o;omega) (by have:=HN.o;omega) HT.o;refine B3 (v:=.agg #[.string st,.complex .f64 X Y']) (by simp[results,results125,go_sem]) rfl ⟨rfl,aI (aI (aF (AO _ _) _ _) _) _,?_⟩;rw[show n-1=r.length by have:=HN.o;omega];exact(hk.alloc _).alloc _
def VA (L:List Int) (B R px py:Nat) (ts:List fv) (w:World) (e:Ending) (w':World):Prop :=
 w.grownBy w' (some R)/\∃v,e=.returned v/\bV L w' w.heap.size v (ts.takeWhile Y.isRef)/\gU L B R px py w' (ts.dropWhile Y.isRef)
theorem NZ (L:List Int) (B R px py:Nat) (ts:List fv) (w:World) (hr:gU L B R px py w ts) :
  Calls prog 170 #[.pointer (some ⟨R,0,none⟩)] w (VA L B R px py ts w):=by
 have HR:=aA hr;have ad:=hr.lt;have a1:ts.length<=4000:=by obtain⟨_,_,_,_,h,_⟩:=hr;exact h
 clear hr
 go_enter func170,ntmps170
 go_wp2;go_loopw [3] (fun v wr=>∃(acc rest:List fv),bV L wr w.heap.size v acc/\gU L B R px py wr rest/\w.grownBy wr (some R)/\acc.length+rest.length=ts.length/\acc++rest.takeWhile Y.isRef=ts.takeWhile Y.isRef/\rest.dropWhile Y.isRef=ts.dropWhile Y.isRef) (fun v _=>4001-yL v)
 case atStart=>exact⟨[],ts,bV.nil _ _ _,HR.o,AO _ _,σ,rfl,rfl⟩
 case round =>
  clear HR;obtain⟨acc,rest,ho,hr,hg,aa,ak,al⟩:=hrel;have HO:=aA ho;have HR:=aA hr;have HG:=aA hg;have HL:=aA aa;have ae:=aA ak;have af:=aA al;obtain⟨A,c,rfl,av,aw⟩:=ho.rd;have ac:=aA (Hi L B R px py rest 1 2 wr hr);clear ho hr hg aa ak al av aw;rcases hb:Y.is [1,2] rest with _|_
  ·rw[hb]at ac;have HB:=aA hb;clear hb;go_wp2_with fail
   refine ac.o.mono ?_;rintro _ w2 ⟨rfl,rfl⟩;go_wp2;go_ret
   obtain⟨e1,e2⟩:=Y.uZ HB.o;rw[e1,CG]at ae;rw[e2]at af;refine⟨HG.o,_,rfl,?_,?_⟩
   ·rw[<-ae.o];exact HO.o
   ·rw[<-af.o];exact HR.o
  ·rw[hb]at ac;have HB:=aA hb;obtain⟨t,r,rfl,ab,hk⟩:=Y.se hb;have am:=aA (z8 L B R px py t r 1 2 wr HR.o hb);have HK:Hid (Y.isRef t=true):=aA hk;clear hb ab hk;unfold cH at am;go_wp2_with fail
   refine ac.o.mono ?_;rintro _ w2 ⟨rfl,rfl⟩;go_wp2_with fail
   refine am.o.mono ?_;rintro _ w3 ⟨rfl,ag,ao⟩;have ap:=aA ag;have ax:=aA ao;have ah:=aA (HO.o.grown ag HR.o.other);clear ag ao;have ay:=aA (QO L w3 t);have az:Hid (w.heap.size<=w3.heap.size):=aA (by have h1:=HG.o.size;have h3:=ap.o.size;omega);have aq:Hid (acc.length<=4000):=aA (by have:=HL.o;simp at this;omega);go_wp2_with (at_builtin;refine Tr rfl (.tmp 6) (.tmp 9) _ rfl underlying159 L w.heap.size _ acc rfl (ah.o.alloc _) w3.heap.size 1 t rfl ay.o (by have:=aq.o;omega) (by have:=az.o;simp;omega) ?_;intro v4 w4 ar ai)
   have a0:=aA (zM (aI (HG.o.trans ap.o) _) (ah.o.alloc _) ai);have aj:=aA ((ax.o.alloc _).own (ah.o.alloc _) ai ad);have au:=aA ar;clear ar ai;go_roundw
   case rel =>
    refine⟨acc++[t],r,au.o,aj.o,a0.o,?_,?_,?_⟩
    ·have:=HL.o;simp at this ⊢;omega
    ·rw[<-ae.o,List.takeWhile_cons,HK.o];simp
    ·rw[<-af.o,List.dropWhile_cons,HK.o];rfl
   case measure =>
    obtain⟨A4,c4,rfl,_,_⟩:=au.o.rd
    have:=aq.o
    simp[yL];omega
namespace Y
theorem LX (left:fv):∀(f:Nat) (acc:List iu) (ts:List fv) (ps:List iu) (r:List fv),alts f left acc ts=.ok ps r->ps.length+r.length<=acc.length+ts.length
 | 0,acc,ts,ps,r,h=>by injection h with h1 h2;subst h1 h2;exact Af _
 | f+1,acc,ts,ps,r,h=>by
  rw[alts]at h;obtain⟨p,m,h1,h2⟩:=fx h;obtain⟨t,m2,h3,h4⟩:=fx h2;have e1:=Rb h1;have e2:=congrArg List.length (gH h3).1;simp at e2;split at h4
  ·have:=LX left f _ _ _ _ h4
   simp at this;omega
  ·injection h4 with h5 h6;subst h5 h6;simp;omega
theorem nE {acc ps:List iu} {ts r:List fv} (h:group acc ts=.ok ps r):ps.length+r.length<acc.length+ts.length:=by
 unfold group at h;obtain⟨t,m,h1,h2⟩:=fx h;obtain⟨u,m2,h3,h4⟩:=fx h2;have e1:=congrArg List.length (gH h1).1;have e2:=congrArg List.length (gH h3).1;have e3:=LX _ _ _ _ _ _ h4;simp at e1 e2;omega
end Y
theorem IB {size:Nat} {e t:TypeId} (h:w.ownsRow base e size v n xs) (hb:w.heap[g]?=some (.cells cs t (0,0))) (he:e≠t):v.ownBlock≠some g:=by
 intro hk;rcases h.2 with⟨rfl,_⟩|⟨g',cap,cur',rfl,_,hg,_⟩
 ·cases hk
 ·injection hk with hk;have aa:g'=g:=hk;subst aa;rw[hg]at hb;injection hb with e1;injection e1 with _ e2;exact he e2
theorem L6 {size:Nat} {e t:TypeId} (h:w.ownsRow base e size v n xs) (hb:w.heap[g]?=some (.cells cs t (0,0))) (he:e≠t) (hg:w.grownBy w' v.ownBlock):w'.heap[g]?=some (.cells cs t (0,0)) :=
 (hg.block g (Ad.1 hb).1 (fun e'=>IB h hb he e'.symm)).trans hb
theorem NM {o:Oper} {a:Act} {K:Act->World->Prop} {Q:Exit->Act->World->Prop} (s x:Operand) (t:TypeId) (ho:o.op=.call {callee:=.builtin .append,args:=#[s,x],argTypes:=#[t,t]}) (ht:prog.underlying t=some (.slice 209)) (L:List Int) (base:Nat) (v:Value) (ds:List Y.jL) (hs:a.eval s=v) (ab:bP L w base v ds) (g c:Nat) (d:Y.jL) (A:Option Addr) (dc:Nat) (hx:a.eval x=.slice (some ⟨g,0,none⟩) 1 c) (hz:∀j u,(wE d A dc)[j]?=some u->w.cell? ⟨g,j,none⟩=some u) (hr:kQ L w base A d.ns) (ad:ds.length<=1000000) (aa:base<=w.heap.size) (hK:∀v' w',bP L w' base v' (ds++[d])->w.grownBy w' v.ownBlock->K (a.put o.dst v') w') :
  o.wp prog a w K Q:=by
 obtain⟨i,hi,ae,af,ag⟩:=CF UO;obtain⟨qs,ah,ac,ai⟩:=ab;refine En w s x t ho base 209 i _ 2 32 ht hi ae af ag rfl δ v ds.length (Hd qs) hs ac ⟨g,0,none⟩ 1 c (wE d A dc) hx rfl ?_ (fun u hu=>by simp[wE]at hu;rcases hu with rfl|rfl <;> rfl) (by unfold maxLen;omega) ω aa fun v' w' h1 h2 _=>hK v' w' ?_ h2
 ·intro j u hj;rw[qq,BF];exact hz j u hj
 ·have ho:=zV ac δ;refine⟨qs++[(d,A,dc)],by rw[Bi,ah];rfl,?_,fun q hq=>?_⟩
  ·rw[AZ];unfold Hd;rw[BW,Ci];exact h1
  ·rcases Bs.1 hq with h|h
   ·exact(ai q h).grown h2 ho
   ·rw[AW]at h;subst h;exact hr.grown h2 ho
theorem bO.less {L:List Int} {w:World} {base base':Nat} {v:Value} {ps:List Y.iu} (h:bO L w base v ps) (hb:base'<=base):bO L w base' v ps:=by
 obtain⟨qs,h1,h2,h3⟩:=h;refine⟨qs,h1,⟨h2.1,?_⟩,fun q hq=>(h3 q hq).less hb⟩;rcases h2.2 with h0|⟨g,cap,cur,e,aa,hr⟩
 ·exact .inl h0
 ·exact .inr ⟨g,cap,cur,e,ω,hr⟩
def Iw (n:Nat) (w:World):Nat:=match w.cell? ⟨n,0,none⟩ with|some (.slice _ k _)=>k|_=>0
theorem bP.less {L:List Int} {w:World} {base base':Nat} {v:Value} {ds:List Y.jL} (h:bP L w base v ds) (hb:base'<=base):bP L w base' v ds:=by
 obtain⟨qs,h1,h2,h3⟩:=h;refine⟨qs,h1,⟨h2.1,?_⟩,fun q hq=>(h3 q hq).less hb⟩;rcases h2.2 with h0|⟨g,cap,cur,e,aa,hr⟩
 ·exact .inl h0
 ·exact .inr ⟨g,cap,cur,e,ω,hr⟩
theorem Fv {a:World} (h:Below B a w) (u:Value) (hg:B<=g):Below B a (w.setCell ⟨g,i,none⟩ u) :=
 ⟨h.os,h.tape,h.output,by simpa[World.setCell] using h.size,fun k hk=>(AQ w ⟨g,i,none⟩ u k (by simp only;omega)).trans (h.block k hk)⟩
structure qP (L:List Int) (x:fv):Prop where
 o:x.o<L.length
 len:x.t.length<=L.length-x.o
 text:(L.drop x.o).take x.t.length=x.t
 name:(x.k==1)=T.isName x.t
 lit:(x.k==2)=T.isLit x.t
 bytes:K.Bytes x.t
theorem Ps (L:List Int) (hL:K.Bytes L) (k:Nat) (hk:k<L.length) (x:T.P3) (hf:T.tU (L.drop k) x) (he:x.2.2=0):qP L ⟨x.1,bH x.1 ((L.drop k).take x.2.1),k⟩:=by
 obtain⟨xk,xn,xe⟩:=x;obtain⟨h1,_,_,_,_,_⟩:=hf;obtain⟨h2,h3,h4,h5⟩:=h1 he;simp only at h2 h3 h4 h5;rw[Bt]at h3;have aa:((L.drop k).take xn).length=xn:=by rw[Bm,Bt];omega
 by_cases ab:xk=1
 ·subst ab;have hn:=h4 rfl;have e:bH 1 ((L.drop k).take xn)=(L.drop k).take xn:=by simp[bH]
  refine⟨hk,?_,?_,?_,?_,?_⟩
  ·simp only;rw[e,aa];exact h3
  ·simp only;rw[e,aa]
  ·simp only;rw[e,hn];rfl
  ·simp only;rw[e,T.pU _ hn];rfl
  ·simp only;rw[e];exact(hL.drop k).take xn
 ·by_cases ac:xk=2
  ·subst ac;have hn:=h5 rfl;have e:bH 2 ((L.drop k).take xn)=(L.drop k).take xn:=by simp[bH]
   have ad:T.isName ((L.drop k).take xn)=false:=by
    rcases hq:T.isName ((L.drop k).take xn) with _|_
    ·rfl
    ·have:=T.pU _ hq;rw[hn]at this;cases this
   refine⟨hk,?_,?_,?_,?_,?_⟩
   ·simp only;rw[e,aa];exact h3
   ·simp only;rw[e,aa]
   ·simp only;rw[e,ad];rfl
   ·simp only;rw[e,hn];rfl
   ·simp only;rw[e];exact(hL.drop k).take xn
  ·have e:bH xk ((L.drop k).take xn)=[]:=by unfold bH;rw[AJ ω]
   refine⟨hk,?_,?_,?_,?_,?_⟩
   ·simp only;rw[e];simp
   ·simp only;rw[e];simp
   ·simp only;rw[e,Bc.2 ab];rfl
   ·simp only;rw[e,Bc.2 ac];rfl
   ·simp only;rw[e];exact K.Bytes.nil
def vW (L:List Int) (k:Nat) (xs:List fv):Prop:=(∀x∈xs,qP L x/\x.o<k)/\xs.Pairwise (fun a b=>a.o<b.o)
theorem Lj (L:List Int) (hL:K.Bytes L):∀(f k m:Nat) (acc xs:List fv),k<=L.length->vW L k acc->tG f (L.drop k) k m acc=.ok xs->vW L L.length xs
 | 0,k,m,acc,xs,hk,hr,h=>by
  injection h with h;subst h;exact⟨fun x hx=>⟨(hr.1 x hx).1,(hr.1 x hx).1.o⟩,hr.2⟩
 | f+1,k,m,acc,xs,hk,hr,h=>by
  by_cases he:(L.drop k).length=0\/m=2
  ·rw[LC _ _ _ _ _ he]at h;injection h with h;subst h;exact⟨fun x hx=>⟨(hr.1 x hx).1,(hr.1 x hx).1.o⟩,hr.2⟩
  ·have ab:k<L.length:=by rw[Bt]at he;omega
   have hf:=T.mP (L.drop k) (by rw[Bt];omega) (hL.drop k);by_cases hb:(T.piece (L.drop k)).2.2=0
   ·rw[MS _ _ _ _ _ he hb]at h;obtain⟨ad,ac,_,_⟩:=hf.1 hb;rw[Bt]at ac;rw[D6]at h;refine Lj L hL f _ _ _ xs ω ?_ h;unfold more;split
    ·exact⟨fun x hx=>⟨(hr.1 x hx).1,by have:=(hr.1 x hx).2;omega⟩,hr.2⟩
    ·refine⟨fun x hx=>?_,?_⟩
     ·rcases Bs.1 hx with h1|h1
      ·exact⟨(hr.1 x h1).1,by have:=(hr.1 x h1).2;omega⟩
      ·rw[AW]at h1;subst h1;exact⟨Ps L hL k ab _ hf hb,by simp only;omega⟩
     ·rw[Ej];refine⟨hr.2,List.pairwise_singleton _ _,fun a ha b aa=>?_⟩;rw[AW]at aa;subst aa;exact(hr.1 a ha).2
   ·rw[LD _ _ _ _ _ he hb]at h;cases h
theorem PH (L:List Int) (hL:K.Bytes L) (xs:List fv) (h:As L=.ok xs):vW L L.length xs :=
 Lj L hL _ 0 0 [] xs (Bb _) ⟨fun x hx=>by simp at hx,List.Pairwise.nil⟩ (by simpa[As] using h)
theorem vW.lt {L:List Int} {xs:List fv} (h:vW L k xs) (i j:Nat) (aa:i<j) (hj:j<xs.length):xs[i].o<xs[j].o :=
 Da.1 h.2 i j ω hj aa
theorem vW.at {L:List Int} {xs:List fv} (h:vW L k xs) (i:Nat) (hi:i<xs.length):qP L xs[i]:=(h.1 _ (AD hi)).1
theorem vW.ge {L:List Int} {k:Nat} {xs:List fv} (h:vW L k xs):∀(i:Nat) (hi:i<xs.length),i<=xs[i].o
 | 0,_=>Bb _
 | i+1,hi=>by
  have h1:=h.ge i ω;have h2:=h.lt i (i+1) ω hi;omega
theorem vW.count {L:List Int} {xs:List fv} (h:vW L k xs):xs.length<=L.length:=by
 rcases Di xs.length with h0|h0
 ·omega
 ·have h1:=h.ge (xs.length-1) ω;have h2:=(h.at (xs.length-1) ω).o;omega
theorem Hk (w:World) (A:Option Addr) (c n i j:Nat) (h1:i<=j) (h2:j<=c):(Instr.sliceAt 72 (.slice A n c) (some (.int .i64 i)) (some (.int .i64 j)) none).run prog w=.ok (.slice (fY A c i) (j-i) (c-i)) w:=by
 rw[DU _ _ _ _ _ _ κ,run_slice_lh _ _ _ _ _ κ .i64 .i64 (i:Int) (j:Int) ω ω ω];have hs:(sizeOf (prog.elem 72)).run prog w=.ok 1 w:=κ
 rw[hs];simp[Result.andThen,sliced,fY]
namespace T
theorem gw (l:List Int):(K.str l).toList=Lib.bytesOf l:=by
 rw[CX];rfl
theorem p5 (l s:List Int):pre l s=((K.str (l.take s.length)).toList==(K.str s).toList):=by
 rw[gw,gw];have e:Lib.bytesOf (l.take s.length)=(Lib.bytesOf l).take (Lib.bytesOf s).length:=by simp[Lib.bytesOf,List.map_take]
 rw[e];unfold pre Lib.hasPrefix;rw[Bx,List.isPrefixOf_iff_prefix,BP,List.prefix_iff_eq_take,eq_comm]
theorem s9 (l s:List Int) (h:l.length<s.length):pre l s=false:=by
 rcases hp:pre l s with _|_
 ·rfl
 ·have:=GW l s hp;omega
theorem sg (z:Int) (r s:List Int):ix (z::r) s=if pre (z::r) s then 0 else if ix r s<0 then -1 else ix r s+1:=by
 unfold ix pre Lib.hasPrefix;rw[show Lib.bytesOf (z::r)=UInt8.ofNat z.toNat::Lib.bytesOf r from rfl,Lib.index]
 have:=Lib.index_ge (Lib.bytesOf r) (Lib.bytesOf s)
 split
 ·rfl
 ·by_cases h:Lib.index (Lib.bytesOf r) (Lib.bytesOf s) = -1
  ·rw[h];simp
  ·have h1:(Lib.index (Lib.bytesOf r) (Lib.bytesOf s) == -1)=false:=by simpa using h
   rw[h1];simp only[DL,if_false];rw[AJ ω]
theorem zd (s:List Int) (h:s.length≠0):ix [] s = -1:=by
 cases s with
 | nil=>simp at h
 | cons a b=>rfl
theorem si (l s:List Int) (k:Nat) (h:k<l.length):ix (l.drop k) s=if pre (l.drop k) s then 0 else if ix (l.drop (k+1)) s<0 then -1 else ix (l.drop (k+1)) s+1:=by
 rw[L.fP l k h,sg]
end T
theorem zQ (A:Option Addr) (c B:Nat) (l s:List Int) (k:Nat) (w:World) (hr:ij w B A l) (hl:K.Bytes l) (hc:l.length<=c) (hn:l.length<=5000) (hk:k<=l.length) (hs:s.length<=5000) :
  Calls prog 162 #[.slice A l.length c,.int .i64 k,.string (K.str s)] w fun e w'=>e=.returned (.bool (T.pre (l.drop k) s))/\w=w':=by
 have b:=K.gQ s;by_cases h:k+s.length<=l.length
 ·have hp:=T.p5 (l.drop k) s;have C1:=GS (((hr.fY hc k).take s.length)) ((hl.drop k).take s.length) (c-k);have S1:=fun w=>Hk w A c l.length k (k+s.length) ω ω;rw[Bm,Bt,Eb ω]at C1;rw[show k+s.length-k=s.length by omega]at S1;have aa:(k:Int)+((K.str s).size:Int)=((k+s.length:Nat):Int):=by rw[b];omega
  have h1:((k+s.length:Nat):Int)<=(l.length:Int):=ω
  have HP:=aA hp;clear hp b hr hl hk hs hc;generalize T.pre (l.drop k) s=pb at *;generalize K.str (List.take s.length (List.drop k l))=st at *;generalize K.str s=s2 at *;generalize k+s.length=m at *;generalize fY A c k=D at *;generalize c-k=c2 at *;generalize s.length=sl at *
  go_enter func162,ntmps162
  go_wp2_with (first|simp only[S1]|simp only[C1])
  go_ret
  exact⟨aD HP.o.symm,rfl⟩
 ·rw[T.s9 (l.drop k) s (by rw[Bt];omega)];have h1:¬(k:Int)+((K.str s).size:Int)<=(l.length:Int):=by rw[b];omega
  have h2:(k:Int)+((K.str s).size:Int)<=20000:=by rw[b];omega
  have h3:0<=(k:Int)+((K.str s).size:Int):=ω
  clear hr hl hk hs hc b;generalize K.str s=s2 at *
  go_enter func162,ntmps162
  go_wp2;go_ret
  exact⟨rfl,rfl⟩
def T.iT (l s:List Int) (k:Nat):Int:=if T.ix (l.drop k) s<0 then -1 else k+T.ix (l.drop k) s+s.length
theorem T.uO (l s:List Int) (k:Nat) (h:k<l.length) (hp:T.pre (l.drop k) s=false):T.iT l s k=T.iT l s (k+1):=by
 unfold T.iT;have hx:=T.si l s k h;rw[hp]at hx;simp only[DL,if_false]at hx;have hg:=T.uv (l.drop (k+1)) s;by_cases h1:T.ix (l.drop (k+1)) s<0
 ·rw[Az h1]at hx;rw[Az ω,Az h1]
 ·rw[AJ h1]at hx;rw[AJ ω,AJ h1,hx];simp only[Int.natCast_add];omega
theorem T.ri (l s:List Int) (k:Nat) (h:k<l.length) (hp:T.pre (l.drop k) s=true):T.iT l s k=k+s.length:=by
 unfold T.iT;have hx:=T.si l s k h;rw[hp,Az rfl]at hx;rw[hx];simp
theorem T.s7 (l s:List Int) (k:Nat) (h:l.length<=k) (hs:s.length≠0):T.iT l s k = -1:=by
 unfold T.iT;rw[Cb h,T.zd s hs];rfl
theorem Jo (A:Option Addr) (c B:Nat) (l s:List Int) (k:Nat) (w:World) (hr:ij w B A l) (hl:K.Bytes l) (hc:l.length<=c) (hn:l.length<=5000) (hk:k<=6000) (hs:s.length<=5000) (ac:s.length≠0) :
  Calls prog 163 #[.slice A l.length c,.int .i64 k,.string (K.str s)] w fun e w'=>e=.returned (.int .i64 (T.iT l s k))/\w=w':=by
 have HP:=aA (fun(j:Nat) (h:j<=l.length)=>zQ A c B l s j w hr hl hc hn h hs);have ad:=aA (K.gQ s);have HE:=aA (fun j h=>T.s7 l s j h ac);have HH:=aA (T.ri l s);have HO:=aA (T.uO l s);clear hr hl hc ac
 go_enter func163,ntmps163
 go_wp2
 go_loop [1] (fun vi=>∃(j:Nat),j<=6000/\vi=.int .i64 j/\T.iT l s j=T.iT l s k) (fun vi=>6001-(intOf vi).toNat)
 case atStart=>exact⟨k,hk,rfl,rfl⟩
 case round =>
  obtain⟨j,hj,rfl,he⟩:=hrel;have HV:=aA he;clear he;by_cases ae:j<l.length
  ·have ab:=aA (HP.o j ω);rcases hb:T.pre (l.drop j) s with _|_
   ·rw[hb]at ab;have HN:=aA (HO.o j ae hb);clear hb HP HE HH HO;go_wp2_with fail
    refine ab.o.mono ?_;rintro _ w' ⟨rfl,rfl⟩;go_wp2
    go_round
    case rel=>exact⟨j+1,ω,ν,by rw[<-HV.o,HN.o]⟩
    case measure=>simp[intOf];omega
   ·rw[hb]at ab;have HN:=aA (HH.o j ae hb);clear hb HP HE HH HO;have aa:=ad.o;have af:(j:Int)+((K.str s).size:Int)<=20000:=by rw[aa];omega
    have HZ:=aA aa;clear aa ad;generalize K.str s=s2 at *;go_wp2_with fail
    refine ab.o.mono ?_;rintro _ w' ⟨rfl,rfl⟩;go_wp2;go_ret
    exact⟨aR (by rw[<-HV.o,HN.o,HZ.o]),rfl⟩
  ·have HN:=aA (HE.o j ω);clear HP HE HH HO;go_wp2;go_ret
   exact⟨aR (by rw[<-HV.o,HN.o]),rfl⟩
theorem T.sZ (z:Int) (r:List Int) (hb:K.Bytes (z::r)):T.line (z::r)=if z=10 then [] else z::T.line r:=by
 have hp:T.pre (z::r) [10]=decide (z=10):=by
  unfold T.pre Lib.hasPrefix;simp only[Lib.bytesOf,Bw,Dh,List.isPrefixOf,Bool.and_true]
  have:=hb.hd
  rw[Bx,Cr,BP]
  constructor
  ·intro h
   have:=congrArg UInt8.toNat h
   simp at this;omega
  ·rintro rfl;rfl
 have hx:=T.sg z r [10];have hg:=T.uv r [10];rw[hp]at hx;unfold T.line;by_cases h:z=10
 ·rw[Az h];rw[AV h,Az rfl]at hx;rw[hx];rfl
 ·rw[AJ h];rw[AU h,AJ σ]at hx;by_cases h1:T.ix r [10]<0
  ·rw[Az h1]at hx;rw[AJ ω,AJ ω]
  ·rw[AJ h1]at hx;rw[Az ω,Az ω,hx];rw[show(T.ix r [10]+1).toNat=(T.ix r [10]).toNat+1 by omega];rfl
theorem Ln (A:Option Addr) (c B:Nat) (l:List Int) (k:Nat) (w:World) (hr:ij w B A l) (hl:K.Bytes l) (hn:l.length<=5000) (hk:k<=l.length) :
  Calls prog 164 #[.slice A l.length c,.int .i64 k] w fun e w'=>e=.returned (.int .i64 ((k+(T.line (l.drop k)).length:Nat):Int))/\w=w':=by
 go_enter func164,ntmps164
 go_wp2
 go_loop [1] (fun vi=>∃(j:Nat),j<=l.length/\vi=.int .i64 j/\j+(T.line (l.drop j)).length=k+(T.line (l.drop k)).length) (fun vi=>l.length-(intOf vi).toNat)
 case atStart=>exact⟨k,hk,rfl,rfl⟩
 case round =>
  obtain⟨j,hj,rfl,he⟩:=hrel;have HV:=aA he;clear he;by_cases af:j<l.length
  ·obtain⟨g,o,rfl,_,ad⟩:=hr ω;have ae:=ad j ω;have ab:=L.fP l j af;have ac:=T.sZ (l.getD j 0) (l.drop (j+1)) (ab▸hl.drop j);rw[<-ab]at ac;have HL:=aA ac;clear ad hr hl ab ac;generalize l.getD j 0=z at *;by_cases aa:z=10
   ·subst aa;go_wp2;go_ret
    exact⟨aR (by have h:=HV.o;have h2:=HL.o;simp only[if_true]at h2;rw[h2]at h;simp at h;omega),rfl⟩
   ·have ag:(z==10)=false:=by simpa using aa
    have HN:=aA aa;clear aa;go_wp2
    go_round
    case rel=>exact⟨j+1,ω,ν,by rw[<-HV.o,HL.o,AJ HN.o];simp;omega⟩
    case measure=>simp[intOf];omega
  ·obtain rfl:j=l.length:=ω
   clear hr hl;go_wp2;go_ret
   exact⟨aR (by have h:=HV.o;rw[Et,show T.line []=[] from rfl]at h;simp at h;omega),rfl⟩
def T.kx (q:Int) (l:List Int) (k:Nat):Int:=match T.quoted q (l.drop k) with|none=>-1|some n=>k+n
theorem T.kK (q:Int):T.quoted q []=none:=by simp[T.quoted]
theorem T.uV (q:Int) (l:List Int) (k:Nat) (h:l.length<=k):T.kx q l k = -1:=by
 unfold T.kx;rw[Cb h,T.kK]
theorem T.ta (q:Int) (l:List Int) (k:Nat) (h:k<l.length) (hq:l.getD k 0=q):T.kx q l k=k+1:=by
 unfold T.kx;rw[L.fP l k h,hq]
 have:T.quoted q (q::l.drop (k+1))=some 1:=by unfold T.quoted;rw[Az rfl]
 rw[this];rfl
theorem T.xF (q:Int) (l:List Int) (k:Nat) (h:k<l.length) (hq:¬l.getD k 0=q) (aa:¬l.getD k 0=92):T.kx q l k=T.kx q l (k+1):=by
 unfold T.kx;rw[L.fP l k h]
 have:T.quoted q (l.getD k 0::l.drop (k+1))=(T.quoted q (l.drop (k+1))).map (· + 1):=by
  generalize l.drop (k+1)=r;cases r with
  | nil =>
   rw[T.kK]
   have h1:T.quoted q [l.getD k 0]=none:=by
    generalize l.getD k 0=z at *;simp[T.quoted,hq,aa]
   rw[h1];rfl
  | cons a b=>rw[T.quoted,AJ hq,AJ aa]
 rw[this];cases T.quoted q (l.drop (k+1)) with
 | none=>rfl
 | some n=>simp only[DH];omega
theorem T.uW (q:Int) (l:List Int) (k:Nat) (h:k<l.length) (hq:¬l.getD k 0=q) (aa:l.getD k 0=92):T.kx q l k=T.kx q l (k+2):=by
 unfold T.kx;rw[L.fP l k h];by_cases h2:k+1<l.length
 ·rw[L.fP l (k+1) h2]
  have:T.quoted q (l.getD k 0::l.getD (k+1) 0::l.drop (k+1+1))=(T.quoted q (l.drop (k+2))).map (· + 2):=by
   rw[T.quoted,AJ hq,Az aa]
  rw[this];cases T.quoted q (l.drop (k+2)) with
  | none=>rfl
  | some n=>simp only[DH];omega
 ·rw[Cb (by omega:l.length<=k+1),Cb (by omega:l.length<=k+2),T.kK]
  have:T.quoted q [l.getD k 0]=none:=by rw[T.quoted,AJ hq,Az aa]
  rw[this]
theorem OY (A:Option Addr) (c B:Nat) (l:List Int) (k:Nat) (w:World) (hr:ij w B A l) (hn:l.length<=5000) (hk:k<l.length) :
  Calls prog 197 #[.slice A l.length c,.int .i64 k] w fun e w'=>e=.returned (.int .i64 (T.kx (l.getD k 0) l (k+1)))/\w=w':=by
 obtain⟨g,o,rfl,_,ac⟩:=hr ω;have aa:=ac k hk;have HE:=aA (T.uV (l.getD k 0) l);have HH:=aA (T.ta (l.getD k 0) l);have HO:=aA (T.xF (l.getD k 0) l);have HT:=aA (T.uW (l.getD k 0) l);have HC:=aA ac;clear ac hr;generalize l.getD k 0=q at *
 go_enter func197,ntmps197
 go_wp2
 go_loop [1] (fun vi=>∃(j:Nat),j<=l.length+1/\vi=.int .i64 j/\T.kx q l j=T.kx q l (k+1)) (fun vi=>l.length+2-(intOf vi).toNat)
 case atStart=>exact⟨k+1,ω,ν,rfl⟩
 case round =>
  clear aa;obtain⟨j,hj,rfl,he⟩:=hrel;have HV:=aA he;clear he;by_cases ab:j<l.length
  ·have ae:=HC.o j ab;by_cases hz:l.getD j 0=q
   ·have HN:=aA (HH.o j ab hz);have af:(l.getD j 0==q)=true:=by simpa using hz
    clear hz HE HH HO HT HC;generalize l.getD j 0=z at *;go_wp2;go_ret
    exact⟨aR (by rw[<-HV.o,HN.o]),rfl⟩
   ·have af:(l.getD j 0==q)=false:=by simpa using hz
    by_cases b:l.getD j 0=92
    ·have HN:=aA (HT.o j ab hz b);have ad:(l.getD j 0==92)=true:=by simpa using b
     clear hz b HE HH HO HT HC;generalize l.getD j 0=z at *;go_wp2
     go_round
     case rel=>exact⟨j+2,ω,ν,by rw[<-HV.o,HN.o]⟩
     case measure=>simp[intOf];omega
    ·have HN:=aA (HO.o j ab hz b);have ad:(l.getD j 0==92)=false:=by simpa using b
     clear hz b HE HH HO HT HC;generalize l.getD j 0=z at *;go_wp2
     go_round
     case rel=>exact⟨j+1,ω,ν,by rw[<-HV.o,HN.o]⟩
     case measure=>simp[intOf];omega
  ·have HN:=aA (HE.o j ω);clear HE HH HO HT HC;go_wp2;go_ret
   exact⟨aR (by rw[<-HV.o,HN.o]),rfl⟩
theorem T.wM {o:Int} (h:T.act f (z::r) o=some m) (hz:z=39\/z=34):∃f' q m',T.quoted z r=some q/\T.act f' (r.drop q) o=some m'/\m=m'+(q+1):=by
 cases f with
 | zero=>simp[T.act]at h
 | succ f =>
  rw[T.act]at h;rw[Az hz]at h;split at h
  ·cases h
  ·rename_i q hq
   rw[Dk]at h;obtain⟨m',h1,h2⟩:=h;exact⟨f,q,m',hq,h1,h2.symm⟩
theorem T.yW {o:Int} (h:T.act f (z::r) o=some m) (hz:¬(z=39\/z=34)) (ho:0<T.jH z o):∃f' m',T.act f' r (T.jH z o)=some m'/\m=m'+1:=by
 cases f with
 | zero=>simp[T.act]at h
 | succ f =>
  rw[T.act]at h;rw[AJ hz,Az ho,Dk]at h;obtain⟨m',h1,h2⟩:=h;exact⟨f,m',h1,h2.symm⟩
theorem T.wK {o:Int} (h:T.act f (z::r) o=some m) (hz:¬(z=39\/z=34)) (ho:¬0<T.jH z o):m=1:=by
 cases f with
 | zero=>simp[T.act]at h
 | succ f =>
  rw[T.act]at h;rw[AJ hz,AJ ho]at h;exact(DG h).symm
theorem T.wL {o:Int} (h:T.act f [] o=some m):False:=by
 cases f with
 | zero=>simp[T.act]at h
 | succ f=>rw[T.act]at h;cases h
theorem O1 (A:Option Addr) (c B:Nat) (l:List Int) (k n f0:Nat) (w:World) (hr:ij w B A l) (hn:l.length<=5000) (hk:k<l.length) (hz:l.getD k 0=123) (ha:T.act f0 (l.drop k) 0=some n) :
  Calls prog 165 #[.slice A l.length c,.int .i64 k] w fun e w'=>e=.returned (.int .i64 ((k+n:Nat):Int))/\w=w':=by
 have HQ:=aA (fun(j:Nat) (h:j<l.length)=>OY A c B l j w hr hn h);have HA:=aA ha;have HZ:=aA hz;clear ha hz
 go_enter func165,ntmps165
 go_wp2
 go_loop [1,5] (fun vi vo=>∃(j f m:Nat) (o:Int),j<=l.length/\vi=.int .i64 j/\vo=.int .i64 o/\0<=o/\o+k<=j/\T.act f (l.drop j) o=some m/\j+m=k+n/\(o=0->l.getD j 0=123)) (fun vi _=>l.length-(intOf vi).toNat)
 case atStart=>exact⟨k,f0,n,0,ω,rfl,rfl,ω,ω,HA.o,rfl,fun _=>HZ.o⟩
 case round =>
  clear HA HZ;obtain⟨j,f,m,o,hj,rfl,rfl,ho,ak,d,hm,b⟩:=hrel;have HM:=aA hm;clear hm;by_cases aa:j<l.length
  ·obtain⟨g,o',rfl,_,ad⟩:=hr ω;have ae:=ad j aa;have ab:=aA (HQ.o j aa);rw[L.fP l j aa]at d;have i:=aA d;clear d HQ ad hr;have HD:Hid (∀q,(l.drop (j+1)).drop q=l.drop (j+1+q)):=aA (fun q=>by rw[D6]);by_cases hq:l.getD j 0=39\/l.getD j 0=34
   ·obtain⟨f',q,m',h1,h2,h3⟩:=T.wM i.o hq;have ag:=T.kf _ _ _ h1;rw[Bt]at ag;have hv:T.kx (l.getD j 0) l (j+1)=((j+1+q:Nat):Int):=by unfold T.kx;rw[h1];simp only;omega
    rw[hv]at ab;rw[HD.o]at h2;have H2:=aA h2;have H3:=aA h3;have r:¬o=0:=fun e=>by have:=b e;omega
    have ac:(o==0)=false:=by simpa using r
    clear h1 h2 h3 hv i b
    have ah:(l.getD j 0==123)=false/\(l.getD j 0==125)=false:=by
     rcases hq with e|e <;> rw[e] <;> exact⟨rfl,rfl⟩
    obtain⟨q1,q2⟩:=ah;have ai:0<=((j+1+q:Nat):Int):=ω
    have al:j+1+q<=l.length:=ω
    rcases hq with hq|hq
    focus
     have q3:(l.getD j 0==39)=true:=by rw[hq];rfl
    rotate_left
    focus
     have q3:(l.getD j 0==39)=false:=by rw[hq];rfl
     have q4:(l.getD j 0==34)=true:=by rw[hq];rfl
    all_goals
     clear hq;generalize l.getD j 0=z at *;generalize hx:j+1+q=x at *;have HX:=aA hx;clear hx;go_wp2_with fail
     refine ab.o.mono ?_;rintro _ w' ⟨rfl,rfl⟩;go_wp2
     go_round
     case rel=>exact⟨x,f',m',o,ω,rfl,rfl,ho,by have:=HX.o;omega,H2.o,by have:=H3.o;have:=HM.o;have:=HX.o;omega,fun e=>absurd e r⟩
     case measure=>have:=HX.o;simp[intOf];omega
   ·have q3:(l.getD j 0==39)=false:=by simpa using fun e=>hq (.inl e)
    have q4:(l.getD j 0==34)=false:=by simpa using fun e=>hq (.inr e)
    have p:=aA (T.yW i.o hq);have s:=aA (T.wK i.o hq);clear i hq ab HD;by_cases h1:l.getD j 0=123
    ·have q1:(l.getD j 0==123)=true:=by rw[h1];rfl
     have hs:T.jH (l.getD j 0) o=o+1:=by unfold T.jH;rw[Az h1]
     obtain⟨f',m',h2,h3⟩:=p.o (by rw[hs];omega);rw[hs]at h2;have H2:=aA h2;have H3:=aA h3;clear p s h1 hs h2 h3 b;have ac:(o+1==0)=false:=by rw[Bc];omega
     generalize l.getD j 0=z at *;go_wp2
     go_round
     case rel=>exact⟨j+1,f',m',o+1,ω,ν,ν,ω,ω,H2.o,by have:=H3.o;have:=HM.o;omega,fun e=>by omega⟩
     case measure=>simp[intOf];omega
    ·have q1:(l.getD j 0==123)=false:=by simpa using h1
     have r:¬o=0:=fun e=>h1 (b e);by_cases h5:l.getD j 0=125
     ·have q2:(l.getD j 0==125)=true:=by rw[h5];rfl
      have hs:T.jH (l.getD j 0) o=o-1:=by unfold T.jH;rw[AJ h1,Az h5]
      by_cases h0:0<o-1
      ·obtain⟨f',m',h2,h3⟩:=p.o (by rw[hs];omega);rw[hs]at h2;have H2:=aA h2;have H3:=aA h3;clear p s h1 h5 hs h2 h3 b;have ac:(o-1==0)=false:=by rw[Bc];omega
       generalize l.getD j 0=z at *;go_wp2
       go_round
       case rel=>exact⟨j+1,f',m',o-1,ω,ν,ν,ω,ω,H2.o,by have:=H3.o;have:=HM.o;omega,fun e=>by omega⟩
       case measure=>simp[intOf];omega
      ·have af:=s.o (by rw[hs];omega);have H3:=aA af;have aj:o=1:=ω
       subst aj;clear p s h1 h5 hs af b h0 r;generalize l.getD j 0=z at *;go_wp2;go_ret
       exact⟨aR (by have:=HM.o;have:=H3.o;omega),rfl⟩
     ·have q2:(l.getD j 0==125)=false:=by simpa using h5
      have hs:T.jH (l.getD j 0) o=o:=by unfold T.jH;rw[AJ h1,AJ h5]
      obtain⟨f',m',h2,h3⟩:=p.o (by rw[hs];omega);rw[hs]at h2;have H2:=aA h2;have H3:=aA h3;clear p s h1 h5 hs h2 h3 b;have ac:(o==0)=false:=by simpa using r
      generalize l.getD j 0=z at *;go_wp2
      go_round
      case rel=>exact⟨j+1,f',m',o,ω,ν,rfl,ω,ω,H2.o,by have:=H3.o;have:=HM.o;omega,fun e=>absurd e r⟩
      case measure=>simp[intOf];omega
  ·exfalso
   rw[Cb ω]at d;exact T.wL d
end Go.Proofs.YtjjbaehamplnaaaGreat
