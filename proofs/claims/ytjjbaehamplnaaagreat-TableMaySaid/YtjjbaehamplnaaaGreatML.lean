/- Part of the proofs over this program: FstKnow2, FstOf, FirstQ, SliceI, LkTails, LkPass, LkGrow, AuMv. -/
import Derived.Test.YtjjbaehamplnaaaGreatMK
set_option linter.all false
namespace Go
def EE:=@List.all_eq_not_any_not
def Ea:=@List.length_replicate
def Et:=@List.replicate_zero
def EB:=@List.cons.injEq
end Go
set_option maxRecDepth 100000
set_option maxHeartbeats 40000000
variable {A:Option Go.Addr} {D M base d g k m n:Nat} {G:Go.Proofs.YtjjbaehamplnaaaGreat.Gm.Gr} {j s z:Int} {l r:List Int} {st:List (Int×Int)} {v v':Go.Value} {w w':Go.World} {xs:List Go.Value}
namespace Go.Proofs.YtjjbaehamplnaaaGreat
open Go.RowKit
theorem zl1 {o:Oper} {a:Act} {K:Act->World->Prop} {Q:Exit->Act->World->Prop} (l c:Operand) (t:TypeId) (ac:o.op=Op.makeSlice t l c) (ht:Tryz.prog.underlying t=some (.slice 104)) (n:Nat) (hl:a.eval l=.int .i64 n) (hc:a.eval c=.int .i64 n) (hn:n<=35184372088832) (hK:∀w',UBZ w' w.heap.size (List.replicate n 0)->Below w.heap.size w w'->K (a.put o.dst (.slice (some ⟨w.heap.size,0,none⟩) n n)) w'):Oper.wp Tryz.prog o a w K Q:=by
 obtain⟨i,hi,ad,ae,af⟩:=CD znH;obtain⟨w',ab,aa,b⟩:=run_make_full (P:=Tryz.prog) w w.heap.size t 104 i (.int .u32 0) 1 ht hi ad ae .i64 .i64 n (by rw[af];omega) (by unfold maxLen;omega) (Ad _)
 have hu:UBZ w' w.heap.size (List.replicate n 0):=by
  unfold UBZ;rw[zls];refine zd5 (base:=w.heap.size) (n:=n) ?_;rw[zcn]
  have e:(madeCells (Value.int IntKind.u32 0).cells (n*1)).toList=List.replicate n (Value.int .u32 0):=by
   rw[Dd];exact Eh _ _
  rw[e]at aa;exact aa
 unfold Oper.wp;simp[execOp,ac,hl,hc,ab,Result.andThen];exact hK w' hu ⟨b.os,b.tape,b.output,b.size,fun k hk=>b.block k hk (by simp)⟩
structure JK (w2:World) (n:Nat) (row:List Bool) (todo:List Nat) (wx:World) (x3 x5 x9 x10:Value) (g1 g5 c7:Nat):Prop where
 t:∀k∈todo,k=1\/k=5\/k=6\/k=7
 b:Below w2.heap.size w2 wx
 h1:1 ∉ todo->x5=.slice (some ⟨g1,0,none⟩) n n/\w2.heap.size<=g1/\UBO wx g1 row
 h5:5 ∉ todo->x9=.slice (some ⟨g5,0,none⟩) n n/\w2.heap.size<=g5/\UBZ wx g5 (List.replicate n 0)
 h6:6 ∉ todo->1 ∉ todo/\5 ∉ todo/\x10=.agg #[.slice (some ⟨g1,0,none⟩) n n,.slice (some ⟨g5,0,none⟩) n n]
 h7:7 ∉ todo->x3=.pointer (some ⟨c7,0,none⟩)/\w2.heap.size<=c7/\wx.heap[c7]?=some (.cells #[.slice none 0 0,.slice none 0 0] 258 (0,0))
section
variable {w2 wx w':World} {n:Nat} {row:List Bool} {todo:List Nat} {x3 x5 x9 x10:Value} {g1 g5 c7:Nat}
theorem JK.put1 (h:JK w2 n row todo wx x3 x5 x9 x10 g1 g5 c7) (hm:1∈todo) (hb:Below wx.heap.size wx w') (hg:wx.heap.size<=g) (hu:UBO w' g row):JK w2 n row (todo.erase 1) w' x3 (.slice (some ⟨g,0,none⟩) n n) x9 x10 g g5 c7 where
 t k hk:=h.t k (Bk hk)
 b:=h.b.trans (hb.mono h.b.size)
 h1 _:=⟨rfl,Ag h.b.size hg,hu⟩
 h5 q:=by obtain⟨a1,a2,a3⟩:=h.h5 (aE q (by decide));exact⟨a1,a2,aC hb a3⟩
 h6 q:=absurd hm (h.h6 (aE q (by decide))).1
 h7 q:=by obtain⟨a1,a2,a3⟩:=h.h7 (aE q (by decide));exact⟨a1,a2,aC hb a3⟩
theorem JK.put5 (h:JK w2 n row todo wx x3 x5 x9 x10 g1 g5 c7) (hm:5∈todo) (hb:Below wx.heap.size wx w') (hu:UBZ w' wx.heap.size (List.replicate n 0)):JK w2 n row (todo.erase 5) w' x3 x5 (.slice (some ⟨wx.heap.size,0,none⟩) n n) x10 g1 wx.heap.size c7 where
 t k hk:=h.t k (Bk hk)
 b:=h.b.trans (hb.mono h.b.size)
 h1 q:=by obtain⟨a1,a2,a3⟩:=h.h1 (aE q (by decide));exact⟨a1,a2,aC hb a3⟩
 h5 _:=⟨rfl,h.b.size,hu⟩
 h6 q:=absurd hm (h.h6 (aE q (by decide))).2.1
 h7 q:=by obtain⟨a1,a2,a3⟩:=h.h7 (aE q (by decide));exact⟨a1,a2,aC hb a3⟩
theorem JK.put7 (h:JK w2 n row todo wx x3 x5 x9 x10 g1 g5 c7):JK w2 n row (todo.erase 7) (wx.alloc (.cells #[.slice none 0 0,.slice none 0 0] 258)) (.pointer (some ⟨wx.heap.size,0,none⟩)) x5 x9 x10 g1 g5 wx.heap.size where
 t k hk:=h.t k (Bk hk)
 b:=h.b.alloc h.b.size _
 h1 q:=by obtain⟨a1,a2,a3⟩:=h.h1 (aE q (by decide));exact⟨a1,a2,aC ((Aq _ wx).alloc (Ad _) _) a3⟩
 h5 q:=by obtain⟨a1,a2,a3⟩:=h.h5 (aE q (by decide));exact⟨a1,a2,aC ((Aq _ wx).alloc (Ad _) _) a3⟩
 h6 q:=by obtain⟨a1,a2,a3⟩:=h.h6 (aE q (by decide));exact⟨fun m=>a1 (Bk m),fun m=>a2 (Bk m),a3⟩
 h7 _:=⟨rfl,h.b.size,Az wx _⟩
theorem JK.put6 (h:JK w2 n row todo wx x3 x5 x9 x10 g1 g5 c7) (m1:1 ∉ todo) (m5:5 ∉ todo):JK w2 n row (todo.erase 6) wx x3 x5 x9 (.agg #[.slice (some ⟨g1,0,none⟩) n n,.slice (some ⟨g5,0,none⟩) n n]) g1 g5 c7 where
 t k hk:=h.t k (Bk hk)
 b:=h.b
 h1 q:=h.h1 m1
 h5 q:=h.h5 m5
 h6 q:=⟨fun m=>m1 (Bk m),fun m=>m5 (Bk m),rfl⟩
 h7 q:=h.h7 (aE q (by decide))
end
def znZ (G:Gm.Gr) (w:World) (e:Ending) (w':World):Prop:=∃g1 g5,e=.returned (.agg #[.slice (some ⟨g1,0,none⟩) G.ns.length G.ns.length,.slice (some ⟨g5,0,none⟩) G.ns.length G.ns.length])/\w.heap.size<=g1/\w.heap.size<=g5/\UBO w' g1 (Gm.gn false G.rs G.ns.length)/\UBZ w' g5 (Gm.fst G)/\Below w.heap.size w w'
def FsP (G:Gm.Gr) (s:List Nat):Prop:=s.length=G.ns.length/\Gm.U32 s/\∀i t:Nat,(s.getD i 0).testBit t=true->Gm.Fs G t (i:Int)
theorem FsP.start (G:Gm.Gr):FsP G (List.replicate G.ns.length 0):=by
 refine⟨by simp,fun i=>?_,fun i t h=>?_⟩
 ·rw[Ai,Cu];split <;> simp
 ·rw[Gm.none_bit]at h;cases h
theorem FsP.step (hf:Gm.Fit G) (aa:Gm.Ok G) {s:List Nat} {x:Gm.Rl} (hx:x∈G.rs) (h:FsP G s):FsP G (Gm.firstN1 (Gm.gn false G.rs G.ns.length) s x) :=
 ⟨by unfold Gm.firstN1;rw[Gm.addN_len];exact h.1,h.2.1.addN _ (Gm.U32.ofN h.2.1 (by decide) (rlIn hf aa hx).t),fun i t hb=>Gm.fst_step aa.lin h.2.2 hx i t hb⟩
theorem zeq (v:Value) (G:Gm.Gr) (B:Nat) (w:World) (hg:aQ w B v G) (hf:Gm.Fit G) (af:Gm.Ok G) (hB:B<=w.heap.size) :
  Calls Tryz.prog 188 #[v] w (znZ G w):=by
 have ag:=aA (fun(x:World) (h:Below w.heap.size w x)=>(show Calls _ _ _ _ (zlf _ _) from(zdF v G B x (hg.below h hB) hf (Ag hB h.size)).mono fun e w' k=>k.1 (Gm.right_ok.2 af)));obtain⟨AT,cT,AN,cN,AR,cR,rfl,_,⟨ba,bb⟩,_,_,_,hR⟩:=hg;have z:=aA ((One.start w #[.slice AT G.ts.length cT,.slice AN G.ns.length cN,.slice AR G.rs.length cR,.int .i64 G.st]).alloc (.cells #[.slice none 0 0,.slice none 0 0] 258));have az:=aA hR;have HB:=aA hB;have am:=aA hf;have E:=aA af;have HN:Hid (G.ns.length<=40):=aA (by have:=(Gm.nons_iff G).1 E.o.n;omega);have ah:Hid (G.rs.length<=40):=aA E.o.r40;have a0:=HN.o;have a1:(G.ns.length:Int)<=9223372036854775807:=by omega
 obtain⟨w2,F⟩:∃y,y=(w.alloc (.cells #[.slice AT G.ts.length cT,.slice AN G.ns.length cN,.slice AR G.rs.length cR,.int .i64 G.st] 26)).alloc (.cells #[.slice none 0 0,.slice none 0 0] 258):=⟨_,rfl⟩
 rw[<-F]at z;have a2:Hid (w2.heap[w.heap.size+1]?=some (.cells #[.slice none 0 0,.slice none 0 0] 258 (0,0))):=aA (by rw[F];have:=Az (w.alloc (.cells #[.slice AT G.ts.length cT,.slice AN G.ns.length cN,.slice AR G.rs.length cR,.int .i64 G.st] 26)) (.cells #[.slice none 0 0,.slice none 0 0] 258);simpa using this);have ao:w2.heap.size=w.heap.size+2:=by rw[F];simp
 have H:=aA ao;have ai:Hid (Below w.heap.size w w2):=aA z.o.below;have r:w.heap.size<w2.heap.size:=by omega
 obtain⟨T,hT⟩:∃x,x=Gm.gn false G.rs G.ns.length:=⟨_,rfl⟩
 have ap:Hid (T.length=G.ns.length):=aA (by rw[hT,Gm.gn_len]);rw[<-hT]at ag;have HT:=aA hT;have H3:=aA (fun(x:World) (h:Below w2.heap.size w2 x)=>ag.o x (ai.o.trans (h.mono (CB r))));have q0:=fun y:Calm.On w2.heap.size w2=>(y.2.cell (p:=⟨w.heap.size,0,none⟩) r).trans (z.o.c 0 _ rfl);have q1:=fun y:Calm.On w2.heap.size w2=>(y.2.cell (p:=⟨w.heap.size,1,none⟩) r).trans (z.o.c 1 _ rfl);have q2:=fun y:Calm.On w2.heap.size w2=>(y.2.cell (p:=⟨w.heap.size,2,none⟩) r).trans (z.o.c 2 _ rfl);have q3:=fun y:Calm.On w2.heap.size w2=>(y.2.cell (p:=⟨w.heap.size,3,none⟩) r).trans (z.o.c 3 _ rfl);clear hf af hR hB hT ao ag
 go_enter Tryz.func188,Tryz.ntmps188
 go_upto_region 1 with fail
 rw[<-F];clear F
 refine CalmN.region_dep (fun x=>∃y:Calm.On w2.heap.size w2,x=y.1) [0,2,3,4] [1,5,6,7] [(6,1),(6,5)] (.one [] 8 (.fin []))
  (fun todo a wx=>∃x3 x5 x9 x10 g1 g5 c7,a = {tmps:=#[.agg #[.slice AT G.ts.length cT,.slice AN G.ns.length cN,.slice AR G.rs.length cR,.int .i64 G.st],.pointer (some ⟨w.heap.size,0,none⟩),.pointer (some ⟨w.heap.size+1,0,none⟩),x3,.agg #[.slice AT G.ts.length cT,.slice AN G.ns.length cN,.slice AR G.rs.length cR,.int .i64 G.st],x5,.pointer (some ⟨w.heap.size,1,none⟩),.slice AN G.ns.length cN,.int .i64 G.ns.length,x9,x10,undef,undef,undef,undef,undef,undef,undef],defers:=[]}/\JK w2 G.ns.length T todo wx x3 x5 x9 x10 g1 g5 c7)
  (by kernel_rfl) (by kernel_rfl) (fun _ _ d _ _ h=>by cases d <;> exact h) ⟨⟨w2.drew,aB (Aq _ _) 1⟩,rfl⟩ ?_ ?_ ?_
 ·simp only[CalmN.pickOps,Am,Af,Ah];repeat (go_big_quiet_step (fail))
  refine Aj ?_;exact⟨undef,undef,undef,undef,0,0,0,rfl,⟨by simp,aB (Aq _ _) 1,fun h=>absurd (by simp) h,fun h=>absurd (by simp) h,fun h=>absurd (by simp) h,fun h=>absurd (by simp) h⟩⟩
 ·intro todo k a wx hk hD hJ hS;obtain⟨x3,x5,x9,x10,g1,g5,c7,rfl,hJ⟩:=hJ;have HJ:=aA hJ;have ac:=hJ.t k hk;have HK:=aA hk;have HD:=aA hD;clear hJ hS hk hD q0 q1 q2 q3;rcases ac with rfl|rfl|rfl|rfl
  ·simp only[CalmN.wpSt,Am,Af,Ah];intro KK m;rw[Ap (by rfl)];go_wp2_with fail
   refine(H3.o wx HJ.o.b).mono ?_;rintro _ w' ⟨g,rfl,hg,hu,hb⟩;have hj:=HJ.o.put1 HK.o hb hg hu;go_wp2_with fail
   rw[ap.o];exact m _ _ ⟨⟨w',hj.b⟩,rfl⟩ _ (fun _ h=>h) ⟨⟨w',hj.b⟩,rfl⟩ ⟨x3,_,x9,x10,_,g5,c7,rfl,hj⟩
  ·simp only[CalmN.wpSt,Am,Af,Ah];intro KK m;rw[Ap (by rfl)];refine zl1 (.tmp 8) (.tmp 8) _ rfl Tryz.underlying102 G.ns.length rfl rfl (by omega) ?_;intro w' hu hb;have hj:=HJ.o.put5 HK.o hb hu;exact m _ _ ⟨⟨w',hj.b⟩,rfl⟩ _ (fun _ h=>h) ⟨⟨w',hj.b⟩,rfl⟩ ⟨x3,x5,_,x10,g1,_,c7,rfl,hj⟩
  ·have m1:=HD.o (6,1) (by simp) rfl;have m5:=HD.o (6,5) (by simp) rfl;obtain⟨rfl,_⟩:=HJ.o.h1 m1;obtain⟨rfl,_⟩:=HJ.o.h5 m5;have hj:=HJ.o.put6 m1 m5;simp only[CalmN.wpSt,Am,Af,Ah];intro KK m;rw[Ap (by rfl)];go_wp2_with fail
   exact m _ _ ⟨⟨_,hj.b⟩,rfl⟩ _ (fun _ h=>h) ⟨⟨_,hj.b⟩,rfl⟩ ⟨x3,_,_,_,g1,g5,c7,rfl,hj⟩
  ·simp only[CalmN.wpSt,Am,Af,Ah];intro KK m;rw[Ap (by rfl)];have hj:=HJ.o.put7;go_wp2_with fail
   exact m _ _ ⟨⟨_,hj.b⟩,rfl⟩ _ (fun _ h=>h) ⟨⟨_,hj.b⟩,rfl⟩ ⟨_,x5,x9,x10,g1,g5,_,rfl,hj⟩
 ·intro a wx hJ hS;obtain⟨x3,x5,x9,x10,g1,g5,c7,rfl,hJ⟩:=hJ;obtain⟨rfl,aq,i⟩:=hJ.h1 (by simp);obtain⟨rfl,aj,f⟩:=hJ.h5 (by simp);obtain⟨_,_,rfl⟩:=hJ.h6 (by simp);obtain⟨rfl,ak,j⟩:=hJ.h7 (by simp);have ar:=hJ.b;clear hS q0 q1 q2 q3 hJ H3;have l7:=(Ac.1 j).1;have f7:=AD wx _ 0 _ _ j;have f8:=AD wx _ 1 _ _ j;have k7:=Aw wx _ 0 _ _ _ j;have k8:=Aw wx _ 1 _ _ _ j;simp only[CalmN.wpT,CalmN.wpSt,CalmN.pickOps,Am,Af,Ah];repeat (go_big_quiet_step (fail))
  refine Aj ?_;intro KK m;rw[Ap (by rfl)];go_wp2_with fail
  obtain⟨wy,A⟩:∃y,y=(wx.setCell ⟨c7,0,none⟩ (.slice (some ⟨g1,0,none⟩) G.ns.length G.ns.length)).setCell ⟨c7,1,none⟩ (.slice (some ⟨g5,0,none⟩) G.ns.length G.ns.length):=⟨_,rfl⟩
  have u:Below w2.heap.size w2 wy:=by rw[A];exact(ar.setCell (p:=⟨c7,0,none⟩) ak _).setCell (p:=⟨c7,1,none⟩) ak _
  have ab:g1≠c7:=fun e=>by subst e;unfold UBO at i;rw[j]at i;injection i with i;injection i with _ i;cases i
  have l:g5≠c7:=fun e=>by subst e;unfold UBZ UBU at f;rw[j]at f;injection f with f;injection f with _ f;cases f
  have aa:g1≠g5:=fun e=>by subst e;unfold UBO at i;unfold UBZ UBU at f;rw[i]at f;injection f with f;injection f with _ f;cases f
  have I:UBO wy g1 T:=by rw[A];exact UBO.far (UBO.far i ab _) ab _
  have au:UBZ wy g5 (List.replicate G.ns.length 0):=by rw[A];exact UBZ.far (UBZ.far f l _) l _
  have J:wy.heap[c7]?=some (.cells #[.slice (some ⟨g1,0,none⟩) G.ns.length G.ns.length,.slice (some ⟨g5,0,none⟩) G.ns.length G.ns.length] 258 (0,0)):=by rw[A];exact AP _ c7 1 _ _ _ (AP wx c7 0 _ _ _ j)
  rw[<-A];refine m _ _ ⟨⟨wy,u⟩,rfl⟩ _ (fun _ h=>h) ⟨⟨wy,u⟩,rfl⟩ ?_;clear m k7 k8 f7 f8 l7 A i f j ar;refine Aj ?_;have u1:=Aw wy _ 1 _ _ _ J;have u2:=(u.cell (p:=⟨w.heap.size,2,none⟩) r).trans (z.o.c 2 _ rfl);have lw:w.heap.size<wy.heap.size:=Ao r u.size;have l7:=(Ac.1 J).1;have ad:Below w.heap.size w wy:=ai.o.trans (u.mono (CB r));have av:zd3 wy B AR G.rs:=az.o.keep fun g o hg=>ad.cell (p:=⟨g,o,none⟩) (Ao hg HB.o)
  have aw:=zhR 215 #[.pointer (some ⟨c7,0,none⟩)] (zaI Tryz.func215 (by kernel_rfl) (by kernel_rfl)) G.rs AR cR G.ns.length B g5 G.ns.length wy (List.replicate G.ns.length 0) (FsP G) (Gm.firstN1 T)
   av (Ag HB.o ad.size) (by have:=HB.o;omega) au (by simp) (FsP.start G) (by have:=ah.o;omega) (fun s x=>Gm.NLe.addN _ _ _) (fun s x hx h=>by rw[HT.o];exact h.step am.o E.o hx) (fun s h=>h.2.1)
   (fun y s b x A' c' hG hP hx hr _=>by
    have a3:=(hG.g.block c7 l7 (fun e=>by injection e with e;exact l e.symm)).trans J;have h1:UBO y g1 T:=(hG.g.block g1 I.lt (fun e=>by injection e with e;exact aa e)).trans I;exact zf0 wy y g5 G.ns.length G.ns.length c7 G.ts.length s b T (some ⟨g1,0,none⟩) A' G.ns.length c' B x hG a3 (h1.rd0 h1.lt) ap.o (fun e=>l e.symm) l7 hr (Ag HB.o (Ag ad.size hG.g.size)) hP.2.1 (rlIn am.o E.o hx))
  have ax:=aA aw
  have HX:Hid (∀(y:World) (s:List Nat),FsP G s->(∀x∈G.rs,Gm.firstN1 T s x=s)->UBZ y g5 s->wy.grownBy y (some g5)->UBZ y g5 (Gm.fst G)/\UBO y g1 T/\y.heap[c7]?=some (.cells #[.slice (some ⟨g1,0,none⟩) G.ns.length G.ns.length,.slice (some ⟨g5,0,none⟩) G.ns.length G.ns.length] 258 (0,0))/\Below w2.heap.size w2 y):=aA (fun y s hP hc hu hg=>by
   rw[HT.o]at hc;rw[<-Gm.fst_row E.o.lin hP.1 hP.2.2 hc];exact⟨hu,(hg.block g1 I.lt (fun e=>by injection e with e;exact aa e)).trans I,(hg.block c7 l7 (fun e=>by injection e with e;exact l e.symm)).trans J,zaa u hg aj u.size⟩)
  have C:=aA (BJ aq aj);clear aw I au J av ad ab l aa aq aj ak u a0;go_wp2_with fail
  refine ax.o.mono ?_;rintro _ w4 ⟨rfl,s,hP,hc,hu,a4,ay⟩;obtain⟨f,i,j,al⟩:=HX.o w4 s hP hc hu ay;have r0:=Aw w4 _ 0 _ _ _ j;have r1:=Aw w4 _ 1 _ _ _ j;have l74:=(Ac.1 j).1;have D:=(al.block (w.heap.size+1) (by have:=H.o;omega)).trans a2.o;have g0:=Aw w4 _ 0 _ _ _ D;have g1':=Aw w4 _ 1 _ _ _ D;have f0:=AD w4 _ 0 _ _ D;have f1:=AD w4 _ 1 _ _ D;have l4:=(Ac.1 D).1;have a5:=aA f;have a6:=aA i;have a9:=aA al;clear hP hc hu a4 ay f i j al D HX ax u1 u2 lw l7;go_wp2_with fail
  refine BM (v:=.agg #[.slice (some ⟨g1,0,none⟩) G.ns.length G.ns.length,.slice (some ⟨g5,0,none⟩) G.ns.length G.ns.length]) (by simp[results,Tryz.results188,go_sem,g0,g1']) rfl ?_;have ae:∀g,w2.heap.size<=g->g≠w.heap.size+1:=fun g h=>by have:=H.o;omega
  refine⟨g1,g5,rfl,by have:=C.o;have:=H.o;omega,by have:=C.o;have:=H.o;omega,?_,?_,?_⟩
  ·rw[<-HT.o];exact UBO.far (UBO.far a6.o (ae _ C.o.1) _) (ae _ C.o.1) _
  ·exact UBZ.far (UBZ.far a5.o (ae _ C.o.2) _) (ae _ C.o.2) _
  ·exact((ai.o.trans (a9.o.mono (by have:=H.o;omega))).setCell (p:=⟨w.heap.size+1,0,none⟩) (by simp) _).setCell (p:=⟨w.heap.size+1,1,none⟩) (by simp) _
end Go.Proofs.YtjjbaehamplnaaaGreat
namespace Go.Proofs.YtjjbaehamplnaaaGreat
open Go.RowKit
theorem zjx {p:Int->Bool} (h:k<l.length):(l.take (k+1)).any p=((l.take k).any p||p l[k]):=by
 rw[AO h,List.any_append];simp
theorem zmV {p:Int->Bool} (h:k<l.length) (hp:p l[k]=true):l.any p=true:=DS.2 ⟨_,Ay h,hp⟩
theorem zc6 (fb:Nat) (cp:Value) (hE:∀args w,Sem.run Tryz.prog (callFunc fb args) w=.ok (.enter fb args) w) (l:List Int) (p:Int->Bool) (A:Option Addr) (c B:Nat) (w:World) (hr:RdI w B A l) (hB:B<=w.heap.size) (hl:l.length<=9223372036854775807) (hp:∀y z,Below w.heap.size w y->z∈l->Calls Tryz.prog fb #[.int .i64 z,cp] y fun e w'=>e=.returned (.bool (p z))/\Below y.heap.size y w') :
  Calls Tryz.prog 107 #[.slice A l.length c,.func (Fn.func fb) #[] #[cp]] w fun e w'=>(∃k:Int,e=.returned (.int .i64 k)/\decide (0<=k)=l.any p)/\Below w.heap.size w w':=by
 have HR:=aA hr;have HB:=aA hB;have HP:=aA hp;have ac:(l.length:Int)<=9223372036854775807:=by omega
 clear hr hp hB hl
 go_enter Tryz.func107,Tryz.ntmps107
 go_wp2;go_loopw [8] (fun vi wr=>∃k:Nat,k<=l.length/\vi=.int .i64 k/\Hid ((l.take k).any p=false)/\Hid (Below w.heap.size w wr)) (fun vi _=>l.length-(intOf vi).toNat)
 case atStart=>exact⟨0,AX _,rfl,aA (by simp),aA (Aq _ _)⟩
 case round =>
  obtain⟨k,hk,rfl,HK,HW⟩:=hrel;by_cases b:k<l.length
  ·obtain⟨g,o,rfl,ad,hc⟩:=HR.o (by omega);have k0:=(HW.o.cell (p:=⟨g,o+k,none⟩) (Ao ad HB.o)).trans (hc k b);rw[L.gd_lt b]at k0;have aa:=aA (HP.o wr _ HW.o (Ay b));have HN:=aA (zjx (p:=p) b);have HY:=aA (fun h=>zmV (p:=p) b h);clear hc;generalize l[k]=z at *;cases hz:p z
   ·rw[hz]at aa HN;have HX:=aA (HN.o.trans (by rw[HK.o]));clear hz HN HY;go_wp2_with fail
    refine aa.o.mono ?_;rintro _ w2 ⟨rfl,hb⟩;have ab:=aA (HW.o.trans (hb.mono HW.o.size));clear hb;go_wp2;go_roundw
    case rel=>exact⟨k+1,b,by go_num,HX,ab⟩
    case measure=>simp[intOf];omega
   ·rw[hz]at aa;have HX:=aA (HY.o hz);clear hz HN HY;go_wp2_with fail
    refine aa.o.mono ?_;rintro _ w2 ⟨rfl,hb⟩;have ab:=aA (HW.o.trans (hb.mono HW.o.size));clear hb;go_wp2;go_ret
    exact⟨⟨_,rfl,by rw[HX.o,AJ (by omega)]⟩,ab.o⟩
  ·obtain rfl:k=l.length:=by omega
   rw[Bo]at HK;go_wp2;go_ret
   exact⟨⟨_,rfl,by rw[HK.o];rfl⟩,HW.o⟩
theorem zaX (fb:Nat) (cp:Value) (hE:∀args w,Sem.run Tryz.prog (callFunc fb args) w=.ok (.enter fb args) w) (l:List Int) (p:Int->Bool) (A:Option Addr) (c B:Nat) (w:World) (hr:RdI w B A l) (hB:B<=w.heap.size) (hl:l.length<=9223372036854775807) (hp:∀y z,Below w.heap.size w y->z∈l->Calls Tryz.prog fb #[.int .i64 z,cp] y fun e w'=>e=.returned (.bool (p z))/\Below y.heap.size y w') :
  Calls Tryz.prog 72 #[.slice A l.length c,.func (Fn.func fb) #[] #[cp]] w fun e w'=>e=.returned (.bool (l.any p))/\Below w.heap.size w w':=by
 have H:=aA (zc6 fb cp hE l p A c B w hr hB hl hp);clear hr hB hl hp
 go_enter Tryz.func72,Tryz.ntmps72
 go_wp2_with fail
 refine H.o.mono ?_;rintro _ w2 ⟨⟨k,rfl,hk⟩,hb⟩;have HK:=aA hk;have HB:=aA hb;clear hk hb;go_wp2;go_ret
 exact⟨aD HK.o,HB.o⟩
noncomputable def Gm.ofG (G:Gm.Gr) (l:List Int) (rest:Nat):Nat:=if Gm.right G=true/\l.all (Gm.has G)=true then Gm.ofN (Gm.gn false G.rs G.ns.length) (Gm.fst G) rest l else 0
theorem Gm.fst_u32 (aa:Gm.Ok G):Gm.U32 (Gm.fst G):=fun i=>by
 have ab:=((Gm.terms_iff G.ts).1 aa.t).1;refine Er (n:=32) _ fun t ht=>?_;cases hb:((Gm.fst G).getD i 0).testBit t
 ·rfl
 ·have:=Gm.fs_lt aa ((Gm.fst_bit aa.lin i t).1 hb)
  omega
theorem Gm.has_in (aa:Gm.Ok G) (h:Gm.has G z=true):z<=31/\(z<0->-1-z<(G.ns.length:Int))/\z<G.ts.length:=by
 have ab:=((Gm.terms_iff G.ts).1 aa.t).1;unfold Gm.has at h;split at h
 ·have:=Cq h
  exact⟨by omega,fun h=>by omega,this⟩
 ·have:=Cq h
  exact⟨by omega,fun _=>this,by omega⟩
theorem zhw (G:Gm.Gr) (B:Nat) (z:Int) (hz:Gm.In z) (a:Array Value) (w y:World) (hg:aQ y B (.agg a) G) (ho:One w a y) :
  Calls Tryz.prog 187 #[.int .i64 z,.pointer (some ⟨w.heap.size,0,none⟩)] y fun e w'=>e=.returned (.bool (!Gm.has G z))/\Below y.heap.size y w':=by
 have H:=aA (zew (.agg a) G B z hz y hg);obtain⟨AT,cT,AN,cN,AR,cR,hv,_⟩:=hg;injection hv with hv;subst hv;have q0:=ho.c 0 _ rfl;have q1:=ho.c 1 _ rfl;have q2:=ho.c 2 _ rfl;have q3:=ho.c 3 _ rfl;have hs:w.heap.size<y.heap.size:=ho.size;clear ho
 go_enter Tryz.func187,Tryz.ntmps187
 go_wp2_with fail
 refine H.o.mono ?_;rintro _ w2 ⟨rfl,hb⟩;have HB:=aA hb;clear hb;go_wp2;go_ret
 exact⟨rfl,HB.o⟩
theorem zkY (v:Value) (G:Gm.Gr) (l:List Int) (rest:Nat) (A:Option Addr) (c B:Nat) (w:World) (hg:aQ w B v G) (hf:Gm.Fit G) (hB:B<=w.heap.size) (hr:RdI w B A l) (g:∀z∈l,Gm.In z) (hl:l.length<=9223372036854775807) (aa:rest<4294967296) :
  Calls Tryz.prog 147 #[v,.slice A l.length c,.int .u32 rest] w fun e w'=>e=.returned (.int .u32 (Gm.ofG G l rest))/\Below w.heap.size w w':=by
 have H1:=aA (fun(x:World) (h:Below w.heap.size w x)=>zaq v G B x (hg.below h hB) hf (Ag hB h.size));have H2:=aA (fun(q:Gm.right G=true) (x:World) (h:Below w.heap.size w x)=>zeq v G B x (hg.below h hB) hf (Gm.right_ok.1 q) (Ag hB h.size));have ah:=aA (fun(x:World) (h:Below w.heap.size w x)=>hg.below h hB);have al:=aA hg;obtain⟨AT,cT,AN,cN,AR,cR,rfl,_⟩:=hg;have f:=aA (One.start w #[.slice AT G.ts.length cT,.slice AN G.ns.length cN,.slice AR G.rs.length cR,.int .i64 G.st])
 have H3:=aA (fun(x:World) (h:One w #[.slice AT G.ts.length cT,.slice AN G.ns.length cN,.slice AR G.rs.length cR,.int .i64 G.st] x)=>zaX 187 (.pointer (some ⟨w.heap.size,0,none⟩)) (zaI Tryz.func187 (by kernel_rfl) (by kernel_rfl)) l (fun z=>!Gm.has G z) A c B x (hr.below h.below hB) (Ag hB h.below.size) hl
  (fun y z hy hz=>zhw G B z (g z hz) _ w y (ah.o y (h.on hy).below) (h.on hy)))
 have ad:l.any (fun z=>!Gm.has G z) = !l.all (Gm.has G):=by rw[EE];simp
 rw[ad]at H3;have HE:Hid (Gm.ofG G l rest=if Gm.right G=true/\l.all (Gm.has G)=true then Gm.ofN (Gm.gn false G.rs G.ns.length) (Gm.fst G) rest l else 0):=aA rfl;generalize ai:Gm.ofG G l rest=r0 at *;clear ai ad;cases q:Gm.right G
 ·rw[q]at H1;have HX:Hid (r0=0):=aA (by rw[HE.o,q];rfl);clear q H2 H3 hr hf g hl aa HE
  go_enter Tryz.func147,Tryz.ntmps147
  go_wp2_with fail
  refine(H1.o _ f.o.below).mono ?_;rintro _ w2 ⟨rfl,hb⟩;have d:=aA (f.o.on hb);clear hb;go_wp2;go_ret
  exact⟨by rw[HX.o];rfl,d.o.below⟩
 ·have H2:=aA (H2.o q);rw[q]at H1;cases ha:l.all (Gm.has G)
  ·rw[ha]at H3;have HX:Hid (r0=0):=aA (by rw[HE.o,ha];simp);clear q H2 hr hf g hl aa HE ha
   go_enter Tryz.func147,Tryz.ntmps147
   go_wp2_with fail
   refine(H1.o _ f.o.below).mono ?_;rintro _ w2 ⟨rfl,hb⟩;have d:=aA (f.o.on hb);clear hb;go_wp2_with fail
   refine(H3.o _ d.o).mono ?_;rintro _ w3 ⟨rfl,hb⟩;have b:=aA (d.o.on hb);clear hb;go_wp2;go_ret
   exact⟨by rw[HX.o];rfl,b.o.below⟩
  ·rw[ha]at H3;have ab:=Gm.right_ok.1 q;have HX:Hid (r0=Gm.ofN (Gm.gn false G.rs G.ns.length) (Gm.fst G) rest l):=aA (by rw[HE.o,Ap ⟨q,ha⟩]);have ac:=fun z hz=>Gm.has_in ab (BP.1 ha z hz);have ae:=aA (fun(x:World) (h:Below w.heap.size w x) (g1 g5:Nat) (i:UBO x g1 (Gm.gn false G.rs G.ns.length)) (j:UBZ x g5 (Gm.fst G))=>zhC l rest (Gm.gn false G.rs G.ns.length) (Gm.fst G) A (some ⟨g1,0,none⟩) (some ⟨g5,0,none⟩) c G.ns.length G.ns.length B x.heap.size x.heap.size x (hr.below h hB) (i.rd0 i.lt) (j.rd j.lt) (Ag hB h.size) (Ad _) (Ad _) g (fun z hz=>(ac z hz).1) (fun z hz=>by rw[Gm.fst_len];exact(ac z hz).2.1) (by rw[Gm.fst_len,Gm.gn_len]) (Gm.fst_u32 ab) aa hl);rw[Gm.fst_len,Gm.gn_len]at ae;clear q hr hf g hl aa HE ha ac ab;generalize Gm.ofN (Gm.gn false G.rs G.ns.length) (Gm.fst G) rest l=vv at *
   go_enter Tryz.func147,Tryz.ntmps147
   go_wp2_with fail
   refine(H1.o _ f.o.below).mono ?_;rintro _ w2 ⟨rfl,hb⟩;have d:=aA (f.o.on hb);clear hb;go_wp2_with fail
   refine(H3.o _ d.o).mono ?_;rintro _ w3 ⟨rfl,hb⟩;have b:=aA (d.o.on hb);have q0:=b.o.c 0 _ rfl;have q1:=b.o.c 1 _ rfl;have q2:=b.o.c 2 _ rfl;have q3:=b.o.c 3 _ rfl;have am:w.heap.size<w3.heap.size:=b.o.size;clear hb;go_wp2_with fail
   refine(H2.o _ b.o.below).mono ?_;rintro _ w4 ⟨g1,g5,rfl,h1,h5,i,j,af⟩;have ag:=aA (b.o.on af);have aj:=aA (ae.o w4 ag.o.below g1 g5 i j);clear i j af h1 h5;go_wp2_with fail
   refine aj.o.mono ?_;rintro _ w5 ⟨rfl,hb⟩;have ak:=aA (ag.o.on hb);clear hb;go_wp2;go_ret
   exact⟨by rw[HX.o];rfl,ak.o.below⟩
namespace Gm
theorem and_bit (a n:Nat):(a &&& 2 ^ n≠0)↔a.testBit n=true:=by
 constructor
 ·intro h;cases hb:a.testBit n
  ·refine absurd (CM fun t=>?_) h;rw[DG,Ck,CV];by_cases e:n=t
   ·subst e;rw[hb];rfl
   ·rw[AM e,Bool.and_false]
  ·rfl
 ·intro h e
  have:=congrArg (fun z=>z.testBit n) e
  simp only[DG,Ck,CV,h]at this;simp at this
theorem ofG_lt {G:Gr} (l:List Int) {rest:Nat} (hr:rest<4294967296):ofG G l rest<4294967296:=by
 unfold ofG;split
 ·rename_i h
  have aa:=right_ok.1 h.1;exact U32.ofN (fst_u32 aa) hr fun z hz=>(has_in aa (BP.1 h.2 z hz)).1
 ·decide
end Gm
theorem RdI.dropA {w:World} {B c:Nat} {A:Option Addr} {l:List Int} (h:RdI w B A l) (hc:l.length<=c) (k:Nat):RdI w B (dropA A c k) (l.drop k):=by
 intro hn;rw[Bl]at hn;obtain⟨g,o,rfl,hg,aa⟩:=h (by omega);refine⟨g,o+k,?_,hg,fun j hj=>?_⟩
 ·have e:((⟨g,o,none⟩:Addr).add k)=⟨g,o+k,none⟩:=by unfold Addr.add;by_cases h0:k=0 <;> simp[h0]
  unfold Go.Proofs.YtjjbaehamplnaaaGreat.dropA;rw[AB (by omega),DF,e]
 ·rw[Bl]at hj;rw[show o+k+j=o+(k+j) by omega,aa (k+j) (by omega),L.gd_lt (by omega:k+j<l.length),L.gd_lt (by rw[Bl];exact hj),Dl]
theorem zaR (w:World) (A:Option Addr) (c n k:Nat) (hk:k<=n):(Instr.sliceAt 51 (.slice A n c) (some (.int .i64 k)) none none).run Tryz.prog w=.ok (.slice (dropA A c k) (n-k) (c-k)) w:=by
 rw[DJ _ _ _ _ _ _ (by kernel_rfl),run_slice_l _ _ _ _ _ (by kernel_rfl) .i64 (k:Int) (by omega) (by omega)];have hs:(sizeOf (Tryz.prog.elem 51)).run Tryz.prog w=.ok 1 w:=by kernel_rfl
 rw[hs];simp[Result.andThen,sliced,dropA]
theorem zgM (w:World) (A:Option Addr) (c n k:Nat) (hk:k<=c):(Instr.sliceAt 51 (.slice A n c) none (some (.int .i64 k)) none).run Tryz.prog w=.ok (.slice A k c) w:=by
 rw[DJ _ _ _ _ _ _ (by kernel_rfl),run_slice_h _ _ _ _ _ (by kernel_rfl) .i64 (k:Int) (by omega) (by omega)];have hs:(sizeOf (Tryz.prog.elem 51)).run Tryz.prog w=.ok 1 w:=by kernel_rfl
 rw[hs]
 have e:∀A:Option Addr,A.map (fun x=>x.add 0)=A:=fun A=>by
  cases A with
  | none=>rfl
  | some x=>simp[Addr.add]
 simp[Result.andThen,sliced,e]
namespace Lk
open Gm
noncomputable def tl1 (G:Gr) (r:List Int) (d:Nat):Nat×Bool:=(ofG G (r.drop (d+1)) (2 ^ G.ts.length) &&& (4294967295-2 ^ G.ts.length),decide (ofG G (r.drop (d+1)) (2 ^ G.ts.length) &&& 2 ^ G.ts.length≠0))
noncomputable def tlAt (G:Gr) (r:List Int) (d:Nat):Nat×Bool:=if r.getD d 0<0 then tl1 G r d else(0,false)
noncomputable def tlRow (G:Gr) (r:List Int):List (Nat×Bool):=(List.range r.length).map (tlAt G r)
noncomputable def tlAll (G:Gr):List (List (Nat×Bool)):=G.rs.map fun x=>tlRow G x.r
theorem tlRow_len (G:Gr) (r:List Int):(tlRow G r).length=r.length:=by simp[tlRow]
theorem tlAll_len (G:Gr):(tlAll G).length=G.rs.length:=by simp[tlAll]
theorem tlRow_at {G:Gr} (h:d<(tlRow G r).length):(tlRow G r)[d]=tlAt G r d:=by simp[tlRow]
theorem tlAll_at {G:Gr} (h:k<(tlAll G).length) (h2:k<G.rs.length):(tlAll G)[k]=tlRow G (G.rs[k]).r:=by simp[tlAll]
theorem tlAt_lt (G:Gr) (r:List Int) (d:Nat):(tlAt G r d).1<4294967296:=by
 unfold tlAt;split
 ·exact Nat.lt_of_le_of_lt Nat.and_le_right (Nat.lt_of_le_of_lt (Nat.sub_le _ _) (by decide))
 ·decide
theorem zkB {a t:Nat} (ha:a<4294967296) (hn:n<32):(a &&& (4294967295-2 ^ n)).testBit t=(a.testBit t&&decide (t≠n)):=by
 rw[DG];rcases Bz t 32 with ht|ht
 ·have h2:2 ^ n<2 ^ 32:=Nat.pow_lt_pow_right (by decide) hn
  have:=Nat.testBit_two_pow_sub_succ (x:=2 ^ n) (n:=32) h2 t
  rw[show 2 ^ 32-(2 ^ n+1)=4294967295-2 ^ n by omega]at this;rw[this,AJ ht,Cj,Ck];by_cases e:n=t
  ·subst e;simp
  ·have e2:¬t=n:=fun q=>e q.symm;simp[e,e2]
 ·have:a<2 ^ t:=Ao ha (by have:=B3 (n:=2) (by decide) ht;omega)
  rw[Dr this];simp
theorem zi3 {G:Gr} (aa:Ok G) {x:Rl} (hx:x∈G.rs) (k rest:Nat):ofG G (x.r.drop k) rest=ofN (gn false G.rs G.ns.length) (fst G) rest (x.r.drop k):=by
 have ha:(x.r.drop k).all (has G)=true:=BP.2 fun z hz=>by
  have:=(rule_in (aa.rr x hx)).2.2.2 z (CS hz)
  exact has_iff.2 ⟨this.1,this.2.1⟩
 unfold ofG;rw[Ap ⟨right_ok.2 aa,ha⟩]
theorem tl_of {G:Gr} (b:Ok G) (ht:G.ts.length<=24) {x:Rl} (hx:x∈G.rs) (hd:d<x.r.length) (h0:x.r[d]<0) (v:Nat):zlw (tlAt G x.r d) v=ofV G v (x.r.drop (d+1)):=by
 have hg:x.r.getD d 0=x.r[d]:=by rw[Ai,Ar hd];rfl
 have aa:∀z∈x.r.drop (d+1),z<G.ts.length:=fun z hz=>((rule_in (b.rr x hx)).2.2.2 z (CS hz)).1;have hr:(2:Nat) ^ G.ts.length<4294967296:=by have:=B3 (n:=2) (by decide) ht;omega
 have hs:=ofG_lt (G:=G) (x.r.drop (d+1)) hr
 have hn:∀t:Nat,(ofG G (x.r.drop (d+1)) (2 ^ G.ts.length)).testBit t=true↔Bg G t (x.r.drop (d+1))\/Nu G (x.r.drop (d+1))/\G.ts.length=t:=fun t=>by
  rw[zi3 b hx,zaw b.lin,Ck,AV]
 have ab:(ofG G (x.r.drop (d+1)) (2 ^ G.ts.length) &&& 2 ^ G.ts.length≠0)↔Nu G (x.r.drop (d+1)):=by
  rw[and_bit,hn]
  constructor
  ·rintro(h|h)
   ·have:=zjt b aa h;omega
   ·exact h.1
  ·exact fun h=>.inr ⟨h,rfl⟩
 have hb:∀t:Nat,(ofG G (x.r.drop (d+1)) (2 ^ G.ts.length) &&& (4294967295-2 ^ G.ts.length)).testBit t=true↔Bg G t (x.r.drop (d+1)):=fun t=>by
  rw[zkB hs (by omega),AQ,hn,AV]
  constructor
  ·rintro⟨h|h,h2⟩
   ·exact h
   ·exact absurd h.2.symm h2
  ·intro h
   have:=zjt b aa h
   exact⟨.inl h,by omega⟩
 unfold tlAt;rw[hg,Ap h0];unfold zlw tl1 ofV;simp only;refine CM fun t=>Bn.2 ?_;rw[zaw b.lin];by_cases h:Nu G (x.r.drop (d+1))
 ·rw[Ap (AJ (ab.2 h)),CA,CI,hb];exact⟨fun k=>k.imp id fun k=>⟨h,k⟩,fun k=>k.imp id (·.2)⟩
 ·rw[AB (fun k=>h (ab.1 (Cq k))),hb];exact⟨.inl,fun k=>k.resolve_right fun k=>h k.1⟩
end Lk
theorem zgn {α:Type} (l:List α) (x y:α) (n:Nat) (h:0<n):(l++List.replicate n x).set l.length y=(l++[y])++List.replicate (n-1) x:=by
 obtain⟨m,rfl⟩:∃m,n=m+1:=⟨n-1,by omega⟩
 rw[CY _ _ (Ad _),DW,CQ,D4,BW];rfl
theorem zj8 {α:Type} (xs:List α) (z:α) (d:Nat) (h:d<xs.length):(xs.take d++List.replicate (xs.length-d) z).set d xs[d]=xs.take (d+1)++List.replicate (xs.length-(d+1)) z:=by
 have e:=zgn (xs.take d) z xs[d] (xs.length-d) (by omega);rw[Bc,DB (by omega)]at e;rw[e,AO h,show xs.length-d-1=xs.length-(d+1) by omega]
def bV (w:World) (At:Option Addr) (G:Gm.Gr):Prop:=∃g rs,At=some ⟨g,0,none⟩/\rs.map (·.1)=Lk.tlAll G/\UBQ 224 (rwF (α:=Nat×Bool)) w g rs/\∀r∈rs,bL 226 2 tlF w 0 w.heap.size r
theorem bV.rd {At:Option Addr} (h:bV w At G):RdM 2 tlF w w.heap.size At (Lk.tlAll G):=by
 obtain⟨g,rs,rfl,h1,h2,h3⟩:=h
 have:=UBQ.rdM h2 h2.lt h3
 rw[h1]at this;exact this
theorem bV.keep {w w':World} {At:Option Addr} {G:Gm.Gr} (h:bV w At G) (hs:w.heap.size<=w'.heap.size) (hk:∀(g:Nat) (cur:Array Value) (T:TypeId),(T=224\/T=226)->w.heap[g]?=some (.cells cur T (0,0))->w'.heap[g]?=some (.cells cur T (0,0))):bV w' At G:=by
 obtain⟨g,rs,h0,h1,h2,h3⟩:=h;exact⟨g,rs,h0,h1,hk _ _ _ (.inl rfl) h2,fun r hr=>((h3 r hr).keep fun g cur _ _ hc=>hk g cur _ (.inr rfl) hc).more hs⟩
theorem bV.below {At:Option Addr} (h:bV w At G) (hb:Below w.heap.size w w'):bV w' At G:=h.keep hb.size fun _ _ _ _ hc=>aC hb hc
theorem zfY (v:Value) (G:Gm.Gr) (B:Nat) (w:World) (hg:aQ w B v G) (hf:Gm.Fit G) (ar:Gm.Ok G) (hB:B<=w.heap.size) (ht:G.ts.length<=24) :
  Calls Tryz.prog 97 #[v] w fun e w'=>∃A c,e=.returned (.slice A (Lk.tlAll G).length c)/\bV w' A G/\Below w.heap.size w w':=by
 have hr:(2:Nat) ^ G.ts.length<4294967296:=by have:=B3 (n:=2) (by decide) ht;omega
 have bi:=aA (fun(y:World) (h:Below w.heap.size w y) (l:List Int) (A:Option Addr) (c:Nat) (hl:RdI y B A l) (bZ:∀z∈l,Gm.In z) (b0:l.length<=9223372036854775807)=>zkY v G l (2 ^ G.ts.length) A c B y (hg.below h hB) hf (Ag hB h.size) hl bZ b0 hr);have ae:=aA hr;have bj:=aA (show S.bit (G.ts.length:Int)=2 ^ G.ts.length from S.bit_nat (by omega));generalize hP:(2:Nat) ^ G.ts.length=P at bi ae bj hr;have HP:=aA hP;clear hP;have au:=aA (fun(k:Nat) (hk:k<G.rs.length)=>Gm.rule_in (ar.rr _ (Ay hk)));have b1:=aA ar.r40;have b3:=aA (fun(k:Nat) (hk:k<G.rs.length)=>hf.r _ (Ay hk));have HB:=aA hB;have af:=aA (Lk.tlAll_len G);obtain⟨AT,cT,AN,cN,AR,cR,rfl,⟨cu,cv⟩,⟨cw,cx⟩,⟨cy,cz⟩,hT,hN,hR⟩:=hg;have HR:=aA hR;obtain⟨wb,ag⟩:∃y,y=w.alloc (.cells #[.slice AT G.ts.length cT,.slice AN G.ns.length cN,.slice AR G.rs.length cR,.int .i64 G.st] 26):=⟨_,rfl⟩
 have bk:Hid (Below w.heap.size w wb):=aA (by rw[ag];exact(Aq _ _).alloc (Ad _) _);have N:wb.heap[w.heap.size]?=some (.cells #[.slice AT G.ts.length cT,.slice AN G.ns.length cN,.slice AR G.rs.length cR,.int .i64 G.st] 26 (0,0)):=by rw[ag];exact Az w _
 have b4:=aA N;have av:=aA (Ac.1 N).1;have x0:=aM N;have x2:=bF N;have cA:(G.rs.length:Int)<=1000000:=by have:=b1.o;omega
 clear hR hT hN N hf ar hB ht hr
 go_enter Tryz.func97,Tryz.ntmps97
 go_upto_region 1 with fail
 rw[<-ag];clear ag;go_wp2_with fail
 refine(zcb _ _).mono ?_;rintro _ w1 ⟨rfl,b5⟩;subst b5;rw[bj.o];go_upto_region 3 with(at_make;refine zb8 (m:=1) (f:=rwF (α:=Nat×Bool)) rfl (.tmp 16) (.tmp 16) _ rfl Tryz.underlying169 _ 24 zkO (by decide) (by decide) (by decide) (([],none,0):RW (Nat×Bool)) rfl G.rs.length rfl rfl (by omega) ?_;intro w2 ah ai)
 obtain⟨gT,aj⟩:∃g,g=w1.heap.size:=⟨_,rfl⟩
 rw[<-aj]at ah;rw[<-aj];have b6:Hid (UBQ 224 rwF w2 gT (([]:List (RW (Nat×Bool)))++List.replicate (G.rs.length-0) ([],none,0))):=aA ah;have b7:Hid (Below w.heap.size w w2):=aA (bk.o.trans (ai.mono bk.o.size));have bl:=aA (aC ai b4.o);have aw:Hid (w.heap.size<gT):=aA (by rw[aj];exact av.o);have b8:=aA ah.lt;have b9:Hid (([]:List (RW (Nat×Bool))).map (·.1)=(Lk.tlAll G).take 0):=aA (by simp);have cB:=aA ai.size;have x22:=bF bl.o;clear ah ai aj x0 x2;go_wp2;clear x22;go_loopw [21] (fun vi wr=>∃(i:Nat) (rs:List (RW (Nat×Bool))),i<=G.rs.length/\vi=.int .i64 i/\Hid (rs.map (·.1)=(Lk.tlAll G).take i)/\Hid (∀r∈rs,bL 226 2 tlF wr (gT+1) wr.heap.size r)/\Hid (UBQ 224 rwF wr gT (rs++List.replicate (G.rs.length-i) ([],none,0)))/\Hid (wr.heap[w.heap.size]?=some (.cells #[.slice AT G.ts.length cT,.slice AN G.ns.length cN,.slice AR G.rs.length cR,.int .i64 G.st] 26 (0,0)))/\Hid (Below w.heap.size w wr)) (fun vi _=>G.rs.length-(intOf vi).toNat)
 case atStart=>exact⟨0,[],AX _,rfl,b9,aA (by simp),b6,bl,b7⟩
 case round =>
  obtain⟨i,rs,hi,rfl,ax,bm,HU,HX,HW⟩:=hrel;rename World=>wr;by_cases E:i<G.rs.length
  ·obtain⟨g,o,rfl,ca,hc⟩:=HR.o (by omega);obtain⟨k0,⟨A',c',k1,bn,_,bo⟩,k2⟩:=hc i E;have ay:g<w.heap.size:=Ao ca HB.o;have k0:=(HW.o.cell (p:=⟨g,o+i*3,none⟩) ay).trans k0;have k1:=(HW.o.cell (p:=⟨g,o+i*3+1,none⟩) ay).trans k1;have k2:=(HW.o.cell (p:=⟨g,o+i*3+2,none⟩) ay).trans k2;have bp:=aA bo;have cb:=aA bn;have bq:=aA (au.o i E);have cc:=aA (b3.o i E)
   have cd:Hid ((Lk.tlAll G).take (i+1)=(Lk.tlAll G).take i++[Lk.tlRow G (G.rs[i]).r]):=aA (by
    rw[AO (by rw[af.o];exact E),Lk.tlAll_at _ E])
   have b:=aA (Lk.tlRow_len G (G.rs[i]).r);have ce:=aA (fun d (h:d<(Lk.tlRow G (G.rs[i]).r).length)=>Lk.tlRow_at (G:=G) (r:=(G.rs[i]).r) h)
   have ak:rs.length=i:=by
    have:=congrArg List.length ax.o
    rw[Bb,Bc,af.o]at this;omega
   obtain⟨wi,al⟩:∃y,y=wr.alloc (.cells #[.int .i64 (G.rs[i]).l,.slice A' (G.rs[i]).r.length c',.int .i64 (G.rs[i]).p] 74):=⟨_,rfl⟩
   have u:Hid (Below wr.heap.size wr wi):=aA (by rw[al];exact(Aq _ _).alloc (Ad _) _);have az:wi.heap[wr.heap.size]?=some (.cells #[.int .i64 (G.rs[i]).l,.slice A' (G.rs[i]).r.length c',.int .i64 (G.rs[i]).p] 74 (0,0)):=by rw[al];exact Az wr _
   have aa:=aA az;have y1:=aR az;have cC:(((G.rs[i]).r.length:Nat):Int)<=6:=by have:=bq.o.1;omega
   have br:Hid ((G.rs[i]).r.length<=6):=aA bq.o.1;have bs:=aA E;have cD:((i:Nat):Int)<((G.rs.length:Nat):Int):=by omega
   have F:Hid (gT<wr.heap.size):=aA HU.o.lt;clear hc bo bn az;generalize (G.rs[i]).l=lf at *;generalize (G.rs[i]).r=r at *;generalize (G.rs[i]).p=rp at *;go_upto_region 6 with fail
   rw[<-al];clear al k0 k1 k2;go_upto_region 7 with(at_make;refine zb8 (m:=2) (f:=tlF) rfl (.tmp 30) (.tmp 30) _ rfl Tryz.underlying224 _ 8 zmm (by decide) (by decide) (by decide) ((0,false):Nat×Bool) rfl r.length rfl rfl (by omega) ?_;intro wm bu bv;have D:=aA (BJ bu bv);clear bu bv;have O:=aA ((HU.o.below u.o F.o).below D.o.2 (Ao F.o u.o.size));have cm:=O.o.cell zao i 0 (by rw[AU,Ea,ak];omega) _ rfl;rw[Dd,Cd]at cm;have fm:=O.o.frozen i;have lm:=O.o.lt)
   have U:Hid (Below wi.heap.size wi wm):=aA D.o.2;have D:=aA D.o.1;obtain⟨gr,am⟩:∃g,g=wi.heap.size:=⟨_,rfl⟩
   rw[<-am]at D;rw[<-am];have ao:Hid (gT≠gr):=aA (by have:=F.o;have:=u.o.size;omega)
   have cf:Hid (UBQ 226 tlF (wm.setCell ⟨gT,i,none⟩ (.slice (some ⟨gr,0,none⟩) r.length r.length)) gr ((Lk.tlRow G r).take 0++List.replicate ((Lk.tlRow G r).length-0) (0,false))):=aA (by
    rw[Ej,De,Nat.sub_zero,b.o];exact D.o.far (fun e=>ao.o e.symm) _)
   have bw:Hid (Below w.heap.size w (wm.setCell ⟨gT,i,none⟩ (.slice (some ⟨gr,0,none⟩) r.length r.length))):=aA (((HW.o.trans (u.o.mono HW.o.size)).trans (U.o.mono (Ag HW.o.size u.o.size))).setCell (CB aw.o) _);have V:=aA (O.o.set1 i (Lk.tlRow G r,some ⟨gr,0,none⟩,r.length) (some ⟨gr,0,none⟩) r.length r.length rfl b.o rfl);have a0:Hid ((wm.setCell ⟨gT,i,none⟩ (.slice (some ⟨gr,0,none⟩) r.length r.length)).heap[w.heap.size]?=some (.cells #[.slice AT G.ts.length cT,.slice AN G.ns.length cN,.slice (some ⟨g,o,none⟩) G.rs.length cR,.int .i64 G.st] 26 (0,0))):=aA ((AH _ _ _ _ (by have:=aw.o;simp only;omega)).trans (aC U.o (aC u.o HX.o)));have a1:Hid ((wm.setCell ⟨gT,i,none⟩ (.slice (some ⟨gr,0,none⟩) r.length r.length)).heap[wr.heap.size]?=some (.cells #[.int .i64 lf,.slice A' r.length c',.int .i64 rp] 74 (0,0))):=aA ((AH _ _ _ _ (by have:=F.o;simp only;omega)).trans (aC U.o aa.o))
   have a2:Hid ((rs++List.replicate (G.rs.length-i) ([],none,0)).set i (Lk.tlRow G r,some ⟨gr,0,none⟩,r.length)=(rs++[((Lk.tlRow G r,some ⟨gr,0,none⟩,r.length):RW (Nat×Bool))])++List.replicate (G.rs.length-(i+1)) ([],none,0)):=aA (by
    have:=zgn rs ([],none,0) ((Lk.tlRow G r,some ⟨gr,0,none⟩,r.length):RW (Nat×Bool)) (G.rs.length-i) (by have:=bs.o;omega)
    rw[ak]at this;rw[this,show G.rs.length-i-1=G.rs.length-(i+1) by omega])
   rw[a2.o]at V;have cg:Hid (∀x∈rs,bL 226 2 tlF (wm.setCell ⟨gT,i,none⟩ (.slice (some ⟨gr,0,none⟩) r.length r.length)) (gT+1) wr.heap.size x):=aA (fun x hx=>(((bm.o x hx).below u.o (Ad _)).below U.o u.o.size).keep (fun g1 cur h1 h2 h3=>(AH _ _ _ _ (by simp only;omega)).trans h3));have H:Hid (wr.heap.size<gr):=aA (by rw[am];exact(Ac.1 aa.o).1);generalize ch:wm.setCell ⟨gT,i,none⟩ (.slice (some ⟨gr,0,none⟩) r.length r.length)=wn at *;clear cm fm lm am ch D O U y1;have y1:=aR a1.o;go_wp2;clear y1;go_loopw [36] (fun vd wy=>∃d:Nat,d<=r.length/\vd=.int .i64 d/\Hid (UBQ 226 tlF wy gr ((Lk.tlRow G r).take d++List.replicate ((Lk.tlRow G r).length-d) (0,false)))/\Hid (wn.grownBy wy (some gr))) (fun vd _=>r.length-(intOf vd).toNat)
   case atStart=>exact⟨0,AX _,rfl,cf,aA (AI _ _)⟩
   case round =>
    obtain⟨d,hd,rfl,ap,HG⟩:=hrel;rename World=>wy;have I:=aA ((HG.o.block w.heap.size (Ac.1 a0.o).1 (fun e=>by injection e with e;have:=H.o;have:=aw.o;have:=F.o;omega)).trans a0.o);have a3:=aA ((HG.o.block wr.heap.size (Ac.1 a1.o).1 (fun e=>by injection e with e;have:=H.o;omega)).trans a1.o);have J:Hid (Below w.heap.size w wy):=aA (zaa bw.o HG.o (by have:=H.o;have:=HW.o.size;omega) bw.o.size);by_cases C:d<r.length
    ·obtain⟨gq,oq,rfl,ci,cj⟩:=bp.o (by omega);have z0:=(J.o.cell (p:=⟨gq,oq+d,none⟩) (Ao ci HB.o)).trans (cj d C);rw[L.gd_lt C]at z0;have a4:=aA (ce.o d (by rw[b.o];exact C));have ck:=aA (zj8 (Lk.tlRow G r) (0,false) d (by rw[b.o];exact C));have a5:=aA C
     have cl:Hid ((Lk.tlRow G r).take d++List.replicate ((Lk.tlRow G r).length-d) (0,false)=(Lk.tlRow G r).take d++(0,false)::List.replicate ((Lk.tlRow G r).length-(d+1)) (0,false)):=aA (by
      rw[show(Lk.tlRow G r).length-d=((Lk.tlRow G r).length-(d+1))+1 by rw[b.o];omega,CQ])
     have cE:((d:Nat):Int)<((r.length:Nat):Int):=by omega
     have ab:IntKind.i64.wrap (((d:Nat):Int)+1)=((d+1:Nat):Int):=by rw[Cr _ (by omega)];omega
     by_cases hz:r[d]<0
     ·have X:Hid (Lk.tlAt G r d=(Gm.ofG G (r.drop (d+1)) (P) &&& (4294967295-P),decide (Gm.ofG G (r.drop (d+1)) (P) &&& P≠0))):=aA (by
       rw[<-HP.o];unfold Lk.tlAt;exact Ap (by rw[Ai,Ar C,Bm];exact hz))
      obtain⟨j,hj⟩:∃j,d+1=j:=⟨_,rfl⟩
      rw[hj]at ab X;have SL:=fun w=>zaR w (some ⟨gq,oq,none⟩) c' r.length (j) (by omega);have cn:Hid (RdI wy B (dropA (some ⟨gq,oq,none⟩) c' (j)) (r.drop (j))):=aA ((bp.o.below J.o HB.o).dropA cb.o (j));have co:=aA (fun z (h:z∈r.drop (j))=>cc.o.2.2 z (CS h));have bx:Hid ((r.drop (j)).length=r.length-(j)):=aA Bl;have ac:=aA (fun(y:World) (h:Below wy.heap.size wy y)=>bi.o y (J.o.trans (h.mono J.o.size)) (r.drop (j)) (dropA (some ⟨gq,oq,none⟩) c' (j)) (c'-(j)) (cn.o.below h (Ag HB.o J.o.size)) co.o (by rw[bx.o];have:=br.o;omega));rw[bx.o]at ac;have bz:=aA (Gm.ofG_lt (G:=G) (r.drop j) ae.o);have HJ:=aA hj;clear hj;generalize Gm.ofG G (r.drop j) (P)=s at *;have aq:decide (r[d]<0)=true:=AJ hz;generalize r[d]=z at *;have y1:=aR a3.o;go_wp2_with fail
      refine(za8 _ _).mono ?_;rintro _ w5 ⟨rfl,a6⟩;subst a6;rw[aq];go_upto_region 11 with fail
      clear y1 z0 hz aq;have cF:Hid (w.heap.size<w5.heap.size/\wr.heap.size<w5.heap.size):=aA ⟨(Ac.1 I.o).1,(Ac.1 a3.o).1⟩;have q0:=fun y:Calm.On w5.heap.size w5=>aM (aC y.2 I.o);have q1:=fun y:Calm.On w5.heap.size w5=>aR (aC y.2 I.o);have q2:=fun y:Calm.On w5.heap.size w5=>bF (aC y.2 I.o);have q3:=fun y:Calm.On w5.heap.size w5=>bQ (aC y.2 I.o);have q4:=fun y:Calm.On w5.heap.size w5=>aR (aC y.2 a3.o);have bD:=zbf w5;refine CalmN.region_tree (fun x=>∃z:Calm.On w5.heap.size w5,x=z.1) (.one [0,1,2,3,4,5,6] 7 (.fin [8])) (by kernel_rfl) (by kernel_rfl) (fun _ _ d _ _ h=>by cases d <;> exact h) bD.o ?_;simp only[CalmN.wpT,CalmN.wpSt,CalmN.pickOps,Am,Af,Ah];repeat (go_big_quiet_step (fail))
      refine Aj ?_;intro KK bM;rw[Ap (by rfl)];go_wp2_with fail
      refine(ac.o w5.drew (aB (Aq _ _) 1)).mono ?_;rintro _ wz ⟨rfl,M⟩;have M:Below w5.heap.size w5 wz:=(aB (Aq _ w5) 1).trans M;have bT:=zi2 M;have t:=aA (ap.o.below M ap.o.lt);have bX:Hid (wn.grownBy wz (some gr)):=aA (zae HG.o (zab M _));have a9:Hid (wz.heap[gT]?=wn.heap[gT]?):=aA (bX.o.block gT V.o.lt (fun e=>by injection e with e;exact ao.o e));clear M q0 q1 q2 q3 q4 bD SL ab;go_wp2_with fail
      refine bM _ _ bT.o _ (fun _ h=>h) bT.o ?_;clear bM;repeat (go_big_quiet_step (fail))
      refine Aj ?_
      have cT2:wz.cell? ⟨gT,i,none⟩=some (.slice (some ⟨gr,0,none⟩) r.length r.length):=by
       have:=UBQ.cell (m:=1) (f:=rwF) (show UBQ 224 rwF wz gT (rs++[((Lk.tlRow G r,some ⟨gr,0,none⟩,r.length):RW (Nat×Bool))]++List.replicate (G.rs.length-(i+1)) ([],none,0)) from a9.o.trans V.o) zao i 0 (by rw[AU,AU,BQ,ak];omega) (.slice (some ⟨gr,0,none⟩) r.length r.length) (by
        simp only[BW,D7];rw[Ep (by omega)];simp only[ak,DW,List.getElem_cons_zero];unfold rwF;rw[b.o];rfl)
       rw[Dd,Cd]at this;exact this
      have ba:d<((Lk.tlRow G r).take d++List.replicate ((Lk.tlRow G r).length-d) (0,false)).length:=by
       rw[AU,Bc,Ea,b.o];have:=a5.o;omega
      have bb:((Lk.tlRow G r).take d++List.replicate ((Lk.tlRow G r).length-d) ((0,false):Nat×Bool))[d]=(0,false):=by
       rw[Ep (by rw[Bc];omega),List.getElem_replicate]
      have c0:wz.cell? ⟨gr,d*2,none⟩=some (.int .u32 0):=t.o.cell zcT d 0 ba _ (by rw[bb];rfl);have c1:wz.cell? ⟨gr,d*2+1,none⟩=some (.bool false):=t.o.cell zcT d 1 ba _ (by rw[bb];rfl);have f0:=t.o.frozen (d*2);have f1:=t.o.frozen (d*2+1);have lz:=t.o.lt;have cG:=u32_andNot_nat s (P) bz.o ae.o;have cp:=u32_and_nat s (P) bz.o ae.o
      have cH:(((s &&& P:Nat):Int) != 0)=decide (s &&& P≠0):=by
       rw[Bn,Du,AV];omega
      have ad:=aA (t.o.set2 zcT d (Lk.tlAt G r d) (.int .u32 ((s &&& (4294967295-P):Nat):Int)) (.bool (decide (s &&& P≠0))) (by rw[X.o];rfl));rw[<-a4.o,ck.o]at ad;have cq:Hid (wn.grownBy ((wz.setCell ⟨gr,d*2,none⟩ (.int .u32 ((s &&& (4294967295-P):Nat):Int))).setCell ⟨gr,d*2+1,none⟩ (.bool (decide (s &&& P≠0)))) (some gr)):=aA (aF (aF bX.o _ _) _ _);clear ba bb X a4;generalize s &&& (4294967295-P)=bg at *;generalize s &&& P=an at *;generalize decide (an≠0)=nb at *;go_wp2;go_roundw
      case rel=>exact⟨d+1,a5.o,by go_num,ad,cq⟩
      case measure=>simp[intOf];omega
     ·have X:Hid (Lk.tlAt G r d=(0,false)):=aA (by
       unfold Lk.tlAt;exact AB (by rw[Ai,Ar C,Bm];exact hz))
      have aq:decide (r[d]<0)=false:=AM hz
      have cr:Hid (UBQ 226 tlF wy gr ((Lk.tlRow G r).take (d+1)++List.replicate ((Lk.tlRow G r).length-(d+1)) (0,false))):=aA (by
       have:=ap.o
       rw[cl.o]at this;rw[AO (by rw[b.o];exact C),a4.o,X.o,BW];exact this)
      generalize r[d]=z at *;go_wp2_with fail
      refine(za8 _ _).mono ?_;rintro _ w5 ⟨rfl,a6⟩;subst a6;rw[aq];go_wp2;go_roundw
      case rel=>exact⟨d+1,a5.o,by go_num,cr,HG⟩
      case measure=>simp[intOf];omega
    ·obtain rfl:d=r.length:=by omega
     have bc:Hid (UBQ 226 tlF wy gr (Lk.tlRow G r)):=aA (by
      have:=ap.o
      rw[<-b.o,Bo,DW,Et,Co]at this;exact this)
     have cs:=aA ((show w.heap.size<wn.heap.size from(Ac.1 a0.o).1));have bd:Hid (UBQ 224 rwF wy gT (rs++[((Lk.tlRow G r,some ⟨gr,0,none⟩,r.length):RW (Nat×Bool))]++List.replicate (G.rs.length-(i+1)) ([],none,0))):=aA ((HG.o.block gT V.o.lt (fun e=>by injection e with e;exact ao.o e)).trans V.o)
     have bf:Hid (∀x∈rs++[((Lk.tlRow G r,some ⟨gr,0,none⟩,r.length):RW (Nat×Bool))],bL 226 2 tlF wy (gT+1) wy.heap.size x):=aA (fun x hx=>by
      rcases Bj.1 hx with hx|hx
      ·exact(((cg.o x hx).keep fun g1 cur h1 h2 h3=>(HG.o.block g1 (Ac.1 h3).1 (fun e=>by injection e with e;have:=H.o;omega)).trans h3)).more (by have:=H.o;have:=bc.o.lt;omega)
      ·rw[AF.1 hx];exact⟨by rw[b.o];exact Ad _,by have:=br.o;simp only;omega,bc.o.rowG zcT (by have:=ao.o;have:=F.o;have:=H.o;omega) bc.o.lt⟩)
     have bh:Hid ((rs++[((Lk.tlRow G r,some ⟨gr,0,none⟩,r.length):RW (Nat×Bool))]).map (·.1)=(Lk.tlAll G).take (i+1)):=aA (by rw[AW,ax.o,cd.o];rfl);go_wp2;go_roundw
     case rel=>exact⟨i+1,rs++[((Lk.tlRow G r,some ⟨gr,0,none⟩,r.length):RW (Nat×Bool))],bs.o,by go_num,bh,bf,bd,I,J⟩
     case measure=>simp[intOf];omega
  ·obtain rfl:i=G.rs.length:=by omega
   rw[DW,Et,Co]at HU;have HE:Hid ((Lk.tlAll G).take G.rs.length=Lk.tlAll G):=aA (by rw[<-af.o,Bo]);go_wp2;go_ret
   refine⟨some ⟨gT,0,none⟩,G.rs.length,by rw[af.o];rfl,?_,HW.o⟩;exact⟨gT,rs,rfl,ax.o.trans HE.o,HU.o,fun r hr=>(bm.o r hr).less (AX _)⟩
theorem zl6 {y:World} {T:Nat} {tl:List ((Int×Int)×Value)} (h:Mw.MapIs wkE y T tl) (x:Int×Int) (hx:Gm.In x.1/\Gm.In x.2) (hj:Mw.asc tl x=some (.int .i64 j)) :
  (Instr.lookup 171 (.map (some T)) (.agg #[.int .i64 x.1,.int .i64 x.2]) false).run Tryz.prog y=.ok (.int .i64 j) y:=by
 have:=Mw.run_look (E:=wkE) h wkK (t:=171) Tryz.underlying171 (z:=.int .i64 0) (by kernel_rfl) (x:=x) hx false
 rw[hj]at this;exact this
structure WkG (G:Gm.Gr) (K:List (List Au.It)) (E:List (List (Int×Int))) (tl:List ((Int×Int)×Value)):Prop where
 hi:Au.Inv G K E
 hE:E.length=K.length
 hok:Gm.Ok G
 hp:∀x∈G.rs,Gm.Al true G.rs x.r
 ht:G.ts.length<=24
 hn:G.ns.length<=40
 hK:K.length<=300
 tw:∀i s j,Au.Ed E i s j->Mw.asc tl ((i:Int),s)=some (.int .i64 (j:Int))
abbrev WkA (G:Gm.Gr) (w:World) (base R gc T M D:Nat) (AT AN AR At:Option Addr) (cT cN cR ct:Nat) (tl:List ((Int×Int)×Value)) (MM DD:Lk.MP) (st:List (Int×Int)):Prop :=
 WkSt w base R gc T M D (.slice AT G.ts.length cT) (.slice AN G.ns.length cN) (.slice AR G.rs.length cR) (.int .i64 G.st) (.slice At (Lk.tlAll G).length ct) tl MM DD st
theorem bV.keepG {R gc T:Nat} {g0 g1 g2 g3 tv:Value} {tl:List ((Int×Int)×Value)} {MM DD:Lk.MP} {At:Option Addr} (h:bV w At G) (k:KeepG gc M D w w') (hs:WkSt w base R gc T M D g0 g1 g2 g3 tv tl MM DD st):bV w' At G:=by
 obtain⟨v,h1,h2⟩:=hs.v;refine h.keep k.size fun g cur ty ab hc=>?_;have aa:ty≠227/\ty≠176:=by rcases ab with rfl|rfl <;> exact⟨by decide,by decide⟩
 refine k.row hc (fun e=>?_) (fun e=>?_) (fun e=>?_) (fun e=>?_)
 ·rw[e,h1]at hc;injection hc with hc;injection hc with _ hc _;exact aa.1 hc.symm
 ·rw[e]at hc;exact hs.m.is.not_cells hc
 ·rw[e]at hc;exact hs.d.is.not_cells hc
 ·rw[zbu (show w.cell? ⟨gc,0,none⟩=some v from Aw w gc 0 _ _ _ h1)]at e;rcases zaf h2 hc (fun cur e=>by injection e with _ e _;exact aa.2 e) with q|q
  ·rw[q]at e;cases e
  ·exact q e
def znY (G:Gm.Gr) (K:List (List Au.It)) (E:List (List (Int×Int))) (base R gc T M D:Nat) (g0 g1 g2 g3 tv:Value) (tl:List ((Int×Int)×Value)) (MM DD:Lk.MP) (st:List (Int×Int)) (w w':World):Prop :=
 ∃MM' DD' st',WkSt w' base R gc T M D g0 g1 g2 g3 tv tl MM' DD' st'/\Lk.WI G K E MM' DD' st'/\Lk.On MM DD st MM' DD' st'/\Below base w w'/\KeepG gc M D w w'
theorem zhz (G:Gm.Gr) (K:List (List Au.It)) (E:List (List (Int×Int))) (w:World) (base B R gc T M D:Nat) (AT AN AR At:Option Addr) (cT cN cR ct:Nat) (tl:List ((Int×Int)×Value)) (MM DD:Lk.MP) (st:List (Int×Int)) (q:Nat) (s:Int) (hG:WkG G K E tl) (hg:aQ w B (.agg #[.slice AT G.ts.length cT,.slice AN G.ns.length cN,.slice AR G.rs.length cR,.int .i64 G.st]) G) (hB:B<=base) (cm:bV w At G) (h:WkSt w base R gc T M D (.slice AT G.ts.length cT) (.slice AN G.ns.length cN) (.slice AR G.rs.length cR) (.int .i64 G.st) (.slice At (Lk.tlAll G).length ct) tl MM DD st) (hw:Lk.WP G K E q s (Lk.gN MM ((q:Int),s)) MM DD st) (hs:-1-s<G.ns.length) (hc:st.length<=Lk.cntM MM) :
  Calls Tryz.prog 150 #[.agg (wrC (.slice AT G.ts.length cT) (.slice AN G.ns.length cN) (.slice AR G.rs.length cR) (.int .i64 G.st) (.slice At (Lk.tlAll G).length ct) T M D),itV ((q:Int),s),.func (Fn.func 148) #[] #[.pointer (some ⟨R,0,none⟩),.pointer (some ⟨gc,0,none⟩)]] w fun e w'=>e=.returned (.tuple #[]) /\
   znY G K E base R gc T M D (.slice AT G.ts.length cT) (.slice AN G.ns.length cN) (.slice AR G.rs.length cR) (.int .i64 G.st) (.slice At (Lk.tlAll G).length ct) tl MM DD st w w':=by
 have cQ:=hG.hok.r40;have X:Gm.In s:=by have:=hw.s1;have:=hG.hn;unfold Gm.In;omega
 have br:Gm.In (q:Int):=by have:=hw.q1;have:=hG.hK;unfold Gm.In;omega
 have HN:=aA (fun w=>ze8 s X.1 X.2 w);obtain⟨_,_,_,_,_,_,e0,⟨dB,dC⟩,⟨dD,dE⟩,⟨dF,dG⟩,_,_,hR⟩:=hg;injection e0 with e0;simp only[Array.mk.injEq,EB,Value.slice.injEq,true_and,and_true]at e0;obtain⟨⟨e1,e2⟩,⟨e3,e4⟩,e5,e6⟩:=e0;subst e1 e2 e3 e4 e5 e6;have HR:=aA hR;have HB:=aA hB;have I:=aA (Lk.tlAll_len G);obtain⟨wb,Z⟩:∃y,y=(w.alloc (.cells (wrC (.slice AT G.ts.length cT) (.slice AN G.ns.length cN) (.slice AR G.rs.length cR) (.int .i64 G.st) (.slice At (Lk.tlAll G).length ct) T M D) 174)).alloc (.cells #[.int .i64 (q:Int),.int .i64 s] 176):=⟨_,rfl⟩
 have cn:Hid (aW 174 176 w (wrC (.slice AT G.ts.length cT) (.slice AN G.ns.length cN) (.slice AR G.rs.length cR) (.int .i64 G.st) (.slice At (Lk.tlAll G).length ct) T M D) #[.int .i64 (q:Int),.int .i64 s] wb):=aA (by rw[Z];exact aW.start _ _ _ _ _);have ap:=aA cn.o.below;have HZ:=aA cn.o.size;have HH:=aA (h.below ap.o);have J:=aA h.base_le;have cS:=aA (cm.below ap.o);have cU:Hid (KeepG gc M D w wb):=aA (.below ap.o h.gcl);have f:=aA (BJ h.m.lt (BJ h.d.lt (BJ h.gcl h.t.lt)))
 have aq:Hid (wb.heap[w.heap.size]?=some (.cells (wrC (.slice AT G.ts.length cT) (.slice AN G.ns.length cN) (.slice AR G.rs.length cR) (.int .i64 G.st) (.slice At (Lk.tlAll G).length ct) T M D) 174 (0,0))):=aA (by
  rw[Z,BI _ _ _ (by simp)];exact Az w _)
 have bf:Hid (wb.heap[w.heap.size+1]?=some (.cells #[.int .i64 (q:Int),.int .i64 s] 176 (0,0))):=aA (by
  have:=Az (w.alloc (.cells (wrC (.slice AT G.ts.length cT) (.slice AN G.ns.length cN) (.slice AR G.rs.length cR) (.int .i64 G.st) (.slice At (Lk.tlAll G).length ct) T M D) 174)) (.cells #[.int .i64 (q:Int),.int .i64 s] 176)
  rw[Z]
  simpa using this)
 have ar:Hid (∀k,bU wb gc=some k->k<w.heap.size):=aA (fun k hk=>h.own k (by
  unfold bU at hk ⊢
  rwa [ap.o.cell (p:=⟨gc,0,none⟩) h.gcl]at hk))
 have lk0:=zkF HH.o.m.is ((q:Int),s) ⟨br,X⟩;have x6:=zjG aq.o;have x2:=bF aq.o;have y0:=aM bf.o;have y1:=aR bf.o;have HGG:=aA hG;have co:=aA hw;have HC:=aA hc;have dH:=aA X;have dI:=aA br;have dJ:(G.rs.length:Int)<=40:=by omega
 obtain⟨v,hv⟩:∃v,v=Lk.gN MM ((q:Int),s):=⟨_,rfl⟩
 rw[<-hv]at co lk0;clear hG hB cm h hw hc hR X br hv hs
 go_enter Tryz.func150,Tryz.ntmps150
 go_upto_region 1 with fail
 rw[<-Z];clear Z;go_wp2;have cV:Hid (Below base w wb):=aA (ap.o.mono J.o);have cW:Hid (Lk.PdK G E MM DD q s v 0):=aA (Lk.PdK.zero _ _ _ _ _);clear lk0 x6 x2 y0 y1;go_loopw [20] (fun vi wr=>∃(k:Nat) (M1 D1:Lk.MP) (s1:List (Int×Int)),k<=G.rs.length/\vi=.int .i64 k/\Hid (WkA G wr base R gc T M D AT AN AR At cT cN cR ct tl M1 D1 s1)/\Hid (Lk.WP G K E q s v M1 D1 s1)/\Hid (Lk.PdK G E M1 D1 q s v k)/\Hid (Lk.On MM DD st M1 D1 s1)/\Hid (Below base w wr)/\Hid (KeepG gc M D wb wr)) (fun vi _=>G.rs.length-(intOf vi).toNat)
 case atStart=>exact⟨0,MM,DD,st,AX _,rfl,HH,co,cW,aA (Lk.On.refl _ _ _),cV,aA (KeepG.refl _)⟩
 case round =>
  obtain⟨k,M1,D1,s1,hk,rfl,HA,HP,bs,HO,HW,au⟩:=hrel;rename World=>wr;by_cases A:k<G.rs.length
  ·have cX:=aA (HR.o (by omega));obtain⟨g,o,rfl,cY,hc⟩:=cX.o;obtain⟨k0,⟨A',c',k1,bu,_,bv⟩,k2⟩:=hc k A;have bw:g<base:=Ao cY HB.o;have k0:=(HW.o.cell (p:=⟨g,o+k*3,none⟩) bw).trans k0;have k1:=(HW.o.cell (p:=⟨g,o+k*3+1,none⟩) bw).trans k1;have k2:=(HW.o.cell (p:=⟨g,o+k*3+2,none⟩) bw).trans k2;have cZ:=aA bv;have dK:=aA (au.o.row aq.o (by have:=f.o;omega) (by have:=f.o;omega) (by have:=f.o;omega) (fun e=>by have:=ar.o _ e;omega));have c0:=aA (au.o.row bf.o (by have:=f.o;omega) (by have:=f.o;omega) (by have:=f.o;omega) (fun e=>by have:=ar.o _ e;omega));obtain⟨wi,bg⟩:∃y,y=wr.alloc (.cells #[.int .i64 (G.rs[k]).l,.slice A' (G.rs[k]).r.length c',.int .i64 (G.rs[k]).p] 74):=⟨_,rfl⟩
   have C:Hid (Below wr.heap.size wr wi):=aA (by rw[bg];exact(Aq _ _).alloc (Ad _) _);have bh:wi.heap[wr.heap.size]?=some (.cells #[.int .i64 (G.rs[k]).l,.slice A' (G.rs[k]).r.length c',.int .i64 (G.rs[k]).p] 74 (0,0)):=by rw[bg];exact Az wr _
   have bx:=aA bh;have z0:=aM bh;have z1:=aR (aC C.o c0.o);have F:=aA A;by_cases hl:(G.rs[k]).l = -1-s
   focus
    have hq:((G.rs[k]).l != -1-s)=false:=by rw[hl];simp
    have cp:=aA (Ay (l:=G.rs) A);have c3:=aA (fun(a d:Nat) (hd:d<(G.rs[k]).r.length) (av:∀t:Nat,v.testBit t=true->Au.La G E a ((k:Int),(d:Int)) t)=>Lk.at_next HGG.o.hi HGG.o.hE HGG.o.hok HP.o.v0 A hd av);have c4:=aA (fun(a d:Nat) (hd:d<(G.rs[k]).r.length) hs (av:∀t:Nat,v.testBit t=true->Au.La G E a ((k:Int),(d:Int)) t)=>Lk.at_more HGG.o.hok HGG.o.ht HGG.o.hp HP.o.v0 HP.o.vl A hd hs av);have c5:=aA (fun(M2:Lk.MP) (d:Nat) (hd:d<(G.rs[k]).r.length) (h:Lk.PdD G E M2 q v k d) (hs:(G.rs[k]).r[d]<0->Lk.Sub (Lk.ofV G v ((G.rs[k]).r.drop (d+1))) (Lk.gN M2 ((Lk.fol E q ((G.rs[k]).r.take d):Nat),(G.rs[k]).r[d])))=>(show Lk.PdD G E M2 q v k (d+1) from h.step fun _ _ h0=>hs h0));have c6:=aA (fun(M2:Lk.MP) (a:Nat) (h1:Lk.PdK G E M2 D1 q s v k) (h2:Lk.PdD G E M2 q v k (G.rs[k]).r.length) (h3:Lk.fol E q (G.rs[k]).r=a)=>(show Lk.PdK G E M2 (Lk.orN D1 ((a:Int),(k:Int)) v) q s v (k+1) from(h1.mono (Lk.MLe.refl _) (Lk.MLe.or _ _ _)).step fun _ _=>⟨h2,fun c7=>by have e:Lk.fol E q (G.rs[k]'c7).r=a:=h3;rw[e];exact Lk.or_has _ _ _⟩));have c8:=aA (fun(M2:Lk.MP) (s2:List (Int×Int)) (a:Nat) (h:Lk.WP G K E q s v M2 D1 s2) (av:∀t:Nat,v.testBit t=true->Au.La G E a ((k:Int),((G.rs[k]).r.length:Int)) t)=>h.put A av);have bz:=aA (HP.o.at0 A hl);have c9:=aA (fun(d:Nat) (hd:d<(G.rs[k]).r.length) (h0:(G.rs[k]).r[d]<0)=>Lk.tl_of HGG.o.hok HGG.o.ht cp.o hd h0 v);have cq:=aA (Gm.rule_in (HGG.o.hok.rr _ cp.o));have da:Hid ((Lk.tlAll G)[k]?=some (Lk.tlRow G (G.rs[k]).r)):=aA ((Ar (by rw[I.o];exact A)).trans (congrArg some (Lk.tlAll_at _ A)));have cr:=aA (Lk.tlRow_len G (G.rs[k]).r);have cs:=aA (fun d (h:d<(Lk.tlRow G (G.rs[k]).r).length)=>Lk.tlRow_at (G:=G) (r:=(G.rs[k]).r) h)
    have db:=aA (fun(M2 D2:Lk.MP) (s2:List (Int×Int)) (h1:Lk.WP G K E q s v M2 D2 s2) (h2:Lk.On MM DD st M2 D2 s2)=>(show s2.length<=900000 from by
     have a1:=h2.l;have a2:=HC.o;have a3:=h1.b.cnt;have a4:=HGG.o.hK;have a5:=HGG.o.hn;have a6:=En a4 a5
     omega))
    have bi:=aA (HA.o.below C.o);have bD:Hid (Below base w wi):=aA (HW.o.trans (C.o.mono (Ag J.o HW.o.size)));have cu:Hid (KeepG gc M D wb wi):=aA (au.o.trans (.below C.o HA.o.gcl));have dL:Hid (gc<wr.heap.size/\M<wr.heap.size/\D<wr.heap.size):=aA ⟨HA.o.gcl,HA.o.m.lt,HA.o.d.lt⟩
    have dc:Hid (∀j,bU wi gc=some j->j<wr.heap.size):=aA (fun j hj=>HA.o.own j (by
     unfold bU at hj ⊢
     rwa [C.o.cell (p:=⟨gc,0,none⟩) HA.o.gcl]at hj))
    have dM:=aA bu;clear hc bv bu bh hl;generalize (G.rs[k]).l=lf at *;generalize (G.rs[k]).r=r at *
   rotate_left
   focus
    have bM:Hid (Lk.PdK G E M1 D1 q s v (k+1)):=aA (bs.o.step fun _ e=>absurd e hl);have hq:((G.rs[k]).l != -1-s)=true:=by rw[Du];exact hl
    have bi:=aA (HA.o.below C.o);have bD:Hid (Below base w wi):=aA (HW.o.trans (C.o.mono (Ag J.o HW.o.size)));have cu:Hid (KeepG gc M D wb wi):=aA (au.o.trans (.below C.o HA.o.gcl));clear hc bv bu bh hl;generalize (G.rs[k]).l=lf at *;generalize (G.rs[k]).r.length=rn at *
   rotate_left
   all_goals
    generalize (G.rs[k]).p=rp at *;go_upto_region 5 with fail
    rw[<-bg];clear bg k0 k1 k2;go_quiet ((go_at_call 149;exact Dc (HN.o _)))
    obtain⟨wq,bT⟩:∃y,y=wi.drewN nq:=⟨_,rfl⟩
    rw[<-bT];have aw:Hid (Below wi.heap.size wi wq):=aA (by rw[bT];exact aB (Aq _ _) _);clear bT z0 z1;have cv:=aA (bi.o.below aw.o);have cw:Hid (Below base w wq):=aA (bD.o.trans (aw.o.mono (Ag J.o bD.o.size)));have N:Hid (KeepG gc M D wb wq):=aA (cu.o.trans (.below aw.o bi.o.gcl))
   focus
    have de:=aA (aC aw.o bx.o)
    have dN:Hid (∀j,bU wq gc=some j->j<wr.heap.size):=aA (fun j hj=>dc.o j (by
     unfold bU at hj ⊢
     rwa [aw.o.cell (p:=⟨gc,0,none⟩) bi.o.gcl]at hj))
    have z1:=aR de.o;have df:=aA (N.o.row bf.o (by have:=f.o;omega) (by have:=f.o;omega) (by have:=f.o;omega) (fun e=>by have:=ar.o _ e;omega));have y0:=aM df.o;have dg:Hid (Lk.PdD G E M1 q v k 0):=aA (Lk.PdD.zero _ _ _ _);have dO:((r.length:Nat):Int)<=6:=by have:=cq.o.1;omega
    go_wp2;clear z1 y0;go_loopw [36,9] (fun vd va wy=>∃(d a:Nat) (M2:Lk.MP) (s2:List (Int×Int)),d<=r.length/\vd=.int .i64 d/\va=.int .i64 a/\Hid (WkA G wy base R gc T M D AT AN (some ⟨g,o,none⟩) At cT cN cR ct tl M2 D1 s2)/\Hid (Lk.WP G K E q s v M2 D1 s2)/\Hid (Lk.PdK G E M2 D1 q s v k)/\Hid (Lk.PdD G E M2 q v k d)/\Hid (∀t:Nat,v.testBit t=true->Au.La G E a ((k:Int),(d:Int)) t)/\Hid (Lk.fol E q (r.take d)=a)/\Hid (Lk.On MM DD st M2 D1 s2)/\Hid (Below base w wy)/\Hid (KeepG gc M D wq wy)) (fun vd _ _=>r.length-(intOf vd).toNat)
    case atStart=>exact⟨0,q,M1,s1,AX _,rfl,rfl,cv,HP,bs,dg,bz,aA rfl,HO,cw,aA (KeepG.refl _)⟩
    case round =>
     obtain⟨d,a,M2,s2,hd,rfl,rfl,H,O,af,ag,ab,bj,bk,U,ax⟩:=hrel;rename World=>wy;have bl:=aA ((KeepG.trans N.o ax.o).row aq.o (by have:=f.o;omega) (by have:=f.o;omega) (by have:=f.o;omega) (fun e=>by have:=ar.o _ e;omega));by_cases n:d<r.length
     ·have dh:=c3.o a d n ab.o;obtain⟨bm,bX,j,bZ,ah,ai⟩:=dh;have cx:=aA (HGG.o.tw _ _ _ bZ);have cy:=aA ai;have cz:Hid (Lk.fol E q (r.take (d+1))=j):=aA (by rw[AO n,Lk.fol_snoc,bj.o,ah]);have dP:=aA bm;have cA:=aA n;have ay:Gm.In (a:Int):=by have:=HGG.o.hK;unfold Gm.In;omega
      have b0:=cq.o.2.2.2 _ (Ay n);have cB:Gm.In r[d]:=by have:=HGG.o.hn;have:=HGG.o.ht;unfold Gm.In;omega
      obtain⟨gq,oq,rfl,di,b1⟩:=cZ.o (by omega);have z0:=(U.o.cell (p:=⟨gq,oq+d,none⟩) (Ao di HB.o)).trans (b1 d n);rw[L.gd_lt n]at z0;have dQ:((d:Nat):Int)<((r.length:Nat):Int):=by omega
      have aj:=aA (fun(M3:Lk.MP) (h:Lk.PdD G E M3 q v k d)=>c5.o M3 d n h);rw[bj.o]at aj;by_cases hz:r[d]<0
      ·have b3:decide (r[d]<0)=true:=AJ hz;have dj:=c4.o a d n bX ab.o;obtain⟨ak,cC,cD⟩:=dj;have az:=aA (O.o.vis bm hz b0.2.1 ak cC cD);have dk:=aA (O.o.b.lt ((a:Int),r[d]));have al:=aA (fun(M3:Lk.MP) (h:Lk.PdD G E M3 q v k d) hs=>aj.o M3 h (fun _=>hs));have cE:=c9.o d n hz;have dl:=(cS.o.keepG (KeepG.trans N.o ax.o) HH.o).rd;obtain⟨gt,ot,rfl,dm,cF⟩:=dl (by rw[I.o];omega);obtain⟨A2,c2,u0,b4,_,am⟩:=cF k (by rw[I.o];exact F.o)
       have a0:(Lk.tlAll G)[k]'(by rw[I.o];exact F.o)=Lk.tlRow G r:=by
        have:=da.o
        rw[Ar (by rw[I.o];exact F.o)]at this;injection this
       rw[a0]at u0 am;obtain⟨g3,o3,rfl,dn,b5⟩:=am (by rw[cr.o];omega);have t0:=u0;have a9:d<(Lk.tlRow G r).length:=by rw[cr.o];exact n
       have t1:=b5 d a9 0 (.int .u32 ((Lk.tlAt G r d).1:Int)) (by rw[cs.o d a9];rfl);have t2:=b5 d a9 1 (.bool (Lk.tlAt G r d).2) (by rw[cs.o d a9];rfl);rw[Cd]at t1;have dp:((k:Nat):Int)<(((Lk.tlAll G).length:Nat):Int):=by rw[I.o];have:=F.o;omega
       have dq:((d:Nat):Int)<(((Lk.tlRow G r).length:Nat):Int):=by omega
       have b6:=aA (Lk.tlAt_lt G r d);have b7:=aA (fun w=>zhy (Lk.tlAt G r d) v b6.o HP.o.vl w);rw[cE]at b7;have dr:=aA ak;have bn:Hid (Gm.In ((a:Int),r[d]).1/\Gm.In ((a:Int),r[d]).2):=aA ⟨ay,cB⟩;have x1:=zdZ bl.o;clear b1 cF am b5 dm dn cE ak cC cD bX ai bZ ah bm b0 a0 u0 b4 a9;unfold tlV at b7;generalize (Lk.tlAt G r d).1=tb at *;generalize (Lk.tlAt G r d).2=tn at *;generalize Lk.ofV G v (r.drop (d+1))=more at *;generalize r[d]=z at *;go_wp2_with fail
       refine(za8 _ _).mono ?_;rintro _ w5 ⟨rfl,b8⟩;subst b8;rw[b3];go_wp2_with fail
       refine(b7.o _).mono ?_;rintro _ w6 ⟨rfl,bo⟩;have ds:=aA (H.o.below bo);have dt:Hid (Below base w w6):=aA (U.o.trans (bo.mono (Ag J.o U.o.size)));have du:Hid (KeepG gc M D wq w6):=aA (ax.o.trans (.below bo H.o.gcl));have dw:=aA (zcF w6 base R gc T M D _ _ _ _ _ tl M2 D1 s2 ((a:Int),z) more ds.o bn.o dr.o dk.o (db.o _ _ _ O.o bk.o));clear bo t0 t1 t2 x1 dp dq;go_wp2_with fail
       refine dw.o.mono ?_;rintro _ w7 ⟨rfl,cG,cH,cI⟩;have cJ:=aA cG;have dx:Hid (Below base w w7):=aA (dt.o.trans cH);have bp:Hid (KeepG gc M D wq w7):=aA (du.o.trans cI);have dy:=aA az.o.1;have b9:=aA (bk.o.trans az.o.2.1);have ca:=aA (al.o _ (ag.o.mono az.o.2.1.m) az.o.2.2);have cb:=aA (af.o.mono az.o.2.1.m (Lk.MLe.refl _));have cd:=aA ((KeepG.trans N.o bp.o).row aq.o (by have:=f.o;omega) (by have:=f.o;omega) (by have:=f.o;omega) (fun e=>by have:=ar.o _ e;omega));have x5:=zgW cd.o;have lk:=zl6 cJ.o.t ((a:Int),z) bn.o cx.o;clear cG cH cI;go_wp2;go_roundw
       case rel=>exact⟨d+1,j,_,_,cA.o,by go_num,rfl,cJ,dy,cb,ca,cy,cz,b9,dx,bp⟩
       case measure=>simp[intOf];omega
      ·have b3:decide (r[d]<0)=false:=AM hz;have al:=aA (aj.o M2 ag.o (fun h=>absurd h hz));have bn:Hid (Gm.In ((a:Int),r[d]).1/\Gm.In ((a:Int),r[d]).2):=aA ⟨ay,cB⟩;have x5:=zgW bl.o;have lk:=zl6 H.o.t ((a:Int),r[d]) bn.o cx.o;clear b1 bX ai bZ ah bm b0;generalize r[d]=z at *;go_wp2_with fail
       refine(za8 _ _).mono ?_;rintro _ w5 ⟨rfl,b8⟩;subst b8;rw[b3];go_wp2;go_roundw
       case rel=>exact⟨d+1,j,_,_,cA.o,by go_num,rfl,H,O,af,al,cy,cz,bk,U,ax⟩
       case measure=>simp[intOf];omega
     ·obtain rfl:d=r.length:=by omega
      rw[Bo]at bj;have bM:=aA (c6.o M2 a af.o ag.o bj.o);have dz:=aA (c8.o M2 s2 a O.o ab.o);have cK:Gm.In (k:Int):=by have:=F.o;unfold Gm.In;omega
      have ay:Gm.In (a:Int):=by
       obtain⟨t,ht⟩:=Cv HP.o.v0
       have:=(Au.la_in HGG.o.hi (ab.o t ht)).1
       have:=HGG.o.hK
       unfold Gm.In;omega
      have ce:Hid (Gm.In ((a:Int),(k:Int)).1/\Gm.In ((a:Int),(k:Int)).2):=aA ⟨ay,cK⟩;have hD:=O.o.b.dlt ((a:Int),(k:Int));have dR:=EM (Lk.gN D1 ((a:Int),(k:Int))) v hD HP.o.vl;have cL:Hid (Mw.putA (Lk.encM D1) ((a:Int),(k:Int)) (.int .u32 ((Lk.gN D1 ((a:Int),(k:Int)) ||| v:Nat):Int))=Lk.encM (Lk.orN D1 ((a:Int),(k:Int)) v)):=aA Lk.enc_put;have cf:Hid (∀y:World,y.heap[w.heap.size]?=wy.heap[w.heap.size]?->∃z:OnP [w.heap.size] wy,y=z.1):=aA (fun y e1=>⟨⟨y,fun g hg=>by rw[AF.1 hg];exact e1⟩,rfl⟩);have cg:D≠w.heap.size:=by have:=f.o;omega
      have bq:Hid (WkA G wy.drew base R gc T M D AT AN (some ⟨g,o,none⟩) At cT cN cR ct tl M2 D1 s2):=aA (H.o.below (aB (Aq _ _) 1));have lkd:=znA bq.o.d.is ((a:Int),(k:Int)) ce.o;obtain⟨u,cc,w6,aa,ba,bb,ch⟩:=Mw.run_met bq.o.d enK Tryz.underlying123 (z:=.int .u32 0) (by kernel_rfl) (x:=((a:Int),(k:Int))) ce.o
      have lk6:(Instr.lookup 123 (.map (some D)) (.agg #[.int .i64 (a:Int),.int .i64 (k:Int)]) false).run Tryz.prog w6=.ok (.int .u32 (Lk.gN D1 ((a:Int),(k:Int)):Int)) w6:=by
       have:=Mw.run_look (E:=enE) bb enK (t:=123) Tryz.underlying123 (z:=.int .u32 0) (by kernel_rfl) (x:=((a:Int),(k:Int))) ce.o false
       rw[Lk.enc_same]at this;exact this
      obtain⟨w7,ad,ci,cM⟩:=ba.2 w6 rfl (.int .u32 ((Lk.gN D1 ((a:Int),(k:Int)) ||| v:Nat):Int));have bc:enE.enc ((a:Int),(k:Int))=.agg #[.int .i64 (a:Int),.int .i64 (k:Int)]:=rfl;rw[bc]at aa;rw[cL.o]at ci;have ac:=aA (zae ch cM);have H7:=aA (bq.o.dset ac.o ci);have ao:=(Ac.1 bl.o).1;have r6:=ch.block w.heap.size (show w.heap.size<wy.drew.heap.size from ao) (fun e=>by injection e with e;exact cg e.symm);have r7:=ac.o.block w.heap.size (show w.heap.size<wy.drew.heap.size from ao) (fun e=>by injection e with e;exact cg e.symm);have cj:=aA (cf.o wy.drew rfl);have V:=aA (cf.o w6 r6);have cO:=aA (cf.o w7 r7);have ae:=aA aa;have bd:=aA ad;have ck:=aA lk6;have cl:=aA lkd;have dA:Hid (Below base w w7):=aA (zaa (U.o.trans (aB (Aq _ _) 1)) ac.o H7.o.hD (Ag J.o U.o.size));have bp:Hid (KeepG gc M D wb w7):=aA (((KeepG.trans N.o ax.o).trans (.below (aB (Aq _ _) 1) H.o.gcl)).trans (.mapD ac.o bq.o.gcl H.o.gcM.2.1));have b9:=aA (bk.o.trans (Lk.on_put (st:=s2) ((a:Int),(k:Int)) v));clear aa ad ba bb ch ci cM r6 r7 lk6 lkd bc cL ay cK hD cg ao;generalize Lk.gN D1 ((a:Int),(k:Int))=dv at *;generalize cP:wy.drew=wd at *;go_upto_region 14 with fail
      have qD:∀y:OnP [w.heap.size] wy,y.1.cell? ⟨w.heap.size,7,none⟩=some (.map (some D)):=fun y=>y.row (by simp) bl.o rfl;have S0:∃y:OnP [w.heap.size] wy,wy.drew=y.1:=by rw[cP];exact cj.o
      refine CalmN.region_tree (fun x=>∃y:OnP [w.heap.size] wy,x=y.1) (.two [0,1,2,3,4,6] 5 (.one [7] 8 (.one [9] 10 (.fin []))) 8 (.one [9] 5 (.one [7] 10 (.fin [])))) (by kernel_rfl) (by kernel_rfl) (fun _ _ d _ _ h=>by cases d <;> exact h) S0 ?_;rw[CalmN.wpT];simp only[CalmN.pickOps,Am,Af,Ah];repeat (go_big_quiet_step (fail))
      rw[cP];clear S0;refine Aj ⟨?_,?_⟩
      case' refine_1 =>
       simp only[CalmN.wpT,CalmN.wpSt,CalmN.pickOps,Am,Af,Ah];intro KK i;rw[Ap (by rfl)];have lkd:=cl.o;go_wp2_with fail
       refine i _ _ cj.o _ (fun _ h=>h) cj.o ?_;clear i lkd;repeat (go_big_quiet_step (fail))
       refine Aj ?_;intro KK i;rw[Ap (by rfl)];refine zay _ _ _ rfl ae.o rfl rfl ?_;refine i _ _ V.o _ (fun _ h=>h) V.o ?_;clear i
       go_frame
       repeat (go_big_quiet_step (fail))
       refine Aj ?_
      case' refine_2 =>
       simp only[CalmN.wpT,CalmN.wpSt,CalmN.pickOps,Am,Af,Ah];intro KK i;rw[Ap (by rfl)];refine zay _ _ _ rfl ae.o rfl rfl ?_;refine i _ _ V.o _ (fun _ h=>h) V.o ?_;clear i
       go_frame
       repeat (go_big_quiet_step (fail))
       refine Aj ?_;intro KK i;rw[Ap (by rfl)];have lk6:=ck.o;go_wp2_with fail
       refine i _ _ V.o _ (fun _ h=>h) V.o ?_;clear i lk6;repeat (go_big_quiet_step (fail))
       refine Aj ?_
      all_goals
       intro KK i;rw[Ap (by rfl)];refine zbz _ _ _ _ rfl bd.o rfl rfl rfl ?_;refine i _ _ cO.o _ (fun _ h=>h) cO.o ?_;clear i qD
       go_frame
       refine Aj ?_;go_wp2;go_roundw
       case rel=>exact⟨k+1,M2,_,s2,F.o,by go_num,H7,dz,bM,b9,dA,bp⟩
       case measure=>simp[intOf];omega
   focus
    go_wp2;go_roundw
    case rel=>exact⟨k+1,M1,D1,s1,F.o,by go_num,cv,HP,bM,HO,cw,N⟩
    case measure=>simp[intOf];omega
  ·obtain rfl:k=G.rs.length:=by omega
   go_wp2;go_end0
   exact⟨rfl,M1,D1,s1,HA.o,HP.o.done bs.o,HO.o,HW.o,KeepG.trans cU.o au.o⟩
def zm7 (w:World) (M:Nat):Nat:=match w.heap[M]? with
 | some (.map es _)=>(es.toList.map fun e=>match e.val with | .int _ n=>Lk.pc n.toNat|_=>0).sum
 | _=>0
def zl9 (w:World) (gc:Nat):Nat:=match w.cell? ⟨gc,0,none⟩ with
 | some (.slice _ n _)=>n
 | _=>0
theorem zh2 {MM:Lk.MP} (h:Mw.MapIs wkE w M (Lk.encM MM)):zm7 w M=Lk.cntM MM:=by
 obtain⟨es,ck,hb,he,_⟩:=h;unfold zm7;rw[hb];simp only;have e1:(es.toList.map fun e=>match e.val with | .int _ n=>Lk.pc n.toNat|_=>0)=(es.toList.map fun e=>(e.key,e.val)).map (fun p=>match p.2 with | .int _ n=>Lk.pc n.toNat|_=>0):=by rw[DV];rfl
 rw[e1,he];unfold Lk.encM Lk.cntM;rw[DV,DV]
 congr 1
theorem zht {gc c:Nat} (h:w.cell? ⟨gc,0,none⟩=some (.slice A n c)):zl9 w gc=n:=by unfold zl9;rw[h]
theorem Lk.vM_start (x:Int×Int) {P:Nat} (hP:P≠0):vM [] x P=[(x,P)]/\vS [] [] x P=[x]:=by
 have h:Lk.gN ([]:Lk.MP) x=0:=rfl;unfold vM vS;rw[h,Nat.zero_or,AB hP,AB hP];unfold Lk.orN;rw[h,Nat.zero_or];exact⟨rfl,rfl⟩
theorem zhA (G:Gm.Gr) (K:List (List Au.It)) (E:List (List (Int×Int))) (w:World) (base B T M D:Nat) (AT AN AR At:Option Addr) (cT cN cR ct:Nat) (tl:List ((Int×Int)×Value)) (hG:WkG G K E tl) (h0:0<K.length) (hg:aQ w B (.agg #[.slice AT G.ts.length cT,.slice AN G.ns.length cN,.slice AR G.rs.length cR,.int .i64 G.st]) G) (hB:B<=base) (bb:bV w At G) (hb:base<=w.heap.size) (hT:Mw.MapIs wkE w T tl) (hM:Mw.MapU wkE w M (Lk.encM [])) (hD:Mw.MapU enE w D (Lk.encM [])) (bT:base<=T) (bM:base<=M) (bD:base<=D) (bc:T≠M/\T≠D/\M≠D) :
  Calls Tryz.prog 98 #[.agg (wrC (.slice AT G.ts.length cT) (.slice AN G.ns.length cN) (.slice AR G.rs.length cR) (.int .i64 G.st) (.slice At (Lk.tlAll G).length ct) T M D)] w fun e w'=>e=.returned (.tuple #[]) /\
   ∃MM' DD',Mw.MapU enE w' D (Lk.encM DD')/\Lk.WI G K E MM' DD' []/\Below base w w'/\∀g,g<w.heap.size->g≠M->g≠D->w'.heap[g]?=w.heap[g]?:=by
 obtain⟨wb,C⟩:∃y,y=w.alloc (.cells (wrC (.slice AT G.ts.length cT) (.slice AN G.ns.length cN) (.slice AR G.rs.length cR) (.int .i64 G.st) (.slice At (Lk.tlAll G).length ct) T M D) 174):=⟨_,rfl⟩
 have bd:Hid (Below w.heap.size w wb):=aA (by rw[C];exact(Aq _ _).alloc (Ad _) _);have aj:wb.heap[w.heap.size]?=some (.cells (wrC (.slice AT G.ts.length cT) (.slice AN G.ns.length cN) (.slice AR G.rs.length cR) (.int .i64 G.st) (.slice At (Lk.tlAll G).length ct) T M D) 174 (0,0)):=by rw[C];exact Az w _
 have cr:=aA aj;have bf:wb.heap.size=w.heap.size+1:=by rw[C];simp
 obtain⟨wc,ad⟩:∃y,y=wb.alloc (.cells #[.slice none 0 0] 227):=⟨_,rfl⟩
 have bg:Hid (Below wb.heap.size wb wc):=aA (by rw[ad];exact(Aq _ _).alloc (Ad _) _);have ak:wc.heap[wb.heap.size]?=some (.cells #[.slice none 0 0] 227 (0,0)):=by rw[ad];exact Az wb _
 have k:Hid (Below w.heap.size w wc):=aA (bd.o.trans (bg.o.mono bd.o.size));have ae:=aA (aC bg.o aj);have al:=aA hb;have HB:=aA hB;have aa:Hid (0<=G.st/\G.st<G.ns.length/\G.ns.length<=40):=aA ⟨hG.hok.s0,hG.hok.s1,hG.hn⟩;have b1:Hid (S.bit (G.ts.length:Int)=2 ^ G.ts.length):=aA (S.bit_nat (by have:=hG.ht;omega));have bh:Hid ((2:Nat) ^ G.ts.length<4294967296):=aA (by have:=B3 (n:=2) (by decide) hG.ht;omega);have bi:Hid ((2:Nat) ^ G.ts.length≠0):=aA (by have:0<2 ^ G.ts.length:=Nat.pow_pos (by decide);omega)
 have am:Hid (WkA G wc base w.heap.size wb.heap.size T M D AT AN AR At cT cN cR ct tl [] [] []):=aA
  ⟨ae.o,⟨_,ak,aK.nil _ _⟩,hT.block (k.o.block _ hT.lt),hM.block (k.o.block _ hM.lt),hD.block (k.o.block _ hD.lt),hb,by omega,bT,bM,bD,bc⟩
 have bj:Hid (bU wc wb.heap.size=none):=aA (zbu (show wc.cell? ⟨wb.heap.size,0,none⟩=some (.slice none 0 0) from Aw wc wb.heap.size 0 _ _ _ ak));have ao:=aA (Lk.WI.start (E:=E) h0 hG.hok hG.ht);have b3:=aA (Lk.pc_pos bh.o bi.o ((0:Int),-1-G.st));have bk:Hid (K.length<=300/\G.ns.length<=40):=aA ⟨hG.hK,hG.hn⟩;have HN:=aA (fun w=>ze8 G.st (by have:=aa.o;omega) (by have:=aa.o;omega) w);have b4:Hid (w.heap.size≠wb.heap.size/\w.heap.size≠M/\w.heap.size≠D):=aA ⟨by omega,by have:=hM.lt;omega,by have:=hD.lt;omega⟩;have b5:=aA hG;have b6:=aA (bb.below k.o);have b7:=aA hg;have cs:∀(fn:Fn) (first cap:Array Value) (w:World),(Instr.makeFunc fn first cap).run Tryz.prog w=.ok (.func fn first cap) w:=fun _ _ _ _=>rfl;clear hG h0 hg hB bb hT hM hD bT bM bD bc aj ak hb
 go_enter Tryz.func98,Tryz.ntmps98
 go_upto_region 1 with fail
 rw[<-C];clear C;go_upto_region 2 with fail
 rw[<-ad];clear ad;obtain⟨gc,ap⟩:∃g,g=w.heap.size+1:=⟨_,rfl⟩
 rw[bf,<-ap]at am b4 bj;have aq:Hid (w.heap.size<gc):=aA (by omega);rw[<-ap];clear ap bf;go_upto_region 3 with fail
 have b8:Hid (Gm.In ((0:Int),-1-G.st).1/\Gm.In ((0:Int),-1-G.st).2):=aA ⟨by unfold Gm.In;simp only;omega,by have:=aa.o;unfold Gm.In;simp only;omega⟩;have bl:=aA (Lk.vM_start ((0:Int),-1-G.st) bi.o);have bm:=aA (fun(y:World) (h:WkA G y base w.heap.size gc T M D AT AN AR At cT cN cR ct tl [] [] [])=>zcF y base w.heap.size gc T M D _ _ _ _ _ tl [] [] [] ((0:Int),-1-G.st) (2 ^ G.ts.length) h b8.o bh.o (show(0:Nat)<4294967296 by decide) (by simp));rw[bl.o.1,bl.o.2]at bm;generalize hP:(2:Nat) ^ G.ts.length=P at *;have q0:∀y:OnP [w.heap.size] wc,y.1.cell? ⟨w.heap.size,0,none⟩=some (.slice AT G.ts.length cT):=fun y=>y.row (by simp) ae.o rfl;have q3:∀y:OnP [w.heap.size] wc,y.1.cell? ⟨w.heap.size,3,none⟩=some (.int .i64 G.st):=fun y=>y.row (by simp) ae.o rfl;have bn:Hid (∀y:World,y.heap[w.heap.size]?=wc.heap[w.heap.size]?->∃z:OnP [w.heap.size] wc,y=z.1):=aA (fun y e1=>⟨⟨y,fun g hg=>by rw[AF.1 hg];exact e1⟩,rfl⟩);have u:=aA (bn.o wc.drew rfl);have ar:Hid (Below base w wc.drew):=aA ((k.o.mono al.o).trans (aB ((Aq _ _).mono (Ag al.o k.o.size)) 1));have au:Hid (KeepG gc M D wc wc.drew):=aA (.below (aB (Aq _ _) 1) am.o.gcl);have av:Hid (bV wc.drew At G):=aA (b6.o.below (aB (Aq _ _) 1));have af:Hid (WkA G wc.drew base w.heap.size gc T M D AT AN AR At cT cN cR ct tl [] [] []):=aA (am.o.below (aB (Aq _ _) 1));refine CalmN.region_tree (fun x=>∃y:OnP [w.heap.size] wc,x=y.1) (.one [0,1,2,3,6,7,8,9] 4 (.one [5] 10 (.one [] 11 (.fin [])))) (by kernel_rfl) (by kernel_rfl) (fun _ _ d _ _ h=>by cases d <;> exact h) u.o ?_;simp only[CalmN.wpT,CalmN.wpSt,CalmN.pickOps,Am,Af,Ah];repeat (go_big_quiet_step (fail))
 refine Aj ?_;intro KK p;rw[Ap (by rfl)];go_wp2_with fail
 refine(HN.o _).mono ?_;rintro _ wd ⟨rfl,bo⟩;rw[<-bo]at u af ar av au;clear bo;go_wp2_with fail
 refine p _ _ u.o _ (fun _ h=>h) u.o ?_;clear p;repeat (go_big_quiet_step (fail))
 refine Aj ?_;intro KK p;rw[Ap (by rfl)];go_wp2_with fail
 refine(zcb _ _).mono ?_;rintro _ we ⟨rfl,bp⟩;rw[<-bp]at u af ar av au;rw[b1.o];clear bp;go_wp2_with fail
 refine p _ _ u.o _ (fun _ h=>h) u.o ?_;clear p q0 q3;refine Aj ?_;intro KK p;rw[Ap (by rfl)];go_wp2_with fail
 refine(bm.o _ af.o).mono ?_;rintro _ wf ⟨rfl,ha,hb,hk⟩;have b9:=aA (av.o.keepG hk af.o);have ca:=aA (au.o.trans hk);have cb:=aA ha;have cc:Hid (Below base w wf):=aA (ar.o.trans hb);have bq:=aA (bn.o wf (ha.r.trans ae.o.symm));clear ha hb hk;go_wp2_with fail
 refine p _ _ bq.o _ (fun _ h=>h) bq.o ?_;clear p;refine Aj ?_;go_wp2;go_loopw [] (fun wr=>∃(M1 D1:Lk.MP) (s1:List (Int×Int)),Hid (WkA G wr base w.heap.size gc T M D AT AN AR At cT cN cR ct tl M1 D1 s1)/\Hid (Lk.WI G K E M1 D1 s1)/\Hid (s1.length<=Lk.cntM M1)/\Hid (bV wr At G)/\Hid (KeepG gc M D wc wr)/\Hid (Below base w wr)) (fun wr=>2*(K.length*G.ns.length*32-zm7 wr M)+zl9 wr gc)
 case atStart=>exact⟨_,_,_,cb,ao,b3,b9,ca,cc⟩
 case round =>
  obtain⟨M1,D1,s1,HA,HI,HC,HT,br,HW⟩:=hrel;obtain⟨v,F,t⟩:=HA.o.v;rcases List.eq_nil_or_concat s1 with rfl|⟨s,x,rfl⟩
  ·obtain⟨A,c,rfl,aw,ax,_⟩:=aK.form t aJ;have c0:=aM F;have hn:¬(0:Int)<(([]:List (Int×Int)).length:Int):=by simp
   clear F t aw ax;generalize ([]:List (Int×Int)).length=n at *;go_wp2;go_end0
   exact⟨rfl,M1,D1,HA.o.d,HI.o,HW.o,fun g h1 h2 h3=>(br.o.keep g (Ao h1 k.o.size) (by have:=aq.o;omega) h2 h3 (by rw[bj.o];simp)).trans (k.o.block g h1)⟩
  ·rw[List.concat_eq_append]at t HA HI HC;obtain⟨q,bs,ay⟩:=HI.o.take;have az:=HI.o.take_lt;obtain⟨x1,x2⟩:=x;simp only[Prod.mk.injEq,and_true]at bs;subst bs;simp only at ay az;have cd:=aA ay;have ce:=aA az;obtain⟨gB,c,rfl,aw,ax,cf⟩:=aK.addr t (by simp);have c0:=aM F;have ag:s.length<(s++[((q:Int),x2)]).length:=by simp
   have a0:(s++[((q:Int),x2)])[s.length]=((q:Int),x2):=by simp
   have e0:wr.cell? ⟨gB,s.length*2,none⟩=some (.int .i64 (q:Int)):=aK.cellAt t aJ s.length 0 ag _ (by rw[a0];rfl);have e1:wr.cell? ⟨gB,s.length*2+1,none⟩=some (.int .i64 x2):=aK.cellAt t aJ s.length 1 ag _ (by rw[a0];rfl);obtain⟨wx,ah⟩:∃y,y=wr.alloc (.cells #[.int .i64 (q:Int),.int .i64 x2] 176):=⟨_,rfl⟩
   have i:Hid (Below wr.heap.size wr wx):=aA (by rw[ah];exact(Aq _ _).alloc (Ad _) _);have cg:Hid (wx.heap[wr.heap.size]?=some (.cells #[.int .i64 (q:Int),.int .i64 x2] 176 (0,0))):=aA (by rw[ah];exact Az wr _);have ch:=aA (HA.o.below i.o);have f:=aC i.o F;have bu:=aA (t.below i.o (Ad _));have a1:=bu.o.take aJ s.length (CB ag);rw[List.take_left]at a1;have j:=aA (ch.o.push f bu.o a1 (AI _ _));have cx0:=aM f;have fx0:=AD wx gc 0 _ _ f;have lx0:=(Ac.1 f).1;have bv:gc≠wr.heap.size:=by have:=HA.o.gcl;omega
   have a2:Hid ((wx.setCell ⟨gc,0,none⟩ (.slice (some ⟨gB,0,none⟩) s.length c)).heap[wr.heap.size]?=some (.cells #[.int .i64 (q:Int),.int .i64 x2] 176 (0,0))):=aA ((AH _ _ _ _ (fun e=>bv e.symm)).trans cg.o);have a3:Hid (Below base w (wx.setCell ⟨gc,0,none⟩ (.slice (some ⟨gB,0,none⟩) s.length c))):=aA ((HW.o.trans (i.o.mono (Ag al.o HW.o.size))).setCell HA.o.hg _)
   have a4:Hid (bV (wx.setCell ⟨gc,0,none⟩ (.slice (some ⟨gB,0,none⟩) s.length c)) At G):=aA ((HT.o.below i.o).keep (by simp) fun g cur ty ci hc=>(AH wx ⟨gc,0,none⟩ _ g (fun e=>by
    have e:g=gc:=e;rw[e,f]at hc;injection hc with hc;injection hc with _ hc _;rcases ci with rfl|rfl
    ·exact absurd hc (by decide)
    ·exact absurd hc (by decide))).trans hc)
   have bw:Hid (KeepG gc M D wc (wx.setCell ⟨gc,0,none⟩ (.slice (some ⟨gB,0,none⟩) s.length c))):=aA ((br.o.trans (.below i.o HA.o.gcl)).push cx0 (AI _ _) (.inl rfl) f);have SL:=fun w=>zgL (m:=2) w 227 Tryz.underlying227 (fun _=>by kernel_rfl) (some ⟨gB,0,none⟩) c (s++[((q:Int),x2)]).length s.length (by omega);have a5:Hid (s.length<=Lk.cntM M1):=aA (by have:=HC.o;omega);have cj:Hid (zl9 wr gc=s.length+1):=aA (by rw[zht c0];simp);have ck:=aA (zh2 HA.o.m.is)
   have ab:IntKind.i64.wrap (((s++[((q:Int),x2)]).length:Int)-1)=(s.length:Int):=by
    have:(s++[((q:Int),x2)]).length=s.length+1:=by simp
    have h9:=a5.o;have cu:=HI.o.b.cnt;have cv:=En bk.o.1 bk.o.2;rw[this,Cr _ (by omega)];omega
   have a6:(0:Int)<(((s++[((q:Int),x2)]).length:Nat):Int):=by omega
   have ac:((s.length:Nat):Int)<(((s++[((q:Int),x2)]).length:Nat):Int):=by omega
   clear F t aw ax cf ag a0 ay az f a1 bv;generalize (s++[((q:Int),x2)]).length=ln at *;obtain⟨n,hn⟩:∃n,s.length=n:=⟨_,rfl⟩
   rw[hn]at e0 e1 SL ab ac j a2 a3 a4 bw;have cw:=aA hn;clear hn;go_upto_region 7 with fail
   rw[<-ah];clear ah c0 e0 e1 a6 ab ac;go_upto_region 8 with fail
   generalize wx.setCell ⟨gc,0,none⟩ (.slice (some ⟨gB,0,none⟩) n c)=wy at *;clear cx0 fx0 lx0 SL;have cl:=aA (zhz G K E wy base B w.heap.size gc T M D AT AN AR At cT cN cR ct tl M1 D1 s q x2 b5.o (b7.o.below a3.o HB.o) HB.o a4.o j.o cd.o ce.o a5.o);have k0:=aM j.o.r;have k1:=aR j.o.r;have k2:=bF j.o.r;have k3:=bQ j.o.r;have k4:=zdZ j.o.r;have k5:=zgW j.o.r;have k6:=zjG j.o.r;have k7:=znk j.o.r;have z0:=aM a2.o;have z1:=aR a2.o;go_wp2_with fail
   refine cl.o.mono ?_;rintro _ w8 ⟨rfl,MM',DD',st',ai,bx,a9,bz,ba⟩;have cm:=aA (a4.o.keepG ba j.o);have cn:=aA (bw.o.trans ba);have co:=aA ai;have bX:=aA bx;have cp:Hid (Below base w w8):=aA (a3.o.trans bz);have cq:Hid (st'.length<=Lk.cntM MM'):=aA (by have:=a9.l;have:=a5.o;omega);have bZ:=aA a9
   have b0:Hid (zl9 w8 gc=st'.length/\zm7 w8 M=Lk.cntM MM'):=aA ⟨by
    obtain⟨v8,h1,h2⟩:=ai.v;obtain⟨A8,c8,rfl,_,_,_⟩:=aK.form h2 aJ;exact zht (Aw w8 gc 0 _ _ _ h1),zh2 ai.m.is⟩
   clear ai bx a9 bz ba k0 k1 k2 k3 k4 k5 k6 k7 z0 z1;go_wp2;go_roundw
   case rel=>exact⟨MM',DD',st',co,bX,cq,cm,cn,cp⟩
   case measure =>
    rw[b0.o.1,b0.o.2,cj.o,ck.o];have h1:=bZ.o.l;have h2:=bZ.o.c;have h3:=bX.o.b.cnt;omega
structure MvSt (G:Gm.Gr) (w:World) (base D:Nat) (l:List Au.It):Prop where
 m:∃ml,Mw.MapIs zf2 w D ml/\(∀s,(Mw.asc ml s=none/\Au.mv G l s=[]) \/ ∃v,Mw.asc ml s=some v/\Au.mv G l s≠[]/\aK 61 2 prF w base v (Au.mv G l s)) /\
  ∀s s' v v',s≠s'->Mw.asc ml s=some v->Mw.asc ml s'=some v'->v'.ownBlock≠v.ownBlock
theorem zeU {T:TypeId} {α:Type} {f:α->List Value} {xs:List α} (h:aK T m f w base v xs) (h0:xs≠[]):∃g,v.ownBlock=some g/\base<=g/\g<w.heap.size:=by
 rcases h.2 with⟨_,h1⟩|⟨g,cap,cur,rfl,hb,hg,_⟩
 ·exact absurd (Bv h1) h0
 ·exact⟨g,rfl,hb,(Ac.1 hg).1⟩
section
variable {G:Gm.Gr} {w w' w2:World} {base D:Nat} {l:List Au.It}
theorem MvSt.start (G:Gm.Gr) (w:World) (base:Nat) (h:Mw.MapIs zf2 w D []):MvSt G w base D []:=⟨[],h,fun s=>.inl ⟨rfl,rfl⟩,fun _ _ _ _ _ h=>by cases h⟩
theorem MvSt.keep (h:MvSt G w base D l) (hD:w'.heap[D]?=w.heap[D]?) (hk:∀g cur,base<=g->w.heap[g]?=some (.cells cur 61 (0,0))->w'.heap[g]?=some (.cells cur 61 (0,0))):MvSt G w' base D l:=by
 obtain⟨ml,h1,h2,h3⟩:=h;refine⟨ml,h1.block hD,fun s=>?_,h3⟩;rcases h2 s with q|⟨v,q1,q2,q3⟩
 ·exact .inl q
 ·refine .inr ⟨v,q1,q2,?_⟩;refine⟨q3.1,?_⟩;rcases q3.2 with h0|⟨g,cap,cur,e,aa,hg,hr⟩
  ·exact .inl h0
  ·exact .inr ⟨g,cap,cur,e,aa,hk g cur aa hg,hr⟩
theorem MvSt.below (h:MvSt G w base D l) (hb:Below w.heap.size w w'):MvSt G w' base D l:=h.keep (by obtain⟨ml,h1,_⟩:=h.m;exact hb.block _ h1.lt) fun g _ _ hg=>(hb.block g (Ac.1 hg).1).trans hg
theorem MvSt.skip (h:MvSt G w base D l) {x:Au.It} (hx:Au.nx G x=none):MvSt G w base D (l++[x]):=by
 obtain⟨ml,h1,h2,h3⟩:=h;refine⟨ml,h1,fun s=>?_,h3⟩;have e:Au.mv G (l++[x]) s=Au.mv G l s:=by rw[Au.mv_app,Au.mv_one_no (by rw[hx];simp),Co]
 rw[e];exact h2 s
theorem MvSt.put {ml:List (Int×Value)} {x:Au.It} (hx:Au.nx G x=some s) (h2:∀s,(Mw.asc ml s=none/\Au.mv G l s=[]) \/ ∃v,Mw.asc ml s=some v/\Au.mv G l s≠[]/\aK 61 2 prF w base v (Au.mv G l s)) (h3:∀s s' v v',s≠s'->Mw.asc ml s=some v->Mw.asc ml s'=some v'->v'.ownBlock≠v.ownBlock) (hv:v=(Mw.asc ml s).getD (.slice none 0 0)) (ho:aK 61 2 prF w' base v' (Au.mv G l s++[(x.1,x.2+1)])) (hg:w.grownBy w' v.ownBlock) (hat:v'.ownBlock=v.ownBlock \/ ∃j,w.heap.size<=j/\v'.ownBlock=some j) (hm:Mw.MapIs zf2 w2 D (Mw.putA ml s v')) (aa:w'.grownBy w2 (some D)) (hD:∃es ck,w'.heap[D]?=some (.map es ck)):MvSt G w2 base D (l++[x]):=by
 obtain⟨es,ck,ab⟩:=hD;refine⟨_,hm,fun s'=>?_,fun s1 s2 v1 v2 ac e1 e2=>?_⟩
 ·rw[Mw.asc_put];by_cases e:s=s'
  ·subst e;rw[Ap rfl];have e1:Au.mv G (l++[x]) s=Au.mv G l s++[(x.1,x.2+1)]:=by rw[Au.mv_app,Au.mv_one hx]
   rw[e1];exact .inr ⟨v',rfl,by simp,AZ ho aa (zaf ho ab fun cur e=>by cases e)⟩
  ·rw[AB e];have e1:Au.mv G (l++[x]) s'=Au.mv G l s':=by rw[Au.mv_app,Au.mv_one_no (by rw[hx];simp;exact e),Co]
   rw[e1];rcases h2 s' with q|⟨u,q1,q2,q3⟩
   ·exact .inl q
   ·have k1:aK 61 2 prF w' base u (Au.mv G l s'):=AZ q3 hg (by
     rcases h2 s with q|⟨u',p1,p2,p3⟩
     ·rw[hv,q.1];obtain⟨g,hg,_⟩:=zeU q3 q2;exact .inr (by rw[hg];intro q;cases q)
     ·rw[hv,p1];exact .inr (h3 s s' u' u e p1 q1))
    exact .inr ⟨u,q1,q2,AZ k1 aa (zaf k1 ab fun cur e=>by cases e)⟩
 ·rw[Mw.asc_put]at e1 e2
  have key:∀s2 u,s≠s2->Mw.asc ml s2=some u->u.ownBlock≠v'.ownBlock:=fun s2 u hs eu q=>by
   rcases h2 s2 with k|⟨u',p1,p2,p3⟩
   ·rw[k.1]at eu;cases eu
   ·rw[p1]at eu;injection eu with eu;subst eu;obtain⟨g,ad,_,ae⟩:=zeU p3 p2;rcases hat with hat|hat
    ·rw[hat]at q;rcases h2 s with k|⟨u2,r1,r2,r3⟩
     ·rw[hv,k.1,ad]at q;cases q
     ·rw[hv,r1]at q;exact h3 s s2 u2 u' hs r1 p1 q
    ·obtain⟨j,hj,hat⟩:=hat;rw[hat,ad]at q;injection q with q;omega
  by_cases a1:s=s1
  ·rw[Ap a1]at e1;injection e1 with e1;subst e1;by_cases a2:s=s2
   ·exact absurd (a1.symm.trans a2) ac
   ·rw[AB a2]at e2;exact key s2 v2 a2 e2
  ·rw[AB a1]at e1;by_cases a2:s=s2
   ·rw[Ap a2]at e2;injection e2 with e2;subst e2;exact fun q=>key s1 v1 a1 e1 q.symm
   ·rw[AB a2]at e2;exact h3 s1 s2 v1 v2 ac e1 e2
end
theorem ziX {a:World} {T:TypeId} (h:a.grownBy w (some D)) (ho:w.ownsRow base T m v n xs) (hg:w.grownBy w' v.ownBlock) (hb:a.heap.size<=base):a.grownBy w' (some D) :=
 ⟨hg.os.trans h.os,hg.tape.trans h.tape,hg.output.trans h.output,Ag h.size hg.size,fun i hi aa=>(hg.block i (Ao hi h.size) (fun e=>by have:=(Bs ho i e.symm).1;omega)).trans (h.block i hi aa)⟩
theorem zii (v:Value) (G:Gm.Gr) (B:Nat) (w:World) (hg:aQ w B v G) (ht:G.ts.length<=1000) (hn:G.ns.length<=1000) :
  Calls Tryz.prog 96 #[v] w fun e w'=>∃v',e=.returned v'/\aS w' w.heap.size v' (Au.syms G)/\Below w.heap.size w w':=by
 obtain⟨AT,cT,AN,cN,AR,cR,rfl,⟨ao,ap⟩,⟨aq,ar⟩,_⟩:=hg;have ae:=aA (bA.start 26 w #[.slice AT G.ts.length cT,.slice AN G.ns.length cN,.slice AR G.rs.length cR,.int .i64 G.st]);have g0:=ae.o.c 0 _ rfl;have HE:Hid (Au.syms G=(List.range G.ts.length).map (fun i:Nat=>(i:Int))++(List.range G.ns.length).map fun i:Nat=>-1-(i:Int)):=aA rfl;rw[HE.o];clear HE;have au:(G.ts.length:Int)<=1000:=by omega
 have av:(G.ns.length:Int)<=1000:=by omega
 clear ht hn
 go_enter Tryz.func96,Tryz.ntmps96
 go_wp2;clear g0;go_loopw [3,9] (fun vl vi wr=>∃i:Nat,i<=G.ts.length/\vi=.int .i64 i/\Hid (aS wr (w.heap.size+1) vl ((List.range i).map fun i:Nat=>(i:Int)))/\Hid (bA 26 w #[.slice AT G.ts.length cT,.slice AN G.ns.length cN,.slice AR G.rs.length cR,.int .i64 G.st] wr)) (fun _ vi _=>G.ts.length-(intOf vi).toNat)
 case atStart=>exact⟨0,AX _,rfl,aA (aS.nil _ _),ae⟩
 case round =>
  obtain⟨i,hi,rfl,HO,HW⟩:=hrel;have hZ:=HW.o.size;obtain⟨A1,c1,rfl,ag,ah,d⟩:=aS.form HO.o;by_cases aa:i<G.ts.length
  ·have ab:Hid (((List.range i).map fun i:Nat=>(i:Int)).length<=1000):=aA (by simp;omega);have HE:Hid (((List.range (i+1)).map fun i:Nat=>(i:Int))=((List.range i).map fun i:Nat=>(i:Int))++[(i:Int)]):=aA (by rw[Cp,AW];rfl);clear d;generalize ((List.range i).map fun i:Nat=>(i:Int))=t at *;have f:=aA (HO.o.alloc (.cells #[.int .i64 (i:Int)] 3));have b:=aA (HW.o.alloc (.cells #[.int .i64 (i:Int)] 3));go_wp2_with (at_builtin;refine zbA rfl (.tmp 12) (.tmp 14) _ rfl Tryz.underlying51 (w.heap.size+1) _ t rfl f.o _ _ (i:Int) rfl ((zah _ [.int .i64 (i:Int)] _ 0)) (by have:=ab.o;omega) b.o.size ?_;intro v2 w2 g j)
   have ac:=aA g;have ad:Hid (bA 26 w #[.slice AT G.ts.length cT,.slice AN G.ns.length cN,.slice AR G.rs.length cR,.int .i64 G.st] w2):=aA (Below.grown b.o j b.o.size (fun k e=>(Bs f.o k e).1));clear g j;go_roundw
   case rel=>exact⟨i+1,aa,by go_num,aA (by rw[HE.o];exact ac.o),ad⟩
   case measure=>simp[intOf];omega
  ·obtain rfl:i=G.ts.length:=by omega
   obtain⟨wo,ai⟩:∃wo:World,wo=wr:=⟨_,rfl⟩
   subst ai;have g1:=HW.o.c 1 _ rfl;have aj:Hid (((List.range G.ts.length).map fun i:Nat=>(i:Int)).length<=1000):=aA (by simp;omega);clear d;generalize af:((List.range G.ts.length).map fun i:Nat=>(i:Int))=tl at *;have ak:=aA af;clear af;go_wp2;clear g1;go_loopw [3,20] (fun vl vi wr=>∃i:Nat,i<=G.ns.length/\vi=.int .i64 i/\Hid (aS wr (w.heap.size+1) vl (tl++(List.range i).map fun i:Nat=>-1-(i:Int)))/\Hid (bA 26 w #[.slice AT G.ts.length cT,.slice AN G.ns.length cN,.slice AR G.rs.length cR,.int .i64 G.st] wr)) (fun _ vi _=>G.ns.length-(intOf vi).toNat)
   case atStart=>exact⟨0,AX _,rfl,by simpa using HO,HW⟩
   case round =>
    obtain⟨i,hi,rfl,HO,HW⟩:=hrel;have hZ:=HW.o.size;obtain⟨A1,c1,rfl,ag,ah,d⟩:=aS.form HO.o;by_cases aa:i<G.ns.length
    ·have ab:Hid ((tl++(List.range i).map fun i:Nat=>-1-(i:Int)).length<=2000):=aA (by have:=aj.o;simp;omega);have HE:Hid ((tl++(List.range (i+1)).map fun i:Nat=>-1-(i:Int))=(tl++(List.range i).map fun i:Nat=>-1-(i:Int))++[-1-(i:Int)]):=aA (by rw[Cp,AW,BW];rfl);have al:=aA (fun w=>zde (i:Int) (by omega) (by omega) w);clear d;generalize (tl++(List.range i).map fun i:Nat=>-1-(i:Int))=t at *;have f:=aA (HO.o.alloc (.cells #[.int .i64 (-1-(i:Int))] 3));have b:=aA (HW.o.alloc (.cells #[.int .i64 (-1-(i:Int))] 3));go_wp2_with fail
     refine(al.o _).mono ?_;rintro _ wz ⟨rfl,am⟩;subst am;go_wp2_with (at_builtin;refine zbA rfl (.tmp 23) (.tmp 26) _ rfl Tryz.underlying51 (w.heap.size+1) _ t rfl f.o _ _ (-1-(i:Int)) rfl ((zah _ [.int .i64 (-1-(i:Int))] _ 0)) (by have:=ab.o;omega) b.o.size ?_;intro v2 w2 g j)
     have ac:=aA g;have ad:Hid (bA 26 w #[.slice AT G.ts.length cT,.slice AN G.ns.length cN,.slice AR G.rs.length cR,.int .i64 G.st] w2):=aA (Below.grown b.o j b.o.size (fun k e=>(Bs f.o k e).1));clear g j;go_roundw
     case rel=>exact⟨i+1,aa,by go_num,aA (by rw[HE.o];exact ac.o),ad⟩
     case measure=>simp[intOf];omega
    ·obtain rfl:i=G.ns.length:=by omega
     have HX:Hid (aS wr w.heap.size (.slice A1 (tl++(List.range G.ns.length).map fun i:Nat=>-1-(i:Int)).length c1) (tl++(List.range G.ns.length).map fun i:Nat=>-1-(i:Int))):=aA (HO.o.mono (by omega));clear d;generalize hq:(tl++(List.range G.ns.length).map fun i:Nat=>-1-(i:Int))=q at *;have HQ:=aA hq;clear hq;go_wp2;go_ret
     exact⟨_,rfl,by rw[ak.o,HQ.o];exact HX.o,HW.o.below⟩
end Go.Proofs.YtjjbaehamplnaaaGreat
