/- Part of the proofs over this program: Work9, Term9, ShowL, Decls9, ShowSrc, ShowBld2, CfgName, ShowRule, ShowLev, Lefts9, Sym9, Prj9, Prod9, BldY, Build9, Rcopy. -/
import Derived.Maps.AppendAt
import Derived.Test.YtcmhaemaophplaaGreatXG
set_option linter.all false
namespace Go
def CA:=@List.setIfInBounds_toArray
def CB:=@List.set_cons_zero
def Dp:=@Nat.add_zero
end Go
open Go.RowKit Go.Proofs.Tryz
set_option maxRecDepth 100000
set_option maxHeartbeats 40000000
namespace Go.Proofs.YtcmhaemaophplaaGreat
variable {B N N' base base' g i n:Nat} {G:Gm.Gr} {cs:Array Go.Value} {ds:List Y.kB} {lv z:Int} {ns ns' ws:List (List Int)} {ops:Array Go.Oper} {rs rs':List Gm.Rl} {ts ts':List Gm.Tm} {v v' vN vR vT:Go.Value} {w w' wr:Go.World} {xs:List Go.Value}
def wC (vT vN vR:Value) (lv:Int):Array Value:=#[vT,vN,vR,.int .i64 0,.slice none 0 0,.string ⟨#[]⟩,.complex .f64 0 0,.bool false,.int .i64 lv,.complex .f64 0 0,.int .i64 0]
structure fX (w:World) (B N R:Nat) (cs:Array Value) (vT vN vR:Value) (ts:List Gm.Tm) (ns:List (List Int)) (rs:List Gm.Rl):Prop where
 b:w.heap[R]?=some (.cells cs 129 (0,0))
 t:bB w B vT ts
 n:bK w B vN ns
 r:bA w B N vR rs
 hR:B<=R
structure oj (w:World) (N:Nat) (row:Option Nat):Prop where
 h:∀g,row=some g->∃cs T,w.heap[g]?=some (.cells cs T (0,0))/\T≠129/\T≠81/\T≠9/\((T≠48/\T≠3)\/N<=g)
theorem oj.none (w:World) (N:Nat):oj w N .none:=⟨fun _ h=>by cases h⟩
section
variable {w w':World} {B N R:Nat} {cs:Array Value} {vT vN vR:Value} {ts:List Gm.Tm} {ns:List (List Int)} {rs:List Gm.Rl} {row:Option Nat}
theorem fX.grown (h:fX w B N R cs vT vN vR ts ns rs) (hg:w.grownBy w' row) (ho:oj w N row):fX w' B N R cs vT vN vR ts ns rs:=by
 have hb:some R≠row:=fun e=>by
  obtain⟨cs,T,h1,h2,_⟩:=ho.h R e.symm;exact aQ h1 h2 _ h.b
 refine⟨(hg.block R (Ad.1 h.b).1 hb).trans h.b,AO h.t hg ?_,AO h.n hg ?_,h.r.grown hg ?_,h.hR⟩
 ·rcases row with _|g
  ·exact vB _
  ·obtain⟨cs,T,h1,_,h2,_⟩:=ho.h g rfl;exact aO h.t h1 (fun cur e=>by injection e with _ e;exact h2 e)
 ·rcases row with _|g
  ·exact vB _
  ·obtain⟨cs,T,h1,_,_,h2,_⟩:=ho.h g rfl;exact aO h.n h1 (fun cur e=>by injection e with _ e;exact h2 e)
 ·intro g e;obtain⟨cs,T,h1,_,_,_,h2⟩:=ho.h g e;rcases h2 with q|q
  ·exact .inl ⟨aQ h1 q.2,aQ h1 q.1⟩
  ·exact .inr q
theorem fX.below (h:fX w B N R cs vT vN vR ts ns rs) (hb:Below w.heap.size w w'):fX w' B N R cs vT vN vR ts ns rs:=h.grown (aK hb .none) (oj.none _ _)
theorem fX.alloc (h:fX w B N R cs vT vN vR ts ns rs) (o:Obj):fX (w.alloc o) B N R cs vT vN vR ts ns rs:=h.grown (Dh w o .none) (oj.none _ _)
theorem fX.y8 (h:fX w B N R cs vT vN vR ts ns rs) (ht:bB w' B v' ts') (hg:w.grownBy w' vT.ownBlock):fX w' B N R cs v' vN vR ts' ns rs:=by
 refine⟨qE h.b h.t (by decide) hg,ht,AO h.n hg (aP h.n h.t (by decide)),h.r.grown hg (fun g e=>.inl ?_),h.hR⟩;obtain⟨_,cur,hc⟩:=aM h.t e;exact⟨aQ hc (by decide),aQ hc (by decide)⟩
theorem fX.Fg (h:fX w B N R cs vT vN vR ts ns rs) (ht:bK w' B v' ns') (hg:w.grownBy w' vN.ownBlock):fX w' B N R cs vT v' vR ts ns' rs:=by
 refine⟨qE h.b h.n (by decide) hg,AO h.t hg (aP h.t h.n (by decide)),ht,h.r.grown hg (fun g e=>.inl ?_),h.hR⟩;obtain⟨_,cur,hc⟩:=aM h.n e;exact⟨aQ hc (by decide),aQ hc (by decide)⟩
theorem fX.Fp (h:fX w B N R cs vT vN vR ts ns rs) (ht:bA w' B N' v' rs') (hg:w.grownBy w' vR.ownBlock):fX w' B N' R cs vT vN v' ts ns rs':=by
 obtain⟨qs,_,h2,_⟩:=id h.r;exact⟨qE h.b h2 (by decide) hg,AO h.t hg (aP h.t h2 (by decide)),AO h.n hg (aP h.n h2 (by decide)),ht,h.hR⟩
theorem fX.set (h:fX w B N R cs vT vN vR ts ns rs) (j:Nat) (u:Value):fX (w.setCell ⟨R,j,none⟩ u) B N R (cs.setIfInBounds j u) vT vN vR ts ns rs:=by
 have hg:w.grownBy (w.setCell ⟨R,j,none⟩ u) (some R):=aF (AJ _ _) j u;refine⟨AZ w R j _ _ u h.b,AO h.t hg (aO h.t h.b (fun cur e=>by injection e with _ e;cases e)),AO h.n hg (aO h.n h.b (fun cur e=>by injection e with _ e;cases e)),h.r.grown hg (fun g e=>.inl ?_),h.hR⟩;injection e with e;subst e;exact⟨aQ h.b (by decide),aQ h.b (by decide)⟩
theorem fX.more {N':Nat} (h:fX w B N R cs vT vN vR ts ns rs) (hN:N<=N'):fX w B N' R cs vT vN vR ts ns rs:=⟨h.b,h.t,h.n,h.r.more hN,h.hR⟩
theorem fX.at (h:fX w B N R cs vT vN vR ts ns rs) (j:Nat):w.cell? ⟨R,j,none⟩=cs[j]?/\w.frozen? ⟨R,j,none⟩=false/\R<w.heap.size :=
 ⟨AF w R j _ _ _ h.b,AH w R j _ _ h.b,(Ad.1 h.b).1⟩
theorem fX.lt (h:fX w B N R cs vT vN vR ts ns rs):R<w.heap.size:=(Ad.1 h.b).1
theorem fX.rd (h:fX w B N R cs vT vN vR ts ns rs) (hN:N<=w.heap.size) (z:Int):aT w w.heap.size (.agg #[vT,vN,vR,.int .i64 z]) ⟨ts,ns,rs,z⟩:=by
 obtain⟨AT,cT,rfl,h1,h2⟩:=Gs h.t;obtain⟨AN,cN,rfl,h3,h4⟩:=Gh h.n;obtain⟨AR,cR,rfl,h5,h6⟩:=Gt h.r hN;exact⟨AT,cT,AN,cN,AR,cR,rfl,h1,h3,h5,h2,h4,h6⟩
end
def jf (w w':World):Prop:=∀(g:Nat) (cs:Array Value) (T:TypeId),w.heap[g]?=some (.cells cs T (0,0))->T≠129->T≠81->w'.heap[g]?=some (.cells cs T (0,0))
def mg (w w':World):Prop:=∀(g:Nat) (cs:Array Value) (T:TypeId),w.heap[g]?=some (.cells cs T (0,0))->T≠129->T≠81->T≠9->T≠48->w'.heap[g]?=some (.cells cs T (0,0))
theorem jf.refl (w:World):jf w w:=fun _ _ _ h _ _=>h
theorem mg.refl (w:World):mg w w:=fun _ _ _ h _ _ _ _=>h
theorem jf.trans {a b c:World} (h:jf a b) (k:jf b c):jf a c:=fun g cs T h1 h2 h3=>k g cs T (h g cs T h1 h2 h3) h2 h3
theorem mg.trans {a b c:World} (h:mg a b) (k:mg b c):mg a c:=fun g cs T h1 h2 h3 h4 h5=>k g cs T (h g cs T h1 h2 h3 h4 h5) h2 h3 h4 h5
theorem jf.a (h:jf w w'):mg w w':=fun g cs T h1 h2 h3 _ _=>h g cs T h1 h2 h3
theorem jf.below (h:Below w.heap.size w w'):jf w w':=fun g _ _ h1 _ _=>(h.block g (Ad.1 h1).1).trans h1
theorem mg.below {w w':World} (h:Below w.heap.size w w'):mg w w':=(jf.below h).a
theorem jf.cells (h:w.grownBy w' (some g)) {T:TypeId} (hg:w.heap[g]?=some (.cells cs T (0,0))) (hT:T=129\/T=81):jf w w':=fun k cs' T' h1 h2 h3=>by
 refine(h.block k (Ad.1 h1).1 (fun e=>?_)).trans h1;injection e with e;subst e;rw[hg]at h1;injection h1 with h1;injection h1 with _ h1;rcases hT with q|q
 ·exact h2 (h1.symm.trans q)
 ·exact h3 (h1.symm.trans q)
theorem mg.cells (h:w.grownBy w' (some g)) {T:TypeId} (hg:w.heap[g]?=some (.cells cs T (0,0))) (hT:T=129\/T=81\/T=9\/T=48):mg w w':=fun k cs' T' h1 h2 h3 h4 h5=>by
 refine(h.block k (Ad.1 h1).1 (fun e=>?_)).trans h1;injection e with e;subst e;rw[hg]at h1;injection h1 with h1;injection h1 with _ h1;rcases hT with q|q|q|q
 ·exact h2 (h1.symm.trans q)
 ·exact h3 (h1.symm.trans q)
 ·exact h4 (h1.symm.trans q)
 ·exact h5 (h1.symm.trans q)
theorem jf.own {size:Nat} (ho:w.ownsRow base 81 size v n xs) (h:w.grownBy w' v.ownBlock):jf w w':=by
 rcases hv:v.ownBlock with _|k
 ·rw[hv]at h;exact fun g _ _ h1 _ _=>(h.block g (Ad.1 h1).1 (by simp)).trans h1
 ·rw[hv]at h;obtain⟨_,cur,hc⟩:=aM ho hv;exact jf.cells h hc (.inr rfl)
theorem mg.own {size:Nat} {e:TypeId} (ho:w.ownsRow base e size v n xs) (h:w.grownBy w' v.ownBlock) (he:e=81\/e=9\/e=48):mg w w':=by
 rcases hv:v.ownBlock with _|k
 ·rw[hv]at h;exact fun g _ _ h1 _ _ _ _=>(h.block g (Ad.1 h1).1 (by simp)).trans h1
 ·rw[hv]at h;obtain⟨_,cur,hc⟩:=aM ho hv;exact mg.cells h hc (.inr he)
theorem jf.set {R:Nat} (h:fX w B N R cs vT vN vR ts ns rs) (j:Nat) (u:Value):jf w (w.setCell ⟨R,j,none⟩ u):=jf.cells (aF (AJ w (some R)) j u) h.b (.inl rfl)
def Wk (w:World) (B N R:Nat) (ts:List Gm.Tm) (ns:List (List Int)) (rs:List Gm.Rl) (lv:Int):Prop:=∃vT vN vR,fX w B N R (wC vT vN vR lv) vT vN vR ts ns rs
theorem Wk.below {w w':World} {B N R:Nat} {ts:List Gm.Tm} {ns:List (List Int)} {rs:List Gm.Rl} {lv:Int} (h:Wk w B N R ts ns rs lv) (hb:Below w.heap.size w w'):Wk w' B N R ts ns rs lv:=by
 obtain⟨vT,vN,vR,h⟩:=h;exact⟨vT,vN,vR,h.below hb⟩
theorem Wk.alloc {w:World} {B N R:Nat} {ts:List Gm.Tm} {ns:List (List Int)} {rs:List Gm.Rl} {lv:Int} (h:Wk w B N R ts ns rs lv) (o:Obj):Wk (w.alloc o) B N R ts ns rs lv:=by
 obtain⟨vT,vN,vR,h⟩:=h;exact⟨vT,vN,vR,h.alloc o⟩
theorem Wk.more {w:World} {B N N' R:Nat} {ts:List Gm.Tm} {ns:List (List Int)} {rs:List Gm.Rl} {lv:Int} (h:Wk w B N R ts ns rs lv) (hN:N<=N'):Wk w B N' R ts ns rs lv:=by
 obtain⟨vT,vN,vR,h⟩:=h;exact⟨vT,vN,vR,h.more hN⟩
theorem Wk.lt {w:World} {B N R:Nat} {ts:List Gm.Tm} {ns:List (List Int)} {rs:List Gm.Rl} {lv:Int} (h:Wk w B N R ts ns rs lv):R<w.heap.size/\B<=R:=by
 obtain⟨vT,vN,vR,h⟩:=h;exact⟨h.lt,h.hR⟩
theorem O0 (s:ByteArray) (w:World):(Instr.build 81 #[(0,.string s)]).run prog w=.ok (.agg #[.string s,.int .i64 0,.int .i64 0]) w:=EG w 81 _ _ (by kernel_rfl)
theorem Rh {o:Oper} {a:Act} {KK:Act->World->Prop} {Q:Exit->Act->World->Prop} (s x:Operand) (t:TypeId) (ho:o.op=.call {callee:=.builtin .append,args:=#[s,x],argTypes:=#[t,t]}) (ht:prog.underlying t=some (.slice 81)) (base:Nat) (v:Value) (ts:List Gm.Tm) (hs:a.eval s=v) (ab:bB w base v ts) (g c:Nat) (y:Gm.Tm) (hx:a.eval x=.slice (some ⟨g,0,none⟩) 1 c) (hz:∀j,w.cell? ⟨g,j,none⟩=(mf y)[j]?) (ac:ts.length<=1000000) (aa:base<=w.heap.size) (hK:∀v' w',bB w' base v' (ts++[y])->w.grownBy w' v.ownBlock->KK (a.put o.dst v') w') :
  o.wp prog a w KK Q:=by
 obtain⟨i,hi,ad,ae,af⟩:=Cs LS;refine EC w s x t ho base 81 i _ 3 32 ht hi ad ae af rfl (by decide) v ts.length (ye ts) hs ab ⟨g,0,none⟩ 1 c (mf y) hx rfl ?_ ?_ (by unfold maxLen;omega) (by omega) aa fun v' w' h1 h2 _=>hK v' w' ?_ h2
 ·intro j u hj;rw[rX,BG];exact(hz j).trans hj
 ·intro u hu;simp[mf]at hu;rcases hu with rfl|rfl|rfl <;> rfl
 ·unfold bB ye;rw[AW,B4,Cw];exact h1
theorem Ou (L:List Int) (B N R:Nat) (ts ts':List Gm.Tm) (ns:List (List Int)) (rs:List Gm.Rl) (lv n:Int) (x:fw) (w:World) (hw:Wk w B N R ts ns rs lv) (hf:Gm.Fit ⟨ts,ns,rs,0⟩) (hx:K.Tx x.t) (hN:N<=w.heap.size) (hB:B<=w.heap.size) (hp:Gm.put ts x=.ok (ts',n)) (ac:ts.length<=24) :
  Calls prog 132 #[.pointer (some ⟨R,0,none⟩),sQ L x] w fun e w'=>e=.returned (.int .i64 n)/\Wk w' B N R ts' ns rs lv/\Below B w w'/\jf w w':=by
 have HW:=aA hw;obtain⟨vT,vN,vR,h⟩:=hw;have HH:=aA h;obtain⟨AT,cT,rfl,bb,_⟩:=aN h.t;obtain⟨AN,cN,rfl,_,_⟩:=aN h.n;have ay:∃AR cR,vR=.slice AR rs.length cR:=by obtain⟨qs,_,h2,_⟩:=id h.r;obtain⟨A,c,e,_⟩:=aN h2;exact⟨A,c,e⟩
 obtain⟨AR,cR,rfl⟩:=ay;obtain⟨k0,az,l⟩:=h.at 0;have k1:=(h.at 1).1;have k2:=(h.at 2).1;have k3:=(h.at 3).1;simp only[wC,Az,Am,Ap]at k0 k1 k2 k3;have HX:=aA (AB w.heap.size w);unfold sQ;obtain⟨w1,ad⟩:∃y,y=w.alloc (.cells #[.string (K.str x.t),.complex .f64 (Fl.fl (Pl.pos (L.take x.o)).1) (Fl.fl (Pl.pos (L.take x.o)).2)] 127):=⟨_,rfl⟩
 have i:Hid (Below w.heap.size w w1):=aA (by rw[ad];exact(AB _ _).alloc (Af _) _);have ah:Hid (w1.heap[w.heap.size]?=some (.cells #[.string (K.str x.t),.complex .f64 (Fl.fl (Pl.pos (L.take x.o)).1) (Fl.fl (Pl.pos (L.take x.o)).2)] 127 (0,0))):=aA (by rw[ad];exact AG w _);have HT:=aA (fun(y:World) (hb:Below w1.heap.size w1 y)=>Gc (.agg #[.slice AT ts.length cT,.slice AN ns.length cN,.slice AR rs.length cR,.int .i64 0]) ⟨ts,ns,rs,0⟩ x.t w.heap.size y ((h.rd hN 0).below (i.o.trans (hb.mono i.o.size)) (Af _)) hf hx (Aj i.o.size hb.size));unfold Gm.term at HT;unfold Gm.put at hp;have HP:=aA hp;have HF:=aA hf;clear hp h hf
 go_enter func132,ntmps132
 go_wp2_with fail
 rw[<-ad];clear ad;have hk:=i.o;have p0:=(hk.cell (p:=⟨R,0,none⟩) l).trans k0;have p1:=(hk.cell (p:=⟨R,1,none⟩) l).trans k1;have p2:=(hk.cell (p:=⟨R,2,none⟩) l).trans k2;have p3:=(hk.cell (p:=⟨R,3,none⟩) l).trans k3;have ae:R<w1.heap.size:=Ah l hk.size;have ap:w.heap.size<w1.heap.size:=(Ad.1 ah.o).1;have t0:=aS ah.o;have Q0:=fun y:Calm.On w1.heap.size w1=>(y.2.cell (p:=⟨R,0,none⟩) ae).trans p0;have Q1:=fun y:Calm.On w1.heap.size w1=>(y.2.cell (p:=⟨R,1,none⟩) ae).trans p1;have Q2:=fun y:Calm.On w1.heap.size w1=>(y.2.cell (p:=⟨R,2,none⟩) ae).trans p2;have Q3:=fun y:Calm.On w1.heap.size w1=>(y.2.cell (p:=⟨R,3,none⟩) ae).trans p3;have Q4:=fun y:Calm.On w1.heap.size w1=>(y.2.cell (p:=⟨w.heap.size,0,none⟩) ap).trans t0;clear hk;refine CalmN.fk (fun x=>∃y:Calm.On w1.heap.size w1,x=y.1) (.one [0,1,2,3,4,5] 6 (.fin [7])) (by kernel_rfl) (by kernel_rfl) (fun _ _ d _ _ h=>by cases d <;> exact h) ⟨⟨w1.drew,aB (AB _ _) 1⟩,rfl⟩ ?_;simp only[CalmN.fN,CalmN.fv,CalmN.fo,Az,Am,Ap];repeat (go_big_quiet_step (fail))
 refine Aw ?_;clear Q0 Q1 Q2 Q3 Q4 p0 p1 p2 p3 t0 k0 k1 k2 k3;intro KK f;rw[AC (by rfl)];go_wp2_with fail
 refine(HT.o w1.drew (aB (AB _ _) 1)).mono ?_;rintro _ w2 ⟨rfl,aq⟩;have b:Below w1.heap.size w1 w2:=(aB (AB w1.heap.size w1) 1).trans aq;have a0:=aA b;clear aq;go_wp2_with fail
 refine f _ _ ⟨⟨w2,b⟩,rfl⟩ _ (fun _ h=>h) ⟨⟨w2,b⟩,rfl⟩ ?_;repeat (go_big_quiet_step (fail))
 refine Aw ?_;have g:=aA (i.o.trans (b.mono i.o.size));have j:=aA (HH.o.below g.o);have ai:=aA ((b.block w.heap.size ap).trans ah.o);clear b f;by_cases h0:0<=Gm.find (Gm.names ts) x.t
 ·have HE:Hid (ts=ts'/\Gm.find (Gm.names ts) x.t=n):=aA (by have h:=HP.o;rw[AC h0]at h;injection h with h;exact⟨congrArg Prod.fst h,congrArg Prod.snd h⟩);rw[HE.o.2]at h0 ⊢;go_wp2;go_ret
  exact⟨rfl,⟨_,_,_,by rw[<-HE.o.1];exact j.o⟩,g.o.mono hB,jf.below g.o⟩
 ·have HE:Hid (ts++[⟨x.t,0,0⟩]=ts'/\(ts.length:Int)=n/\ts.length≠24):=aA (by
   have h:=HP.o;rw[AI h0]at h;by_cases ac:ts.length=24
   ·rw[AC ac]at h;cases h
   ·rw[AI ac]at h;injection h with h;exact⟨congrArg Prod.fst h,congrArg Prod.snd h,ac⟩)
  have a1:((ts.length:Int)==24)=false:=Ba.2 (by have:=HE.o.2.2;omega);obtain⟨k0,az,bc⟩:=j.o.at 0;simp only[wC,Az,Am]at k0;generalize Gm.find (Gm.names ts) x.t=z at *;go_wp2_with fail
  have aa:=ai;have aj:=aA (g.o.mono hB);have a2:=aA ((j.o.alloc (.cells (mf ⟨x.t,0,0⟩).toArray 81)).t);have a3:Hid (B<=(w2.alloc (.cells (mf ⟨x.t,0,0⟩).toArray 81)).drew.heap.size):=aA (by have:=g.o.size;simp;omega);have a4:=aA (tS w2 (mf ⟨x.t,0,0⟩) 81);have af:Hid ((w2.alloc (.cells (mf ⟨x.t,0,0⟩).toArray 81)).heap[w.heap.size]?=w2.heap[w.heap.size]?):=aA (((AB _ w2).alloc (Af _) _).block _ (Ad.1 ai.o).1);have RB:=fun w=>O0 (K.str x.t) w;have D8:=fun y:Calm.kO w.heap.size w2=>aS (y.2.trans ai.o);refine CalmN.fk (fun y=>∃z:Calm.kO w.heap.size w2,y=z.1) (.two [0,1,2,3,4,6,7,8] 5 (.one [] 9 (.one [] 10 (.one [11,12,13] 14 (.fin [])))) 9 (.one [] 5 (.one [] 10 (.one [11,12,13] 14 (.fin []))))) (by kernel_rfl) (by kernel_rfl) (fun _ _ d _ _ h=>by cases d <;> exact h) ⟨⟨w2.drew,rfl⟩,rfl⟩ ?_;simp only[CalmN.fN,CalmN.fv,CalmN.fo,Az,Am,Ap];repeat (go_big_quiet_step (fail))
  refine Aw ?_;clear D8;refine⟨?_,?_⟩
  focus
   intro KK f;rw[AC (by rfl)];go_wp2_with fail
   refine f _ _ ⟨⟨w2.drew,rfl⟩,rfl⟩ _ (fun _ h=>h) ⟨⟨w2.drew,rfl⟩,rfl⟩ ?_
  rotate_left
  focus
   intro KK f;rw[AC (by rfl)];go_wp2_with fail
   refine f _ _ ⟨⟨(w2.alloc (.cells (mf ⟨x.t,0,0⟩).toArray 81)).drew,af.o⟩,rfl⟩ _ (fun _ h=>h) ⟨⟨(w2.alloc (.cells (mf ⟨x.t,0,0⟩).toArray 81)).drew,af.o⟩,rfl⟩ ?_
  all_goals
   refine Aw ?_;intro KK f;try rw[AC (by rfl)]
   go_wp2_with fail
   refine f _ _ ⟨⟨(w2.alloc (.cells (mf ⟨x.t,0,0⟩).toArray 81)).drew,af.o⟩,rfl⟩ _ (fun _ h=>h) ⟨⟨(w2.alloc (.cells (mf ⟨x.t,0,0⟩).toArray 81)).drew,af.o⟩,rfl⟩ ?_;refine Aw ?_;intro KK f;try rw[AC (by rfl)]
   refine Rh (w:=(w2.alloc (.cells (mf ⟨x.t,0,0⟩).toArray 81)).drew) (.tmp 31) (.tmp 35) _ rfl underlying22 B (.slice AT ts.length cT) ts rfl a2.o _ 1 ⟨x.t,0,0⟩ rfl a4.o (by omega) a3.o ?_;intro v7 w7 ak ab;have ag:=(xW (w2.alloc (.cells (mf ⟨x.t,0,0⟩).toArray 81)) _).trans ab;obtain⟨A7,c7,ar,_,_⟩:=aN ak;rw[show(ts++[(⟨x.t,0,0⟩:Gm.Tm)]).length=ts.length+1 by simp]at ar;subst ar;have al:=(j.o.alloc (.cells (mf ⟨x.t,0,0⟩).toArray 81)).y8 ak ag;have am:=aA al;obtain⟨k7,a5,bd⟩:=al.at 0;simp only[wC,Az,Am]at k7;have ao:=(jf.below ((AB _ w2).alloc (Af _) (.cells (mf ⟨x.t,0,0⟩).toArray 81))).trans (jf.own (j.o.alloc (.cells (mf ⟨x.t,0,0⟩).toArray 81)).t ag);have a6:=aA ao;have au:Hid (w7.heap[w.heap.size]?=w2.heap[w.heap.size]?):=aA ((ao _ _ _ aa.o (by decide) (by decide)).trans aa.o.symm);have a9:=aA ((aj.o.alloc (Aj hB g.o.size) (.cells (mf ⟨x.t,0,0⟩).toArray 81)).grown ag (by have:=g.o.size;simp;omega) (fun k e=>(aM j.o.t e).1));clear ak ag ab al ao;go_wp2_with fail
   refine f _ _ ⟨⟨w7,au.o⟩,rfl⟩ _ (fun _ h=>h) ⟨⟨w7,au.o⟩,rfl⟩ ?_;repeat (go_big_quiet_step (fail))
   refine Aw ?_;intro KK f;try rw[AC (by rfl)]
   go_wp2_with fail
   have av:=aA (am.o.set 0 (.slice A7 (ts.length+1) c7));have aw:=aA (a6.o.trans (jf.set am.o 0 (.slice A7 (ts.length+1) c7)));have ba:=aA (a9.o.setCell (p:=⟨R,0,none⟩) am.o.hR (.slice A7 (ts.length+1) c7));have ax:Hid ((w7.setCell ⟨R,0,none⟩ (.slice A7 (ts.length+1) c7)).heap[w.heap.size]?=w2.heap[w.heap.size]?):=aA ((aw.o _ _ _ aa.o (by decide) (by decide)).trans aa.o.symm);refine f _ _ ⟨⟨_,ax.o⟩,rfl⟩ _ (fun _ h=>h) ⟨⟨_,ax.o⟩,rfl⟩ ?_;refine Aw ?_;obtain⟨k8,_,bf⟩:=av.o.at 0;simp only[wC,CA,CB,Az,Am]at k8;clear k7 a5;go_wp2;go_ret
   refine⟨by simp;exact HE.o.2.1,⟨_,_,_,by rw[<-HE.o.1];exact av.o⟩,ba.o,(jf.below g.o).trans aw.o⟩
namespace Sh
def key (x:fw):Int×List Int:=(x.k,x.t)
end Sh
def EV (B D:Nat) (w:World):Type:={x:World // Below B w x/\x.heap[D]?=w.heap[D]?}
instance (B D:Nat) (w:World):Nonempty (EV B D w):=⟨⟨w,AB _ _,rfl⟩⟩
structure J9 (s:Gm.S1) (ns:List (List Int)) (rs:List Gm.Rl):Prop where
 f:Gm.Fit ⟨s.ts,ns,rs,0⟩
 h:s.ts.length<=24
 v:0<=s.lv
theorem Fit.put {n:Int} {x:fw} (h:Gm.Fit ⟨ts,ns,rs,z⟩) (hx:K.Tx x.t) (hp:Gm.put ts x=.ok (ts',n)):Gm.Fit ⟨ts',ns,rs,z⟩:=by
 rcases Gm.rF hp with⟨j,_,rfl,_⟩|⟨_,rfl,_,_⟩
 ·exact h
 ·refine⟨fun t ht=>?_,h.n,h.r,h.s⟩;rcases Bt.1 ht with h1|h1
  ·exact h.t t h1
  ·simp at h1;subst h1;exact⟨hx,by unfold Gm.In;simp,by unfold Gm.In;simp⟩
theorem Mj {n:Int} {x:fw} (h:ts.length<=24) (hp:Gm.put ts x=.ok (ts',n)):ts'.length<=24:=by
 rcases Gm.rF hp with⟨j,_,rfl,_⟩|⟨_,rfl,_,q⟩
 ·exact h
 ·simp;omega
theorem J9.step {s s':Gm.S1} {x:fw} {k:Int} (h:J9 s ns rs) (hk:k=4\/k=5) (hx:K.Tx x.t) (hv:s.lv<=1000000) (hd:Gm.uc k s x=.ok s') :
  J9 s' ns rs/\s'.lv=s.lv/\(¬(0<=Gm.find (Gm.names s.ts) x.t/\0<(s.ts.map Gm.Tm.lv).getD (Gm.find (Gm.names s.ts) x.t).toNat 0))/\∃ts' n,Gm.put s.ts x=.ok (ts',n)/\s'.ts=ts'.modify n.toNat fun t=>⟨t.nm,s.lv,k-3⟩:=by
 unfold Gm.uc at hd;rw[AI (by omega),AI (by omega)]at hd;by_cases h0:0<=Gm.find (Gm.names s.ts) x.t/\0<(s.ts.map Gm.Tm.lv).getD (Gm.find (Gm.names s.ts) x.t).toNat 0
 ·rw[AC h0]at hd;cases hd
 ·rw[AI h0]at hd;obtain⟨⟨ts',n⟩,hp,hd⟩:=Gm.R.bind_eq hd;injection hd with hd;subst hd;have hf:=Fit.put h.f hx hp;refine⟨⟨⟨fun t ht=>?_,h.f.n,h.f.r,h.f.s⟩,?_,h.v⟩,rfl,h0,ts',n,hp,rfl⟩
  ·rcases Gm.mem_modify ht with q|⟨hn,rfl⟩
   ·exact hf.t t q
   ·have:=hf.t _ (AE hn)
    have aa:=h.v;exact⟨this.1,by unfold Gm.In;simp only;omega,by unfold Gm.In;simp only;omega⟩
  ·show(ts'.modify _ _).length<=24
   rw[List.length_modify];exact Mj h.h hp
theorem Tc (L:List Int) (B N R:Nat) (ns:List (List Int)) (rs:List Gm.Rl) (ds:List Y.kB) (S S2:Gm.S1) (A:Option Addr) (c:Nat) (w:World) (hw:Wk w B N R S.ts ns rs S.lv) (hJ:J9 S ns rs) (hk:xD ds) (hx:∀d∈ds,(∀x∈d.ns,K.Tx x.t/\Gm.named x.t=true)/\d.ns.length<=1000000) (hr:zy L w B A ds) (hN:N<=w.heap.size) (hB:B<=w.heap.size) (ae:S.lv=0) (ab:ds.length<=1000) (hp:Gm.decls S ds=.ok S2) :
  Calls prog 64 #[.pointer (some ⟨R,0,none⟩),.slice A ds.length c] w fun e w'=>e=.returned (.tuple #[])/\(Wk w' B N R S2.ts ns rs S2.lv/\J9 S2 ns rs)/\Below B w w'/\jf w w':=by
 unfold xD at hk;subst hk;rw[Gm.decls]at hp;injection hp with hp;subst hp;obtain⟨vT,vN,vR,aa⟩:=id hw;have f10:=(aa.at 10).1;simp only[wC,Az,Am,Ap]at f10;have ac:=aA hw;have ad:=aA hJ;clear aa hw hJ
 go_enter func64,ntmps64
 go_wp2;go_loopw [4] (fun vi wr=>vi=.int .i64 0/\wr=w) (fun _ _=>0)
 case atStart=>exact⟨rfl,rfl⟩
 case round =>
  obtain⟨rfl,rfl⟩:=hrel;go_wp2;go_end0
  exact⟨rfl,⟨ac.o,ad.o⟩,AB _ _,jf.refl _⟩
namespace Sh
open Y
abbrev DD:=Int×List (List Int)
end Sh
namespace Gm
theorem nQ {ts:List Tm} {x:fw} (h:0<=find (names ts) x.t):put ts x=.ok (ts,find (names ts) x.t):=by
 unfold put;rw[AC h]
end Gm
def MQ (rs:List Gm.Rl) (k:Nat):Prop:=∀i (h:i<rs.length),i<k->rs[i].r.length<=20
theorem OL (v:Value) (G:Gm.Gr) (B:Nat) (w:World) (hg:aT w B v G) (hB:B<=w.heap.size) :
  Calls prog 8 #[v] w fun e w'=>e=.returned (.bool (Gm.nJ G))/\Below w.heap.size w w':=by
 have HB:=aA (fun o=>(AB w.heap.size w).alloc (Af _) o);obtain⟨AT,cT,AN,cN,AR,cR,rfl,⟨ac,ad⟩,⟨ae,af⟩,⟨ag,ah⟩,_,_,hr⟩:=hg;have HR:=aA hr;clear hr;unfold Gm.nJ;by_cases h1:40<G.ts.length
 ·rw[AQ h1]
  go_enter func8,ntmps8
  go_wp2;go_ret
  exact⟨rfl,HB.o _⟩
 by_cases h2:40<G.ns.length
 ·rw[AQ h2];simp only[Ev,Dw]
  go_enter func8,ntmps8
  go_wp2;go_ret
  exact⟨rfl,HB.o _⟩
 by_cases h3:60<G.rs.length
 ·rw[AQ h3];simp only[Ev,Dw]
  go_enter func8,ntmps8
  go_wp2;go_ret
  exact⟨rfl,HB.o _⟩
 rw[AM h1,AM h2,AM h3];simp only[ES];have ab:G.rs.length<=60:=by omega
 go_enter func8,ntmps8
 go_wp2
 go_loop [3] (fun vi=>∃(k:Nat),k<=G.rs.length/\vi=.int .i64 k/\MQ G.rs k) (fun vi=>G.rs.length-(intOf vi).toNat)
 case atStart=>exact⟨0,AV _,rfl,fun _ _ h=>by omega⟩
 case round =>
  obtain⟨k,hk,rfl,hn⟩:=hrel;have HN:=aA hn;clear hn;by_cases aa:k<G.rs.length
  ·obtain⟨g,o,rfl,ai,hc⟩:=HR.o (by omega);obtain⟨_,⟨A',c',k1,k2,k3,_⟩,_⟩:=hc k aa;have aj:g<w.heap.size:=by omega
   by_cases hx:20<G.rs[k].r.length
   ·have HE:Hid ((G.rs.any fun r=>decide (20<r.r.length))=true):=aA (EO.2 ⟨_,AE aa,by simpa using hx⟩);generalize G.rs[k].r.length=m at *;clear hc;go_wp2;go_ret
    exact⟨aE HE.o.symm,HB.o _⟩
   ·have HE:Hid (MQ G.rs (k+1)):=aA (fun i hi ak=>by
     rcases Bx i k with q|q
     ·exact HN.o i hi q
     ·obtain rfl:i=k:=by omega
      omega)
    generalize G.rs[k].r.length=m at *;clear hc;go_wp2
    go_round
    case rel=>exact⟨k+1,by omega,by go_num,HE.o⟩
    case measure=>simp[intOf];omega
  ·obtain rfl:k=G.rs.length:=by omega
   have HE:Hid ((G.rs.any fun r=>decide (20<r.r.length))=false):=aA (by
    rw[DW];intro x hx;obtain⟨i,hi,rfl⟩:=BF hx
    have:=HN.o i hi hi
    simp;omega)
   go_wp2;go_ret
   exact⟨aE HE.o.symm,HB.o _⟩
theorem bK.alloc (h:bK w base v ws) (o:Obj):bK (w.alloc o) base v ws:=C5 h o
theorem bK.less (h:bK w base v ws) (hb:base'<=base):bK w base' v ws:=by
 refine⟨h.1,?_⟩;rcases h.2 with h0|⟨g,cap,cur,e,aa,hr⟩
 ·exact .inl h0
 ·exact .inr ⟨g,cap,cur,e,by omega,hr⟩
theorem bK.drewN (h:bK w base v ws) (n:Nat):bK (w.drewN n) base v ws:=h
theorem bK.below (h:bK w base v ws) (hb:Below w.heap.size w w'):bK w' base v ws :=
 AO h (aK hb .none) (by rcases v.ownBlock with _|k;exact .inl rfl;exact .inr (by simp))
theorem bK.form (h:bK w base v ws):∃A c,v=.slice A ws.length c/\ws.length<=c/\c<=maxLen:=aN h
theorem QL {o:Oper} {a:Act} {KK:Act->World->Prop} {Q:Exit->Act->World->Prop} (s x:Operand) (t:TypeId) (ho:o.op=.call {callee:=.builtin .append,args:=#[s,x],argTypes:=#[t,t]}) (ht:prog.underlying t=some (.slice 9)) (base:Nat) (v:Value) (ts:List (List Int)) (hs:a.eval s=v) (ab:bK w base v ts) (g c:Nat) (y:List Int) (hx:a.eval x=.slice (some ⟨g,0,none⟩) 1 c) (hz:w.cell? ⟨g,0,none⟩=some (.string (K.str y))) (ac:ts.length<=1000000) (aa:base<=w.heap.size) (hK:∀v' w',bK w' base v' (ts++[y])->w.grownBy w' v.ownBlock->(v'.ownBlock=v.ownBlock\/v'.ownBlock=some w.heap.size)->KK (a.put o.dst v') w') :
  o.wp prog a w KK Q:=by
 obtain⟨i,hi,ad,ae,af⟩:=Cs IX
 obtain⟨v',w',hr,h2,h3,h4,h5⟩:=run_append_own_at (P:=prog) w base t o.type 9 i (.string ⟨#[]⟩) 1 16 ht hi ad ae af rfl (by decide) v ts.length (tI ts) ab ⟨g,0,none⟩ 1 c [.string (K.str y)] rfl (by
  intro j u hj;rw[rX,BG];rcases j with _|j
  ·simp at hj;rw[<-hj];exact hz
  ·simp at hj) (by intro u hu;simp at hu;rcases hu with rfl;rfl) (by unfold maxLen;omega) (by omega) aa
 unfold Oper.wp execOp;simp only[ho,resolve,invoke,builtin,Et,Dl,EL,List.map_toArray,Bz,Du,hs,hx,hr];refine hK v' w' ?_ h3 h5;unfold bK tI;rw[AW,Bf];exact h2
theorem zj {R:Nat} (h:fX w B N R cs vT vN vR ts ns rs):(∃A c,vT=.slice A ts.length c)/\(∃A c,vN=.slice A ns.length c)/\∃A c,vR=.slice A rs.length c:=by
 obtain⟨qs,_,h2,_⟩:=id h.r;obtain⟨A1,c1,e1,_⟩:=aN h.t;obtain⟨A2,c2,e2,_⟩:=aN h.n;obtain⟨A3,c3,e3,_⟩:=aN h2;exact⟨⟨A1,c1,e1⟩,⟨A2,c2,e2⟩,⟨A3,c3,e3⟩⟩
theorem fX.nG {R:Nat} (h:fX w B N R cs vT vN vR ts ns rs):fX w.drew B N R cs vT vN vR ts ns rs:=h.below (aB (AB _ _) 1)
theorem JP {R:Nat} {s:List Int} (hf:Gm.Fit ⟨ts,ns,rs,0⟩) (hs:K.Tx s) (h:fX w B N R (wC vT vN vR lv) vT vN vR ts ns rs) (hN:N<=w.heap.size) :
  Calls prog 82 #[.agg #[vT,vN,vR,.int .i64 0],.string (K.str s)] w fun e w'=>e=.returned (.int .i64 (Gm.find (Gm.names ts) s))/\Below w.heap.size w w' :=
 Gc _ ⟨ts,ns,rs,0⟩ s _ w (h.rd hN 0) hf hs (Af _)
theorem Ip {R:Nat} {s:List Int} (hf:Gm.Fit ⟨ts,ns,rs,0⟩) (hs:K.Tx s) (h:fX w B N R (wC vT vN vR lv) vT vN vR ts ns rs) (hN:N<=w.heap.size) :
  Calls prog 67 #[.agg #[vT,vN,vR,.int .i64 0],.string (K.str s)] w fun e w'=>e=.returned (.int .i64 (Gm.find ns s))/\Below w.heap.size w w' :=
 KF _ ⟨ts,ns,rs,0⟩ s _ w (h.rd hN 0) hf hs (Af _)
theorem Fit.left {x:fw} (h:Gm.Fit ⟨ts,ns,rs,0⟩) (hx:K.Tx x.t) (hp:Gm.l8 ts ns x=.ok ns'):Gm.Fit ⟨ts,ns',rs,0⟩:=by
 rcases Gm.pW hp with⟨rfl,_⟩|⟨rfl,_,_,_⟩
 ·exact h
 ·refine⟨h.t,fun y hy=>?_,h.r,h.s⟩;rcases Bt.1 hy with q|q
  ·exact h.n y q
  ·simp at q;subst q;exact hx
theorem Nz {x:fw} (h:Gm.l8 ts ns x=.ok ns'):Gm.find (Gm.names ts) x.t<0/\((0<=Gm.find ns x.t/\ns'=ns)\/(Gm.find ns x.t<0/\ns.length≠16/\ns'=ns++[x.t])):=by
 unfold Gm.l8 at h;split at h
 ·cases h
 ·rename_i h0
  refine⟨by omega,?_⟩;split at h
  ·rename_i h1;injection h with h;exact .inl ⟨h1,h.symm⟩
  ·rename_i h1
   split at h
   ·cases h
   ·rename_i h2;injection h with h;exact .inr ⟨by omega,h2,h.symm⟩
theorem R5 (L:List Int) (B N R:Nat) (ts:List Gm.Tm) (rs:List Gm.Rl) (ps:List Y.iv) (ns0 ns2:List (List Int)) (lv:Int) (A:Option Addr) (c:Nat) (w:World) (hw:Wk w B N R ts ns0 rs lv) (hf:Gm.Fit ⟨ts,ns0,rs,0⟩) (hx:∀p∈ps,K.Tx p.l.t/\T.isName p.l.t=true) (hr:zx L w B A ps) (hN:N<=w.heap.size) (hB:B<=w.heap.size) (aw:ns0.length<=16) (bc:ps.length<=1000) (hp:Gm.kC ts ns0 ps=.ok ns2) :
  Calls prog 65 #[.pointer (some ⟨R,0,none⟩),.slice A ps.length c] w fun e w'=>e=.returned (.tuple #[])/\(Wk w' B N R ts ns2 rs lv/\Gm.Fit ⟨ts,ns2,rs,0⟩/\ns2.length<=16)/\Below B w w'/\mg w w':=by
 have SC:=fun a w m X Y=>show(store a (.complex .f64 X Y) m).run prog w=stored prog w a (.complex .f64 X Y) m from run_store _ w a _ m rfl;have HR:=aA hr;have bd:=aA hw;have bf:=aA hf;have al:=aA aw;have HP:=aA hp;have bg:=aA (fun(i:Nat) (hi:i<ps.length)=>hx _ (AE hi));clear hr hw hf hp hx aw
 go_enter func65,ntmps65
 go_wp2;go_loopw [4] (fun vi wr=>∃(i:Nat) (ns:List (List Int)),i<=ps.length/\vi=.int .i64 i/\Hid (Gm.kC ts ns (ps.drop i)=.ok ns2)/\Hid (Gm.Fit ⟨ts,ns,rs,0⟩)/\Hid (ns.length<=16)/\Hid (Wk wr B N R ts ns rs lv)/\Hid (Below B w wr)/\Hid (mg w wr)) (fun vi _=>ps.length-(intOf vi).toNat)
 case atStart=>exact⟨0,ns0,AV _,rfl,HP,bf,al,bd,aA (AB _ _),aA (mg.refl _)⟩
 case round =>
  obtain⟨i,ns,hi,rfl,HE,HF,ag,HW,F,am⟩:=hrel;obtain⟨vT,vN,vR,ah⟩:=HW.o;obtain⟨⟨AT,cT,rfl⟩,⟨AN,cN,rfl⟩,⟨AR,cR,rfl⟩⟩:=zj ah;have bh:=aA ah;obtain⟨f10,_,bz⟩:=ah.at 10;simp only[wC,Az,Am,Ap]at f10;clear ah;by_cases H:i<ps.length
  ·obtain⟨g,o,rfl,ax,hc⟩:=HR.o (by omega);have k0:=(F.o.cell (p:=⟨g,o+i*5,none⟩) ax).trans (hc i H).1;have k1:=(F.o.cell (p:=⟨g,o+i*5+1,none⟩) ax).trans (hc i H).2.1;have bD:=F.o.size;have bM:g<wr.heap.size:=by omega
   have bi:B<=wr.heap.size:=by omega
   obtain⟨I,ay⟩:=bg.o i H;have hE:=HE.o;rw[NG H]at hE;obtain⟨ns1,h1,h2⟩:=Gm.R.bind_eq hE;have az:=aA h2;have bj:=aA (Fit.left HF.o I h1);have ao:=aA (Px h1 ag.o);obtain⟨hz,aa⟩:=Nz h1;have bk:=aA (fun(y:World) (lv':Int) (h:fX y B N R (wC (.slice AT ts.length cT) (.slice AN ns.length cN) (.slice AR rs.length cR) lv') (.slice AT ts.length cT) (.slice AN ns.length cN) (.slice AR rs.length cR) ts ns rs) (hy:N<=y.heap.size)=>JP HF.o I h hy);have bl:=aA (fun(y:World) (lv':Int) (h:fX y B N R (wC (.slice AT ts.length cT) (.slice AN ns.length cN) (.slice AR rs.length cR) lv') (.slice AT ts.length cT) (.slice AN ns.length cN) (.slice AR rs.length cR) ts ns rs) (hy:N<=y.heap.size)=>Ip HF.o I h hy);have a0:=aA (fun(y:World)=>Hz ps[i].l.t I.1 y);rw[ay]at a0;have bm:=aA aa;clear hc hE h1 h2 I ay aa;generalize ps[i].l=x at *;generalize yR L x=X at *;generalize yS L x=Y at *;obtain⟨w1,ai⟩:∃y,y=wr.alloc (.cells #[.string (K.str x.t),.complex .f64 X Y] 127):=⟨_,rfl⟩
   have f:Hid (Below wr.heap.size wr w1):=aA (by rw[ai];exact(AB _ _).alloc (Af _) _);have ab:Hid (w1.heap[wr.heap.size]?=some (.cells #[.string (K.str x.t),.complex .f64 X Y] 127 (0,0))):=aA (by rw[ai];exact AG wr _);have r:=aA (bh.o.below f.o);have ad:Hid (N<=w1.heap.size):=aA (by have:=f.o.size;omega);generalize a1:K.str x.t=sx at *;have bo:=aA a1;clear a1;go_wp2_with fail
   try rw[<-ai]
   clear ai f10 k0 k1;refine(a0.o _).mono ?_;rintro _ _ ⟨rfl,rfl⟩;go_wp2_with fail
   obtain⟨p0,_,C⟩:=r.o.at 0;have p1:=(r.o.at 1).1;have p2:=(r.o.at 2).1;have p3:=(r.o.at 3).1;simp only[wC,Az,Am,Ap]at p0 p1 p2 p3;have E:wr.heap.size<w1.heap.size:=(Ad.1 ab.o).1;have t0:=aS ab.o;have Q0:=fun y:Calm.On w1.heap.size w1=>(y.2.cell (p:=⟨R,0,none⟩) C).trans p0;have Q1:=fun y:Calm.On w1.heap.size w1=>(y.2.cell (p:=⟨R,1,none⟩) C).trans p1;have Q2:=fun y:Calm.On w1.heap.size w1=>(y.2.cell (p:=⟨R,2,none⟩) C).trans p2;have Q3:=fun y:Calm.On w1.heap.size w1=>(y.2.cell (p:=⟨R,3,none⟩) C).trans p3;have Q4:=fun y:Calm.On w1.heap.size w1=>(y.2.cell (p:=⟨wr.heap.size,0,none⟩) E).trans t0;refine CalmN.fk (fun x=>∃y:Calm.On w1.heap.size w1,x=y.1) (.one [0,1,2,3,4,5] 6 (.fin [7,8])) (by kernel_rfl) (by kernel_rfl) (fun _ _ d _ _ h=>by cases d <;> exact h) ⟨⟨w1.drew,aB (AB _ _) 1⟩,rfl⟩ ?_;simp only[CalmN.fN,CalmN.fv,CalmN.fo,Az,Am,Ap];repeat (go_big_quiet_step (fail))
   refine Aw ?_;clear Q0 Q1 Q2 Q3 Q4 p0 p1 p2 p3 t0;intro KK j;rw[AC (by rfl)];go_wp2_with fail
   refine(bk.o w1.drew _ r.o.nG ad.o).mono ?_;rintro _ w2 ⟨rfl,J⟩;have b:Below w1.heap.size w1 w2:=(aB (AB w1.heap.size w1) 1).trans J;have q:=aA b;have s:=aA (r.o.below b);have ac:=aA ((b.block _ E).trans ab.o);have ae:=aA (Aj ad.o b.size);clear J b;go_wp2_with fail
   refine j _ _ ⟨⟨w2,q.o⟩,rfl⟩ _ (fun _ h=>h) ⟨⟨w2,q.o⟩,rfl⟩ ?_;repeat (go_big_quiet_step (fail))
   refine Aw ?_;clear j E C;have bT:¬(0:Int)<=Gm.find (Gm.names ts) x.t:=by omega
   clear hz;generalize Gm.find (Gm.names ts) x.t=z at *;go_wp2_with fail
   obtain⟨p0,_,C⟩:=s.o.at 0;have p1:=(s.o.at 1).1;have p2:=(s.o.at 2).1;have p3:=(s.o.at 3).1;simp only[wC,Az,Am,Ap]at p0 p1 p2 p3;have E:wr.heap.size<w2.heap.size:=(Ad.1 ac.o).1;have t0:=aS ac.o;have Q0:=fun y:Calm.On w2.heap.size w2=>(y.2.cell (p:=⟨R,0,none⟩) C).trans p0;have Q1:=fun y:Calm.On w2.heap.size w2=>(y.2.cell (p:=⟨R,1,none⟩) C).trans p1;have Q2:=fun y:Calm.On w2.heap.size w2=>(y.2.cell (p:=⟨R,2,none⟩) C).trans p2;have Q3:=fun y:Calm.On w2.heap.size w2=>(y.2.cell (p:=⟨R,3,none⟩) C).trans p3;have Q4:=fun y:Calm.On w2.heap.size w2=>(y.2.cell (p:=⟨wr.heap.size,0,none⟩) E).trans t0;refine CalmN.fk (fun x=>∃y:Calm.On w2.heap.size w2,x=y.1) (.one [0,1,2,3,4,5] 6 (.fin [7,8])) (by kernel_rfl) (by kernel_rfl) (fun _ _ d _ _ h=>by cases d <;> exact h) ⟨⟨w2.drew,aB (AB _ _) 1⟩,rfl⟩ ?_;simp only[CalmN.fN,CalmN.fv,CalmN.fo,Az,Am,Ap];repeat (go_big_quiet_step (fail))
   refine Aw ?_;clear Q0 Q1 Q2 Q3 Q4 p0 p1 p2 p3 t0;intro KK j;rw[AC (by rfl)];go_wp2_with fail
   refine(bl.o w2.drew _ s.o.nG ae.o).mono ?_;rintro _ w3 ⟨rfl,J⟩;have b:Below w2.heap.size w2 w3:=(aB (AB w2.heap.size w2) 1).trans J;have D:=aA b;have u:=aA (s.o.below b);have v:=aA ((b.block _ E).trans ac.o);have bp:=aA (Aj ae.o b.size);clear J b;go_wp2_with fail
   refine j _ _ ⟨⟨w3,D.o⟩,rfl⟩ _ (fun _ h=>h) ⟨⟨w3,D.o⟩,rfl⟩ ?_;repeat (go_big_quiet_step (fail))
   refine Aw ?_;clear j E C;have a2:=aA (mg.below (((f.o.trans (q.o.mono f.o.size)).trans (D.o.mono (Aj f.o.size q.o.size)))));have ap:=aA (((f.o.trans (q.o.mono f.o.size)).trans (D.o.mono (Aj f.o.size q.o.size))).mono bi);rcases bm.o with⟨h0,e⟩|⟨h0,bq,e⟩
   ·have M:=aA e;clear e;generalize Gm.find ns x.t=z2 at *;go_wp2;go_roundw
    case rel=>exact⟨i+1,ns,H,by go_num,by rw[<-M.o];exact az,HF,ag,aA ⟨_,_,_,u.o⟩,aA (F.o.trans ap.o),aA (am.o.trans a2.o)⟩
    case measure=>simp[intOf];omega
   have M:=aA e;clear e;have bX:¬(0:Int)<=Gm.find ns x.t:=by omega
   generalize Gm.find ns x.t=z2 at *;have a3:((ns.length:Int)==16)=false:=Ba.2 (by omega);obtain⟨k1,b0,_⟩:=u.o.at 1;simp only[wC,Az,Am,Ap]at k1;go_wp2_with fail
   have br:=aA ((u.o.alloc (.cells #[.string sx] 9)).n);have aq:Hid (B<=(w3.alloc (.cells #[.string sx] 9)).drew.heap.size):=aA (by have:=D.o.size;have:=q.o.size;have:=f.o.size;simp;omega);have bs:Hid ((w3.alloc (.cells #[.string sx] 9)).drew.cell? ⟨w3.heap.size,0,none⟩=some (.string (K.str x.t))):=aA (by rw[bo.o];exact tS w3 [.string sx] 9 0);have aj:Hid ((w3.alloc (.cells #[.string sx] 9)).heap[wr.heap.size]?=w3.heap[wr.heap.size]?):=aA (((AB _ w3).alloc (Af _) _).block _ (Ad.1 v.o).1);have D8:=fun y:Calm.kO wr.heap.size w3=>aS (y.2.trans v.o);refine CalmN.fk (fun y=>∃z:Calm.kO wr.heap.size w3,y=z.1) (.two [0,1,2,3,4,6,7] 5 (.one [] 8 (.one [] 9 (.one [10,11,12] 13 (.fin [])))) 8 (.one [] 5 (.one [] 9 (.one [10,11,12] 13 (.fin []))))) (by kernel_rfl) (by kernel_rfl) (fun _ _ d _ _ h=>by cases d <;> exact h) ⟨⟨w3.drew,rfl⟩,rfl⟩ ?_;simp only[CalmN.fN,CalmN.fv,CalmN.fo,Az,Am,Ap];repeat (go_big_quiet_step (fail))
   refine Aw ?_;clear D8;refine⟨?_,?_⟩
   focus
    intro KK j;rw[AC (by rfl)];go_wp2_with fail
    refine j _ _ ⟨⟨w3.drew,rfl⟩,rfl⟩ _ (fun _ h=>h) ⟨⟨w3.drew,rfl⟩,rfl⟩ ?_
   rotate_left
   focus
    intro KK j;rw[AC (by rfl)];go_wp2_with fail
    refine j _ _ ⟨⟨(w3.alloc (.cells #[.string sx] 9)).drew,aj.o⟩,rfl⟩ _ (fun _ h=>h) ⟨⟨(w3.alloc (.cells #[.string sx] 9)).drew,aj.o⟩,rfl⟩ ?_
   all_goals
    refine Aw ?_;intro KK j;try rw[AC (by rfl)]
    go_wp2_with fail
    refine j _ _ ⟨⟨(w3.alloc (.cells #[.string sx] 9)).drew,aj.o⟩,rfl⟩ _ (fun _ h=>h) ⟨⟨(w3.alloc (.cells #[.string sx] 9)).drew,aj.o⟩,rfl⟩ ?_;refine Aw ?_;intro KK j;try rw[AC (by rfl)]
    refine QL (w:=(w3.alloc (.cells #[.string sx] 9)).drew) (.tmp 29) (.tmp 32) _ rfl underlying23 B (.slice AN ns.length cN) ns rfl br.o _ 1 x.t rfl bs.o (by have:=ag.o;omega) aq.o ?_;intro v7 w7 ar af _;have ak:=(xW (w3.alloc (.cells #[.string sx] 9)) _).trans af;obtain⟨A7,c7,a4,_,_⟩:=aN ar;rw[show(ns++[x.t]).length=ns.length+1 by simp]at a4;subst a4;have au:=(u.o.alloc (.cells #[.string sx] 9)).Fg ar ak;have av:=aA au;obtain⟨k7,bu,b1⟩:=au.at 1;simp only[wC,Az,Am,Ap]at k7;have a5:Below w3.heap.size w3 (w3.alloc (.cells #[.string sx] 9)):=(AB _ w3).alloc (Af _) (.cells #[.string sx] 9);have a6:=aA ((mg.below a5).trans (mg.own (u.o.alloc (.cells #[.string sx] 9)).n ak (.inr (.inl rfl))));have a9:Hid (w7.heap[wr.heap.size]?=w3.heap[wr.heap.size]?):=aA ((a6.o _ _ _ v.o (by decide) (by decide) (by decide) (by decide)).trans v.o.symm);have bv:=aA ((ap.o.alloc (by have:=aq.o;have:=ap.o.size;omega) (.cells #[.string sx] 9)).grown ak (by have:=aq.o;simpa using this) (fun k e=>(aM u.o.n e).1));clear ar ak af au a5;go_wp2_with fail
    refine j _ _ ⟨⟨w7,a9.o⟩,rfl⟩ _ (fun _ h=>h) ⟨⟨w7,a9.o⟩,rfl⟩ ?_;repeat (go_big_quiet_step (fail))
    refine Aw ?_;intro KK j;try rw[AC (by rfl)]
    go_wp2_with fail
    have bw:=aA (av.o.set 1 (.slice A7 (ns.length+1) c7));have ba:=aA (a6.o.trans (jf.set av.o 1 (.slice A7 (ns.length+1) c7)).a);have bx:=aA (bv.o.setCell (p:=⟨R,1,none⟩) av.o.hR (.slice A7 (ns.length+1) c7));have bb:Hid ((w7.setCell ⟨R,1,none⟩ (.slice A7 (ns.length+1) c7)).heap[wr.heap.size]?=w3.heap[wr.heap.size]?):=aA ((ba.o _ _ _ v.o (by decide) (by decide) (by decide) (by decide)).trans v.o.symm);refine j _ _ ⟨⟨_,bb.o⟩,rfl⟩ _ (fun _ h=>h) ⟨⟨_,bb.o⟩,rfl⟩ ?_;refine Aw ?_;clear k7 bu;go_wp2;go_roundw
    case rel=>exact⟨i+1,ns++[x.t],H,by go_num,by rw[<-M.o];exact az,by rw[<-M.o];exact bj,by rw[<-M.o];exact ao,aA ⟨_,_,_,bw.o⟩,aA (F.o.trans bx.o),aA ((am.o.trans a2.o).trans ba.o)⟩
    case measure=>simp[intOf];omega
  ·obtain rfl:i=ps.length:=by omega
   have hE:=HE.o;rw[Pw (Af _)]at hE;injection hE with hE;subst hE;go_wp2;go_end0
   exact⟨rfl,⟨HW.o,HF.o,ag.o⟩,F.o,am.o⟩
theorem Ow {x:fw} {n:Int} (h:Gm.sym ts x=.ok (ts',n)) (he:x.t≠[101,114,114,111,114]):Gm.put ts x=.ok (ts',n)/\(0<=Gm.find (Gm.names ts) x.t\/(Gm.find (Gm.names ts) x.t<0/\T.isLit x.t=true)):=by
 unfold Gm.sym at h;split at h
 ·rename_i q
  refine⟨h,?_⟩;rcases q with q|q|q
  ·exact .inl q
  ·by_cases h0:0<=Gm.find (Gm.names ts) x.t
   ·exact .inl h0
   ·exact .inr ⟨by omega,q⟩
  ·exact absurd q he
 ·cases h
theorem Qp (L:List Int) (B N R:Nat) (ts ts':List Gm.Tm) (ns:List (List Int)) (rs:List Gm.Rl) (lv n:Int) (x:fw) (may:Bool) (w:World) (hw:Wk w B N R ts ns rs lv) (hf:Gm.Fit ⟨ts,ns,rs,0⟩) (hx:K.Tx x.t) (he:x.t≠[101,114,114,111,114]) (hN:N<=w.heap.size) (hB:B<=w.heap.size) (au:(0<=Gm.find ns x.t/\may=true/\ts'=ts/\n = -1-Gm.find ns x.t)\/(Gm.find ns x.t<0/\Gm.sym ts x=.ok (ts',n))) (a3:ts.length<=24) (bd:ns.length<=16) :
  Calls prog 95 #[.pointer (some ⟨R,0,none⟩),sQ L x,.bool may] w fun e w'=>e=.returned (.int .i64 n)/\Wk w' B N R ts' ns rs lv/\Below B w w'/\jf w w':=by
 have HW:=aA hw;obtain⟨vT,vN,vR,l⟩:=HW.o;obtain⟨⟨AT,cT,rfl⟩,⟨AN,cN,rfl⟩,⟨AR,cR,rfl⟩⟩:=zj l;have a4:=aA l;have HF:=aA hf;have HX:=aA hx;have bf:=l.lt;clear l;have a5:=aA (fun(y:World) (lv':Int) (h:fX y B N R (wC (.slice AT ts.length cT) (.slice AN ns.length cN) (.slice AR rs.length cR) lv') (.slice AT ts.length cT) (.slice AN ns.length cN) (.slice AR rs.length cR) ts ns rs) (hy:N<=y.heap.size)=>JP hf hx h hy);have a6:=aA (fun(y:World) (lv':Int) (h:fX y B N R (wC (.slice AT ts.length cT) (.slice AN ns.length cN) (.slice AR rs.length cR) lv') (.slice AT ts.length cT) (.slice AN ns.length cN) (.slice AR rs.length cR) ts ns rs) (hy:N<=y.heap.size)=>Ip hf hx h hy);have av:=aA (fun(y:World)=>Ih x.t hx.1 y);have am:=aA (fun(hp:Gm.put ts x=.ok (ts',n)) (y:World) (h:Wk y B N R ts ns rs lv) (hy:N<=y.heap.size) (hz:B<=y.heap.size)=>Ou L B N R ts ts' ns rs lv n x y h hf hx hy hz hp a3);have aw:=aA (fun h=>Ow (ts:=ts) (ts':=ts') (x:=x) (n:=n) h he);unfold sQ at am ⊢;have bg:=hB;generalize Fl.fl (Pl.pos (L.take x.o)).1=X at *;generalize Fl.fl (Pl.pos (L.take x.o)).2=Y at *;obtain⟨w1,aj⟩:∃y,y=w.alloc (.cells #[.string (K.str x.t),.complex .f64 X Y] 127):=⟨_,rfl⟩
 have aa:Hid (Below w.heap.size w w1):=aA (by rw[aj];exact(AB _ _).alloc (Af _) _);have ab:Hid (w1.heap[w.heap.size]?=some (.cells #[.string (K.str x.t),.complex .f64 X Y] 127 (0,0))):=aA (by rw[aj];exact AG w _);have i:=aA (a4.o.below aa.o);have ag:Hid (N<=w1.heap.size):=aA (by have:=aa.o.size;omega);generalize K.str x.t=sx at *;have ax:=aA au;clear au hf hx hw
 go_enter func95,ntmps95
 go_wp2_with fail
 try rw[<-aj]
 clear aj;obtain⟨p0,_,j⟩:=i.o.at 0;have p1:=(i.o.at 1).1;have p2:=(i.o.at 2).1;have p3:=(i.o.at 3).1;simp only[wC,Az,Am,Ap]at p0 p1 p2 p3;have k:w.heap.size<w1.heap.size:=(Ad.1 ab.o).1;have t0:=aS ab.o;have Q0:=fun y:Calm.On w1.heap.size w1=>(y.2.cell (p:=⟨R,0,none⟩) j).trans p0;have Q1:=fun y:Calm.On w1.heap.size w1=>(y.2.cell (p:=⟨R,1,none⟩) j).trans p1;have Q2:=fun y:Calm.On w1.heap.size w1=>(y.2.cell (p:=⟨R,2,none⟩) j).trans p2;have Q3:=fun y:Calm.On w1.heap.size w1=>(y.2.cell (p:=⟨R,3,none⟩) j).trans p3;have Q4:=fun y:Calm.On w1.heap.size w1=>(y.2.cell (p:=⟨w.heap.size,0,none⟩) k).trans t0;refine CalmN.fk (fun x=>∃y:Calm.On w1.heap.size w1,x=y.1) (.one [0,1,2,3,4,5] 6 (.fin [7])) (by kernel_rfl) (by kernel_rfl) (fun _ _ d _ _ h=>by cases d <;> exact h) ⟨⟨w1.drew,aB (AB _ _) 1⟩,rfl⟩ ?_;simp only[CalmN.fN,CalmN.fv,CalmN.fo,Az,Am,Ap];repeat (go_big_quiet_step (fail))
 refine Aw ?_;clear Q0 Q1 Q2 Q3 Q4 p0 p1 p2 p3 t0;intro KK ak;rw[AC (by rfl)];go_wp2_with fail
 refine(a6.o w1.drew _ i.o.nG ag.o).mono ?_;rintro _ w2 ⟨rfl,m⟩;have b:Below w1.heap.size w1 w2:=(aB (AB w1.heap.size w1) 1).trans m;have ac:=aA b;have f:=aA (i.o.below b);have ad:=aA ((b.block _ k).trans ab.o);have ah:=aA (Aj ag.o b.size);clear m b;go_wp2_with fail
 refine ak _ _ ⟨⟨w2,ac.o⟩,rfl⟩ _ (fun _ h=>h) ⟨⟨w2,ac.o⟩,rfl⟩ ?_;repeat (go_big_quiet_step (fail))
 refine Aw ?_;clear ak k j;have al:=aA (aa.o.trans (ac.o.mono aa.o.size));rcases ax.o with⟨h0,h1,h2,h3⟩|⟨h0,ay⟩
 ·subst h1;have az:=aA (BD h2 h3);clear h2 h3;have bh:=Gm.oI ns x.t;generalize Gm.find ns x.t=z at *;have l:wrap64 (-1-z) = -1-z:=by unfold wrap64;omega
  go_wp2;go_ret
  exact⟨by rw[az.o.2];simp,by rw[az.o.1];exact⟨_,_,_,f.o⟩,al.o.mono hB,jf.below al.o⟩
 ·obtain⟨ai,hc⟩:=aw.o ay;have a9:¬(0:Int)<=Gm.find ns x.t:=by omega
  have ba:=aA (am.o ai);clear ay ai am ax aw;generalize Gm.find ns x.t=z at *;have bi:(decide (0<=z)&&may)=false:=by simp[a9]
  go_wp2_with fail
  obtain⟨p0,_,j⟩:=f.o.at 0;have p1:=(f.o.at 1).1;have p2:=(f.o.at 2).1;have p3:=(f.o.at 3).1;simp only[wC,Az,Am,Ap]at p0 p1 p2 p3;have k:w.heap.size<w2.heap.size:=(Ad.1 ad.o).1;have u0:=aS ad.o;have Q0:=fun y:Calm.On w2.heap.size w2=>(y.2.cell (p:=⟨R,0,none⟩) j).trans p0;have Q1:=fun y:Calm.On w2.heap.size w2=>(y.2.cell (p:=⟨R,1,none⟩) j).trans p1;have Q2:=fun y:Calm.On w2.heap.size w2=>(y.2.cell (p:=⟨R,2,none⟩) j).trans p2;have Q3:=fun y:Calm.On w2.heap.size w2=>(y.2.cell (p:=⟨R,3,none⟩) j).trans p3;have Q4:=fun y:Calm.On w2.heap.size w2=>(y.2.cell (p:=⟨w.heap.size,0,none⟩) k).trans u0;clear u0;refine CalmN.fk (fun x=>∃y:Calm.On w2.heap.size w2,x=y.1) (.one [0,1,2,3,4,5] 6 (.one [7,8,9,10] 11 (.fin [12,13,14,15,16,17,18]))) (by kernel_rfl) (by kernel_rfl) (fun _ _ d _ _ h=>by cases d <;> exact h) ⟨⟨w2.drew,aB (AB _ _) 1⟩,rfl⟩ ?_;simp only[CalmN.fN,CalmN.fv,CalmN.fo,Az,Am,Ap];repeat (go_big_quiet_step (fail))
  refine Aw ?_;intro KK ak;rw[AC (by rfl)];go_wp2_with fail
  refine(a5.o w2.drew _ f.o.nG ah.o).mono ?_;rintro _ w3 ⟨rfl,m⟩;have b:Below w2.heap.size w2 w3:=(aB (AB w2.heap.size w2) 1).trans m;have g:=aA b;have ao:=aA (f.o.below b);have ae:=aA ((b.block _ k).trans ad.o);have ap:=aA (Aj ah.o b.size);clear m b;go_wp2_with fail
  refine ak _ _ ⟨⟨w3,g.o⟩,rfl⟩ _ (fun _ h=>h) ⟨⟨w3,g.o⟩,rfl⟩ ?_;have aq:=aA (al.o.trans (g.o.mono al.o.size));rcases hc with hc|⟨hc,ar⟩
  focus
   have bj:decide (0<=Gm.find (Gm.names ts) x.t)=true:=AQ hc;generalize Gm.find (Gm.names ts) x.t=z2 at *;repeat (go_big_quiet_step (fail))
   refine Aw ?_;intro KK2 af;rw[AI (by exact(fun h=>absurd (show false=true from h) (by decide)))];refine af _ _ ⟨⟨w3,g.o⟩,rfl⟩ _ (fun _ h=>h) ⟨⟨w3,g.o⟩,rfl⟩ ?_;simp only[Act.put,CA,Cz,CB]
  rotate_left
  focus
   have bk:decide (0<=Gm.find (Gm.names ts) x.t)=false:=AM (by omega);rw[ar]at av;generalize Gm.find (Gm.names ts) x.t=z2 at *;repeat (go_big_quiet_step (fail))
   refine Aw ?_;intro KK2 af;rw[AC (by rfl)];go_wp2_with fail
   refine(av.o _).mono ?_;rintro _ _ ⟨rfl,rfl⟩;go_wp2_with fail
   refine af _ _ ⟨⟨w3,g.o⟩,rfl⟩ _ (fun _ h=>h) ⟨⟨w3,g.o⟩,rfl⟩ ?_
  all_goals
   repeat (go_big_quiet_step (fail))
   refine Aw ?_;have bb:w.heap.size<w3.heap.size:=(Ad.1 ae.o).1;have t0:=aS ae.o;have t1:=aX ae.o;have HC:=aA (ba.o w3 ⟨_,_,_,ao.o⟩ ap.o (Aj hB aq.o.size));clear Q0 Q1 Q2 Q3 Q4 p0 p1 p2 p3;go_wp2_with fail
   refine HC.o.mono ?_;rintro _ w4 ⟨rfl,a0,a1,a2⟩;have bc:=aA (BD a0 (BD ((aq.o.mono hB).trans a1) ((jf.below aq.o).trans a2)));clear a0 a1 a2 t0 t1;go_wp2;go_ret
   exact⟨rfl,bc.o⟩
theorem jf.beyond {row:Option Nat} (h:jf w wr) (hg:wr.grownBy w' row) (hr:∀k,row=some k->w.heap.size<=k):jf w w':=fun g cs T h1 h2 h3=>by
 have hk:=h g cs T h1 h2 h3;refine(hg.block g (Ad.1 hk).1 (fun e=>?_)).trans hk
 have:=hr g e.symm
 have:=(Ad.1 h1).1
 omega
theorem aV.MS {xs:List Int} (h:aV w base v xs) (hk:jf w w'):aV w' base v xs:=by
 refine⟨h.1,?_⟩;rcases h.2 with h0|⟨g,cap,cur,e,hb,hg,hr⟩
 ·exact .inl h0
 ·exact .inr ⟨g,cap,cur,e,hb,hk g cur _ hg (by decide) (by decide),hr⟩
theorem aV.Hf {xs:List Int} (h:aV w N v xs):oj w N v.ownBlock:=⟨fun g e=>by
 obtain⟨h1,cur,h2⟩:=aM h e;exact⟨_,_,h2,by decide,by decide,by decide,.inr h1⟩⟩
theorem Wk.grown {w w':World} {B N R:Nat} {ts:List Gm.Tm} {ns:List (List Int)} {rs:List Gm.Rl} {lv:Int} {row:Option Nat} (h:Wk w B N R ts ns rs lv) (hg:w.grownBy w' row) (ho:oj w N row):Wk w' B N R ts ns rs lv:=by
 obtain⟨vT,vN,vR,h⟩:=h;exact⟨vT,vN,vR,h.grown hg ho⟩
structure oo (w0 wr:World) (B R Q:Nat) (ns:List (List Int)) (rs:List Gm.Rl) (lv:Int) (ts:List Gm.Tm) (PC:Array Value) (lf:Int) (v:Value) (acc:List Int) (p:Int):Prop where
 b:Wk wr B w0.heap.size R ts ns rs lv
 f:Gm.Fit ⟨ts,ns,rs,0⟩
 t:ts.length<=24
 w:Below B w0 wr
 k:jf w0 wr
 q:w0.heap.size<Q
 pb:wr.heap[w0.heap.size]?=some (.cells PC 135 (0,0))
 qb:wr.heap[Q]?=some (.cells #[.int .i64 lf,v,.int .i64 p] 48 (0,0))
 o:aV wr w0.heap.size v acc
section
variable {w0 wr w':World} {B R Q:Nat} {ns:List (List Int)} {rs:List Gm.Rl} {lv:Int} {ts:List Gm.Tm} {PC:Array Value} {lf p p':Int} {v v':Value} {acc acc':List Int}
theorem oo.alloc (h:oo w0 wr B R Q ns rs lv ts PC lf v acc p) (o:Obj) (hB:B<=w0.heap.size):oo w0 (wr.alloc o) B R Q ns rs lv ts PC lf v acc p :=
 ⟨h.b.alloc o,h.f,h.t,h.w.alloc (Aj hB h.w.size) o,h.k.trans (jf.below ((AB _ _).alloc (Af _) o)),h.q,(Bs wr o _ (Ad.1 h.pb).1).trans h.pb,(Bs wr o _ (Ad.1 h.qb).1).trans h.qb,h.o.alloc o⟩
theorem oo.call (h:oo w0 wr B R Q ns rs lv ts PC lf v acc p) (hb:Wk w' B w0.heap.size R ts' ns rs lv) (hw:Below B wr w') (hk:jf wr w') (hf:Gm.Fit ⟨ts',ns,rs,0⟩) (ht:ts'.length<=24):oo w0 w' B R Q ns rs lv ts' PC lf v acc p :=
 ⟨hb,hf,ht,h.w.trans hw,h.k.trans hk,h.q,hk _ _ _ h.pb (by decide) (by decide),hk _ _ _ h.qb (by decide) (by decide),h.o.MS hk⟩
theorem oo.off (hq:w0.heap.size<Q) (qb:wr.heap[Q]?=some (.cells #[.int .i64 lf,v,.int .i64 p] 48 (0,0))):oj wr w0.heap.size (some Q):=⟨fun g e=>by
 injection e with e;subst e;exact⟨_,_,qb,by decide,by decide,by decide,.inr (by omega)⟩⟩
theorem oo.Hq (h:oo w0 wr B R Q ns rs lv ts PC lf v acc p) (j:Nat) (u:Value) (hu:(#[.int .i64 lf,v,.int .i64 p]:Array Value).setIfInBounds j u=#[.int .i64 lf,v',.int .i64 p']) (ho:aV (wr.setCell ⟨Q,j,none⟩ u) w0.heap.size v' acc) (hB:B<=w0.heap.size):oo w0 (wr.setCell ⟨Q,j,none⟩ u) B R Q ns rs lv ts PC lf v' acc p':=by
 have hg:wr.grownBy (wr.setCell ⟨Q,j,none⟩ u) (some Q):=aF (AJ _ _) j u;have hq:=h.q;refine⟨h.b.grown hg (oo.off h.q h.qb),h.f,h.t,h.w.setCell (by simp only;omega) u,h.k.beyond hg (fun k e=>by injection e with e;omega),h.q,(AU wr ⟨Q,j,none⟩ u w0.heap.size (by simp only;omega)).trans h.pb,?_,ho⟩;rw[<-hu];exact AZ wr _ j _ _ u h.qb
theorem oo.app (h:oo w0 wr B R Q ns rs lv ts PC lf v acc p) (ho:aV w' w0.heap.size v' acc') (hg:wr.grownBy w' v.ownBlock) (hB:B<=w0.heap.size) :
  (w'.heap[Q]?=some (.cells #[.int .i64 lf,v,.int .i64 p] 48 (0,0)))/\oo w0 (w'.setCell ⟨Q,1,none⟩ v') B R Q ns rs lv ts PC lf v' acc' p:=by
 have ab:=h.b.grown hg h.o.Hf;have pb':=qE h.pb h.o (by decide) hg;have qb':=qE h.qb h.o (by decide) hg;have hN:∀k,v.ownBlock=some k->w0.heap.size<=k:=fun k e=>(aM h.o e).1;have ac:=h.w.grown hg (Aj hB h.w.size) (fun k e=>Aj hB (hN k e));have ad:=h.k.beyond hg hN;have hq:=h.q;have aa:w'.grownBy (w'.setCell ⟨Q,1,none⟩ v') (some Q):=aF (AJ _ _) 1 v';exact⟨qb',ab.grown aa (oo.off h.q qb'),h.f,h.t,ac.setCell (by simp only;omega) v',ad.beyond aa (fun k e=>by injection e with e;omega),h.q,(AU w' ⟨Q,1,none⟩ v' w0.heap.size (by simp only;omega)).trans pb',AZ w' _ 1 _ _ v' qb',ho.qp qb' 1 v'⟩
end
theorem Ox {x:fw} (h:Gm.tx ns ts x=.ok (ts',z)) (hx:K.Tx x.t) (hf:Gm.Fit ⟨ts,ns,rs,0⟩):((0<=Gm.find ns x.t/\true=true/\ts'=ts/\z = -1-Gm.find ns x.t)\/(Gm.find ns x.t<0/\Gm.sym ts x=.ok (ts',z)))/\Gm.Fit ⟨ts',ns,rs,0⟩:=by
 unfold Gm.tx at h;split at h
 ·rename_i h0
  injection h with h;injection h with h1 h2;subst h1;exact⟨.inl ⟨h0,rfl,rfl,h2.symm⟩,hf⟩
 ·rename_i h0
  refine⟨.inr ⟨by omega,h⟩,?_⟩;unfold Gm.sym at h;split at h
  ·exact Fit.put hf hx h
  ·cases h
theorem QV {x:fw} (h:Gm.sym ts x=.ok (ts',z)) (aa:ts.length<=24):Gm.In z/\ts'.length<=24:=by
 unfold Gm.sym at h;split at h
 ·refine⟨?_,Mj aa h⟩;unfold Gm.In;rcases Gm.rF h with⟨j,_,_,hj,hl,_⟩|⟨_,_,hj,_⟩ <;> omega
 ·cases h
theorem Qq {x:fw} (h:Gm.tx ns ts x=.ok (ts',z)) (aa:ts.length<=24) (ab:ns.length<=16):Gm.In z/\ts'.length<=24:=by
 unfold Gm.tx at h;split at h
 ·rename_i h0
  injection h with h;injection h with h1 h2
  have:=Gm.oI ns x.t
  subst h1;refine⟨?_,aa⟩;unfold Gm.In;omega
 ·exact QV h aa
theorem Fit.more {r:Gm.Rl} (h:Gm.Fit ⟨ts,ns,rs,0⟩) (hr:Gm.In r.l/\Gm.In r.p/\∀z∈r.r,Gm.In z):Gm.Fit ⟨ts,ns,rs++[r],0⟩:=by
 refine⟨h.t,h.n,fun x hx=>?_,h.s⟩;rcases Bt.1 hx with q|q
 ·exact h.r x q
 ·simp at q;subst q;exact hr
theorem jC (ns:List (List Int)) (s:List Int) (h:ns.length<=16):Gm.In (Gm.find ns s):=by
 have h1:=Gm.oI ns s;have h2:=Gm.sc ns s;unfold Gm.In;omega
theorem J2 {pr:Y.iv} (h:Gm.nP ns ts rs pr=.ok (ts',rs')):rs.length≠40/\∃tz az pz,Gm.jH ns ts [] (-1) pr.r=.ok (tz,az,pz)/\((pr.p=none/\ts'=tz/\rs'=rs++[⟨Gm.find ns pr.l.t,az,pz⟩]) \/ ∃x z,pr.p=some x/\Gm.Ft ns tz x=.ok (ts',z)/\rs'=rs++[⟨Gm.find ns pr.l.t,az,z⟩]):=by
 unfold Gm.nP at h;split at h
 ·cases h
 ·rename_i aa
  obtain⟨⟨tz,az,pz⟩,h1,h2⟩:=Gm.R.bind_eq h;refine⟨aa,tz,az,pz,h1,?_⟩;cases hp:pr.p with
  | none =>
   rw[hp]at h2;injection h2 with h2;injection h2 with a b;exact .inl ⟨rfl,a.symm,b.symm⟩
  | some x =>
   rw[hp]at h2;obtain⟨⟨t2,z⟩,h3,h4⟩:=Gm.R.bind_eq h2;injection h4 with h4;injection h4 with a b;simp only at a b;subst a;exact .inr ⟨x,z,rfl,h3,b.symm⟩
theorem SZ (L:List Int) (B R:Nat) (ts ts':List Gm.Tm) (ns:List (List Int)) (rs rs':List Gm.Rl) (lv:Int) (pr:Y.iv) (A:Option Addr) (c:Nat) (w:World) (hw:Wk w B w.heap.size R ts ns rs lv) (hf:Gm.Fit ⟨ts,ns,rs,0⟩) (hr:zw L w B A pr.r) (hx:K.Tx pr.l.t) (bo:∀x∈pr.r,K.Tx x.t/\Gm.named x.t=true/\x.t≠[101,114,114,111,114]) (a4:Jh pr) (hB:B<=w.heap.size) (bp:ts.length<=24) (a5:ns.length<=16) (cq:rs.length<=40) (cr:pr.r.length<=1000) (hp:Gm.nP ns ts rs pr=.ok (ts',rs')) :
  Calls prog 66 #[.pointer (some ⟨R,0,none⟩),.agg (FJ L pr A c)] w fun e w'=>e=.returned (.tuple #[])/\(Wk w' B w'.heap.size R ts' ns rs' lv/\Gm.Fit ⟨ts',ns,rs',0⟩/\ts'.length<=24)/\Below B w w'/\mg w w':=by
 have SC:=fun a w m X Y=>show(store a (.complex .f64 X Y) m).run prog w=stored prog w a (.complex .f64 X Y) m from run_store _ w a _ m rfl;obtain⟨cs,tz,az,pz,bq,aa⟩:=J2 hp;have ca:=aA bq;have ab:=aA (aa.resolve_right (fun⟨x,z,e,_⟩=>by unfold Jh at a4;rw[a4]at e;cases e));have HR:=aA hr;have cb:=aA (fun(i:Nat) (hi:i<pr.r.length)=>bo _ (AE hi));have HF:=aA hf;obtain⟨vT,vN,vR,N⟩:=id hw;obtain⟨⟨AT,cT,rfl⟩,⟨AN,cN,rfl⟩,⟨AR,cR,rfl⟩⟩:=zj N;have br:=aA N;have cu:=N.lt;have al:=aA (fun(y:World) (lv':Int) (h:fX y B w.heap.size R (wC (.slice AT ts.length cT) (.slice AN ns.length cN) (.slice AR rs.length cR) lv') (.slice AT ts.length cT) (.slice AN ns.length cN) (.slice AR rs.length cR) ts ns rs) (hy:w.heap.size<=y.heap.size)=>Ip hf hx h hy);obtain⟨lf,a6⟩:∃lf,lf=Gm.find ns pr.l.t:=⟨_,rfl⟩
 have cc:Hid (Gm.In lf):=aA (by rw[a6];exact jC ns _ a5);rw[<-a6]at al ab;clear a6;obtain⟨w1,V⟩:∃w1,w1=w.alloc (.cells (FJ L pr A c) 135):=⟨_,rfl⟩
 have C:Hid (fX w1 B w.heap.size R (wC (.slice AT ts.length cT) (.slice AN ns.length cN) (.slice AR rs.length cR) lv) (.slice AT ts.length cT) (.slice AN ns.length cN) (.slice AR rs.length cR) ts ns rs):=aA (by rw[V];exact N.alloc _);have af:Hid (w1.heap[w.heap.size]?=some (.cells (FJ L pr A c) 135 (0,0))):=aA (by rw[V];exact AG w _);have bs:w1.heap.size=w.heap.size+1:=by rw[V];simp
 have Z:Hid (Below w.heap.size w w1):=aA (by rw[V];exact(AB _ w).alloc (Af _) _);have bu:R<w1.heap.size:=by omega
 have ag:w.heap.size<w1.heap.size:=by omega
 have q0:∀y:Calm.On w1.heap.size w1,y.1.cell? ⟨R,0,none⟩=some (.slice AT ts.length cT):=fun y=>((C.o.below y.2).at 0).1;have q1:∀y:Calm.On w1.heap.size w1,y.1.cell? ⟨R,1,none⟩=some (.slice AN ns.length cN):=fun y=>((C.o.below y.2).at 1).1;have q2:∀y:Calm.On w1.heap.size w1,y.1.cell? ⟨R,2,none⟩=some (.slice AR rs.length cR):=fun y=>((C.o.below y.2).at 2).1;have q3:∀y:Calm.On w1.heap.size w1,y.1.cell? ⟨R,3,none⟩=some (.int .i64 0):=fun y=>((C.o.below y.2).at 3).1;have D0:=fun y:Calm.On w1.heap.size w1=>aS ((y.2.block w.heap.size ag).trans af.o);have a9:=aA (fun y=>QG lf y);unfold FJ at af V ⊢;clear N hw hf hr hx bo a4 hp bq aa;generalize yR L pr.l=X0 at *;generalize yS L pr.l=Y0 at *;generalize K.str pr.l.t=s0 at *
 go_enter func66,ntmps66
 go_upto_region 1 with fail
 rw[<-V];clear V;have ba:=aA (aB (AB w1.heap.size w1) 1);have ax:=aA (fun o=>(aB (AB w1.heap.size w1) 1).alloc (Af _) o);have RB:=a9.o;refine CalmN.fk (fun x=>∃y:Calm.On w1.heap.size w1,x=y.1) (.two [0,1,2,3,4,5,6] 7 (.one [8] 9 (.one [] 10 (.fin []))) 9 (.one [] 7 (.one [8] 10 (.fin [])))) (by kernel_rfl) (by kernel_rfl) (fun _ _ d _ _ h=>by cases d <;> exact h) ⟨⟨w1.drew,ba.o⟩,rfl⟩ ?_;simp only[CalmN.fN,CalmN.fv,CalmN.fo,Az,Am,Ap];repeat (go_big_quiet_step (fail))
 refine Aw ?_;clear q0 q1 q2 q3 D0;refine⟨?_,?_⟩
 case' refine_1 =>
  intro KK s;rw[AC (by rfl)];go_wp2_with fail
  refine(al.o w1.drew _ C.o.nG (by show w.heap.size<=w1.heap.size;omega)).mono ?_;rintro _ w2 ⟨rfl,O⟩;have H:=aA ((aB (AB w1.heap.size w1) 1).trans O);have ah:w1.heap.size<=w2.heap.size:=H.o.size;have I:=aA (fun o=>H.o.alloc ah o);clear O;go_wp2_with fail
  refine s _ _ ⟨⟨w2,H.o⟩,rfl⟩ _ (fun _ h=>h) ⟨⟨w2,H.o⟩,rfl⟩ ?_;repeat (go_big_quiet_step (fail))
  refine Aw ?_;intro KK s;rw[AC (by rfl)];go_wp2_with fail
  refine s _ _ ⟨⟨_,I.o _⟩,rfl⟩ _ (fun _ h=>h) ⟨⟨_,I.o _⟩,rfl⟩ ?_;refine Aw ?_;intro KK s;rw[AC (by rfl)];go_wp2_with fail
  refine s _ _ ⟨⟨_,I.o _⟩,rfl⟩ _ (fun _ h=>h) ⟨⟨_,I.o _⟩,rfl⟩ ?_;refine Aw ?_;clear s RB;obtain⟨wq,E⟩:∃x,x=w2.alloc (.cells #[.int .i64 lf,.slice none 0 0,.int .i64 (-1)] 48):=⟨_,rfl⟩
  rw[<-E];obtain⟨Q,hQ⟩:∃x,x=w2.heap.size:=⟨_,rfl⟩
  rw[<-hQ]
  have am:Hid (oo w wq B R Q ns rs lv ts #[.string s0,.complex .f64 X0 Y0,.slice A pr.r.length c,.string (yV pr.p),.complex .f64 (yW L pr.p) (yX L pr.p)] lf (.slice none 0 0) [] (-1)):=aA (by
   have ao:Below w.heap.size w wq:=by rw[E];exact(Z.o.trans (H.o.mono Z.o.size)).alloc (Aj Z.o.size ah) _
   have ai:Below w1.heap.size w1 wq:=by rw[E];exact I.o _
   exact⟨⟨_,_,_,C.o.below ai⟩,HF.o,bp,ao.mono hB,jf.below ao,by omega,(ai.block w.heap.size ag).trans af.o,by rw[E,hQ];exact AG w2 _,Jw _ _⟩)
  clear E hQ H I ah al C af Z a9 ba ax bs bu ag br
 case' refine_2 =>
  intro KK s;rw[AC (by rfl)];go_wp2_with fail
  refine s _ _ ⟨⟨_,ax.o _⟩,rfl⟩ _ (fun _ h=>h) ⟨⟨_,ax.o _⟩,rfl⟩ ?_;refine Aw ?_;intro KK s;rw[AC (by rfl)];go_wp2_with fail
  have ap:Hid (Below w1.heap.size w1 (w1.alloc (.cells #[.int .i64 0,.slice none 0 0,.int .i64 0] 48)).drew):=aA (aB ((AB _ w1).alloc (Af _) _) 1);refine(al.o _ _ (C.o.below ap.o) (by have:=ap.o.size;omega)).mono ?_;rintro _ w2 ⟨rfl,O⟩;have H:=aA (ap.o.trans (O.mono ap.o.size));have J:Hid (w2.heap[w1.heap.size]?=some (.cells #[.int .i64 0,.slice none 0 0,.int .i64 0] 48 (0,0))):=aA ((O.block w1.heap.size (by show w1.heap.size<(w1.alloc _).heap.size;simp)).trans (AG w1 _));have ah:w1.heap.size<w2.heap.size:=(Ad.1 J.o).1;clear O;go_wp2_with fail
  refine s _ _ ⟨⟨w2,H.o⟩,rfl⟩ _ (fun _ h=>h) ⟨⟨w2,H.o⟩,rfl⟩ ?_;repeat (go_big_quiet_step (fail))
  refine Aw ?_;intro KK s;rw[AC (by rfl)];obtain⟨Q,hQ⟩:∃x,x=w.heap.size+1:=⟨_,rfl⟩
  rw[<-hQ];have bv:w1.heap.size=Q:=by omega
  rw[bv]at J H;have I:=aA (fun u0 u1 u2=>((H.o.setCell (p:=⟨Q,0,none⟩) (Af _) u0).setCell (p:=⟨Q,1,none⟩) (Af _) u1).setCell (p:=⟨Q,2,none⟩) (Af _) u2);have aj:Hid (w.heap.size<Q/\w1.heap.size=Q):=aA (by omega);have z0:=AH w2 _ 0 _ _ J.o;have z1:=AH w2 _ 1 _ _ J.o;have z2:=AH w2 _ 2 _ _ J.o;have y0:=aS J.o;have y1:=aX J.o;have y2:=aY J.o;have ah:Q<w2.heap.size:=(Ad.1 J.o).1;clear hQ bv bs ag;go_wp2_with fail
  refine s _ _ ⟨⟨_,by rw[aj.o.2];exact I.o _ _ _⟩,rfl⟩ _ (fun _ h=>h) ⟨⟨_,by rw[aj.o.2];exact I.o _ _ _⟩,rfl⟩ ?_;refine Aw ?_;clear s RB;obtain⟨wq,E⟩:∃x,x=((w2.setCell ⟨Q,0,none⟩ (.int .i64 lf)).setCell ⟨Q,1,none⟩ (.slice none 0 0)).setCell ⟨Q,2,none⟩ (.int .i64 (-1)):=⟨_,rfl⟩
  rw[<-E]
  have am:Hid (oo w wq B R Q ns rs lv ts #[.string s0,.complex .f64 X0 Y0,.slice A pr.r.length c,.string (yV pr.p),.complex .f64 (yW L pr.p) (yX L pr.p)] lf (.slice none 0 0) [] (-1)):=aA (by
   have ai:Below w1.heap.size w1 wq:=by rw[E,aj.o.2];exact I.o _ _ _
   have ao:Below w.heap.size w wq:=Z.o.trans (ai.mono Z.o.size);have ag:w.heap.size<w1.heap.size:=by have:=aj.o;omega
   exact⟨⟨_,_,_,C.o.below ai⟩,HF.o,bp,ao.mono hB,jf.below ao,aj.o.1,(ai.block w.heap.size ag).trans af.o,by rw[E];exact AZ _ _ 2 _ _ _ (AZ _ _ 1 _ _ _ (AZ _ _ 0 _ _ _ J.o)),Jw _ _⟩)
  clear E H I ah al C af Z a9 ba ax bu br z0 z1 z2 y0 y1 y2 J aj ap
 all_goals
  have cd:=aA (Ad.1 am.o.pb).1;obtain⟨vTq,vNq,vRq,E⟩:=am.o.b;obtain⟨_,_,⟨ARq,cRq,rfl⟩⟩:=zj E;obtain⟨k2,_,ce⟩:=E.at 2;simp only[wC,Az,Am,Ap]at k2;have e40:((rs.length:Int)==40)=false:=Ba.2 (by omega);clear E;go_wp2;clear k2 ce e40;go_loopw [5] (fun vi wr=>∃(i:Nat) (tk:List Gm.Tm) (acc:List Int) (p:Int) (v:Value),i<=pr.r.length/\vi=.int .i64 i/\acc.length=i/\Hid (Gm.jH ns tk acc p (pr.r.drop i)=.ok (tz,az,pz))/\Hid ((∀z∈acc,Gm.In z)/\Gm.In p)/\Hid (oo w wr B R Q ns rs lv tk #[.string s0,.complex .f64 X0 Y0,.slice A pr.r.length c,.string (yV pr.p),.complex .f64 (yW L pr.p) (yX L pr.p)] lf v acc p)) (fun vi _=>pr.r.length-(intOf vi).toNat)
  case atStart=>exact⟨0,ts,[],-1,.slice none 0 0,AV _,rfl,rfl,ca,aA ⟨by simp,by unfold Gm.In;omega⟩,am⟩
  case round =>
   clear am cd;obtain⟨i,tk,acc,p,v,hi,rfl,bw,HE,ay,HP⟩:=hrel;have bb:=aA bw;have p2:=aY HP.o.pb;have cw:=(Ad.1 HP.o.pb).1;obtain⟨vTr,vNr,vRr,N⟩:=HP.o.b;have f10:=(N.at 10).1;have cx:=N.lt;simp only[wC,Az,Am,Ap]at f10;clear N bw;by_cases aq:i<pr.r.length
   ·obtain⟨g,o,rfl,bx,hc⟩:=HR.o (by omega);have k0:=(HP.o.w.cell (p:=⟨g,o+i*2,none⟩) bx).trans (hc i aq).1;have k1:=(HP.o.w.cell (p:=⟨g,o+i*2+1,none⟩) bx).trans (hc i aq).2;have cy:=HP.o.w.size;have cz:g<wr.heap.size:=by omega
    obtain⟨a0,bz,bD⟩:=cb.o i aq;have hE:=HE.o;rw[Nb aq]at hE;have h6:acc.length≠6:=fun q=>by rw[AC q]at hE;cases hE
    rw[AI h6]at hE;obtain⟨⟨t2,zz⟩,hs,bc⟩:=Gm.R.bind_eq hE;simp only at bc;have cf:=aA bc;obtain⟨ac,ad⟩:=Ox hs a0 HP.o.f;obtain⟨ar,bM⟩:=Qq hs HP.o.t a5;have a1:=aA (BD ad (BD bM ar));have e6:((i:Int)==6)=false:=Ba.2 (by have:=bb.o;omega);have bd:=aA (fun(y:World)=>JF pr.r[i].t a0 y);rw[bz]at bd;have bf:=aA (fun(y:World) (h:Wk y B w.heap.size R tk ns rs lv) (hy:w.heap.size<=y.heap.size)=>Qp L B w.heap.size R tk t2 ns rs lv zz pr.r[i] true y h HP.o.f a0 bD hy (Aj hB hy) ac HP.o.t a5);unfold sQ at bf;clear hc hE bc hs ac ad ar bM a0 bz bD h6;unfold yR yS at k1;generalize K.str pr.r[i].t=sx at *;generalize Fl.fl (Pl.pos (L.take pr.r[i].o)).1=X at *;generalize Fl.fl (Pl.pos (L.take pr.r[i].o)).2=Y at *;have bg:=aA (HP.o.alloc (.cells #[.string sx,.complex .f64 X Y] 127) hB);have cA:=aA (AG wr (.cells #[.string sx,.complex .f64 X Y] 127));have HC:=aA (bf.o _ bg.o.b bg.o.w.size);go_wp2_with fail
    refine(bd.o _).mono ?_;rintro _ _ ⟨rfl,rfl⟩;go_wp2_with fail
    refine HC.o.mono ?_;rintro _ w2 ⟨rfl,O,bT,bX⟩;have au:=aA (bg.o.call O bT bX a1.o.1 a1.o.2.1);obtain⟨Av,nv,cv,bh⟩:=J8 au.o.o;subst bh;have q1:=aX au.o.qb;have b0:=(Ad.1 au.o.qb).1;have b1:=aA (au.o.alloc (.cells #[.int .i64 zz] 3) hB);have cg:Hid (w.heap.size<=w2.heap.size):=aA au.o.w.size;have ch:acc.length<=1000000000000:=by have:=bb.o;omega
    clear O bT bX p2 f10 k0 k1 HC bf bd;by_cases a2:0<=zz
    case' pos=>have e:decide (0<=zz)=true:=AQ a2
    case' neg=>have e:decide (0<=zz)=false:=AM a2
    all_goals
     have HX:=cf.o
     first|rw[AC a2]at HX|rw[AI a2]at HX
     have HX:=aA HX;go_wp2_with (refine xQ rfl (.tmp 63) (.tmp 65) _ rfl underlying38 w.heap.size _ acc rfl b1.o.o _ _ zz rfl (tS w2 [.int .i64 zz] 3 0) ch (by have:=cg.o;simp;omega) ?_;intro v4 w4 bi b2;obtain⟨A4,n4,c4,rfl⟩:=J8 bi;have D:=aA (b1.o.app bi b2 hB);have q41:w4.cell? ⟨Q,1,none⟩=some (.slice Av nv cv):=AF w4 _ 1 _ _ _ D.o.1;have q42:w4.cell? ⟨Q,2,none⟩=some (.int .i64 p):=AF w4 _ 2 _ _ _ D.o.1;have f41:=AH w4 _ 1 _ _ D.o.1;have f42:=AH w4 _ 2 _ _ D.o.1;have cB:=(Ad.1 D.o.1).1;clear bi b2)
     go_roundw
     case rel=>exact⟨i+1,t2,acc++[zz],_,.slice A4 n4 c4,aq,by go_num,by rw[AW,BA,bb.o],HX,aA ⟨fun z hz=>by rcases Bt.1 hz with q|q;exact ay.o.1 z q;rw[AP.1 q];exact a1.o.2.2,by first|exact a1.o.2.2|exact ay.o.2⟩,aA (by first|exact D.o.2|exact D.o.2.Hq 2 (.int .i64 zz) rfl (D.o.2.o.qp D.o.2.qb 2 _) hB)⟩
     case measure=>simp[intOf];omega
   ·obtain rfl:i=pr.r.length:=by omega
    have hE:=HE.o;rw[NW (Af _)]at hE;injection hE with hE;injection hE with e1 hE;injection hE with e2 e3;subst e1;subst e2;subst e3;have p3:=bI HP.o.pb;have p4:=rU HP.o.pb;obtain⟨ci,e1,e2⟩:=ab.o;subst e1;subst e2
    replace p3:wr.cell? ⟨w.heap.size,3,none⟩=some (.string ⟨#[]⟩):=by rw[p3,ci];rfl
    clear p4;go_wp2_with fail
    obtain⟨wz,bj⟩:∃x,x=wr:=⟨_,rfl⟩
    rw[<-bj];have F:Hid (oo w wz B R Q ns rs lv ts' #[.string s0,.complex .f64 X0 Y0,.slice A pr.r.length c,.string (yV pr.p),.complex .f64 (yW L pr.p) (yX L pr.p)] lf v acc p):=aA (by rw[bj];exact HP.o);clear bj p3;have cj:=aA (Fit.more (rs:=rs) (r:=⟨lf,acc,p⟩) HP.o.f ⟨cc.o,ay.o.2,ay.o.1⟩);obtain⟨zp,rfl⟩:∃x,x=p:=⟨_,rfl⟩
    obtain⟨vT',vN',vR',M⟩:=F.o.b;have ck:=aA M;obtain⟨_,_,⟨AR2,cR2,cl⟩⟩:=zj M;subst cl;obtain⟨Av,cv,bh,b3,b4,av⟩:=F.o.o.row hB;subst bh;have c2:wz.cell? ⟨R,2,none⟩=some (.slice AR2 rs.length cR2):=(M.at 2).1;have cC:=(M.at 2).2.2;have b0:=(Ad.1 F.o.qb).1;have ae:=aA (BD b3 (BD b4 av));clear M av b3 b4;have E0:=fun y:Calm.kO Q wz=>aS (y.2.trans F.o.qb);have E1:=fun y:Calm.kO Q wz=>aX (y.2.trans F.o.qb);have E2:=fun y:Calm.kO Q wz=>aY (y.2.trans F.o.qb);refine CalmN.fk (fun x=>∃y:Calm.kO Q wz,x=y.1) (.two [0,1,2,3,4,6] 5 (.one [] 7 (.one [] 8 (.one [9,10,11] 12 (.fin [])))) 7 (.one [] 5 (.one [] 8 (.one [9,10,11] 12 (.fin []))))) (by kernel_rfl) (by kernel_rfl) (fun _ _ d _ _ h=>by cases d <;> exact h) ⟨⟨wz.drew,rfl⟩,rfl⟩ ?_;simp only[CalmN.fN,CalmN.fv,CalmN.fo,Az,Am,Ap];repeat (go_big_quiet_step (fail))
    refine Aw ?_;clear E0 E1 E2;have aw:=aA (fun o=>(Bs wz o Q b0));refine⟨?_,?_⟩
    all_goals
     intro KK s;rw[AC (by rfl)];go_wp2_with fail
     refine s _ _ ⟨⟨_,by first|rfl|exact aw.o _⟩,rfl⟩ _ (fun _ h=>h) ⟨⟨_,by first|rfl|exact aw.o _⟩,rfl⟩ ?_;refine Aw ?_;intro KK s;rw[AC (by rfl)];go_wp2_with fail
     refine s _ _ ⟨⟨(wz.alloc _).drew,aw.o _⟩,rfl⟩ _ (fun _ h=>h) ⟨⟨(wz.alloc _).drew,aw.o _⟩,rfl⟩ ?_;refine Aw ?_;intro KK s;rw[AC (by rfl)];obtain⟨wy,U⟩:∃x,x=(wz.alloc (.cells #[.int .i64 lf,.slice Av acc.length cv,.int .i64 zp] 48)).drew:=⟨_,rfl⟩
     rw[<-U];have A0:Hid (fX wy B w.heap.size R (wC vT' vN' (.slice AR2 rs.length cR2) lv) vT' vN' (.slice AR2 rs.length cR2) ts' ns rs):=aA (by rw[U];exact(ck.o.alloc (.cells #[.int .i64 lf,.slice Av acc.length cv,.int .i64 zp] 48)).nG);have b5:Hid (Below B w wy):=aA (by rw[U];exact aB (F.o.w.alloc (Aj hB F.o.w.size) _) 1);have cm:Hid (jf w wy):=aA (by rw[U];exact F.o.k.trans (jf.below (aB ((AB _ _).alloc (Af _) _) 1)));have b6:Hid (wy.heap[Q]?=wz.heap[Q]?):=aA (by rw[U];exact aw.o _);have cn:Hid (∀j u,(pC (⟨lf,acc,zp⟩,Av,cv))[j]?=some u->wy.cell? ⟨wz.heap.size,j,none⟩=some u):=aA (fun j u hj=>by rw[U];exact(tS wz (pC (⟨lf,acc,zp⟩,Av,cv)) 48 j).trans hj)
     have bk:Hid (sS wy B wy.heap.size Av acc):=aA (by
      rw[U];exact(ae.o.2.2.grown (w':=(wz.alloc (.cells #[.int .i64 lf,.slice Av acc.length cv,.int .i64 zp] 48)).drew) (row:=none) ((Dh wz (.cells #[.int .i64 lf,.slice Av acc.length cv,.int .i64 zp] 48) none).trans (xW _ none)) (fun g e=>by cases e)).more (by show wz.heap.size<=(wz.alloc _).heap.size;simp))
     have a3:Hid (w.heap.size<=wy.heap.size):=aA b5.o.size;clear U;refine IS (.tmp 102) (.tmp 104) _ rfl underlying24 B w.heap.size _ rs rfl A0.o.r _ _ (⟨lf,acc,zp⟩,Av,cv) rfl cn.o ⟨ae.o.1,ae.o.2.1,bk.o⟩ (by omega) (Aj hB a3.o) a3.o ?_;intro v8 w8 bl ak;have A1:=aA ((A0.o.more (Aj a3.o ak.size)).Fp bl ak);obtain⟨A8,c8,rfl,_,_⟩:=xi bl
     have bm:Hid (w8.heap[Q]?=wz.heap[Q]?):=aA ((ak.block Q (by have:=(Ad.1 (b6.o.trans F.o.qb)).1;exact this) (fun e=>by
      obtain⟨_,_,_,h3,_⟩:=A0.o.r
      have:=h3 _ e.symm
      have:=F.o.q
      omega)).trans b6.o)
     have co:Hid (mg w w8):=aA (cm.o.a.trans (by obtain⟨_,_,h2,_⟩:=A0.o.r;exact mg.own h2 ak (.inr (.inr rfl))));have cp:Hid (Below B w w8):=aA (b5.o.grown ak (Aj hB a3.o) (fun k e=>by obtain⟨_,_,h2,_⟩:=A0.o.r;exact(aM h2 e).1));obtain⟨n8,b7⟩:∃n,n=(rs++[(⟨lf,acc,zp⟩:Gm.Rl)]).length:=⟨_,rfl⟩
     have c28:w8.cell? ⟨R,2,none⟩=some (.slice AR2 rs.length cR2):=(A1.o.at 2).1;have f28:=(A1.o.at 2).2.1;have cD:=(A1.o.at 2).2.2;rw[<-b7]at A1 ⊢;clear bl ak A0 b7;refine s _ _ ⟨⟨w8,bm.o⟩,rfl⟩ _ (fun _ h=>h) ⟨⟨w8,bm.o⟩,rfl⟩ ?_
     go_frame
     repeat (go_big_quiet_step (fail))
     refine Aw ?_;intro KK s;rw[AC (by rfl)];go_wp2_with fail
     have b9:=aA (fun u=>(AU w8 ⟨R,2,none⟩ u Q (by simp only;have:=F.o.q;omega)).trans bm.o);refine s _ _ ⟨⟨w8.setCell ⟨R,2,none⟩ _,b9.o _⟩,rfl⟩ _ (fun _ h=>h) ⟨⟨w8.setCell ⟨R,2,none⟩ _,b9.o _⟩,rfl⟩ ?_;refine Aw ?_;clear s;go_wp2;go_end0
     refine⟨rfl,⟨?_,cj.o,F.o.t⟩,cp.o.setCell A1.o.hR _,co.o.trans (jf.set A1.o 2 _).a⟩;rw[Qm];exact⟨vT',vN',_,A1.o.set 2 _⟩
def F2:Array Value:=#[.slice none 0 0,.slice none 0 0,.slice none 0 0,.int .i64 0]
structure Ez (ds:List Y.kB) (ps:List Y.iv):Prop where
 k:xD ds
 d:∀d∈ds,(∀x∈d.ns,K.Tx x.t/\Gm.named x.t=true)/\d.ns.length<=1000000
 l:∀p∈ps,K.Tx p.l.t/\T.isName p.l.t=true
 r:∀p∈ps,(∀x∈p.r,EX x)/\Jh p/\p.r.length<=1000
 dl:ds.length<=1000
 pl:ps.length<=1000
 pn:0<ps.length
theorem ND {ps:List Y.iv} (hk:xD ds) (h:Gm.build ds ps=.ok G):∃S ns q,Gm.decls ⟨[],[],none,0⟩ ds=.ok S/\Gm.kC S.ts [] ps=.ok ns/\Gm.ma ns S.ts [] ps=.ok q/\G=⟨q.1,ns,q.2,0⟩:=by
 unfold Gm.build at h;obtain⟨S,h1,h⟩:=Gm.R.bind_eq h;obtain⟨ns,h2,h⟩:=Gm.R.bind_eq h;obtain⟨q,h3,h⟩:=Gm.R.bind_eq h;have hs:S.st=none:=OO ds hk h1;rw[hs]at h;injection h with h;exact⟨S,ns,q,h1,h2,h3,h.symm⟩
theorem Nx {ps:List Y.iv} (h:i<ps.length):Gm.ma ns ts rs (ps.drop i)=(Gm.nP ns ts rs ps[i]).bind fun q=>Gm.ma ns q.1 q.2 (ps.drop (i+1)):=by
 rw[BV h,Gm.ma]
theorem O1 (w:World):(Instr.build 129 #[]).run prog w=.ok (.agg (wC (.slice none 0 0) (.slice none 0 0) (.slice none 0 0) 0)) w:=EG w 129 _ _ (by kernel_rfl)
theorem Oo {pr:Y.iv} (h:Gm.nP ns ts rs pr=.ok (ts',rs')) (hl:rs.length<=40):rs'.length<=40:=by
 obtain⟨aa,tz,az,pz,_,q⟩:=J2 h;rcases q with⟨_,_,rfl⟩|⟨x,z,_,_,rfl⟩ <;> simp <;> omega
def G1 (w:World) (v:Value) (G:Gm.Gr):Prop:=∃B N R cs vT vN vR,v=.agg #[vT,vN,vR,.int .i64 G.st]/\fX w B N R cs vT vN vR G.ts G.ns G.rs/\N<=w.heap.size
theorem G1.rd {w:World} {v:Value} {G:Gm.Gr} (h:G1 w v G):aT w w.heap.size v G:=by
 obtain⟨B,N,R,cs,vT,vN,vR,rfl,h,hN⟩:=h;exact h.rd hN G.st
theorem Rg (w:World) (A1 A2:Option Addr) (n1 n2 c1 c2:Nat) (wb:World) (h:wb=((w.alloc (.cells #[.slice A1 n1 c1,.slice A2 n2 c2] 96)).alloc (.cells #[.slice none 0 0,.slice none 0 0,.slice none 0 0,.int .i64 0] 26)).alloc (.cells (wC (.slice none 0 0) (.slice none 0 0) (.slice none 0 0) 0) 129)) :
  Below w.heap.size w wb/\wb.heap.size=w.heap.size+3/\wb.heap[w.heap.size]?=some (.cells #[.slice A1 n1 c1,.slice A2 n2 c2] 96 (0,0))/\wb.heap[w.heap.size+1]?=some (.cells #[.slice none 0 0,.slice none 0 0,.slice none 0 0,.int .i64 0] 26 (0,0))/\Wk wb w.heap.size (w.heap.size+3) (w.heap.size+1+1) [] [] [] 0:=by
 obtain⟨o0,h0⟩:∃o,o=Obj.cells #[.slice A1 n1 c1,.slice A2 n2 c2] 96:=⟨_,rfl⟩
 obtain⟨o1,h1⟩:∃o,o=Obj.cells #[.slice none 0 0,.slice none 0 0,.slice none 0 0,.int .i64 0] 26:=⟨_,rfl⟩
 obtain⟨o2,h2⟩:∃o,o=Obj.cells (wC (.slice none 0 0) (.slice none 0 0) (.slice none 0 0) 0) 129:=⟨_,rfl⟩
 rw[<-h0,<-h1,<-h2]at h;subst h;have s1:(w.alloc o0).heap.size=w.heap.size+1:=by simp
 have s2:((w.alloc o0).alloc o1).heap.size=w.heap.size+1+1:=by simp
 refine⟨(((AB _ w).alloc (Af _) o0).alloc (by omega) o1).alloc (by omega) o2,by simp,?_,?_,.slice none 0 0,.slice none 0 0,.slice none 0 0,?_,bB.nil _ _,bK.nil _ _,bA.nil _ _ _,by omega⟩
 ·rw[Bs _ _ _ (by omega),Bs _ _ _ (by omega),h0];exact AG w _
 ·rw[Bs _ _ _ (by omega),<-s1,h1];exact AG _ _
 ·rw[<-s2,h2];exact AG _ _
theorem Tg (L:List Int) (ds:List Y.kB) (ps:List Y.iv) (A1 A2:Option Addr) (c1 c2:Nat) (G:Gm.Gr) (w:World) (hd:zy L w w.heap.size A1 ds) (hp:zx L w w.heap.size A2 ps) (hz:Ez ds ps) (hb:Gm.build ds ps=.ok G) :
  Calls prog 44 #[.agg #[.slice A1 ds.length c1,.slice A2 ps.length c2]] w fun e w'=>(∃g,e=.returned (.tuple #[g,.complex .f64 0 0,.int .i64 0])/\G1 w' g G/\Gm.Fit G)/\Below w.heap.size w w':=by
 obtain⟨S,ns,⟨tz,rz⟩,h1,h2,h3,hG⟩:=ND hz.k hb;have ax:=fun w=>O1 w;unfold wC at ax;have ay:=aA hd;have ai:=aA hp;have HZ:=aA hz;have H1:=aA h1;have H2:=aA h2;have H3:=aA h3;have HG:=aA hG;have bl:Hid (0<ps.length):=aA hz.pn;clear hd hp hz hb h1 h2 h3 hG
 go_enter func44,ntmps44
 go_wp2_with fail
 obtain⟨wb,ae⟩:∃x,x=((w.alloc (.cells #[.slice A1 ds.length c1,.slice A2 ps.length c2] 96)).alloc (.cells #[.slice none 0 0,.slice none 0 0,.slice none 0 0,.int .i64 0] 26)).alloc (.cells (wC (.slice none 0 0) (.slice none 0 0) (.slice none 0 0) 0) 129):=⟨_,rfl⟩
 have bm:=Rg w A1 A2 ds.length ps.length c1 c2 wb ae;unfold wC at ae;rw[<-ae];obtain⟨b1,b2,b3,b4,b5⟩:=bm;have u:=aA b1;have aj:=aA b3;have az:=aA b4;have ak:=aA b5;have q:Hid (w.heap.size<=wb.heap.size/\w.heap.size+3<=wb.heap.size):=aA (by omega);clear ae b1 b2 b3 b4 b5 ax;obtain⟨n,hn⟩:∃n,n=w.heap.size:=⟨_,rfl⟩
 have bo:=aA hn;rw[<-hn]at ay ai u aj az ak q ⊢;clear hn;obtain⟨R,hR⟩:∃R,R=n+1+1:=⟨_,rfl⟩
 rw[<-hR]at ak ⊢;have cb:=aA hR;clear hR;have bp:Hid (Gm.Fit ⟨[],[],[],0⟩):=aA ⟨by simp,by simp,by simp,by unfold Gm.In;simp⟩;have HC:=aA (Tc L n (n+3) R [] [] ds ⟨[],[],none,0⟩ S A1 c1 wb ak.o ⟨bp.o,by simp,by simp⟩ HZ.o.k HZ.o.d (ay.o.fp u.o) q.o.2 q.o.1 rfl HZ.o.dl H1.o);refine HC.o.mono ?_;rintro _ w2 ⟨rfl,⟨a0,a1⟩,a2,al⟩;have a3:=aA a0;have am:=aA a1;have s:=aA a2;have a4:=aA (jf.a al);have ab:=aA (al _ _ _ aj.o (by decide) (by decide));have s1:=aX ab.o;have aa:=(Ad.1 ab.o).1;have a5:=aA (R5 L n (n+3) R S.ts [] ps [] ns S.lv A2 c2 w2 a3.o am.o.f HZ.o.l ((ai.o.fp u.o).fp s.o) (Aj q.o.2 s.o.size) (Aj q.o.1 s.o.size) (by simp) HZ.o.pl H2.o);clear a0 a1 a2 al HC;go_wp2_with fail
 refine a5.o.mono ?_;rintro _ w3 ⟨rfl,⟨a6,a9,ba⟩,ao,bb⟩;have bq:Hid (Wk w3 n w3.heap.size R S.ts ns [] S.lv):=aA (a6.more (Aj q.o.2 (Aj s.o.size ao.size)));have br:=aA a9;have bs:=aA (s.o.trans ao);have bu:=aA (a4.o.trans bb);have bv:=aA ba;have bw:=aA am.o.h;clear a6 a9 ao bb a5 s1 ba aa a3 s a4 ab am;go_wp2;go_loopw [6] (fun vi wr=>∃(i:Nat) (ts:List Gm.Tm) (rs:List Gm.Rl),i<=ps.length/\vi=.int .i64 i/\Hid (Gm.ma ns ts rs (ps.drop i)=.ok (tz,rz))/\Hid (Wk wr n wr.heap.size R ts ns rs S.lv)/\Hid (Gm.Fit ⟨ts,ns,rs,0⟩)/\Hid (ts.length<=24)/\Hid (rs.length<=40)/\Hid (Below n wb wr)/\Hid (mg wb wr)) (fun vi _=>ps.length-(intOf vi).toNat)
 case atStart=>exact⟨0,S.ts,[],AV _,rfl,H3,bq,br,bw,aA (by simp),bs,bu⟩
 case round =>
  obtain⟨i,ts,rs,hi,rfl,HE,HW,HF,HT,bc,af,ap⟩:=hrel;have ag:=aA (ap.o _ _ _ aj.o (by decide) (by decide) (by decide) (by decide));have s1:=aX ag.o;have aa:=(Ad.1 ag.o).1;obtain⟨vTr,vNr,vRr,aq⟩:=HW.o;have f10:=(aq.at 10).1;have bx:=aq.lt;simp only[wC,Az,Am,Ap]at f10;clear aq;have cc:=af.o.size;have cd:=HZ.o.pl;have ar:n<=wr.heap.size:=by have:=q.o;omega
  by_cases z:i<ps.length
  ·have bz:=aA ((ai.o.fp u.o).fp af.o);obtain⟨g,o,rfl,ce,hc⟩:=bz.o (by omega);obtain⟨k0,k1,⟨A',c',k2,bd⟩,k3,k4⟩:=hc i z;have cf:g<wr.heap.size:=by have:=q.o;omega
   have hE:=HE.o;rw[Nx z]at hE;obtain⟨⟨t2,r2⟩,au,av⟩:=Gm.R.bind_eq hE;simp only at av;have bD:=aA av;obtain⟨z1,z2,z3⟩:=HZ.o.r _ (AE z);have HC:=aA (SZ L n R ts t2 ns rs r2 S.lv ps[i] A' c' wr HW.o HF.o bd (HZ.o.l _ (AE z)).1 z1 z2 (by have:=q.o;omega) HT.o bv.o bc.o z3 au);have bM:=aA (Oo au bc.o);unfold FJ at HC;clear hc bd hE av au z1 z2 z3;generalize ps[i]=p at *;generalize yR L p.l=X0 at *;generalize yS L p.l=Y0 at *;generalize K.str p.l.t=s0 at *;generalize yW L p.p=X1 at *;generalize yX L p.p=Y1 at *;generalize yV p.p=s1 at *;go_wp2_with fail
   refine HC.o.mono ?_;rintro _ w4 ⟨rfl,⟨bf,bg,bh⟩,bi,bj⟩;have H4:=aA (BD bf (BD bg (BD bh (BD (af.o.trans bi) (ap.o.trans bj)))));clear bf bg bh bi bj HC;go_wp2;go_roundw
   case rel=>exact⟨i+1,t2,r2,z,by go_num,bD,aA H4.o.1,aA H4.o.2.1,aA H4.o.2.2.1,bM,aA H4.o.2.2.2.1,aA H4.o.2.2.2.2⟩
   case measure=>simp[intOf];omega
  ·obtain rfl:i=ps.length:=by omega
   have hE:=HE.o;rw[Ew,Gm.ma]at hE;injection hE with hE;injection hE with e1 e2;subst e1;subst e2;have e0:((ps.length:Int)==0)=false:=Ba.2 (by have:=bl.o;omega);go_wp2_with fail
   have f7:=fun y:Calm.On wr.heap.size wr=>(show y.1.cell? ⟨R,7,none⟩=some (.bool false) by obtain⟨a,b,c,h⟩:=HW.o.below y.2;exact(h.at 7).1)
   refine CalmN.fk (fun x=>∃y:Calm.On wr.heap.size wr,x=y.1) (.one [0,1,2,3,4,5,6,7,8,9,10,11,12,13] 14 (.fin [15,16])) (by kernel_rfl) (by kernel_rfl) (fun _ _ d _ _ h=>by cases d <;> exact h) ⟨⟨wr.drew,aB (AB _ _) 1⟩,rfl⟩ ?_;simp only[CalmN.fN,CalmN.fv,CalmN.fo,Az,Am,Ap];repeat (go_big_quiet_step (fail))
   refine Aw ?_;intro KK2 ac;rw[AI (by exact(fun h=>absurd (show false=true from h) (by decide)))];refine ac _ _ ⟨⟨wr.drew,aB (AB _ _) 1⟩,rfl⟩ _ (fun _ h=>h) ⟨⟨wr.drew,aB (AB _ _) 1⟩,rfl⟩ ?_;simp only[Act.put,CA,Cz,CB];repeat (go_big_quiet_step (fail))
   refine Aw ?_;clear f7 s1 aa f10 bx ac;obtain⟨wz,ah⟩:∃x,x=wr.drew:=⟨_,rfl⟩
   rw[<-ah];have A:Below wr.heap.size wr wz:=by rw[ah];exact aB (AB _ _) 1
   have bT:=aA (HW.o.below A);have bk:wz.heap.size=wr.heap.size:=by rw[ah];rfl
   have bX:=aA ((u.o.trans af.o).trans (A.mono ar));have ad:=aA ((A.block _ (Ad.1 ag.o).1).trans ag.o);have aw:=ap.o _ _ _ az.o (by decide) (by decide) (by decide) (by decide);have j:=aA ((A.block _ (Ad.1 aw).1).trans aw);clear ah aw A;have s1:=aX ad.o;have aa:=(Ad.1 ad.o).1;obtain⟨vTz,vNz,vRz,m⟩:=bT.o;obtain⟨⟨AT,cT,rfl⟩,⟨AN,cN,rfl⟩,⟨AR,cR,rfl⟩⟩:=zj m;have b6:=aA m;have b0:=(m.at 0).1;have b1:=(m.at 1).1;have b2:=(m.at 2).1;have b3:=(m.at 3).1;have b7:=(m.at 7).1;have b10:=(m.at 10).1;have cg:=m.lt;simp only[wC,Az,Am,Ap]at b0 b1 b2 b3 b7 b10;have g0:=aS j.o;have g1:=aX j.o;have g2:=aY j.o;have g3:=bI j.o;have f0:=AH wz _ 0 _ _ j.o;have f1:=AH wz _ 1 _ _ j.o;have f2:=AH wz _ 2 _ _ j.o;have f3:=AH wz _ 3 _ _ j.o;have ch:=(Ad.1 j.o).1;have b9:Hid (oj wz wz.heap.size (some (n+1))):=aA ⟨fun g e=>by injection e with e;subst e;exact⟨_,_,j.o,by decide,by decide,by decide,.inl ⟨by decide,by decide⟩⟩⟩;have ca:=aA (fun u0 u1 u2 u3=>(b6.o.more (N':=wz.heap.size) (by rw[bk];exact Af _)).grown (aF (aF (aF (aF (AJ wz (some (n+1))) 0 u0) 1 u1) 2 u2) 3 u3) b9.o);clear m bk;go_wp2;refine B8 (v:=.tuple #[.agg #[.slice AT ts.length cT,.slice AN ns.length cN,.slice AR rs.length cR,.int .i64 0],.complex .f64 0 0,.int .i64 0]) (by simp[results,results44,go_sem,g0,g1,g2,g3]) rfl ?_;rw[HG.o];refine⟨⟨_,rfl,⟨_,_,_,_,_,_,_,rfl,ca.o _ _ _ _,by simp⟩,HF.o⟩,?_⟩;rw[<-bo.o];exact(((bX.o.setCell (by simp only;omega) _).setCell (by simp only;omega) _).setCell (by simp only;omega) _).setCell (by simp only;omega) _
theorem Iz {rest:List Oper} {o:Oper} {a:Act} {Q:Exit->Act->World->Prop} (af:o.guard=none) (s x:Operand) (t:TypeId) (ho:o.op=.call {callee:=.builtin .append,args:=#[s,x],argTypes:=#[t,t]}) (ht:prog.underlying t=some (.slice 81)) (base:Nat) (v:Value) (xs:List Gm.Tm) (hs:a.eval s=v) (aa:bB w base v xs) (B m c:Nat) (A:Option Addr) (zs:List Gm.Tm) (hx:a.eval x=.slice A m c) (hm:m=zs.length) (hr:rV w B A zs) (aj:xs.length+zs.length<=1000000) (ab:base<=w.heap.size) (hK:∀v' w',bB w' base v' (xs++zs)->w.grownBy w' v.ownBlock->wpList prog ops Q rest (a.put o.dst v') w') :
  wpList prog ops Q (o::rest) a w:=by
 obtain⟨i,hi,ak,al,am⟩:=Cs LS;subst hm;rcases A with _|ad
 ·have hz:zs=[]:=by
   rcases CY zs.length with h0|h0
   ·exact BB h0
   ·obtain⟨g,o',h,_⟩:=hr (by omega);cases h
  subst hz;have ac:=zg (P:=prog) w base t o.type 81 i 3 ht hi v xs.length _ aa c;refine Es af fun K ao=>?_;unfold Oper.wp;simp[execOp,ho,resolve,invoke,builtin,hs,hx,ac,Result.andThen];exact ao _ _ (hK v w (by simpa using aa) (AJ _ _))
 ·refine CT w af s x t ho base 81 i _ 3 32 ht hi ak al am rfl (by decide) v xs.length (ye xs) hs aa ad zs.length c (ye zs) hx (Kk mf (fun _=>rfl) zs) ?_ ?_ (by unfold maxLen;omega) (by omega) ab fun v' w' h1 h2 _=>hK v' w' ?_ h2
  ·intro j u hj;have ap:j<zs.length*3:=by have:=(Bc.1 hj).1;rw[<-Kk mf (fun _=>rfl) zs];exact this
   obtain⟨g,o',h,_,hc⟩:=hr (by omega)
   replace h:=DI h
   subst h;have e:((⟨g,o',none⟩:Addr).add j)=⟨g,o'+j,none⟩:=by unfold Addr.add;by_cases h0:j=0 <;> simp[h0]
   rw[e];have ag:j / 3<zs.length:=by omega
   have ah:j % 3<3:=Nat.mod_lt _ (by decide);have ai:j=j / 3*3+j % 3:=by omega
   have hk:=Ie mf (fun _=>rfl) zs (j / 3) (j % 3) ag ah;rw[<-ai]at hk;have ae:(mf zs[j / 3])[j % 3]?=some u:=hk.symm.trans hj;obtain⟨k0,k1,k2⟩:=hc (j / 3) ag;rw[ai];generalize j % 3=q at *
   match q,ah with
   | 0,_=>rw[Dp,k0];exact ae
   | 1,_=>rw[<-Nat.add_assoc,k1];exact ae
   | 2,_=>rw[<-Nat.add_assoc,k2];exact ae
  ·intro u hu;unfold ye at hu;obtain⟨y,_,hy⟩:=CG.1 hu;simp[mf]at hy;rcases hy with rfl|rfl|rfl <;> rfl
  ·unfold bB ye;rw[AW,B4];exact h1
theorem QK {rest:List Oper} {o:Oper} {a:Act} {Q:Exit->Act->World->Prop} (ae:o.guard=none) (s x:Operand) (t:TypeId) (ho:o.op=.call {callee:=.builtin .append,args:=#[s,x],argTypes:=#[t,t]}) (ht:prog.underlying t=some (.slice 9)) (base:Nat) (v:Value) (xs:List (List Int)) (hs:a.eval s=v) (aa:bK w base v xs) (B m c:Nat) (A:Option Addr) (zs:List (List Int)) (hx:a.eval x=.slice A m c) (hm:m=zs.length) (hr:tM w B A zs) (ag:xs.length+zs.length<=1000000) (ab:base<=w.heap.size) (hK:∀v' w',bK w' base v' (xs++zs)->w.grownBy w' v.ownBlock->wpList prog ops Q rest (a.put o.dst v') w') :
  wpList prog ops Q (o::rest) a w:=by
 obtain⟨i,hi,ah,ai,aj⟩:=Cs IX;subst hm;rcases A with _|ad
 ·have hz:zs=[]:=by
   rcases CY zs.length with h0|h0
   ·exact BB h0
   ·obtain⟨g,o',h,_⟩:=hr (by omega);cases h
  subst hz;have ac:=zg (P:=prog) w base t o.type 9 i 1 ht hi v xs.length _ aa c;refine Es ae fun K ak=>?_;unfold Oper.wp;simp[execOp,ho,resolve,invoke,builtin,hs,hx,ac,Result.andThen];exact ak _ _ (hK v w (by simpa using aa) (AJ _ _))
 ·refine CT w ae s x t ho base 9 i _ 1 16 ht hi ah ai aj rfl (by decide) v xs.length (tI xs) hs aa ad zs.length c (tI zs) hx (by unfold tI;simp) ?_ ?_ (by unfold maxLen;omega) (by omega) ab fun v' w' h1 h2 _=>hK v' w' ?_ h2
  ·intro j u hj;have af:j<zs.length:=by have:=(Bc.1 hj).1;simpa[tI] using this
   obtain⟨g,o',h,_,hc⟩:=hr (by omega)
   replace h:=DI h
   subst h;have e:((⟨g,o',none⟩:Addr).add j)=⟨g,o'+j,none⟩:=by unfold Addr.add;by_cases h0:j=0 <;> simp[h0]
   rw[e,hc j af];unfold tI at hj;rw[Bv,AD af]at hj
   simpa using hj
  ·intro u hu;unfold tI at hu;obtain⟨y,_,rfl⟩:=Bm.1 hu;rfl
  ·unfold bK tI;rw[AW,Bf];exact h1
theorem xV (w:World):bB (w.alloc (.cells #[] 81)) w.heap.size (.slice (some ⟨w.heap.size,0,none⟩) 0 0) []:=by
 have:=World.ownsRow_made (base:=w.heap.size) (e:=81) (size:=3) w #[] 0 (Af _) (by unfold maxLen;omega) rfl
 exact this
theorem FB (w:World):bK (w.alloc (.cells #[] 9)) w.heap.size (.slice (some ⟨w.heap.size,0,none⟩) 0 0) []:=by
 have:=World.ownsRow_made (base:=w.heap.size) (e:=9) (size:=1) w #[] 0 (Af _) (by unfold maxLen;omega) rfl
 exact this
theorem N3 (A:Option Addr) (c B:Nat) (zs:List Int) (w:World) (hr:gd w B A zs) (hB:B<=w.heap.size) (hl:zs.length<=1000000) :
  Calls prog 24 #[.slice A zs.length c] w fun e w'=>∃v,e=.returned v/\aV w' w.heap.size v zs/\Below w.heap.size w w':=by
 have HR:=aA (fun o=>(show gd (w.alloc o) w.heap.size A zs from fun hn=>by
  obtain⟨g,o',e,hg,hc⟩:=hr hn;exact⟨g,o',e,by omega,fun j hj=>(Below.cell ((AB w.heap.size w).alloc (Af _) o) (p:=⟨g,o'+j,none⟩) (by simp only;omega)).trans (hc j hj)⟩))
 clear hr
 go_enter func24,ntmps24
 go_wp2_with (at_builtin;refine QI rfl (.tmp 3) (.tmp 4) _ rfl underlying38 w.heap.size _ [] rfl (JN w) w.heap.size zs.length c A zs rfl rfl (HR.o _) (by simp;omega) (by simp) ?_;intro v' w' h1 h2)
 go_ret
 exact⟨_,rfl,h1,Ht ((AB _ _).alloc (Af _) _) (JN w) h2 (by simp)⟩
end Go.Proofs.YtcmhaemaophplaaGreat
