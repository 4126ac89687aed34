/- Part of the proofs over this program: Work9, Term9, ShowL, Decls9, ShowSrc, ShowBld2, CfgName, ShowRule, ShowLev, Lefts9, Sym9, Prj9, Prod9, BldY, Build9, Rcopy, Rcopy2. -/
import Derived.Maps.AppendAt
import Derived.Test.YtcmhaemaophplaaGreatW2G
set_option linter.all false
namespace Go
def Cw:=@List.setIfInBounds_toArray
def CK:=@List.set_cons_zero
def Ea:=@Nat.add_zero
end Go
set_option maxRecDepth 100000
set_option maxHeartbeats 40000000
variable {B N N' base base' g i n:Nat} {G:Go.Proofs.YtcmhaemaophplaaGreat.Gm.Gr} {cs:Array Go.Value} {ds:List Go.Proofs.YtcmhaemaophplaaGreat.Y.Dcl} {lv z:Int} {ns ns' ws:List (List Int)} {ops:Array Go.Oper} {rs:List Go.Proofs.YtcmhaemaophplaaGreat.Gm.Rl} {ts ts':List Go.Proofs.YtcmhaemaophplaaGreat.Gm.Tm} {v v' vN vR vT:Go.Value} {w w' wr:Go.World} {xs:List Go.Value}
namespace Go.Proofs.YtcmhaemaophplaaGreat
open Go.RowKit
def wC (vT vN vR:Value) (lv:Int):Array Value:=#[vT,vN,vR,.int .i64 0,.slice none 0 0,.string ⟨#[]⟩,.complex .f64 0 0,.bool false,.int .i64 lv,.complex .f64 0 0,.int .i64 0]
structure WRaw (w:World) (B N R:Nat) (cs:Array Value) (vT vN vR:Value) (ts:List Gm.Tm) (ns:List (List Int)) (rs:List Gm.Rl):Prop where
 b:w.heap[R]?=some (.cells cs 129 (0,0))
 t:bE w B vT ts
 n:bI w B vN ns
 r:a7 w B N vR rs
 hR:B<=R
structure Off9 (w:World) (N:Nat) (row:Option Nat):Prop where
 h:∀g,row=some g->∃cs T,w.heap[g]?=some (.cells cs T (0,0))/\T≠129/\T≠81/\T≠9/\((T≠48/\T≠3)\/N<=g)
theorem Off9.none (w:World) (N:Nat):Off9 w N .none:=⟨fun _ h=>by cases h⟩
section
variable {w w':World} {B N R:Nat} {cs:Array Value} {vT vN vR:Value} {ts:List Gm.Tm} {ns:List (List Int)} {rs:List Gm.Rl} {row:Option Nat}
theorem WRaw.grown (h:WRaw w B N R cs vT vN vR ts ns rs) (hg:w.grownBy w' row) (ho:Off9 w N row):WRaw w' B N R cs vT vN vR ts ns rs:=by
 have hb:some R≠row:=fun e=>by
  obtain⟨cs,T,h1,h2,_⟩:=ho.h R e.symm;exact aP h1 h2 _ h.b
 refine⟨(hg.block R (Ad.1 h.b).1 hb).trans h.b,Ba h.t hg ?_,Ba h.n hg ?_,h.r.grown hg ?_,h.hR⟩
 ·rcases row with _|g
  ·exact zat _
  ·obtain⟨cs,T,h1,_,h2,_⟩:=ho.h g rfl;exact aO h.t h1 (fun cur e=>by injection e with _ e;exact h2 e)
 ·rcases row with _|g
  ·exact zat _
  ·obtain⟨cs,T,h1,_,_,h2,_⟩:=ho.h g rfl;exact aO h.n h1 (fun cur e=>by injection e with _ e;exact h2 e)
 ·intro g e;obtain⟨cs,T,h1,_,_,_,h2⟩:=ho.h g e;rcases h2 with q|q
  ·exact .inl ⟨aP h1 q.2,aP h1 q.1⟩
  ·exact .inr q
theorem WRaw.below (h:WRaw w B N R cs vT vN vR ts ns rs) (hb:Below w.heap.size w w'):WRaw w' B N R cs vT vN vR ts ns rs:=h.grown (aL hb .none) (Off9.none _ _)
theorem WRaw.alloc (h:WRaw w B N R cs vT vN vR ts ns rs) (o:Obj):WRaw (w.alloc o) B N R cs vT vN vR ts ns rs:=h.grown (DK w o .none) (Off9.none _ _)
theorem WRaw.tm_put (h:WRaw w B N R cs vT vN vR ts ns rs) (ht:bE w' B v' ts') (hg:w.grownBy w' vT.ownBlock):WRaw w' B N R cs v' vN vR ts' ns rs:=by
 refine⟨zac h.b h.t (by decide) hg,ht,Ba h.n hg (zai h.n h.t (by decide)),h.r.grown hg (fun g e=>.inl ?_),h.hR⟩;obtain⟨_,cur,hc⟩:=aM h.t e;exact⟨aP hc (by decide),aP hc (by decide)⟩
theorem WRaw.n_put (h:WRaw w B N R cs vT vN vR ts ns rs) (ht:bI w' B v' ns') (hg:w.grownBy w' vN.ownBlock):WRaw w' B N R cs vT v' vR ts ns' rs:=by
 refine⟨zac h.b h.n (by decide) hg,Ba h.t hg (zai h.t h.n (by decide)),ht,h.r.grown hg (fun g e=>.inl ?_),h.hR⟩;obtain⟨_,cur,hc⟩:=aM h.n e;exact⟨aP hc (by decide),aP hc (by decide)⟩
theorem WRaw.r_put (h:WRaw w B N R cs vT vN vR ts ns rs) {rs':List Gm.Rl} (ht:a7 w' B N' v' rs') (hg:w.grownBy w' vR.ownBlock):WRaw w' B N' R cs vT vN v' ts ns rs':=by
 obtain⟨qs,_,h2,_⟩:=id h.r;exact⟨zac h.b h2 (by decide) hg,Ba h.t hg (zai h.t h2 (by decide)),Ba h.n hg (zai h.n h2 (by decide)),ht,h.hR⟩
theorem WRaw.set (h:WRaw w B N R cs vT vN vR ts ns rs) (j:Nat) (u:Value):WRaw (w.setCell ⟨R,j,none⟩ u) B N R (cs.setIfInBounds j u) vT vN vR ts ns rs:=by
 have hg:w.grownBy (w.setCell ⟨R,j,none⟩ u) (some R):=aF (AM _ _) j u;refine⟨AW w R j _ _ u h.b,Ba h.t hg (aO h.t h.b (fun cur e=>by injection e with _ e;cases e)),Ba h.n hg (aO h.n h.b (fun cur e=>by injection e with _ e;cases e)),h.r.grown hg (fun g e=>.inl ?_),h.hR⟩;injection e with e;subst e;exact⟨aP h.b (by decide),aP h.b (by decide)⟩
theorem WRaw.more (h:WRaw w B N R cs vT vN vR ts ns rs) (hN:N<=N'):WRaw w B N' R cs vT vN vR ts ns rs:=⟨h.b,h.t,h.n,h.r.more hN,h.hR⟩
theorem WRaw.at (h:WRaw w B N R cs vT vN vR ts ns rs) (j:Nat):w.cell? ⟨R,j,none⟩=cs[j]?/\w.frozen? ⟨R,j,none⟩=false/\R<w.heap.size :=
 ⟨AD w R j _ _ _ h.b,AH w R j _ _ h.b,(Ad.1 h.b).1⟩
theorem WRaw.lt (h:WRaw w B N R cs vT vN vR ts ns rs):R<w.heap.size:=(Ad.1 h.b).1
theorem WRaw.rd (h:WRaw w B N R cs vT vN vR ts ns rs) (hN:N<=w.heap.size) (z:Int):aR w w.heap.size (.agg #[vT,vN,vR,.int .i64 z]) ⟨ts,ns,rs,z⟩:=by
 obtain⟨AT,cT,rfl,h1,h2⟩:=zbn h.t;obtain⟨AN,cN,rfl,h3,h4⟩:=zbW h.n;obtain⟨AR,cR,rfl,h5,h6⟩:=zbr h.r hN;exact⟨AT,cT,AN,cN,AR,cR,rfl,h1,h3,h5,h2,h4,h6⟩
end
def KpT (w w':World):Prop:=∀(g:Nat) (cs:Array Value) (T:TypeId),w.heap[g]?=some (.cells cs T (0,0))->T≠129->T≠81->w'.heap[g]?=some (.cells cs T (0,0))
def KpA (w w':World):Prop:=∀(g:Nat) (cs:Array Value) (T:TypeId),w.heap[g]?=some (.cells cs T (0,0))->T≠129->T≠81->T≠9->T≠48->w'.heap[g]?=some (.cells cs T (0,0))
theorem KpT.refl (w:World):KpT w w:=fun _ _ _ h _ _=>h
theorem KpA.refl (w:World):KpA w w:=fun _ _ _ h _ _ _ _=>h
theorem KpT.trans {a b c:World} (h:KpT a b) (k:KpT b c):KpT a c:=fun g cs T h1 h2 h3=>k g cs T (h g cs T h1 h2 h3) h2 h3
theorem KpA.trans {a b c:World} (h:KpA a b) (k:KpA b c):KpA a c:=fun g cs T h1 h2 h3 h4 h5=>k g cs T (h g cs T h1 h2 h3 h4 h5) h2 h3 h4 h5
theorem KpT.a (h:KpT w w'):KpA w w':=fun g cs T h1 h2 h3 _ _=>h g cs T h1 h2 h3
theorem KpT.below (h:Below w.heap.size w w'):KpT w w':=fun g _ _ h1 _ _=>(h.block g (Ad.1 h1).1).trans h1
theorem KpA.below (h:Below w.heap.size w w'):KpA w w':=(KpT.below h).a
theorem KpT.cells (h:w.grownBy w' (some g)) {T:TypeId} (hg:w.heap[g]?=some (.cells cs T (0,0))) (hT:T=129\/T=81):KpT w w':=fun k cs' T' h1 h2 h3=>by
 refine(h.block k (Ad.1 h1).1 (fun e=>?_)).trans h1;injection e with e;subst e;rw[hg]at h1;injection h1 with h1;injection h1 with _ h1;rcases hT with q|q
 ·exact h2 (h1.symm.trans q)
 ·exact h3 (h1.symm.trans q)
theorem KpA.cells (h:w.grownBy w' (some g)) {T:TypeId} (hg:w.heap[g]?=some (.cells cs T (0,0))) (hT:T=129\/T=81\/T=9\/T=48):KpA w w':=fun k cs' T' h1 h2 h3 h4 h5=>by
 refine(h.block k (Ad.1 h1).1 (fun e=>?_)).trans h1;injection e with e;subst e;rw[hg]at h1;injection h1 with h1;injection h1 with _ h1;rcases hT with q|q|q|q
 ·exact h2 (h1.symm.trans q)
 ·exact h3 (h1.symm.trans q)
 ·exact h4 (h1.symm.trans q)
 ·exact h5 (h1.symm.trans q)
theorem KpT.own {size:Nat} (ho:w.ownsRow base 81 size v n xs) (h:w.grownBy w' v.ownBlock):KpT w w':=by
 rcases hv:v.ownBlock with _|k
 ·rw[hv]at h;exact fun g _ _ h1 _ _=>(h.block g (Ad.1 h1).1 (by simp)).trans h1
 ·rw[hv]at h;obtain⟨_,cur,hc⟩:=aM ho hv;exact KpT.cells h hc (.inr rfl)
theorem KpA.own {size:Nat} {e:TypeId} (ho:w.ownsRow base e size v n xs) (h:w.grownBy w' v.ownBlock) (he:e=81\/e=9\/e=48):KpA w w':=by
 rcases hv:v.ownBlock with _|k
 ·rw[hv]at h;exact fun g _ _ h1 _ _ _ _=>(h.block g (Ad.1 h1).1 (by simp)).trans h1
 ·rw[hv]at h;obtain⟨_,cur,hc⟩:=aM ho hv;exact KpA.cells h hc (.inr he)
theorem KpT.set {R:Nat} (h:WRaw w B N R cs vT vN vR ts ns rs) (j:Nat) (u:Value):KpT w (w.setCell ⟨R,j,none⟩ u):=KpT.cells (aF (AM w (some R)) j u) h.b (.inl rfl)
def Wk (w:World) (B N R:Nat) (ts:List Gm.Tm) (ns:List (List Int)) (rs:List Gm.Rl) (lv:Int):Prop:=∃vT vN vR,WRaw w B N R (wC vT vN vR lv) vT vN vR ts ns rs
theorem Wk.below {R:Nat} (h:Wk w B N R ts ns rs lv) (hb:Below w.heap.size w w'):Wk w' B N R ts ns rs lv:=by
 obtain⟨vT,vN,vR,h⟩:=h;exact⟨vT,vN,vR,h.below hb⟩
theorem Wk.alloc {R:Nat} (h:Wk w B N R ts ns rs lv) (o:Obj):Wk (w.alloc o) B N R ts ns rs lv:=by
 obtain⟨vT,vN,vR,h⟩:=h;exact⟨vT,vN,vR,h.alloc o⟩
theorem Wk.more {R:Nat} (h:Wk w B N R ts ns rs lv) (hN:N<=N'):Wk w B N' R ts ns rs lv:=by
 obtain⟨vT,vN,vR,h⟩:=h;exact⟨vT,vN,vR,h.more hN⟩
theorem Wk.lt {R:Nat} (h:Wk w B N R ts ns rs lv):R<w.heap.size/\B<=R:=by
 obtain⟨vT,vN,vR,h⟩:=h;exact⟨h.lt,h.hR⟩
end Go.Proofs.YtcmhaemaophplaaGreat
namespace Go.Proofs.YtcmhaemaophplaaGreat
open Go.RowKit
theorem zii (s:ByteArray) (w:World):(Instr.build 81 #[(0,.string s)]).run Tryz.prog w=.ok (.agg #[.string s,.int .i64 0,.int .i64 0]) w:=EN w 81 _ _ (by kernel_rfl)
theorem zk5 {o:Oper} {a:Act} {KK:Act->World->Prop} {Q:Exit->Act->World->Prop} (s x:Operand) (t:TypeId) (ho:o.op=.call {callee:=.builtin .append,args:=#[s,x],argTypes:=#[t,t]}) (ht:Tryz.prog.underlying t=some (.slice 81)) (base:Nat) (v:Value) (ts:List Gm.Tm) (hs:a.eval s=v) (ab:bE w base v ts) (g c:Nat) (y:Gm.Tm) (hx:a.eval x=.slice (some ⟨g,0,none⟩) 1 c) (hz:∀j,w.cell? ⟨g,j,none⟩=(tmC y)[j]?) (ac:ts.length<=1000000) (aa:base<=w.heap.size) (hK:∀v' w',bE w' base v' (ts++[y])->w.grownBy w' v.ownBlock->KK (a.put o.dst v') w') :
  o.wp Tryz.prog a w KK Q:=by
 obtain⟨i,hi,ad,ae,af⟩:=Cv zjR;refine EA w s x t ho base 81 i _ 3 32 ht hi ad ae af rfl (by decide) v ts.length (zjF ts) hs ab ⟨g,0,none⟩ 1 c (tmC y) hx rfl ?_ ?_ (by unfold maxLen;omega) (by omega) aa fun v' w' h1 h2 _=>hK v' w' ?_ h2
 ·intro j u hj;rw[zeN,BA];exact(hz j).trans hj
 ·intro u hu;simp[tmC]at hu;rcases hu with rfl|rfl|rfl <;> rfl
 ·unfold bE zjF;rw[AQ,B9,Cq];exact h1
theorem zgN (L:List Int) (B N R:Nat) (ts ts':List Gm.Tm) (ns:List (List Int)) (rs:List Gm.Rl) (lv n:Int) (x:Tok) (w:World) (hw:Wk w B N R ts ns rs lv) (hf:Gm.Fit ⟨ts,ns,rs,0⟩) (hx:K.Tx x.t) (hN:N<=w.heap.size) (hB:B<=w.heap.size) (hp:Gm.put ts x=.ok (ts',n)) (ac:ts.length<=24) :
  Calls Tryz.prog 132 #[.pointer (some ⟨R,0,none⟩),ze1 L x] w fun e w'=>e=.returned (.int .i64 n)/\Wk w' B N R ts' ns rs lv/\Below B w w'/\KpT w w':=by
 have HW:=aA hw;obtain⟨vT,vN,vR,h⟩:=hw;have HH:=aA h;obtain⟨AT,cT,rfl,bb,_⟩:=aN h.t;obtain⟨AN,cN,rfl,_,_⟩:=aN h.n;have ay:∃AR cR,vR=.slice AR rs.length cR:=by obtain⟨qs,_,h2,_⟩:=id h.r;obtain⟨A,c,e,_⟩:=aN h2;exact⟨A,c,e⟩
 obtain⟨AR,cR,rfl⟩:=ay;obtain⟨k0,az,l⟩:=h.at 0;have k1:=(h.at 1).1;have k2:=(h.at 2).1;have k3:=(h.at 3).1;simp only[wC,Aw,Ah,Aj]at k0 k1 k2 k3;have HX:=aA (AB w.heap.size w);unfold ze1;obtain⟨w1,ad⟩:∃y,y=w.alloc (.cells #[.string (K.str x.t),.complex .f64 (Fl.fl (Pl.pos (L.take x.o)).1) (Fl.fl (Pl.pos (L.take x.o)).2)] 127):=⟨_,rfl⟩
 have i:Hid (Below w.heap.size w w1):=aA (by rw[ad];exact(AB _ _).alloc (Af _) _);have ah:Hid (w1.heap[w.heap.size]?=some (.cells #[.string (K.str x.t),.complex .f64 (Fl.fl (Pl.pos (L.take x.o)).1) (Fl.fl (Pl.pos (L.take x.o)).2)] 127 (0,0))):=aA (by rw[ad];exact AE w _);have HT:=aA (fun(y:World) (hb:Below w1.heap.size w1 y)=>zbR (.agg #[.slice AT ts.length cT,.slice AN ns.length cN,.slice AR rs.length cR,.int .i64 0]) ⟨ts,ns,rs,0⟩ x.t w.heap.size y ((h.rd hN 0).below (i.o.trans (hb.mono i.o.size)) (Af _)) hf hx (Am i.o.size hb.size));unfold Gm.term at HT;unfold Gm.put at hp;have HP:=aA hp;have HF:=aA hf;clear hp h hf
 go_enter Tryz.func132,Tryz.ntmps132
 go_wp2_with fail
 rw[<-ad];clear ad;have hk:=i.o;have p0:=(hk.cell (p:=⟨R,0,none⟩) l).trans k0;have p1:=(hk.cell (p:=⟨R,1,none⟩) l).trans k1;have p2:=(hk.cell (p:=⟨R,2,none⟩) l).trans k2;have p3:=(hk.cell (p:=⟨R,3,none⟩) l).trans k3;have ae:R<w1.heap.size:=Ag l hk.size;have ap:w.heap.size<w1.heap.size:=(Ad.1 ah.o).1;have t0:=aT ah.o;have Q0:=fun y:Calm.On w1.heap.size w1=>(y.2.cell (p:=⟨R,0,none⟩) ae).trans p0;have Q1:=fun y:Calm.On w1.heap.size w1=>(y.2.cell (p:=⟨R,1,none⟩) ae).trans p1;have Q2:=fun y:Calm.On w1.heap.size w1=>(y.2.cell (p:=⟨R,2,none⟩) ae).trans p2;have Q3:=fun y:Calm.On w1.heap.size w1=>(y.2.cell (p:=⟨R,3,none⟩) ae).trans p3;have Q4:=fun y:Calm.On w1.heap.size w1=>(y.2.cell (p:=⟨w.heap.size,0,none⟩) ap).trans t0;clear hk;refine CalmN.region_tree (fun x=>∃y:Calm.On w1.heap.size w1,x=y.1) (.one [0,1,2,3,4,5] 6 (.fin [7])) (by kernel_rfl) (by kernel_rfl) (fun _ _ d _ _ h=>by cases d <;> exact h) ⟨⟨w1.drew,aB (AB _ _) 1⟩,rfl⟩ ?_;simp only[CalmN.wpT,CalmN.wpSt,CalmN.pickOps,Aw,Ah,Aj];repeat (go_big_quiet_step (fail))
 refine Aq ?_;clear Q0 Q1 Q2 Q3 Q4 p0 p1 p2 p3 t0 k0 k1 k2 k3;intro KK f;rw[Az (by rfl)];go_wp2_with fail
 refine(HT.o w1.drew (aB (AB _ _) 1)).mono ?_;rintro _ w2 ⟨rfl,aq⟩;have b:Below w1.heap.size w1 w2:=(aB (AB w1.heap.size w1) 1).trans aq;have a0:=aA b;clear aq;go_wp2_with fail
 refine f _ _ ⟨⟨w2,b⟩,rfl⟩ _ (fun _ h=>h) ⟨⟨w2,b⟩,rfl⟩ ?_;repeat (go_big_quiet_step (fail))
 refine Aq ?_;have g:=aA (i.o.trans (b.mono i.o.size));have j:=aA (HH.o.below g.o);have ai:=aA ((b.block w.heap.size ap).trans ah.o);clear b f;by_cases h0:0<=Gm.find (Gm.names ts) x.t
 ·have HE:Hid (ts=ts'/\Gm.find (Gm.names ts) x.t=n):=aA (by have h:=HP.o;rw[Az h0]at h;injection h with h;exact⟨congrArg Prod.fst h,congrArg Prod.snd h⟩);rw[HE.o.2]at h0 ⊢;go_wp2;go_ret
  exact⟨rfl,⟨_,_,_,by rw[<-HE.o.1];exact j.o⟩,g.o.mono hB,KpT.below g.o⟩
 ·have HE:Hid (ts++[⟨x.t,0,0⟩]=ts'/\(ts.length:Int)=n/\ts.length≠24):=aA (by
   have h:=HP.o;rw[AG h0]at h;by_cases ac:ts.length=24
   ·rw[Az ac]at h;cases h
   ·rw[AG ac]at h;injection h with h;exact⟨congrArg Prod.fst h,congrArg Prod.snd h,ac⟩)
  have a1:((ts.length:Int)==24)=false:=AY.2 (by have:=HE.o.2.2;omega);obtain⟨k0,az,bc⟩:=j.o.at 0;simp only[wC,Aw,Ah]at k0;generalize Gm.find (Gm.names ts) x.t=z at *;go_wp2_with fail
  have aa:=ai;have aj:=aA (g.o.mono hB);have a2:=aA ((j.o.alloc (.cells (tmC ⟨x.t,0,0⟩).toArray 81)).t);have a3:Hid (B<=(w2.alloc (.cells (tmC ⟨x.t,0,0⟩).toArray 81)).drew.heap.size):=aA (by have:=g.o.size;simp;omega);have a4:=aA (zaj w2 (tmC ⟨x.t,0,0⟩) 81);have af:Hid ((w2.alloc (.cells (tmC ⟨x.t,0,0⟩).toArray 81)).heap[w.heap.size]?=w2.heap[w.heap.size]?):=aA (((AB _ w2).alloc (Af _) _).block _ (Ad.1 ai.o).1);have RB:=fun w=>zii (K.str x.t) w;have D8:=fun y:Calm.OnB w.heap.size w2=>aT (y.2.trans ai.o);refine CalmN.region_tree (fun y=>∃z:Calm.OnB w.heap.size w2,y=z.1) (.two [0,1,2,3,4,6,7,8] 5 (.one [] 9 (.one [] 10 (.one [11,12,13] 14 (.fin [])))) 9 (.one [] 5 (.one [] 10 (.one [11,12,13] 14 (.fin []))))) (by kernel_rfl) (by kernel_rfl) (fun _ _ d _ _ h=>by cases d <;> exact h) ⟨⟨w2.drew,rfl⟩,rfl⟩ ?_;simp only[CalmN.wpT,CalmN.wpSt,CalmN.pickOps,Aw,Ah,Aj];repeat (go_big_quiet_step (fail))
  refine Aq ?_;clear D8;refine⟨?_,?_⟩
  focus
   intro KK f;rw[Az (by rfl)];go_wp2_with fail
   refine f _ _ ⟨⟨w2.drew,rfl⟩,rfl⟩ _ (fun _ h=>h) ⟨⟨w2.drew,rfl⟩,rfl⟩ ?_
  rotate_left
  focus
   intro KK f;rw[Az (by rfl)];go_wp2_with fail
   refine f _ _ ⟨⟨(w2.alloc (.cells (tmC ⟨x.t,0,0⟩).toArray 81)).drew,af.o⟩,rfl⟩ _ (fun _ h=>h) ⟨⟨(w2.alloc (.cells (tmC ⟨x.t,0,0⟩).toArray 81)).drew,af.o⟩,rfl⟩ ?_
  all_goals
   refine Aq ?_;intro KK f;try rw[Az (by rfl)]
   go_wp2_with fail
   refine f _ _ ⟨⟨(w2.alloc (.cells (tmC ⟨x.t,0,0⟩).toArray 81)).drew,af.o⟩,rfl⟩ _ (fun _ h=>h) ⟨⟨(w2.alloc (.cells (tmC ⟨x.t,0,0⟩).toArray 81)).drew,af.o⟩,rfl⟩ ?_;refine Aq ?_;intro KK f;try rw[Az (by rfl)]
   refine zk5 (w:=(w2.alloc (.cells (tmC ⟨x.t,0,0⟩).toArray 81)).drew) (.tmp 31) (.tmp 35) _ rfl Tryz.underlying22 B (.slice AT ts.length cT) ts rfl a2.o _ 1 ⟨x.t,0,0⟩ rfl a4.o (by omega) a3.o ?_;intro v7 w7 ak ab;have ag:=(zap (w2.alloc (.cells (tmC ⟨x.t,0,0⟩).toArray 81)) _).trans ab;obtain⟨A7,c7,ar,_,_⟩:=aN ak;rw[show(ts++[(⟨x.t,0,0⟩:Gm.Tm)]).length=ts.length+1 by simp]at ar;subst ar;have al:=(j.o.alloc (.cells (tmC ⟨x.t,0,0⟩).toArray 81)).tm_put ak ag;have am:=aA al;obtain⟨k7,a5,bd⟩:=al.at 0;simp only[wC,Aw,Ah]at k7;have ao:=(KpT.below ((AB _ w2).alloc (Af _) (.cells (tmC ⟨x.t,0,0⟩).toArray 81))).trans (KpT.own (j.o.alloc (.cells (tmC ⟨x.t,0,0⟩).toArray 81)).t ag);have a6:=aA ao;have au:Hid (w7.heap[w.heap.size]?=w2.heap[w.heap.size]?):=aA ((ao _ _ _ aa.o (by decide) (by decide)).trans aa.o.symm);have a9:=aA ((aj.o.alloc (Am hB g.o.size) (.cells (tmC ⟨x.t,0,0⟩).toArray 81)).grown ag (by have:=g.o.size;simp;omega) (fun k e=>(aM j.o.t e).1));clear ak ag ab al ao;go_wp2_with fail
   refine f _ _ ⟨⟨w7,au.o⟩,rfl⟩ _ (fun _ h=>h) ⟨⟨w7,au.o⟩,rfl⟩ ?_;repeat (go_big_quiet_step (fail))
   refine Aq ?_;intro KK f;try rw[Az (by rfl)]
   go_wp2_with fail
   have av:=aA (am.o.set 0 (.slice A7 (ts.length+1) c7));have aw:=aA (a6.o.trans (KpT.set am.o 0 (.slice A7 (ts.length+1) c7)));have ba:=aA (a9.o.setCell (p:=⟨R,0,none⟩) am.o.hR (.slice A7 (ts.length+1) c7));have ax:Hid ((w7.setCell ⟨R,0,none⟩ (.slice A7 (ts.length+1) c7)).heap[w.heap.size]?=w2.heap[w.heap.size]?):=aA ((aw.o _ _ _ aa.o (by decide) (by decide)).trans aa.o.symm);refine f _ _ ⟨⟨_,ax.o⟩,rfl⟩ _ (fun _ h=>h) ⟨⟨_,ax.o⟩,rfl⟩ ?_;refine Aq ?_;obtain⟨k8,_,bf⟩:=av.o.at 0;simp only[wC,Cw,CK,Aw,Ah]at k8;clear k7 a5;go_wp2;go_ret
   refine⟨by simp;exact HE.o.2.1,⟨_,_,_,by rw[<-HE.o.1];exact av.o⟩,ba.o,(KpT.below g.o).trans aw.o⟩
namespace Sh
def key (x:Tok):Int×List Int:=(x.k,x.t)
end Sh
def On9 (B D:Nat) (w:World):Type:={x:World // Below B w x/\x.heap[D]?=w.heap[D]?}
instance (B D:Nat) (w:World):Nonempty (On9 B D w):=⟨⟨w,AB _ _,rfl⟩⟩
structure J9 (s:Gm.S1) (ns:List (List Int)) (rs:List Gm.Rl):Prop where
 f:Gm.Fit ⟨s.ts,ns,rs,0⟩
 h:s.ts.length<=24
 v:0<=s.lv
theorem Fit.put {n:Int} {x:Tok} (h:Gm.Fit ⟨ts,ns,rs,z⟩) (hx:K.Tx x.t) (hp:Gm.put ts x=.ok (ts',n)):Gm.Fit ⟨ts',ns,rs,z⟩:=by
 rcases Gm.put_ok hp with⟨j,_,rfl,_⟩|⟨_,rfl,_,_⟩
 ·exact h
 ·refine⟨fun t ht=>?_,h.n,h.r,h.s⟩;rcases Bs.1 ht with h1|h1
  ·exact h.t t h1
  ·simp at h1;subst h1;exact⟨hx,by unfold Gm.In;simp,by unfold Gm.In;simp⟩
theorem zjM {n:Int} {x:Tok} (h:ts.length<=24) (hp:Gm.put ts x=.ok (ts',n)):ts'.length<=24:=by
 rcases Gm.put_ok hp with⟨j,_,rfl,_⟩|⟨_,rfl,_,q⟩
 ·exact h
 ·simp;omega
theorem J9.step {s s':Gm.S1} {x:Tok} {k:Int} (h:J9 s ns rs) (hk:k=4\/k=5) (hx:K.Tx x.t) (hv:s.lv<=1000000) (hd:Gm.decl1 k s x=.ok s') :
  J9 s' ns rs/\s'.lv=s.lv/\(¬(0<=Gm.find (Gm.names s.ts) x.t/\0<(s.ts.map Gm.Tm.lv).getD (Gm.find (Gm.names s.ts) x.t).toNat 0))/\∃ts' n,Gm.put s.ts x=.ok (ts',n)/\s'.ts=ts'.modify n.toNat fun t=>⟨t.nm,s.lv,k-3⟩:=by
 unfold Gm.decl1 at hd;rw[AG (by omega),AG (by omega)]at hd;by_cases h0:0<=Gm.find (Gm.names s.ts) x.t/\0<(s.ts.map Gm.Tm.lv).getD (Gm.find (Gm.names s.ts) x.t).toNat 0
 ·rw[Az h0]at hd;cases hd
 ·rw[AG h0]at hd;obtain⟨⟨ts',n⟩,hp,hd⟩:=Gm.R.bind_eq hd;injection hd with hd;subst hd;have hf:=Fit.put h.f hx hp;refine⟨⟨⟨fun t ht=>?_,h.f.n,h.f.r,h.f.s⟩,?_,h.v⟩,rfl,h0,ts',n,hp,rfl⟩
  ·rcases Gm.mem_modify ht with q|⟨hn,rfl⟩
   ·exact hf.t t q
   ·have:=hf.t _ (AC hn)
    have aa:=h.v;exact⟨this.1,by unfold Gm.In;simp only;omega,by unfold Gm.In;simp only;omega⟩
  ·show(ts'.modify _ _).length<=24
   rw[List.length_modify];exact zjM h.h hp
theorem zmG (L:List Int) (B N R:Nat) (ns:List (List Int)) (rs:List Gm.Rl) (ds:List Y.Dcl) (S S2:Gm.S1) (A:Option Addr) (c:Nat) (w:World) (hw:Wk w B N R S.ts ns rs S.lv) (hJ:J9 S ns rs) (hk:zjB ds) (hx:∀d∈ds,(∀x∈d.ns,K.Tx x.t/\Gm.named x.t=true)/\d.ns.length<=1000000) (hr:zle L w B A ds) (hN:N<=w.heap.size) (hB:B<=w.heap.size) (ae:S.lv=0) (ab:ds.length<=1000) (hp:Gm.decls S ds=.ok S2) :
  Calls Tryz.prog 64 #[.pointer (some ⟨R,0,none⟩),.slice A ds.length c] w fun e w'=>e=.returned (.tuple #[])/\(Wk w' B N R S2.ts ns rs S2.lv/\J9 S2 ns rs)/\Below B w w'/\KpT w w':=by
 unfold zjB at hk;subst hk;rw[Gm.decls]at hp;injection hp with hp;subst hp;obtain⟨vT,vN,vR,aa⟩:=id hw;have f10:=(aa.at 10).1;simp only[wC,Aw,Ah,Aj]at f10;have ac:=aA hw;have ad:=aA hJ;clear aa hw hJ
 go_enter Tryz.func64,Tryz.ntmps64
 go_wp2;go_loopw [4] (fun vi wr=>vi=.int .i64 0/\wr=w) (fun _ _=>0)
 case atStart=>exact⟨rfl,rfl⟩
 case round =>
  obtain⟨rfl,rfl⟩:=hrel;go_wp2;go_end0
  exact⟨rfl,⟨ac.o,ad.o⟩,AB _ _,KpT.refl _⟩
namespace Sh
open Y
abbrev DD:=Int×List (List Int)
end Sh
namespace Gm
theorem put_there {ts:List Tm} {x:Tok} (h:0<=find (names ts) x.t):put ts x=.ok (ts,find (names ts) x.t):=by
 unfold put;rw[Az h]
end Gm
def zmX (rs:List Gm.Rl) (k:Nat):Prop:=∀i (h:i<rs.length),i<k->rs[i].r.length<=20
theorem zgi (v:Value) (G:Gm.Gr) (B:Nat) (w:World) (hg:aR w B v G) (hB:B<=w.heap.size) :
  Calls Tryz.prog 8 #[v] w fun e w'=>e=.returned (.bool (Gm.great G))/\Below w.heap.size w w':=by
 have HB:=aA (fun o=>(AB w.heap.size w).alloc (Af _) o);obtain⟨AT,cT,AN,cN,AR,cR,rfl,⟨ac,ad⟩,⟨ae,af⟩,⟨ag,ah⟩,_,_,hr⟩:=hg;have HR:=aA hr;clear hr;unfold Gm.great;by_cases h1:40<G.ts.length
 ·rw[AL h1]
  go_enter Tryz.func8,Tryz.ntmps8
  go_wp2;go_ret
  exact⟨rfl,HB.o _⟩
 by_cases h2:40<G.ns.length
 ·rw[AL h2];simp only[Bool.or_true,DB]
  go_enter Tryz.func8,Tryz.ntmps8
  go_wp2;go_ret
  exact⟨rfl,HB.o _⟩
 by_cases h3:60<G.rs.length
 ·rw[AL h3];simp only[Bool.or_true,DB]
  go_enter Tryz.func8,Tryz.ntmps8
  go_wp2;go_ret
  exact⟨rfl,HB.o _⟩
 rw[AO h1,AO h2,AO h3];simp only[EO];have ab:G.rs.length<=60:=by omega
 go_enter Tryz.func8,Tryz.ntmps8
 go_wp2
 go_loop [3] (fun vi=>∃(k:Nat),k<=G.rs.length/\vi=.int .i64 k/\zmX G.rs k) (fun vi=>G.rs.length-(intOf vi).toNat)
 case atStart=>exact⟨0,AU _,rfl,fun _ _ h=>by omega⟩
 case round =>
  obtain⟨k,hk,rfl,hn⟩:=hrel;have HN:=aA hn;clear hn;by_cases aa:k<G.rs.length
  ·obtain⟨g,o,rfl,ai,hc⟩:=HR.o (by omega);obtain⟨_,⟨A',c',k1,k2,k3,_⟩,_⟩:=hc k aa;have aj:g<w.heap.size:=by omega
   by_cases hx:20<G.rs[k].r.length
   ·have HE:Hid ((G.rs.any fun r=>decide (20<r.r.length))=true):=aA (EL.2 ⟨_,AC aa,by simpa using hx⟩);generalize G.rs[k].r.length=m at *;clear hc;go_wp2;go_ret
    exact⟨aE HE.o.symm,HB.o _⟩
   ·have HE:Hid (zmX G.rs (k+1)):=aA (fun i hi ak=>by
     rcases Bx i k with q|q
     ·exact HN.o i hi q
     ·obtain rfl:i=k:=by omega
      omega)
    generalize G.rs[k].r.length=m at *;clear hc;go_wp2
    go_round
    case rel=>exact⟨k+1,by omega,by go_num,HE.o⟩
    case measure=>simp[intOf];omega
  ·obtain rfl:k=G.rs.length:=by omega
   have HE:Hid ((G.rs.any fun r=>decide (20<r.r.length))=false):=aA (by
    rw[Em];intro x hx;obtain⟨i,hi,rfl⟩:=Bz hx
    have:=HN.o i hi hi
    simp;omega)
   go_wp2;go_ret
   exact⟨aE HE.o.symm,HB.o _⟩
theorem bI.alloc (h:bI w base v ws) (o:Obj):bI (w.alloc o) base v ws:=Dc h o
theorem bI.less (h:bI w base v ws) (hb:base'<=base):bI w base' v ws:=by
 refine⟨h.1,?_⟩;rcases h.2 with h0|⟨g,cap,cur,e,aa,hr⟩
 ·exact .inl h0
 ·exact .inr ⟨g,cap,cur,e,by omega,hr⟩
theorem bI.drewN (h:bI w base v ws) (n:Nat):bI (w.drewN n) base v ws:=h
theorem bI.below (h:bI w base v ws) (hb:Below w.heap.size w w'):bI w' base v ws :=
 Ba h (aL hb .none) (by rcases v.ownBlock with _|k;exact .inl rfl;exact .inr (by simp))
theorem bI.form (h:bI w base v ws):∃A c,v=.slice A ws.length c/\ws.length<=c/\c<=maxLen:=aN h
namespace Sh
open Gm
end Sh
namespace Sh
open Gm
end Sh
theorem zju {o:Oper} {a:Act} {KK:Act->World->Prop} {Q:Exit->Act->World->Prop} (s x:Operand) (t:TypeId) (ho:o.op=.call {callee:=.builtin .append,args:=#[s,x],argTypes:=#[t,t]}) (ht:Tryz.prog.underlying t=some (.slice 9)) (base:Nat) (v:Value) (ts:List (List Int)) (hs:a.eval s=v) (ab:bI w base v ts) (g c:Nat) (y:List Int) (hx:a.eval x=.slice (some ⟨g,0,none⟩) 1 c) (hz:w.cell? ⟨g,0,none⟩=some (.string (K.str y))) (ac:ts.length<=1000000) (aa:base<=w.heap.size) (hK:∀v' w',bI w' base v' (ts++[y])->w.grownBy w' v.ownBlock->(v'.ownBlock=v.ownBlock\/v'.ownBlock=some w.heap.size)->KK (a.put o.dst v') w') :
  o.wp Tryz.prog a w KK Q:=by
 obtain⟨i,hi,ad,ae,af⟩:=Cv zjU
 obtain⟨v',w',hr,h2,h3,h4,h5⟩:=run_append_own_at (P:=Tryz.prog) w base t o.type 9 i (.string ⟨#[]⟩) 1 16 ht hi ad ae af rfl (by decide) v ts.length (zll ts) ab ⟨g,0,none⟩ 1 c [.string (K.str y)] rfl (by
  intro j u hj;rw[zeN,BA];rcases j with _|j
  ·simp at hj;rw[<-hj];exact hz
  ·simp at hj) (by intro u hu;simp at hu;rcases hu with rfl;rfl) (by unfold maxLen;omega) (by omega) aa
 unfold Oper.wp execOp;simp only[ho,resolve,invoke,builtin,Er,Dh,EH,List.map_toArray,Bw,Dr,hs,hx,hr];refine hK v' w' ?_ h3 h5;unfold bI zll;rw[AQ,Bf];exact h2
theorem zax {R:Nat} (h:WRaw w B N R cs vT vN vR ts ns rs):(∃A c,vT=.slice A ts.length c)/\(∃A c,vN=.slice A ns.length c)/\∃A c,vR=.slice A rs.length c:=by
 obtain⟨qs,_,h2,_⟩:=id h.r;obtain⟨A1,c1,e1,_⟩:=aN h.t;obtain⟨A2,c2,e2,_⟩:=aN h.n;obtain⟨A3,c3,e3,_⟩:=aN h2;exact⟨⟨A1,c1,e1⟩,⟨A2,c2,e2⟩,⟨A3,c3,e3⟩⟩
theorem WRaw.drew9 {R:Nat} (h:WRaw w B N R cs vT vN vR ts ns rs):WRaw w.drew B N R cs vT vN vR ts ns rs:=h.below (aB (AB _ _) 1)
theorem zcT {R:Nat} {s:List Int} (hf:Gm.Fit ⟨ts,ns,rs,0⟩) (hs:K.Tx s) (h:WRaw w B N R (wC vT vN vR lv) vT vN vR ts ns rs) (hN:N<=w.heap.size) :
  Calls Tryz.prog 82 #[.agg #[vT,vN,vR,.int .i64 0],.string (K.str s)] w fun e w'=>e=.returned (.int .i64 (Gm.find (Gm.names ts) s))/\Below w.heap.size w w' :=
 zbR _ ⟨ts,ns,rs,0⟩ s _ w (h.rd hN 0) hf hs (Af _)
theorem zcm {R:Nat} {s:List Int} (hf:Gm.Fit ⟨ts,ns,rs,0⟩) (hs:K.Tx s) (h:WRaw w B N R (wC vT vN vR lv) vT vN vR ts ns rs) (hN:N<=w.heap.size) :
  Calls Tryz.prog 67 #[.agg #[vT,vN,vR,.int .i64 0],.string (K.str s)] w fun e w'=>e=.returned (.int .i64 (Gm.find ns s))/\Below w.heap.size w w' :=
 zeZ _ ⟨ts,ns,rs,0⟩ s _ w (h.rd hN 0) hf hs (Af _)
theorem Fit.left {x:Tok} (h:Gm.Fit ⟨ts,ns,rs,0⟩) (hx:K.Tx x.t) (hp:Gm.left1 ts ns x=.ok ns'):Gm.Fit ⟨ts,ns',rs,0⟩:=by
 rcases Gm.left1_ok hp with⟨rfl,_⟩|⟨rfl,_,_,_⟩
 ·exact h
 ·refine⟨h.t,fun y hy=>?_,h.r,h.s⟩;rcases Bs.1 hy with q|q
  ·exact h.n y q
  ·simp at q;subst q;exact hx
theorem zeA {x:Tok} (h:Gm.left1 ts ns x=.ok ns'):Gm.find (Gm.names ts) x.t<0/\((0<=Gm.find ns x.t/\ns'=ns)\/(Gm.find ns x.t<0/\ns.length≠16/\ns'=ns++[x.t])):=by
 unfold Gm.left1 at h;split at h
 ·cases h
 ·rename_i h0
  refine⟨by omega,?_⟩;split at h
  ·rename_i h1;injection h with h;exact .inl ⟨h1,h.symm⟩
  ·rename_i h1
   split at h
   ·cases h
   ·rename_i h2;injection h with h;exact .inr ⟨by omega,h2,h.symm⟩
theorem zma (L:List Int) (B N R:Nat) (ts:List Gm.Tm) (rs:List Gm.Rl) (ps:List Y.Prd) (ns0 ns2:List (List Int)) (lv:Int) (A:Option Addr) (c:Nat) (w:World) (hw:Wk w B N R ts ns0 rs lv) (hf:Gm.Fit ⟨ts,ns0,rs,0⟩) (hx:∀p∈ps,K.Tx p.l.t/\T.isName p.l.t=true) (hr:zld L w B A ps) (hN:N<=w.heap.size) (hB:B<=w.heap.size) (aw:ns0.length<=16) (bc:ps.length<=1000) (hp:Gm.lefts ts ns0 ps=.ok ns2) :
  Calls Tryz.prog 65 #[.pointer (some ⟨R,0,none⟩),.slice A ps.length c] w fun e w'=>e=.returned (.tuple #[])/\(Wk w' B N R ts ns2 rs lv/\Gm.Fit ⟨ts,ns2,rs,0⟩/\ns2.length<=16)/\Below B w w'/\KpA w w':=by
 have SC:=fun a w m X Y=>show(store a (.complex .f64 X Y) m).run Tryz.prog w=stored Tryz.prog w a (.complex .f64 X Y) m from run_store _ w a _ m rfl;have HR:=aA hr;have bd:=aA hw;have bf:=aA hf;have al:=aA aw;have HP:=aA hp;have bg:=aA (fun(i:Nat) (hi:i<ps.length)=>hx _ (AC hi));clear hr hw hf hp hx aw
 go_enter Tryz.func65,Tryz.ntmps65
 go_wp2;go_loopw [4] (fun vi wr=>∃(i:Nat) (ns:List (List Int)),i<=ps.length/\vi=.int .i64 i/\Hid (Gm.lefts ts ns (ps.drop i)=.ok ns2)/\Hid (Gm.Fit ⟨ts,ns,rs,0⟩)/\Hid (ns.length<=16)/\Hid (Wk wr B N R ts ns rs lv)/\Hid (Below B w wr)/\Hid (KpA w wr)) (fun vi _=>ps.length-(intOf vi).toNat)
 case atStart=>exact⟨0,ns0,AU _,rfl,HP,bf,al,bd,aA (AB _ _),aA (KpA.refl _)⟩
 case round =>
  obtain⟨i,ns,hi,rfl,HE,HF,ag,HW,F,am⟩:=hrel;obtain⟨vT,vN,vR,ah⟩:=HW.o;obtain⟨⟨AT,cT,rfl⟩,⟨AN,cN,rfl⟩,⟨AR,cR,rfl⟩⟩:=zax ah;have bh:=aA ah;obtain⟨f10,_,bz⟩:=ah.at 10;simp only[wC,Aw,Ah,Aj]at f10;clear ah;by_cases H:i<ps.length
  ·obtain⟨g,o,rfl,ax,hc⟩:=HR.o (by omega);have k0:=(F.o.cell (p:=⟨g,o+i*5,none⟩) ax).trans (hc i H).1;have k1:=(F.o.cell (p:=⟨g,o+i*5+1,none⟩) ax).trans (hc i H).2.1;have bD:=F.o.size;have bM:g<wr.heap.size:=by omega
   have bi:B<=wr.heap.size:=by omega
   obtain⟨I,ay⟩:=bg.o i H;have hE:=HE.o;rw[zf6 H]at hE;obtain⟨ns1,h1,h2⟩:=Gm.R.bind_eq hE;have az:=aA h2;have bj:=aA (Fit.left HF.o I h1);have ao:=aA (zhH h1 ag.o);obtain⟨hz,aa⟩:=zeA h1;have bk:=aA (fun(y:World) (lv':Int) (h:WRaw y B N R (wC (.slice AT ts.length cT) (.slice AN ns.length cN) (.slice AR rs.length cR) lv') (.slice AT ts.length cT) (.slice AN ns.length cN) (.slice AR rs.length cR) ts ns rs) (hy:N<=y.heap.size)=>zcT HF.o I h hy);have bl:=aA (fun(y:World) (lv':Int) (h:WRaw y B N R (wC (.slice AT ts.length cT) (.slice AN ns.length cN) (.slice AR rs.length cR) lv') (.slice AT ts.length cT) (.slice AN ns.length cN) (.slice AR rs.length cR) ts ns rs) (hy:N<=y.heap.size)=>zcm HF.o I h hy);have a0:=aA (fun(y:World)=>zcd ps[i].l.t I.1 y);rw[ay]at a0;have bm:=aA aa;clear hc hE h1 h2 I ay aa;generalize ps[i].l=x at *;generalize rfX L x=X at *;generalize rfY L x=Y at *;obtain⟨w1,ai⟩:∃y,y=wr.alloc (.cells #[.string (K.str x.t),.complex .f64 X Y] 127):=⟨_,rfl⟩
   have f:Hid (Below wr.heap.size wr w1):=aA (by rw[ai];exact(AB _ _).alloc (Af _) _);have ab:Hid (w1.heap[wr.heap.size]?=some (.cells #[.string (K.str x.t),.complex .f64 X Y] 127 (0,0))):=aA (by rw[ai];exact AE wr _);have r:=aA (bh.o.below f.o);have ad:Hid (N<=w1.heap.size):=aA (by have:=f.o.size;omega);generalize a1:K.str x.t=sx at *;have bo:=aA a1;clear a1;go_wp2_with fail
   try rw[<-ai]
   clear ai f10 k0 k1;refine(a0.o _).mono ?_;rintro _ _ ⟨rfl,rfl⟩;go_wp2_with fail
   obtain⟨p0,_,C⟩:=r.o.at 0;have p1:=(r.o.at 1).1;have p2:=(r.o.at 2).1;have p3:=(r.o.at 3).1;simp only[wC,Aw,Ah,Aj]at p0 p1 p2 p3;have E:wr.heap.size<w1.heap.size:=(Ad.1 ab.o).1;have t0:=aT ab.o;have Q0:=fun y:Calm.On w1.heap.size w1=>(y.2.cell (p:=⟨R,0,none⟩) C).trans p0;have Q1:=fun y:Calm.On w1.heap.size w1=>(y.2.cell (p:=⟨R,1,none⟩) C).trans p1;have Q2:=fun y:Calm.On w1.heap.size w1=>(y.2.cell (p:=⟨R,2,none⟩) C).trans p2;have Q3:=fun y:Calm.On w1.heap.size w1=>(y.2.cell (p:=⟨R,3,none⟩) C).trans p3;have Q4:=fun y:Calm.On w1.heap.size w1=>(y.2.cell (p:=⟨wr.heap.size,0,none⟩) E).trans t0;refine CalmN.region_tree (fun x=>∃y:Calm.On w1.heap.size w1,x=y.1) (.one [0,1,2,3,4,5] 6 (.fin [7,8])) (by kernel_rfl) (by kernel_rfl) (fun _ _ d _ _ h=>by cases d <;> exact h) ⟨⟨w1.drew,aB (AB _ _) 1⟩,rfl⟩ ?_;simp only[CalmN.wpT,CalmN.wpSt,CalmN.pickOps,Aw,Ah,Aj];repeat (go_big_quiet_step (fail))
   refine Aq ?_;clear Q0 Q1 Q2 Q3 Q4 p0 p1 p2 p3 t0;intro KK j;rw[Az (by rfl)];go_wp2_with fail
   refine(bk.o w1.drew _ r.o.drew9 ad.o).mono ?_;rintro _ w2 ⟨rfl,J⟩;have b:Below w1.heap.size w1 w2:=(aB (AB w1.heap.size w1) 1).trans J;have q:=aA b;have s:=aA (r.o.below b);have ac:=aA ((b.block _ E).trans ab.o);have ae:=aA (Am ad.o b.size);clear J b;go_wp2_with fail
   refine j _ _ ⟨⟨w2,q.o⟩,rfl⟩ _ (fun _ h=>h) ⟨⟨w2,q.o⟩,rfl⟩ ?_;repeat (go_big_quiet_step (fail))
   refine Aq ?_;clear j E C;have bT:¬(0:Int)<=Gm.find (Gm.names ts) x.t:=by omega
   clear hz;generalize Gm.find (Gm.names ts) x.t=z at *;go_wp2_with fail
   obtain⟨p0,_,C⟩:=s.o.at 0;have p1:=(s.o.at 1).1;have p2:=(s.o.at 2).1;have p3:=(s.o.at 3).1;simp only[wC,Aw,Ah,Aj]at p0 p1 p2 p3;have E:wr.heap.size<w2.heap.size:=(Ad.1 ac.o).1;have t0:=aT ac.o;have Q0:=fun y:Calm.On w2.heap.size w2=>(y.2.cell (p:=⟨R,0,none⟩) C).trans p0;have Q1:=fun y:Calm.On w2.heap.size w2=>(y.2.cell (p:=⟨R,1,none⟩) C).trans p1;have Q2:=fun y:Calm.On w2.heap.size w2=>(y.2.cell (p:=⟨R,2,none⟩) C).trans p2;have Q3:=fun y:Calm.On w2.heap.size w2=>(y.2.cell (p:=⟨R,3,none⟩) C).trans p3;have Q4:=fun y:Calm.On w2.heap.size w2=>(y.2.cell (p:=⟨wr.heap.size,0,none⟩) E).trans t0;refine CalmN.region_tree (fun x=>∃y:Calm.On w2.heap.size w2,x=y.1) (.one [0,1,2,3,4,5] 6 (.fin [7,8])) (by kernel_rfl) (by kernel_rfl) (fun _ _ d _ _ h=>by cases d <;> exact h) ⟨⟨w2.drew,aB (AB _ _) 1⟩,rfl⟩ ?_;simp only[CalmN.wpT,CalmN.wpSt,CalmN.pickOps,Aw,Ah,Aj];repeat (go_big_quiet_step (fail))
   refine Aq ?_;clear Q0 Q1 Q2 Q3 Q4 p0 p1 p2 p3 t0;intro KK j;rw[Az (by rfl)];go_wp2_with fail
   refine(bl.o w2.drew _ s.o.drew9 ae.o).mono ?_;rintro _ w3 ⟨rfl,J⟩;have b:Below w2.heap.size w2 w3:=(aB (AB w2.heap.size w2) 1).trans J;have D:=aA b;have u:=aA (s.o.below b);have v:=aA ((b.block _ E).trans ac.o);have bp:=aA (Am ae.o b.size);clear J b;go_wp2_with fail
   refine j _ _ ⟨⟨w3,D.o⟩,rfl⟩ _ (fun _ h=>h) ⟨⟨w3,D.o⟩,rfl⟩ ?_;repeat (go_big_quiet_step (fail))
   refine Aq ?_;clear j E C;have a2:=aA (KpA.below (((f.o.trans (q.o.mono f.o.size)).trans (D.o.mono (Am f.o.size q.o.size)))));have ap:=aA (((f.o.trans (q.o.mono f.o.size)).trans (D.o.mono (Am f.o.size q.o.size))).mono bi);rcases bm.o with⟨h0,e⟩|⟨h0,bq,e⟩
   ·have M:=aA e;clear e;generalize Gm.find ns x.t=z2 at *;go_wp2;go_roundw
    case rel=>exact⟨i+1,ns,H,by go_num,by rw[<-M.o];exact az,HF,ag,aA ⟨_,_,_,u.o⟩,aA (F.o.trans ap.o),aA (am.o.trans a2.o)⟩
    case measure=>simp[intOf];omega
   have M:=aA e;clear e;have bX:¬(0:Int)<=Gm.find ns x.t:=by omega
   generalize Gm.find ns x.t=z2 at *;have a3:((ns.length:Int)==16)=false:=AY.2 (by omega);obtain⟨k1,bY,_⟩:=u.o.at 1;simp only[wC,Aw,Ah,Aj]at k1;go_wp2_with fail
   have br:=aA ((u.o.alloc (.cells #[.string sx] 9)).n);have aq:Hid (B<=(w3.alloc (.cells #[.string sx] 9)).drew.heap.size):=aA (by have:=D.o.size;have:=q.o.size;have:=f.o.size;simp;omega);have bs:Hid ((w3.alloc (.cells #[.string sx] 9)).drew.cell? ⟨w3.heap.size,0,none⟩=some (.string (K.str x.t))):=aA (by rw[bo.o];exact zaj w3 [.string sx] 9 0);have aj:Hid ((w3.alloc (.cells #[.string sx] 9)).heap[wr.heap.size]?=w3.heap[wr.heap.size]?):=aA (((AB _ w3).alloc (Af _) _).block _ (Ad.1 v.o).1);have D8:=fun y:Calm.OnB wr.heap.size w3=>aT (y.2.trans v.o);refine CalmN.region_tree (fun y=>∃z:Calm.OnB wr.heap.size w3,y=z.1) (.two [0,1,2,3,4,6,7] 5 (.one [] 8 (.one [] 9 (.one [10,11,12] 13 (.fin [])))) 8 (.one [] 5 (.one [] 9 (.one [10,11,12] 13 (.fin []))))) (by kernel_rfl) (by kernel_rfl) (fun _ _ d _ _ h=>by cases d <;> exact h) ⟨⟨w3.drew,rfl⟩,rfl⟩ ?_;simp only[CalmN.wpT,CalmN.wpSt,CalmN.pickOps,Aw,Ah,Aj];repeat (go_big_quiet_step (fail))
   refine Aq ?_;clear D8;refine⟨?_,?_⟩
   focus
    intro KK j;rw[Az (by rfl)];go_wp2_with fail
    refine j _ _ ⟨⟨w3.drew,rfl⟩,rfl⟩ _ (fun _ h=>h) ⟨⟨w3.drew,rfl⟩,rfl⟩ ?_
   rotate_left
   focus
    intro KK j;rw[Az (by rfl)];go_wp2_with fail
    refine j _ _ ⟨⟨(w3.alloc (.cells #[.string sx] 9)).drew,aj.o⟩,rfl⟩ _ (fun _ h=>h) ⟨⟨(w3.alloc (.cells #[.string sx] 9)).drew,aj.o⟩,rfl⟩ ?_
   all_goals
    refine Aq ?_;intro KK j;try rw[Az (by rfl)]
    go_wp2_with fail
    refine j _ _ ⟨⟨(w3.alloc (.cells #[.string sx] 9)).drew,aj.o⟩,rfl⟩ _ (fun _ h=>h) ⟨⟨(w3.alloc (.cells #[.string sx] 9)).drew,aj.o⟩,rfl⟩ ?_;refine Aq ?_;intro KK j;try rw[Az (by rfl)]
    refine zju (w:=(w3.alloc (.cells #[.string sx] 9)).drew) (.tmp 29) (.tmp 32) _ rfl Tryz.underlying23 B (.slice AN ns.length cN) ns rfl br.o _ 1 x.t rfl bs.o (by have:=ag.o;omega) aq.o ?_;intro v7 w7 ar af _;have ak:=(zap (w3.alloc (.cells #[.string sx] 9)) _).trans af;obtain⟨A7,c7,a4,_,_⟩:=aN ar;rw[show(ns++[x.t]).length=ns.length+1 by simp]at a4;subst a4;have au:=(u.o.alloc (.cells #[.string sx] 9)).n_put ar ak;have av:=aA au;obtain⟨k7,bu,bZ⟩:=au.at 1;simp only[wC,Aw,Ah,Aj]at k7;have a5:Below w3.heap.size w3 (w3.alloc (.cells #[.string sx] 9)):=(AB _ w3).alloc (Af _) (.cells #[.string sx] 9);have a6:=aA ((KpA.below a5).trans (KpA.own (u.o.alloc (.cells #[.string sx] 9)).n ak (.inr (.inl rfl))));have a9:Hid (w7.heap[wr.heap.size]?=w3.heap[wr.heap.size]?):=aA ((a6.o _ _ _ v.o (by decide) (by decide) (by decide) (by decide)).trans v.o.symm);have bv:=aA ((ap.o.alloc (by have:=aq.o;have:=ap.o.size;omega) (.cells #[.string sx] 9)).grown ak (by have:=aq.o;simpa using this) (fun k e=>(aM u.o.n e).1));clear ar ak af au a5;go_wp2_with fail
    refine j _ _ ⟨⟨w7,a9.o⟩,rfl⟩ _ (fun _ h=>h) ⟨⟨w7,a9.o⟩,rfl⟩ ?_;repeat (go_big_quiet_step (fail))
    refine Aq ?_;intro KK j;try rw[Az (by rfl)]
    go_wp2_with fail
    have bw:=aA (av.o.set 1 (.slice A7 (ns.length+1) c7));have ba:=aA (a6.o.trans (KpT.set av.o 1 (.slice A7 (ns.length+1) c7)).a);have bx:=aA (bv.o.setCell (p:=⟨R,1,none⟩) av.o.hR (.slice A7 (ns.length+1) c7));have bb:Hid ((w7.setCell ⟨R,1,none⟩ (.slice A7 (ns.length+1) c7)).heap[wr.heap.size]?=w3.heap[wr.heap.size]?):=aA ((ba.o _ _ _ v.o (by decide) (by decide) (by decide) (by decide)).trans v.o.symm);refine j _ _ ⟨⟨_,bb.o⟩,rfl⟩ _ (fun _ h=>h) ⟨⟨_,bb.o⟩,rfl⟩ ?_;refine Aq ?_;clear k7 bu;go_wp2;go_roundw
    case rel=>exact⟨i+1,ns++[x.t],H,by go_num,by rw[<-M.o];exact az,by rw[<-M.o];exact bj,by rw[<-M.o];exact ao,aA ⟨_,_,_,bw.o⟩,aA (F.o.trans bx.o),aA ((am.o.trans a2.o).trans ba.o)⟩
    case measure=>simp[intOf];omega
  ·obtain rfl:i=ps.length:=by omega
   have hE:=HE.o;rw[zhG (Af _)]at hE;injection hE with hE;subst hE;go_wp2;go_end0
   exact⟨rfl,⟨HW.o,HF.o,ag.o⟩,F.o,am.o⟩
theorem zgP {x:Tok} {n:Int} (h:Gm.sym ts x=.ok (ts',n)) (he:x.t≠[101,114,114,111,114]):Gm.put ts x=.ok (ts',n)/\(0<=Gm.find (Gm.names ts) x.t\/(Gm.find (Gm.names ts) x.t<0/\T.isLit x.t=true)):=by
 unfold Gm.sym at h;split at h
 ·rename_i q
  refine⟨h,?_⟩;rcases q with q|q|q
  ·exact .inl q
  ·by_cases h0:0<=Gm.find (Gm.names ts) x.t
   ·exact .inl h0
   ·exact .inr ⟨by omega,q⟩
  ·exact absurd q he
 ·cases h
theorem zkk (L:List Int) (B N R:Nat) (ts ts':List Gm.Tm) (ns:List (List Int)) (rs:List Gm.Rl) (lv n:Int) (x:Tok) (may:Bool) (w:World) (hw:Wk w B N R ts ns rs lv) (hf:Gm.Fit ⟨ts,ns,rs,0⟩) (hx:K.Tx x.t) (he:x.t≠[101,114,114,111,114]) (hN:N<=w.heap.size) (hB:B<=w.heap.size) (au:(0<=Gm.find ns x.t/\may=true/\ts'=ts/\n = -1-Gm.find ns x.t)\/(Gm.find ns x.t<0/\Gm.sym ts x=.ok (ts',n))) (a3:ts.length<=24) (bd:ns.length<=16) :
  Calls Tryz.prog 95 #[.pointer (some ⟨R,0,none⟩),ze1 L x,.bool may] w fun e w'=>e=.returned (.int .i64 n)/\Wk w' B N R ts' ns rs lv/\Below B w w'/\KpT w w':=by
 have HW:=aA hw;obtain⟨vT,vN,vR,l⟩:=HW.o;obtain⟨⟨AT,cT,rfl⟩,⟨AN,cN,rfl⟩,⟨AR,cR,rfl⟩⟩:=zax l;have a4:=aA l;have HF:=aA hf;have HX:=aA hx;have bf:=l.lt;clear l;have a5:=aA (fun(y:World) (lv':Int) (h:WRaw y B N R (wC (.slice AT ts.length cT) (.slice AN ns.length cN) (.slice AR rs.length cR) lv') (.slice AT ts.length cT) (.slice AN ns.length cN) (.slice AR rs.length cR) ts ns rs) (hy:N<=y.heap.size)=>zcT hf hx h hy);have a6:=aA (fun(y:World) (lv':Int) (h:WRaw y B N R (wC (.slice AT ts.length cT) (.slice AN ns.length cN) (.slice AR rs.length cR) lv') (.slice AT ts.length cT) (.slice AN ns.length cN) (.slice AR rs.length cR) ts ns rs) (hy:N<=y.heap.size)=>zcm hf hx h hy);have av:=aA (fun(y:World)=>zc9 x.t hx.1 y);have am:=aA (fun(hp:Gm.put ts x=.ok (ts',n)) (y:World) (h:Wk y B N R ts ns rs lv) (hy:N<=y.heap.size) (hz:B<=y.heap.size)=>zgN L B N R ts ts' ns rs lv n x y h hf hx hy hz hp a3);have aw:=aA (fun h=>zgP (ts:=ts) (ts':=ts') (x:=x) (n:=n) h he);unfold ze1 at am ⊢;have bg:=hB;generalize Fl.fl (Pl.pos (L.take x.o)).1=X at *;generalize Fl.fl (Pl.pos (L.take x.o)).2=Y at *;obtain⟨w1,aj⟩:∃y,y=w.alloc (.cells #[.string (K.str x.t),.complex .f64 X Y] 127):=⟨_,rfl⟩
 have aa:Hid (Below w.heap.size w w1):=aA (by rw[aj];exact(AB _ _).alloc (Af _) _);have ab:Hid (w1.heap[w.heap.size]?=some (.cells #[.string (K.str x.t),.complex .f64 X Y] 127 (0,0))):=aA (by rw[aj];exact AE w _);have i:=aA (a4.o.below aa.o);have ag:Hid (N<=w1.heap.size):=aA (by have:=aa.o.size;omega);generalize K.str x.t=sx at *;have ax:=aA au;clear au hf hx hw
 go_enter Tryz.func95,Tryz.ntmps95
 go_wp2_with fail
 try rw[<-aj]
 clear aj;obtain⟨p0,_,j⟩:=i.o.at 0;have p1:=(i.o.at 1).1;have p2:=(i.o.at 2).1;have p3:=(i.o.at 3).1;simp only[wC,Aw,Ah,Aj]at p0 p1 p2 p3;have k:w.heap.size<w1.heap.size:=(Ad.1 ab.o).1;have t0:=aT ab.o;have Q0:=fun y:Calm.On w1.heap.size w1=>(y.2.cell (p:=⟨R,0,none⟩) j).trans p0;have Q1:=fun y:Calm.On w1.heap.size w1=>(y.2.cell (p:=⟨R,1,none⟩) j).trans p1;have Q2:=fun y:Calm.On w1.heap.size w1=>(y.2.cell (p:=⟨R,2,none⟩) j).trans p2;have Q3:=fun y:Calm.On w1.heap.size w1=>(y.2.cell (p:=⟨R,3,none⟩) j).trans p3;have Q4:=fun y:Calm.On w1.heap.size w1=>(y.2.cell (p:=⟨w.heap.size,0,none⟩) k).trans t0;refine CalmN.region_tree (fun x=>∃y:Calm.On w1.heap.size w1,x=y.1) (.one [0,1,2,3,4,5] 6 (.fin [7])) (by kernel_rfl) (by kernel_rfl) (fun _ _ d _ _ h=>by cases d <;> exact h) ⟨⟨w1.drew,aB (AB _ _) 1⟩,rfl⟩ ?_;simp only[CalmN.wpT,CalmN.wpSt,CalmN.pickOps,Aw,Ah,Aj];repeat (go_big_quiet_step (fail))
 refine Aq ?_;clear Q0 Q1 Q2 Q3 Q4 p0 p1 p2 p3 t0;intro KK ak;rw[Az (by rfl)];go_wp2_with fail
 refine(a6.o w1.drew _ i.o.drew9 ag.o).mono ?_;rintro _ w2 ⟨rfl,m⟩;have b:Below w1.heap.size w1 w2:=(aB (AB w1.heap.size w1) 1).trans m;have ac:=aA b;have f:=aA (i.o.below b);have ad:=aA ((b.block _ k).trans ab.o);have ah:=aA (Am ag.o b.size);clear m b;go_wp2_with fail
 refine ak _ _ ⟨⟨w2,ac.o⟩,rfl⟩ _ (fun _ h=>h) ⟨⟨w2,ac.o⟩,rfl⟩ ?_;repeat (go_big_quiet_step (fail))
 refine Aq ?_;clear ak k j;have al:=aA (aa.o.trans (ac.o.mono aa.o.size));rcases ax.o with⟨h0,h1,h2,h3⟩|⟨h0,ay⟩
 ·subst h1;have az:=aA (B4 h2 h3);clear h2 h3;have bh:=Gm.find_lt ns x.t;generalize Gm.find ns x.t=z at *;have l:wrap64 (-1-z) = -1-z:=by unfold wrap64;omega
  go_wp2;go_ret
  exact⟨by rw[az.o.2];simp,by rw[az.o.1];exact⟨_,_,_,f.o⟩,al.o.mono hB,KpT.below al.o⟩
 ·obtain⟨ai,hc⟩:=aw.o ay;have a9:¬(0:Int)<=Gm.find ns x.t:=by omega
  have ba:=aA (am.o ai);clear ay ai am ax aw;generalize Gm.find ns x.t=z at *;have bi:(decide (0<=z)&&may)=false:=by simp[a9]
  go_wp2_with fail
  obtain⟨p0,_,j⟩:=f.o.at 0;have p1:=(f.o.at 1).1;have p2:=(f.o.at 2).1;have p3:=(f.o.at 3).1;simp only[wC,Aw,Ah,Aj]at p0 p1 p2 p3;have k:w.heap.size<w2.heap.size:=(Ad.1 ad.o).1;have u0:=aT ad.o;have Q0:=fun y:Calm.On w2.heap.size w2=>(y.2.cell (p:=⟨R,0,none⟩) j).trans p0;have Q1:=fun y:Calm.On w2.heap.size w2=>(y.2.cell (p:=⟨R,1,none⟩) j).trans p1;have Q2:=fun y:Calm.On w2.heap.size w2=>(y.2.cell (p:=⟨R,2,none⟩) j).trans p2;have Q3:=fun y:Calm.On w2.heap.size w2=>(y.2.cell (p:=⟨R,3,none⟩) j).trans p3;have Q4:=fun y:Calm.On w2.heap.size w2=>(y.2.cell (p:=⟨w.heap.size,0,none⟩) k).trans u0;clear u0;refine CalmN.region_tree (fun x=>∃y:Calm.On w2.heap.size w2,x=y.1) (.one [0,1,2,3,4,5] 6 (.one [7,8,9,10] 11 (.fin [12,13,14,15,16,17,18]))) (by kernel_rfl) (by kernel_rfl) (fun _ _ d _ _ h=>by cases d <;> exact h) ⟨⟨w2.drew,aB (AB _ _) 1⟩,rfl⟩ ?_;simp only[CalmN.wpT,CalmN.wpSt,CalmN.pickOps,Aw,Ah,Aj];repeat (go_big_quiet_step (fail))
  refine Aq ?_;intro KK ak;rw[Az (by rfl)];go_wp2_with fail
  refine(a5.o w2.drew _ f.o.drew9 ah.o).mono ?_;rintro _ w3 ⟨rfl,m⟩;have b:Below w2.heap.size w2 w3:=(aB (AB w2.heap.size w2) 1).trans m;have g:=aA b;have ao:=aA (f.o.below b);have ae:=aA ((b.block _ k).trans ad.o);have ap:=aA (Am ah.o b.size);clear m b;go_wp2_with fail
  refine ak _ _ ⟨⟨w3,g.o⟩,rfl⟩ _ (fun _ h=>h) ⟨⟨w3,g.o⟩,rfl⟩ ?_;have aq:=aA (al.o.trans (g.o.mono al.o.size));rcases hc with hc|⟨hc,ar⟩
  focus
   have bj:decide (0<=Gm.find (Gm.names ts) x.t)=true:=AL hc;generalize Gm.find (Gm.names ts) x.t=z2 at *;repeat (go_big_quiet_step (fail))
   refine Aq ?_;intro KK2 af;rw[AG (by exact(fun h=>absurd (show false=true from h) (by decide)))];refine af _ _ ⟨⟨w3,g.o⟩,rfl⟩ _ (fun _ h=>h) ⟨⟨w3,g.o⟩,rfl⟩ ?_;simp only[Act.put,Cw,CJ,CK]
  rotate_left
  focus
   have bk:decide (0<=Gm.find (Gm.names ts) x.t)=false:=AO (by omega);rw[ar]at av;generalize Gm.find (Gm.names ts) x.t=z2 at *;repeat (go_big_quiet_step (fail))
   refine Aq ?_;intro KK2 af;rw[Az (by rfl)];go_wp2_with fail
   refine(av.o _).mono ?_;rintro _ _ ⟨rfl,rfl⟩;go_wp2_with fail
   refine af _ _ ⟨⟨w3,g.o⟩,rfl⟩ _ (fun _ h=>h) ⟨⟨w3,g.o⟩,rfl⟩ ?_
  all_goals
   repeat (go_big_quiet_step (fail))
   refine Aq ?_;have bb:w.heap.size<w3.heap.size:=(Ad.1 ae.o).1;have t0:=aT ae.o;have t1:=aU ae.o;have HC:=aA (ba.o w3 ⟨_,_,_,ao.o⟩ ap.o (Am hB aq.o.size));clear Q0 Q1 Q2 Q3 Q4 p0 p1 p2 p3;go_wp2_with fail
   refine HC.o.mono ?_;rintro _ w4 ⟨rfl,a0,a1,a2⟩;have bc:=aA (B4 a0 (B4 ((aq.o.mono hB).trans a1) ((KpT.below aq.o).trans a2)));clear a0 a1 a2 t0 t1;go_wp2;go_ret
   exact⟨rfl,bc.o⟩
theorem KpT.beyond {row:Option Nat} (h:KpT w wr) (hg:wr.grownBy w' row) (hr:∀k,row=some k->w.heap.size<=k):KpT w w':=fun g cs T h1 h2 h3=>by
 have hk:=h g cs T h1 h2 h3;refine(hg.block g (Ad.1 hk).1 (fun e=>?_)).trans hk
 have:=hr g e.symm
 have:=(Ad.1 h1).1
 omega
theorem aS.kpT {xs:List Int} (h:aS w base v xs) (hk:KpT w w'):aS w' base v xs:=by
 refine⟨h.1,?_⟩;rcases h.2 with h0|⟨g,cap,cur,e,hb,hg,hr⟩
 ·exact .inl h0
 ·exact .inr ⟨g,cap,cur,e,hb,hk g cur _ hg (by decide) (by decide),hr⟩
theorem aS.off9 {xs:List Int} (h:aS w N v xs):Off9 w N v.ownBlock:=⟨fun g e=>by
 obtain⟨h1,cur,h2⟩:=aM h e;exact⟨_,_,h2,by decide,by decide,by decide,.inr h1⟩⟩
theorem Wk.grown {R:Nat} {row:Option Nat} (h:Wk w B N R ts ns rs lv) (hg:w.grownBy w' row) (ho:Off9 w N row):Wk w' B N R ts ns rs lv:=by
 obtain⟨vT,vN,vR,h⟩:=h;exact⟨vT,vN,vR,h.grown hg ho⟩
structure PrJ (w0 wr:World) (B R Q:Nat) (ns:List (List Int)) (rs:List Gm.Rl) (lv:Int) (ts:List Gm.Tm) (PC:Array Value) (lf:Int) (v:Value) (acc:List Int) (p:Int):Prop where
 b:Wk wr B w0.heap.size R ts ns rs lv
 f:Gm.Fit ⟨ts,ns,rs,0⟩
 t:ts.length<=24
 w:Below B w0 wr
 k:KpT w0 wr
 q:w0.heap.size<Q
 pb:wr.heap[w0.heap.size]?=some (.cells PC 135 (0,0))
 qb:wr.heap[Q]?=some (.cells #[.int .i64 lf,v,.int .i64 p] 48 (0,0))
 o:aS wr w0.heap.size v acc
section
variable {w0 wr w':World} {B R Q:Nat} {ns:List (List Int)} {rs:List Gm.Rl} {lv:Int} {ts:List Gm.Tm} {PC:Array Value} {lf p p':Int} {v v':Value} {acc acc':List Int}
theorem PrJ.alloc (h:PrJ w0 wr B R Q ns rs lv ts PC lf v acc p) (o:Obj) (hB:B<=w0.heap.size):PrJ w0 (wr.alloc o) B R Q ns rs lv ts PC lf v acc p :=
 ⟨h.b.alloc o,h.f,h.t,h.w.alloc (Am hB h.w.size) o,h.k.trans (KpT.below ((AB _ _).alloc (Af _) o)),h.q,(Bu wr o _ (Ad.1 h.pb).1).trans h.pb,(Bu wr o _ (Ad.1 h.qb).1).trans h.qb,h.o.alloc o⟩
theorem PrJ.call (h:PrJ w0 wr B R Q ns rs lv ts PC lf v acc p) (hb:Wk w' B w0.heap.size R ts' ns rs lv) (hw:Below B wr w') (hk:KpT wr w') (hf:Gm.Fit ⟨ts',ns,rs,0⟩) (ht:ts'.length<=24):PrJ w0 w' B R Q ns rs lv ts' PC lf v acc p :=
 ⟨hb,hf,ht,h.w.trans hw,h.k.trans hk,h.q,hk _ _ _ h.pb (by decide) (by decide),hk _ _ _ h.qb (by decide) (by decide),h.o.kpT hk⟩
theorem PrJ.off (hq:w0.heap.size<Q) (qb:wr.heap[Q]?=some (.cells #[.int .i64 lf,v,.int .i64 p] 48 (0,0))):Off9 wr w0.heap.size (some Q):=⟨fun g e=>by
 injection e with e;subst e;exact⟨_,_,qb,by decide,by decide,by decide,.inr (by omega)⟩⟩
theorem PrJ.setQ (h:PrJ w0 wr B R Q ns rs lv ts PC lf v acc p) (j:Nat) (u:Value) (hu:(#[.int .i64 lf,v,.int .i64 p]:Array Value).setIfInBounds j u=#[.int .i64 lf,v',.int .i64 p']) (ho:aS (wr.setCell ⟨Q,j,none⟩ u) w0.heap.size v' acc) (hB:B<=w0.heap.size):PrJ w0 (wr.setCell ⟨Q,j,none⟩ u) B R Q ns rs lv ts PC lf v' acc p':=by
 have hg:wr.grownBy (wr.setCell ⟨Q,j,none⟩ u) (some Q):=aF (AM _ _) j u;have hq:=h.q;refine⟨h.b.grown hg (PrJ.off h.q h.qb),h.f,h.t,h.w.setCell (by simp only;omega) u,h.k.beyond hg (fun k e=>by injection e with e;omega),h.q,(AP wr ⟨Q,j,none⟩ u w0.heap.size (by simp only;omega)).trans h.pb,?_,ho⟩;rw[<-hu];exact AW wr _ j _ _ u h.qb
theorem PrJ.app (h:PrJ w0 wr B R Q ns rs lv ts PC lf v acc p) (ho:aS w' w0.heap.size v' acc') (hg:wr.grownBy w' v.ownBlock) (hB:B<=w0.heap.size) :
  (w'.heap[Q]?=some (.cells #[.int .i64 lf,v,.int .i64 p] 48 (0,0)))/\PrJ w0 (w'.setCell ⟨Q,1,none⟩ v') B R Q ns rs lv ts PC lf v' acc' p:=by
 have ab:=h.b.grown hg h.o.off9;have pb':=zac h.pb h.o (by decide) hg;have qb':=zac h.qb h.o (by decide) hg;have hN:∀k,v.ownBlock=some k->w0.heap.size<=k:=fun k e=>(aM h.o e).1;have ac:=h.w.grown hg (Am hB h.w.size) (fun k e=>Am hB (hN k e));have ad:=h.k.beyond hg hN;have hq:=h.q;have aa:w'.grownBy (w'.setCell ⟨Q,1,none⟩ v') (some Q):=aF (AM _ _) 1 v';exact⟨qb',ab.grown aa (PrJ.off h.q qb'),h.f,h.t,ac.setCell (by simp only;omega) v',ad.beyond aa (fun k e=>by injection e with e;omega),h.q,(AP w' ⟨Q,1,none⟩ v' w0.heap.size (by simp only;omega)).trans pb',AW w' _ 1 _ _ v' qb',ho.set_away qb' 1 v'⟩
end
theorem zgQ {x:Tok} (h:Gm.symR ns ts x=.ok (ts',z)) (hx:K.Tx x.t) (hf:Gm.Fit ⟨ts,ns,rs,0⟩):((0<=Gm.find ns x.t/\true=true/\ts'=ts/\z = -1-Gm.find ns x.t)\/(Gm.find ns x.t<0/\Gm.sym ts x=.ok (ts',z)))/\Gm.Fit ⟨ts',ns,rs,0⟩:=by
 unfold Gm.symR at h;split at h
 ·rename_i h0
  injection h with h;injection h with h1 h2;subst h1;exact⟨.inl ⟨h0,rfl,rfl,h2.symm⟩,hf⟩
 ·rename_i h0
  refine⟨.inr ⟨by omega,h⟩,?_⟩;unfold Gm.sym at h;split at h
  ·exact Fit.put hf hx h
  ·cases h
end Go.Proofs.YtcmhaemaophplaaGreat
namespace Go.Proofs.YtcmhaemaophplaaGreat
open Go.RowKit
theorem zlt {x:Tok} (h:Gm.sym ts x=.ok (ts',z)) (aa:ts.length<=24):Gm.In z/\ts'.length<=24:=by
 unfold Gm.sym at h;split at h
 ·refine⟨?_,zjM aa h⟩;unfold Gm.In;rcases Gm.put_ok h with⟨j,_,_,hj,hl,_⟩|⟨_,_,hj,_⟩ <;> omega
 ·cases h
theorem zkl {x:Tok} (h:Gm.symR ns ts x=.ok (ts',z)) (aa:ts.length<=24) (ab:ns.length<=16):Gm.In z/\ts'.length<=24:=by
 unfold Gm.symR at h;split at h
 ·rename_i h0
  injection h with h;injection h with h1 h2
  have:=Gm.find_lt ns x.t
  subst h1;refine⟨?_,aa⟩;unfold Gm.In;omega
 ·exact zlt h aa
theorem Fit.more {r:Gm.Rl} (h:Gm.Fit ⟨ts,ns,rs,0⟩) (hr:Gm.In r.l/\Gm.In r.p/\∀z∈r.r,Gm.In z):Gm.Fit ⟨ts,ns,rs++[r],0⟩:=by
 refine⟨h.t,h.n,fun x hx=>?_,h.s⟩;rcases Bs.1 hx with q|q
 ·exact h.r x q
 ·simp at q;subst q;exact hr
theorem find_in (ns:List (List Int)) (s:List Int) (h:ns.length<=16):Gm.In (Gm.find ns s):=by
 have h1:=Gm.find_lt ns s;have h2:=Gm.find_ge ns s;unfold Gm.In;omega
theorem zcg {rs':List Gm.Rl} {pr:Y.Prd} (h:Gm.prod1 ns ts rs pr=.ok (ts',rs')):rs.length≠40/\∃tz az pz,Gm.rights ns ts [] (-1) pr.r=.ok (tz,az,pz)/\((pr.p=none/\ts'=tz/\rs'=rs++[⟨Gm.find ns pr.l.t,az,pz⟩]) \/ ∃x z,pr.p=some x/\Gm.symP ns tz x=.ok (ts',z)/\rs'=rs++[⟨Gm.find ns pr.l.t,az,z⟩]):=by
 unfold Gm.prod1 at h;split at h
 ·cases h
 ·rename_i aa
  obtain⟨⟨tz,az,pz⟩,h1,h2⟩:=Gm.R.bind_eq h;refine⟨aa,tz,az,pz,h1,?_⟩;cases hp:pr.p with
  | none =>
   rw[hp]at h2;injection h2 with h2;injection h2 with a b;exact .inl ⟨rfl,a.symm,b.symm⟩
  | some x =>
   rw[hp]at h2;obtain⟨⟨t2,z⟩,h3,h4⟩:=Gm.R.bind_eq h2;injection h4 with h4;injection h4 with a b;simp only at a b;subst a;exact .inr ⟨x,z,rfl,h3,b.symm⟩
theorem znk (L:List Int) (B R:Nat) (ts ts':List Gm.Tm) (ns:List (List Int)) (rs rs':List Gm.Rl) (lv:Int) (pr:Y.Prd) (A:Option Addr) (c:Nat) (w:World) (hw:Wk w B w.heap.size R ts ns rs lv) (hf:Gm.Fit ⟨ts,ns,rs,0⟩) (hr:zlc L w B A pr.r) (hx:K.Tx pr.l.t) (bo:∀x∈pr.r,K.Tx x.t/\Gm.named x.t=true/\x.t≠[101,114,114,111,114]) (a4:znK pr) (hB:B<=w.heap.size) (bp:ts.length<=24) (a5:ns.length<=16) (cn:rs.length<=40) (co:pr.r.length<=1000) (hp:Gm.prod1 ns ts rs pr=.ok (ts',rs')) :
  Calls Tryz.prog 66 #[.pointer (some ⟨R,0,none⟩),.agg (zcj L pr A c)] w fun e w'=>e=.returned (.tuple #[])/\(Wk w' B w'.heap.size R ts' ns rs' lv/\Gm.Fit ⟨ts',ns,rs',0⟩/\ts'.length<=24)/\Below B w w'/\KpA w w':=by
 have SC:=fun a w m X Y=>show(store a (.complex .f64 X Y) m).run Tryz.prog w=stored Tryz.prog w a (.complex .f64 X Y) m from run_store _ w a _ m rfl;obtain⟨cp,tz,az,pz,bq,aa⟩:=zcg hp;have b7:=aA bq;have ab:=aA (aa.resolve_right (fun⟨x,z,e,_⟩=>by unfold znK at a4;rw[a4]at e;cases e));have HR:=aA hr;have b8:=aA (fun(i:Nat) (hi:i<pr.r.length)=>bo _ (AC hi));have HF:=aA hf;obtain⟨vT,vN,vR,N⟩:=id hw;obtain⟨⟨AT,cT,rfl⟩,⟨AN,cN,rfl⟩,⟨AR,cR,rfl⟩⟩:=zax N;have br:=aA N;have cq:=N.lt;have al:=aA (fun(y:World) (lv':Int) (h:WRaw y B w.heap.size R (wC (.slice AT ts.length cT) (.slice AN ns.length cN) (.slice AR rs.length cR) lv') (.slice AT ts.length cT) (.slice AN ns.length cN) (.slice AR rs.length cR) ts ns rs) (hy:w.heap.size<=y.heap.size)=>zcm hf hx h hy);obtain⟨lf,a6⟩:∃lf,lf=Gm.find ns pr.l.t:=⟨_,rfl⟩
 have b9:Hid (Gm.In lf):=aA (by rw[a6];exact find_in ns _ a5);rw[<-a6]at al ab;clear a6;obtain⟨w1,V⟩:∃w1,w1=w.alloc (.cells (zcj L pr A c) 135):=⟨_,rfl⟩
 have C:Hid (WRaw w1 B w.heap.size R (wC (.slice AT ts.length cT) (.slice AN ns.length cN) (.slice AR rs.length cR) lv) (.slice AT ts.length cT) (.slice AN ns.length cN) (.slice AR rs.length cR) ts ns rs):=aA (by rw[V];exact N.alloc _);have af:Hid (w1.heap[w.heap.size]?=some (.cells (zcj L pr A c) 135 (0,0))):=aA (by rw[V];exact AE w _);have bs:w1.heap.size=w.heap.size+1:=by rw[V];simp
 have Z:Hid (Below w.heap.size w w1):=aA (by rw[V];exact(AB _ w).alloc (Af _) _);have bu:R<w1.heap.size:=by omega
 have ag:w.heap.size<w1.heap.size:=by omega
 have q0:∀y:Calm.On w1.heap.size w1,y.1.cell? ⟨R,0,none⟩=some (.slice AT ts.length cT):=fun y=>((C.o.below y.2).at 0).1;have q1:∀y:Calm.On w1.heap.size w1,y.1.cell? ⟨R,1,none⟩=some (.slice AN ns.length cN):=fun y=>((C.o.below y.2).at 1).1;have q2:∀y:Calm.On w1.heap.size w1,y.1.cell? ⟨R,2,none⟩=some (.slice AR rs.length cR):=fun y=>((C.o.below y.2).at 2).1;have q3:∀y:Calm.On w1.heap.size w1,y.1.cell? ⟨R,3,none⟩=some (.int .i64 0):=fun y=>((C.o.below y.2).at 3).1;have D0:=fun y:Calm.On w1.heap.size w1=>aT ((y.2.block w.heap.size ag).trans af.o);have a9:=aA (fun y=>zjr lf y);unfold zcj at af V ⊢;clear N hw hf hr hx bo a4 hp bq aa;generalize rfX L pr.l=X0 at *;generalize rfY L pr.l=Y0 at *;generalize K.str pr.l.t=s0 at *
 go_enter Tryz.func66,Tryz.ntmps66
 go_upto_region 1 with fail
 rw[<-V];clear V;have ba:=aA (aB (AB w1.heap.size w1) 1);have ax:=aA (fun o=>(aB (AB w1.heap.size w1) 1).alloc (Af _) o);have RB:=a9.o;refine CalmN.region_tree (fun x=>∃y:Calm.On w1.heap.size w1,x=y.1) (.two [0,1,2,3,4,5,6] 7 (.one [8] 9 (.one [] 10 (.fin []))) 9 (.one [] 7 (.one [8] 10 (.fin [])))) (by kernel_rfl) (by kernel_rfl) (fun _ _ d _ _ h=>by cases d <;> exact h) ⟨⟨w1.drew,ba.o⟩,rfl⟩ ?_;simp only[CalmN.wpT,CalmN.wpSt,CalmN.pickOps,Aw,Ah,Aj];repeat (go_big_quiet_step (fail))
 refine Aq ?_;clear q0 q1 q2 q3 D0;refine⟨?_,?_⟩
 case' refine_1 =>
  intro KK s;rw[Az (by rfl)];go_wp2_with fail
  refine(al.o w1.drew _ C.o.drew9 (by show w.heap.size<=w1.heap.size;omega)).mono ?_;rintro _ w2 ⟨rfl,O⟩;have H:=aA ((aB (AB w1.heap.size w1) 1).trans O);have ah:w1.heap.size<=w2.heap.size:=H.o.size;have I:=aA (fun o=>H.o.alloc ah o);clear O;go_wp2_with fail
  refine s _ _ ⟨⟨w2,H.o⟩,rfl⟩ _ (fun _ h=>h) ⟨⟨w2,H.o⟩,rfl⟩ ?_;repeat (go_big_quiet_step (fail))
  refine Aq ?_;intro KK s;rw[Az (by rfl)];go_wp2_with fail
  refine s _ _ ⟨⟨_,I.o _⟩,rfl⟩ _ (fun _ h=>h) ⟨⟨_,I.o _⟩,rfl⟩ ?_;refine Aq ?_;intro KK s;rw[Az (by rfl)];go_wp2_with fail
  refine s _ _ ⟨⟨_,I.o _⟩,rfl⟩ _ (fun _ h=>h) ⟨⟨_,I.o _⟩,rfl⟩ ?_;refine Aq ?_;clear s RB;obtain⟨wq,E⟩:∃x,x=w2.alloc (.cells #[.int .i64 lf,.slice none 0 0,.int .i64 (-1)] 48):=⟨_,rfl⟩
  rw[<-E];obtain⟨Q,hQ⟩:∃x,x=w2.heap.size:=⟨_,rfl⟩
  rw[<-hQ]
  have am:Hid (PrJ w wq B R Q ns rs lv ts #[.string s0,.complex .f64 X0 Y0,.slice A pr.r.length c,.string (soS pr.p),.complex .f64 (soX L pr.p) (soY L pr.p)] lf (.slice none 0 0) [] (-1)):=aA (by
   have ao:Below w.heap.size w wq:=by rw[E];exact(Z.o.trans (H.o.mono Z.o.size)).alloc (Am Z.o.size ah) _
   have ai:Below w1.heap.size w1 wq:=by rw[E];exact I.o _
   exact⟨⟨_,_,_,C.o.below ai⟩,HF.o,bp,ao.mono hB,KpT.below ao,by omega,(ai.block w.heap.size ag).trans af.o,by rw[E,hQ];exact AE w2 _,zbM _ _⟩)
  clear E hQ H I ah al C af Z a9 ba ax bs bu ag br
 case' refine_2 =>
  intro KK s;rw[Az (by rfl)];go_wp2_with fail
  refine s _ _ ⟨⟨_,ax.o _⟩,rfl⟩ _ (fun _ h=>h) ⟨⟨_,ax.o _⟩,rfl⟩ ?_;refine Aq ?_;intro KK s;rw[Az (by rfl)];go_wp2_with fail
  have ap:Hid (Below w1.heap.size w1 (w1.alloc (.cells #[.int .i64 0,.slice none 0 0,.int .i64 0] 48)).drew):=aA (aB ((AB _ w1).alloc (Af _) _) 1);refine(al.o _ _ (C.o.below ap.o) (by have:=ap.o.size;omega)).mono ?_;rintro _ w2 ⟨rfl,O⟩;have H:=aA (ap.o.trans (O.mono ap.o.size));have J:Hid (w2.heap[w1.heap.size]?=some (.cells #[.int .i64 0,.slice none 0 0,.int .i64 0] 48 (0,0))):=aA ((O.block w1.heap.size (by show w1.heap.size<(w1.alloc _).heap.size;simp)).trans (AE w1 _));have ah:w1.heap.size<w2.heap.size:=(Ad.1 J.o).1;clear O;go_wp2_with fail
  refine s _ _ ⟨⟨w2,H.o⟩,rfl⟩ _ (fun _ h=>h) ⟨⟨w2,H.o⟩,rfl⟩ ?_;repeat (go_big_quiet_step (fail))
  refine Aq ?_;intro KK s;rw[Az (by rfl)];obtain⟨Q,hQ⟩:∃x,x=w.heap.size+1:=⟨_,rfl⟩
  rw[<-hQ];have bv:w1.heap.size=Q:=by omega
  rw[bv]at J H;have I:=aA (fun u0 u1 u2=>((H.o.setCell (p:=⟨Q,0,none⟩) (Af _) u0).setCell (p:=⟨Q,1,none⟩) (Af _) u1).setCell (p:=⟨Q,2,none⟩) (Af _) u2);have aj:Hid (w.heap.size<Q/\w1.heap.size=Q):=aA (by omega);have z0:=AH w2 _ 0 _ _ J.o;have z1:=AH w2 _ 1 _ _ J.o;have z2:=AH w2 _ 2 _ _ J.o;have y0:=aT J.o;have y1:=aU J.o;have y2:=aZ J.o;have ah:Q<w2.heap.size:=(Ad.1 J.o).1;clear hQ bv bs ag;go_wp2_with fail
  refine s _ _ ⟨⟨_,by rw[aj.o.2];exact I.o _ _ _⟩,rfl⟩ _ (fun _ h=>h) ⟨⟨_,by rw[aj.o.2];exact I.o _ _ _⟩,rfl⟩ ?_;refine Aq ?_;clear s RB;obtain⟨wq,E⟩:∃x,x=((w2.setCell ⟨Q,0,none⟩ (.int .i64 lf)).setCell ⟨Q,1,none⟩ (.slice none 0 0)).setCell ⟨Q,2,none⟩ (.int .i64 (-1)):=⟨_,rfl⟩
  rw[<-E]
  have am:Hid (PrJ w wq B R Q ns rs lv ts #[.string s0,.complex .f64 X0 Y0,.slice A pr.r.length c,.string (soS pr.p),.complex .f64 (soX L pr.p) (soY L pr.p)] lf (.slice none 0 0) [] (-1)):=aA (by
   have ai:Below w1.heap.size w1 wq:=by rw[E,aj.o.2];exact I.o _ _ _
   have ao:Below w.heap.size w wq:=Z.o.trans (ai.mono Z.o.size);have ag:w.heap.size<w1.heap.size:=by have:=aj.o;omega
   exact⟨⟨_,_,_,C.o.below ai⟩,HF.o,bp,ao.mono hB,KpT.below ao,aj.o.1,(ai.block w.heap.size ag).trans af.o,by rw[E];exact AW _ _ 2 _ _ _ (AW _ _ 1 _ _ _ (AW _ _ 0 _ _ _ J.o)),zbM _ _⟩)
  clear E H I ah al C af Z a9 ba ax bu br z0 z1 z2 y0 y1 y2 J aj ap
 all_goals
  have ca:=aA (Ad.1 am.o.pb).1;obtain⟨vTq,vNq,vRq,E⟩:=am.o.b;obtain⟨_,_,⟨ARq,cRq,rfl⟩⟩:=zax E;obtain⟨k2,_,cb⟩:=E.at 2;simp only[wC,Aw,Ah,Aj]at k2;have e40:((rs.length:Int)==40)=false:=AY.2 (by omega);clear E;go_wp2;clear k2 cb e40;go_loopw [5] (fun vi wr=>∃(i:Nat) (tk:List Gm.Tm) (acc:List Int) (p:Int) (v:Value),i<=pr.r.length/\vi=.int .i64 i/\acc.length=i/\Hid (Gm.rights ns tk acc p (pr.r.drop i)=.ok (tz,az,pz))/\Hid ((∀z∈acc,Gm.In z)/\Gm.In p)/\Hid (PrJ w wr B R Q ns rs lv tk #[.string s0,.complex .f64 X0 Y0,.slice A pr.r.length c,.string (soS pr.p),.complex .f64 (soX L pr.p) (soY L pr.p)] lf v acc p)) (fun vi _=>pr.r.length-(intOf vi).toNat)
  case atStart=>exact⟨0,ts,[],-1,.slice none 0 0,AU _,rfl,rfl,b7,aA ⟨by simp,by unfold Gm.In;omega⟩,am⟩
  case round =>
   clear am ca;obtain⟨i,tk,acc,p,v,hi,rfl,bw,HE,ay,HP⟩:=hrel;have bb:=aA bw;have p2:=aZ HP.o.pb;have cr:=(Ad.1 HP.o.pb).1;obtain⟨vTr,vNr,vRr,N⟩:=HP.o.b;have f10:=(N.at 10).1;have cs:=N.lt;simp only[wC,Aw,Ah,Aj]at f10;clear N bw;by_cases aq:i<pr.r.length
   ·obtain⟨g,o,rfl,bx,hc⟩:=HR.o (by omega);have k0:=(HP.o.w.cell (p:=⟨g,o+i*2,none⟩) bx).trans (hc i aq).1;have k1:=(HP.o.w.cell (p:=⟨g,o+i*2+1,none⟩) bx).trans (hc i aq).2;have cu:=HP.o.w.size;have cw:g<wr.heap.size:=by omega
    obtain⟨a0,bz,bD⟩:=b8.o i aq;have hE:=HE.o;rw[zej aq]at hE;have h6:acc.length≠6:=fun q=>by rw[Az q]at hE;cases hE
    rw[AG h6]at hE;obtain⟨⟨t2,zz⟩,hs,bc⟩:=Gm.R.bind_eq hE;simp only at bc;have cc:=aA bc;obtain⟨ac,ad⟩:=zgQ hs a0 HP.o.f;obtain⟨ar,bM⟩:=zkl hs HP.o.t a5;have a1:=aA (B4 ad (B4 bM ar));have e6:((i:Int)==6)=false:=AY.2 (by have:=bb.o;omega);have bd:=aA (fun(y:World)=>zcK pr.r[i].t a0 y);rw[bz]at bd;have bf:=aA (fun(y:World) (h:Wk y B w.heap.size R tk ns rs lv) (hy:w.heap.size<=y.heap.size)=>zkk L B w.heap.size R tk t2 ns rs lv zz pr.r[i] true y h HP.o.f a0 bD hy (Am hB hy) ac HP.o.t a5);unfold ze1 at bf;clear hc hE bc hs ac ad ar bM a0 bz bD h6;unfold rfX rfY at k1;generalize K.str pr.r[i].t=sx at *;generalize Fl.fl (Pl.pos (L.take pr.r[i].o)).1=X at *;generalize Fl.fl (Pl.pos (L.take pr.r[i].o)).2=Y at *;have bg:=aA (HP.o.alloc (.cells #[.string sx,.complex .f64 X Y] 127) hB);have cx:=aA (AE wr (.cells #[.string sx,.complex .f64 X Y] 127));have HC:=aA (bf.o _ bg.o.b bg.o.w.size);go_wp2_with fail
    refine(bd.o _).mono ?_;rintro _ _ ⟨rfl,rfl⟩;go_wp2_with fail
    refine HC.o.mono ?_;rintro _ w2 ⟨rfl,O,bT,bX⟩;have au:=aA (bg.o.call O bT bX a1.o.1 a1.o.2.1);obtain⟨Av,nv,cv,bh⟩:=zdR au.o.o;subst bh;have q1:=aU au.o.qb;have bY:=(Ad.1 au.o.qb).1;have bZ:=aA (au.o.alloc (.cells #[.int .i64 zz] 3) hB);have cd:Hid (w.heap.size<=w2.heap.size):=aA au.o.w.size;have ce:acc.length<=1000000000000:=by have:=bb.o;omega
    clear O bT bX p2 f10 k0 k1 HC bf bd;by_cases a2:0<=zz
    case' pos=>have e:decide (0<=zz)=true:=AL a2
    case' neg=>have e:decide (0<=zz)=false:=AO a2
    all_goals
     have HX:=cc.o
     first|rw[Az a2]at HX|rw[AG a2]at HX
     have HX:=aA HX;go_wp2_with (refine za4 rfl (.tmp 63) (.tmp 65) _ rfl Tryz.underlying38 w.heap.size _ acc rfl bZ.o.o _ _ zz rfl (zaj w2 [.int .i64 zz] 3 0) ce (by have:=cd.o;simp;omega) ?_;intro v4 w4 bi b0;obtain⟨A4,n4,c4,rfl⟩:=zdR bi;have D:=aA (bZ.o.app bi b0 hB);have q41:w4.cell? ⟨Q,1,none⟩=some (.slice Av nv cv):=AD w4 _ 1 _ _ _ D.o.1;have q42:w4.cell? ⟨Q,2,none⟩=some (.int .i64 p):=AD w4 _ 2 _ _ _ D.o.1;have f41:=AH w4 _ 1 _ _ D.o.1;have f42:=AH w4 _ 2 _ _ D.o.1;have cy:=(Ad.1 D.o.1).1;clear bi b0)
     go_roundw
     case rel=>exact⟨i+1,t2,acc++[zz],_,.slice A4 n4 c4,aq,by go_num,by rw[AQ,BB,bb.o],HX,aA ⟨fun z hz=>by rcases Bs.1 hz with q|q;exact ay.o.1 z q;rw[AJ.1 q];exact a1.o.2.2,by first|exact a1.o.2.2|exact ay.o.2⟩,aA (by first|exact D.o.2|exact D.o.2.setQ 2 (.int .i64 zz) rfl (D.o.2.o.set_away D.o.2.qb 2 _) hB)⟩
     case measure=>simp[intOf];omega
   ·obtain rfl:i=pr.r.length:=by omega
    have hE:=HE.o;rw[zfW (Af _)]at hE;injection hE with hE;injection hE with e1 hE;injection hE with e2 e3;subst e1;subst e2;subst e3;have p3:=bG HP.o.pb;have p4:=zeY HP.o.pb;obtain⟨cf,e1,e2⟩:=ab.o;subst e1;subst e2
    replace p3:wr.cell? ⟨w.heap.size,3,none⟩=some (.string ⟨#[]⟩):=by rw[p3,cf];rfl
    clear p4;go_wp2_with fail
    obtain⟨wz,bj⟩:∃x,x=wr:=⟨_,rfl⟩
    rw[<-bj];have F:Hid (PrJ w wz B R Q ns rs lv ts' #[.string s0,.complex .f64 X0 Y0,.slice A pr.r.length c,.string (soS pr.p),.complex .f64 (soX L pr.p) (soY L pr.p)] lf v acc p):=aA (by rw[bj];exact HP.o);clear bj p3;have cg:=aA (Fit.more (rs:=rs) (r:=⟨lf,acc,p⟩) HP.o.f ⟨b9.o,ay.o.2,ay.o.1⟩);obtain⟨zp,rfl⟩:∃x,x=p:=⟨_,rfl⟩
    obtain⟨vT',vN',vR',M⟩:=F.o.b;have ch:=aA M;obtain⟨_,_,⟨AR2,cR2,ci⟩⟩:=zax M;subst ci;obtain⟨Av,cv,bh,b1,b2,av⟩:=F.o.o.row hB;subst bh;have c2:wz.cell? ⟨R,2,none⟩=some (.slice AR2 rs.length cR2):=(M.at 2).1;have cz:=(M.at 2).2.2;have bY:=(Ad.1 F.o.qb).1;have ae:=aA (B4 b1 (B4 b2 av));clear M av b1 b2;have E0:=fun y:Calm.OnB Q wz=>aT (y.2.trans F.o.qb);have E1:=fun y:Calm.OnB Q wz=>aU (y.2.trans F.o.qb);have E2:=fun y:Calm.OnB Q wz=>aZ (y.2.trans F.o.qb);refine CalmN.region_tree (fun x=>∃y:Calm.OnB Q wz,x=y.1) (.two [0,1,2,3,4,6] 5 (.one [] 7 (.one [] 8 (.one [9,10,11] 12 (.fin [])))) 7 (.one [] 5 (.one [] 8 (.one [9,10,11] 12 (.fin []))))) (by kernel_rfl) (by kernel_rfl) (fun _ _ d _ _ h=>by cases d <;> exact h) ⟨⟨wz.drew,rfl⟩,rfl⟩ ?_;simp only[CalmN.wpT,CalmN.wpSt,CalmN.pickOps,Aw,Ah,Aj];repeat (go_big_quiet_step (fail))
    refine Aq ?_;clear E0 E1 E2;have aw:=aA (fun o=>(Bu wz o Q bY));refine⟨?_,?_⟩
    all_goals
     intro KK s;rw[Az (by rfl)];go_wp2_with fail
     refine s _ _ ⟨⟨_,by first|rfl|exact aw.o _⟩,rfl⟩ _ (fun _ h=>h) ⟨⟨_,by first|rfl|exact aw.o _⟩,rfl⟩ ?_;refine Aq ?_;intro KK s;rw[Az (by rfl)];go_wp2_with fail
     refine s _ _ ⟨⟨(wz.alloc _).drew,aw.o _⟩,rfl⟩ _ (fun _ h=>h) ⟨⟨(wz.alloc _).drew,aw.o _⟩,rfl⟩ ?_;refine Aq ?_;intro KK s;rw[Az (by rfl)];obtain⟨wy,U⟩:∃x,x=(wz.alloc (.cells #[.int .i64 lf,.slice Av acc.length cv,.int .i64 zp] 48)).drew:=⟨_,rfl⟩
     rw[<-U];have A0:Hid (WRaw wy B w.heap.size R (wC vT' vN' (.slice AR2 rs.length cR2) lv) vT' vN' (.slice AR2 rs.length cR2) ts' ns rs):=aA (by rw[U];exact(ch.o.alloc (.cells #[.int .i64 lf,.slice Av acc.length cv,.int .i64 zp] 48)).drew9);have b3:Hid (Below B w wy):=aA (by rw[U];exact aB (F.o.w.alloc (Am hB F.o.w.size) _) 1);have cj:Hid (KpT w wy):=aA (by rw[U];exact F.o.k.trans (KpT.below (aB ((AB _ _).alloc (Af _) _) 1)));have b4:Hid (wy.heap[Q]?=wz.heap[Q]?):=aA (by rw[U];exact aw.o _);have ck:Hid (∀j u,(rlC (⟨lf,acc,zp⟩,Av,cv))[j]?=some u->wy.cell? ⟨wz.heap.size,j,none⟩=some u):=aA (fun j u hj=>by rw[U];exact(zaj wz (rlC (⟨lf,acc,zp⟩,Av,cv)) 48 j).trans hj)
     have bk:Hid (zgA wy B wy.heap.size Av acc):=aA (by
      rw[U];exact(ae.o.2.2.grown (w':=(wz.alloc (.cells #[.int .i64 lf,.slice Av acc.length cv,.int .i64 zp] 48)).drew) (row:=none) ((DK wz (.cells #[.int .i64 lf,.slice Av acc.length cv,.int .i64 zp] 48) none).trans (zap _ none)) (fun g e=>by cases e)).more (by show wz.heap.size<=(wz.alloc _).heap.size;simp))
     have a3:Hid (w.heap.size<=wy.heap.size):=aA b3.o.size;clear U;refine zeL (.tmp 102) (.tmp 104) _ rfl Tryz.underlying24 B w.heap.size _ rs rfl A0.o.r _ _ (⟨lf,acc,zp⟩,Av,cv) rfl ck.o ⟨ae.o.1,ae.o.2.1,bk.o⟩ (by omega) (Am hB a3.o) a3.o ?_;intro v8 w8 bl ak;have A1:=aA ((A0.o.more (Am a3.o ak.size)).r_put bl ak);obtain⟨A8,c8,rfl,_,_⟩:=zao bl
     have bm:Hid (w8.heap[Q]?=wz.heap[Q]?):=aA ((ak.block Q (by have:=(Ad.1 (b4.o.trans F.o.qb)).1;exact this) (fun e=>by
      obtain⟨_,_,_,h3,_⟩:=A0.o.r
      have:=h3 _ e.symm
      have:=F.o.q
      omega)).trans b4.o)
     have cl:Hid (KpA w w8):=aA (cj.o.a.trans (by obtain⟨_,_,h2,_⟩:=A0.o.r;exact KpA.own h2 ak (.inr (.inr rfl))));have cm:Hid (Below B w w8):=aA (b3.o.grown ak (Am hB a3.o) (fun k e=>by obtain⟨_,_,h2,_⟩:=A0.o.r;exact(aM h2 e).1));obtain⟨n8,b5⟩:∃n,n=(rs++[(⟨lf,acc,zp⟩:Gm.Rl)]).length:=⟨_,rfl⟩
     have c28:w8.cell? ⟨R,2,none⟩=some (.slice AR2 rs.length cR2):=(A1.o.at 2).1;have f28:=(A1.o.at 2).2.1;have cA:=(A1.o.at 2).2.2;rw[<-b5]at A1 ⊢;clear bl ak A0 b5;refine s _ _ ⟨⟨w8,bm.o⟩,rfl⟩ _ (fun _ h=>h) ⟨⟨w8,bm.o⟩,rfl⟩ ?_
     go_frame
     repeat (go_big_quiet_step (fail))
     refine Aq ?_;intro KK s;rw[Az (by rfl)];go_wp2_with fail
     have b6:=aA (fun u=>(AP w8 ⟨R,2,none⟩ u Q (by simp only;have:=F.o.q;omega)).trans bm.o);refine s _ _ ⟨⟨w8.setCell ⟨R,2,none⟩ _,b6.o _⟩,rfl⟩ _ (fun _ h=>h) ⟨⟨w8.setCell ⟨R,2,none⟩ _,b6.o _⟩,rfl⟩ ?_;refine Aq ?_;clear s;go_wp2;go_end0
     refine⟨rfl,⟨?_,cg.o,F.o.t⟩,cm.o.setCell A1.o.hR _,cl.o.trans (KpT.set A1.o 2 _).a⟩;rw[ziG];exact⟨vT',vN',_,A1.o.set 2 _⟩
def grC:Array Value:=#[.slice none 0 0,.slice none 0 0,.slice none 0 0,.int .i64 0]
structure Ez (ds:List Y.Dcl) (ps:List Y.Prd):Prop where
 k:zjB ds
 d:∀d∈ds,(∀x∈d.ns,K.Tx x.t/\Gm.named x.t=true)/\d.ns.length<=1000000
 l:∀p∈ps,K.Tx p.l.t/\T.isName p.l.t=true
 r:∀p∈ps,(∀x∈p.r,Ref9 x)/\znK p/\p.r.length<=1000
 dl:ds.length<=1000
 pl:ps.length<=1000
 pn:0<ps.length
theorem zeI {ps:List Y.Prd} (hk:zjB ds) (h:Gm.build ds ps=.ok G):∃S ns q,Gm.decls ⟨[],[],none,0⟩ ds=.ok S/\Gm.lefts S.ts [] ps=.ok ns/\Gm.prods ns S.ts [] ps=.ok q/\G=⟨q.1,ns,q.2,0⟩:=by
 unfold Gm.build at h;obtain⟨S,h1,h⟩:=Gm.R.bind_eq h;obtain⟨ns,h2,h⟩:=Gm.R.bind_eq h;obtain⟨q,h3,h⟩:=Gm.R.bind_eq h;have hs:S.st=none:=zgo ds hk h1;rw[hs]at h;injection h with h;exact⟨S,ns,q,h1,h2,h3,h.symm⟩
theorem zer {ps:List Y.Prd} (h:i<ps.length):Gm.prods ns ts rs (ps.drop i)=(Gm.prod1 ns ts rs ps[i]).bind fun q=>Gm.prods ns q.1 q.2 (ps.drop (i+1)):=by
 rw[BG h,Gm.prods]
theorem zij (w:World):(Instr.build 129 #[]).run Tryz.prog w=.ok (.agg (wC (.slice none 0 0) (.slice none 0 0) (.slice none 0 0) 0)) w:=EN w 129 _ _ (by kernel_rfl)
theorem zhh {rs':List Gm.Rl} {pr:Y.Prd} (h:Gm.prod1 ns ts rs pr=.ok (ts',rs')) (hl:rs.length<=40):rs'.length<=40:=by
 obtain⟨aa,tz,az,pz,_,q⟩:=zcg h;rcases q with⟨_,_,rfl⟩|⟨x,z,_,_,rfl⟩ <;> simp <;> omega
def GrW (w:World) (v:Value) (G:Gm.Gr):Prop:=∃B N R cs vT vN vR,v=.agg #[vT,vN,vR,.int .i64 G.st]/\WRaw w B N R cs vT vN vR G.ts G.ns G.rs/\N<=w.heap.size
theorem GrW.rd (h:GrW w v G):aR w w.heap.size v G:=by
 obtain⟨B,N,R,cs,vT,vN,vR,rfl,h,hN⟩:=h;exact h.rd hN G.st
theorem zk3 (w:World) (A1 A2:Option Addr) (n1 n2 c1 c2:Nat) (wb:World) (h:wb=((w.alloc (.cells #[.slice A1 n1 c1,.slice A2 n2 c2] 96)).alloc (.cells #[.slice none 0 0,.slice none 0 0,.slice none 0 0,.int .i64 0] 26)).alloc (.cells (wC (.slice none 0 0) (.slice none 0 0) (.slice none 0 0) 0) 129)) :
  Below w.heap.size w wb/\wb.heap.size=w.heap.size+3/\wb.heap[w.heap.size]?=some (.cells #[.slice A1 n1 c1,.slice A2 n2 c2] 96 (0,0))/\wb.heap[w.heap.size+1]?=some (.cells #[.slice none 0 0,.slice none 0 0,.slice none 0 0,.int .i64 0] 26 (0,0))/\Wk wb w.heap.size (w.heap.size+3) (w.heap.size+1+1) [] [] [] 0:=by
 obtain⟨o0,h0⟩:∃o,o=Obj.cells #[.slice A1 n1 c1,.slice A2 n2 c2] 96:=⟨_,rfl⟩
 obtain⟨o1,h1⟩:∃o,o=Obj.cells #[.slice none 0 0,.slice none 0 0,.slice none 0 0,.int .i64 0] 26:=⟨_,rfl⟩
 obtain⟨o2,h2⟩:∃o,o=Obj.cells (wC (.slice none 0 0) (.slice none 0 0) (.slice none 0 0) 0) 129:=⟨_,rfl⟩
 rw[<-h0,<-h1,<-h2]at h;subst h;have s1:(w.alloc o0).heap.size=w.heap.size+1:=by simp
 have s2:((w.alloc o0).alloc o1).heap.size=w.heap.size+1+1:=by simp
 refine⟨(((AB _ w).alloc (Af _) o0).alloc (by omega) o1).alloc (by omega) o2,by simp,?_,?_,.slice none 0 0,.slice none 0 0,.slice none 0 0,?_,bE.nil _ _,bI.nil _ _,a7.nil _ _ _,by omega⟩
 ·rw[Bu _ _ _ (by omega),Bu _ _ _ (by omega),h0];exact AE w _
 ·rw[Bu _ _ _ (by omega),<-s1,h1];exact AE _ _
 ·rw[<-s2,h2];exact AE _ _
theorem zmL (L:List Int) (ds:List Y.Dcl) (ps:List Y.Prd) (A1 A2:Option Addr) (c1 c2:Nat) (G:Gm.Gr) (w:World) (hd:zle L w w.heap.size A1 ds) (hp:zld L w w.heap.size A2 ps) (hz:Ez ds ps) (hb:Gm.build ds ps=.ok G) :
  Calls Tryz.prog 44 #[.agg #[.slice A1 ds.length c1,.slice A2 ps.length c2]] w fun e w'=>(∃g,e=.returned (.tuple #[g,.complex .f64 0 0,.int .i64 0])/\GrW w' g G/\Gm.Fit G)/\Below w.heap.size w w':=by
 obtain⟨S,ns,⟨tz,rz⟩,h1,h2,h3,hG⟩:=zeI hz.k hb;have ax:=fun w=>zij w;unfold wC at ax;have ay:=aA hd;have ai:=aA hp;have HZ:=aA hz;have H1:=aA h1;have H2:=aA h2;have H3:=aA h3;have HG:=aA hG;have bl:Hid (0<ps.length):=aA hz.pn;clear hd hp hz hb h1 h2 h3 hG
 go_enter Tryz.func44,Tryz.ntmps44
 go_wp2_with fail
 obtain⟨wb,ae⟩:∃x,x=((w.alloc (.cells #[.slice A1 ds.length c1,.slice A2 ps.length c2] 96)).alloc (.cells #[.slice none 0 0,.slice none 0 0,.slice none 0 0,.int .i64 0] 26)).alloc (.cells (wC (.slice none 0 0) (.slice none 0 0) (.slice none 0 0) 0) 129):=⟨_,rfl⟩
 have bm:=zk3 w A1 A2 ds.length ps.length c1 c2 wb ae;unfold wC at ae;rw[<-ae];obtain⟨b1,b2,b3,b4,b5⟩:=bm;have u:=aA b1;have aj:=aA b3;have az:=aA b4;have ak:=aA b5;have q:Hid (w.heap.size<=wb.heap.size/\w.heap.size+3<=wb.heap.size):=aA (by omega);clear ae b1 b2 b3 b4 b5 ax;obtain⟨n,hn⟩:∃n,n=w.heap.size:=⟨_,rfl⟩
 have bo:=aA hn;rw[<-hn]at ay ai u aj az ak q ⊢;clear hn;obtain⟨R,hR⟩:∃R,R=n+1+1:=⟨_,rfl⟩
 rw[<-hR]at ak ⊢;have b8:=aA hR;clear hR;have bp:Hid (Gm.Fit ⟨[],[],[],0⟩):=aA ⟨by simp,by simp,by simp,by unfold Gm.In;simp⟩;have HC:=aA (zmG L n (n+3) R [] [] ds ⟨[],[],none,0⟩ S A1 c1 wb ak.o ⟨bp.o,by simp,by simp⟩ HZ.o.k HZ.o.d (ay.o.keep u.o) q.o.2 q.o.1 rfl HZ.o.dl H1.o);refine HC.o.mono ?_;rintro _ w2 ⟨rfl,⟨a0,a1⟩,a2,al⟩;have a3:=aA a0;have am:=aA a1;have s:=aA a2;have a4:=aA (KpT.a al);have ab:=aA (al _ _ _ aj.o (by decide) (by decide));have s1:=aU ab.o;have aa:=(Ad.1 ab.o).1;have a5:=aA (zma L n (n+3) R S.ts [] ps [] ns S.lv A2 c2 w2 a3.o am.o.f HZ.o.l ((ai.o.keep u.o).keep s.o) (Am q.o.2 s.o.size) (Am q.o.1 s.o.size) (by simp) HZ.o.pl H2.o);clear a0 a1 a2 al HC;go_wp2_with fail
 refine a5.o.mono ?_;rintro _ w3 ⟨rfl,⟨a6,a9,ba⟩,ao,bb⟩;have bq:Hid (Wk w3 n w3.heap.size R S.ts ns [] S.lv):=aA (a6.more (Am q.o.2 (Am s.o.size ao.size)));have br:=aA a9;have bs:=aA (s.o.trans ao);have bu:=aA (a4.o.trans bb);have bv:=aA ba;have bw:=aA am.o.h;clear a6 a9 ao bb a5 s1 ba aa a3 s a4 ab am;go_wp2;go_loopw [6] (fun vi wr=>∃(i:Nat) (ts:List Gm.Tm) (rs:List Gm.Rl),i<=ps.length/\vi=.int .i64 i/\Hid (Gm.prods ns ts rs (ps.drop i)=.ok (tz,rz))/\Hid (Wk wr n wr.heap.size R ts ns rs S.lv)/\Hid (Gm.Fit ⟨ts,ns,rs,0⟩)/\Hid (ts.length<=24)/\Hid (rs.length<=40)/\Hid (Below n wb wr)/\Hid (KpA wb wr)) (fun vi _=>ps.length-(intOf vi).toNat)
 case atStart=>exact⟨0,S.ts,[],AU _,rfl,H3,bq,br,bw,aA (by simp),bs,bu⟩
 case round =>
  obtain⟨i,ts,rs,hi,rfl,HE,HW,HF,HT,bc,af,ap⟩:=hrel;have ag:=aA (ap.o _ _ _ aj.o (by decide) (by decide) (by decide) (by decide));have s1:=aU ag.o;have aa:=(Ad.1 ag.o).1;obtain⟨vTr,vNr,vRr,aq⟩:=HW.o;have f10:=(aq.at 10).1;have bx:=aq.lt;simp only[wC,Aw,Ah,Aj]at f10;clear aq;have b9:=af.o.size;have ca:=HZ.o.pl;have ar:n<=wr.heap.size:=by have:=q.o;omega
  by_cases z:i<ps.length
  ·have bz:=aA ((ai.o.keep u.o).keep af.o);obtain⟨g,o,rfl,cb,hc⟩:=bz.o (by omega);obtain⟨k0,k1,⟨A',c',k2,bd⟩,k3,k4⟩:=hc i z;have cc:g<wr.heap.size:=by have:=q.o;omega
   have hE:=HE.o;rw[zer z]at hE;obtain⟨⟨t2,r2⟩,au,av⟩:=Gm.R.bind_eq hE;simp only at av;have bD:=aA av;obtain⟨z1,z2,z3⟩:=HZ.o.r _ (AC z);have HC:=aA (znk L n R ts t2 ns rs r2 S.lv ps[i] A' c' wr HW.o HF.o bd (HZ.o.l _ (AC z)).1 z1 z2 (by have:=q.o;omega) HT.o bv.o bc.o z3 au);have bM:=aA (zhh au bc.o);unfold zcj at HC;clear hc bd hE av au z1 z2 z3;generalize ps[i]=p at *;generalize rfX L p.l=X0 at *;generalize rfY L p.l=Y0 at *;generalize K.str p.l.t=s0 at *;generalize soX L p.p=X1 at *;generalize soY L p.p=Y1 at *;generalize soS p.p=s1 at *;go_wp2_with fail
   refine HC.o.mono ?_;rintro _ w4 ⟨rfl,⟨bf,bg,bh⟩,bi,bj⟩;have H4:=aA (B4 bf (B4 bg (B4 bh (B4 (af.o.trans bi) (ap.o.trans bj)))));clear bf bg bh bi bj HC;go_wp2;go_roundw
   case rel=>exact⟨i+1,t2,r2,z,by go_num,bD,aA H4.o.1,aA H4.o.2.1,aA H4.o.2.2.1,bM,aA H4.o.2.2.2.1,aA H4.o.2.2.2.2⟩
   case measure=>simp[intOf];omega
  ·obtain rfl:i=ps.length:=by omega
   have hE:=HE.o;rw[Et,Gm.prods]at hE;injection hE with hE;injection hE with e1 e2;subst e1;subst e2;have e0:((ps.length:Int)==0)=false:=AY.2 (by have:=bl.o;omega);go_wp2_with fail
   have f7:=fun y:Calm.On wr.heap.size wr=>(show y.1.cell? ⟨R,7,none⟩=some (.bool false) by obtain⟨a,b,c,h⟩:=HW.o.below y.2;exact(h.at 7).1)
   refine CalmN.region_tree (fun x=>∃y:Calm.On wr.heap.size wr,x=y.1) (.one [0,1,2,3,4,5,6,7,8,9,10,11,12,13] 14 (.fin [15,16])) (by kernel_rfl) (by kernel_rfl) (fun _ _ d _ _ h=>by cases d <;> exact h) ⟨⟨wr.drew,aB (AB _ _) 1⟩,rfl⟩ ?_;simp only[CalmN.wpT,CalmN.wpSt,CalmN.pickOps,Aw,Ah,Aj];repeat (go_big_quiet_step (fail))
   refine Aq ?_;intro KK2 ac;rw[AG (by exact(fun h=>absurd (show false=true from h) (by decide)))];refine ac _ _ ⟨⟨wr.drew,aB (AB _ _) 1⟩,rfl⟩ _ (fun _ h=>h) ⟨⟨wr.drew,aB (AB _ _) 1⟩,rfl⟩ ?_;simp only[Act.put,Cw,CJ,CK];repeat (go_big_quiet_step (fail))
   refine Aq ?_;clear f7 s1 aa f10 bx ac;obtain⟨wz,ah⟩:∃x,x=wr.drew:=⟨_,rfl⟩
   rw[<-ah];have A:Below wr.heap.size wr wz:=by rw[ah];exact aB (AB _ _) 1
   have bT:=aA (HW.o.below A);have bk:wz.heap.size=wr.heap.size:=by rw[ah];rfl
   have bX:=aA ((u.o.trans af.o).trans (A.mono ar));have ad:=aA ((A.block _ (Ad.1 ag.o).1).trans ag.o);have aw:=ap.o _ _ _ az.o (by decide) (by decide) (by decide) (by decide);have j:=aA ((A.block _ (Ad.1 aw).1).trans aw);clear ah aw A;have s1:=aU ad.o;have aa:=(Ad.1 ad.o).1;obtain⟨vTz,vNz,vRz,m⟩:=bT.o;obtain⟨⟨AT,cT,rfl⟩,⟨AN,cN,rfl⟩,⟨AR,cR,rfl⟩⟩:=zax m;have bY:=aA m;have b0:=(m.at 0).1;have b1:=(m.at 1).1;have b2:=(m.at 2).1;have b3:=(m.at 3).1;have b7:=(m.at 7).1;have b10:=(m.at 10).1;have cd:=m.lt;simp only[wC,Aw,Ah,Aj]at b0 b1 b2 b3 b7 b10;have g0:=aT j.o;have g1:=aU j.o;have g2:=aZ j.o;have g3:=bG j.o;have f0:=AH wz _ 0 _ _ j.o;have f1:=AH wz _ 1 _ _ j.o;have f2:=AH wz _ 2 _ _ j.o;have f3:=AH wz _ 3 _ _ j.o;have ce:=(Ad.1 j.o).1;have bZ:Hid (Off9 wz wz.heap.size (some (n+1))):=aA ⟨fun g e=>by injection e with e;subst e;exact⟨_,_,j.o,by decide,by decide,by decide,.inl ⟨by decide,by decide⟩⟩⟩;have b6:=aA (fun u0 u1 u2 u3=>(bY.o.more (N':=wz.heap.size) (by rw[bk];exact Af _)).grown (aF (aF (aF (aF (AM wz (some (n+1))) 0 u0) 1 u1) 2 u2) 3 u3) bZ.o);clear m bk;go_wp2;refine Cj (v:=.tuple #[.agg #[.slice AT ts.length cT,.slice AN ns.length cN,.slice AR rs.length cR,.int .i64 0],.complex .f64 0 0,.int .i64 0]) (by simp[results,Tryz.results44,go_sem,g0,g1,g2,g3]) rfl ?_;rw[HG.o];refine⟨⟨_,rfl,⟨_,_,_,_,_,_,_,rfl,b6.o _ _ _ _,by simp⟩,HF.o⟩,?_⟩;rw[<-bo.o];exact(((bX.o.setCell (by simp only;omega) _).setCell (by simp only;omega) _).setCell (by simp only;omega) _).setCell (by simp only;omega) _
theorem zfA {rest:List Oper} {o:Oper} {a:Act} {Q:Exit->Act->World->Prop} (af:o.guard=none) (s x:Operand) (t:TypeId) (ho:o.op=.call {callee:=.builtin .append,args:=#[s,x],argTypes:=#[t,t]}) (ht:Tryz.prog.underlying t=some (.slice 81)) (base:Nat) (v:Value) (xs:List Gm.Tm) (hs:a.eval s=v) (aa:bE w base v xs) (B m c:Nat) (A:Option Addr) (zs:List Gm.Tm) (hx:a.eval x=.slice A m c) (hm:m=zs.length) (hr:zeP w B A zs) (aj:xs.length+zs.length<=1000000) (ab:base<=w.heap.size) (hK:∀v' w',bE w' base v' (xs++zs)->w.grownBy w' v.ownBlock->wpList Tryz.prog ops Q rest (a.put o.dst v') w') :
  wpList Tryz.prog ops Q (o::rest) a w:=by
 obtain⟨i,hi,ak,al,am⟩:=Cv zjR;subst hm;rcases A with _|ad
 ·have hz:zs=[]:=by
   rcases Dj zs.length with h0|h0
   ·exact BC h0
   ·obtain⟨g,o',h,_⟩:=hr (by omega);cases h
  subst hz;have ac:=zal (P:=Tryz.prog) w base t o.type 81 i 3 ht hi v xs.length _ aa c;refine wpList_plain af fun K ao=>?_;unfold Oper.wp;simp[execOp,ho,resolve,invoke,builtin,hs,hx,ac,Result.andThen];exact ao _ _ (hK v w (by simpa using aa) (AM _ _))
 ·refine De w af s x t ho base 81 i _ 3 32 ht hi ak al am rfl (by decide) v xs.length (zjF xs) hs aa ad zs.length c (zjF zs) hx (zdA tmC (fun _=>rfl) zs) ?_ ?_ (by unfold maxLen;omega) (by omega) ab fun v' w' h1 h2 _=>hK v' w' ?_ h2
  ·intro j u hj;have ap:j<zs.length*3:=by have:=(AZ.1 hj).1;rw[<-zdA tmC (fun _=>rfl) zs];exact this
   obtain⟨g,o',h,_,hc⟩:=hr (by omega)
   replace h:=Ec h
   subst h;have e:((⟨g,o',none⟩:Addr).add j)=⟨g,o'+j,none⟩:=by unfold Addr.add;by_cases h0:j=0 <;> simp[h0]
   rw[e];have ag:j / 3<zs.length:=by omega
   have ah:j % 3<3:=Nat.mod_lt _ (by decide);have ai:j=j / 3*3+j % 3:=by omega
   have hk:=zc7 tmC (fun _=>rfl) zs (j / 3) (j % 3) ag ah;rw[<-ai]at hk;have ae:(tmC zs[j / 3])[j % 3]?=some u:=hk.symm.trans hj;obtain⟨k0,k1,k2⟩:=hc (j / 3) ag;rw[ai];generalize j % 3=q at *
   match q,ah with
   | 0,_=>rw[Ea,k0];exact ae
   | 1,_=>rw[<-Nat.add_assoc,k1];exact ae
   | 2,_=>rw[<-Nat.add_assoc,k2];exact ae
  ·intro u hu;unfold zjF at hu;obtain⟨y,_,hy⟩:=CE.1 hu;simp[tmC]at hy;rcases hy with rfl|rfl|rfl <;> rfl
  ·unfold bE zjF;rw[AQ,B9];exact h1
theorem zaV (w:World):bE (w.alloc (.cells #[] 81)) w.heap.size (.slice (some ⟨w.heap.size,0,none⟩) 0 0) []:=by
 have:=World.ownsRow_made (base:=w.heap.size) (e:=81) (size:=3) w #[] 0 (Af _) (by unfold maxLen;omega) rfl
 exact this
section
variable {w0 wr w':World} {n:Nat} {cs:Array Value} {vT vN v:Value} {ts:List Gm.Tm} {ns:List (List Int)} {rs:List Gm.Rl}
end
theorem za9 {e:TypeId} {size:Nat} (h:w.ownsRow base e size v n xs) (hb:base'<=base):w.ownsRow base' e size v n xs:=by
 refine⟨h.1,?_⟩;rcases h.2 with h0|⟨g,cap,cur,e,aa,hr⟩
 ·exact .inl h0
 ·exact .inr ⟨g,cap,cur,e,by omega,hr⟩
structure Gx (w:World) (n:Nat) (vT vN v:Value) (ts:List Gm.Tm) (ns:List (List Int)) (rs:List Gm.Rl):Prop where
 a:∃cs,w.heap[n]?=some (.cells cs 26 (0,0))
 b:∃cs,w.heap[n+1]?=some (.cells cs 26 (0,0))
 t:bE w n vT ts
 nn:bI w n vN ns
 r:a7 w n w.heap.size v rs
theorem Gx.set (h:Gx w n vT vN v ts ns rs) (g j:Nat) (u:Value) (hg:g=n\/g=n+1):Gx (w.setCell ⟨g,j,none⟩ u) n vT vN v ts ns rs:=by
 have hc:∃cs,w.heap[g]?=some (.cells cs 26 (0,0)):=by rcases hg with rfl|rfl;exact h.a;exact h.b
 obtain⟨cs,hc⟩:=hc;have hs:w.grownBy (w.setCell ⟨g,j,none⟩ u) (some g):=aF (AM _ _) j u
 have key:∀m:Nat,(∃cs,w.heap[m]?=some (.cells cs 26 (0,0)))->∃cs,(w.setCell ⟨g,j,none⟩ u).heap[m]?=some (.cells cs 26 (0,0)):=fun m ⟨c2,h2⟩=>by
  by_cases e:m=g
  ·subst e;exact⟨_,AW w m j _ _ u h2⟩
  ·exact⟨c2,(AP w ⟨g,j,none⟩ u m (by simp only;omega)).trans h2⟩
 refine⟨key n h.a,key (n+1) h.b,Ba h.t hs (aO h.t hc (fun cur e=>by injection e with _ e;cases e)),Ba h.nn hs (aO h.nn hc (fun cur e=>by injection e with _ e;cases e)),(h.r.grown hs (fun g' e=>?_)).more hs.size⟩;injection e with e;subst e;exact .inl ⟨aP hc (by decide),aP hc (by decide)⟩
theorem Gx.rd (h:Gx w n vT vN v ts ns rs) (z:Int):aR w w.heap.size (.agg #[vT,vN,v,.int .i64 z]) ⟨ts,ns,rs,z⟩:=by
 obtain⟨AT,cT,rfl,h1,h2⟩:=zbn h.t;obtain⟨AN,cN,rfl,h3,h4⟩:=zbW h.nn;obtain⟨AR,cR,rfl,h5,h6⟩:=zbr h.r (Af _);exact⟨AT,cT,AN,cN,AR,cR,rfl,h1,h3,h5,h2,h4,h6⟩
end Go.Proofs.YtcmhaemaophplaaGreat
