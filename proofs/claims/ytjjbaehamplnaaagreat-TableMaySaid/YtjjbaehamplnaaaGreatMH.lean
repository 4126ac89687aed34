/- Part of the proofs over this program: Term9, ShowL, Decl9, Decls9, ShowSrc, CfgName, ShowRule, ShowLev, Lefts9, Sym9, Prj9, Prod9, BldY. -/
import Derived.Maps.AppendAt
import Derived.Test.YtjjbaehamplnaaaGreatMG
set_option linter.all false
namespace Go
def Eo:=@List.setIfInBounds_toArray
def D4:=@List.set_cons_zero
end Go
set_option maxRecDepth 100000
set_option maxHeartbeats 40000000
variable {B N base base' i:Nat} {cs:Array Go.Value} {lv z:Int} {ns ns' ws:List (List Int)} {rs:List Go.Proofs.YtjjbaehamplnaaaGreat.Gm.Rl} {ts ts':List Go.Proofs.YtjjbaehamplnaaaGreat.Gm.Tm} {v vN vR vT:Go.Value} {w w' wr:Go.World} {x:Go.Proofs.YtjjbaehamplnaaaGreat.Tok}
namespace Go.Proofs.YtjjbaehamplnaaaGreat
open Go.RowKit
theorem zh5 (s:ByteArray) (w:World):(Instr.build 85 #[(0,.string s)]).run Tryz.prog w=.ok (.agg #[.string s,.int .i64 0,.int .i64 0]) w:=D6 w 85 _ _ (by kernel_rfl)
theorem zk7 {o:Oper} {a:Act} {KK:Act->World->Prop} {Q:Exit->Act->World->Prop} (s x:Operand) (t:TypeId) (ho:o.op=.call {callee:=.builtin .append,args:=#[s,x],argTypes:=#[t,t]}) (ht:Tryz.prog.underlying t=some (.slice 85)) (base:Nat) (v:Value) (ts:List Gm.Tm) (hs:a.eval s=v) (ab:aX w base v ts) (g c:Nat) (y:Gm.Tm) (hx:a.eval x=.slice (some ⟨g,0,none⟩) 1 c) (hz:∀j,w.cell? ⟨g,j,none⟩=(tmC y)[j]?) (ac:ts.length<=1000000) (aa:base<=w.heap.size) (hK:∀v' w',aX w' base v' (ts++[y])->w.grownBy w' v.ownBlock->KK (a.put o.dst v') w') :
  o.wp Tryz.prog a w KK Q:=by
 obtain⟨i,hi,ad,ae,af⟩:=CD zjM;refine D5 w s x t ho base 85 i _ 3 32 ht hi ad ae af rfl (by decide) v ts.length (zd8 ts) hs ab ⟨g,0,none⟩ 1 c (tmC y) hx rfl ?_ ?_ (by unfold maxLen;omega) (by omega) aa fun v' w' h1 h2 _=>hK v' w' ?_ h2
 ·intro j u hj;rw[zd1,Bu];exact(hz j).trans hj
 ·intro u hu;simp[tmC]at hu;rcases hu with rfl|rfl|rfl <;> rfl
 ·unfold aX zd8;rw[AU,BX,Cc];exact h1
theorem zdi (L:List Int) (B N R:Nat) (ts ts':List Gm.Tm) (ns:List (List Int)) (rs:List Gm.Rl) (lv n:Int) (x:Tok) (w:World) (hw:Wk w B N R ts ns rs lv) (hf:Gm.Fit ⟨ts,ns,rs,0⟩) (hx:K.Tx x.t) (hN:N<=w.heap.size) (hB:B<=w.heap.size) (hp:Gm.put ts x=.ok (ts',n)) (ac:ts.length<=24) :
  Calls Tryz.prog 173 #[.pointer (some ⟨R,0,none⟩),bW L x] w fun e w'=>e=.returned (.int .i64 n)/\Wk w' B N R ts' ns rs lv/\Below B w w'/\KpT w w':=by
 have HW:=aA hw;obtain⟨vT,vN,vR,h⟩:=hw;have HH:=aA h;obtain⟨AT,cT,rfl,bb,_⟩:=aL h.t;obtain⟨AN,cN,rfl,_,_⟩:=aL h.n;have ay:∃AR cR,vR=.slice AR rs.length cR:=by obtain⟨qs,_,h2,_⟩:=id h.r;obtain⟨A,c,e,_⟩:=aL h2;exact⟨A,c,e⟩
 obtain⟨AR,cR,rfl⟩:=ay;obtain⟨k0,az,l⟩:=h.at 0;have k1:=(h.at 1).1;have k2:=(h.at 2).1;have k3:=(h.at 3).1;simp only[wC,Am,Af,Ah]at k0 k1 k2 k3;have HX:=aA (Aq w.heap.size w);unfold bW;obtain⟨w1,ad⟩:∃y,y=w.alloc (.cells #[.string (K.str x.t),.complex .f64 (Fl.fl (Pl.pos (L.take x.o)).1) (Fl.fl (Pl.pos (L.take x.o)).2)] 153):=⟨_,rfl⟩
 have i:Hid (Below w.heap.size w w1):=aA (by rw[ad];exact(Aq _ _).alloc (Ad _) _);have ah:Hid (w1.heap[w.heap.size]?=some (.cells #[.string (K.str x.t),.complex .f64 (Fl.fl (Pl.pos (L.take x.o)).1) (Fl.fl (Pl.pos (L.take x.o)).2)] 153 (0,0))):=aA (by rw[ad];exact Az w _);have HT:=aA (fun(y:World) (hb:Below w1.heap.size w1 y)=>zbk (.agg #[.slice AT ts.length cT,.slice AN ns.length cN,.slice AR rs.length cR,.int .i64 0]) ⟨ts,ns,rs,0⟩ x.t w.heap.size y ((h.rd hN 0).below (i.o.trans (hb.mono i.o.size)) (Ad _)) hf hx (Ag i.o.size hb.size));unfold Gm.term at HT;unfold Gm.put at hp;have HP:=aA hp;have HF:=aA hf;clear hp h hf
 go_enter Tryz.func173,Tryz.ntmps173
 go_wp2_with fail
 rw[<-ad];clear ad;have hk:=i.o;have p0:=(hk.cell (p:=⟨R,0,none⟩) l).trans k0;have p1:=(hk.cell (p:=⟨R,1,none⟩) l).trans k1;have p2:=(hk.cell (p:=⟨R,2,none⟩) l).trans k2;have p3:=(hk.cell (p:=⟨R,3,none⟩) l).trans k3;have ae:R<w1.heap.size:=Ao l hk.size;have ap:w.heap.size<w1.heap.size:=(Ac.1 ah.o).1;have t0:=aM ah.o;have Q0:=fun y:Calm.On w1.heap.size w1=>(y.2.cell (p:=⟨R,0,none⟩) ae).trans p0;have Q1:=fun y:Calm.On w1.heap.size w1=>(y.2.cell (p:=⟨R,1,none⟩) ae).trans p1;have Q2:=fun y:Calm.On w1.heap.size w1=>(y.2.cell (p:=⟨R,2,none⟩) ae).trans p2;have Q3:=fun y:Calm.On w1.heap.size w1=>(y.2.cell (p:=⟨R,3,none⟩) ae).trans p3;have Q4:=fun y:Calm.On w1.heap.size w1=>(y.2.cell (p:=⟨w.heap.size,0,none⟩) ap).trans t0;clear hk;refine CalmN.region_tree (fun x=>∃y:Calm.On w1.heap.size w1,x=y.1) (.one [0,1,2,3,4,5] 6 (.fin [7])) (by kernel_rfl) (by kernel_rfl) (fun _ _ d _ _ h=>by cases d <;> exact h) ⟨⟨w1.drew,aB (Aq _ _) 1⟩,rfl⟩ ?_;simp only[CalmN.wpT,CalmN.wpSt,CalmN.pickOps,Am,Af,Ah];repeat (go_big_quiet_step (fail))
 refine Aj ?_;clear Q0 Q1 Q2 Q3 Q4 p0 p1 p2 p3 t0 k0 k1 k2 k3;intro KK f;rw[Ap (by rfl)];go_wp2_with fail
 refine(HT.o w1.drew (aB (Aq _ _) 1)).mono ?_;rintro _ w2 ⟨rfl,aq⟩;have b:Below w1.heap.size w1 w2:=(aB (Aq w1.heap.size w1) 1).trans aq;have a0:=aA b;clear aq;go_wp2_with fail
 refine f _ _ ⟨⟨w2,b⟩,rfl⟩ _ (fun _ h=>h) ⟨⟨w2,b⟩,rfl⟩ ?_;repeat (go_big_quiet_step (fail))
 refine Aj ?_;have g:=aA (i.o.trans (b.mono i.o.size));have j:=aA (HH.o.below g.o);have ai:=aA ((b.block w.heap.size ap).trans ah.o);clear b f;by_cases h0:0<=Gm.find (Gm.names ts) x.t
 ·have HE:Hid (ts=ts'/\Gm.find (Gm.names ts) x.t=n):=aA (by have h:=HP.o;rw[Ap h0]at h;injection h with h;exact⟨congrArg Prod.fst h,congrArg Prod.snd h⟩);rw[HE.o.2]at h0 ⊢;go_wp2;go_ret
  exact⟨rfl,⟨_,_,_,by rw[<-HE.o.1];exact j.o⟩,g.o.mono hB,KpT.below g.o⟩
 ·have HE:Hid (ts++[⟨x.t,0,0⟩]=ts'/\(ts.length:Int)=n/\ts.length≠24):=aA (by
   have h:=HP.o;rw[AB h0]at h;by_cases ac:ts.length=24
   ·rw[Ap ac]at h;cases h
   ·rw[AB ac]at h;injection h with h;exact⟨congrArg Prod.fst h,congrArg Prod.snd h,ac⟩)
  have a1:((ts.length:Int)==24)=false:=AY.2 (by have:=HE.o.2.2;omega);obtain⟨k0,az,bc⟩:=j.o.at 0;simp only[wC,Am,Af]at k0;generalize Gm.find (Gm.names ts) x.t=z at *;go_wp2_with fail
  have aa:=ai;have aj:=aA (g.o.mono hB);have a2:=aA ((j.o.alloc (.cells (tmC ⟨x.t,0,0⟩).toArray 85)).t);have a3:Hid (B<=(w2.alloc (.cells (tmC ⟨x.t,0,0⟩).toArray 85)).drew.heap.size):=aA (by have:=g.o.size;simp;omega);have a4:=aA (zah w2 (tmC ⟨x.t,0,0⟩) 85);have af:Hid ((w2.alloc (.cells (tmC ⟨x.t,0,0⟩).toArray 85)).heap[w.heap.size]?=w2.heap[w.heap.size]?):=aA (((Aq _ w2).alloc (Ad _) _).block _ (Ac.1 ai.o).1);have RB:=fun w=>zh5 (K.str x.t) w;have D8:=fun y:Calm.OnB w.heap.size w2=>aM (y.2.trans ai.o);refine CalmN.region_tree (fun y=>∃z:Calm.OnB w.heap.size w2,y=z.1) (.two [0,1,2,3,4,6,7,8] 5 (.one [] 9 (.one [] 10 (.one [11,12,13] 14 (.fin [])))) 9 (.one [] 5 (.one [] 10 (.one [11,12,13] 14 (.fin []))))) (by kernel_rfl) (by kernel_rfl) (fun _ _ d _ _ h=>by cases d <;> exact h) ⟨⟨w2.drew,rfl⟩,rfl⟩ ?_;simp only[CalmN.wpT,CalmN.wpSt,CalmN.pickOps,Am,Af,Ah];repeat (go_big_quiet_step (fail))
  refine Aj ?_;clear D8;refine⟨?_,?_⟩
  focus
   intro KK f;rw[Ap (by rfl)];go_wp2_with fail
   refine f _ _ ⟨⟨w2.drew,rfl⟩,rfl⟩ _ (fun _ h=>h) ⟨⟨w2.drew,rfl⟩,rfl⟩ ?_
  rotate_left
  focus
   intro KK f;rw[Ap (by rfl)];go_wp2_with fail
   refine f _ _ ⟨⟨(w2.alloc (.cells (tmC ⟨x.t,0,0⟩).toArray 85)).drew,af.o⟩,rfl⟩ _ (fun _ h=>h) ⟨⟨(w2.alloc (.cells (tmC ⟨x.t,0,0⟩).toArray 85)).drew,af.o⟩,rfl⟩ ?_
  all_goals
   refine Aj ?_;intro KK f;try rw[Ap (by rfl)]
   go_wp2_with fail
   refine f _ _ ⟨⟨(w2.alloc (.cells (tmC ⟨x.t,0,0⟩).toArray 85)).drew,af.o⟩,rfl⟩ _ (fun _ h=>h) ⟨⟨(w2.alloc (.cells (tmC ⟨x.t,0,0⟩).toArray 85)).drew,af.o⟩,rfl⟩ ?_;refine Aj ?_;intro KK f;try rw[Ap (by rfl)]
   refine zk7 (w:=(w2.alloc (.cells (tmC ⟨x.t,0,0⟩).toArray 85)).drew) (.tmp 31) (.tmp 35) _ rfl Tryz.underlying22 B (.slice AT ts.length cT) ts rfl a2.o _ 1 ⟨x.t,0,0⟩ rfl a4.o (by omega) a3.o ?_;intro v7 w7 ak ab;have ag:=(zad (w2.alloc (.cells (tmC ⟨x.t,0,0⟩).toArray 85)) _).trans ab;obtain⟨A7,c7,ar,_,_⟩:=aL ak;rw[show(ts++[(⟨x.t,0,0⟩:Gm.Tm)]).length=ts.length+1 by simp]at ar;subst ar;have al:=(j.o.alloc (.cells (tmC ⟨x.t,0,0⟩).toArray 85)).tm_put ak ag;have am:=aA al;obtain⟨k7,a5,bd⟩:=al.at 0;simp only[wC,Am,Af]at k7;have ao:=(KpT.below ((Aq _ w2).alloc (Ad _) (.cells (tmC ⟨x.t,0,0⟩).toArray 85))).trans (KpT.own (j.o.alloc (.cells (tmC ⟨x.t,0,0⟩).toArray 85)).t ag);have a6:=aA ao;have au:Hid (w7.heap[w.heap.size]?=w2.heap[w.heap.size]?):=aA ((ao _ _ _ aa.o (by decide) (by decide)).trans aa.o.symm);have a9:=aA ((aj.o.alloc (Ag hB g.o.size) (.cells (tmC ⟨x.t,0,0⟩).toArray 85)).grown ag (by have:=g.o.size;simp;omega) (fun k e=>(zac j.o.t e).1));clear ak ag ab al ao;go_wp2_with fail
   refine f _ _ ⟨⟨w7,au.o⟩,rfl⟩ _ (fun _ h=>h) ⟨⟨w7,au.o⟩,rfl⟩ ?_;repeat (go_big_quiet_step (fail))
   refine Aj ?_;intro KK f;try rw[Ap (by rfl)]
   go_wp2_with fail
   have av:=aA (am.o.set 0 (.slice A7 (ts.length+1) c7));have aw:=aA (a6.o.trans (KpT.set am.o 0 (.slice A7 (ts.length+1) c7)));have ba:=aA (a9.o.setCell (p:=⟨R,0,none⟩) am.o.hR (.slice A7 (ts.length+1) c7));have ax:Hid ((w7.setCell ⟨R,0,none⟩ (.slice A7 (ts.length+1) c7)).heap[w.heap.size]?=w2.heap[w.heap.size]?):=aA ((aw.o _ _ _ aa.o (by decide) (by decide)).trans aa.o.symm);refine f _ _ ⟨⟨_,ax.o⟩,rfl⟩ _ (fun _ h=>h) ⟨⟨_,ax.o⟩,rfl⟩ ?_;refine Aj ?_;obtain⟨k8,_,bf⟩:=av.o.at 0;simp only[wC,Eo,D4,Am,Af]at k8;clear k7 a5;go_wp2;go_ret
   refine⟨by simp;exact HE.o.2.1,⟨_,_,_,by rw[<-HE.o.1];exact av.o⟩,ba.o,(KpT.below g.o).trans aw.o⟩
namespace Sh
theorem getD_at {α:Type} (l:List α) (j:Nat) (d:α) (h:j<l.length):l.getD j d=l[j]:=by
 rw[Ai,Ar h];rfl
def key (x:Tok):Int×List Int:=(x.k,x.t)
end Sh
theorem Gm.put_lt {n:Int} (h:Gm.put ts x=.ok (ts',n)):∃i:Nat,n=(i:Int)/\i<ts'.length:=by
 unfold Gm.put at h;by_cases h0:0<=Gm.find (Gm.names ts) x.t
 ·rw[Ap h0]at h;injection h with h;have h1:=congrArg Prod.fst h;have h2:=congrArg Prod.snd h;simp only at h1 h2;have h3:=Gm.find_lt (Gm.names ts) x.t;have h4:(Gm.names ts).length=ts.length:=by simp[Gm.names]
  refine⟨n.toNat,by omega,?_⟩;rw[<-h1];omega
 ·rw[AB h0]at h;by_cases aa:ts.length=24
  ·rw[Ap aa]at h;cases h
  ·rw[AB aa]at h;injection h with h;have h1:=congrArg Prod.fst h;have h2:=congrArg Prod.snd h;simp only at h1 h2;refine⟨ts.length,h2.symm,?_⟩;rw[<-h1];simp
theorem zjm (L:List Int) (B N R:Nat) (ts ts':List Gm.Tm) (ns:List (List Int)) (rs:List Gm.Rl) (lv n k:Int) (x:Tok) (w:World) (hw:Wk w B N R ts ns rs lv) (hf:Gm.Fit ⟨ts,ns,rs,0⟩) (hx:K.Tx x.t) (au:Gm.named x.t=true) (hN:N<=w.heap.size) (hB:B<=w.heap.size) (hk:k=4\/k=5) (ac:¬(0<=Gm.find (Gm.names ts) x.t/\0<(ts.map Gm.Tm.lv).getD (Gm.find (Gm.names ts) x.t).toNat 0)) (hp:Gm.put ts x=.ok (ts',n)) (av:ts.length<=24) :
  Calls Tryz.prog 129 #[.pointer (some ⟨R,0,none⟩),.int .i64 k,bW L x] w fun e w'=>e=.returned (.tuple #[])/\Wk w' B N R (ts'.modify n.toNat fun t=>⟨t.nm,lv,k-3⟩) ns rs lv/\Below B w w'/\KpT w w':=by
 have HW:=aA hw;obtain⟨i,hi,aw⟩:=Gm.put_lt hp;subst hi;have ax:=aA (fun(y:World) (h:Wk y B N R ts ns rs lv) (hy:N<=y.heap.size) (hz:B<=y.heap.size)=>zdi L B N R ts ts' ns rs lv i x y h hf hx hy hz hp av);have ao:=aA (fun(y:World)=>za4 x.t hx y);rw[au]at ao;obtain⟨vT,vN,vR,h⟩:=hw;have HH:=aA h;obtain⟨AT,cT,rfl,a9,_⟩:=aL h.t;obtain⟨AN,cN,rfl,_,_⟩:=aL h.n;have ay:∃AR cR,vR=.slice AR rs.length cR:=by obtain⟨qs,_,h2,_⟩:=id h.r;obtain⟨A,c,e,_⟩:=aL h2;exact⟨A,c,e⟩
 obtain⟨AR,cR,rfl⟩:=ay;obtain⟨k0,ba,H⟩:=h.at 0;have k1:=(h.at 1).1;have k2:=(h.at 2).1;have k3:=(h.at 3).1;simp only[wC,Am,Af,Ah]at k0 k1 k2 k3;unfold bW;obtain⟨w1,ad⟩:∃y,y=w.alloc (.cells #[.string (K.str x.t),.complex .f64 (Fl.fl (Pl.pos (L.take x.o)).1) (Fl.fl (Pl.pos (L.take x.o)).2)] 153):=⟨_,rfl⟩
 have D:Hid (Below w.heap.size w w1):=aA (by rw[ad];exact(Aq _ _).alloc (Ad _) _);have ah:Hid (w1.heap[w.heap.size]?=some (.cells #[.string (K.str x.t),.complex .f64 (Fl.fl (Pl.pos (L.take x.o)).1) (Fl.fl (Pl.pos (L.take x.o)).2)] 153 (0,0))):=aA (by rw[ad];exact Az w _);have HT:=aA (fun(y:World) (hb:Below w1.heap.size w1 y)=>zbk (.agg #[.slice AT ts.length cT,.slice AN ns.length cN,.slice AR rs.length cR,.int .i64 0]) ⟨ts,ns,rs,0⟩ x.t w.heap.size y ((h.rd hN 0).below (D.o.trans (hb.mono D.o.size)) (Ad _)) hf hx (Ag D.o.size hb.size));unfold Gm.term at HT;have ae:=aA ac;have E:=aA aw;clear hp hf ac;rcases hk with rfl|rfl
 all_goals
  go_enter Tryz.func129,Tryz.ntmps129
  go_wp2_with fail
  refine(ao.o _).mono ?_;rintro _ _ ⟨rfl,rfl⟩;go_wp2_with fail
  rw[<-ad];clear ad;have hk:=D.o;have p0:=(hk.cell (p:=⟨R,0,none⟩) H).trans k0;have p1:=(hk.cell (p:=⟨R,1,none⟩) H).trans k1;have p2:=(hk.cell (p:=⟨R,2,none⟩) H).trans k2;have p3:=(hk.cell (p:=⟨R,3,none⟩) H).trans k3;have af:R<w1.heap.size:=Ao H hk.size;have ap:w.heap.size<w1.heap.size:=(Ac.1 ah.o).1;have t0:=aM ah.o;have Q0:=fun y:Calm.On w1.heap.size w1=>(y.2.cell (p:=⟨R,0,none⟩) af).trans p0;have Q1:=fun y:Calm.On w1.heap.size w1=>(y.2.cell (p:=⟨R,1,none⟩) af).trans p1;have Q2:=fun y:Calm.On w1.heap.size w1=>(y.2.cell (p:=⟨R,2,none⟩) af).trans p2;have Q3:=fun y:Calm.On w1.heap.size w1=>(y.2.cell (p:=⟨R,3,none⟩) af).trans p3;have Q4:=fun y:Calm.On w1.heap.size w1=>(y.2.cell (p:=⟨w.heap.size,0,none⟩) ap).trans t0;clear hk;refine CalmN.region_tree (fun x=>∃y:Calm.On w1.heap.size w1,x=y.1) (.one [0,1,2,3,4,5] 6 (.fin [7])) (by kernel_rfl) (by kernel_rfl) (fun _ _ d _ _ h=>by cases d <;> exact h) ⟨⟨w1.drew,aB (Aq _ _) 1⟩,rfl⟩ ?_;simp only[CalmN.wpT,CalmN.wpSt,CalmN.pickOps,Am,Af,Ah];repeat (go_big_quiet_step (fail))
  refine Aj ?_;clear Q0 Q1 Q2 Q3 Q4 p0 p1 p2 p3 t0 k0 k1 k2 k3;intro KK u;rw[Ap (by rfl)];go_wp2_with fail
  refine(HT.o w1.drew (aB (Aq _ _) 1)).mono ?_;rintro _ w2 ⟨rfl,aq⟩;have g:Below w1.heap.size w1 w2:=(aB (Aq w1.heap.size w1) 1).trans aq;have az:=aA g;clear aq;go_wp2_with fail
  refine u _ _ ⟨⟨w2,g⟩,rfl⟩ _ (fun _ h=>h) ⟨⟨w2,g⟩,rfl⟩ ?_;repeat (go_big_quiet_step (fail))
  refine Aj ?_;have F:=aA (D.o.trans (g.mono D.o.size));have ag:=aA (HH.o.below F.o);have ar:=aA ((g.block w.heap.size ap).trans ah.o);clear g u;have ab:=F.o.size;obtain⟨m0,mf0,bb⟩:=ag.o.at 0;simp only[wC,Am,Af]at m0;have tr0:=aM ar.o;have tr1:=aR ar.o;have aa:=aA (ax.o w2 ⟨_,_,_,ag.o⟩ (Ag hN ab) (Ag hB ab));unfold bW at aa
 focus
  by_cases h0:0<=Gm.find (Gm.names ts) x.t
  focus
   have v:=Gm.find_lt (Gm.names ts) x.t;obtain⟨j,hj⟩:∃j:Nat,Gm.find (Gm.names ts) x.t=(j:Int):=⟨_,(Br h0).symm⟩
   have I:j<ts.length:=by rw[hj]at v;simp[Gm.names]at v;omega
   obtain⟨gT,cc,e,_,_,kk,_⟩:=zbI ag.o.t j I;injection e with e1 e2 e3;subst e1
   have ac:¬(0<ts[j].lv):=by
    have h:=ae.o;rw[hj]at h;intro q;refine h ⟨by omega,?_⟩;rw[show((j:Int)).toNat=j from rfl,Sh.getD_at _ _ _ (by simpa using I),C3];exact q
   have a0:(0:Int)<=(j:Int):=by omega
   have ai:(j:Int)<(ts.length:Int):=by omega
   have a1:gT<w2.heap.size:=Bd (a:=⟨gT,_,none⟩) kk;rw[hj];clear h0 v hj e2 e3 ae HT;generalize ts[j].lv=lvj at *
  rotate_left
  focus
   have a2:Gm.find (Gm.names ts) x.t<0:=by omega
   generalize Gm.find (Gm.names ts) x.t=z at *
  all_goals
   go_wp2_with fail
   refine aa.o.mono ?_;rintro _ w3 ⟨rfl,aj,J,M⟩;obtain⟨vT3,vN3,vR3,h3⟩:=aj;have l:=aA h3;have O:=aA ((F.o.mono hB).trans J);have ak:=aA ((KpT.below F.o).trans M);obtain⟨g3,cc3,rfl,_,s1,s2,sf,a3,a4,cur3,f⟩:=zbI h3.t i E.o;have U:=aA f;obtain⟨n0,_,a5⟩:=h3.at 0;have n8:=(h3.at 8).1;have n10:=(h3.at 10).1;simp only[wC,Am,Af,Ah]at n0 n8 n10;have f1:=sf (i*3+1);have f2:=sf (i*3+2);have a6:(0:Int)<=(i:Int):=by omega
   have al:(i:Int)<(ts'.length:Int):=by have:=E.o;omega
   clear h3 J M f sf;go_wp2_with fail
   have N0:=fun y:Calm.OnB R w3=>aM (y.2.trans l.o.b);have N8:=fun y:Calm.OnB R w3=>(show y.1.cell? ⟨R,8,none⟩=some (.int .i64 lv) by rw[Aw y.1 _ 8 _ _ _ (y.2.trans l.o.b)];rfl)
   refine CalmN.region_tree (fun y=>∃z:Calm.OnB R w3,y=z.1) (.one [0,1,2,3,4,5,6,7,8,9,10,11,12,13,14,15,16,17,18,19,20] 21 (.one [22,23] 24 (.fin []))) (by kernel_rfl) (by kernel_rfl) (fun _ _ d _ _ h=>by cases d <;> exact h) ⟨⟨w3.drew,rfl⟩,rfl⟩ ?_;simp only[CalmN.wpT,CalmN.wpSt,CalmN.pickOps,Am,Af,Ah];repeat (go_big_quiet_step (fail))
   refine Aj ?_;clear N0 N8;have m:R≠g3:=fun e=>by have hb:=l.o.b;have s:=U.o;rw[e]at hb;rw[hb]at s;injection s with q;injection q with _ q;exact absurd q (by decide)
   have C:Hid ((w3.setCell ⟨g3,i*3+1,none⟩ (.int .i64 lv)).heap[R]?=w3.heap[R]?):=aA (AH w3 ⟨g3,i*3+1,none⟩ (.int .i64 lv) R (by simp only;exact m));have V:Hid (((w3.setCell ⟨g3,i*3+1,none⟩ (.int .i64 lv)).setCell ⟨g3,i*3+2,none⟩ (.int .i64 1)).heap[R]?=w3.heap[R]?):=aA ((AH _ ⟨g3,i*3+2,none⟩ (.int .i64 1) R (by simp only;exact m)).trans C.o);intro KK u;try rw[Ap (by rfl)]
   go_wp2_with fail
   refine u _ _ ⟨⟨World.drew (w3.setCell ⟨g3,i*3+1,none⟩ (.int .i64 lv)),C.o⟩,rfl⟩ _ (fun _ h=>h) ⟨⟨World.drew (w3.setCell ⟨g3,i*3+1,none⟩ (.int .i64 lv)),C.o⟩,rfl⟩ ?_;repeat (go_big_quiet_step (fail))
   refine Aj ?_;intro KK u;try rw[Ap (by rfl)]
   go_wp2_with fail
   refine u _ _ ⟨⟨World.drew ((w3.setCell ⟨g3,i*3+1,none⟩ (.int .i64 lv)).setCell ⟨g3,i*3+2,none⟩ (.int .i64 1)),V.o⟩,rfl⟩ _ (fun _ h=>h) ⟨⟨World.drew ((w3.setCell ⟨g3,i*3+1,none⟩ (.int .i64 lv)).setCell ⟨g3,i*3+2,none⟩ (.int .i64 1)),V.o⟩,rfl⟩ ?_;refine Aj ?_;go_wp2;go_end0
   have ho:=l.o.t;have u1:=Dk ho (i*3+1) (.int .i64 lv);have u2:=Dk u1.1 (i*3+2) (.int .i64 1);have hg:w3.grownBy ((w3.setCell ⟨g3,i*3+1,none⟩ (.int .i64 lv)).setCell ⟨g3,i*3+2,none⟩ (.int .i64 1)).drew (some g3):=(aF (aF (AI _ _) _ _) _ _).trans (zad _ _)
   have am:aX ((w3.setCell ⟨g3,i*3+1,none⟩ (.int .i64 lv)).setCell ⟨g3,i*3+2,none⟩ (.int .i64 1)) B (.slice (some ⟨g3,0,none⟩) ts'.length cc3) (ts'.modify i fun t=>⟨t.nm,lv,1⟩):=by
    unfold aX;rw[EC,<-zgs ts' i E.o];exact u2.1
   exact⟨rfl,⟨_,_,_,l.o.tm_put am hg⟩,O.o.grown hg (Ag hB O.o.size) (fun k e=>by injection e with e;omega),ak.o.trans (KpT.cells hg U.o (.inr rfl))⟩
 focus
  by_cases h0:0<=Gm.find (Gm.names ts) x.t
  focus
   have v:=Gm.find_lt (Gm.names ts) x.t;obtain⟨j,hj⟩:∃j:Nat,Gm.find (Gm.names ts) x.t=(j:Int):=⟨_,(Br h0).symm⟩
   have I:j<ts.length:=by rw[hj]at v;simp[Gm.names]at v;omega
   obtain⟨gT,cc,e,_,_,kk,_⟩:=zbI ag.o.t j I;injection e with e1 e2 e3;subst e1
   have ac:¬(0<ts[j].lv):=by
    have h:=ae.o;rw[hj]at h;intro q;refine h ⟨by omega,?_⟩;rw[show((j:Int)).toNat=j from rfl,Sh.getD_at _ _ _ (by simpa using I),C3];exact q
   have a0:(0:Int)<=(j:Int):=by omega
   have ai:(j:Int)<(ts.length:Int):=by omega
   have a1:gT<w2.heap.size:=Bd (a:=⟨gT,_,none⟩) kk;rw[hj];clear h0 v hj e2 e3 ae HT;generalize ts[j].lv=lvj at *
  rotate_left
  focus
   have a2:Gm.find (Gm.names ts) x.t<0:=by omega
   generalize Gm.find (Gm.names ts) x.t=z at *
  all_goals
   go_wp2_with fail
   refine aa.o.mono ?_;rintro _ w3 ⟨rfl,aj,J,M⟩;obtain⟨vT3,vN3,vR3,h3⟩:=aj;have l:=aA h3;have O:=aA ((F.o.mono hB).trans J);have ak:=aA ((KpT.below F.o).trans M);obtain⟨g3,cc3,rfl,_,s1,s2,sf,a3,a4,cur3,f⟩:=zbI h3.t i E.o;have U:=aA f;obtain⟨n0,_,a5⟩:=h3.at 0;have n8:=(h3.at 8).1;have n10:=(h3.at 10).1;simp only[wC,Am,Af,Ah]at n0 n8 n10;have f1:=sf (i*3+1);have f2:=sf (i*3+2);have a6:(0:Int)<=(i:Int):=by omega
   have al:(i:Int)<(ts'.length:Int):=by have:=E.o;omega
   clear h3 J M f sf;go_wp2_with fail
   have N0:=fun y:Calm.OnB R w3=>aM (y.2.trans l.o.b);have N8:=fun y:Calm.OnB R w3=>(show y.1.cell? ⟨R,8,none⟩=some (.int .i64 lv) by rw[Aw y.1 _ 8 _ _ _ (y.2.trans l.o.b)];rfl)
   refine CalmN.region_tree (fun y=>∃z:Calm.OnB R w3,y=z.1) (.one [0,1,2,3,4,5,6,7,8,9,10,11,12,13,14,15,16,17,18,19,20] 21 (.one [22,23] 24 (.fin []))) (by kernel_rfl) (by kernel_rfl) (fun _ _ d _ _ h=>by cases d <;> exact h) ⟨⟨w3.drew,rfl⟩,rfl⟩ ?_;simp only[CalmN.wpT,CalmN.wpSt,CalmN.pickOps,Am,Af,Ah];repeat (go_big_quiet_step (fail))
   refine Aj ?_;clear N0 N8;have m:R≠g3:=fun e=>by have hb:=l.o.b;have s:=U.o;rw[e]at hb;rw[hb]at s;injection s with q;injection q with _ q;exact absurd q (by decide)
   have C:Hid ((w3.setCell ⟨g3,i*3+1,none⟩ (.int .i64 lv)).heap[R]?=w3.heap[R]?):=aA (AH w3 ⟨g3,i*3+1,none⟩ (.int .i64 lv) R (by simp only;exact m));have V:Hid (((w3.setCell ⟨g3,i*3+1,none⟩ (.int .i64 lv)).setCell ⟨g3,i*3+2,none⟩ (.int .i64 2)).heap[R]?=w3.heap[R]?):=aA ((AH _ ⟨g3,i*3+2,none⟩ (.int .i64 2) R (by simp only;exact m)).trans C.o);intro KK u;try rw[Ap (by rfl)]
   go_wp2_with fail
   refine u _ _ ⟨⟨World.drew (w3.setCell ⟨g3,i*3+1,none⟩ (.int .i64 lv)),C.o⟩,rfl⟩ _ (fun _ h=>h) ⟨⟨World.drew (w3.setCell ⟨g3,i*3+1,none⟩ (.int .i64 lv)),C.o⟩,rfl⟩ ?_;repeat (go_big_quiet_step (fail))
   refine Aj ?_;intro KK u;try rw[Ap (by rfl)]
   go_wp2_with fail
   refine u _ _ ⟨⟨World.drew ((w3.setCell ⟨g3,i*3+1,none⟩ (.int .i64 lv)).setCell ⟨g3,i*3+2,none⟩ (.int .i64 2)),V.o⟩,rfl⟩ _ (fun _ h=>h) ⟨⟨World.drew ((w3.setCell ⟨g3,i*3+1,none⟩ (.int .i64 lv)).setCell ⟨g3,i*3+2,none⟩ (.int .i64 2)),V.o⟩,rfl⟩ ?_;refine Aj ?_;go_wp2;go_end0
   have ho:=l.o.t;have u1:=Dk ho (i*3+1) (.int .i64 lv);have u2:=Dk u1.1 (i*3+2) (.int .i64 2);have hg:w3.grownBy ((w3.setCell ⟨g3,i*3+1,none⟩ (.int .i64 lv)).setCell ⟨g3,i*3+2,none⟩ (.int .i64 2)).drew (some g3):=(aF (aF (AI _ _) _ _) _ _).trans (zad _ _)
   have am:aX ((w3.setCell ⟨g3,i*3+1,none⟩ (.int .i64 lv)).setCell ⟨g3,i*3+2,none⟩ (.int .i64 2)) B (.slice (some ⟨g3,0,none⟩) ts'.length cc3) (ts'.modify i fun t=>⟨t.nm,lv,2⟩):=by
    unfold aX;rw[EC,<-zgs ts' i E.o];exact u2.1
   exact⟨rfl,⟨_,_,_,l.o.tm_put am hg⟩,O.o.grown hg (Ag hB O.o.size) (fun k e=>by injection e with e;omega),ak.o.trans (KpT.cells hg U.o (.inr rfl))⟩
def On9 (B D:Nat) (w:World):Type:={x:World // Below B w x/\x.heap[D]?=w.heap[D]?}
instance (B D:Nat) (w:World):Nonempty (On9 B D w):=⟨⟨w,Aq _ _,rfl⟩⟩
structure J9 (s:Gm.S1) (ns:List (List Int)) (rs:List Gm.Rl):Prop where
 f:Gm.Fit ⟨s.ts,ns,rs,0⟩
 h:s.ts.length<=24
 v:0<=s.lv
theorem Fit.put {n:Int} (h:Gm.Fit ⟨ts,ns,rs,z⟩) (hx:K.Tx x.t) (hp:Gm.put ts x=.ok (ts',n)):Gm.Fit ⟨ts',ns,rs,z⟩:=by
 rcases Gm.put_ok hp with⟨j,_,rfl,_⟩|⟨_,rfl,_,_⟩
 ·exact h
 ·refine⟨fun t ht=>?_,h.n,h.r,h.s⟩;rcases Bj.1 ht with h1|h1
  ·exact h.t t h1
  ·simp at h1;subst h1;exact⟨hx,by unfold Gm.In;simp,by unfold Gm.In;simp⟩
theorem zjJ {n:Int} (h:ts.length<=24) (hp:Gm.put ts x=.ok (ts',n)):ts'.length<=24:=by
 rcases Gm.put_ok hp with⟨j,_,rfl,_⟩|⟨_,rfl,_,q⟩
 ·exact h
 ·simp;omega
theorem J9.step {s s':Gm.S1} {k:Int} (h:J9 s ns rs) (hk:k=4\/k=5) (hx:K.Tx x.t) (hv:s.lv<=1000000) (hd:Gm.decl1 k s x=.ok s') :
  J9 s' ns rs/\s'.lv=s.lv/\(¬(0<=Gm.find (Gm.names s.ts) x.t/\0<(s.ts.map Gm.Tm.lv).getD (Gm.find (Gm.names s.ts) x.t).toNat 0))/\∃ts' n,Gm.put s.ts x=.ok (ts',n)/\s'.ts=ts'.modify n.toNat fun t=>⟨t.nm,s.lv,k-3⟩:=by
 unfold Gm.decl1 at hd;rw[AB (by omega),AB (by omega)]at hd;by_cases h0:0<=Gm.find (Gm.names s.ts) x.t/\0<(s.ts.map Gm.Tm.lv).getD (Gm.find (Gm.names s.ts) x.t).toNat 0
 ·rw[Ap h0]at hd;cases hd
 ·rw[AB h0]at hd;obtain⟨⟨ts',n⟩,hp,hd⟩:=Gm.R.bind_eq hd;injection hd with hd;subst hd;have hf:=Fit.put h.f hx hp;refine⟨⟨⟨fun t ht=>?_,h.f.n,h.f.r,h.f.s⟩,?_,h.v⟩,rfl,h0,ts',n,hp,rfl⟩
  ·rcases Gm.mem_modify ht with q|⟨hn,rfl⟩
   ·exact hf.t t q
   ·have:=hf.t _ (Ay hn)
    have aa:=h.v;exact⟨this.1,by unfold Gm.In;simp only;omega,by unfold Gm.In;simp only;omega⟩
  ·show(ts'.modify _ _).length<=24
   rw[EC];exact zjJ h.h hp
theorem zez {k:Int} {s:Gm.S1} {xs:List Tok} (h:i<xs.length):Gm.declN k s (xs.drop i)=(Gm.decl1 k s xs[i]).bind fun s=>Gm.declN k s (xs.drop (i+1)):=by
 rw[Bx h,Gm.declN]
theorem zmG (L:List Int) (B N R:Nat) (ns:List (List Int)) (rs:List Gm.Rl) (ds:List Y.Dcl) (S S2:Gm.S1) (A:Option Addr) (c:Nat) (w:World) (hw:Wk w B N R S.ts ns rs S.lv) (hJ:J9 S ns rs) (hk:zlq ds) (hx:∀d∈ds,(∀x∈d.ns,K.Tx x.t/\Gm.named x.t=true)/\d.ns.length<=1000000) (hr:zli L w B A ds) (hN:N<=w.heap.size) (hB:B<=w.heap.size) (aw:S.lv=0) (br:ds.length<=1000) (hp:Gm.decls S ds=.ok S2) :
  Calls Tryz.prog 86 #[.pointer (some ⟨R,0,none⟩),.slice A ds.length c] w fun e w'=>e=.returned (.tuple #[])/\(Wk w' B N R S2.ts ns rs S2.lv/\J9 S2 ns rs)/\Below B w w'/\KpT w w':=by
 have HR:=aA hr;have bs:=aA hw;have bu:=aA hJ;have HP:=aA hp;have bv:=aA (fun(i:Nat) (hi:i<ds.length)=>BJ (hk _ (Ay hi)) (hx _ (Ay hi)));have bw:=aA aw;clear hr hw hJ hp hk hx aw
 go_enter Tryz.func86,Tryz.ntmps86
 go_wp2;go_loopw [4] (fun vi wr=>∃(i:Nat) (s:Gm.S1),i<=ds.length/\vi=.int .i64 i/\Hid (Gm.decls s (ds.drop i)=.ok S2)/\Hid (J9 s ns rs)/\Hid (s.lv<=i)/\Hid (Wk wr B N R s.ts ns rs s.lv)/\Hid (Below B w wr)/\Hid (KpT w wr)) (fun vi _=>ds.length-(intOf vi).toNat)
 case atStart=>exact⟨0,S,AX _,rfl,HP,bu,aA (by rw[bw.o];omega),bs,aA (Aq _ _),aA (KpT.refl _)⟩
 case round =>
  rename World=>wo;obtain⟨i,s,hi,rfl,HE,HJ,ax,HW,m,ay⟩:=hrel;obtain⟨vT,vN,vR,ae⟩:=HW.o;have ai:=aA ae;have f10:=(ae.at 10).1;obtain⟨f8,fz8,b7⟩:=ae.at 8;simp only[wC,Am,Af,Ah]at f10 f8;clear ae;by_cases af:i<ds.length
  ·obtain⟨g,o,rfl,az,hc⟩:=HR.o (by omega);obtain⟨k0,A',c',k1,a0⟩:=hc i af;have k0:=(m.o.cell (p:=⟨g,o+i*2,none⟩) az).trans k0;have k1:=(m.o.cell (p:=⟨g,o+i*2+1,none⟩) az).trans k1;have b8:=m.o.size;have b9:g<wo.heap.size:=by omega
   have bx:B<=wo.heap.size:=by omega
   obtain⟨u,a1,bz⟩:=bv.o i af;have hE:=HE.o;rw[zgb af]at hE;obtain⟨s1,h1,h2⟩:=Gm.R.bind_eq hE;have bD:=aA h2;have a2:=aA (zfl ds[i].ns h1);have a3:Gm.up ds[i].k s = {s with lv:=s.lv+1}:=by unfold Gm.up;rw[AB (by omega)]
   rw[a3]at h1 a2;have aj:=aA h1;have a4:=aA a0;have a5:=aA (fun(j:Nat) (hj:j<ds[i].ns.length)=>a1 _ (Ay hj));clear hc a0 hE h1 h2 a1 a3;generalize ds[i]=d at *;rcases d with⟨kk,ms⟩
   simp only at u bz a5 a4 aj a2 k0 k1;have ak:s.lv+1<=1000000:=by have:=ax.o;omega
   have bM:=HJ.o.v;have a6:Hid (J9 {s with lv:=s.lv+1} ns rs):=aA ⟨HJ.o.f,HJ.o.h,by show 0<=s.lv+1;omega⟩;have a9:=aA (ai.o.set 8 (.int .i64 (s.lv+1)));have ba:=aA (m.o.setCell (p:=⟨R,8,none⟩) ai.o.hR (.int .i64 (s.lv+1)));have bb:=aA (ay.o.trans (KpT.set ai.o 8 (.int .i64 (s.lv+1))));have al:(wo.setCell ⟨R,8,none⟩ (.int .i64 (s.lv+1))).heap.size=wo.heap.size:=by simp
   generalize bT:wo.setCell ⟨R,8,none⟩ (.int .i64 (s.lv+1))=ws at *;have bc:Hid (Wk (ws.alloc (.cells #[.int .i64 kk,.slice A' ms.length c'] 209)) B N R s.ts ns rs (s.lv+1)):=aA ⟨vT,vN,vR,a9.o.alloc _⟩;have bd:=aA (ba.o.alloc (by rw[al];exact bx) (.cells #[.int .i64 kk,.slice A' ms.length c'] 209));have bf:=aA (bb.o.trans (KpT.below ((Aq ws.heap.size ws).alloc (Ad _) (.cells #[.int .i64 kk,.slice A' ms.length c'] 209))));have bg:Hid ((ws.alloc (.cells #[.int .i64 kk,.slice A' ms.length c'] 209)).heap[wo.heap.size]?=some (.cells #[.int .i64 kk,.slice A' ms.length c'] 209 (0,0))):=aA (by rw[<-al];exact Az ws _);have ca:(kk != 3)=true:=by rcases u with rfl|rfl <;> decide
   have cb:(kk != 7)=true:=by rcases u with rfl|rfl <;> decide
   have bX:¬kk<3:=by omega
   have bZ:¬7<kk:=by omega
   go_wp2_with fail
   go_loopw [7] (fun vj wr=>∃(j:Nat) (t:Gm.S1),j<=ms.length/\vj=.int .i64 j/\Hid (Gm.declN kk t (ms.drop j)=.ok s1)/\Hid (J9 t ns rs)/\Hid (t.lv=s.lv+1)/\Hid (Wk wr B N R t.ts ns rs t.lv)/\Hid (Below B w wr)/\Hid (KpT w wr)/\Hid (wr.heap[wo.heap.size]?=some (.cells #[.int .i64 kk,.slice A' ms.length c'] 209 (0,0)))) (fun vj _=>ms.length-(intOf vj).toNat)
   case atStart=>exact⟨0,_,AX _,rfl,aj,a6,aA rfl,bc,bd,bf,bg⟩
   case round =>
    clear bT al k0 k1 f10 f8 fz8 aj a6 bc bd bf bg a9 ba bb;obtain⟨j,t,hj,rfl,bh,ag,am,ao,b,ab,l⟩:=hrel;obtain⟨vT2,vN2,vR2,ap⟩:=ao.o;have b3:=aA ap;obtain⟨f10,_,cc⟩:=ap.at 10;simp only[wC,Am,Af,Ah]at f10;clear ap;have cd:wo.heap.size<wr.heap.size:=(Ac.1 l.o).1;have b0:=aM l.o;have b1:=aR l.o;by_cases z:j<ms.length
    ·obtain⟨q,r,rfl,ah,aq⟩:=a4.o (by omega);have m0:=(b.o.cell (p:=⟨q,r+j*2,none⟩) ah).trans (aq j z).1;have m1:=(b.o.cell (p:=⟨q,r+j*2+1,none⟩) ah).trans (aq j z).2;have ce:q<wr.heap.size:=by have:=b.o.size;omega
     have hE:=bh.o;rw[zez z]at hE;obtain⟨t1,h1,h2⟩:=Gm.R.bind_eq hE;have b4:=aA h2;obtain⟨ar,bi⟩:=a5.o j z;obtain⟨j1,j2,j3,ts',n,ac,bj⟩:=ag.o.step u ar (by rw[am.o];exact ak) h1;have bk:Hid (J9 t1 ns rs/\t1.lv=s.lv+1):=aA ⟨j1,j2.trans am.o⟩;have au:=b.o.size;have aa:=aA (fun(y:World) (hy:Below wr.heap.size wr y)=>zjm L B N R t.ts ts' ns rs t.lv n kk ms[j] y (ao.o.below hy) ag.o.f ar bi (Ag hN (Ag au hy.size)) (Ag (Ag hB au) hy.size) u j3 ac ag.o.h);rw[<-bj,<-j2]at aa;have ad:=aa;clear aa aq hE h1 h2 j1 j2 j3 ac bj ar bi au;unfold bW at ad;generalize K.str ms[j].t=sx at *;unfold rfX rfY at m1;generalize Fl.fl (Pl.pos (L.take ms[j].o)).1=X at *;generalize Fl.fl (Pl.pos (L.take ms[j].o)).2=Y at *;go_wp2_with fail
     have Q0:=fun y:On9 B wo.heap.size wr=>aM (y.2.2.trans l.o);have Q1:=fun y:On9 B wo.heap.size wr=>aR (y.2.2.trans l.o);have Q2:=fun y:On9 B wo.heap.size wr=>(y.2.1.cell (p:=⟨q,r+j*2,none⟩) ah).trans m0;have Q3:=fun y:On9 B wo.heap.size wr=>(y.2.1.cell (p:=⟨q,r+j*2+1,none⟩) ah).trans m1;refine CalmN.region_tree (fun x=>∃y:On9 B wo.heap.size wr,x=y.1) (.one [0,1,2,3,4,5,6,7] 8 (.fin [])) (by kernel_rfl) (by kernel_rfl) (fun _ _ d _ _ h=>by cases d <;> exact h) ⟨⟨wr.drew,aB (Aq _ _) 1,rfl⟩,rfl⟩ ?_;simp only[CalmN.wpT,CalmN.wpSt,CalmN.pickOps,Am,Af,Ah];repeat (go_big_quiet_step (fail))
     refine Aj ?_;clear Q0 Q1 Q2 Q3;intro KK b5;try rw[Ap (by rfl)]
     go_wp2_with fail
     refine(ad.o wr.drew (aB (Aq _ _) 1)).mono ?_;rintro _ w2 ⟨rfl,bl,bm,bn⟩;have av:=aA ((aB (Aq B wr) 1).trans bm);have bo:Hid (KpT wr w2):=aA bn;have b6:=aA bl;have bp:=aA (bo.o _ _ _ l.o (by decide) (by decide));have bq:Hid (w2.heap[wo.heap.size]?=wr.heap[wo.heap.size]?):=aA (bp.o.trans l.o.symm);clear bl bm bn;go_wp2_with fail
     refine b5 _ _ ⟨⟨w2,av.o,bq.o⟩,rfl⟩ _ (fun _ h=>h) ⟨⟨w2,av.o,bq.o⟩,rfl⟩ ?_;refine Aj ?_;go_wp2;go_roundw
     case rel=>exact⟨j+1,t1,z,by go_num,b4,aA bk.o.1,aA bk.o.2,b6,aA (b.o.trans av.o),aA (ab.o.trans bo.o),bp⟩
     case measure=>simp[intOf];omega
    ·obtain rfl:j=ms.length:=by omega
     have hE:=bh.o;rw[DT,Gm.declN]at hE;injection hE with hE;subst hE;go_wp2_with fail
     go_roundw
     case rel=>exact⟨i+1,t,af,by go_num,bD,ag,aA (by rw[am.o];have:=ax.o;omega),ao,b,ab⟩
     case measure=>simp[intOf];omega
  ·obtain rfl:i=ds.length:=by omega
   have hE:=HE.o;rw[DT,Gm.decls]at hE;injection hE with hE;subst hE;go_wp2;go_end0
   exact⟨rfl,⟨HW.o,HJ.o⟩,m.o,ay.o⟩
namespace Sh
open Y
abbrev DD:=Int×List (List Int)
end Sh
def zmX (rs:List Gm.Rl) (k:Nat):Prop:=∀i (h:i<rs.length),i<k->rs[i].r.length<=20
theorem zf7 (v:Value) (G:Gm.Gr) (B:Nat) (w:World) (hg:aQ w B v G) (hB:B<=w.heap.size) :
  Calls Tryz.prog 9 #[v] w fun e w'=>e=.returned (.bool (Gm.great G))/\Below w.heap.size w w':=by
 have HB:=aA (fun o=>(Aq w.heap.size w).alloc (Ad _) o);obtain⟨AT,cT,AN,cN,AR,cR,rfl,⟨ac,ad⟩,⟨ae,af⟩,⟨ag,ah⟩,_,_,hr⟩:=hg;have HR:=aA hr;clear hr;unfold Gm.great;by_cases h1:40<G.ts.length
 ·rw[AJ h1]
  go_enter Tryz.func9,Tryz.ntmps9
  go_wp2;go_ret
  exact⟨rfl,HB.o _⟩
 by_cases h2:40<G.ns.length
 ·rw[AJ h2];simp only[EG,Ds]
  go_enter Tryz.func9,Tryz.ntmps9
  go_wp2;go_ret
  exact⟨rfl,HB.o _⟩
 by_cases h3:60<G.rs.length
 ·rw[AJ h3];simp only[EG,Ds]
  go_enter Tryz.func9,Tryz.ntmps9
  go_wp2;go_ret
  exact⟨rfl,HB.o _⟩
 rw[AM h1,AM h2,AM h3];simp only[EN];have ab:G.rs.length<=60:=by omega
 go_enter Tryz.func9,Tryz.ntmps9
 go_wp2
 go_loop [3] (fun vi=>∃(k:Nat),k<=G.rs.length/\vi=.int .i64 k/\zmX G.rs k) (fun vi=>G.rs.length-(intOf vi).toNat)
 case atStart=>exact⟨0,AX _,rfl,fun _ _ h=>by omega⟩
 case round =>
  obtain⟨k,hk,rfl,hn⟩:=hrel;have HN:=aA hn;clear hn;by_cases aa:k<G.rs.length
  ·obtain⟨g,o,rfl,ai,hc⟩:=HR.o (by omega);obtain⟨_,⟨A',c',k1,k2,k3,_⟩,_⟩:=hc k aa;have aj:g<w.heap.size:=by omega
   by_cases hx:20<G.rs[k].r.length
   ·have HE:Hid ((G.rs.any fun r=>decide (20<r.r.length))=true):=aA (DS.2 ⟨_,Ay aa,by simpa using hx⟩);generalize G.rs[k].r.length=m at *;clear hc;go_wp2;go_ret
    exact⟨aD HE.o.symm,HB.o _⟩
   ·have HE:Hid (zmX G.rs (k+1)):=aA (fun i hi ak=>by
     rcases Bz i k with q|q
     ·exact HN.o i hi q
     ·obtain rfl:i=k:=by omega
      omega)
    generalize G.rs[k].r.length=m at *;clear hc;go_wp2
    go_round
    case rel=>exact⟨k+1,by omega,by go_num,HE.o⟩
    case measure=>simp[intOf];omega
  ·obtain rfl:k=G.rs.length:=by omega
   have HE:Hid ((G.rs.any fun r=>decide (20<r.r.length))=false):=aA (by
    rw[DI];intro x hx;obtain⟨i,hi,rfl⟩:=BB hx
    have:=HN.o i hi hi
    simp;omega)
   go_wp2;go_ret
   exact⟨aD HE.o.symm,HB.o _⟩
theorem bJ.alloc (h:bJ w base v ws) (o:Obj):bJ (w.alloc o) base v ws:=Db h o
theorem bJ.less (h:bJ w base v ws) (hb:base'<=base):bJ w base' v ws:=by
 refine⟨h.1,?_⟩;rcases h.2 with h0|⟨g,cap,cur,e,aa,hr⟩
 ·exact .inl h0
 ·exact .inr ⟨g,cap,cur,e,by omega,hr⟩
theorem bJ.drewN (h:bJ w base v ws) (n:Nat):bJ (w.drewN n) base v ws:=h
theorem bJ.below (h:bJ w base v ws) (hb:Below w.heap.size w w'):bJ w' base v ws :=
 AZ h (zab hb .none) (by rcases v.ownBlock with _|k;exact .inl rfl;exact .inr (by simp))
theorem bJ.form (h:bJ w base v ws):∃A c,v=.slice A ws.length c/\ws.length<=c/\c<=maxLen:=aL h
namespace Sh
open Gm
end Sh
namespace Sh
open Gm
end Sh
theorem zjw {o:Oper} {a:Act} {KK:Act->World->Prop} {Q:Exit->Act->World->Prop} (s x:Operand) (t:TypeId) (ho:o.op=.call {callee:=.builtin .append,args:=#[s,x],argTypes:=#[t,t]}) (ht:Tryz.prog.underlying t=some (.slice 9)) (base:Nat) (v:Value) (ts:List (List Int)) (hs:a.eval s=v) (ab:bJ w base v ts) (g c:Nat) (y:List Int) (hx:a.eval x=.slice (some ⟨g,0,none⟩) 1 c) (hz:w.cell? ⟨g,0,none⟩=some (.string (K.str y))) (ac:ts.length<=1000000) (aa:base<=w.heap.size) (hK:∀v' w',bJ w' base v' (ts++[y])->w.grownBy w' v.ownBlock->(v'.ownBlock=v.ownBlock\/v'.ownBlock=some w.heap.size)->KK (a.put o.dst v') w') :
  o.wp Tryz.prog a w KK Q:=by
 obtain⟨i,hi,ad,ae,af⟩:=CD zjN
 obtain⟨v',w',hr,h2,h3,h4,h5⟩:=run_append_own_at (P:=Tryz.prog) w base t o.type 9 i (.string ⟨#[]⟩) 1 16 ht hi ad ae af rfl (by decide) v ts.length (zlm ts) ab ⟨g,0,none⟩ 1 c [.string (K.str y)] rfl (by
  intro j u hj;rw[zd1,Bu];rcases j with _|j
  ·simp at hj;rw[<-hj];exact hz
  ·simp at hj) (by intro u hu;simp at hu;rcases hu with rfl;rfl) (by unfold maxLen;omega) (by omega) aa
 unfold Oper.wp execOp;simp only[ho,resolve,invoke,builtin,EF,C8,Result.andThen_ok,List.map_toArray,Bp,CU,hs,hx,hr];refine hK v' w' ?_ h3 h5;unfold bJ zlm;rw[AU,AW];exact h2
theorem zas {R:Nat} (h:WRaw w B N R cs vT vN vR ts ns rs):(∃A c,vT=.slice A ts.length c)/\(∃A c,vN=.slice A ns.length c)/\∃A c,vR=.slice A rs.length c:=by
 obtain⟨qs,_,h2,_⟩:=id h.r;obtain⟨A1,c1,e1,_⟩:=aL h.t;obtain⟨A2,c2,e2,_⟩:=aL h.n;obtain⟨A3,c3,e3,_⟩:=aL h2;exact⟨⟨A1,c1,e1⟩,⟨A2,c2,e2⟩,⟨A3,c3,e3⟩⟩
theorem WRaw.drew9 {R:Nat} (h:WRaw w B N R cs vT vN vR ts ns rs):WRaw w.drew B N R cs vT vN vR ts ns rs:=h.below (aB (Aq _ _) 1)
theorem zcE {R:Nat} {s:List Int} (hf:Gm.Fit ⟨ts,ns,rs,0⟩) (hs:K.Tx s) (h:WRaw w B N R (wC vT vN vR lv) vT vN vR ts ns rs) (hN:N<=w.heap.size) :
  Calls Tryz.prog 109 #[.agg #[vT,vN,vR,.int .i64 0],.string (K.str s)] w fun e w'=>e=.returned (.int .i64 (Gm.find (Gm.names ts) s))/\Below w.heap.size w w' :=
 zbk _ ⟨ts,ns,rs,0⟩ s _ w (h.rd hN 0) hf hs (Ad _)
theorem zb9 {R:Nat} {s:List Int} (hf:Gm.Fit ⟨ts,ns,rs,0⟩) (hs:K.Tx s) (h:WRaw w B N R (wC vT vN vR lv) vT vN vR ts ns rs) (hN:N<=w.heap.size) :
  Calls Tryz.prog 89 #[.agg #[vT,vN,vR,.int .i64 0],.string (K.str s)] w fun e w'=>e=.returned (.int .i64 (Gm.find ns s))/\Below w.heap.size w w' :=
 zeO _ ⟨ts,ns,rs,0⟩ s _ w (h.rd hN 0) hf hs (Ad _)
theorem Fit.left (h:Gm.Fit ⟨ts,ns,rs,0⟩) (hx:K.Tx x.t) (hp:Gm.left1 ts ns x=.ok ns'):Gm.Fit ⟨ts,ns',rs,0⟩:=by
 rcases Gm.left1_ok hp with⟨rfl,_⟩|⟨rfl,_,_,_⟩
 ·exact h
 ·refine⟨h.t,fun y hy=>?_,h.r,h.s⟩;rcases Bj.1 hy with q|q
  ·exact h.n y q
  ·simp at q;subst q;exact hx
theorem zeo (h:Gm.left1 ts ns x=.ok ns'):Gm.find (Gm.names ts) x.t<0/\((0<=Gm.find ns x.t/\ns'=ns)\/(Gm.find ns x.t<0/\ns.length≠16/\ns'=ns++[x.t])):=by
 unfold Gm.left1 at h;split at h
 ·cases h
 ·rename_i h0
  refine⟨by omega,?_⟩;split at h
  ·rename_i h1;injection h with h;exact .inl ⟨h1,h.symm⟩
  ·rename_i h1
   split at h
   ·cases h
   ·rename_i h2;injection h with h;exact .inr ⟨by omega,h2,h.symm⟩
theorem zma (L:List Int) (B N R:Nat) (ts:List Gm.Tm) (rs:List Gm.Rl) (ps:List Y.Prd) (ns0 ns2:List (List Int)) (lv:Int) (A:Option Addr) (c:Nat) (w:World) (hw:Wk w B N R ts ns0 rs lv) (hf:Gm.Fit ⟨ts,ns0,rs,0⟩) (hx:∀p∈ps,K.Tx p.l.t/\T.isName p.l.t=true) (hr:zlh L w B A ps) (hN:N<=w.heap.size) (hB:B<=w.heap.size) (aw:ns0.length<=16) (bc:ps.length<=1000) (hp:Gm.lefts ts ns0 ps=.ok ns2) :
  Calls Tryz.prog 87 #[.pointer (some ⟨R,0,none⟩),.slice A ps.length c] w fun e w'=>e=.returned (.tuple #[])/\(Wk w' B N R ts ns2 rs lv/\Gm.Fit ⟨ts,ns2,rs,0⟩/\ns2.length<=16)/\Below B w w'/\KpA w w':=by
 have SC:=fun a w m X Y=>show(store a (.complex .f64 X Y) m).run Tryz.prog w=stored Tryz.prog w a (.complex .f64 X Y) m from run_store _ w a _ m rfl;have HR:=aA hr;have bd:=aA hw;have bf:=aA hf;have al:=aA aw;have HP:=aA hp;have bg:=aA (fun(i:Nat) (hi:i<ps.length)=>hx _ (Ay hi));clear hr hw hf hp hx aw
 go_enter Tryz.func87,Tryz.ntmps87
 go_wp2;go_loopw [4] (fun vi wr=>∃(i:Nat) (ns:List (List Int)),i<=ps.length/\vi=.int .i64 i/\Hid (Gm.lefts ts ns (ps.drop i)=.ok ns2)/\Hid (Gm.Fit ⟨ts,ns,rs,0⟩)/\Hid (ns.length<=16)/\Hid (Wk wr B N R ts ns rs lv)/\Hid (Below B w wr)/\Hid (KpA w wr)) (fun vi _=>ps.length-(intOf vi).toNat)
 case atStart=>exact⟨0,ns0,AX _,rfl,HP,bf,al,bd,aA (Aq _ _),aA (KpA.refl _)⟩
 case round =>
  obtain⟨i,ns,hi,rfl,HE,HF,ag,HW,H,am⟩:=hrel;obtain⟨vT,vN,vR,ah⟩:=HW.o;obtain⟨⟨AT,cT,rfl⟩,⟨AN,cN,rfl⟩,⟨AR,cR,rfl⟩⟩:=zas ah;have bh:=aA ah;obtain⟨f10,_,bx⟩:=ah.at 10;simp only[wC,Am,Af,Ah]at f10;clear ah;by_cases I:i<ps.length
  ·obtain⟨g,o,rfl,ax,hc⟩:=HR.o (by omega);have k0:=(H.o.cell (p:=⟨g,o+i*5,none⟩) ax).trans (hc i I).1;have k1:=(H.o.cell (p:=⟨g,o+i*5+1,none⟩) ax).trans (hc i I).2.1;have bz:=H.o.size;have bD:g<wr.heap.size:=by omega
   have bi:B<=wr.heap.size:=by omega
   obtain⟨J,ay⟩:=bg.o i I;have hE:=HE.o;rw[zfW I]at hE;obtain⟨ns1,h1,h2⟩:=Gm.R.bind_eq hE;have az:=aA h2;have bj:=aA (Fit.left HF.o J h1);have ao:=aA (zhv h1 ag.o);obtain⟨hz,aa⟩:=zeo h1;have bk:=aA (fun(y:World) (lv':Int) (h:WRaw y B N R (wC (.slice AT ts.length cT) (.slice AN ns.length cN) (.slice AR rs.length cR) lv') (.slice AT ts.length cT) (.slice AN ns.length cN) (.slice AR rs.length cR) ts ns rs) (hy:N<=y.heap.size)=>zcE HF.o J h hy);have bl:=aA (fun(y:World) (lv':Int) (h:WRaw y B N R (wC (.slice AT ts.length cT) (.slice AN ns.length cN) (.slice AR rs.length cR) lv') (.slice AT ts.length cT) (.slice AN ns.length cN) (.slice AR rs.length cR) ts ns rs) (hy:N<=y.heap.size)=>zb9 HF.o J h hy);have a0:=aA (fun(y:World)=>zbY ps[i].l.t J.1 y);rw[ay]at a0;have bm:=aA aa;clear hc hE h1 h2 J ay aa;generalize ps[i].l=x at *;generalize rfX L x=X at *;generalize rfY L x=Y at *;obtain⟨w1,ai⟩:∃y,y=wr.alloc (.cells #[.string (K.str x.t),.complex .f64 X Y] 153):=⟨_,rfl⟩
   have f:Hid (Below wr.heap.size wr w1):=aA (by rw[ai];exact(Aq _ _).alloc (Ad _) _);have ab:Hid (w1.heap[wr.heap.size]?=some (.cells #[.string (K.str x.t),.complex .f64 X Y] 153 (0,0))):=aA (by rw[ai];exact Az wr _);have s:=aA (bh.o.below f.o);have ad:Hid (N<=w1.heap.size):=aA (by have:=f.o.size;omega);generalize a1:K.str x.t=sx at *;have bn:=aA a1;clear a1;go_wp2_with fail
   try rw[<-ai]
   clear ai f10 k0 k1;refine(a0.o _).mono ?_;rintro _ _ ⟨rfl,rfl⟩;go_wp2_with fail
   obtain⟨p0,_,D⟩:=s.o.at 0;have p1:=(s.o.at 1).1;have p2:=(s.o.at 2).1;have p3:=(s.o.at 3).1;simp only[wC,Am,Af,Ah]at p0 p1 p2 p3;have F:wr.heap.size<w1.heap.size:=(Ac.1 ab.o).1;have t0:=aM ab.o;have Q0:=fun y:Calm.On w1.heap.size w1=>(y.2.cell (p:=⟨R,0,none⟩) D).trans p0;have Q1:=fun y:Calm.On w1.heap.size w1=>(y.2.cell (p:=⟨R,1,none⟩) D).trans p1;have Q2:=fun y:Calm.On w1.heap.size w1=>(y.2.cell (p:=⟨R,2,none⟩) D).trans p2;have Q3:=fun y:Calm.On w1.heap.size w1=>(y.2.cell (p:=⟨R,3,none⟩) D).trans p3;have Q4:=fun y:Calm.On w1.heap.size w1=>(y.2.cell (p:=⟨wr.heap.size,0,none⟩) F).trans t0;refine CalmN.region_tree (fun x=>∃y:Calm.On w1.heap.size w1,x=y.1) (.one [0,1,2,3,4,5] 6 (.fin [7,8])) (by kernel_rfl) (by kernel_rfl) (fun _ _ d _ _ h=>by cases d <;> exact h) ⟨⟨w1.drew,aB (Aq _ _) 1⟩,rfl⟩ ?_;simp only[CalmN.wpT,CalmN.wpSt,CalmN.pickOps,Am,Af,Ah];repeat (go_big_quiet_step (fail))
   refine Aj ?_;clear Q0 Q1 Q2 Q3 Q4 p0 p1 p2 p3 t0;intro KK j;rw[Ap (by rfl)];go_wp2_with fail
   refine(bk.o w1.drew _ s.o.drew9 ad.o).mono ?_;rintro _ w2 ⟨rfl,M⟩;have b:Below w1.heap.size w1 w2:=(aB (Aq w1.heap.size w1) 1).trans M;have r:=aA b;have u:=aA (s.o.below b);have ac:=aA ((b.block _ F).trans ab.o);have ae:=aA (Ag ad.o b.size);clear M b;go_wp2_with fail
   refine j _ _ ⟨⟨w2,r.o⟩,rfl⟩ _ (fun _ h=>h) ⟨⟨w2,r.o⟩,rfl⟩ ?_;repeat (go_big_quiet_step (fail))
   refine Aj ?_;clear j F D;have bM:¬(0:Int)<=Gm.find (Gm.names ts) x.t:=by omega
   clear hz;generalize Gm.find (Gm.names ts) x.t=z at *;go_wp2_with fail
   obtain⟨p0,_,D⟩:=u.o.at 0;have p1:=(u.o.at 1).1;have p2:=(u.o.at 2).1;have p3:=(u.o.at 3).1;simp only[wC,Am,Af,Ah]at p0 p1 p2 p3;have F:wr.heap.size<w2.heap.size:=(Ac.1 ac.o).1;have t0:=aM ac.o;have Q0:=fun y:Calm.On w2.heap.size w2=>(y.2.cell (p:=⟨R,0,none⟩) D).trans p0;have Q1:=fun y:Calm.On w2.heap.size w2=>(y.2.cell (p:=⟨R,1,none⟩) D).trans p1;have Q2:=fun y:Calm.On w2.heap.size w2=>(y.2.cell (p:=⟨R,2,none⟩) D).trans p2;have Q3:=fun y:Calm.On w2.heap.size w2=>(y.2.cell (p:=⟨R,3,none⟩) D).trans p3;have Q4:=fun y:Calm.On w2.heap.size w2=>(y.2.cell (p:=⟨wr.heap.size,0,none⟩) F).trans t0;refine CalmN.region_tree (fun x=>∃y:Calm.On w2.heap.size w2,x=y.1) (.one [0,1,2,3,4,5] 6 (.fin [7,8])) (by kernel_rfl) (by kernel_rfl) (fun _ _ d _ _ h=>by cases d <;> exact h) ⟨⟨w2.drew,aB (Aq _ _) 1⟩,rfl⟩ ?_;simp only[CalmN.wpT,CalmN.wpSt,CalmN.pickOps,Am,Af,Ah];repeat (go_big_quiet_step (fail))
   refine Aj ?_;clear Q0 Q1 Q2 Q3 Q4 p0 p1 p2 p3 t0;intro KK j;rw[Ap (by rfl)];go_wp2_with fail
   refine(bl.o w2.drew _ u.o.drew9 ae.o).mono ?_;rintro _ w3 ⟨rfl,M⟩;have b:Below w2.heap.size w2 w3:=(aB (Aq w2.heap.size w2) 1).trans M;have E:=aA b;have v:=aA (u.o.below b);have C:=aA ((b.block _ F).trans ac.o);have bo:=aA (Ag ae.o b.size);clear M b;go_wp2_with fail
   refine j _ _ ⟨⟨w3,E.o⟩,rfl⟩ _ (fun _ h=>h) ⟨⟨w3,E.o⟩,rfl⟩ ?_;repeat (go_big_quiet_step (fail))
   refine Aj ?_;clear j F D;have a2:=aA (KpA.below (((f.o.trans (r.o.mono f.o.size)).trans (E.o.mono (Ag f.o.size r.o.size)))));have ap:=aA (((f.o.trans (r.o.mono f.o.size)).trans (E.o.mono (Ag f.o.size r.o.size))).mono bi);rcases bm.o with⟨h0,e⟩|⟨h0,bp,e⟩
   ·have O:=aA e;clear e;generalize Gm.find ns x.t=z2 at *;go_wp2;go_roundw
    case rel=>exact⟨i+1,ns,I,by go_num,by rw[<-O.o];exact az,HF,ag,aA ⟨_,_,_,v.o⟩,aA (H.o.trans ap.o),aA (am.o.trans a2.o)⟩
    case measure=>simp[intOf];omega
   have O:=aA e;clear e;have bT:¬(0:Int)<=Gm.find ns x.t:=by omega
   generalize Gm.find ns x.t=z2 at *;have a3:((ns.length:Int)==16)=false:=AY.2 (by omega);obtain⟨k1,bX,_⟩:=v.o.at 1;simp only[wC,Am,Af,Ah]at k1;go_wp2_with fail
   have bq:=aA ((v.o.alloc (.cells #[.string sx] 9)).n);have aq:Hid (B<=(w3.alloc (.cells #[.string sx] 9)).drew.heap.size):=aA (by have:=E.o.size;have:=r.o.size;have:=f.o.size;simp;omega);have br:Hid ((w3.alloc (.cells #[.string sx] 9)).drew.cell? ⟨w3.heap.size,0,none⟩=some (.string (K.str x.t))):=aA (by rw[bn.o];exact zah w3 [.string sx] 9 0);have aj:Hid ((w3.alloc (.cells #[.string sx] 9)).heap[wr.heap.size]?=w3.heap[wr.heap.size]?):=aA (((Aq _ w3).alloc (Ad _) _).block _ (Ac.1 C.o).1);have D8:=fun y:Calm.OnB wr.heap.size w3=>aM (y.2.trans C.o);refine CalmN.region_tree (fun y=>∃z:Calm.OnB wr.heap.size w3,y=z.1) (.two [0,1,2,3,4,6,7] 5 (.one [] 8 (.one [] 9 (.one [10,11,12] 13 (.fin [])))) 8 (.one [] 5 (.one [] 9 (.one [10,11,12] 13 (.fin []))))) (by kernel_rfl) (by kernel_rfl) (fun _ _ d _ _ h=>by cases d <;> exact h) ⟨⟨w3.drew,rfl⟩,rfl⟩ ?_;simp only[CalmN.wpT,CalmN.wpSt,CalmN.pickOps,Am,Af,Ah];repeat (go_big_quiet_step (fail))
   refine Aj ?_;clear D8;refine⟨?_,?_⟩
   focus
    intro KK j;rw[Ap (by rfl)];go_wp2_with fail
    refine j _ _ ⟨⟨w3.drew,rfl⟩,rfl⟩ _ (fun _ h=>h) ⟨⟨w3.drew,rfl⟩,rfl⟩ ?_
   rotate_left
   focus
    intro KK j;rw[Ap (by rfl)];go_wp2_with fail
    refine j _ _ ⟨⟨(w3.alloc (.cells #[.string sx] 9)).drew,aj.o⟩,rfl⟩ _ (fun _ h=>h) ⟨⟨(w3.alloc (.cells #[.string sx] 9)).drew,aj.o⟩,rfl⟩ ?_
   all_goals
    refine Aj ?_;intro KK j;try rw[Ap (by rfl)]
    go_wp2_with fail
    refine j _ _ ⟨⟨(w3.alloc (.cells #[.string sx] 9)).drew,aj.o⟩,rfl⟩ _ (fun _ h=>h) ⟨⟨(w3.alloc (.cells #[.string sx] 9)).drew,aj.o⟩,rfl⟩ ?_;refine Aj ?_;intro KK j;try rw[Ap (by rfl)]
    refine zjw (w:=(w3.alloc (.cells #[.string sx] 9)).drew) (.tmp 29) (.tmp 32) _ rfl Tryz.underlying23 B (.slice AN ns.length cN) ns rfl bq.o _ 1 x.t rfl br.o (by have:=ag.o;omega) aq.o ?_;intro v7 w7 ar af _;have ak:=(zad (w3.alloc (.cells #[.string sx] 9)) _).trans af;obtain⟨A7,c7,a4,_,_⟩:=aL ar;rw[show(ns++[x.t]).length=ns.length+1 by simp]at a4;subst a4;have au:=(v.o.alloc (.cells #[.string sx] 9)).n_put ar ak;have av:=aA au;obtain⟨k7,bs,bZ⟩:=au.at 1;simp only[wC,Am,Af,Ah]at k7;have a5:Below w3.heap.size w3 (w3.alloc (.cells #[.string sx] 9)):=(Aq _ w3).alloc (Ad _) (.cells #[.string sx] 9);have a6:=aA ((KpA.below a5).trans (KpA.own (v.o.alloc (.cells #[.string sx] 9)).n ak (.inr (.inl rfl))));have a9:Hid (w7.heap[wr.heap.size]?=w3.heap[wr.heap.size]?):=aA ((a6.o _ _ _ C.o (by decide) (by decide) (by decide) (by decide)).trans C.o.symm);have bu:=aA ((ap.o.alloc (by have:=aq.o;have:=ap.o.size;omega) (.cells #[.string sx] 9)).grown ak (by have:=aq.o;simpa using this) (fun k e=>(zac v.o.n e).1));clear ar ak af au a5;go_wp2_with fail
    refine j _ _ ⟨⟨w7,a9.o⟩,rfl⟩ _ (fun _ h=>h) ⟨⟨w7,a9.o⟩,rfl⟩ ?_;repeat (go_big_quiet_step (fail))
    refine Aj ?_;intro KK j;try rw[Ap (by rfl)]
    go_wp2_with fail
    have bv:=aA (av.o.set 1 (.slice A7 (ns.length+1) c7));have ba:=aA (a6.o.trans (KpT.set av.o 1 (.slice A7 (ns.length+1) c7)).a);have bw:=aA (bu.o.setCell (p:=⟨R,1,none⟩) av.o.hR (.slice A7 (ns.length+1) c7));have bb:Hid ((w7.setCell ⟨R,1,none⟩ (.slice A7 (ns.length+1) c7)).heap[wr.heap.size]?=w3.heap[wr.heap.size]?):=aA ((ba.o _ _ _ C.o (by decide) (by decide) (by decide) (by decide)).trans C.o.symm);refine j _ _ ⟨⟨_,bb.o⟩,rfl⟩ _ (fun _ h=>h) ⟨⟨_,bb.o⟩,rfl⟩ ?_;refine Aj ?_;clear k7 bs;go_wp2;go_roundw
    case rel=>exact⟨i+1,ns++[x.t],I,by go_num,by rw[<-O.o];exact az,by rw[<-O.o];exact bj,by rw[<-O.o];exact ao,aA ⟨_,_,_,bv.o⟩,aA (H.o.trans bw.o),aA ((am.o.trans a2.o).trans ba.o)⟩
    case measure=>simp[intOf];omega
  ·obtain rfl:i=ps.length:=by omega
   have hE:=HE.o;rw[zhu (Ad _)]at hE;injection hE with hE;subst hE;go_wp2;go_end0
   exact⟨rfl,⟨HW.o,HF.o,ag.o⟩,H.o,am.o⟩
theorem zgC {n:Int} (h:Gm.sym ts x=.ok (ts',n)) (he:x.t≠[101,114,114,111,114]):Gm.put ts x=.ok (ts',n)/\(0<=Gm.find (Gm.names ts) x.t\/(Gm.find (Gm.names ts) x.t<0/\T.isLit x.t=true)):=by
 unfold Gm.sym at h;split at h
 ·rename_i q
  refine⟨h,?_⟩;rcases q with q|q|q
  ·exact .inl q
  ·by_cases h0:0<=Gm.find (Gm.names ts) x.t
   ·exact .inl h0
   ·exact .inr ⟨by omega,q⟩
  ·exact absurd q he
 ·cases h
theorem zgB (L:List Int) (B N R:Nat) (ts ts':List Gm.Tm) (ns:List (List Int)) (rs:List Gm.Rl) (lv n:Int) (x:Tok) (may:Bool) (w:World) (hw:Wk w B N R ts ns rs lv) (hf:Gm.Fit ⟨ts,ns,rs,0⟩) (hx:K.Tx x.t) (he:x.t≠[101,114,114,111,114]) (hN:N<=w.heap.size) (hB:B<=w.heap.size) (au:(0<=Gm.find ns x.t/\may=true/\ts'=ts/\n = -1-Gm.find ns x.t)\/(Gm.find ns x.t<0/\Gm.sym ts x=.ok (ts',n))) (a3:ts.length<=24) (bd:ns.length<=16) :
  Calls Tryz.prog 130 #[.pointer (some ⟨R,0,none⟩),bW L x,.bool may] w fun e w'=>e=.returned (.int .i64 n)/\Wk w' B N R ts' ns rs lv/\Below B w w'/\KpT w w':=by
 have HW:=aA hw;obtain⟨vT,vN,vR,l⟩:=HW.o;obtain⟨⟨AT,cT,rfl⟩,⟨AN,cN,rfl⟩,⟨AR,cR,rfl⟩⟩:=zas l;have a4:=aA l;have HF:=aA hf;have HX:=aA hx;have bf:=l.lt;clear l;have a5:=aA (fun(y:World) (lv':Int) (h:WRaw y B N R (wC (.slice AT ts.length cT) (.slice AN ns.length cN) (.slice AR rs.length cR) lv') (.slice AT ts.length cT) (.slice AN ns.length cN) (.slice AR rs.length cR) ts ns rs) (hy:N<=y.heap.size)=>zcE hf hx h hy);have a6:=aA (fun(y:World) (lv':Int) (h:WRaw y B N R (wC (.slice AT ts.length cT) (.slice AN ns.length cN) (.slice AR rs.length cR) lv') (.slice AT ts.length cT) (.slice AN ns.length cN) (.slice AR rs.length cR) ts ns rs) (hy:N<=y.heap.size)=>zb9 hf hx h hy);have av:=aA (fun(y:World)=>zcW x.t hx.1 y);have am:=aA (fun(hp:Gm.put ts x=.ok (ts',n)) (y:World) (h:Wk y B N R ts ns rs lv) (hy:N<=y.heap.size) (hz:B<=y.heap.size)=>zdi L B N R ts ts' ns rs lv n x y h hf hx hy hz hp a3);have aw:=aA (fun h=>zgC (ts:=ts) (ts':=ts') (x:=x) (n:=n) h he);unfold bW at am ⊢;have bg:=hB;generalize Fl.fl (Pl.pos (L.take x.o)).1=X at *;generalize Fl.fl (Pl.pos (L.take x.o)).2=Y at *;obtain⟨w1,aj⟩:∃y,y=w.alloc (.cells #[.string (K.str x.t),.complex .f64 X Y] 153):=⟨_,rfl⟩
 have aa:Hid (Below w.heap.size w w1):=aA (by rw[aj];exact(Aq _ _).alloc (Ad _) _);have ab:Hid (w1.heap[w.heap.size]?=some (.cells #[.string (K.str x.t),.complex .f64 X Y] 153 (0,0))):=aA (by rw[aj];exact Az w _);have i:=aA (a4.o.below aa.o);have ag:Hid (N<=w1.heap.size):=aA (by have:=aa.o.size;omega);generalize K.str x.t=sx at *;have ax:=aA au;clear au hf hx hw
 go_enter Tryz.func130,Tryz.ntmps130
 go_wp2_with fail
 try rw[<-aj]
 clear aj;obtain⟨p0,_,j⟩:=i.o.at 0;have p1:=(i.o.at 1).1;have p2:=(i.o.at 2).1;have p3:=(i.o.at 3).1;simp only[wC,Am,Af,Ah]at p0 p1 p2 p3;have k:w.heap.size<w1.heap.size:=(Ac.1 ab.o).1;have t0:=aM ab.o;have Q0:=fun y:Calm.On w1.heap.size w1=>(y.2.cell (p:=⟨R,0,none⟩) j).trans p0;have Q1:=fun y:Calm.On w1.heap.size w1=>(y.2.cell (p:=⟨R,1,none⟩) j).trans p1;have Q2:=fun y:Calm.On w1.heap.size w1=>(y.2.cell (p:=⟨R,2,none⟩) j).trans p2;have Q3:=fun y:Calm.On w1.heap.size w1=>(y.2.cell (p:=⟨R,3,none⟩) j).trans p3;have Q4:=fun y:Calm.On w1.heap.size w1=>(y.2.cell (p:=⟨w.heap.size,0,none⟩) k).trans t0;refine CalmN.region_tree (fun x=>∃y:Calm.On w1.heap.size w1,x=y.1) (.one [0,1,2,3,4,5] 6 (.fin [7])) (by kernel_rfl) (by kernel_rfl) (fun _ _ d _ _ h=>by cases d <;> exact h) ⟨⟨w1.drew,aB (Aq _ _) 1⟩,rfl⟩ ?_;simp only[CalmN.wpT,CalmN.wpSt,CalmN.pickOps,Am,Af,Ah];repeat (go_big_quiet_step (fail))
 refine Aj ?_;clear Q0 Q1 Q2 Q3 Q4 p0 p1 p2 p3 t0;intro KK ak;rw[Ap (by rfl)];go_wp2_with fail
 refine(a6.o w1.drew _ i.o.drew9 ag.o).mono ?_;rintro _ w2 ⟨rfl,m⟩;have b:Below w1.heap.size w1 w2:=(aB (Aq w1.heap.size w1) 1).trans m;have ac:=aA b;have f:=aA (i.o.below b);have ad:=aA ((b.block _ k).trans ab.o);have ah:=aA (Ag ag.o b.size);clear m b;go_wp2_with fail
 refine ak _ _ ⟨⟨w2,ac.o⟩,rfl⟩ _ (fun _ h=>h) ⟨⟨w2,ac.o⟩,rfl⟩ ?_;repeat (go_big_quiet_step (fail))
 refine Aj ?_;clear ak k j;have al:=aA (aa.o.trans (ac.o.mono aa.o.size));rcases ax.o with⟨h0,h1,h2,h3⟩|⟨h0,ay⟩
 ·subst h1;have az:=aA (BJ h2 h3);clear h2 h3;have bh:=Gm.find_lt ns x.t;generalize Gm.find ns x.t=z at *;have l:wrap64 (-1-z) = -1-z:=by unfold wrap64;omega
  go_wp2;go_ret
  exact⟨by rw[az.o.2];simp,by rw[az.o.1];exact⟨_,_,_,f.o⟩,al.o.mono hB,KpT.below al.o⟩
 ·obtain⟨ai,hc⟩:=aw.o ay;have a9:¬(0:Int)<=Gm.find ns x.t:=by omega
  have ba:=aA (am.o ai);clear ay ai am ax aw;generalize Gm.find ns x.t=z at *;have bi:(decide (0<=z)&&may)=false:=by simp[a9]
  go_wp2_with fail
  obtain⟨p0,_,j⟩:=f.o.at 0;have p1:=(f.o.at 1).1;have p2:=(f.o.at 2).1;have p3:=(f.o.at 3).1;simp only[wC,Am,Af,Ah]at p0 p1 p2 p3;have k:w.heap.size<w2.heap.size:=(Ac.1 ad.o).1;have u0:=aM ad.o;have Q0:=fun y:Calm.On w2.heap.size w2=>(y.2.cell (p:=⟨R,0,none⟩) j).trans p0;have Q1:=fun y:Calm.On w2.heap.size w2=>(y.2.cell (p:=⟨R,1,none⟩) j).trans p1;have Q2:=fun y:Calm.On w2.heap.size w2=>(y.2.cell (p:=⟨R,2,none⟩) j).trans p2;have Q3:=fun y:Calm.On w2.heap.size w2=>(y.2.cell (p:=⟨R,3,none⟩) j).trans p3;have Q4:=fun y:Calm.On w2.heap.size w2=>(y.2.cell (p:=⟨w.heap.size,0,none⟩) k).trans u0;clear u0;refine CalmN.region_tree (fun x=>∃y:Calm.On w2.heap.size w2,x=y.1) (.one [0,1,2,3,4,5] 6 (.one [7,8,9,10] 11 (.fin [12,13,14,15,16,17,18]))) (by kernel_rfl) (by kernel_rfl) (fun _ _ d _ _ h=>by cases d <;> exact h) ⟨⟨w2.drew,aB (Aq _ _) 1⟩,rfl⟩ ?_;simp only[CalmN.wpT,CalmN.wpSt,CalmN.pickOps,Am,Af,Ah];repeat (go_big_quiet_step (fail))
  refine Aj ?_;intro KK ak;rw[Ap (by rfl)];go_wp2_with fail
  refine(a5.o w2.drew _ f.o.drew9 ah.o).mono ?_;rintro _ w3 ⟨rfl,m⟩;have b:Below w2.heap.size w2 w3:=(aB (Aq w2.heap.size w2) 1).trans m;have g:=aA b;have ao:=aA (f.o.below b);have ae:=aA ((b.block _ k).trans ad.o);have ap:=aA (Ag ah.o b.size);clear m b;go_wp2_with fail
  refine ak _ _ ⟨⟨w3,g.o⟩,rfl⟩ _ (fun _ h=>h) ⟨⟨w3,g.o⟩,rfl⟩ ?_;have aq:=aA (al.o.trans (g.o.mono al.o.size));rcases hc with hc|⟨hc,ar⟩
  focus
   have bj:decide (0<=Gm.find (Gm.names ts) x.t)=true:=AJ hc;generalize Gm.find (Gm.names ts) x.t=z2 at *;repeat (go_big_quiet_step (fail))
   refine Aj ?_;intro KK2 af;rw[AB (by exact(fun h=>absurd (show false=true from h) (by decide)))];refine af _ _ ⟨⟨w3,g.o⟩,rfl⟩ _ (fun _ h=>h) ⟨⟨w3,g.o⟩,rfl⟩ ?_;simp only[Act.put,Eo,Dv,D4]
  rotate_left
  focus
   have bk:decide (0<=Gm.find (Gm.names ts) x.t)=false:=AM (by omega);rw[ar]at av;generalize Gm.find (Gm.names ts) x.t=z2 at *;repeat (go_big_quiet_step (fail))
   refine Aj ?_;intro KK2 af;rw[Ap (by rfl)];go_wp2_with fail
   refine(av.o _).mono ?_;rintro _ _ ⟨rfl,rfl⟩;go_wp2_with fail
   refine af _ _ ⟨⟨w3,g.o⟩,rfl⟩ _ (fun _ h=>h) ⟨⟨w3,g.o⟩,rfl⟩ ?_
  all_goals
   repeat (go_big_quiet_step (fail))
   refine Aj ?_;have bb:w.heap.size<w3.heap.size:=(Ac.1 ae.o).1;have t0:=aM ae.o;have t1:=aR ae.o;have HC:=aA (ba.o w3 ⟨_,_,_,ao.o⟩ ap.o (Ag hB aq.o.size));clear Q0 Q1 Q2 Q3 Q4 p0 p1 p2 p3;go_wp2_with fail
   refine HC.o.mono ?_;rintro _ w4 ⟨rfl,a0,a1,a2⟩;have bc:=aA (BJ a0 (BJ ((aq.o.mono hB).trans a1) ((KpT.below aq.o).trans a2)));clear a0 a1 a2 t0 t1;go_wp2;go_ret
   exact⟨rfl,bc.o⟩
theorem KpT.beyond {row:Option Nat} (h:KpT w wr) (hg:wr.grownBy w' row) (hr:∀k,row=some k->w.heap.size<=k):KpT w w':=fun g cs T h1 h2 h3=>by
 have hk:=h g cs T h1 h2 h3;refine(hg.block g (Ac.1 hk).1 (fun e=>?_)).trans hk
 have:=hr g e.symm
 have:=(Ac.1 h1).1
 omega
theorem aS.kpT {xs:List Int} (h:aS w base v xs) (hk:KpT w w'):aS w' base v xs:=by
 refine⟨h.1,?_⟩;rcases h.2 with h0|⟨g,cap,cur,e,hb,hg,hr⟩
 ·exact .inl h0
 ·exact .inr ⟨g,cap,cur,e,hb,hk g cur _ hg (by decide) (by decide),hr⟩
theorem aS.off9 {xs:List Int} (h:aS w N v xs):Off9 w N v.ownBlock:=⟨fun g e=>by
 obtain⟨h1,cur,h2⟩:=zac h e;exact⟨_,_,h2,by decide,by decide,by decide,.inr h1⟩⟩
theorem Wk.grown {w w':World} {B N R:Nat} {ts:List Gm.Tm} {ns:List (List Int)} {rs:List Gm.Rl} {lv:Int} {row:Option Nat} (h:Wk w B N R ts ns rs lv) (hg:w.grownBy w' row) (ho:Off9 w N row):Wk w' B N R ts ns rs lv:=by
 obtain⟨vT,vN,vR,h⟩:=h;exact⟨vT,vN,vR,h.grown hg ho⟩
structure PrJ (w0 wr:World) (B R Q:Nat) (ns:List (List Int)) (rs:List Gm.Rl) (lv:Int) (ts:List Gm.Tm) (PC:Array Value) (lf:Int) (v:Value) (acc:List Int) (p:Int):Prop where
 b:Wk wr B w0.heap.size R ts ns rs lv
 f:Gm.Fit ⟨ts,ns,rs,0⟩
 t:ts.length<=24
 w:Below B w0 wr
 k:KpT w0 wr
 q:w0.heap.size<Q
 pb:wr.heap[w0.heap.size]?=some (.cells PC 161 (0,0))
 qb:wr.heap[Q]?=some (.cells #[.int .i64 lf,v,.int .i64 p] 74 (0,0))
 o:aS wr w0.heap.size v acc
section
variable {w0 wr w':World} {B R Q:Nat} {ns:List (List Int)} {rs:List Gm.Rl} {lv:Int} {ts:List Gm.Tm} {PC:Array Value} {lf p p':Int} {v v':Value} {acc acc':List Int}
theorem PrJ.alloc (h:PrJ w0 wr B R Q ns rs lv ts PC lf v acc p) (o:Obj) (hB:B<=w0.heap.size):PrJ w0 (wr.alloc o) B R Q ns rs lv ts PC lf v acc p :=
 ⟨h.b.alloc o,h.f,h.t,h.w.alloc (Ag hB h.w.size) o,h.k.trans (KpT.below ((Aq _ _).alloc (Ad _) o)),h.q,(BI wr o _ (Ac.1 h.pb).1).trans h.pb,(BI wr o _ (Ac.1 h.qb).1).trans h.qb,h.o.alloc o⟩
theorem PrJ.call (h:PrJ w0 wr B R Q ns rs lv ts PC lf v acc p) (hb:Wk w' B w0.heap.size R ts' ns rs lv) (hw:Below B wr w') (hk:KpT wr w') (hf:Gm.Fit ⟨ts',ns,rs,0⟩) (ht:ts'.length<=24):PrJ w0 w' B R Q ns rs lv ts' PC lf v acc p :=
 ⟨hb,hf,ht,h.w.trans hw,h.k.trans hk,h.q,hk _ _ _ h.pb (by decide) (by decide),hk _ _ _ h.qb (by decide) (by decide),h.o.kpT hk⟩
theorem PrJ.off (hq:w0.heap.size<Q) (qb:wr.heap[Q]?=some (.cells #[.int .i64 lf,v,.int .i64 p] 74 (0,0))):Off9 wr w0.heap.size (some Q):=⟨fun g e=>by
 injection e with e;subst e;exact⟨_,_,qb,by decide,by decide,by decide,.inr (by omega)⟩⟩
theorem PrJ.setQ (h:PrJ w0 wr B R Q ns rs lv ts PC lf v acc p) (j:Nat) (u:Value) (hu:(#[.int .i64 lf,v,.int .i64 p]:Array Value).setIfInBounds j u=#[.int .i64 lf,v',.int .i64 p']) (ho:aS (wr.setCell ⟨Q,j,none⟩ u) w0.heap.size v' acc) (hB:B<=w0.heap.size):PrJ w0 (wr.setCell ⟨Q,j,none⟩ u) B R Q ns rs lv ts PC lf v' acc p':=by
 have hg:wr.grownBy (wr.setCell ⟨Q,j,none⟩ u) (some Q):=aF (AI _ _) j u;have hq:=h.q;refine⟨h.b.grown hg (PrJ.off h.q h.qb),h.f,h.t,h.w.setCell (by simp only;omega) u,h.k.beyond hg (fun k e=>by injection e with e;omega),h.q,(AH wr ⟨Q,j,none⟩ u w0.heap.size (by simp only;omega)).trans h.pb,?_,ho⟩;rw[<-hu];exact AP wr _ j _ _ u h.qb
theorem PrJ.app (h:PrJ w0 wr B R Q ns rs lv ts PC lf v acc p) (ho:aS w' w0.heap.size v' acc') (hg:wr.grownBy w' v.ownBlock) (hB:B<=w0.heap.size) :
  (w'.heap[Q]?=some (.cells #[.int .i64 lf,v,.int .i64 p] 74 (0,0)))/\PrJ w0 (w'.setCell ⟨Q,1,none⟩ v') B R Q ns rs lv ts PC lf v' acc' p:=by
 have ab:=h.b.grown hg h.o.off9;have pb':=zak h.pb h.o (by decide) hg;have qb':=zak h.qb h.o (by decide) hg;have hN:∀k,v.ownBlock=some k->w0.heap.size<=k:=fun k e=>(zac h.o e).1;have ac:=h.w.grown hg (Ag hB h.w.size) (fun k e=>Ag hB (hN k e));have ad:=h.k.beyond hg hN;have hq:=h.q;have aa:w'.grownBy (w'.setCell ⟨Q,1,none⟩ v') (some Q):=aF (AI _ _) 1 v';exact⟨qb',ab.grown aa (PrJ.off h.q qb'),h.f,h.t,ac.setCell (by simp only;omega) v',ad.beyond aa (fun k e=>by injection e with e;omega),h.q,(AH w' ⟨Q,1,none⟩ v' w0.heap.size (by simp only;omega)).trans pb',AP w' _ 1 _ _ v' qb',ho.set_away qb' 1 v'⟩
end
theorem zgD (h:Gm.symR ns ts x=.ok (ts',z)) (hx:K.Tx x.t) (hf:Gm.Fit ⟨ts,ns,rs,0⟩):((0<=Gm.find ns x.t/\true=true/\ts'=ts/\z = -1-Gm.find ns x.t)\/(Gm.find ns x.t<0/\Gm.sym ts x=.ok (ts',z)))/\Gm.Fit ⟨ts',ns,rs,0⟩:=by
 unfold Gm.symR at h;split at h
 ·rename_i h0
  injection h with h;injection h with h1 h2;subst h1;exact⟨.inl ⟨h0,rfl,rfl,h2.symm⟩,hf⟩
 ·rename_i h0
  refine⟨.inr ⟨by omega,h⟩,?_⟩;unfold Gm.sym at h;split at h
  ·exact Fit.put hf hx h
  ·cases h
theorem zgE (h:Gm.symP ns ts x=.ok (ts',z)) (hx:K.Tx x.t) (hf:Gm.Fit ⟨ts,ns,rs,0⟩):((0<=Gm.find ns x.t/\false=true/\ts'=ts/\z = -1-Gm.find ns x.t)\/(Gm.find ns x.t<0/\Gm.sym ts x=.ok (ts',z)))/\Gm.Fit ⟨ts',ns,rs,0⟩:=by
 unfold Gm.symP at h;split at h
 ·cases h
 ·rename_i h0
  refine⟨.inr ⟨by omega,h⟩,?_⟩;unfold Gm.sym at h;split at h
  ·exact Fit.put hf hx h
  ·cases h
end Go.Proofs.YtjjbaehamplnaaaGreat
namespace Go.Proofs.YtjjbaehamplnaaaGreat
open Go.RowKit
theorem zjC (h:Gm.sym ts x=.ok (ts',z)) (aa:ts.length<=24):Gm.In z/\ts'.length<=24:=by
 unfold Gm.sym at h;split at h
 ·refine⟨?_,zjJ aa h⟩;unfold Gm.In;rcases Gm.put_ok h with⟨j,_,_,hj,hl,_⟩|⟨_,_,hj,_⟩ <;> omega
 ·cases h
theorem zkf (h:Gm.symR ns ts x=.ok (ts',z)) (aa:ts.length<=24) (ab:ns.length<=16):Gm.In z/\ts'.length<=24:=by
 unfold Gm.symR at h;split at h
 ·rename_i h0
  injection h with h;injection h with h1 h2
  have:=Gm.find_lt ns x.t
  subst h1;refine⟨?_,aa⟩;unfold Gm.In;omega
 ·exact zjC h aa
theorem zkg (h:Gm.symP ns ts x=.ok (ts',z)) (aa:ts.length<=24):Gm.In z/\ts'.length<=24:=by
 unfold Gm.symP at h;split at h
 ·cases h
 ·exact zjC h aa
theorem Fit.more {r:Gm.Rl} (h:Gm.Fit ⟨ts,ns,rs,0⟩) (hr:Gm.In r.l/\Gm.In r.p/\∀z∈r.r,Gm.In z):Gm.Fit ⟨ts,ns,rs++[r],0⟩:=by
 refine⟨h.t,h.n,fun x hx=>?_,h.s⟩;rcases Bj.1 hx with q|q
 ·exact h.r x q
 ·simp at q;subst q;exact hr
theorem find_in (ns:List (List Int)) (s:List Int) (h:ns.length<=16):Gm.In (Gm.find ns s):=by
 have h1:=Gm.find_lt ns s;have h2:=Gm.find_ge ns s;unfold Gm.In;omega
theorem zb1 {rs':List Gm.Rl} {pr:Y.Prd} (h:Gm.prod1 ns ts rs pr=.ok (ts',rs')):rs.length≠40/\∃tz az pz,Gm.rights ns ts [] (-1) pr.r=.ok (tz,az,pz)/\((pr.p=none/\ts'=tz/\rs'=rs++[⟨Gm.find ns pr.l.t,az,pz⟩]) \/ ∃x z,pr.p=some x/\Gm.symP ns tz x=.ok (ts',z)/\rs'=rs++[⟨Gm.find ns pr.l.t,az,z⟩]):=by
 unfold Gm.prod1 at h;split at h
 ·cases h
 ·rename_i aa
  obtain⟨⟨tz,az,pz⟩,h1,h2⟩:=Gm.R.bind_eq h;refine⟨aa,tz,az,pz,h1,?_⟩;cases hp:pr.p with
  | none =>
   rw[hp]at h2;injection h2 with h2;injection h2 with a b;exact .inl ⟨rfl,a.symm,b.symm⟩
  | some x =>
   rw[hp]at h2;obtain⟨⟨t2,z⟩,h3,h4⟩:=Gm.R.bind_eq h2;injection h4 with h4;injection h4 with a b;simp only at a b;subst a;exact .inr ⟨x,z,rfl,h3,b.symm⟩
theorem zho {s:List Int} (h:Gm.named s=true):(K.str s).toList.isEmpty=false:=by
 have aa:s≠[]:=fun e=>by rw[e]at h;simp[Gm.named,T.isName,T.isLit]at h
 have ab:¬(K.str s).toList=[]:=by rw[K.str_list];intro e;exact aa (by simpa[K.bytes] using e)
 simpa using ab
theorem znv (L:List Int) (B R:Nat) (ts ts':List Gm.Tm) (ns:List (List Int)) (rs rs':List Gm.Rl) (lv:Int) (pr:Y.Prd) (A:Option Addr) (c:Nat) (w:World) (hw:Wk w B w.heap.size R ts ns rs lv) (hf:Gm.Fit ⟨ts,ns,rs,0⟩) (hr:zlg L w B A pr.r) (hx:K.Tx pr.l.t) (bu:∀x∈pr.r,K.Tx x.t/\Gm.named x.t=true/\x.t≠[101,114,114,111,114]) (bv:PrOk pr) (hB:B<=w.heap.size) (bw:ts.length<=24) (bb:ns.length<=16) (cs:rs.length<=40) (cu:pr.r.length<=1000) (hp:Gm.prod1 ns ts rs pr=.ok (ts',rs')) :
  Calls Tryz.prog 88 #[.pointer (some ⟨R,0,none⟩),.agg (zb3 L pr A c)] w fun e w'=>e=.returned (.tuple #[])/\(Wk w' B w'.heap.size R ts' ns rs' lv/\Gm.Fit ⟨ts',ns,rs',0⟩/\ts'.length<=24)/\Below B w w'/\KpA w w':=by
 have SC:=fun a w m X Y=>show(store a (.complex .f64 X Y) m).run Tryz.prog w=stored Tryz.prog w a (.complex .f64 X Y) m from run_store _ w a _ m rfl;obtain⟨cw,tz,az,pz,bx,ac⟩:=zb1 hp;have cc:=aA bx;have ad:=aA ac;have cd:=aA bv;have HR:=aA hr;have ce:=aA (fun(i:Nat) (hi:i<pr.r.length)=>bu _ (Ay hi));have HF:=aA hf;obtain⟨vT,vN,vR,aa⟩:=id hw;obtain⟨⟨AT,cT,rfl⟩,⟨AN,cN,rfl⟩,⟨AR,cR,rfl⟩⟩:=zas aa;have bz:=aA aa;have cx:=aa.lt;have aw:=aA (fun(y:World) (lv':Int) (h:WRaw y B w.heap.size R (wC (.slice AT ts.length cT) (.slice AN ns.length cN) (.slice AR rs.length cR) lv') (.slice AT ts.length cT) (.slice AN ns.length cN) (.slice AR rs.length cR) ts ns rs) (hy:w.heap.size<=y.heap.size)=>zb9 hf hx h hy);obtain⟨lf,bg⟩:∃lf,lf=Gm.find ns pr.l.t:=⟨_,rfl⟩
 have bD:Hid (Gm.In lf):=aA (by rw[bg];exact find_in ns _ bb);rw[<-bg]at aw ad;clear bg;obtain⟨w1,af⟩:∃w1,w1=w.alloc (.cells (zb3 L pr A c) 161):=⟨_,rfl⟩
 have C:Hid (WRaw w1 B w.heap.size R (wC (.slice AT ts.length cT) (.slice AN ns.length cN) (.slice AR rs.length cR) lv) (.slice AT ts.length cT) (.slice AN ns.length cN) (.slice AR rs.length cR) ts ns rs):=aA (by rw[af];exact aa.alloc _);have al:Hid (w1.heap[w.heap.size]?=some (.cells (zb3 L pr A c) 161 (0,0))):=aA (by rw[af];exact Az w _);have bM:w1.heap.size=w.heap.size+1:=by rw[af];simp
 have ag:Hid (Below w.heap.size w w1):=aA (by rw[af];exact(Aq _ w).alloc (Ad _) _);have bT:R<w1.heap.size:=by omega
 have am:w.heap.size<w1.heap.size:=by omega
 have q0:∀y:Calm.On w1.heap.size w1,y.1.cell? ⟨R,0,none⟩=some (.slice AT ts.length cT):=fun y=>((C.o.below y.2).at 0).1;have q1:∀y:Calm.On w1.heap.size w1,y.1.cell? ⟨R,1,none⟩=some (.slice AN ns.length cN):=fun y=>((C.o.below y.2).at 1).1;have q2:∀y:Calm.On w1.heap.size w1,y.1.cell? ⟨R,2,none⟩=some (.slice AR rs.length cR):=fun y=>((C.o.below y.2).at 2).1;have q3:∀y:Calm.On w1.heap.size w1,y.1.cell? ⟨R,3,none⟩=some (.int .i64 0):=fun y=>((C.o.below y.2).at 3).1;have D0:=fun y:Calm.On w1.heap.size w1=>aM ((y.2.block w.heap.size am).trans al.o);have bh:=aA (fun y=>zjq lf y);unfold zb3 at al af ⊢;clear aa hw hf hr hx bu bv hp bx ac;generalize rfX L pr.l=X0 at *;generalize rfY L pr.l=Y0 at *;generalize K.str pr.l.t=s0 at *
 go_enter Tryz.func88,Tryz.ntmps88
 go_upto_region 1 with fail
 rw[<-af];clear af;have bi:=aA (aB (Aq w1.heap.size w1) 1);have bc:=aA (fun o=>(aB (Aq w1.heap.size w1) 1).alloc (Ad _) o);have RB:=bh.o;refine CalmN.region_tree (fun x=>∃y:Calm.On w1.heap.size w1,x=y.1) (.two [0,1,2,3,4,5,6] 7 (.one [8] 9 (.one [] 10 (.fin []))) 9 (.one [] 7 (.one [8] 10 (.fin [])))) (by kernel_rfl) (by kernel_rfl) (fun _ _ d _ _ h=>by cases d <;> exact h) ⟨⟨w1.drew,bi.o⟩,rfl⟩ ?_;simp only[CalmN.wpT,CalmN.wpSt,CalmN.pickOps,Am,Af,Ah];repeat (go_big_quiet_step (fail))
 refine Aj ?_;clear q0 q1 q2 q3 D0;refine⟨?_,?_⟩
 case' refine_1 =>
  intro KK s;rw[Ap (by rfl)];go_wp2_with fail
  refine(aw.o w1.drew _ C.o.drew9 (by show w.heap.size<=w1.heap.size;omega)).mono ?_;rintro _ w2 ⟨rfl,N⟩;have O:=aA ((aB (Aq w1.heap.size w1) 1).trans N);have ao:w1.heap.size<=w2.heap.size:=O.o.size;have U:=aA (fun o=>O.o.alloc ao o);clear N;go_wp2_with fail
  refine s _ _ ⟨⟨w2,O.o⟩,rfl⟩ _ (fun _ h=>h) ⟨⟨w2,O.o⟩,rfl⟩ ?_;repeat (go_big_quiet_step (fail))
  refine Aj ?_;intro KK s;rw[Ap (by rfl)];go_wp2_with fail
  refine s _ _ ⟨⟨_,U.o _⟩,rfl⟩ _ (fun _ h=>h) ⟨⟨_,U.o _⟩,rfl⟩ ?_;refine Aj ?_;intro KK s;rw[Ap (by rfl)];go_wp2_with fail
  refine s _ _ ⟨⟨_,U.o _⟩,rfl⟩ _ (fun _ h=>h) ⟨⟨_,U.o _⟩,rfl⟩ ?_;refine Aj ?_;clear s RB;obtain⟨wq,H⟩:∃x,x=w2.alloc (.cells #[.int .i64 lf,.slice none 0 0,.int .i64 (-1)] 74):=⟨_,rfl⟩
  rw[<-H];obtain⟨Q,hQ⟩:∃x,x=w2.heap.size:=⟨_,rfl⟩
  rw[<-hQ]
  have ax:Hid (PrJ w wq B R Q ns rs lv ts #[.string s0,.complex .f64 X0 Y0,.slice A pr.r.length c,.string (soS pr.p),.complex .f64 (soX L pr.p) (soY L pr.p)] lf (.slice none 0 0) [] (-1)):=aA (by
   have ay:Below w.heap.size w wq:=by rw[H];exact(ag.o.trans (O.o.mono ag.o.size)).alloc (Ag ag.o.size ao) _
   have ap:Below w1.heap.size w1 wq:=by rw[H];exact U.o _
   exact⟨⟨_,_,_,C.o.below ap⟩,HF.o,bw,ay.mono hB,KpT.below ay,by omega,(ap.block w.heap.size am).trans al.o,by rw[H,hQ];exact Az w2 _,zbD _ _⟩)
  clear H hQ O U ao aw C al ag bh bi bc bM bT am bz
 case' refine_2 =>
  intro KK s;rw[Ap (by rfl)];go_wp2_with fail
  refine s _ _ ⟨⟨_,bc.o _⟩,rfl⟩ _ (fun _ h=>h) ⟨⟨_,bc.o _⟩,rfl⟩ ?_;refine Aj ?_;intro KK s;rw[Ap (by rfl)];go_wp2_with fail
  have a0:Hid (Below w1.heap.size w1 (w1.alloc (.cells #[.int .i64 0,.slice none 0 0,.int .i64 0] 74)).drew):=aA (aB ((Aq _ w1).alloc (Ad _) _) 1);refine(aw.o _ _ (C.o.below a0.o) (by have:=a0.o.size;omega)).mono ?_;rintro _ w2 ⟨rfl,N⟩;have O:=aA (a0.o.trans (N.mono a0.o.size));have J:Hid (w2.heap[w1.heap.size]?=some (.cells #[.int .i64 0,.slice none 0 0,.int .i64 0] 74 (0,0))):=aA ((N.block w1.heap.size (by show w1.heap.size<(w1.alloc _).heap.size;simp)).trans (Az w1 _));have ao:w1.heap.size<w2.heap.size:=(Ac.1 J.o).1;clear N;go_wp2_with fail
  refine s _ _ ⟨⟨w2,O.o⟩,rfl⟩ _ (fun _ h=>h) ⟨⟨w2,O.o⟩,rfl⟩ ?_;repeat (go_big_quiet_step (fail))
  refine Aj ?_;intro KK s;rw[Ap (by rfl)];obtain⟨Q,hQ⟩:∃x,x=w.heap.size+1:=⟨_,rfl⟩
  rw[<-hQ];have bX:w1.heap.size=Q:=by omega
  rw[bX]at J O;have U:=aA (fun u0 u1 u2=>((O.o.setCell (p:=⟨Q,0,none⟩) (Ad _) u0).setCell (p:=⟨Q,1,none⟩) (Ad _) u1).setCell (p:=⟨Q,2,none⟩) (Ad _) u2);have aq:Hid (w.heap.size<Q/\w1.heap.size=Q):=aA (by omega);have z0:=AD w2 _ 0 _ _ J.o;have z1:=AD w2 _ 1 _ _ J.o;have z2:=AD w2 _ 2 _ _ J.o;have y0:=aM J.o;have y1:=aR J.o;have y2:=bF J.o;have ao:Q<w2.heap.size:=(Ac.1 J.o).1;clear hQ bX bM am;go_wp2_with fail
  refine s _ _ ⟨⟨_,by rw[aq.o.2];exact U.o _ _ _⟩,rfl⟩ _ (fun _ h=>h) ⟨⟨_,by rw[aq.o.2];exact U.o _ _ _⟩,rfl⟩ ?_;refine Aj ?_;clear s RB;obtain⟨wq,H⟩:∃x,x=((w2.setCell ⟨Q,0,none⟩ (.int .i64 lf)).setCell ⟨Q,1,none⟩ (.slice none 0 0)).setCell ⟨Q,2,none⟩ (.int .i64 (-1)):=⟨_,rfl⟩
  rw[<-H]
  have ax:Hid (PrJ w wq B R Q ns rs lv ts #[.string s0,.complex .f64 X0 Y0,.slice A pr.r.length c,.string (soS pr.p),.complex .f64 (soX L pr.p) (soY L pr.p)] lf (.slice none 0 0) [] (-1)):=aA (by
   have ap:Below w1.heap.size w1 wq:=by rw[H,aq.o.2];exact U.o _ _ _
   have ay:Below w.heap.size w wq:=ag.o.trans (ap.mono ag.o.size);have am:w.heap.size<w1.heap.size:=by have:=aq.o;omega
   exact⟨⟨_,_,_,C.o.below ap⟩,HF.o,bw,ay.mono hB,KpT.below ay,aq.o.1,(ap.block w.heap.size am).trans al.o,by rw[H];exact AP _ _ 2 _ _ _ (AP _ _ 1 _ _ _ (AP _ _ 0 _ _ _ J.o)),zbD _ _⟩)
  clear H O U ao aw C al ag bh bi bc bT bz z0 z1 z2 y0 y1 y2 J aq a0
 all_goals
  have cf:=aA (Ac.1 ax.o.pb).1;obtain⟨vTq,vNq,vRq,H⟩:=ax.o.b;obtain⟨_,_,⟨ARq,cRq,rfl⟩⟩:=zas H;obtain⟨k2,_,cg⟩:=H.at 2;simp only[wC,Am,Af,Ah]at k2;have e40:((rs.length:Int)==40)=false:=AY.2 (by omega);clear H;go_wp2;clear k2 cg e40;go_loopw [5] (fun vi wr=>∃(i:Nat) (tk:List Gm.Tm) (acc:List Int) (p:Int) (v:Value),i<=pr.r.length/\vi=.int .i64 i/\acc.length=i/\Hid (Gm.rights ns tk acc p (pr.r.drop i)=.ok (tz,az,pz))/\Hid ((∀z∈acc,Gm.In z)/\Gm.In p)/\Hid (PrJ w wr B R Q ns rs lv tk #[.string s0,.complex .f64 X0 Y0,.slice A pr.r.length c,.string (soS pr.p),.complex .f64 (soX L pr.p) (soY L pr.p)] lf v acc p)) (fun vi _=>pr.r.length-(intOf vi).toNat)
  case atStart=>exact⟨0,ts,[],-1,.slice none 0 0,AX _,rfl,rfl,cc,aA ⟨by simp,by unfold Gm.In;omega⟩,ax⟩
  case round =>
   clear ax cf;obtain⟨i,tk,acc,p,v,hi,rfl,bZ,HE,a1,HP⟩:=hrel;have bj:=aA bZ;have p2:=bF HP.o.pb;have cy:=(Ac.1 HP.o.pb).1;obtain⟨vTr,vNr,vRr,aa⟩:=HP.o.b;have f10:=(aa.at 10).1;have cz:=aa.lt;simp only[wC,Am,Af,Ah]at f10;clear aa bZ;by_cases a2:i<pr.r.length
   ·obtain⟨g,o,rfl,b0,hc⟩:=HR.o (by omega);have k0:=(HP.o.w.cell (p:=⟨g,o+i*2,none⟩) b0).trans (hc i a2).1;have k1:=(HP.o.w.cell (p:=⟨g,o+i*2+1,none⟩) b0).trans (hc i a2).2;have cA:=HP.o.w.size;have cB:g<wr.heap.size:=by omega
    obtain⟨ab,ar,a3⟩:=ce.o i a2;have hE:=HE.o;rw[zee a2]at hE;have h6:acc.length≠6:=fun q=>by rw[Ap q]at hE;cases hE
    rw[AB h6]at hE;obtain⟨⟨t2,zz⟩,hs,bk⟩:=Gm.R.bind_eq hE;simp only at bk;have ch:=aA bk;obtain⟨E,F⟩:=zgD hs ab HP.o.f;obtain⟨V,a4⟩:=zkf hs HP.o.t bb;have ah:=aA (BJ F (BJ a4 V));have e6:((i:Int)==6)=false:=AY.2 (by have:=bj.o;omega);have au:=aA (fun(y:World)=>za4 pr.r[i].t ab y);rw[ar]at au;have ai:=aA (fun(y:World) (h:Wk y B w.heap.size R tk ns rs lv) (hy:w.heap.size<=y.heap.size)=>zgB L B w.heap.size R tk t2 ns rs lv zz pr.r[i] true y h HP.o.f ab a3 hy (Ag hB hy) E HP.o.t bb);unfold bW at ai;clear hc hE bk hs E F V a4 ab ar a3 h6;unfold rfX rfY at k1;generalize K.str pr.r[i].t=sx at *;generalize Fl.fl (Pl.pos (L.take pr.r[i].o)).1=X at *;generalize Fl.fl (Pl.pos (L.take pr.r[i].o)).2=Y at *;have bl:=aA (HP.o.alloc (.cells #[.string sx,.complex .f64 X Y] 153) hB);have cC:=aA (Az wr (.cells #[.string sx,.complex .f64 X Y] 153));have HC:=aA (ai.o _ bl.o.b bl.o.w.size);go_wp2_with fail
    refine(au.o _).mono ?_;rintro _ _ ⟨rfl,rfl⟩;go_wp2_with fail
    refine HC.o.mono ?_;rintro _ w2 ⟨rfl,N,a5,a6⟩;have M:=aA (bl.o.call N a5 a6 ah.o.1 ah.o.2.1);obtain⟨Av,nv,cv,bm⟩:=zdC M.o.o;subst bm;have q1:=aR M.o.qb;have b1:=(Ac.1 M.o.qb).1;have b3:=aA (M.o.alloc (.cells #[.int .i64 zz] 3) hB);have ci:Hid (w.heap.size<=w2.heap.size):=aA M.o.w.size;have cj:acc.length<=1000000000000:=by have:=bj.o;omega
    clear N a5 a6 p2 f10 k0 k1 HC ai au;by_cases bd:0<=zz
    case' pos=>have e:decide (0<=zz)=true:=AJ bd
    case' neg=>have e:decide (0<=zz)=false:=AM bd
    all_goals
     have HX:=ch.o
     first|rw[Ap bd]at HX|rw[AB bd]at HX
     have HX:=aA HX;go_wp2_with (refine zbA rfl (.tmp 63) (.tmp 65) _ rfl Tryz.underlying51 w.heap.size _ acc rfl b3.o.o _ _ zz rfl (zah w2 [.int .i64 zz] 3 0) cj (by have:=ci.o;simp;omega) ?_;intro v4 w4 bn b4;obtain⟨A4,n4,c4,rfl⟩:=zdC bn;have D:=aA (b3.o.app bn b4 hB);have q41:w4.cell? ⟨Q,1,none⟩=some (.slice Av nv cv):=Aw w4 _ 1 _ _ _ D.o.1;have q42:w4.cell? ⟨Q,2,none⟩=some (.int .i64 p):=Aw w4 _ 2 _ _ _ D.o.1;have f41:=AD w4 _ 1 _ _ D.o.1;have f42:=AD w4 _ 2 _ _ D.o.1;have cD:=(Ac.1 D.o.1).1;clear bn b4)
     go_roundw
     case rel=>exact⟨i+1,t2,acc++[zz],_,.slice A4 n4 c4,a2,by go_num,by rw[AU,BQ,bj.o],HX,aA ⟨fun z hz=>by rcases Bj.1 hz with q|q;exact a1.o.1 z q;rw[AF.1 q];exact ah.o.2.2,by first|exact ah.o.2.2|exact a1.o.2⟩,aA (by first|exact D.o.2|exact D.o.2.setQ 2 (.int .i64 zz) rfl (D.o.2.o.set_away D.o.2.qb 2 _) hB)⟩
     case measure=>simp[intOf];omega
   ·obtain rfl:i=pr.r.length:=by omega
    have hE:=HE.o;rw[zfP (Ad _)]at hE;injection hE with hE;injection hE with e1 hE;injection hE with e2 e3;subst e1;subst e2;subst e3;have p3:=bQ HP.o.pb;have p4:=zdZ HP.o.pb;rcases ad.o with⟨ck,e1,e2⟩|⟨x,zp,bo,bp,e2⟩
    case' inl =>
     subst e1;subst e2
     replace p3:wr.cell? ⟨w.heap.size,3,none⟩=some (.string ⟨#[]⟩):=by rw[p3,ck];rfl
     clear p4;go_wp2_with fail
     obtain⟨wz,aj⟩:∃x,x=wr:=⟨_,rfl⟩
     rw[<-aj];have I:Hid (PrJ w wz B R Q ns rs lv ts' #[.string s0,.complex .f64 X0 Y0,.slice A pr.r.length c,.string (soS pr.p),.complex .f64 (soX L pr.p) (soY L pr.p)] lf v acc p):=aA (by rw[aj];exact HP.o);clear aj p3;have b5:=aA (Fit.more (rs:=rs) (r:=⟨lf,acc,p⟩) HP.o.f ⟨bD.o,a1.o.2,a1.o.1⟩);obtain⟨zp,rfl⟩:∃x,x=p:=⟨_,rfl⟩
    case' inr =>
     subst e2;obtain⟨ab,ar,a3⟩:=cd.o x bo;obtain⟨E,F⟩:=zgE bp ab HP.o.f;obtain⟨V,a4⟩:=zkg bp HP.o.t;have J:=aA V;have ah:=aA (BJ F a4);have au:=aA (fun(y:World)=>za4 x.t ab y);rw[ar]at au;have ai:=aA (fun(y:World) (h:Wk y B w.heap.size R tk ns rs lv) (hy:w.heap.size<=y.heap.size)=>zgB L B w.heap.size R tk ts' ns rs lv zp x false y h HP.o.f ab a3 hy (Ag hB hy) E HP.o.t bb);unfold bW at ai;have cE:(K.str x.t).toList.isEmpty=false:=zho ar
     replace p3:wr.cell? ⟨w.heap.size,3,none⟩=some (.string (K.str x.t)):=by rw[p3,bo];rfl
     replace p4:wr.cell? ⟨w.heap.size,4,none⟩=some (.complex .f64 (Fl.fl (Pl.pos (L.take x.o)).1) (Fl.fl (Pl.pos (L.take x.o)).2)):=by rw[p4,bo];rfl
     have HC:=aA (ai.o _ HP.o.b HP.o.w.size);clear ab ar a3 E F V a4 bp ai;generalize K.str x.t=sx at *;generalize Fl.fl (Pl.pos (L.take x.o)).1=X at *;generalize Fl.fl (Pl.pos (L.take x.o)).2=Y at *;go_wp2_with fail
     refine(au.o _).mono ?_;rintro _ _ ⟨rfl,rfl⟩;go_wp2_with fail
     refine HC.o.mono ?_;rintro _ w2 ⟨rfl,N,a5,a6⟩;have M:=aA (HP.o.call N a5 a6 ah.o.1 ah.o.2);have q2:=bF M.o.qb;have f2:=AD w2 _ 2 _ _ M.o.qb;have cl:=(Ac.1 M.o.qb).1;clear N a5 a6 p3 p4;go_upto_region 20 with fail
     obtain⟨wz,aj⟩:∃x,x=w2.setCell ⟨Q,2,none⟩ (.int .i64 zp):=⟨_,rfl⟩
     rw[<-aj];have I:Hid (PrJ w wz B R Q ns rs lv ts' #[.string s0,.complex .f64 X0 Y0,.slice A pr.r.length c,.string (soS pr.p),.complex .f64 (soX L pr.p) (soY L pr.p)] lf v acc zp):=aA (by rw[aj];exact M.o.setQ 2 (.int .i64 zp) rfl (M.o.o.set_away M.o.qb 2 _) hB);clear aj q2 f2 cl;have b5:=aA (Fit.more (rs:=rs) (r:=⟨lf,acc,zp⟩) M.o.f ⟨bD.o,J.o,a1.o.1⟩)
    all_goals
     obtain⟨vT',vN',vR',Z⟩:=I.o.b;have cm:=aA Z;obtain⟨_,_,⟨AR2,cR2,cn⟩⟩:=zas Z;subst cn;obtain⟨Av,cv,bm,b6,b7,a9⟩:=I.o.o.row hB;subst bm;have c2:wz.cell? ⟨R,2,none⟩=some (.slice AR2 rs.length cR2):=(Z.at 2).1;have cF:=(Z.at 2).2.2;have b1:=(Ac.1 I.o.qb).1;have ak:=aA (BJ b6 (BJ b7 a9));clear Z a9 b6 b7;have E0:=fun y:Calm.OnB Q wz=>aM (y.2.trans I.o.qb);have E1:=fun y:Calm.OnB Q wz=>aR (y.2.trans I.o.qb);have E2:=fun y:Calm.OnB Q wz=>bF (y.2.trans I.o.qb);refine CalmN.region_tree (fun x=>∃y:Calm.OnB Q wz,x=y.1) (.two [0,1,2,3,4,6] 5 (.one [] 7 (.one [] 8 (.one [9,10,11] 12 (.fin [])))) 7 (.one [] 5 (.one [] 8 (.one [9,10,11] 12 (.fin []))))) (by kernel_rfl) (by kernel_rfl) (fun _ _ d _ _ h=>by cases d <;> exact h) ⟨⟨wz.drew,rfl⟩,rfl⟩ ?_;simp only[CalmN.wpT,CalmN.wpSt,CalmN.pickOps,Am,Af,Ah];repeat (go_big_quiet_step (fail))
     refine Aj ?_;clear E0 E1 E2;have ba:=aA (fun o=>(BI wz o Q b1));refine⟨?_,?_⟩
     all_goals
      intro KK s;rw[Ap (by rfl)];go_wp2_with fail
      refine s _ _ ⟨⟨_,by first|rfl|exact ba.o _⟩,rfl⟩ _ (fun _ h=>h) ⟨⟨_,by first|rfl|exact ba.o _⟩,rfl⟩ ?_;refine Aj ?_;intro KK s;rw[Ap (by rfl)];go_wp2_with fail
      refine s _ _ ⟨⟨(wz.alloc _).drew,ba.o _⟩,rfl⟩ _ (fun _ h=>h) ⟨⟨(wz.alloc _).drew,ba.o _⟩,rfl⟩ ?_;refine Aj ?_;intro KK s;rw[Ap (by rfl)];obtain⟨wy,ae⟩:∃x,x=(wz.alloc (.cells #[.int .i64 lf,.slice Av acc.length cv,.int .i64 zp] 74)).drew:=⟨_,rfl⟩
      rw[<-ae];have A0:Hid (WRaw wy B w.heap.size R (wC vT' vN' (.slice AR2 rs.length cR2) lv) vT' vN' (.slice AR2 rs.length cR2) ts' ns rs):=aA (by rw[ae];exact(cm.o.alloc (.cells #[.int .i64 lf,.slice Av acc.length cv,.int .i64 zp] 74)).drew9);have b8:Hid (Below B w wy):=aA (by rw[ae];exact aB (I.o.w.alloc (Ag hB I.o.w.size) _) 1);have co:Hid (KpT w wy):=aA (by rw[ae];exact I.o.k.trans (KpT.below (aB ((Aq _ _).alloc (Ad _) _) 1)));have b9:Hid (wy.heap[Q]?=wz.heap[Q]?):=aA (by rw[ae];exact ba.o _);have cp:Hid (∀j u,(rlC (⟨lf,acc,zp⟩,Av,cv))[j]?=some u->wy.cell? ⟨wz.heap.size,j,none⟩=some u):=aA (fun j u hj=>by rw[ae];exact(zah wz (rlC (⟨lf,acc,zp⟩,Av,cv)) 74 j).trans hj)
      have bq:Hid (zgj wy B wy.heap.size Av acc):=aA (by
       rw[ae];exact(ak.o.2.2.grown (w':=(wz.alloc (.cells #[.int .i64 lf,.slice Av acc.length cv,.int .i64 zp] 74)).drew) (row:=none) ((DP wz (.cells #[.int .i64 lf,.slice Av acc.length cv,.int .i64 zp] 74) none).trans (zad _ none)) (fun g e=>by cases e)).more (by show wz.heap.size<=(wz.alloc _).heap.size;simp))
      have bf:Hid (w.heap.size<=wy.heap.size):=aA b8.o.size;clear ae;refine zeC (.tmp 102) (.tmp 104) _ rfl Tryz.underlying24 B w.heap.size _ rs rfl A0.o.r _ _ (⟨lf,acc,zp⟩,Av,cv) rfl cp.o ⟨ak.o.1,ak.o.2.1,bq.o⟩ (by omega) (Ag hB bf.o) bf.o ?_;intro v8 w8 br av;have A1:=aA ((A0.o.more (Ag bf.o av.size)).r_put br av);obtain⟨A8,c8,rfl,_,_⟩:=zaN br
      have bs:Hid (w8.heap[Q]?=wz.heap[Q]?):=aA ((av.block Q (by have:=(Ac.1 (b9.o.trans I.o.qb)).1;exact this) (fun e=>by
       obtain⟨_,_,_,h3,_⟩:=A0.o.r
       have:=h3 _ e.symm
       have:=I.o.q
       omega)).trans b9.o)
      have cq:Hid (KpA w w8):=aA (co.o.a.trans (by obtain⟨_,_,h2,_⟩:=A0.o.r;exact KpA.own h2 av (.inr (.inr rfl))));have cr:Hid (Below B w w8):=aA (b8.o.grown av (Ag hB bf.o) (fun k e=>by obtain⟨_,_,h2,_⟩:=A0.o.r;exact(zac h2 e).1));obtain⟨n8,ca⟩:∃n,n=(rs++[(⟨lf,acc,zp⟩:Gm.Rl)]).length:=⟨_,rfl⟩
      have c28:w8.cell? ⟨R,2,none⟩=some (.slice AR2 rs.length cR2):=(A1.o.at 2).1;have f28:=(A1.o.at 2).2.1;have cG:=(A1.o.at 2).2.2;rw[<-ca]at A1 ⊢;clear br av A0 ca;refine s _ _ ⟨⟨w8,bs.o⟩,rfl⟩ _ (fun _ h=>h) ⟨⟨w8,bs.o⟩,rfl⟩ ?_
      go_frame
      repeat (go_big_quiet_step (fail))
      refine Aj ?_;intro KK s;rw[Ap (by rfl)];go_wp2_with fail
      have cb:=aA (fun u=>(AH w8 ⟨R,2,none⟩ u Q (by simp only;have:=I.o.q;omega)).trans bs.o);refine s _ _ ⟨⟨w8.setCell ⟨R,2,none⟩ _,cb.o _⟩,rfl⟩ _ (fun _ h=>h) ⟨⟨w8.setCell ⟨R,2,none⟩ _,cb.o _⟩,rfl⟩ ?_;refine Aj ?_;clear s;go_wp2;go_end0
      refine⟨rfl,⟨?_,b5.o,I.o.t⟩,cr.o.setCell A1.o.hR _,cq.o.trans (KpT.set A1.o 2 _).a⟩;rw[ziz];exact⟨vT',vN',_,A1.o.set 2 _⟩
def grC:Array Value:=#[.slice none 0 0,.slice none 0 0,.slice none 0 0,.int .i64 0]
end Go.Proofs.YtjjbaehamplnaaaGreat
