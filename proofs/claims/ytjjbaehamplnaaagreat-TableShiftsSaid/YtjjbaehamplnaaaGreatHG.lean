/- Part of the proofs over this program: YaccList, BldW, Ref8G, Dcl, Ref8D, Ref7S, Ref7O. -/
import Derived.Test.YtjjbaehamplnaaaGreatHF
set_option linter.all false
namespace Go
def EC:=@Go.run_build
end Go
open Go.RowKit Go.Proofs.Tryz
set_option maxRecDepth 100000
set_option maxHeartbeats 40000000
namespace Go.Proofs.YtjjbaehamplnaaaGreat
variable {A:Option Go.Addr} {B N N' base base' g k n px py:Nat} {cs:Array Go.Value} {ds:List Y.jL} {ops:Array Go.Oper} {u v:Go.Value} {w w':Go.World} {xs:List Go.Value} {z:Int} {zs:List Int}
theorem bP.at {L:List Int} {w:World} {base:Nat} {v:Value} {ds:List Y.jL} (h:bP L w base v ds) (i:Nat) (hi:i<ds.length):∃D c A c',v=.slice (some ⟨D,0,none⟩) ds.length c/\w.cell? ⟨D,i*2,none⟩=some (.int .i64 ds[i].k)/\w.cell? ⟨D,i*2+1,none⟩=some (.slice A ds[i].ns.length c')/\kQ L w base A ds[i].ns:=by
 obtain⟨qs,rfl,h2,h3⟩:=h;have aa:i<qs.length:=by simpa using hi
 rcases h2.2 with⟨_,h0⟩|⟨g,cap,cur,rfl,_⟩
 ·omega
 ·refine⟨g,cap,qs[i].2.1,qs[i].2.2,rfl,?_,?_,?_⟩
  ·have:=CQ h2 (g:=g) rfl (i*2+0) _ (by rw[M9 qs i 0 aa ω];rfl)
   rw[qq,BF]at this
   simpa using this
  ·have:=CQ h2 (g:=g) rfl (i*2+1) _ (by rw[M9 qs i 1 aa ω];rfl)
   rw[qq,BF]at this
   simpa using this
  ·have:=h3 qs[i] (AD aa)
   simpa using this
theorem bO.at {L:List Int} {w:World} {base:Nat} {v:Value} {ps:List Y.iu} (h:bO L w base v ps) (i:Nat) (hi:i<ps.length):∃D c A c',v=.slice (some ⟨D,0,none⟩) ps.length c/\(∀j u,j<5->(a7 L ps[i] A c')[j]?=some u->w.cell? ⟨D,i*5+j,none⟩=some u)/\kQ L w base A ps[i].r:=by
 obtain⟨qs,rfl,h2,h3⟩:=h;have aa:i<qs.length:=by simpa using hi
 rcases h2.2 with⟨_,h0⟩|⟨g,cap,cur,rfl,_⟩
 ·omega
 ·refine⟨g,cap,qs[i].2.1,qs[i].2.2,rfl,fun j u hj hu=>?_,?_⟩
  ·have:=CQ h2 (g:=g) rfl (i*5+j) u (by rw[S6 L qs i j aa hj];simpa using hu)
   rw[qq,BF]at this;exact this
  ·have:=h3 qs[i] (AD aa)
   simpa using this
theorem bV.gf {L:List Int} {xs:List fv} (h:bV L w base v xs) (hb:base'<=base):bV L w base' v xs:=by
 refine⟨h.1,?_⟩;rcases h.2 with h0|⟨g,cap,cur,e,aa,hr⟩
 ·exact .inl h0
 ·exact .inr ⟨g,cap,cur,e,ω,hr⟩
def kO (t:Gm.Tm):List Value:=[.string (K.str t.nm),.int .i64 t.lv,.int .i64 t.wy]
def rQ (ts:List Gm.Tm):List Value:=ts.flatMap kO
def FW (ns:List (List Int)):List Value:=ns.map fun s=>.string (K.str s)
abbrev RA:=Gm.Rl×Option Addr×Nat
def qF (q:RA):List Value:=[.int .i64 q.1.l,.slice q.2.1 q.1.r.length q.2.2,.int .i64 q.1.p]
def FV (qs:List RA):List Value:=qs.flatMap qF
theorem GP {α:Type} (f:α->List Value) (hf:∀x,(f x).length=3) (xs:List α) (i j:Nat) (hi:i<xs.length) (hj:j<3):(xs.flatMap f)[i*3+j]?=(f xs[i])[j]?:=by
 induction xs generalizing i with
 | nil=>simp at hi
 | cons x r ih =>
  rw[B7];have hl:=hf x;cases i with
  | zero=>rw[BQ ω];simp
  | succ i =>
   rw[Cp ω,hl,show(i+1)*3+j-3=i*3+j by omega]
   simpa using ih i (by simpa using hi)
theorem Lx {α:Type} (f:α->List Value) (hf:∀x,(f x).length=3) (xs:List α):(xs.flatMap f).length=xs.length*3:=by
 induction xs with
 | nil=>rfl
 | cons x r ih=>rw[B7,AZ,ih,hf,Bz];omega
def bE (w:World) (base:Nat) (v:Value) (ts:List Gm.Tm):Prop:=w.ownsRow base 85 3 v ts.length (rQ ts)
def bQ (w:World) (base:Nat) (v:Value) (ns:List (List Int)):Prop:=w.ownsRow base 9 1 v ns.length (FW ns)
def tH (w:World) (base N:Nat) (A:Option Addr) (zs:List Int):Prop :=
 zs.length≠0->∃(g:Nat) (cur:Array Value),A=some ⟨g,0,none⟩/\base<=g/\g<N/\w.heap[g]?=some (.cells cur 3 (0,0))/\∀j (h:j<zs.length),cur[j]?=some (.int .i64 zs[j])
def bF (w:World) (base N:Nat) (v:Value) (rs:List Gm.Rl):Prop :=
 ∃qs:List RA,qs.map (·.1)=rs/\w.ownsRow base 74 3 v rs.length (FV qs)/\(∀k,v.ownBlock=some k->k<N)/\∀q∈qs,q.1.r.length<=q.2.2/\q.2.2<=9223372036854775807/\tH w base N q.2.1 q.1.r
theorem bE.nil (w:World) (base:Nat):bE w base (.slice none 0 0) []:=Dg w base _ _
theorem bQ.nil (w:World) (base:Nat):bQ w base (.slice none 0 0) []:=Dg w base _ _
theorem bF.nil (w:World) (base N:Nat):bF w base N (.slice none 0 0) []:=⟨[],rfl,Dg w base _ _,(by intro k h;cases h),(by intro q h;cases h)⟩
theorem aO {e:TypeId} {size:Nat} (h:w.ownsRow base e size v n xs):∃A c,v=.slice A n c/\n<=c/\c<=maxLen:=by
 rcases h.2 with⟨rfl,h0⟩|⟨g,cap,cur,rfl,hb,hg,hn,hm,hs,ht⟩
 ·exact⟨none,0,by rw[h0],ω,by unfold maxLen;omega⟩
 ·exact⟨_,cap,rfl,hn,hm⟩
theorem Lr {e:TypeId} {size:Nat} (h:w.ownsRow base e size v n xs):∃A m c,v=.slice A m c:=by
 obtain⟨A,c,rfl,_⟩:=aO h;exact⟨A,n,c,rfl⟩
theorem aP {e:TypeId} {size:Nat} (h:w.ownsRow base e size v n xs) {o:Obj} (hg:w.heap[g]?=some o) (ho:∀cur,o ≠ .cells cur e (0,0)):v.ownBlock=none\/v.ownBlock≠some g:=by
 rcases h.2 with⟨rfl,_⟩|⟨g',cap,cur,rfl,_,aa,_⟩
 ·exact .inl rfl
 ·refine .inr fun e1=>?_;injection e1 with e1;have e1:g'=g:=e1;subst e1;rw[hg]at aa;injection aa with aa;exact ho _ aa
theorem aN {e:TypeId} {size:Nat} (h:w.ownsRow base e size v n xs) (hk:v.ownBlock=some k):base<=k/\∃cur,w.heap[k]?=some (.cells cur e (0,0)):=by
 rcases h.2 with⟨rfl,_⟩|⟨g',cap,cur,rfl,hb,aa,_⟩
 ·cases hk
 ·injection hk with hk;have hk:g'=k:=hk;subst hk;exact⟨hb,cur,aa⟩
theorem tH.grown {row:Option Nat} (h:tH w base N A zs) (hg:w.grownBy w' row) (hr:∀g,row=some g->(∀cur,w.heap[g]? ≠ some (.cells cur 3 (0,0)))\/N<=g):tH w' base N A zs:=fun hn=>by
 obtain⟨g,cur,e,hb,hN,hh,hc⟩:=h hn;refine⟨g,cur,e,hb,hN,(hg.block g (Ad.1 hh).1 (fun e=>?_)).trans hh,hc⟩;rcases hr g e.symm with q|q
 ·exact q _ hh
 ·omega
theorem tH.more (h:tH w base N A zs) (hN:N<=N'):tH w base N' A zs:=fun hn=>by
 obtain⟨g,cur,e,hb,h1,hh⟩:=h hn;exact⟨g,cur,e,hb,ω,hh⟩
theorem bF.grown {w w':World} {base N:Nat} {v:Value} {rs:List Gm.Rl} {row:Option Nat} (h:bF w base N v rs) (hg:w.grownBy w' row) (hr:∀g,row=some g->((∀cur,w.heap[g]? ≠ some (.cells cur 3 (0,0)))/\(∀cur,w.heap[g]? ≠ some (.cells cur 74 (0,0))))\/N<=g):bF w' base N v rs:=by
 obtain⟨qs,h1,h2,h3,h4⟩:=h;refine⟨qs,h1,h2.kept hg ?_,h3,fun q hq=>⟨(h4 q hq).1,(h4 q hq).2.1,(h4 q hq).2.2.grown hg fun g e=>?_⟩⟩
 ·rcases hv:v.ownBlock with _|k
  ·exact .inl rfl
  ·refine .inr fun e=>?_;rcases hr k e.symm with q|q
   ·obtain⟨_,cur,hc⟩:=aN h2 hv;exact q.2 _ hc
   ·have:=h3 k hv;omega
 ·rcases hr g e with q|q
  ·exact .inl q.1
  ·exact .inr q
theorem bF.more {w:World} {base N N':Nat} {v:Value} {rs:List Gm.Rl} (h:bF w base N v rs) (hN:N<=N'):bF w base N' v rs:=by
 obtain⟨qs,h1,h2,h3,h4⟩:=h;exact⟨qs,h1,h2,fun k hk=>by have:=h3 k hk;omega,fun q hq=>⟨(h4 q hq).1,(h4 q hq).2.1,(h4 q hq).2.2.more hN⟩⟩
structure St where
 s:Gm.S1
 ns:List (List Int)
 rs:List Gm.Rl
 z:Int
def yt:Option fv->ByteArray|none=>⟨#[]⟩|some x=>K.str x.t
def yu (L:List Int):Option fv->Nat|none=>0|some x=>Fl.fl (Pl.pos (L.take x.o)).1
def yv (L:List Int):Option fv->Nat|none=>0|some x=>Fl.fl (Pl.pos (L.take x.o)).2
theorem aS {T T':TypeId} (h:w.heap[g]?=some (.cells cs T (0,0))) (hT:T≠T') (cur:Array Value):w.heap[g]? ≠ some (.cells cur T' (0,0)):=by
 rw[h];intro e;injection e with e;injection e with _ e;exact hT e
theorem yG (v:Value):v.ownBlock=none\/v.ownBlock≠(none:Option Nat):=by
 rcases v.ownBlock with _|k
 ·exact .inl rfl
 ·exact .inr σ
section
variable {w w':World} {B N R:Nat} {cs:Array Value} {vT vN vR:Value} {ts:List Gm.Tm} {ns:List (List Int)} {rs:List Gm.Rl} {Ms Mt:Nat} {ml tl:List (List Int×Value)} {row:Option Nat}
theorem vO {e e':TypeId} {size size' n':Nat} {ys:List Value} (h:w.ownsRow base e size v n xs) (k:w.ownsRow base' e' size' u n' ys) (he:e≠e'):v.ownBlock=none\/v.ownBlock≠u.ownBlock:=by
 rcases hu:u.ownBlock with _|g
 ·exact yG _
 ·obtain⟨_,cur,hc⟩:=aN k hu;exact aP h hc (fun cur' q=>by injection q with _ q;exact he q.symm)
theorem rK {e T:TypeId} {size:Nat} {ys:List Value} (hb:w.heap[g]?=some (.cells cs T (0,0))) (k:w.ownsRow base e size u n ys) (he:T≠e) (hg:w.grownBy w' u.ownBlock):w'.heap[g]?=some (.cells cs T (0,0)):=by
 refine(hg.block g (Ad.1 hb).1 (fun q=>?_)).trans hb;obtain⟨_,cur,hc⟩:=aN k q.symm;exact aS hb he _ hc
end
theorem Nt:(prog.info? 85).map (fun i=>(i.zero,i.size,i.bytes))=some (some (.agg #[.string ⟨#[]⟩,.int .i64 0,.int .i64 0]),3,32):=κ
theorem Ny:(prog.info? 9).map (fun i=>(i.zero,i.size,i.bytes))=some (some (.string ⟨#[]⟩),1,16):=κ
theorem Nx:(prog.info? 74).map (fun i=>(i.zero,i.size,i.bytes))=some (some (.agg #[.int .i64 0,.slice none 0 0,.int .i64 0]),3,40):=κ
theorem R2 {rest:List Oper} {o:Oper} {a:Act} {Q:Exit->Act->World->Prop} (af:o.guard=none) (s x:Operand) (t:TypeId) (ho:o.op=.call {callee:=.builtin .append,args:=#[s,x],argTypes:=#[t,t]}) (ht:prog.underlying t=some (.slice 74)) (base N:Nat) (v:Value) (rs:List Gm.Rl) (hs:a.eval s=v) (ab:bF w base N v rs) (g c:Nat) (q:RA) (hx:a.eval x=.slice (some ⟨g,0,none⟩) 1 c) (hz:∀j u,(qF q)[j]?=some u->w.cell? ⟨g,j,none⟩=some u) (hr:q.1.r.length<=q.2.2/\q.2.2<=9223372036854775807/\tH w base w.heap.size q.2.1 q.1.r) (ag:rs.length<=1000000) (aa:base<=w.heap.size) (hN:N<=w.heap.size) (hK:∀v' w',bF w' base w'.heap.size v' (rs++[q.1])->w.grownBy w' v.ownBlock->wpList prog ops Q rest (a.put o.dst v') w') :
  wpList prog ops Q (o::rest) a w:=by
 obtain⟨i,hi,ah,ai,aj⟩:=CF Nx;obtain⟨qs,ac,ad,al,ak⟩:=ab;have am:qs.length=rs.length:=by rw[<-ac,Bh]
 refine Dp w af s x t ho base 74 i _ 3 40 ht hi ah ai aj rfl δ v rs.length (FV qs) hs ad ⟨g,0,none⟩ 1 c (qF q) hx rfl ?_ ?_ (by unfold maxLen;omega) ω aa fun v' w' h1 h2 _=>hK v' w' ?_ h2
 ·intro j u hj;rw[qq,BF];exact hz j u hj
 ·intro u hu;simp[qF]at hu;rcases hu with rfl|rfl|rfl <;> rfl
 ·have ae:∀g',v.ownBlock=some g'->(∀cur,w.heap[g']? ≠ some (.cells cur 3 (0,0)))\/w.heap.size<=g':=fun g' e=>by
   obtain⟨_,cur,hc⟩:=aN ad e;exact .inl (aS hc δ)
  refine⟨qs++[q],by rw[Bi,ac];rfl,?_,fun k hk=>?_,fun p hp=>?_⟩
  ·rw[AZ];unfold FV;rw[BW,Ci];exact h1
  ·obtain⟨_,cur,hc⟩:=aN h1 hk;exact(Ad.1 hc).1
  ·rcases Bs.1 hp with h|h
   ·obtain⟨a1,a2,a3⟩:=ak p h;exact⟨a1,a2,((a3.more hN).grown h2 ae).more h2.size⟩
   ·rw[AW]at h;subst h;exact⟨hr.1,hr.2.1,(hr.2.2.grown h2 ae).more h2.size⟩
theorem tD (w:World) (l:List Value) (T:TypeId) (j:Nat):(w.alloc (.cells l.toArray T)).cell? ⟨w.heap.size,j,none⟩=l[j]?:=by
 rw[AF _ _ j _ _ _ (AI w _)];simp
section
variable {w w':World} {B N R:Nat} {cs:Array Value} {vT vN vR:Value} {ts:List Gm.Tm} {ns:List (List Int)} {rs:List Gm.Rl} {Ms Mt:Nat} {ml tl:List (List Int×Value)}
end
theorem Y.lL (a:Int) (ts:List fv):Y.is [a,a] ts=Y.is [a] ts:=by
 cases ts with
 | nil=>rfl
 | cons t r =>
  show [a,a].contains t.k=[a].contains t.k
  rw[Bx];simp
theorem gU.row {L:List Int} {R:Nat} {ts:List fv} (h:gU L B R px py w ts) (hg:w.grownBy w' .none):gU L B R px py w' ts:=h.grown hg (fun _ e=>by cases e)
theorem gU.drew {L:List Int} {R:Nat} {ts:List fv} (h:gU L B R px py w ts):gU L B R px py w.drew ts:=h
theorem gU.len {L:List Int} {R:Nat} {ts:List fv} (h:gU L B R px py w ts):ts.length<=4000:=by obtain⟨_,_,_,_,h,_⟩:=h;exact h
theorem FI (L:List Int) (B R px py:Nat) (ts:List fv) (a b:Int) (w:World) (hr:gU L B R px py w ts) (t:fv) (r:List fv) (hk:Y.take [a,b] ts=.ok t r) :
  Calls prog 125 #[.pointer (some ⟨R,0,none⟩),.int .i64 a,.int .i64 b] w fun e w'=>e=.returned (cH L t)/\w.grownBy w' (some R)/\gU L B R px py w' r:=by
 obtain⟨rfl,h⟩:=Y.gH hk;exact z8 L B R px py t r a b w hr h
theorem Hv (a:Int) (ts:List fv):Y.take [a,a] ts=Y.take [a] ts:=by
 cases ts with
 | nil=>rfl
 | cons t r =>
  have h:([a,a]:List Int).contains t.k=[a].contains t.k:=Y.lL a (t::r);rw[Y.take_cons,Y.take_cons,h]
def NR (L:List Int) (t:fv):Obj:=.cells #[.string (K.str t.t),.complex .f64 (Fl.fl (Pl.pos (L.take t.o)).1) (Fl.fl (Pl.pos (L.take t.o)).2)] 153 (0,0)
theorem vP {e:TypeId} {size:Nat} (h:w.ownsRow base e size v n xs) {R:Nat} (hR:R<base):v.ownBlock=none\/v.ownBlock≠some R:=by
 rcases hv:v.ownBlock with _|k
 ·exact .inl rfl
 ·have:=(Br h k hv).1
  exact .inr (fun e=>by injection e with e;omega)
theorem bO.jw {L:List Int} {ps:List Y.iu} (h:bO L w base v ps) (o:Obj):bO L (w.alloc o) base v ps:=h.grown (aI (AO _ _) o) (yU.none _ _)
theorem Pq {L:List Int} {c:Nat} {left pt:fv} {rs:List fv} (h:w.heap[g]?=some (.cells (a7 L ⟨left,rs,none⟩ A c).toArray 161 (0,0))) (u3 u4:Value) (h3:u3=.string (K.str pt.t)) (h4:u4=.complex .f64 (Fl.fl (Pl.pos (L.take pt.o)).1) (Fl.fl (Pl.pos (L.take pt.o)).2)) :
  ((w.setCell ⟨g,3,none⟩ u3).setCell ⟨g,4,none⟩ u4).heap[g]?=some (.cells (a7 L ⟨left,rs,some pt⟩ A c).toArray 161 (0,0)):=by
 subst h3 h4;have h3:=Ba w g 3 _ _ (.string (K.str pt.t)) h;rw[Ba _ g 4 _ _ _ h3];rfl
theorem LH {size:Nat} (h:w.heap[g]?=some (.cells cs 153 (0,0))) (o:Obj) (ho:(w.alloc o).ownsRow base 161 size v n xs) (hg:(w.alloc o).grownBy w' v.ownBlock):w'.heap[g]?=some (.cells cs 153 (0,0)):=by
 have h1:(w.alloc o).heap[g]?=some (.cells cs 153 (0,0)):=(((AB _ w).alloc (Af _) o).block g (Ad.1 h).1).trans h;exact QQ h1 hg (zV ho δ)
theorem NC (L:List Int) (B R px py:Nat) (ts:List fv) (ps:List Y.iu) (r:List fv) (w:World) (hr:gU L B R px py w ts) (hy:Y.group [] ts=.ok ps r) :
  Calls prog 126 #[.pointer (some ⟨R,0,none⟩)] w fun e w'=>w.grownBy w' (some R)/\∃v,e=.returned v/\bO L w' w.heap.size v ps/\gU L B R px py w' r:=by
 have HR:=aA hr;have ac:=hr.lt;have cs:=aA hr.len;unfold Y.group at hy;obtain⟨left,m,h1,hy⟩:=Y.fx hy;obtain⟨t10,m2,h2,hy⟩:=Y.fx hy;have a5:=aA (FI L B R px py ts 1 1 w hr left m ((Hv 1 ts).trans h1));have a6:=aA (fun(x:World) (h:gU L B R px py x m)=>FI L B R px py m 10 10 x h t10 m2 ((Hv 10 m).trans h2));have HY:=aA hy;have SC:=fun a w m X Y=>show(store a (.complex .f64 X Y) m).run prog w=stored prog w a (.complex .f64 X Y) m from run_store _ w a _ m rfl;clear hr h1 h2 hy;unfold cH at a5 a6
 go_enter func126,ntmps126
 go_wp2_with fail
 refine a5.o.mono ?_;rintro _ w2 ⟨rfl,a9,bs⟩;have bu:=aA a9;have bv:=aA (bs.alloc (.cells #[.string (K.str left.t),.complex .f64 (Fl.fl (Pl.pos (L.take left.o)).1) (Fl.fl (Pl.pos (L.take left.o)).2)] 153));have cu:=a9.size;clear a9 bs;go_wp2_with fail
 refine(a6.o _ bv.o).mono ?_;rintro _ w3 ⟨rfl,ay,bw⟩;have bx:=aA ((aI bu.o (.cells #[.string (K.str left.t),.complex .f64 (Fl.fl (Pl.pos (L.take left.o)).1) (Fl.fl (Pl.pos (L.take left.o)).2)] 153)).trans ay);have ba:=aA bw;have bz:Hid (w3.heap[w2.heap.size]?=some (NR L left)):=aA (KI ay ω);have cv:w2.heap.size+1<=w3.heap.size:=by have:=ay.size;simpa using this
 clear ay bw;go_wp2_with fail
 go_loopw [3] (fun v wr=>∃(acc:List Y.iu) (rest:List fv) (f:Nat),Hid (Y.alts f left acc rest=.ok ps r)/\rest.length<f/\bO L wr w.heap.size v acc/\gU L B R px py wr rest/\w.grownBy wr (some R)/\wr.heap[w2.heap.size]?=some (NR L left)/\acc.length+rest.length<=4000) (fun v _=>4001-yL v)
 case atStart=>exact⟨[],m2,m2.length+1,HY,ω,bO.nil _ _ _,ba.o,bx.o,bz.o,by have:=ba.o.len;simpa using this⟩
 case round =>
  clear a5 a6 bv bu ba bz bx HR HY;obtain⟨acc,rest,f,HY,hf,ho,hr,hg,hb,hl⟩:=hrel;have HO:=aA ho;have HR:=aA hr;have HG:=aA hg;have HB:=aA hb;obtain⟨Aa,ca,rfl,_,_⟩:=ho.form;obtain⟨f,rfl⟩:∃f',f=f'+1:=⟨f-1,ω⟩
  have hY:=HY.o;rw[Y.alts]at hY;obtain⟨p,m3,hp,hY⟩:=Y.fx hY;obtain⟨t,m4,ht,hY⟩:=Y.fx hY;obtain⟨Ax,cx,cw,cy,_⟩:=hr.cell0;have HP:=aA hp;have HT:=aA ht;have az:=aA hY;clear ho hr hg hb hp ht hY;go_upto_region 5 with fail
  go_cut [5] (fun s5 wx=>∃g A c,s5=.pointer (some ⟨g,0,none⟩)/\wr.heap.size<=g/\wx.heap[g]?=some (.cells (a7 L ⟨left,rest.takeWhile Y.isRef,none⟩ A c).toArray 161 (0,0))/\kQ L wx w.heap.size A (rest.takeWhile Y.isRef)/\gU L B R px py wx (rest.dropWhile Y.isRef)/\wr.grownBy wx (some R))
  case first =>
   have bD:w2.heap.size≠R:=ω
   have CL0:=fun y:Calm.wJ R wr=>aQ (rL y.2 HB.o bD);have CL1:=fun y:Calm.wJ R wr=>aU (rL y.2 HB.o bD);have bM:wr.grownBy wr.drew (some R):=tC wr _;have ah:R<wr.heap.size:=HR.o.lt;have cf:w.heap.size<=wr.heap.size:=HG.o.size;refine Calm.fk (fun x=>∃y:Calm.wJ R wr,x=y.1) (.two [0,1] 2 (.one [3] 4 (.one [] 5 (.fin []))) 4 (.one [] 2 (.one [3] 5 (.fin [])))) ⟨⟨wr.drew,bM⟩,rfl⟩ ?_;simp only[Calm.fS,Calm.fu,Calm.fo,Aq,Ai,Am];repeat (go_big_quiet_step (fail))
   refine Ap ?_;have O:=aA (fun(x:World) (hx:gU L B R px py x rest)=>NZ L B R px py rest x hx);refine⟨?_,?_⟩
   ·intro KK J;rw[Az ε];go_wp2_with fail
    refine(O.o _ HR.o.drew).mono ?_;rintro _ w4 ⟨U,v,rfl,ho,ai⟩;obtain⟨A,c,rfl,bb,bc,aj⟩:=ho.rd;have hg:wr.grownBy w4 (some R):=bM.trans U;clear ho U bb bc;go_wp2_with fail
    refine J _ _ ⟨⟨w4,hg⟩,rfl⟩ _ ι ⟨⟨w4,hg⟩,rfl⟩ ?_;repeat (go_big_quiet_step (fail))
    refine Ap ?_;intro KK J;rw[Az ε];go_wp2_with fail
    refine J _ _ ⟨⟨_,aI hg _⟩,rfl⟩ _ ι ⟨⟨_,aI hg _⟩,rfl⟩ ?_;repeat (go_big_quiet_step (fail))
    refine Ap ?_;intro KK J;try rw[Az ε]
    go_wp2_with fail
    refine J _ _ ⟨⟨_,aI hg _⟩,rfl⟩ _ ι ⟨⟨_,aI hg _⟩,rfl⟩ ?_;refine Ap ?_;go_wp2_with fail
    go_meet
    case rel =>
     refine⟨w4.heap.size,A,c,rfl,hg.size,AI _ _,(aj.less cf).grown (aI (AO _ _) _) (bJ.none _),ai.alloc _,aI hg _⟩
   ·intro KK J;rw[Az ε];go_wp2_with fail
    obtain⟨w4,a0⟩:∃x,x=(wr.alloc (.cells #[.string ⟨#[]⟩,.complex .f64 0 0,.slice none 0 0,.string ⟨#[]⟩,.complex .f64 0 0] 161)).drew:=⟨_,rfl⟩
    rw[<-a0];have U:wr.grownBy w4 .none:=by rw[a0];exact(aI (AO _ _) _).trans (tC _ _)
    have cg:w4.heap[wr.heap.size]?=some (.cells #[.string ⟨#[]⟩,.complex .f64 0 0,.slice none 0 0,.string ⟨#[]⟩,.complex .f64 0 0] 161 (0,0)):=by rw[a0];exact AI wr _
    have ch:=HR.o.row U;clear a0;refine J _ _ ⟨⟨w4,U.row _⟩,rfl⟩ _ ι ⟨⟨w4,U.row _⟩,rfl⟩ ?_;refine Ap ?_;intro KK J;try rw[Az ε]
    go_wp2_with fail
    refine(O.o _ ch).mono ?_;rintro _ w5 ⟨ap,v,rfl,ho,ai⟩;obtain⟨A,c,rfl,bb,bc,aj⟩:=ho.rd;have hg:wr.grownBy w5 (some R):=(U.row _).trans ap;have I:=rL ap cg ω;clear ho bb bc;go_wp2_with fail
    refine J _ _ ⟨⟨w5,hg⟩,rfl⟩ _ ι ⟨⟨w5,hg⟩,rfl⟩ ?_;repeat (go_big_quiet_step (fail))
    refine Ap ?_;intro KK J;try rw[Az ε]
    have c0:=AF w5 _ 0 _ _ _ I;have c1:=AF w5 _ 1 _ _ _ I;have c2:=AF w5 _ 2 _ _ _ I;have c3:=AF w5 _ 3 _ _ _ I;have c4:=AF w5 _ 4 _ _ _ I;have f0:=AM w5 _ 0 _ _ I;have f1:=AM w5 _ 1 _ _ I;have f2:=AM w5 _ 2 _ _ I;have f3:=AM w5 _ 3 _ _ I;have f4:=AM w5 _ 4 _ _ I;go_wp2_with fail
    have bd:=aA (fun u0 u1 u2 u3 u4=>zR (zR (zR (zR (zR hg wr.heap.size 0 u0 (Af _)) wr.heap.size 1 u1 (Af _)) wr.heap.size 2 u2 (Af _)) wr.heap.size 3 u3 (Af _)) wr.heap.size 4 u4 (Af _));refine J _ _ ⟨⟨_,bd.o _ _ _ _ _⟩,rfl⟩ _ ι ⟨⟨_,bd.o _ _ _ _ _⟩,rfl⟩ ?_;refine Ap ?_;go_wp2_with fail
    go_meet
    case rel =>
     refine⟨wr.heap.size,A,c,rfl,Af _,Tj I _ _ _ _ _,(aj.less (by have:=U.size;omega)).grown (aF (aF (aF (aF (aF (AO _ _) _ _) _ _) _ _) _ _) _ _) (Hy I δ),((((ai.jv _ _ _ ah).jv _ _ _ ah).jv _ _ _ ah).jv _ _ _ ah).jv _ _ _ ah,bd.o _ _ _ _ _⟩
  case rest =>
   obtain⟨g,A,c,rfl,ci,bT,aj,ai,V⟩:=hcut;have a1:=aA bT;have a2:=aA aj;have a3:=aA ai;have bX:=aA V;have ah:R<wr.heap.size:=HR.o.lt;have cj:Hid (g≠R):=aA ω;have b0:Hid (R<g):=aA ω;have b1:Hid (wr.heap.size<=g):=aA ci;have ck:Hid ((Value.slice Aa acc.length ca).ownBlock=none\/(Value.slice Aa acc.length ca).ownBlock≠some R):=aA (by obtain⟨zs,aa⟩:=HO.o.own;exact vP aa ac);have b3:Hid (Y.gu left rest=Y.qc left (rest.takeWhile Y.isRef) (rest.dropWhile Y.isRef)):=aA rfl;have b4:Hid ((rest.dropWhile Y.isRef).length<=rest.length):=aA ((List.dropWhile_sublist _).length_le);clear bT aj ai V;generalize rest.takeWhile Y.isRef=rs at *;generalize rest.dropWhile Y.isRef=rest2 at *;have aq:=aA (Hi L B R px py rest2 8 8 wc a3.o);rw[Y.lL]at aq;rcases hb:Y.is [8] rest2 with _|_
   focus
    rw[hb]at aq;have cl:Hid (p=⟨left,rs,none⟩/\m3=rest2):=aA (by have h:=HP.o;rw[b3.o]at h;unfold Y.qc at h;rw[hb]at h;rw[AJ σ]at h;injection h with h1 h2;exact⟨h1.symm,h2.symm⟩);obtain⟨ak,Z⟩:=cl.o;have bf:Hid (wc.heap[g]?=some (.cells (a7 L p A c).toArray 161 (0,0))):=aA (by rw[ak];exact a1.o);have ad:Hid (gU L B R px py wc m3):=aA (by rw[Z];exact a3.o);have ae:Hid (kQ L wc w.heap.size A p.r):=aA (by rw[ak];exact a2.o);have E:=bX;have ar:Hid (m3.length<=rest.length):=aA (by rw[Z];exact b4.o);clear ak Z a1 a2;go_wp2_with fail
    refine aq.o.mono ?_;rintro _ _ ⟨rfl,rfl⟩
   rotate_left
   focus
    rw[hb]at aq;obtain⟨t8,r8,ab,af,_⟩:=Y.se hb;have al:=HP.o;rw[b3.o]at al;unfold Y.qc at al;rw[hb,Az rfl,af,Y.rU]at al;obtain⟨pt,r9,bg,al⟩:=Y.fx al;injection al with ak Z;have b5:=aA ak;have b6:=aA (FI L B R px py rest2 8 8 wc a3.o t8 r8 ((Hv 8 rest2).trans af));have b7:=aA (fun(x:World) (h:gU L B R px py x r8)=>FI L B R px py r8 1 2 x h pt r9 bg)
    have ar:Hid (m3.length<=rest.length):=aA (by
     have h1:=(Y.gH bg).1;have h2:=b4.o;rw[ab,h1]at h2;rw[<-Z];simp at h2
     omega)
    have cm:Hid (r9=m3):=aA Z;clear ab af bg ak Z hb;unfold cH at b6 b7;go_wp2_with fail
    refine aq.o.mono ?_;rintro _ _ ⟨rfl,rfl⟩;go_wp2_with fail
    refine b6.o.mono ?_;rintro _ w5 ⟨rfl,ap,b8⟩;have cn:=aA ap;have co:=aA b8;clear ap b8;go_wp2_with fail
    refine(b7.o _ co.o).mono ?_;rintro _ w6 ⟨rfl,b9,cb⟩;have V:=cn.o.trans b9;have n:=rL V a1.o cj.o;have e3:=AM w6 g 3 _ _ n;have e4:=AM w6 g 4 _ _ n;have d3:=bL n;have d4:=qJ n;have bh:=aA n;have cp:=aA (bX.o.trans V);have cq:=aA cb;have bi:=aA (a2.o.grown V a3.o.other);have cr:=aA (Hy n δ);clear n b9 cb V a1 a2;go_upto_region 9 with fail
    obtain⟨w7,am⟩:∃x,x=(w6.setCell ⟨g,3,none⟩ (.string (K.str pt.t))).setCell ⟨g,4,none⟩ (.complex .f64 (Fl.fl (Pl.pos (L.take pt.o)).1) (Fl.fl (Pl.pos (L.take pt.o)).2)):=⟨_,rfl⟩
    rw[<-am];have bf:Hid (w7.heap[g]?=some (.cells (a7 L p A c).toArray 161 (0,0))):=aA (by rw[am,<-b5.o];exact Pq bh.o _ _ rfl rfl);have ad:Hid (gU L B R px py w7 m3):=aA (by rw[am,<-cm.o];exact(cq.o.jv _ _ _ b0.o).jv _ _ _ b0.o);have ae:Hid (kQ L w7 w.heap.size A p.r):=aA (by rw[am,<-b5.o];exact bi.o.grown (aF (aF (AO _ _) _ _) _ _) cr.o);have E:Hid (wr.grownBy w7 (some R)):=aA (by rw[am];exact zR (zR cp.o _ _ _ b1.o) _ _ _ b1.o);clear am e3 e4 d3 d4
   rotate_left
   all_goals
    have bj:=aA (HO.o.grown E.o ⟨HR.o.other,ck.o⟩);have a4:Hid (acc.length<=4000):=aA ω;obtain⟨x3,x4,au⟩:=OB L p.p;have bk:=aA (show a7 L p A c=[.string (K.str p.l.t),.complex .f64 (Fl.fl (Pl.pos (L.take p.l.o)).1) (Fl.fl (Pl.pos (L.take p.l.o)).2),.slice A p.r.length c,x3,x4] by unfold a7;rw[au];rfl);have n:=bf.o;rw[bk.o]at n
   focus
    have g0:=aQ n;have g1:=aU n;have g2:=bB n;have g3:=bL n;have g4:=qJ n;have bl:=aA (fun j u (hj:(a7 L p A c)[j]?=some u)=>(tD wc [.string (K.str p.l.t),.complex .f64 (Fl.fl (Pl.pos (L.take p.l.o)).1) (Fl.fl (Pl.pos (L.take p.l.o)).2),.slice A p.r.length c,x3,x4] 161 j).trans (bk.o▸hj));have bm:Hid (w.heap.size<=wc.heap.size):=aA (by have h1:=HG.o.size;have h2:=E.o.size;omega)
   rotate_left
   focus
    have g0:=aQ n;have g1:=aU n;have g2:=bB n;have g3:=bL n;have g4:=qJ n;have bl:=aA (fun j u (hj:(a7 L p A c)[j]?=some u)=>(tD w7 [.string (K.str p.l.t),.complex .f64 (Fl.fl (Pl.pos (L.take p.l.o)).1) (Fl.fl (Pl.pos (L.take p.l.o)).2),.slice A p.r.length c,x3,x4] 161 j).trans (bk.o▸hj));have bm:Hid (w.heap.size<=w7.heap.size):=aA (by have h1:=HG.o.size;have h2:=E.o.size;omega)
   rotate_left
   all_goals
    have F:=aA (fun(x:World) (h:gU L B R px py x m3)=>Hi L B R px py m3 11 11 x h);have cc:=aA (HG.o.trans E.o);have cd:=rL E.o HB.o ω;have ce:=aA cd;clear n au bf cd;obtain⟨zs,aa⟩:=(bj.o.jw (.cells #[.string (K.str p.l.t),.complex .f64 (Fl.fl (Pl.pos (L.take p.l.o)).1) (Fl.fl (Pl.pos (L.take p.l.o)).2),.slice A p.r.length c,x3,x4] 161)).own;have ao:=aA aa;clear aa
   focus
    rcases b:Y.is [11] m3 with _|_
    focus
     have HK:=aA b;rw[Y.lL,b]at F;obtain⟨rfl,hk⟩:=Y.gH HT.o
     have H:t.k=12:=by
      have h1:[(11:Int)].contains t.k=false:=b;simp at h1 hk;omega
     have ag:=aA (fun(x:World) (h:gU L B R px py x (t::m4))=>z8 L B R px py t m4 12 12 x h (by show [(12:Int),12].contains t.k=true;rw[H];rfl));have s:Hid (acc++[p]=ps/\m4=r):=aA (by have h:=az.o;rw[AJ (by rw[H];decide)]at h;injection h with h1 h2;exact⟨h1,h2⟩)
    rotate_left
    focus
     have HK:=aA b;rw[Y.lL,b]at F;obtain⟨rfl,hk⟩:=Y.gH HT.o
     have H:t.k=11:=by
      have h1:[(11:Int)].contains t.k=true:=b
      simpa using h1
     have ag:=aA (fun(x:World) (h:gU L B R px py x (t::m4))=>z8 L B R px py t m4 11 11 x h (by show [(11:Int),11].contains t.k=true;rw[H];rfl));have s:Hid (Y.alts f left (acc++[p]) m4=.ok ps r):=aA (by have h:=az.o;rwa [Az H]at h)
    rotate_left
    all_goals
     unfold cH at ag;clear b hk H;go_wp2_with (at_builtin;(refine M5 rfl (.tmp 26) (.tmp 28) _ rfl underlying112 L w.heap.size _ acc rfl (bj.o.jw _) wc.heap.size 1 p A c rfl bl.o (ae.o.grown (aI (AO _ _) _) (bJ.none _)) (by have:=a4.o;omega) (by have:=bm.o;simp;omega) ?_;intro v9 w9 M N))
     have C:=aA ((ad.o.alloc (.cells #[.string (K.str p.l.t),.complex .f64 (Fl.fl (Pl.pos (L.take p.l.o)).1) (Fl.fl (Pl.pos (L.take p.l.o)).2),.slice A p.r.length c,x3,x4] 161)).own ao.o N ac);have bn:=aA (zM (aI cc.o (.cells #[.string (K.str p.l.t),.complex .f64 (Fl.fl (Pl.pos (L.take p.l.o)).1) (Fl.fl (Pl.pos (L.take p.l.o)).2),.slice A p.r.length c,x3,x4] 161)) ao.o N);obtain⟨A9,c9,av,_,_⟩:=M.form;rw[show(acc++[p]).length=acc.length+1 by simp]at av;subst av;have bo:=aA M;have bp:=aA ((LH ce.o (.cells #[.string (K.str p.l.t),.complex .f64 (Fl.fl (Pl.pos (L.take p.l.o)).1) (Fl.fl (Pl.pos (L.take p.l.o)).2),.slice A p.r.length c,x3,x4] 161) ao.o N));obtain⟨z9,z⟩:=M.own;have bq:=aA z;clear M N z;go_wp2_with fail
     refine(F.o _ C.o).mono ?_;rintro _ _ ⟨rfl,rfl⟩;go_wp2_with fail
     refine(ag.o _ C.o).mono ?_;rintro _ w10 ⟨rfl,i,D⟩;have aw:=aA (bn.o.trans i);have ax:=aA (bo.o.grown i ⟨C.o.other,vP bq.o ω⟩);have O:=aA D
    focus
     clear i D;go_wp2;go_ret
     refine⟨aw.o,_,rfl,?_,?_⟩
     ·rw[<-s.o.1];exact ax.o
     ·rw[<-s.o.2];exact O.o
    focus
     have br:=aA (rL i bp.o ω);clear i D;go_wp2;go_roundw
     case rel=>exact⟨acc++[p],m4,f,s,by have:=ar.o;simp at this;omega,ax.o,O.o,aw.o,br.o,by have:=ar.o;simp at this ⊢;omega⟩
     case measure=>have:=a4.o;simp[yL];omega
   focus
    rcases b:Y.is [11] m3 with _|_
    focus
     have HK:=aA b;rw[Y.lL,b]at F;obtain⟨rfl,hk⟩:=Y.gH HT.o
     have H:t.k=12:=by
      have h1:[(11:Int)].contains t.k=false:=b;simp at h1 hk;omega
     have ag:=aA (fun(x:World) (h:gU L B R px py x (t::m4))=>z8 L B R px py t m4 12 12 x h (by show [(12:Int),12].contains t.k=true;rw[H];rfl));have s:Hid (acc++[p]=ps/\m4=r):=aA (by have h:=az.o;rw[AJ (by rw[H];decide)]at h;injection h with h1 h2;exact⟨h1,h2⟩)
    rotate_left
    focus
     have HK:=aA b;rw[Y.lL,b]at F;obtain⟨rfl,hk⟩:=Y.gH HT.o
     have H:t.k=11:=by
      have h1:[(11:Int)].contains t.k=true:=b
      simpa using h1
     have ag:=aA (fun(x:World) (h:gU L B R px py x (t::m4))=>z8 L B R px py t m4 11 11 x h (by show [(11:Int),11].contains t.k=true;rw[H];rfl));have s:Hid (Y.alts f left (acc++[p]) m4=.ok ps r):=aA (by have h:=az.o;rwa [Az H]at h)
    rotate_left
    all_goals
     unfold cH at ag;clear b hk H;go_wp2_with (at_builtin;(refine M5 rfl (.tmp 26) (.tmp 28) _ rfl underlying112 L w.heap.size _ acc rfl (bj.o.jw _) w7.heap.size 1 p A c rfl bl.o (ae.o.grown (aI (AO _ _) _) (bJ.none _)) (by have:=a4.o;omega) (by have:=bm.o;simp;omega) ?_;intro v9 w9 M N))
     have C:=aA ((ad.o.alloc (.cells #[.string (K.str p.l.t),.complex .f64 (Fl.fl (Pl.pos (L.take p.l.o)).1) (Fl.fl (Pl.pos (L.take p.l.o)).2),.slice A p.r.length c,x3,x4] 161)).own ao.o N ac);have bn:=aA (zM (aI cc.o (.cells #[.string (K.str p.l.t),.complex .f64 (Fl.fl (Pl.pos (L.take p.l.o)).1) (Fl.fl (Pl.pos (L.take p.l.o)).2),.slice A p.r.length c,x3,x4] 161)) ao.o N);obtain⟨A9,c9,av,_,_⟩:=M.form;rw[show(acc++[p]).length=acc.length+1 by simp]at av;subst av;have bo:=aA M;have bp:=aA ((LH ce.o (.cells #[.string (K.str p.l.t),.complex .f64 (Fl.fl (Pl.pos (L.take p.l.o)).1) (Fl.fl (Pl.pos (L.take p.l.o)).2),.slice A p.r.length c,x3,x4] 161) ao.o N));obtain⟨z9,z⟩:=M.own;have bq:=aA z;clear M N z;go_wp2_with fail
     refine(F.o _ C.o).mono ?_;rintro _ _ ⟨rfl,rfl⟩;go_wp2_with fail
     refine(ag.o _ C.o).mono ?_;rintro _ w10 ⟨rfl,i,D⟩;have aw:=aA (bn.o.trans i);have ax:=aA (bo.o.grown i ⟨C.o.other,vP bq.o ω⟩);have O:=aA D
    focus
     clear i D;go_wp2;go_ret
     refine⟨aw.o,_,rfl,?_,?_⟩
     ·rw[<-s.o.1];exact ax.o
     ·rw[<-s.o.2];exact O.o
    focus
     have br:=aA (rL i bp.o ω);clear i D;go_wp2;go_roundw
     case rel=>exact⟨acc++[p],m4,f,s,by have:=ar.o;simp at this;omega,ax.o,O.o,aw.o,br.o,by have:=ar.o;simp at this ⊢;omega⟩
     case measure=>have:=a4.o;simp[yL];omega
def Kq (x:fv):Prop:=K.Tx x.t/\Gm.named x.t=true/\x.t≠[101,114,114,111,114]
def F0 (ds:List Y.jL):Prop:=∀d∈ds,d.k=4\/d.k=5
def F4 (p:Y.iu):Prop:=∀x,p.p=some x->Kq x
theorem K9 {k:Int} (hk:k=4\/k=5):∀(xs:List fv) {s s':Gm.S1},Gm.je k s xs=.ok s'->s'.st=s.st
 | [],s,s',h=>by rw[Gm.je]at h;injection h with h;subst h;rfl
 | x::r,s,s',h=>by
  rw[Gm.je]at h;obtain⟨s1,h1,h2⟩:=Gm.R.bind_eq h;rw[K9 hk r h2];unfold Gm.mB at h1;rw[AJ ω,AJ ω]at h1;split at h1
  ·cases h1
  ·obtain⟨p,_,h1⟩:=Gm.R.bind_eq h1;injection h1 with h1;subst h1;rfl
theorem K8:∀(ds:List Y.jL) {S S':Gm.S1},F0 ds->Gm.decls S ds=.ok S'->S'.st=S.st
 | [],S,S',_,h=>by rw[Gm.decls]at h;injection h with h;subst h;rfl
 | d::r,S,S',hk,h=>by
  rw[Gm.decls]at h;obtain⟨s1,h1,h2⟩:=Gm.R.bind_eq h;rw[K8 r (fun d hd=>hk d (Bq _ hd)) h2,K9 (hk d (Bn ..)) d.ns h1];unfold Gm.up;split <;> rfl
theorem Y.mC:∀(f:Nat) (acc:List Y.jL) (ts:List fv) (ds:List Y.jL) (r:List fv),Y.decls f acc ts=.ok ds r->∃ms,ds=acc++ms
 | 0,acc,ts,ds,r,h=>by injection h with h1 h2;exact⟨[],by rw[<-h1,CG]⟩
 | f+1,acc,ts,ds,r,h=>by
  rw[Y.decls]at h;split at h
  ·injection h with h1 h2;exact⟨[],by rw[<-h1,CG]⟩
  ·obtain⟨d,m,h1,h2⟩:=Y.fx h;obtain⟨ms,e⟩:=Y.mC f _ _ _ _ h2;exact⟨d::ms,by rw[e];simp⟩
theorem bP.jw {L:List Int} (h:bP L w base v ds) (o:Obj):bP L (w.alloc o) base v ds:=h.grown (aI (AO _ _) o) (yU.none _ _)
theorem Vf (L:List Int) (B R px py:Nat) (f:Nat) (ts:List fv) (ds:List Y.jL) (r:List fv) (w:World) (hr:gU L B R px py w ts) (hy:Y.decls f [] ts=.ok ds r) (hf:ts.length<f) (bj:F0 ds) :
  Calls prog 124 #[.pointer (some ⟨R,0,none⟩)] w fun e w'=>w.grownBy w' (some R)/\∃v,e=.returned v/\bP L w' w.heap.size v ds/\gU L B R px py w' r:=by
 have HR:=aA hr;have ac:=hr.lt;have HY:=aA hy;have HF:=aA hf;have bk:=aA bj;have b5:=hr.len;have SC:=fun a w m X Y=>show(store a (.complex .f64 X Y) m).run prog w=stored prog w a (.complex .f64 X Y) m from run_store _ w a _ m rfl;have BDD:=fun A (n c:Nat) k w=>(EC w 209 _ _ κ:(Instr.build 209 #[(0,.int .i64 k),(1,.slice A n c)]).run prog w=.ok (.agg #[.int .i64 k,.slice A n c]) w)
 clear hr hy hf bj
 go_enter func124,ntmps124
 go_wp2;go_loopw [3] (fun v wr=>∃(acc:List Y.jL) (rest:List fv) (f:Nat),Hid (Y.decls f acc rest=.ok ds r)/\rest.length<f/\bP L wr w.heap.size v acc/\gU L B R px py wr rest/\w.grownBy wr (some R)/\acc.length+rest.length<=ts.length) (fun v _=>4001-yL v)
 case atStart=>exact⟨[],ts,f,HY,HF.o,bP.nil _ _ _,HR.o,AO _ _,σ⟩
 case round =>
  clear HR HY HF;obtain⟨acc,rest,f,HY,hf,ho,hr,hg,hl⟩:=hrel;have HO:=aA ho;have HR:=aA hr;have HG:=aA hg;obtain⟨Aa,ca,rfl,_,_⟩:=ho.form;obtain⟨f,rfl⟩:∃f',f=f'+1:=⟨f-1,ω⟩
  obtain⟨Ax,cx,b6,b8,_⟩:=hr.cell0;have ar:=aA (fun(x:World) (h:gU L B R px py x rest)=>Ke L B R px py rest x h);have hY:=HY.o;rw[Y.decls]at hY;rcases rest with _|⟨t,m1⟩
  ·exfalso
   rw[AJ (by simp[Y.is])]at hY;obtain⟨d,m,h1,_⟩:=Y.fx hY;unfold Y.decl at h1;obtain⟨t,m,h2,_⟩:=Y.fx h1;cases h2
  have bD:Hid (kd (t::m1)=t.k):=aA rfl;rw[bD.o]at ar;have bM:0<((t::m1).length:Int):=σ
  by_cases h9:t.k=9
  ·have au:Hid (acc=ds/\t::m1=r):=aA (by
    rw[Az (by show [(9:Int)].contains t.k=true;rw[h9];rfl)]at hY;injection hY with h1 h2;exact⟨h1,h2⟩)
   rw[h9]at ar;clear hY h9 ho hr hg;generalize (t::m1).length=n at *;go_wp2_with fail
   refine(ar.o _ HR.o).mono ?_;rintro _ _ ⟨rfl,rfl⟩;go_wp2;go_ret
   exact⟨HG.o,_,rfl,by rw[<-au.o.1];exact HO.o,by rw[<-au.o.2];exact HR.o⟩
  ·rw[AJ (by show ¬ [(9:Int)].contains t.k=true;simpa using fun e=>h9 e)]at hY;obtain⟨d,m2,hd,hY⟩:=Y.fx hY
   have av:d.k=4\/d.k=5:=by
    obtain⟨ms,e⟩:=Y.mC _ _ _ _ _ hY;exact bk.o d (by rw[e];simp)
   unfold Y.decl at hd;obtain⟨t',m',h1,hd⟩:=Y.fx hd;obtain⟨e1,hk⟩:=Y.gH h1;injection e1 with e1 e2;subst e1 e2;by_cases h7:t.k=7
   ·rw[Az h7]at hd;obtain⟨n,m,_,hd⟩:=Y.fx hd;injection hd with hd _;rw[<-hd]at av;simp at av
   rw[AJ h7]at hd;obtain⟨n,m3,h2,hd⟩:=Y.fx hd;injection hd with hd bl;have bT:t.k=4\/t.k=5:=by rw[<-hd]at av;exact av
   have HD:=aA (Ca hd bl);have bm:Hid ((t::m1).length=m3.length+2):=aA (by rw[(Y.gH h2).1];simp);have bn:=aA (fun(x:World) (h:gU L B R px py x (t::m1))=>z8 L B R px py t m1 t.k t.k x h (by show [t.k,t.k].contains t.k=true;simp));have bo:=aA (fun(x:World) (h:gU L B R px py x m1)=>FI L B R px py m1 1 2 x h n m3 h2);have bX:=aA hY;have b9:(t.k != 9)=true:=by simpa using h9
   have b7:(t.k==7)=false:=by simpa using h7
   have b0:=aA bT;unfold cH at bn bo;clear hY hd bl h1 h2 hk av h9 h7 ho hr hg;generalize (t::m1).length=len at *;generalize bp:t.k=tk at *;have cb:=aA bp;clear bp;have a5:Hid ((Value.slice Aa acc.length ca).ownBlock=none\/(Value.slice Aa acc.length ca).ownBlock≠some R):=aA (by obtain⟨zs,a9⟩:=HO.o.own;exact vP a9 ac);have aw:Hid (acc.length+m3.length<=4000):=aA (by have:=bm.o;omega)
   have ap:Hid (Hid (Y.decls f (acc++[d]) (m3.dropWhile Y.isRef)=.ok ds r)/\(m3.dropWhile Y.isRef).length<f/\(acc++[d]).length+(m3.dropWhile Y.isRef).length<=ts.length):=aA (by
    have h1:(m3.dropWhile Y.isRef).length<=m3.length:=(List.dropWhile_sublist _).length_le;have h2:=bm.o;refine⟨by rw[HD.o.2];exact bX,ω,?_⟩;rw[AZ,BC]
    omega)
   have bq:Hid ((m3.takeWhile Y.isRef).length<=4000):=aA (by have h1:(m3.takeWhile Y.isRef).length<=m3.length:=(List.takeWhile_sublist _).length_le;have:=aw.o;omega);have br:Hid (n::m3.takeWhile Y.isRef=d.ns):=aA (by rw[<-HD.o.1]);have bs:Hid (∀(A:Option Addr) (c:Nat),wE d A c=[.int .i64 tk,.slice A ((m3.takeWhile Y.isRef).length+1) c]):=aA (by intro A c;unfold wE;rw[<-HD.o.1];simp only[Bz]);clear bk;rcases b0.o with rfl|rfl
   all_goals
    go_wp2_with fail
    refine(ar.o _ HR.o).mono ?_;rintro _ _ ⟨rfl,rfl⟩;go_wp2_with fail
    refine(ar.o _ HR.o).mono ?_;rintro _ _ ⟨rfl,rfl⟩;go_wp2_with fail
    refine(bn.o _ HR.o).mono ?_;rintro _ w2 ⟨rfl,ba,bu⟩;have b1:=aA (HG.o.trans ba);have bv:=aA bu;have ax:=aA (HO.o.grown ba ⟨HR.o.other,a5.o⟩);clear ba bu;go_wp2_with fail
    refine(bo.o _ bv.o).mono ?_;rintro _ w3 ⟨rfl,bb,bw⟩;have b3:=aA (b1.o.trans bb);have bx:=aA bw;have ay:=aA (ax.o.grown bb ⟨bv.o.other,a5.o⟩);clear bb bw;go_upto_region 11 with fail
    obtain⟨w4,aq⟩:∃x,x=w3.alloc (.cells #[.string (K.str n.t),.complex .f64 (Fl.fl (Pl.pos (L.take n.o)).1) (Fl.fl (Pl.pos (L.take n.o)).2)] 153):=⟨_,rfl⟩
    rw[<-aq];have bc:Hid (w.grownBy w4 (some R)):=aA (by rw[aq];exact aI b3.o _);have z:Hid (gU L B R px py w4 m3):=aA (by rw[aq];exact bx.o.alloc _);have ad:Hid (w4.heap[w3.heap.size]?=some (.cells #[.string (K.str n.t),.complex .f64 (Fl.fl (Pl.pos (L.take n.o)).1) (Fl.fl (Pl.pos (L.take n.o)).2)] 153 (0,0))):=aA (by rw[aq];exact AI w3 _);have az:Hid (bP L w4 w.heap.size (.slice Aa acc.length ca) acc):=aA (by rw[aq];exact ay.o.jw _);have bz:w.heap.size<=w4.heap.size:=bc.o.size;have b4:w3.heap.size≠R:=by have:=bx.o.lt;omega
    clear aq ax ay;have CL0:=fun y:Calm.kC w3.heap.size w4=>(show y.1.cell? ⟨w3.heap.size,0,none⟩=some (.string (K.str n.t)) by rw[AF y.1 _ 0 _ _ _ (y.2.trans ad.o)];rfl)
    have CL1:=fun y:Calm.kC w3.heap.size w4=>(show y.1.cell? ⟨w3.heap.size,1,none⟩=some (.complex .f64 (Fl.fl (Pl.pos (L.take n.o)).1) (Fl.fl (Pl.pos (L.take n.o)).2)) by rw[AF y.1 _ 1 _ _ _ (y.2.trans ad.o)];rfl)
    have bd:w4.grownBy w4.drew (some R):=tC w4 _;have HM:=aA (fun(x:World) (h:w4.grownBy x (some R))=>h.block w3.heap.size (Ad.1 ad.o).1 (fun e=>by injection e with e;omega));have a6:=aA (fun(x:World) (h:gU L B R px py x m3)=>NZ L B R px py m3 x h);refine Calm.fk (fun x=>∃y:Calm.kC w3.heap.size w4,x=y.1) (.two [0,1,2,4] 3 (.one [] 5 (.one [] 6 (.one [7] 8 (.one [] 9 (.fin [10]))))) 5 (.one [] 3 (.one [] 6 (.one [7] 8 (.one [] 9 (.fin [10])))))) ⟨⟨w4.drew,HM.o _ bd⟩,rfl⟩ ?_;simp only[Calm.fS,Calm.fu,Calm.fo,Aq,Ai,Am];repeat (go_big_quiet_step (fail))
    refine Ap ?_;clear CL0 CL1
   focus
    refine⟨?_,?_⟩
    focus
     intro KK b;rw[Az ε];go_wp2_with fail
     obtain⟨w5,Z⟩:∃x,x=(w4.alloc (.cells #[.string (K.str n.t),.complex .f64 (Fl.fl (Pl.pos (L.take n.o)).1) (Fl.fl (Pl.pos (L.take n.o)).2)] 153)).drew:=⟨_,rfl⟩
     rw[<-Z];have i:w4.grownBy w5 .none:=by rw[Z];exact(aI (AO _ _) _).trans (tC _ _)
     have a0:bV L w5 w4.heap.size (.slice (some ⟨w4.heap.size,0,none⟩) 1 1) [n]:=by rw[Z];exact Iq L w4 _ n (Af _)
     have g:=z.o.row i;clear Z;refine b _ _ ⟨⟨w5,HM.o _ (i.row _)⟩,rfl⟩ _ ι ⟨⟨w5,HM.o _ (i.row _)⟩,rfl⟩ ?_;refine Ap ?_;intro KK b;try rw[Az ε]
     go_wp2_with fail
     refine(a6.o _ g).mono ?_;rintro _ w6 ⟨ae,v6,rfl,E,F⟩;have l:Hid (w4.grownBy w6 (some R)):=aA ((i.row _).trans ae);have af:=a0.grown ae g.other;have H:=aA F;obtain⟨A6,c6,rfl,_,_,I⟩:=E.rd;have J:=aA (I.less i.size);clear i a0 g ae E F I;go_wp2_with fail
     refine b _ _ ⟨⟨w6,HM.o _ l.o⟩,rfl⟩ _ ι ⟨⟨w6,HM.o _ l.o⟩,rfl⟩ ?_;have SV:Hid ((Value.slice (some ⟨w4.heap.size,0,none⟩) 1 1:Value)=.slice (some ⟨w4.heap.size,0,none⟩) 1 1):=aA rfl
    rotate_left
    focus
     intro KK b;rw[Az ε];go_wp2_with fail
     refine(a6.o _ z.o.drew).mono ?_;rintro _ w5 ⟨M,v5,rfl,E,g⟩;have i:w4.grownBy w5 (some R):=bd.trans M;obtain⟨A6,c6,rfl,_,_,N⟩:=E.rd;go_wp2_with fail
     refine b _ _ ⟨⟨w5,HM.o _ i⟩,rfl⟩ _ ι ⟨⟨w5,HM.o _ i⟩,rfl⟩ ?_;refine Ap ?_;intro KK b;try rw[Az ε]
     go_wp2_with fail
     obtain⟨w6,C⟩:∃x,x=w5.alloc (.cells #[.string (K.str n.t),.complex .f64 (Fl.fl (Pl.pos (L.take n.o)).1) (Fl.fl (Pl.pos (L.take n.o)).2)] 153):=⟨_,rfl⟩
     rw[<-C];have l:Hid (w4.grownBy w6 (some R)):=aA (by rw[C];exact aI i _);have af:bV L w6 w4.heap.size (.slice (some ⟨w5.heap.size,0,none⟩) 1 1) [n]:=by rw[C];exact Iq L w5 _ n i.size
     have H:Hid (gU L B R px py w6 (m3.dropWhile Y.isRef)):=aA (by rw[C];exact g.alloc _);have J:Hid (kQ L w6 w4.heap.size A6 (m3.takeWhile Y.isRef)):=aA (by rw[C];exact(N.less (Af _)).grown (aI (AO _ _) _) (bJ.none _));clear C i M E N g;refine b _ _ ⟨⟨w6,HM.o _ l.o⟩,rfl⟩ _ ι ⟨⟨w6,HM.o _ l.o⟩,rfl⟩ ?_
    all_goals
     refine Ap ?_;intro KK b;try rw[Az ε]
     have ag:=aA af;clear af;refine M0 (.tmp 65) (.tmp 67) _ rfl underlying159 L w4.heap.size w4.heap.size _ [n] rfl ag.o A6 _ c6 _ rfl rfl J.o (by have:=bq.o;rw[BC];omega) (by have:=l.o.size;omega) ?_;intro v7 w7 a1 ah;have p:w4.grownBy w7 (some R):=zM l.o ag.o ah;have O:=H.o.own ag.o ah ω;have U:=az.o.grown p ⟨z.o.other,a5.o⟩;obtain⟨A7,c7,a2,_,_,s⟩:=a1.rd;rw[show([n]++m3.takeWhile Y.isRef).length=(m3.takeWhile Y.isRef).length+1 by rw[AZ,BC];omega]at a2;subst a2;have bf:=aA s;have ai:=aA O;have aa:=aA p;have V:=aA U;have aj:Hid (kQ L w7 w.heap.size A7 d.ns):=aA (by rw[<-br.o];exact s.less bz);clear a1 ah p s O U;go_wp2_with fail
     refine b _ _ ⟨⟨w7,HM.o _ aa.o⟩,rfl⟩ _ ι ⟨⟨w7,HM.o _ aa.o⟩,rfl⟩ ?_;repeat (go_big_quiet_step (fail))
     refine Ap ?_;intro KK b;try rw[Az ε]
     go_wp2_with fail
     have D:=aA (aI aa.o (.cells #[.int .i64 4,.slice A7 ((m3.takeWhile Y.isRef).length+1) c7] 209));have bg:=aA (fun j u (hj:(wE d A7 c7)[j]?=some u)=>(tD w7 [.int .i64 4,.slice A7 ((m3.takeWhile Y.isRef).length+1) c7] 209 j).trans (bs.o A7 c7▸hj));refine b _ _ ⟨⟨_,HM.o _ D.o⟩,rfl⟩ _ ι ⟨⟨_,HM.o _ D.o⟩,rfl⟩ ?_;refine Ap ?_;intro KK b;try rw[Az ε]
     refine NM (.tmp 62) (.tmp 70) _ rfl underlying111 L w.heap.size (.slice Aa acc.length ca) acc rfl (V.o.jw _) w7.heap.size 1 d A7 c7 rfl bg.o (aj.o.grown (aI (AO _ _) _) (bJ.none _)) (by have:=aw.o;omega) (by have:=aa.o.size;simp;omega) ?_;intro v9 w9 ak ab;obtain⟨z9,al⟩:=(V.o.jw (.cells #[.int .i64 4,.slice A7 ((m3.takeWhile Y.isRef).length+1) c7] 209)).own;have bh:=aA (zM (bc.o.trans D.o) al ab);have am:=aA (World.grownBy.block ab w3.heap.size (by have h1:=(Ad.1 ad.o).1;have h2:=D.o.size;omega) (by rcases aP al ((HM.o _ D.o).trans ad.o) (fun cur e=>by injection e with _ e;exact absurd e δ) with q|q;rw[q];simp;exact fun e=>q e.symm));have a3:=aA (am.o.trans (HM.o _ D.o));have ao:=aA ((ai.o.alloc (.cells #[.int .i64 4,.slice A7 ((m3.takeWhile Y.isRef).length+1) c7] 209)).own al ab ac);obtain⟨A9,c9,a4,_,_⟩:=ak.form;rw[show(acc++[d]).length=acc.length+1 by simp]at a4;subst a4;have bi:=aA ak;clear ak ab;go_wp2_with fail
     refine b _ _ ⟨⟨w9,a3.o⟩,rfl⟩ _ ι ⟨⟨w9,a3.o⟩,rfl⟩ ?_;repeat (go_big_quiet_step (fail))
     refine Ap ?_;go_wp2_with fail
     go_roundw
     case rel=>exact⟨acc++[d],m3.dropWhile Y.isRef,f,ap.o.1,ap.o.2.1,bi.o,ao.o,bh.o,ap.o.2.2⟩
     case measure=>have:=aw.o;simp[yL];omega
   focus
    refine⟨?_,?_⟩
    focus
     intro KK b;rw[Az ε];go_wp2_with fail
     obtain⟨w5,Z⟩:∃x,x=(w4.alloc (.cells #[.string (K.str n.t),.complex .f64 (Fl.fl (Pl.pos (L.take n.o)).1) (Fl.fl (Pl.pos (L.take n.o)).2)] 153)).drew:=⟨_,rfl⟩
     rw[<-Z];have i:w4.grownBy w5 .none:=by rw[Z];exact(aI (AO _ _) _).trans (tC _ _)
     have a0:bV L w5 w4.heap.size (.slice (some ⟨w4.heap.size,0,none⟩) 1 1) [n]:=by rw[Z];exact Iq L w4 _ n (Af _)
     have g:=z.o.row i;clear Z;refine b _ _ ⟨⟨w5,HM.o _ (i.row _)⟩,rfl⟩ _ ι ⟨⟨w5,HM.o _ (i.row _)⟩,rfl⟩ ?_;refine Ap ?_;intro KK b;try rw[Az ε]
     go_wp2_with fail
     refine(a6.o _ g).mono ?_;rintro _ w6 ⟨ae,v6,rfl,E,F⟩;have l:Hid (w4.grownBy w6 (some R)):=aA ((i.row _).trans ae);have af:=a0.grown ae g.other;have H:=aA F;obtain⟨A6,c6,rfl,_,_,I⟩:=E.rd;have J:=aA (I.less i.size);clear i a0 g ae E F I;go_wp2_with fail
     refine b _ _ ⟨⟨w6,HM.o _ l.o⟩,rfl⟩ _ ι ⟨⟨w6,HM.o _ l.o⟩,rfl⟩ ?_;have SV:Hid ((Value.slice (some ⟨w4.heap.size,0,none⟩) 1 1:Value)=.slice (some ⟨w4.heap.size,0,none⟩) 1 1):=aA rfl
    rotate_left
    focus
     intro KK b;rw[Az ε];go_wp2_with fail
     refine(a6.o _ z.o.drew).mono ?_;rintro _ w5 ⟨M,v5,rfl,E,g⟩;have i:w4.grownBy w5 (some R):=bd.trans M;obtain⟨A6,c6,rfl,_,_,N⟩:=E.rd;go_wp2_with fail
     refine b _ _ ⟨⟨w5,HM.o _ i⟩,rfl⟩ _ ι ⟨⟨w5,HM.o _ i⟩,rfl⟩ ?_;refine Ap ?_;intro KK b;try rw[Az ε]
     go_wp2_with fail
     obtain⟨w6,C⟩:∃x,x=w5.alloc (.cells #[.string (K.str n.t),.complex .f64 (Fl.fl (Pl.pos (L.take n.o)).1) (Fl.fl (Pl.pos (L.take n.o)).2)] 153):=⟨_,rfl⟩
     rw[<-C];have l:Hid (w4.grownBy w6 (some R)):=aA (by rw[C];exact aI i _);have af:bV L w6 w4.heap.size (.slice (some ⟨w5.heap.size,0,none⟩) 1 1) [n]:=by rw[C];exact Iq L w5 _ n i.size
     have H:Hid (gU L B R px py w6 (m3.dropWhile Y.isRef)):=aA (by rw[C];exact g.alloc _);have J:Hid (kQ L w6 w4.heap.size A6 (m3.takeWhile Y.isRef)):=aA (by rw[C];exact(N.less (Af _)).grown (aI (AO _ _) _) (bJ.none _));clear C i M E N g;refine b _ _ ⟨⟨w6,HM.o _ l.o⟩,rfl⟩ _ ι ⟨⟨w6,HM.o _ l.o⟩,rfl⟩ ?_
    all_goals
     refine Ap ?_;intro KK b;try rw[Az ε]
     have ag:=aA af;clear af;refine M0 (.tmp 65) (.tmp 67) _ rfl underlying159 L w4.heap.size w4.heap.size _ [n] rfl ag.o A6 _ c6 _ rfl rfl J.o (by have:=bq.o;rw[BC];omega) (by have:=l.o.size;omega) ?_;intro v7 w7 a1 ah;have p:w4.grownBy w7 (some R):=zM l.o ag.o ah;have O:=H.o.own ag.o ah ω;have U:=az.o.grown p ⟨z.o.other,a5.o⟩;obtain⟨A7,c7,a2,_,_,s⟩:=a1.rd;rw[show([n]++m3.takeWhile Y.isRef).length=(m3.takeWhile Y.isRef).length+1 by rw[AZ,BC];omega]at a2;subst a2;have bf:=aA s;have ai:=aA O;have aa:=aA p;have V:=aA U;have aj:Hid (kQ L w7 w.heap.size A7 d.ns):=aA (by rw[<-br.o];exact s.less bz);clear a1 ah p s O U;go_wp2_with fail
     refine b _ _ ⟨⟨w7,HM.o _ aa.o⟩,rfl⟩ _ ι ⟨⟨w7,HM.o _ aa.o⟩,rfl⟩ ?_;repeat (go_big_quiet_step (fail))
     refine Ap ?_;intro KK b;try rw[Az ε]
     go_wp2_with fail
     have D:=aA (aI aa.o (.cells #[.int .i64 5,.slice A7 ((m3.takeWhile Y.isRef).length+1) c7] 209));have bg:=aA (fun j u (hj:(wE d A7 c7)[j]?=some u)=>(tD w7 [.int .i64 5,.slice A7 ((m3.takeWhile Y.isRef).length+1) c7] 209 j).trans (bs.o A7 c7▸hj));refine b _ _ ⟨⟨_,HM.o _ D.o⟩,rfl⟩ _ ι ⟨⟨_,HM.o _ D.o⟩,rfl⟩ ?_;refine Ap ?_;intro KK b;try rw[Az ε]
     refine NM (.tmp 62) (.tmp 70) _ rfl underlying111 L w.heap.size (.slice Aa acc.length ca) acc rfl (V.o.jw _) w7.heap.size 1 d A7 c7 rfl bg.o (aj.o.grown (aI (AO _ _) _) (bJ.none _)) (by have:=aw.o;omega) (by have:=aa.o.size;simp;omega) ?_;intro v9 w9 ak ab;obtain⟨z9,al⟩:=(V.o.jw (.cells #[.int .i64 5,.slice A7 ((m3.takeWhile Y.isRef).length+1) c7] 209)).own;have bh:=aA (zM (bc.o.trans D.o) al ab);have am:=aA (World.grownBy.block ab w3.heap.size (by have h1:=(Ad.1 ad.o).1;have h2:=D.o.size;omega) (by rcases aP al ((HM.o _ D.o).trans ad.o) (fun cur e=>by injection e with _ e;exact absurd e δ) with q|q;rw[q];simp;exact fun e=>q e.symm));have a3:=aA (am.o.trans (HM.o _ D.o));have ao:=aA ((ai.o.alloc (.cells #[.int .i64 5,.slice A7 ((m3.takeWhile Y.isRef).length+1) c7] 209)).own al ab ac);obtain⟨A9,c9,a4,_,_⟩:=ak.form;rw[show(acc++[d]).length=acc.length+1 by simp]at a4;subst a4;have bi:=aA ak;clear ak ab;go_wp2_with fail
     refine b _ _ ⟨⟨w9,a3.o⟩,rfl⟩ _ ι ⟨⟨w9,a3.o⟩,rfl⟩ ?_;repeat (go_big_quiet_step (fail))
     refine Ap ?_;go_wp2_with fail
     go_roundw
     case rel=>exact⟨acc++[d],m3.dropWhile Y.isRef,f,ap.o.1,ap.o.2.1,bi.o,ao.o,bh.o,ap.o.2.2⟩
     case measure=>have:=aw.o;simp[yL];omega
namespace T
theorem jB (l:List Int) (a b:Int) (hl:K.Bytes l) (ab:K.Bytes [a,b]) (h:pre l [a,b]=true):l.getD 0 0=a/\l.getD 1 0=b:=by
 have aa:=GW l _ h;rw[p5 l [a,b],BP,gw,gw]at h;have h2:=K.bytes_inj (hl.take 2) ab h
 match l,aa with
 | x::y::r,_ =>
  simp at h2;exact⟨h2.1,h2.2⟩
theorem pZ (l:List Int) (h:l.getD 0 0=32\/l.getD 0 0=9\/l.getD 0 0=10\/l.getD 0 0=13):piece l=(0,1,0):=by
 unfold piece;simp only;rw[Az h]
theorem pY (l:List Int) (h:l.getD 0 0=47):piece l=comment l:=by
 unfold piece;simp only[h];rfl
theorem uQ (l:List Int) (h:l.getD 0 0=60):piece l=skip (line l) 1 [62]:=by
 unfold piece;simp only[h];rfl
theorem s8 (l:List Int) (h:l.getD 0 0=123):piece l=action l:=by
 unfold piece;simp only[h];rfl
theorem mO (l:List Int) (h:l.getD 0 0=37):piece l=jA l:=by
 unfold piece;simp only[h];rfl
theorem rj (l:List Int) (hb:¬(l.getD 0 0=32\/l.getD 0 0=9\/l.getD 0 0=10\/l.getD 0 0=13)) (h1:pre l [47,42]=false) (h2:pre l [47,47]=false) (h3:pre l [37,123]=false) (h4:¬l.getD 0 0=60) (h5:¬l.getD 0 0=123) (he:(piece l).2.2=0):(piece l).1≠0:=by
 revert he
 unfold piece;simp only;rw[AJ hb,AJ h4,AJ h5];split
 ·unfold comment;rw[h1,h2];simp
 split
 ·unfold jA;rw[h3];have hw:=nc (List.drop 1 (List.take (jV l) l));split
  ·simp
  split
  ·rename_i h;simp at h
  split
  ·simp
  ·rename_i hh;intro _;exact hh
 split
 ·unfold literal;split
  ·simp
  split
  ·simp
  split <;> simp
 split
 ·simp
 split
 ·simp
 split
 ·simp
 ·unfold name;split
  ·simp
  split <;> simp
end T
def wG (k:Nat) (x:T.P3):Value:=.tuple #[.int .i64 (if x.1=0 then((k+x.2.1:Nat):Int) else k),.bool (x.1==0)]
theorem QC (w:World) (A:Option Addr) (c n k:Nat) (hk:k<=c):(Instr.sliceAt 72 (.slice A n c) none (some (.int .i64 k)) none).run prog w=.ok (.slice A k c) w:=Q5 w A c n k hk
theorem GL {x:T.P3} {P:Int} (h:x.1=0) (hp:P=((k+x.2.1:Nat):Int)):wG k x=.tuple #[.int .i64 P,.bool true]:=by
 unfold wG;rw[Az h,h,hp];rfl
theorem LA {x:T.P3} (h:x.1≠0):wG k x=.tuple #[.int .i64 k,.bool false]:=by
 unfold wG;rw[AJ h,show(x.1==0)=false by simpa using h]
theorem Ju (k:Nat) (m:List Int) (f:Nat) (s:List Int) (P:Int) (hP:T.iT m s (k+f)=P) (l:List Int) (hl:m.drop (k+f)=l.drop f) (he:(T.skip l f s).2.2=0):P=((k+(T.skip l f s).2.1:Nat):Int)/\(T.skip l f s).1=0:=by
 unfold T.iT at hP;rw[hl]at hP;unfold T.skip at he ⊢;by_cases h:T.ix (l.drop f) s<0
 ·rw[Az h]at he;simp at he
 ·rw[AJ h]at he ⊢;rw[AJ h]at hP;refine⟨?_,rfl⟩;simp only;omega
theorem QG (A:Option Addr) (c B:Nat) (L:List Int) (k:Nat) (w:World) (hr:ij w B A L) (hl:K.Bytes L) (hc:L.length<=c) (hn:L.length<=5000) (hk:k<L.length) (he:(T.piece (L.drop k)).2.2=0) :
  Calls prog 121 #[.slice A L.length c,.int .i64 k] w fun e w'=>e=.returned (wG k (T.piece (L.drop k)))/\w=w':=by
 obtain⟨g,o,rfl,_,ae⟩:=hr ω;have af:=ae k hk;have hz:(L.drop k).getD 0 0=L.getD k 0:=by rw[Go.Proofs.YtjjbaehamplnaaaGreat.L.fP L k hk];rfl
 have H1:=aA (zQ _ c B L [47,42] k w hr hl hc hn ω δ);have H2:=aA (zQ _ c B L [47,47] k w hr hl hc hn ω δ);have H3:=aA (zQ _ c B L [37,123] k w hr hl hc hn ω δ);rw[show K.str [47,42]=⟨#[47,42]⟩ from rfl]at H1;rw[show K.str [47,47]=⟨#[47,47]⟩ from rfl]at H2;rw[show K.str [37,123]=⟨#[37,123]⟩ from rfl]at H3;have r:=aA (T.pZ (L.drop k));have s:=aA (T.rj (L.drop k));rw[hz]at r s;have HR:=aA hr;have HL:=aA hl;have HE:=aA he;have HZ:=aA hz;have i:=hl.drop k;clear ae hr hl he hz;by_cases hb:L.getD k 0=32\/L.getD k 0=9\/L.getD k 0=10\/L.getD k 0=13
 ·have hp:=r.o hb;rw[hp];unfold wG;clear H1 H2 H3 r s hp HE i;generalize L.getD k 0=z at *;rcases hb with rfl|rfl|rfl|rfl
  all_goals
   go_enter func121,ntmps121
   go_wp2
   go_ret2
   exact⟨rfl,rfl⟩
 ·have n1:(L.getD k 0==32)=false:=by simpa using fun e=>hb (.inl e)
  have n2:(L.getD k 0==9)=false:=by simpa using fun e=>hb (.inr (.inl e))
  have n3:(L.getD k 0==10)=false:=by simpa using fun e=>hb (.inr (.inr (.inl e)))
  have n4:(L.getD k 0==13)=false:=by simpa using fun e=>hb (.inr (.inr (.inr e)))
  rcases j:T.pre (L.drop k) [47,42] with _|_
  ·rw[j]at H1;rcases l:T.pre (L.drop k) [47,47] with _|_
   ·rw[l]at H2;rcases p:T.pre (L.drop k) [37,123] with _|_
    ·rw[p]at H3;by_cases t:L.getD k 0=60
     ·have f:(L.drop k).getD 0 0=60:=HZ.o.trans t;have b:T.piece (L.drop k)=T.skip (T.line (L.drop k)) 1 [62]:=T.uQ _ f;have ag:=T.sr (L.drop k);rw[Bt]at ag
      have ah:T.line (L.drop k)=(L.drop k).take (T.line (L.drop k)).length:=by
       unfold T.line;have hx:=T.ou (L.drop k) [10];split
       ·rw[Bm,Eb (by have:=hx (by assumption);omega)]
       ·rw[Bp]
      have ai:(L.take (k+(T.line (L.drop k)).length)).drop (k+1)=(T.line (L.drop k)).drop 1:=by
       have e:∀ll,(L.take (k+ll)).drop (k+1)=((L.drop k).take ll).drop 1:=fun ll=>by
        rw[List.drop_take,List.drop_take,D6]
        congr 1
        omega
       exact(e _).trans (congrArg (List.drop 1) ah.symm)
      have hq:=Ju k (L.take (k+(T.line (L.drop k)).length)) 1 [62] _ rfl (T.line (L.drop k)) ai (by rw[<-b];exact HE.o);have hv:=GL (k:=k) hq.2 hq.1;rw[<-b]at hv;rw[hv];have aj:=aA (Ln _ c B L k w HR.o HL.o hn ω);have ad:(L.take (k+(T.line (L.drop k)).length)).length=k+(T.line (L.drop k)).length:=by rw[Bm];omega
      have HP:=aA (Jo _ c B (L.take (k+(T.line (L.drop k)).length)) [62] (k+1) w (HR.o.take _) (HL.o.take _) (by rw[ad];omega) (by rw[ad];omega) ω δ δ);rw[ad,show K.str [62]=⟨#[62]⟩ from rfl,show((k+1:Nat):Int)=(k:Int)+1 by omega]at HP;have S1:=fun w=>QC w (some ⟨g,o,none⟩) c L.length (k+(T.line (L.drop k)).length) ω;have q60:(L.getD k 0==60)=true:=by rw[t];rfl
      generalize T.iT (L.take (k+(T.line (L.drop k)).length)) [62] (k+1)=P at *;generalize k+(T.line (L.drop k)).length=m at *;clear hb r s i b hq HE f hv ag ah ai ad j l p t HZ;generalize L.getD k 0=z at *
      go_enter func121,ntmps121
      go_wp2_with fail
      refine H1.o.mono ?_;rintro _ w' ⟨rfl,rfl⟩;go_wp2_with fail
      refine H2.o.mono ?_;rintro _ w' ⟨rfl,rfl⟩;go_wp2_with fail
      refine H3.o.mono ?_;rintro _ w' ⟨rfl,rfl⟩;go_wp2_with fail
      refine aj.o.mono ?_;rintro _ w' ⟨rfl,rfl⟩;go_wp2_with fail
      refine HP.o.mono ?_;rintro _ w' ⟨rfl,rfl⟩;go_wp2
      go_ret2
      exact⟨rfl,rfl⟩
     ·have q60:(L.getD k 0==60)=false:=by simpa using t
      by_cases d:L.getD k 0=123
      ·have f:(L.drop k).getD 0 0=123:=HZ.o.trans d;have b:T.piece (L.drop k)=T.action (L.drop k):=T.s8 _ f;rcases aa:T.act ((L.drop k).length+1) (L.drop k) 0 with _|n
       ·exfalso
        have:=HE.o
        rw[b]at this;unfold T.action at this;rw[aa]at this;simp at this
       ·have ab:T.piece (L.drop k)=(0,n,0):=by rw[b];unfold T.action;rw[aa]
        have hv:wG k (T.piece (L.drop k))=.tuple #[.int .i64 ((k+n:Nat):Int),.bool true]:=GL (by rw[ab]) (by rw[ab]);rw[hv];have HP:=aA (O1 _ c B L k n _ w HR.o hn hk d aa);have q123:(L.getD k 0==123)=true:=by rw[d];rfl
        generalize k+n=P at *;clear hb r s i b ab aa HE f hv j l p t d HZ;generalize L.getD k 0=z at *
        go_enter func121,ntmps121
        go_wp2_with fail
        refine H1.o.mono ?_;rintro _ w' ⟨rfl,rfl⟩;go_wp2_with fail
        refine H2.o.mono ?_;rintro _ w' ⟨rfl,rfl⟩;go_wp2_with fail
        refine H3.o.mono ?_;rintro _ w' ⟨rfl,rfl⟩;go_wp2_with fail
        refine HP.o.mono ?_;rintro _ w' ⟨rfl,rfl⟩;go_wp2
        go_ret2
        exact⟨rfl,rfl⟩
      ·have q123:(L.getD k 0==123)=false:=by simpa using d
       have hv:=LA (k:=k) (s.o hb j l p t d HE.o);rw[hv];clear hb r s i HE hv j l p t d HZ;generalize L.getD k 0=z at *
       go_enter func121,ntmps121
       go_wp2_with fail
       refine H1.o.mono ?_;rintro _ w' ⟨rfl,rfl⟩;go_wp2_with fail
       refine H2.o.mono ?_;rintro _ w' ⟨rfl,rfl⟩;go_wp2_with fail
       refine H3.o.mono ?_;rintro _ w' ⟨rfl,rfl⟩;go_wp2
       go_ret2
       exact⟨rfl,rfl⟩
    ·rw[p]at H3
     have ac:T.pre (L.drop k) [37,37]=false:=by
      rcases hh:T.pre (L.drop k) [37,37] with _|_
      ·rfl
      ·have e1:=(T.jB _ _ _ i (by intro x hx;simp at hx;omega) hh).2;have e2:=(T.jB _ _ _ i (by intro x hx;simp at hx;omega) p).2;omega
     have f:=(T.jB _ _ _ i (by intro x hx;simp at hx;omega) p).1;have b:T.piece (L.drop k)=T.skip (L.drop k) 2 [37,125]:=by rw[T.mO _ f];unfold T.jA;rw[AJ (by rw[ac];simp),Az p]
     have hq:=Ju k L 2 [37,125] _ rfl (L.drop k) (by rw[D6]) (by rw[<-b];exact HE.o);have hv:=GL (k:=k) hq.2 hq.1;rw[<-b]at hv;rw[hv];have HP:=aA (Jo _ c B L [37,125] (k+2) w HR.o HL.o hc hn ω δ δ);rw[show K.str [37,125]=⟨#[37,125]⟩ from rfl,show((k+2:Nat):Int)=(k:Int)+2 by omega]at HP;clear hb r s i b hq HE f hv j l p ac HZ;generalize T.iT L [37,125] (k+2)=P at *;generalize L.getD k 0=z at *
     go_enter func121,ntmps121
     go_wp2_with fail
     refine H1.o.mono ?_;rintro _ w' ⟨rfl,rfl⟩;go_wp2_with fail
     refine H2.o.mono ?_;rintro _ w' ⟨rfl,rfl⟩;go_wp2_with fail
     refine H3.o.mono ?_;rintro _ w' ⟨rfl,rfl⟩;go_wp2_with fail
     refine HP.o.mono ?_;rintro _ w' ⟨rfl,rfl⟩;go_wp2
     go_ret2
     exact⟨rfl,rfl⟩
   ·rw[l]at H2;have f:=(T.jB _ _ _ i (by intro x hx;simp at hx;omega) l).1;have b:T.piece (L.drop k)=(0,(T.line (L.drop k)).length,0):=by rw[T.pY _ f];unfold T.comment;rw[AJ (by rw[j];simp),Az l]
    have hv:wG k (T.piece (L.drop k))=.tuple #[.int .i64 ((k+(T.line (L.drop k)).length:Nat):Int),.bool true]:=GL (by rw[b]) (by rw[b]);rw[hv];have HP:=aA (Ln _ c B L k w HR.o HL.o hn ω);generalize k+(T.line (L.drop k)).length=P at *;clear hb r s i b HE f hv j l HZ;generalize L.getD k 0=z at *
    go_enter func121,ntmps121
    go_wp2_with fail
    refine H1.o.mono ?_;rintro _ w' ⟨rfl,rfl⟩;go_wp2_with fail
    refine H2.o.mono ?_;rintro _ w' ⟨rfl,rfl⟩;go_wp2_with fail
    refine HP.o.mono ?_;rintro _ w' ⟨rfl,rfl⟩;go_wp2
    go_ret2
    exact⟨rfl,rfl⟩
  ·rw[j]at H1;have f:=(T.jB _ _ _ i (by intro x hx;simp at hx;omega) j).1;have b:T.piece (L.drop k)=T.skip (L.drop k) 2 [42,47]:=by rw[T.pY _ f];unfold T.comment;rw[Az j]
   have hq:=Ju k L 2 [42,47] _ rfl (L.drop k) (by rw[D6]) (by rw[<-b];exact HE.o);have hv:=GL (k:=k) hq.2 hq.1;rw[<-b]at hv;rw[hv];have HP:=aA (Jo _ c B L [42,47] (k+2) w HR.o HL.o hc hn ω δ δ);rw[show K.str [42,47]=⟨#[42,47]⟩ from rfl,show((k+2:Nat):Int)=(k:Int)+2 by omega]at HP;clear hb r s i b hq HE f hv j HZ;generalize T.iT L [42,47] (k+2)=P at *;generalize L.getD k 0=z at *
   go_enter func121,ntmps121
   go_wp2_with fail
   refine H1.o.mono ?_;rintro _ w' ⟨rfl,rfl⟩;go_wp2_with fail
   refine HP.o.mono ?_;rintro _ w' ⟨rfl,rfl⟩;go_wp2
   go_ret2
   exact⟨rfl,rfl⟩
theorem QL (z:Int) (w:World):Calls prog 169 #[.int .u8 z] w fun e w'=>e=.returned (.int .i64 (if z=58 then 10 else if z=124 then 11 else if z=59 then 12 else 0))/\w=w':=by
 by_cases h1:z=58
 ·subst h1
  go_enter func169,ntmps169
  go_wp2;go_ret
  exact⟨rfl,rfl⟩
 ·by_cases h2:z=124
  ·subst h2
   go_enter func169,ntmps169
   go_wp2;go_ret
   exact⟨rfl,rfl⟩
  ·by_cases h3:z=59
   ·subst h3
    go_enter func169,ntmps169
    go_wp2;go_ret
    exact⟨rfl,rfl⟩
   ·rw[AJ h1,AJ h2,AJ h3];have q1:(z==58)=false:=by simpa using h1
    have q2:(z==124)=false:=by simpa using h2
    have q3:(z==59)=false:=by simpa using h3
    clear h1 h2 h3
    go_enter func169,ntmps169
    go_wp2;go_ret
    exact⟨rfl,rfl⟩
theorem FM (l m:List Int) (hl:K.Bytes l) (hm:K.Bytes m):((K.str l).toList==(K.str m).toList)=decide (l=m):=by
 rw[T.gw,T.gw,Bx,BP,Cr];exact⟨fun h=>K.bytes_inj hl hm h,fun h=>by rw[h]⟩
theorem Ox (l:List Int) (hl:K.Bytes l) (w:World):Calls prog 168 #[.string (K.str l)] w fun e w'=>e=.returned (.int .i64 (T.iY l))/\w=w':=by
 have b1:=FM l [116,111,107,101,110] hl (by intro x hx;simp at hx;omega);have b2:=FM l [108,101,102,116] hl (by intro x hx;simp at hx;omega);have b3:=FM l [114,105,103,104,116] hl (by intro x hx;simp at hx;omega);have b4:=FM l [110,111,110,97,115,115,111,99] hl (by intro x hx;simp at hx;omega);have b5:=FM l [115,116,97,114,116] hl (by intro x hx;simp at hx;omega);have b6:=FM l [112,114,101,99] hl (by intro x hx;simp at hx;omega);rw[show(K.str [116,111,107,101,110]).toList=[116,111,107,101,110] by rw[CX];rfl]at b1;rw[show(K.str [108,101,102,116]).toList=[108,101,102,116] by rw[CX];rfl]at b2;rw[show(K.str [114,105,103,104,116]).toList=[114,105,103,104,116] by rw[CX];rfl]at b3;rw[show(K.str [110,111,110,97,115,115,111,99]).toList=[110,111,110,97,115,115,111,99] by rw[CX];rfl]at b4;rw[show(K.str [115,116,97,114,116]).toList=[115,116,97,114,116] by rw[CX];rfl]at b5;rw[show(K.str [112,114,101,99]).toList=[112,114,101,99] by rw[CX];rfl]at b6;unfold T.iY;clear hl;generalize hs:K.str l=st at *;clear hs
 go_enter func168,ntmps168
 go_wp2;all_goals go_ret
 all_goals exact⟨rfl,rfl⟩
namespace T
theorem lO (l:List Int) (f:Nat) (s:List Int):(skip l f s).1=0:=by unfold skip;split <;> rfl
theorem Uo (h:head z=true):(97<=z/\z<=122)\/(65<=z/\z<=90)\/z=95:=by
 unfold head small at h;simp only[CR,Bd,Bj,BP]at h;omega
theorem rk (l:List Int) (h:head (l.getD 0 0)=true):piece l=name l:=by
 have hz:=Uo h;unfold piece;simp only;rw[AJ ω,AJ ω,AJ ω,AJ ω,AJ ω,AJ ω,AJ ω,AJ ω,AJ ω]
theorem uP (l:List Int) (h:l.getD 0 0=39):piece l=literal l:=by
 unfold piece;simp only[h];rfl
theorem rm (l:List Int) (h1:head (l.getD 0 0)=false) (h2:¬l.getD 0 0=39) (h3:¬l.getD 0 0=37) (he:(piece l).2.2=0) (hk:(piece l).1≠0):piece l=((if l.getD 0 0=58 then 10 else if l.getD 0 0=124 then 11 else if l.getD 0 0=59 then 12 else 0),1,0)/\(if l.getD 0 0=58 then(10:Int) else if l.getD 0 0=124 then 11 else if l.getD 0 0=59 then 12 else 0)≠0:=by
 have aa:ie l=0:=by
  cases l with
  | nil=>rfl
  | cons z r=>rw[ik,AJ];simpa using h1
 revert he hk
 unfold piece;simp only;split
 ·intro _ h;exact absurd rfl h
 split
 ·intro _ h;unfold comment at h;split at h
  ·exact absurd (lO _ _ _) h
  split at h <;> exact absurd rfl h
 split
 ·intro _ h;exact absurd (lO _ _ _) h
 split
 ·intro _ h;unfold action at h;split at h <;> exact absurd rfl h
 split
 ·exact fun _ _=>⟨rfl,δ⟩
 split
 ·exact fun _ _=>⟨rfl,δ⟩
 split
 ·exact fun _ _=>⟨rfl,δ⟩
 ·intro h;unfold name at h;rw[Az aa]at h;simp at h
end T
def qK (L:List Int) (k:Nat) (x:T.P3):Value:=.tuple #[.agg #[.int .i64 x.1,.string (K.str (bH x.1 ((L.drop k).take x.2.1))),.complex .f64 (Fl.fl (Pl.pos (L.take k)).1) (Fl.fl (Pl.pos (L.take k)).2)],.int .i64 ((k+x.2.1:Nat):Int),.int .i64 0]
theorem Sl (A:Option Addr) (c:Nat) (L:List Int) (k:Nat) (w:World) (hr:ij w w.heap.size A L) (hl:K.Bytes L) (hc:L.length<=c) (hn:L.length<=2000) (hk:k<L.length) (he:(T.piece (L.drop k)).2.2=0) (hx:(T.piece (L.drop k)).1≠0) (h1:T.head (L.getD k 0)=false) (h2:¬L.getD k 0=39) (h3:¬L.getD k 0=37) :
  Calls prog 123 #[.slice A L.length c,.int .i64 k] w fun e w'=>e=.returned (qK L k (T.piece (L.drop k)))/\β w w':=by
 have hz:(L.drop k).getD 0 0=L.getD k 0:=by rw[Go.Proofs.YtjjbaehamplnaaaGreat.L.fP L k hk];rfl
 obtain⟨g,o,rfl,ai,ac⟩:=hr ω;have ad:=ac k hk;have ae:=T.rm (L.drop k) (by rw[hz];exact h1) (by rw[hz];exact h2) (by rw[hz];exact h3) he hx;rw[hz]at ae;obtain⟨af,ag⟩:=ae
 have aa:T.pre (L.drop k) [37,37]=false:=by
  rcases hh:T.pre (L.drop k) [37,37] with _|_
  ·rfl
  ·exact absurd ((T.jB _ _ _ (hl.drop k) (by intro x hx;simp at hx;omega) hh).1) (by rw[hz];exact h3)
 have ah:=aA (fun(w1:World) (h:β w w1)=>FK (some ⟨g,o,none⟩) c w.heap.size L k w1 (hr.below h (Af _)) hn ω);have H1:=aA (fun(w1:World) (h:β w w1)=>zQ (some ⟨g,o,none⟩) c w.heap.size L [37,37] k w1 (hr.below h (Af _)) hl hc ω ω δ);rw[aa,show K.str [37,37]=⟨#[37,37]⟩ from rfl]at H1;have HF:=aA (zN (L.getD k 0));rw[h1]at HF;have HM:=aA (QL (L.getD k 0));have ab:=aA (fun o=>((AB w.heap.size w).alloc (Af _) o));have SC:=fun a w m X Y=>show(store a (.complex .f64 X Y) m).run prog w=stored prog w a (.complex .f64 X Y) m from run_store _ w a _ m rfl;have q39:(L.getD k 0==39)=false:=by simpa using h2
 have q37:(L.getD k 0==37)=false:=by simpa using h3
 rw[af];unfold qK
 have ht:bH (if L.getD k 0=58 then 10 else if L.getD k 0=124 then 11 else if L.getD k 0=59 then 12 else 0) ((L.drop k).take 1)=[]:=by
  unfold bH;rw[AJ];split
  ·omega
  split
  ·omega
  split <;> omega
 simp only;rw[ht,show K.str []=⟨#[]⟩ from rfl];have qk:((if L.getD k 0=58 then(10:Int) else if L.getD k 0=124 then 11 else if L.getD k 0=59 then 12 else 0)==0)=false:=by simpa using ag
 clear ht af ag aa ac hr hz h1 h2 h3 he hx;generalize (if L.getD k 0=58 then(10:Int) else if L.getD k 0=124 then 11 else if L.getD k 0=59 then 12 else 0)=xk at *;generalize L.getD k 0=z at *;generalize Fl.fl (Pl.pos (L.take k)).1=X at *;generalize Fl.fl (Pl.pos (L.take k)).2=Y at *
 go_enter func123,ntmps123
 go_wp2_with fail
 refine(ah.o _ (ab.o _)).mono ?_;rintro _ w' ⟨rfl,rfl⟩;go_wp2_with fail
 refine(HF.o _).mono ?_;rintro _ w' ⟨rfl,rfl⟩;go_wp2_with fail
 refine(H1.o _ ((ab.o _).alloc σ _)).mono ?_;rintro _ w' ⟨rfl,rfl⟩;go_wp2_with fail
 refine(HM.o _).mono ?_;rintro _ w' ⟨rfl,rfl⟩;go_wp2;refine B3 (v:=.tuple #[.agg #[.int .i64 xk,.string ⟨#[]⟩,.complex .f64 X Y],.int .i64 ((k:Int)+1),.int .i64 0]) (by simp[results,results123,go_sem]) rfl ⟨by rw[Int.natCast_add];rfl,?_⟩;exact(ab.o _).alloc σ _
theorem Sn (A:Option Addr) (c:Nat) (L:List Int) (k:Nat) (w:World) (hr:ij w w.heap.size A L) (hl:K.Bytes L) (hc:L.length<=c) (hn:L.length<=2000) (hk:k<L.length) (hp:T.pre (L.drop k) [37,37]=true) :
  Calls prog 123 #[.slice A L.length c,.int .i64 k] w fun e w'=>e=.returned (qK L k (T.piece (L.drop k)))/\β w w':=by
 have hz:(L.drop k).getD 0 0=L.getD k 0:=by rw[Go.Proofs.YtjjbaehamplnaaaGreat.L.fP L k hk];rfl
 have ab:=(T.jB _ _ _ (hl.drop k) (by intro x hx;simp at hx;omega) hp).1;have ad:T.piece (L.drop k)=(9,2,0):=by rw[T.mO _ ab];unfold T.jA;rw[Az hp]
 rw[hz]at ab;obtain⟨g,o,rfl,ag,ae⟩:=hr ω;have aa:=ae k hk;rw[ab]at aa;have af:=aA (fun(w1:World) (h:β w w1)=>FK (some ⟨g,o,none⟩) c w.heap.size L k w1 (hr.below h (Af _)) hn ω);have H1:=aA (fun(w1:World) (h:β w w1)=>zQ (some ⟨g,o,none⟩) c w.heap.size L [37,37] k w1 (hr.below h (Af _)) hl hc ω ω δ);rw[hp,show K.str [37,37]=⟨#[37,37]⟩ from rfl]at H1;have HF:=aA (zN 37);rw[show T.head 37=false from rfl]at HF;have ac:=aA (fun o=>((AB w.heap.size w).alloc (Af _) o));have SC:=fun a w m X Y=>show(store a (.complex .f64 X Y) m).run prog w=stored prog w a (.complex .f64 X Y) m from run_store _ w a _ m rfl;rw[ad];unfold qK;simp only;rw[show bH 9 ((L.drop k).take 2)=[] from rfl,show K.str []=⟨#[]⟩ from rfl];clear ad hp ae hr hz ab;generalize Fl.fl (Pl.pos (L.take k)).1=X at *;generalize Fl.fl (Pl.pos (L.take k)).2=Y at *
 go_enter func123,ntmps123
 go_wp2_with fail
 refine(af.o _ (ac.o _)).mono ?_;rintro _ w' ⟨rfl,rfl⟩;go_wp2_with fail
 refine(HF.o _).mono ?_;rintro _ w' ⟨rfl,rfl⟩;go_wp2_with fail
 refine(H1.o _ ((ac.o _).alloc σ _)).mono ?_;rintro _ w' ⟨rfl,rfl⟩;go_wp2;refine B3 (v:=.tuple #[.agg #[.int .i64 9,.string ⟨#[]⟩,.complex .f64 X Y],.int .i64 ((k:Int)+2),.int .i64 0]) (by simp[results,results123,go_sem]) rfl ⟨by rw[Int.natCast_add];rfl,?_⟩;exact(ac.o _).alloc σ _
theorem Sk (A:Option Addr) (c:Nat) (L:List Int) (k:Nat) (w:World) (hr:ij w w.heap.size A L) (hl:K.Bytes L) (hc:L.length<=c) (hn:L.length<=2000) (hk:k<L.length) (he:(T.piece (L.drop k)).2.2=0) (hx:(T.piece (L.drop k)).1≠0) (ag:L.getD k 0=37) (hp:T.pre (L.drop k) [37,37]=false) :
  Calls prog 123 #[.slice A L.length c,.int .i64 k] w fun e w'=>e=.returned (qK L k (T.piece (L.drop k)))/\β w w':=by
 have hz:(L.drop k).getD 0 0=L.getD k 0:=by rw[Go.Proofs.YtjjbaehamplnaaaGreat.L.fP L k hk];rfl
 have ah:T.jV (L.drop k)=1+T.run T.small (L.drop (k+1)):=by unfold T.jV;rw[D6]
 have ab:((L.drop k).take (T.jV (L.drop k))).drop 1=(L.drop (k+1)).take (T.run T.small (L.drop (k+1))):=by
  rw[ah,List.drop_take,D6]
  congr 1
  omega
 have ae:T.piece (L.drop k)=(T.iY ((L.drop (k+1)).take (T.run T.small (L.drop (k+1)))),1+T.run T.small (L.drop (k+1)),0)/\T.iY ((L.drop (k+1)).take (T.run T.small (L.drop (k+1))))≠0:=by
  rw[T.mO _ (hz.trans ag)]at he hx ⊢;unfold T.jA at he hx ⊢;rw[AJ (by rw[hp];simp)]at he hx ⊢;by_cases h3:T.pre (L.drop k) [37,123]=true
  ·rw[Az h3]at hx;exact absurd (T.lO _ _ _) hx
  ·rw[AJ h3]at he hx ⊢;rw[ab,ah]at he ⊢;by_cases h4:T.iY ((L.drop (k+1)).take (T.run T.small (L.drop (k+1))))=0
   ·exfalso;simp[h4]at he
   ·exact⟨by simp[h4],h4⟩
 obtain⟨ae,ai⟩:=ae;obtain⟨g,o,rfl,ax,aj⟩:=hr ω;have aa:=aj k hk;rw[ag]at aa;have HC:=aA aj;have ap:=T.oQ T.small (L.drop (k+1));rw[Bt]at ap;have aq:=aA (fun(w1:World) (h:β w w1)=>FK (some ⟨g,o,none⟩) c w.heap.size L k w1 (hr.below h (Af _)) hn ω);have H1:=aA (fun(w1:World) (h:β w w1)=>zQ (some ⟨g,o,none⟩) c w.heap.size L [37,37] k w1 (hr.below h (Af _)) hl hc ω ω δ);rw[hp,show K.str [37,37]=⟨#[37,37]⟩ from rfl]at H1;have HF:=aA (zN 37);rw[show T.head 37=false from rfl]at HF;have f:=aA (fun(o1 o2:Obj)=>GS ((((hr.alloc (Af _) o1).alloc σ o2).fY hc (k+1)).take (T.run T.small (L.drop (k+1)))) ((hl.drop (k+1)).take _) (c-(k+1)));have HK:=aA (fun w=>Ox ((L.drop (k+1)).take (T.run T.small (L.drop (k+1)))) ((hl.drop _).take _) w);have HS:=aA (fun w=>Hk w (some ⟨g,o,none⟩) c L.length (k+1) (k+1+T.run T.small (L.drop (k+1))) ω ω);rw[show k+1+T.run T.small (L.drop (k+1))-(k+1)=T.run T.small (L.drop (k+1)) by omega]at HS;have ac:((L.drop (k+1)).take (T.run T.small (L.drop (k+1)))).length=T.run T.small (L.drop (k+1)):=by rw[Bm,Bt];omega
 rw[ac]at f;have af:=aA (fun o=>((AB w.heap.size w).alloc (Af _) o));have SC:=fun a w m X Y=>show(store a (.complex .f64 X Y) m).run prog w=stored prog w a (.complex .f64 X Y) m from run_store _ w a _ m rfl;rw[ae];unfold qK;have al:=T.nc ((L.drop (k+1)).take (T.run T.small (L.drop (k+1))))
 have ht:bH (T.iY ((L.drop (k+1)).take (T.run T.small (L.drop (k+1))))) ((L.drop k).take (1+T.run T.small (L.drop (k+1))))=[]:=by
  have:=al.2.2 ai
  unfold bH;rw[AJ ω]
 simp only;rw[ht,show K.str []=⟨#[]⟩ from rfl];have qk:(T.iY ((L.drop (k+1)).take (T.run T.small (L.drop (k+1))))==0)=false:=by simpa using ai
 have ar:=aA (T.mV T.small L);have au:=aA (T.kh T.small L);clear ae hp aj hr hz ag ht ai al ab ah ac he hx hl;generalize T.iY ((L.drop (k+1)).take (T.run T.small (L.drop (k+1))))=xk at *;generalize K.str ((L.drop (k+1)).take (T.run T.small (L.drop (k+1))))=st at *;generalize ad:T.run T.small (L.drop (k+1))=rn at *;have ak:=aA ad;clear ad;generalize Fl.fl (Pl.pos (L.take k)).1=X at *;generalize Fl.fl (Pl.pos (L.take k)).2=Y at *
 go_enter func123,ntmps123
 go_wp2_with fail
 refine(aq.o _ (af.o _)).mono ?_;rintro _ w' ⟨rfl,rfl⟩;go_wp2_with fail
 refine(HF.o _).mono ?_;rintro _ w' ⟨rfl,rfl⟩;go_wp2_with fail
 refine(H1.o _ ((af.o _).alloc σ _)).mono ?_;rintro _ w' ⟨rfl,rfl⟩;go_wp2_with fail
 go_loop [9] (fun vi=>∃(j:Nat),j<=L.length/\k+1<=j/\vi=.int .i64 j/\j+T.run T.small (L.drop j)=k+1+rn) (fun vi=>L.length-(intOf vi).toNat)
 case atStart=>exact⟨k+1,ω,ω,ν,by rw[ak.o]⟩
 case round =>
  obtain⟨j,hj,ay,rfl,hrel⟩:=hrel;have HV:=aA hrel;clear hrel;by_cases am:j<L.length
  ·have az:=HC.o j am;have d:=ar.o j am;by_cases hs:97<=L.getD j 0/\L.getD j 0<=122
   ·have i:T.small (L.getD j 0)=true:=by unfold T.small;simp;exact hs
    rw[i,Az rfl]at d;have HN:=aA d;obtain⟨a0,a1⟩:=hs;clear i d aa;generalize L.getD j 0=z at *;go_wp2
    go_round
    case rel=>exact⟨j+1,ω,ω,ν,by have:=HV.o;have:=HN.o;omega⟩
    case measure=>simp[intOf];omega
   ·have i:T.small (L.getD j 0)=false:=by
     rcases hq:T.small (L.getD j 0) with _|_
     ·rfl
     ·exfalso;apply hs;unfold T.small at hq;simp at hq;exact hq
    rw[i]at d;have b:k+1+rn=j:=by have:=HV.o;rw[d]at this;simp at this;omega
    have S1:∀w,(Instr.sliceAt 72 (.slice (some ⟨g,o,none⟩) L.length c) (some (.int .i64 ((k:Int)+1))) (some (.int .i64 j)) none).run prog w=.ok (.slice (fY (some ⟨g,o,none⟩) c (k+1)) rn (c-(k+1))) w:=fun w=>by
     have h:=HS.o w;rw[b,show((k+1:Nat):Int)=(k:Int)+1 by omega]at h;exact h
    have C1:=f.o bY (.cells #[.int .i64 0,.string ⟨#[]⟩,.complex .f64 X Y] 198);unfold bY at C1;have HJ:=aA b;clear i d b aa HS f;generalize fY (some ⟨g,o,none⟩) c (k+1)=D at *;generalize c-(k+1)=c2 at *;generalize L.getD j 0=z at *;by_cases av:97<=z
    focus
     have aw:¬z<=122:=fun h=>hs ⟨av,h⟩
    rotate_left
    all_goals
     clear hs;go_wp2_with fail
     refine(HK.o _).mono ?_;rintro _ w' ⟨rfl,rfl⟩;go_wp2;refine B3 (v:=.tuple #[.agg #[.int .i64 xk,.string ⟨#[]⟩,.complex .f64 X Y],.int .i64 j,.int .i64 0]) (by simp[results,results123,go_sem]) rfl ⟨by rw[<-HJ.o,show k+(1+rn)=k+1+rn by omega],?_⟩;exact(af.o _).alloc σ _
  ·have ao:=au.o j ω;have b:k+1+rn=j:=by have:=HV.o;rw[ao]at this;omega
   have S1:∀w,(Instr.sliceAt 72 (.slice (some ⟨g,o,none⟩) L.length c) (some (.int .i64 ((k:Int)+1))) (some (.int .i64 j)) none).run prog w=.ok (.slice (fY (some ⟨g,o,none⟩) c (k+1)) rn (c-(k+1))) w:=fun w=>by
    have h:=HS.o w;rw[b,show((k+1:Nat):Int)=(k:Int)+1 by omega]at h;exact h
   have C1:=f.o bY (.cells #[.int .i64 0,.string ⟨#[]⟩,.complex .f64 X Y] 198);unfold bY at C1;have HJ:=aA b;clear ao b aa HS f;generalize fY (some ⟨g,o,none⟩) c (k+1)=D at *;generalize c-(k+1)=c2 at *;go_wp2_with fail
   refine(HK.o _).mono ?_;rintro _ w' ⟨rfl,rfl⟩;go_wp2;refine B3 (v:=.tuple #[.agg #[.int .i64 xk,.string ⟨#[]⟩,.complex .f64 X Y],.int .i64 j,.int .i64 0]) (by simp[results,results123,go_sem]) rfl ⟨by rw[<-HJ.o,show k+(1+rn)=k+1+rn by omega],?_⟩;exact(af.o _).alloc σ _
theorem Sm (A:Option Addr) (c:Nat) (L:List Int) (k:Nat) (w:World) (hr:ij w w.heap.size A L) (hl:K.Bytes L) (hc:L.length<=c) (hn:L.length<=2000) (hk:k<L.length) (he:(T.piece (L.drop k)).2.2=0) (hh:T.head (L.getD k 0)=true) :
  Calls prog 123 #[.slice A L.length c,.int .i64 k] w fun e w'=>e=.returned (qK L k (T.piece (L.drop k)))/\β w w':=by
 have hz:(L.drop k).getD 0 0=L.getD k 0:=by rw[Go.Proofs.YtjjbaehamplnaaaGreat.L.fP L k hk];rfl
 have ai:T.ie (L.drop k)=1+T.run T.fB (L.drop (k+1)):=by
  rw[Go.Proofs.YtjjbaehamplnaaaGreat.L.fP L k hk,T.ik,Az hh];omega
 have ad:T.piece (L.drop k)=(1,1+T.run T.fB (L.drop (k+1)),0)/\1+T.run T.fB (L.drop (k+1))<=20:=by
  rw[T.rk _ (by rw[hz];exact hh)]at he ⊢;unfold T.name at he ⊢;rw[ai]at he ⊢;rw[AJ ω]at he ⊢;by_cases h4:20<1+T.run T.fB (L.drop (k+1))
  ·exfalso;simp[h4]at he
  ·exact⟨by simp[h4],ω⟩
 obtain⟨ad,av⟩:=ad;obtain⟨g,o,rfl,aw,ag⟩:=hr ω;have aa:=ag k hk;have HC:=aA ag;have al:=T.oQ T.fB (L.drop (k+1));rw[Bt]at al;have am:=aA (fun(w1:World) (h:β w w1)=>FK (some ⟨g,o,none⟩) c w.heap.size L k w1 (hr.below h (Af _)) hn ω);have HF:=aA (zN (L.getD k 0));rw[hh]at HF;have ao:=aA (fun j=>Lw (L.getD j 0));have n:=aA (fun(w1:World) (h:β w w1)=>GS (((hr.below h (Af _)).fY hc k).take (1+T.run T.fB (L.drop (k+1)))) ((hl.drop k).take _) (c-k));have HS:=aA (fun w=>Hk w (some ⟨g,o,none⟩) c L.length k (k+(1+T.run T.fB (L.drop (k+1)))) ω ω);rw[show k+(1+T.run T.fB (L.drop (k+1)))-k=1+T.run T.fB (L.drop (k+1)) by omega]at HS;have ab:((L.drop k).take (1+T.run T.fB (L.drop (k+1)))).length=1+T.run T.fB (L.drop (k+1)):=by rw[Bm,Bt];omega
 rw[ab]at n;have p:=aA (fun o=>((AB w.heap.size w).alloc (Af _) o));have SC:=fun a w m X Y=>show(store a (.complex .f64 X Y) m).run prog w=stored prog w a (.complex .f64 X Y) m from run_store _ w a _ m rfl;rw[ad];unfold qK;have ht:bH 1 ((L.drop k).take (1+T.run T.fB (L.drop (k+1))))=(L.drop k).take (1+T.run T.fB (L.drop (k+1))):=by unfold bH;rw[Az (.inl rfl)]
 simp only;rw[ht];have ap:=aA (T.mV T.fB L);have aq:=aA (T.kh T.fB L);clear ad ag hr hz ht ai ab he hl hh;generalize K.str ((L.drop k).take (1+T.run T.fB (L.drop (k+1))))=st at *;generalize ac:T.run T.fB (L.drop (k+1))=rn at *;have ah:=aA ac;clear ac;generalize Fl.fl (Pl.pos (L.take k)).1=X at *;generalize Fl.fl (Pl.pos (L.take k)).2=Y at *;generalize ar:L.getD k 0=z at *;clear ar
 go_enter func123,ntmps123
 go_wp2_with fail
 refine(am.o _ (p.o _)).mono ?_;rintro _ w' ⟨rfl,rfl⟩;go_wp2_with fail
 refine(HF.o _).mono ?_;rintro _ w' ⟨rfl,rfl⟩;go_wp2_with fail
 go_loop [9] (fun vi=>∃(j:Nat),j<=L.length/\k+1<=j/\vi=.int .i64 j/\j+T.run T.fB (L.drop j)=k+1+rn) (fun vi=>L.length-(intOf vi).toNat)
 case atStart=>exact⟨k+1,ω,ω,ν,by rw[ah.o]⟩
 case round =>
  obtain⟨j,hj,ax,rfl,hrel⟩:=hrel;have HV:=aA hrel;clear hrel aa;by_cases aj:j<L.length
  ·have ay:=HC.o j aj;have l:=ap.o j aj;have ae:=aA (ao.o j);rcases r:T.fB (L.getD j 0) with _|_
   ·rw[r]at l ae;have af:k+(1+rn)=j:=by have:=HV.o;rw[l]at this;simp at this;omega
    have HJ:=aA af;clear r l;generalize L.getD j 0=z2 at *;go_wp2_with fail
    refine(ae.o _).mono ?_;rintro _ w' ⟨rfl,rfl⟩;have au:¬(j:Int)-(k:Int) > 20:=by have:=HJ.o;omega
    go_upto_region 10 with fail
    have f:Below w.heap.size w ((((w.alloc bY).alloc (.cells #[.int .i64 0,.string ⟨#[]⟩,.complex .f64 X Y] 198))).drew):=aB ((p.o bY).alloc σ _) 1;unfold bY at f
    have S1:∀w,(Instr.sliceAt 72 (.slice (some ⟨g,o,none⟩) L.length c) (some (.int .i64 k)) (some (.int .i64 j)) none).run prog w=.ok (.slice (fY (some ⟨g,o,none⟩) c k) (1+rn) (c-k)) w:=fun w=>by
     have h:=HS.o w;rw[HJ.o]at h;exact h
    have CC:=fun y:Calm.On w.heap.size w=>n.o y.1 y.2;refine Calm.fk (γ w) (.one [0,1,2,3,4,5] 6 (.one [7] 8 (.fin []))) ⟨⟨_,f⟩,rfl⟩ ?_;simp only[Calm.fS,Calm.fu,Calm.fo,Aq,Ai,Am];repeat (go_big_quiet_step (fail))
    refine Ap ?_;clear CC n HS S1 f;have b:=aA (fun o1 o2=>aB ((p.o o1).alloc σ o2) 1);intro KK i;try rw[Az ε]
    go_wp2_with fail
    refine i _ _ ⟨⟨_,b.o _ _⟩,rfl⟩ _ ι ⟨⟨_,b.o _ _⟩,rfl⟩ ?_;repeat (go_big_quiet_step (fail))
    refine Ap ?_;intro KK i;try rw[Az ε]
    go_wp2_with fail
    refine i _ _ ⟨⟨_,b.o _ _⟩,rfl⟩ _ ι ⟨⟨_,b.o _ _⟩,rfl⟩ ?_;refine Ap ?_;go_wp2;exact B3 (v:=.tuple #[.agg #[.int .i64 1,.string st,.complex .f64 X Y],.int .i64 j,.int .i64 0]) (by simp[results,results123,go_sem]) rfl ⟨by rw[HJ.o],b.o _ _⟩
   ·rw[r,Az rfl]at l;rw[r]at ae;have HN:=aA l;clear r l;generalize L.getD j 0=z2 at *;go_wp2_with fail
    refine(ae.o _).mono ?_;rintro _ w' ⟨rfl,rfl⟩;go_wp2
    go_round
    case rel=>exact⟨j+1,ω,ω,ν,by have:=HV.o;have:=HN.o;omega⟩
    case measure=>simp[intOf];omega
  ·have ak:=aq.o j ω;have af:k+(1+rn)=j:=by have:=HV.o;rw[ak]at this;omega
   have HJ:=aA af;have au:¬(j:Int)-(k:Int) > 20:=ω
   clear ak af;go_upto_region 10 with fail
   have f:Below w.heap.size w ((((w.alloc bY).alloc (.cells #[.int .i64 0,.string ⟨#[]⟩,.complex .f64 X Y] 198))).drew):=aB ((p.o bY).alloc σ _) 1;unfold bY at f
   have S1:∀w,(Instr.sliceAt 72 (.slice (some ⟨g,o,none⟩) L.length c) (some (.int .i64 k)) (some (.int .i64 j)) none).run prog w=.ok (.slice (fY (some ⟨g,o,none⟩) c k) (1+rn) (c-k)) w:=fun w=>by
    have h:=HS.o w;rw[HJ.o]at h;exact h
   have CC:=fun y:Calm.On w.heap.size w=>n.o y.1 y.2;refine Calm.fk (γ w) (.one [0,1,2,3,4,5] 6 (.one [7] 8 (.fin []))) ⟨⟨_,f⟩,rfl⟩ ?_;simp only[Calm.fS,Calm.fu,Calm.fo,Aq,Ai,Am];repeat (go_big_quiet_step (fail))
   refine Ap ?_;clear CC n HS S1 f;have b:=aA (fun o1 o2=>aB ((p.o o1).alloc σ o2) 1);intro KK i;try rw[Az ε]
   go_wp2_with fail
   refine i _ _ ⟨⟨_,b.o _ _⟩,rfl⟩ _ ι ⟨⟨_,b.o _ _⟩,rfl⟩ ?_;repeat (go_big_quiet_step (fail))
   refine Ap ?_;intro KK i;try rw[Az ε]
   go_wp2_with fail
   refine i _ _ ⟨⟨_,b.o _ _⟩,rfl⟩ _ ι ⟨⟨_,b.o _ _⟩,rfl⟩ ?_;refine Ap ?_;go_wp2;exact B3 (v:=.tuple #[.agg #[.int .i64 1,.string st,.complex .f64 X Y],.int .i64 j,.int .i64 0]) (by simp[results,results123,go_sem]) rfl ⟨by rw[HJ.o],b.o _ _⟩
theorem S8 (A:Option Addr) (c:Nat) (L:List Int) (k:Nat) (w:World) (hr:ij w w.heap.size A L) (hl:K.Bytes L) (hc:L.length<=c) (hn:L.length<=2000) (hk:k<L.length) (he:(T.piece (L.drop k)).2.2=0) (ae:L.getD k 0=39) :
  Calls prog 123 #[.slice A L.length c,.int .i64 k] w fun e w'=>e=.returned (qK L k (T.piece (L.drop k)))/\β w w':=by
 have hz:(L.drop k).getD 0 0=L.getD k 0:=by rw[Go.Proofs.YtjjbaehamplnaaaGreat.L.fP L k hk];rfl
 have ac:(T.isLit ((L.drop k).take 3)=true/\T.piece (L.drop k)=(2,3,0))\/(T.isLit ((L.drop k).take 3)=false/\T.isLit ((L.drop k).take 4)=true/\T.piece (L.drop k)=(2,4,0)):=by
  rw[T.uP _ (hz.trans ae)]at he ⊢;unfold T.literal at he ⊢;rcases h3:T.isLit ((L.drop k).take 3) with _|_
  ·rcases h4:T.isLit ((L.drop k).take 4) with _|_
   ·exfalso
    rw[h3,h4]at he;simp only[DL,if_false]at he;split at he <;> simp at he
   ·right;refine⟨rfl,rfl,?_⟩;simp
  ·left;refine⟨rfl,?_⟩;simp
 obtain⟨g,o,rfl,ap,ai⟩:=hr ω;have aa:=ai k hk;rw[ae]at aa;have ak:=aA (fun(w1:World) (h:β w w1)=>FK (some ⟨g,o,none⟩) c w.heap.size L k w1 (hr.below h (Af _)) hn ω);have HF:=aA (zN 39);rw[show T.head 39=false from rfl]at HF;have af:=aA (fun n=>Jz ((L.drop k).take n) ((hl.drop k).take n))
 have l:=aA (fun(n:Nat) (al:k+n<=L.length) (w1:World) (h:β w w1)=>(by
  have h1:=GS (((hr.below h (Af _)).fY hc k).take n) ((hl.drop k).take _) (c-k);rw[show((L.drop k).take n).length=n by rw[Bm,Bt];omega]at h1;exact h1:(convert 72 9 (.slice (fY (some ⟨g,o,none⟩) c k) n (c-k))).run prog w1=.ok (.string (K.str ((L.drop k).take n))) w1))
 have HS:=aA (fun(n:Nat) (al:k+n<=L.length) (w1:World)=>(by
  have h1:=Hk w1 (some ⟨g,o,none⟩) c L.length k (k+n) ω ω;rw[show k+n-k=n by omega,Int.natCast_add]at h1;exact h1:(Instr.sliceAt 72 (.slice (some ⟨g,o,none⟩) L.length c) (some (.int .i64 k)) (some (.int .i64 ((k:Int)+(n:Int)))) none).run prog w1=.ok (.slice (fY (some ⟨g,o,none⟩) c k) n (c-k)) w1))
 have i:=aA (fun o=>((AB w.heap.size w).alloc (Af _) o));have SC:=fun a w m X Y=>show(store a (.complex .f64 X Y) m).run prog w=stored prog w a (.complex .f64 X Y) m from run_store _ w a _ m rfl
 have ag:∀n,qK L k (2,n,0)=.tuple #[.agg #[.int .i64 2,.string (K.str ((L.drop k).take n)),.complex .f64 (Fl.fl (Pl.pos (L.take k)).1) (Fl.fl (Pl.pos (L.take k)).2)],.int .i64 ((k:Int)+n),.int .i64 0]:=fun n=>by
  unfold qK bH;simp
 have ah:Hid ((T.isLit ((L.drop k).take 3)=true->qK L k (T.piece (L.drop k))=.tuple #[.agg #[.int .i64 2,.string (K.str ((L.drop k).take 3)),.complex .f64 (Fl.fl (Pl.pos (L.take k)).1) (Fl.fl (Pl.pos (L.take k)).2)],.int .i64 ((k:Int)+3),.int .i64 0])/\(T.isLit ((L.drop k).take 3)=false->T.isLit ((L.drop k).take 4)=true->qK L k (T.piece (L.drop k))=.tuple #[.agg #[.int .i64 2,.string (K.str ((L.drop k).take 4)),.complex .f64 (Fl.fl (Pl.pos (L.take k)).1) (Fl.fl (Pl.pos (L.take k)).2)],.int .i64 ((k:Int)+4),.int .i64 0])):=aA (by
  refine⟨fun h=>?_,fun h h'=>?_⟩
  ·rcases ac with⟨_,e⟩|⟨e1,_,_⟩
   ·rw[e];exact ag 3
   ·rw[h]at e1;cases e1
  ·rcases ac with⟨e1,_⟩|⟨_,_,e⟩
   ·rw[h]at e1;cases e1
   ·rw[e];exact ag 4)
 have ad:Hid (T.isLit ((L.drop k).take 3)=false->T.isLit ((L.drop k).take 4)=true):=aA (fun h=>by
  rcases ac with⟨e1,_⟩|⟨_,e,_⟩
  ·rw[h]at e1;cases e1
  ·exact e)
 clear ac ai hr hz he hl ae ag;generalize qK L k (T.piece (L.drop k))=V at *;generalize Fl.fl (Pl.pos (L.take k)).1=X at *;generalize Fl.fl (Pl.pos (L.take k)).2=Y at *
 go_enter func123,ntmps123
 go_wp2_with fail
 refine(ak.o _ (i.o _)).mono ?_;rintro _ w' ⟨rfl,rfl⟩;go_wp2_with fail
 refine(HF.o _).mono ?_;rintro _ w' ⟨rfl,rfl⟩;go_wp2_with fail
 go_loop [10] (fun vi=>∃(n:Nat),(n=3\/(n=4/\T.isLit ((L.drop k).take 3)=false))/\vi=.int .i64 n) (fun vi=>5-(intOf vi).toNat)
 case atStart=>exact⟨3,.inl rfl,rfl⟩
 case round =>
  clear aa;obtain⟨n,am,rfl⟩:=hrel;rcases am with rfl|⟨rfl,h3⟩
  ·rcases h3:T.isLit ((L.drop k).take 3) with _|_
   ·clear ah
    have ab:k+3<=L.length:=by
     have h1:=T.iQ (ad.o h3);rw[Bm,Bt]at h1;omega
    have C1:=l.o 3 ab (((w.alloc bY).alloc (.cells #[.int .i64 0,.string ⟨#[]⟩,.complex .f64 X Y] 198))) ((i.o bY).alloc σ _);unfold bY at C1;have S1:∀w,(Instr.sliceAt 72 (.slice (some ⟨g,o,none⟩) L.length c) (some (.int .i64 k)) (some (.int .i64 ((k:Int)+3))) none).run prog w=.ok (.slice (fY (some ⟨g,o,none⟩) c k) 3 (c-k)) w:=HS.o 3 ab;have j:=aA (af.o 3);rw[h3]at j;have H3:=aA h3;have aj:¬(k:Int)+3 > (L.length:Int):=ω
    clear h3;generalize ao:K.str ((L.drop k).take 3)=st at *;clear ao;go_wp2_with fail
    refine(j.o _).mono ?_;rintro _ w' ⟨rfl,rfl⟩;go_wp2
    go_round
    case rel=>exact⟨4,σ,ν⟩
    case measure=>simp[intOf]
   ·have hA:=h3;clear h3 ad
    have b:k+3<=L.length:=by
     have h1:=T.iQ hA;rw[Bm,Bt]at h1;omega
    have hV:=ah.o.1 hA;have C1:=l.o 3 b (((w.alloc bY).alloc (.cells #[.int .i64 0,.string ⟨#[]⟩,.complex .f64 X Y] 198))) ((i.o bY).alloc σ _);unfold bY at C1;have S1:∀w,(Instr.sliceAt 72 (.slice (some ⟨g,o,none⟩) L.length c) (some (.int .i64 k)) (some (.int .i64 ((k:Int)+3))) none).run prog w=.ok (.slice (fY (some ⟨g,o,none⟩) c k) 3 (c-k)) w:=HS.o 3 b;have j:=aA (af.o 3);rw[hA]at j;have HV:=aA hV;have aj:¬(k:Int)+3 > (L.length:Int):=ω
    clear hA hV;go_wp2_with fail
    refine(j.o _).mono ?_;rintro _ w' ⟨rfl,rfl⟩;go_upto_region 17 with fail
    have p:Below w.heap.size w ((((w.alloc bY).alloc (.cells #[.int .i64 0,.string ⟨#[]⟩,.complex .f64 X Y] 198))).drew):=aB ((i.o bY).alloc σ _) 1;unfold bY at p;have CC:=fun y:Calm.On w.heap.size w=>l.o 3 b y.1 y.2;refine Calm.fk (γ w) (.one [0,1,2,3,4,5,6,7] 8 (.one [9] 10 (.fin []))) ⟨⟨_,p⟩,rfl⟩ ?_;simp only[Calm.fS,Calm.fu,Calm.fo,Aq,Ai,Am];repeat (go_big_quiet_step (fail))
    refine Ap ?_;clear CC l HS S1 p C1;have f:=aA (fun o1 o2=>aB ((i.o o1).alloc σ o2) 1);intro KK r;try rw[Az ε]
    go_wp2_with fail
    refine r _ _ ⟨⟨_,f.o _ _⟩,rfl⟩ _ ι ⟨⟨_,f.o _ _⟩,rfl⟩ ?_;repeat (go_big_quiet_step (fail))
    refine Ap ?_;intro KK r;try rw[Az ε]
    go_wp2_with fail
    refine r _ _ ⟨⟨_,f.o _ _⟩,rfl⟩ _ ι ⟨⟨_,f.o _ _⟩,rfl⟩ ?_;refine Ap ?_;go_wp2;exact B3 (v:=.tuple #[.agg #[.int .i64 2,.string (K.str ((L.drop k).take 3)),.complex .f64 X Y],.int .i64 ((k:Int)+3),.int .i64 0]) (by simp[results,results123,go_sem]) rfl ⟨by rw[HV.o],f.o _ _⟩
  ·have hA:=ad.o h3;clear ad
   have b:k+4<=L.length:=by
    have h1:=T.iQ hA;rw[Bm,Bt]at h1;rcases h1 with h1|h1
    ·exfalso
     have e3:(L.drop k).take 3=L.drop k:=Cq (by rw[Bt];omega);have e4:(L.drop k).take 4=L.drop k:=Cq (by rw[Bt];omega);rw[e3]at h3;rw[e4]at hA;rw[h3]at hA;cases hA
    ·omega
   have hV:=ah.o.2 h3 hA;have C1:=l.o 4 b (((w.alloc bY).alloc (.cells #[.int .i64 0,.string ⟨#[]⟩,.complex .f64 X Y] 198))) ((i.o bY).alloc σ _);unfold bY at C1;have S1:∀w,(Instr.sliceAt 72 (.slice (some ⟨g,o,none⟩) L.length c) (some (.int .i64 k)) (some (.int .i64 ((k:Int)+4))) none).run prog w=.ok (.slice (fY (some ⟨g,o,none⟩) c k) 4 (c-k)) w:=HS.o 4 b;have j:=aA (af.o 4);rw[hA]at j;have HV:=aA hV;have aj:¬(k:Int)+4 > (L.length:Int):=ω
   clear hA hV h3;go_wp2_with fail
   refine(j.o _).mono ?_;rintro _ w' ⟨rfl,rfl⟩;go_upto_region 17 with fail
   have p:Below w.heap.size w ((((w.alloc bY).alloc (.cells #[.int .i64 0,.string ⟨#[]⟩,.complex .f64 X Y] 198))).drew):=aB ((i.o bY).alloc σ _) 1;unfold bY at p;have CC:=fun y:Calm.On w.heap.size w=>l.o 4 b y.1 y.2;refine Calm.fk (γ w) (.one [0,1,2,3,4,5,6,7] 8 (.one [9] 10 (.fin []))) ⟨⟨_,p⟩,rfl⟩ ?_;simp only[Calm.fS,Calm.fu,Calm.fo,Aq,Ai,Am];repeat (go_big_quiet_step (fail))
   refine Ap ?_;clear CC l HS S1 p C1;have f:=aA (fun o1 o2=>aB ((i.o o1).alloc σ o2) 1);intro KK r;try rw[Az ε]
   go_wp2_with fail
   refine r _ _ ⟨⟨_,f.o _ _⟩,rfl⟩ _ ι ⟨⟨_,f.o _ _⟩,rfl⟩ ?_;repeat (go_big_quiet_step (fail))
   refine Ap ?_;intro KK r;try rw[Az ε]
   go_wp2_with fail
   refine r _ _ ⟨⟨_,f.o _ _⟩,rfl⟩ _ ι ⟨⟨_,f.o _ _⟩,rfl⟩ ?_;refine Ap ?_;go_wp2;exact B3 (v:=.tuple #[.agg #[.int .i64 2,.string (K.str ((L.drop k).take 4)),.complex .f64 X Y],.int .i64 ((k:Int)+4),.int .i64 0]) (by simp[results,results123,go_sem]) rfl ⟨by rw[HV.o],f.o _ _⟩
theorem R6 (A:Option Addr) (c:Nat) (L:List Int) (k:Nat) (w:World) (hr:ij w w.heap.size A L) (hl:K.Bytes L) (hc:L.length<=c) (hn:L.length<=2000) (hk:k<L.length) (he:(T.piece (L.drop k)).2.2=0) (hx:(T.piece (L.drop k)).1≠0) :
  Calls prog 123 #[.slice A L.length c,.int .i64 k] w fun e w'=>e=.returned (qK L k (T.piece (L.drop k)))/\β w w':=by
 rcases hh:T.head (L.getD k 0) with _|_
 ·by_cases aa:L.getD k 0=39
  ·exact S8 A c L k w hr hl hc hn hk he aa
  ·by_cases ab:L.getD k 0=37
   ·rcases hp:T.pre (L.drop k) [37,37] with _|_
    ·exact Sk A c L k w hr hl hc hn hk he hx ab hp
    ·exact Sn A c L k w hr hl hc hn hk hp
   ·exact Sl A c L k w hr hl hc hn hk he hx hh aa ab
 ·exact Sm A c L k w hr hl hc hn hk he hh
end Go.Proofs.YtjjbaehamplnaaaGreat
