/- Part of the proofs over this program: BldW, Ref8G, Dcl, Ref8D, Ref7S, Ref7O, Ref7T, Ref8O, BldE, BldF, BldJ, BldK, BldP, BldX. -/
import Derived.Test.YtcmhaemaophplaaGreatXF
set_option linter.all false
namespace Go
def EG:=@Go.run_build
def EC:=@Go.wp_append_own
end Go
open Go.RowKit Go.Proofs.Tryz
set_option maxRecDepth 100000
set_option maxHeartbeats 40000000
namespace Go.Proofs.YtcmhaemaophplaaGreat
variable {A:Option Go.Addr} {B N N' base base' g i k n px py:Nat} {cs:Array Go.Value} {ds:List Y.kB} {ns ns':List (List Int)} {ops:Array Go.Oper} {rs:List Gm.Rl} {ts:List Gm.Tm} {u v:Go.Value} {w w':Go.World} {xs:List Go.Value} {z:Int} {zs:List Int}
def mf (t:Gm.Tm):List Value:=[.string (K.str t.nm),.int .i64 t.lv,.int .i64 t.wy]
def ye (ts:List Gm.Tm):List Value:=ts.flatMap mf
def tI (ns:List (List Int)):List Value:=ns.map fun s=>.string (K.str s)
abbrev RA:=Gm.Rl×Option Addr×Nat
def pC (q:RA):List Value:=[.int .i64 q.1.l,.slice q.2.1 q.1.r.length q.2.2,.int .i64 q.1.p]
def Be (qs:List RA):List Value:=qs.flatMap pC
theorem Ie {α:Type} (f:α->List Value) (hf:∀x,(f x).length=3) (xs:List α) (i j:Nat) (hi:i<xs.length) (hj:j<3):(xs.flatMap f)[i*3+j]?=(f xs[i])[j]?:=by
 induction xs generalizing i with
 | nil=>simp at hi
 | cons x r ih =>
  rw[B5];have hl:=hf x;cases i with
  | zero=>rw[BM (by omega)];simp
  | succ i =>
   rw[Ce (by omega),hl,show(i+1)*3+j-3=i*3+j by omega]
   simpa using ih i (by simpa using hi)
theorem Kk {α:Type} (f:α->List Value) (hf:∀x,(f x).length=3) (xs:List α):(xs.flatMap f).length=xs.length*3:=by
 induction xs with
 | nil=>rfl
 | cons x r ih=>rw[B5,AW,ih,hf,BC];omega
def bB (w:World) (base:Nat) (v:Value) (ts:List Gm.Tm):Prop:=w.ownsRow base 81 3 v ts.length (ye ts)
def bK (w:World) (base:Nat) (v:Value) (ns:List (List Int)):Prop:=w.ownsRow base 9 1 v ns.length (tI ns)
def sS (w:World) (base N:Nat) (A:Option Addr) (zs:List Int):Prop :=
 zs.length≠0->∃(g:Nat) (cur:Array Value),A=some ⟨g,0,none⟩/\base<=g/\g<N/\w.heap[g]?=some (.cells cur 3 (0,0))/\∀j (h:j<zs.length),cur[j]?=some (.int .i64 zs[j])
def bA (w:World) (base N:Nat) (v:Value) (rs:List Gm.Rl):Prop :=
 ∃qs:List RA,qs.map (·.1)=rs/\w.ownsRow base 48 3 v rs.length (Be qs)/\(∀k,v.ownBlock=some k->k<N)/\∀q∈qs,q.1.r.length<=q.2.2/\q.2.2<=9223372036854775807/\sS w base N q.2.1 q.1.r
theorem bB.nil (w:World) (base:Nat):bB w base (.slice none 0 0) []:=Da w base _ _
theorem bK.nil (w:World) (base:Nat):bK w base (.slice none 0 0) []:=Da w base _ _
theorem bA.nil (w:World) (base N:Nat):bA w base N (.slice none 0 0) []:=⟨[],rfl,Da w base _ _,(by intro k h;cases h),(by intro q h;cases h)⟩
theorem aN {e:TypeId} {size:Nat} (h:w.ownsRow base e size v n xs):∃A c,v=.slice A n c/\n<=c/\c<=maxLen:=by
 rcases h.2 with⟨rfl,h0⟩|⟨g,cap,cur,rfl,hb,hg,hn,hm,hs,ht⟩
 ·exact⟨none,0,by rw[h0],by omega,by unfold maxLen;omega⟩
 ·exact⟨_,cap,rfl,hn,hm⟩
theorem J8 {e:TypeId} {size:Nat} (h:w.ownsRow base e size v n xs):∃A m c,v=.slice A m c:=by
 obtain⟨A,c,rfl,_⟩:=aN h;exact⟨A,n,c,rfl⟩
theorem aO {e:TypeId} {size:Nat} (h:w.ownsRow base e size v n xs) {o:Obj} (hg:w.heap[g]?=some o) (ho:∀cur,o ≠ .cells cur e (0,0)):v.ownBlock=none\/v.ownBlock≠some g:=by
 rcases h.2 with⟨rfl,_⟩|⟨g',cap,cur,rfl,_,aa,_⟩
 ·exact .inl rfl
 ·refine .inr fun e1=>?_;injection e1 with e1;have e1:g'=g:=e1;subst e1;rw[hg]at aa;injection aa with aa;exact ho _ aa
theorem aM {e:TypeId} {size:Nat} (h:w.ownsRow base e size v n xs) (hk:v.ownBlock=some k):base<=k/\∃cur,w.heap[k]?=some (.cells cur e (0,0)):=by
 rcases h.2 with⟨rfl,_⟩|⟨g',cap,cur,rfl,hb,aa,_⟩
 ·cases hk
 ·injection hk with hk;have hk:g'=k:=hk;subst hk;exact⟨hb,cur,aa⟩
theorem sS.grown {row:Option Nat} (h:sS w base N A zs) (hg:w.grownBy w' row) (hr:∀g,row=some g->(∀cur,w.heap[g]? ≠ some (.cells cur 3 (0,0)))\/N<=g):sS w' base N A zs:=fun hn=>by
 obtain⟨g,cur,e,hb,hN,hh,hc⟩:=h hn;refine⟨g,cur,e,hb,hN,(hg.block g (Ad.1 hh).1 (fun e=>?_)).trans hh,hc⟩;rcases hr g e.symm with q|q
 ·exact q _ hh
 ·omega
theorem sS.more (h:sS w base N A zs) (hN:N<=N'):sS w base N' A zs:=fun hn=>by
 obtain⟨g,cur,e,hb,h1,hh⟩:=h hn;exact⟨g,cur,e,hb,by omega,hh⟩
theorem bA.grown {w w':World} {base N:Nat} {v:Value} {rs:List Gm.Rl} {row:Option Nat} (h:bA w base N v rs) (hg:w.grownBy w' row) (hr:∀g,row=some g->((∀cur,w.heap[g]? ≠ some (.cells cur 3 (0,0)))/\(∀cur,w.heap[g]? ≠ some (.cells cur 48 (0,0))))\/N<=g):bA w' base N v rs:=by
 obtain⟨qs,h1,h2,h3,h4⟩:=h;refine⟨qs,h1,h2.kept hg ?_,h3,fun q hq=>⟨(h4 q hq).1,(h4 q hq).2.1,(h4 q hq).2.2.grown hg fun g e=>?_⟩⟩
 ·rcases hv:v.ownBlock with _|k
  ·exact .inl rfl
  ·refine .inr fun e=>?_;rcases hr k e.symm with q|q
   ·obtain⟨_,cur,hc⟩:=aM h2 hv;exact q.2 _ hc
   ·have:=h3 k hv;omega
 ·rcases hr g e with q|q
  ·exact .inl q.1
  ·exact .inr q
theorem bA.more {w:World} {base N N':Nat} {v:Value} {rs:List Gm.Rl} (h:bA w base N v rs) (hN:N<=N'):bA w base N' v rs:=by
 obtain⟨qs,h1,h2,h3,h4⟩:=h;exact⟨qs,h1,h2,fun k hk=>by have:=h3 k hk;omega,fun q hq=>⟨(h4 q hq).1,(h4 q hq).2.1,(h4 q hq).2.2.more hN⟩⟩
structure St where
 s:Gm.S1
 ns:List (List Int)
 rs:List Gm.Rl
 z:Int
def yV:Option fw->ByteArray|none=>⟨#[]⟩|some x=>K.str x.t
def yW (L:List Int):Option fw->Nat|none=>0|some x=>Fl.fl (Pl.pos (L.take x.o)).1
def yX (L:List Int):Option fw->Nat|none=>0|some x=>Fl.fl (Pl.pos (L.take x.o)).2
theorem aQ {T T':TypeId} (h:w.heap[g]?=some (.cells cs T (0,0))) (hT:T≠T') (cur:Array Value):w.heap[g]? ≠ some (.cells cur T' (0,0)):=by
 rw[h];intro e;injection e with e;injection e with _ e;exact hT e
theorem vB (v:Value):v.ownBlock=none\/v.ownBlock≠(none:Option Nat):=by
 rcases v.ownBlock with _|k
 ·exact .inl rfl
 ·exact .inr (by simp)
section
variable {w w':World} {B N R:Nat} {cs:Array Value} {vT vN vR:Value} {ts:List Gm.Tm} {ns:List (List Int)} {rs:List Gm.Rl} {Ms Mt:Nat} {ml tl:List (List Int×Value)} {row:Option Nat}
theorem aP {e e':TypeId} {size size' n':Nat} {ys:List Value} (h:w.ownsRow base e size v n xs) (k:w.ownsRow base' e' size' u n' ys) (he:e≠e'):v.ownBlock=none\/v.ownBlock≠u.ownBlock:=by
 rcases hu:u.ownBlock with _|g
 ·exact vB _
 ·obtain⟨_,cur,hc⟩:=aM k hu;exact aO h hc (fun cur' q=>by injection q with _ q;exact he q.symm)
theorem qE {e T:TypeId} {size:Nat} {ys:List Value} (hb:w.heap[g]?=some (.cells cs T (0,0))) (k:w.ownsRow base e size u n ys) (he:T≠e) (hg:w.grownBy w' u.ownBlock):w'.heap[g]?=some (.cells cs T (0,0)):=by
 refine(hg.block g (Ad.1 hb).1 (fun q=>?_)).trans hb;obtain⟨_,cur,hc⟩:=aM k q.symm;exact aQ hb he _ hc
end
theorem LS:(prog.info? 81).map (fun i=>(i.zero,i.size,i.bytes))=some (some (.agg #[.string ⟨#[]⟩,.int .i64 0,.int .i64 0]),3,32):=by kernel_rfl
theorem IX:(prog.info? 9).map (fun i=>(i.zero,i.size,i.bytes))=some (some (.string ⟨#[]⟩),1,16):=by kernel_rfl
theorem LV:(prog.info? 48).map (fun i=>(i.zero,i.size,i.bytes))=some (some (.agg #[.int .i64 0,.slice none 0 0,.int .i64 0]),3,40):=by kernel_rfl
theorem K5 {rest:List Oper} {o:Oper} {a:Act} {Q:Exit->Act->World->Prop} (af:o.guard=none) (s x:Operand) (t:TypeId) (ho:o.op=.call {callee:=.builtin .append,args:=#[s,x],argTypes:=#[t,t]}) (ht:prog.underlying t=some (.slice 48)) (base N:Nat) (v:Value) (rs:List Gm.Rl) (hs:a.eval s=v) (ab:bA w base N v rs) (g c:Nat) (q:RA) (hx:a.eval x=.slice (some ⟨g,0,none⟩) 1 c) (hz:∀j u,(pC q)[j]?=some u->w.cell? ⟨g,j,none⟩=some u) (hr:q.1.r.length<=q.2.2/\q.2.2<=9223372036854775807/\sS w base w.heap.size q.2.1 q.1.r) (ag:rs.length<=1000000) (aa:base<=w.heap.size) (hN:N<=w.heap.size) (hK:∀v' w',bA w' base w'.heap.size v' (rs++[q.1])->w.grownBy w' v.ownBlock->wpList prog ops Q rest (a.put o.dst v') w') :
  wpList prog ops Q (o::rest) a w:=by
 obtain⟨i,hi,ah,ai,aj⟩:=Cs LV;obtain⟨qs,ac,ad,al,ak⟩:=ab;have am:qs.length=rs.length:=by rw[<-ac,Bh]
 refine CT w af s x t ho base 48 i _ 3 40 ht hi ah ai aj rfl (by decide) v rs.length (Be qs) hs ad ⟨g,0,none⟩ 1 c (pC q) hx rfl ?_ ?_ (by unfold maxLen;omega) (by omega) aa fun v' w' h1 h2 _=>hK v' w' ?_ h2
 ·intro j u hj;rw[rX,BG];exact hz j u hj
 ·intro u hu;simp[pC]at hu;rcases hu with rfl|rfl|rfl <;> rfl
 ·have ae:∀g',v.ownBlock=some g'->(∀cur,w.heap[g']? ≠ some (.cells cur 3 (0,0)))\/w.heap.size<=g':=fun g' e=>by
   obtain⟨_,cur,hc⟩:=aM ad e;exact .inl (aQ hc (by decide))
  refine⟨qs++[q],by rw[Bf,ac];rfl,?_,fun k hk=>?_,fun p hp=>?_⟩
  ·rw[AW];unfold Be;rw[B4,Cw];exact h1
  ·obtain⟨_,cur,hc⟩:=aM h1 hk;exact(Ad.1 hc).1
  ·rcases Bt.1 hp with h|h
   ·obtain⟨a1,a2,a3⟩:=ak p h;exact⟨a1,a2,((a3.more hN).grown h2 ae).more h2.size⟩
   ·rw[AP]at h;subst h;exact⟨hr.1,hr.2.1,(hr.2.2.grown h2 ae).more h2.size⟩
theorem tS (w:World) (l:List Value) (T:TypeId) (j:Nat):(w.alloc (.cells l.toArray T)).cell? ⟨w.heap.size,j,none⟩=l[j]?:=by
 rw[AF _ _ j _ _ _ (AG w _)];simp
section
variable {w w':World} {B N R:Nat} {cs:Array Value} {vT vN vR:Value} {ts:List Gm.Tm} {ns:List (List Int)} {rs:List Gm.Rl} {Ms Mt:Nat} {ml tl:List (List Int×Value)}
end
theorem Y.lP (a:Int) (ts:List fw):Y.is [a,a] ts=Y.is [a] ts:=by
 cases ts with
 | nil=>rfl
 | cons t r =>
  show [a,a].contains t.k=[a].contains t.k
  rw[Bw];simp
theorem ie.row {L:List Int} {R:Nat} {ts:List fw} (h:ie L B R px py w ts) (hg:w.grownBy w' .none):ie L B R px py w' ts:=h.grown hg (fun _ e=>by cases e)
theorem ie.drew {L:List Int} {R:Nat} {ts:List fw} (h:ie L B R px py w ts):ie L B R px py w.drew ts:=h
theorem ie.len {L:List Int} {R:Nat} {ts:List fw} (h:ie L B R px py w ts):ts.length<=4000:=by obtain⟨_,_,_,_,h,_⟩:=h;exact h
theorem FO (L:List Int) (B R px py:Nat) (ts:List fw) (a b:Int) (w:World) (hr:ie L B R px py w ts) (t:fw) (r:List fw) (hk:Y.take [a,b] ts=.ok t r) :
  Calls prog 90 #[.pointer (some ⟨R,0,none⟩),.int .i64 a,.int .i64 b] w fun e w'=>e=.returned (sQ L t)/\w.grownBy w' (some R)/\ie L B R px py w' r:=by
 obtain⟨rfl,h⟩:=Y.ik hk;exact zV L B R px py t r a b w hr h
theorem Gd (a:Int) (ts:List fw):Y.take [a,a] ts=Y.take [a] ts:=by
 cases ts with
 | nil=>rfl
 | cons t r =>
  have h:([a,a]:List Int).contains t.k=[a].contains t.k:=Y.lP a (t::r);rw[Y.take_cons,Y.take_cons,h]
def Mv (L:List Int) (t:fw):Obj:=.cells #[.string (K.str t.t),.complex .f64 (Fl.fl (Pl.pos (L.take t.o)).1) (Fl.fl (Pl.pos (L.take t.o)).2)] 127 (0,0)
theorem vz {e:TypeId} {size:Nat} (h:w.ownsRow base e size v n xs) {R:Nat} (hR:R<base):v.ownBlock=none\/v.ownBlock≠some R:=by
 rcases hv:v.ownBlock with _|k
 ·exact .inl rfl
 ·have:=(Bk h k hv).1
  exact .inr (fun e=>by injection e with e;omega)
theorem bL.qY {L:List Int} {ps:List Y.iv} (h:bL L w base v ps) (o:Obj):bL L (w.alloc o) base v ps:=h.grown (aL (AJ _ _) o) (zu.none _ _)
theorem NQ {L:List Int} {c:Nat} {left pt:fw} {rs:List fw} (h:w.heap[g]?=some (.cells (a7 L ⟨left,rs,none⟩ A c).toArray 135 (0,0))) (u3 u4:Value) (h3:u3=.string (K.str pt.t)) (h4:u4=.complex .f64 (Fl.fl (Pl.pos (L.take pt.o)).1) (Fl.fl (Pl.pos (L.take pt.o)).2)) :
  ((w.setCell ⟨g,3,none⟩ u3).setCell ⟨g,4,none⟩ u4).heap[g]?=some (.cells (a7 L ⟨left,rs,some pt⟩ A c).toArray 135 (0,0)):=by
 subst h3 h4;have h3:=AZ w g 3 _ _ (.string (K.str pt.t)) h;rw[AZ _ g 4 _ _ _ h3];rfl
theorem KG {size:Nat} (h:w.heap[g]?=some (.cells cs 127 (0,0))) (o:Obj) (ho:(w.alloc o).ownsRow base 135 size v n xs) (hg:(w.alloc o).grownBy w' v.ownBlock):w'.heap[g]?=some (.cells cs 127 (0,0)):=by
 have h1:(w.alloc o).heap[g]?=some (.cells cs 127 (0,0)):=(((AB _ w).alloc (Af _) o).block g (Ad.1 h).1).trans h;exact Og h1 hg (zG ho (by decide))
theorem LY (L:List Int) (B R px py:Nat) (ts:List fw) (ps:List Y.iv) (r:List fw) (w:World) (hr:ie L B R px py w ts) (hy:Y.group [] ts=.ok ps r) :
  Calls prog 91 #[.pointer (some ⟨R,0,none⟩)] w fun e w'=>w.grownBy w' (some R)/\∃v,e=.returned v/\bL L w' w.heap.size v ps/\ie L B R px py w' r:=by
 have HR:=aA hr;have ac:=hr.lt;have cs:=aA hr.len;unfold Y.group at hy;obtain⟨left,m,h1,hy⟩:=Y.fD hy;obtain⟨t10,m2,h2,hy⟩:=Y.fD hy;have a4:=aA (FO L B R px py ts 1 1 w hr left m ((Gd 1 ts).trans h1));have a5:=aA (fun(x:World) (h:ie L B R px py x m)=>FO L B R px py m 10 10 x h t10 m2 ((Gd 10 m).trans h2));have HY:=aA hy;have SC:=fun a w m X Y=>show(store a (.complex .f64 X Y) m).run prog w=stored prog w a (.complex .f64 X Y) m from run_store _ w a _ m rfl;clear hr h1 h2 hy;unfold sQ at a4 a5
 go_enter func91,ntmps91
 go_wp2_with fail
 refine a4.o.mono ?_;rintro _ w2 ⟨rfl,a6,bs⟩;have bu:=aA a6;have bv:=aA (bs.alloc (.cells #[.string (K.str left.t),.complex .f64 (Fl.fl (Pl.pos (L.take left.o)).1) (Fl.fl (Pl.pos (L.take left.o)).2)] 127));have cu:=a6.size;clear a6 bs;go_wp2_with fail
 refine(a5.o _ bv.o).mono ?_;rintro _ w3 ⟨rfl,ax,bw⟩;have bx:=aA ((aL bu.o (.cells #[.string (K.str left.t),.complex .f64 (Fl.fl (Pl.pos (L.take left.o)).1) (Fl.fl (Pl.pos (L.take left.o)).2)] 127)).trans ax);have a9:=aA bw;have bz:Hid (w3.heap[w2.heap.size]?=some (Mv L left)):=aA (JV ax (by omega));have cv:w2.heap.size+1<=w3.heap.size:=by have:=ax.size;simpa using this
 clear ax bw;go_wp2_with fail
 go_loopw [3] (fun v wr=>∃(acc:List Y.iv) (rest:List fw) (f:Nat),Hid (Y.alts f left acc rest=.ok ps r)/\rest.length<f/\bL L wr w.heap.size v acc/\ie L B R px py wr rest/\w.grownBy wr (some R)/\wr.heap[w2.heap.size]?=some (Mv L left)/\acc.length+rest.length<=4000) (fun v _=>4001-zX v)
 case atStart=>exact⟨[],m2,m2.length+1,HY,by omega,bL.nil _ _ _,a9.o,bx.o,bz.o,by have:=a9.o.len;simpa using this⟩
 case round =>
  clear a4 a5 bv bu a9 bz bx HR HY;obtain⟨acc,rest,f,HY,hf,ho,hr,hg,hb,hl⟩:=hrel;have HO:=aA ho;have HR:=aA hr;have HG:=aA hg;have HB:=aA hb;obtain⟨Aa,ca,rfl,_,_⟩:=ho.form;obtain⟨f,rfl⟩:∃f',f=f'+1:=⟨f-1,by omega⟩
  have hY:=HY.o;rw[Y.alts]at hY;obtain⟨p,m3,hp,hY⟩:=Y.fD hY;obtain⟨t,m4,ht,hY⟩:=Y.fD hY;obtain⟨Ax,cx,cw,cy,_⟩:=hr.cell0;have HP:=aA hp;have HT:=aA ht;have ay:=aA hY;clear ho hr hg hb hp ht hY;go_upto_region 5 with fail
  go_cut [5] (fun s5 wx=>∃g A c,s5=.pointer (some ⟨g,0,none⟩)/\wr.heap.size<=g/\wx.heap[g]?=some (.cells (a7 L ⟨left,rest.takeWhile Y.isRef,none⟩ A c).toArray 135 (0,0))/\mx L wx w.heap.size A (rest.takeWhile Y.isRef)/\ie L B R px py wx (rest.dropWhile Y.isRef)/\wr.grownBy wx (some R))
  case first =>
   have bD:w2.heap.size≠R:=by omega
   have CL0:=fun y:Calm.vG R wr=>aS (rQ y.2 HB.o bD);have CL1:=fun y:Calm.vG R wr=>aX (rQ y.2 HB.o bD);have bM:wr.grownBy wr.drew (some R):=xW wr _;have ag:R<wr.heap.size:=HR.o.lt;have cf:w.heap.size<=wr.heap.size:=HG.o.size;refine Calm.fk (fun x=>∃y:Calm.vG R wr,x=y.1) (.two [0,1] 2 (.one [3] 4 (.one [] 5 (.fin []))) 4 (.one [] 2 (.one [3] 5 (.fin [])))) (by kernel_rfl) (by kernel_rfl) (fun _ _ d _ _ h=>by cases d <;> exact h) ⟨⟨wr.drew,bM⟩,rfl⟩ ?_;simp only[Calm.fN,Calm.fv,Calm.fo,Az,Am,Ap];repeat (go_big_quiet_step (fail))
   refine Aw ?_;have N:=aA (fun(x:World) (hx:ie L B R px py x rest)=>SO L B R px py rest x hx);refine⟨?_,?_⟩
   ·intro KK I;rw[AC (by rfl)];go_wp2_with fail
    refine(N.o _ HR.o.drew).mono ?_;rintro _ w4 ⟨O,v,rfl,ho,ah⟩;obtain⟨A,c,rfl,ba,bb,ai⟩:=ho.rd;have hg:wr.grownBy w4 (some R):=bM.trans O;clear ho O ba bb;go_wp2_with fail
    refine I _ _ ⟨⟨w4,hg⟩,rfl⟩ _ (fun _ h=>h) ⟨⟨w4,hg⟩,rfl⟩ ?_;repeat (go_big_quiet_step (fail))
    refine Aw ?_;intro KK I;rw[AC (by rfl)];go_wp2_with fail
    refine I _ _ ⟨⟨_,aL hg _⟩,rfl⟩ _ (fun _ h=>h) ⟨⟨_,aL hg _⟩,rfl⟩ ?_;repeat (go_big_quiet_step (fail))
    refine Aw ?_;intro KK I;try rw[AC (by rfl)]
    go_wp2_with fail
    refine I _ _ ⟨⟨_,aL hg _⟩,rfl⟩ _ (fun _ h=>h) ⟨⟨_,aL hg _⟩,rfl⟩ ?_;refine Aw ?_;go_wp2_with fail
    go_meet
    case rel =>
     refine⟨w4.heap.size,A,c,rfl,hg.size,AG _ _,(ai.less cf).grown (aL (AJ _ _) _) (pE.none _),ah.alloc _,aL hg _⟩
   ·intro KK I;rw[AC (by rfl)];go_wp2_with fail
    obtain⟨w4,az⟩:∃x,x=(wr.alloc (.cells #[.string ⟨#[]⟩,.complex .f64 0 0,.slice none 0 0,.string ⟨#[]⟩,.complex .f64 0 0] 135)).drew:=⟨_,rfl⟩
    rw[<-az];have O:wr.grownBy w4 .none:=by rw[az];exact(aL (AJ _ _) _).trans (xW _ _)
    have cg:w4.heap[wr.heap.size]?=some (.cells #[.string ⟨#[]⟩,.complex .f64 0 0,.slice none 0 0,.string ⟨#[]⟩,.complex .f64 0 0] 135 (0,0)):=by rw[az];exact AG wr _
    have ch:=HR.o.row O;clear az;refine I _ _ ⟨⟨w4,O.row _⟩,rfl⟩ _ (fun _ h=>h) ⟨⟨w4,O.row _⟩,rfl⟩ ?_;refine Aw ?_;intro KK I;try rw[AC (by rfl)]
    go_wp2_with fail
    refine(N.o _ ch).mono ?_;rintro _ w5 ⟨ao,v,rfl,ho,ah⟩;obtain⟨A,c,rfl,ba,bb,ai⟩:=ho.rd;have hg:wr.grownBy w5 (some R):=(O.row _).trans ao;have H:=rQ ao cg (by omega);clear ho ba bb;go_wp2_with fail
    refine I _ _ ⟨⟨w5,hg⟩,rfl⟩ _ (fun _ h=>h) ⟨⟨w5,hg⟩,rfl⟩ ?_;repeat (go_big_quiet_step (fail))
    refine Aw ?_;intro KK I;try rw[AC (by rfl)]
    have c0:=AF w5 _ 0 _ _ _ H;have c1:=AF w5 _ 1 _ _ _ H;have c2:=AF w5 _ 2 _ _ _ H;have c3:=AF w5 _ 3 _ _ _ H;have c4:=AF w5 _ 4 _ _ _ H;have f0:=AH w5 _ 0 _ _ H;have f1:=AH w5 _ 1 _ _ H;have f2:=AH w5 _ 2 _ _ H;have f3:=AH w5 _ 3 _ _ H;have f4:=AH w5 _ 4 _ _ H;go_wp2_with fail
    have bc:=aA (fun u0 u1 u2 u3 u4=>zf (zf (zf (zf (zf hg wr.heap.size 0 u0 (Af _)) wr.heap.size 1 u1 (Af _)) wr.heap.size 2 u2 (Af _)) wr.heap.size 3 u3 (Af _)) wr.heap.size 4 u4 (Af _));refine I _ _ ⟨⟨_,bc.o _ _ _ _ _⟩,rfl⟩ _ (fun _ h=>h) ⟨⟨_,bc.o _ _ _ _ _⟩,rfl⟩ ?_;refine Aw ?_;go_wp2_with fail
    go_meet
    case rel =>
     refine⟨wr.heap.size,A,c,rfl,Af _,Sa H _ _ _ _ _,(ai.less (by have:=O.size;omega)).grown (aF (aF (aF (aF (aF (AJ _ _) _ _) _ _) _ _) _ _) _ _) (Gf H (by decide)),((((ah.jr _ _ _ ag).jr _ _ _ ag).jr _ _ _ ag).jr _ _ _ ag).jr _ _ _ ag,bc.o _ _ _ _ _⟩
  case rest =>
   obtain⟨g,A,c,rfl,ci,bT,ai,ah,U⟩:=hcut;have a0:=aA bT;have a1:=aA ai;have a2:=aA ah;have bX:=aA U;have ag:R<wr.heap.size:=HR.o.lt;have cj:Hid (g≠R):=aA (by omega);have b0:Hid (R<g):=aA (by omega);have b1:Hid (wr.heap.size<=g):=aA ci;have ck:Hid ((Value.slice Aa acc.length ca).ownBlock=none\/(Value.slice Aa acc.length ca).ownBlock≠some R):=aA (by obtain⟨zs,aa⟩:=HO.o.own;exact vz aa ac);have b2:Hid (Y.gD left rest=Y.qn left (rest.takeWhile Y.isRef) (rest.dropWhile Y.isRef)):=aA rfl;have b3:Hid ((rest.dropWhile Y.isRef).length<=rest.length):=aA ((List.dropWhile_sublist _).length_le);clear bT ai ah U;generalize rest.takeWhile Y.isRef=rs at *;generalize rest.dropWhile Y.isRef=rest2 at *;have ap:=aA (F3 L B R px py rest2 8 8 wc a2.o);rw[Y.lP]at ap;rcases hb:Y.is [8] rest2 with _|_
   focus
    rw[hb]at ap;have cl:Hid (p=⟨left,rs,none⟩/\m3=rest2):=aA (by have h:=HP.o;rw[b2.o]at h;unfold Y.qn at h;rw[hb]at h;rw[AI (by simp)]at h;injection h with h1 h2;exact⟨h1.symm,h2.symm⟩);obtain⟨aj,V⟩:=cl.o;have bd:Hid (wc.heap[g]?=some (.cells (a7 L p A c).toArray 135 (0,0))):=aA (by rw[aj];exact a0.o);have ad:Hid (ie L B R px py wc m3):=aA (by rw[V];exact a2.o);have ae:Hid (mx L wc w.heap.size A p.r):=aA (by rw[aj];exact a1.o);have D:=bX;have aq:Hid (m3.length<=rest.length):=aA (by rw[V];exact b3.o);clear aj V a0 a1;go_wp2_with fail
    refine ap.o.mono ?_;rintro _ _ ⟨rfl,rfl⟩
   rotate_left
   focus
    rw[hb]at ap;obtain⟨t8,r8,ab,af,_⟩:=Y.se hb;have ak:=HP.o;rw[b2.o]at ak;unfold Y.qn at ak;rw[hb,AC rfl,af,Y.r4]at ak;obtain⟨pt,r9,bf,ak⟩:=Y.fD ak;injection ak with aj V;have b4:=aA aj;have b5:=aA (FO L B R px py rest2 8 8 wc a2.o t8 r8 ((Gd 8 rest2).trans af));have b6:=aA (fun(x:World) (h:ie L B R px py x r8)=>FO L B R px py r8 1 2 x h pt r9 bf)
    have aq:Hid (m3.length<=rest.length):=aA (by
     have h1:=(Y.ik bf).1;have h2:=b3.o;rw[ab,h1]at h2;rw[<-V];simp at h2
     omega)
    have cm:Hid (r9=m3):=aA V;clear ab af bf aj V hb;unfold sQ at b5 b6;go_wp2_with fail
    refine ap.o.mono ?_;rintro _ _ ⟨rfl,rfl⟩;go_wp2_with fail
    refine b5.o.mono ?_;rintro _ w5 ⟨rfl,ao,b7⟩;have cn:=aA ao;have co:=aA b7;clear ao b7;go_wp2_with fail
    refine(b6.o _ co.o).mono ?_;rintro _ w6 ⟨rfl,b9,cb⟩;have U:=cn.o.trans b9;have n:=rQ U a0.o cj.o;have e3:=AH w6 g 3 _ _ n;have e4:=AH w6 g 4 _ _ n;have d3:=bI n;have d4:=rU n;have bg:=aA n;have cp:=aA (bX.o.trans U);have cq:=aA cb;have bh:=aA (a1.o.grown U a2.o.other);have cr:=aA (Gf n (by decide));clear n b9 cb U a0 a1;go_upto_region 9 with fail
    obtain⟨w7,al⟩:∃x,x=(w6.setCell ⟨g,3,none⟩ (.string (K.str pt.t))).setCell ⟨g,4,none⟩ (.complex .f64 (Fl.fl (Pl.pos (L.take pt.o)).1) (Fl.fl (Pl.pos (L.take pt.o)).2)):=⟨_,rfl⟩
    rw[<-al];have bd:Hid (w7.heap[g]?=some (.cells (a7 L p A c).toArray 135 (0,0))):=aA (by rw[al,<-b4.o];exact NQ bg.o _ _ rfl rfl);have ad:Hid (ie L B R px py w7 m3):=aA (by rw[al,<-cm.o];exact(cq.o.jr _ _ _ b0.o).jr _ _ _ b0.o);have ae:Hid (mx L w7 w.heap.size A p.r):=aA (by rw[al,<-b4.o];exact bh.o.grown (aF (aF (AJ _ _) _ _) _ _) cr.o);have D:Hid (wr.grownBy w7 (some R)):=aA (by rw[al];exact zf (zf cp.o _ _ _ b1.o) _ _ _ b1.o);clear al e3 e4 d3 d4
   rotate_left
   all_goals
    have bi:=aA (HO.o.grown D.o ⟨HR.o.other,ck.o⟩);have a3:Hid (acc.length<=4000):=aA (by omega);obtain⟨x3,x4,ar⟩:=Nh L p.p;have bj:=aA (show a7 L p A c=[.string (K.str p.l.t),.complex .f64 (Fl.fl (Pl.pos (L.take p.l.o)).1) (Fl.fl (Pl.pos (L.take p.l.o)).2),.slice A p.r.length c,x3,x4] by unfold a7;rw[ar];rfl);have n:=bd.o;rw[bj.o]at n
   focus
    have g0:=aS n;have g1:=aX n;have g2:=aY n;have g3:=bI n;have g4:=rU n;have bk:=aA (fun j u (hj:(a7 L p A c)[j]?=some u)=>(tS wc [.string (K.str p.l.t),.complex .f64 (Fl.fl (Pl.pos (L.take p.l.o)).1) (Fl.fl (Pl.pos (L.take p.l.o)).2),.slice A p.r.length c,x3,x4] 135 j).trans (bj.o▸hj));have bl:Hid (w.heap.size<=wc.heap.size):=aA (by have h1:=HG.o.size;have h2:=D.o.size;omega)
   rotate_left
   focus
    have g0:=aS n;have g1:=aX n;have g2:=aY n;have g3:=bI n;have g4:=rU n;have bk:=aA (fun j u (hj:(a7 L p A c)[j]?=some u)=>(tS w7 [.string (K.str p.l.t),.complex .f64 (Fl.fl (Pl.pos (L.take p.l.o)).1) (Fl.fl (Pl.pos (L.take p.l.o)).2),.slice A p.r.length c,x3,x4] 135 j).trans (bj.o▸hj));have bl:Hid (w.heap.size<=w7.heap.size):=aA (by have h1:=HG.o.size;have h2:=D.o.size;omega)
   rotate_left
   all_goals
    have E:=aA (fun(x:World) (h:ie L B R px py x m3)=>F3 L B R px py m3 11 11 x h);have cc:=aA (HG.o.trans D.o);have cd:=rQ D.o HB.o (by omega);have ce:=aA cd;clear n ar bd cd;obtain⟨zs,aa⟩:=(bi.o.qY (.cells #[.string (K.str p.l.t),.complex .f64 (Fl.fl (Pl.pos (L.take p.l.o)).1) (Fl.fl (Pl.pos (L.take p.l.o)).2),.slice A p.r.length c,x3,x4] 135)).own;have am:=aA aa;clear aa
   focus
    rcases b:Y.is [11] m3 with _|_
    focus
     have HK:=aA b;rw[Y.lP,b]at E;obtain⟨rfl,hk⟩:=Y.ik HT.o
     have F:t.k=12:=by
      have h1:[(11:Int)].contains t.k=false:=b;simp at h1 hk;omega
     have Z:=aA (fun(x:World) (h:ie L B R px py x (t::m4))=>zV L B R px py t m4 12 12 x h (by show [(12:Int),12].contains t.k=true;rw[F];rfl));have q:Hid (acc++[p]=ps/\m4=r):=aA (by have h:=ay.o;rw[AI (by rw[F];decide)]at h;injection h with h1 h2;exact⟨h1,h2⟩)
    rotate_left
    focus
     have HK:=aA b;rw[Y.lP,b]at E;obtain⟨rfl,hk⟩:=Y.ik HT.o
     have F:t.k=11:=by
      have h1:[(11:Int)].contains t.k=true:=b
      simpa using h1
     have Z:=aA (fun(x:World) (h:ie L B R px py x (t::m4))=>zV L B R px py t m4 11 11 x h (by show [(11:Int),11].contains t.k=true;rw[F];rfl));have q:Hid (Y.alts f left (acc++[p]) m4=.ok ps r):=aA (by have h:=ay.o;rwa [AC F]at h)
    rotate_left
    all_goals
     unfold sQ at Z;clear b hk F;go_wp2_with (at_builtin;(refine LQ rfl (.tmp 26) (.tmp 28) _ rfl underlying94 L w.heap.size _ acc rfl (bi.o.qY _) wc.heap.size 1 p A c rfl bk.o (ae.o.grown (aL (AJ _ _) _) (pE.none _)) (by have:=a3.o;omega) (by have:=bl.o;simp;omega) ?_;intro v9 w9 J M))
     have z:=aA ((ad.o.alloc (.cells #[.string (K.str p.l.t),.complex .f64 (Fl.fl (Pl.pos (L.take p.l.o)).1) (Fl.fl (Pl.pos (L.take p.l.o)).2),.slice A p.r.length c,x3,x4] 135)).own am.o M ac);have bm:=aA (Ir (aL cc.o (.cells #[.string (K.str p.l.t),.complex .f64 (Fl.fl (Pl.pos (L.take p.l.o)).1) (Fl.fl (Pl.pos (L.take p.l.o)).2),.slice A p.r.length c,x3,x4] 135)) am.o M);obtain⟨A9,c9,au,_,_⟩:=J.form;rw[show(acc++[p]).length=acc.length+1 by simp]at au;subst au;have bo:=aA J;have bp:=aA ((KG ce.o (.cells #[.string (K.str p.l.t),.complex .f64 (Fl.fl (Pl.pos (L.take p.l.o)).1) (Fl.fl (Pl.pos (L.take p.l.o)).2),.slice A p.r.length c,x3,x4] 135) am.o M));obtain⟨z9,s⟩:=J.own;have bq:=aA s;clear J M s;go_wp2_with fail
     refine(E.o _ z.o).mono ?_;rintro _ _ ⟨rfl,rfl⟩;go_wp2_with fail
     refine(Z.o _ z.o).mono ?_;rintro _ w10 ⟨rfl,i,C⟩;have av:=aA (bm.o.trans i);have aw:=aA (bo.o.grown i ⟨z.o.other,vz bq.o (by omega)⟩);have N:=aA C
    focus
     clear i C;go_wp2;go_ret
     refine⟨av.o,_,rfl,?_,?_⟩
     ·rw[<-q.o.1];exact aw.o
     ·rw[<-q.o.2];exact N.o
    focus
     have br:=aA (rQ i bp.o (by omega));clear i C;go_wp2;go_roundw
     case rel=>exact⟨acc++[p],m4,f,q,by have:=aq.o;simp at this;omega,aw.o,N.o,av.o,br.o,by have:=aq.o;simp at this ⊢;omega⟩
     case measure=>have:=a3.o;simp[zX];omega
   focus
    rcases b:Y.is [11] m3 with _|_
    focus
     have HK:=aA b;rw[Y.lP,b]at E;obtain⟨rfl,hk⟩:=Y.ik HT.o
     have F:t.k=12:=by
      have h1:[(11:Int)].contains t.k=false:=b;simp at h1 hk;omega
     have Z:=aA (fun(x:World) (h:ie L B R px py x (t::m4))=>zV L B R px py t m4 12 12 x h (by show [(12:Int),12].contains t.k=true;rw[F];rfl));have q:Hid (acc++[p]=ps/\m4=r):=aA (by have h:=ay.o;rw[AI (by rw[F];decide)]at h;injection h with h1 h2;exact⟨h1,h2⟩)
    rotate_left
    focus
     have HK:=aA b;rw[Y.lP,b]at E;obtain⟨rfl,hk⟩:=Y.ik HT.o
     have F:t.k=11:=by
      have h1:[(11:Int)].contains t.k=true:=b
      simpa using h1
     have Z:=aA (fun(x:World) (h:ie L B R px py x (t::m4))=>zV L B R px py t m4 11 11 x h (by show [(11:Int),11].contains t.k=true;rw[F];rfl));have q:Hid (Y.alts f left (acc++[p]) m4=.ok ps r):=aA (by have h:=ay.o;rwa [AC F]at h)
    rotate_left
    all_goals
     unfold sQ at Z;clear b hk F;go_wp2_with (at_builtin;(refine LQ rfl (.tmp 26) (.tmp 28) _ rfl underlying94 L w.heap.size _ acc rfl (bi.o.qY _) w7.heap.size 1 p A c rfl bk.o (ae.o.grown (aL (AJ _ _) _) (pE.none _)) (by have:=a3.o;omega) (by have:=bl.o;simp;omega) ?_;intro v9 w9 J M))
     have z:=aA ((ad.o.alloc (.cells #[.string (K.str p.l.t),.complex .f64 (Fl.fl (Pl.pos (L.take p.l.o)).1) (Fl.fl (Pl.pos (L.take p.l.o)).2),.slice A p.r.length c,x3,x4] 135)).own am.o M ac);have bm:=aA (Ir (aL cc.o (.cells #[.string (K.str p.l.t),.complex .f64 (Fl.fl (Pl.pos (L.take p.l.o)).1) (Fl.fl (Pl.pos (L.take p.l.o)).2),.slice A p.r.length c,x3,x4] 135)) am.o M);obtain⟨A9,c9,au,_,_⟩:=J.form;rw[show(acc++[p]).length=acc.length+1 by simp]at au;subst au;have bo:=aA J;have bp:=aA ((KG ce.o (.cells #[.string (K.str p.l.t),.complex .f64 (Fl.fl (Pl.pos (L.take p.l.o)).1) (Fl.fl (Pl.pos (L.take p.l.o)).2),.slice A p.r.length c,x3,x4] 135) am.o M));obtain⟨z9,s⟩:=J.own;have bq:=aA s;clear J M s;go_wp2_with fail
     refine(E.o _ z.o).mono ?_;rintro _ _ ⟨rfl,rfl⟩;go_wp2_with fail
     refine(Z.o _ z.o).mono ?_;rintro _ w10 ⟨rfl,i,C⟩;have av:=aA (bm.o.trans i);have aw:=aA (bo.o.grown i ⟨z.o.other,vz bq.o (by omega)⟩);have N:=aA C
    focus
     clear i C;go_wp2;go_ret
     refine⟨av.o,_,rfl,?_,?_⟩
     ·rw[<-q.o.1];exact aw.o
     ·rw[<-q.o.2];exact N.o
    focus
     have br:=aA (rQ i bp.o (by omega));clear i C;go_wp2;go_roundw
     case rel=>exact⟨acc++[p],m4,f,q,by have:=aq.o;simp at this;omega,aw.o,N.o,av.o,br.o,by have:=aq.o;simp at this ⊢;omega⟩
     case measure=>have:=a3.o;simp[zX];omega
def EX (x:fw):Prop:=K.Tx x.t/\Gm.named x.t=true/\x.t≠[101,114,114,111,114]
def xD (ds:List Y.kB):Prop:=ds=[]
def Jh (p:Y.iv):Prop:=p.p=none
theorem OO (ds:List Y.kB) {S S':Gm.S1} (hk:xD ds) (h:Gm.decls S ds=.ok S'):S'.st=S.st:=by
 unfold xD at hk;subst hk;rw[Gm.decls]at h;injection h with h;rw[h]
theorem Y.mH:∀(f:Nat) (acc:List Y.kB) (ts:List fw) (ds:List Y.kB) (r:List fw),Y.decls f acc ts=.ok ds r->∃ms,ds=acc++ms
 | 0,acc,ts,ds,r,h=>by injection h with h1 h2;exact⟨[],by rw[<-h1,CF]⟩
 | f+1,acc,ts,ds,r,h=>by
  rw[Y.decls]at h;split at h
  ·injection h with h1 h2;exact⟨[],by rw[<-h1,CF]⟩
  ·obtain⟨d,m,h1,h2⟩:=Y.fD h;obtain⟨ms,e⟩:=Y.mH f _ _ _ _ h2;exact⟨d::ms,by rw[e];simp⟩
theorem Td (L:List Int) (B R px py:Nat) (f:Nat) (ts:List fw) (ds:List Y.kB) (r:List fw) (w:World) (hr:ie L B R px py w ts) (hy:Y.decls f [] ts=.ok ds r) (hf:ts.length<f) (ac:xD ds) :
  Calls prog 89 #[.pointer (some ⟨R,0,none⟩)] w fun e w'=>w.grownBy w' (some R)/\∃v,e=.returned v/\bR L w' w.heap.size v ds/\ie L B R px py w' r:=by
 have HR:=aA hr;have ad:=hr.lt;have HY:=aA hy;have HF:=aA hf;have ae:=aA ac;have ah:=hr.len;have SC:=fun a w m X Y=>show(store a (.complex .f64 X Y) m).run prog w=stored prog w a (.complex .f64 X Y) m from run_store _ w a _ m rfl;have BDD:=fun A (n c:Nat) k w=>(EG w 168 _ _ (by kernel_rfl):(Instr.build 168 #[(0,.int .i64 k),(1,.slice A n c)]).run prog w=.ok (.agg #[.int .i64 k,.slice A n c]) w)
 clear hr hy hf ac
 go_enter func89,ntmps89
 go_wp2;go_loopw [3] (fun v wr=>∃(acc:List Y.kB) (rest:List fw) (f:Nat),Hid (Y.decls f acc rest=.ok ds r)/\rest.length<f/\bR L wr w.heap.size v acc/\ie L B R px py wr rest/\w.grownBy wr (some R)/\acc.length+rest.length<=ts.length) (fun v _=>4001-zX v)
 case atStart=>exact⟨[],ts,f,HY,HF.o,bR.nil _ _ _,HR.o,AJ _ _,by simp⟩
 case round =>
  clear HR HY HF;obtain⟨acc,rest,f,HY,hf,ho,hr,hg,hl⟩:=hrel;have HO:=aA ho;have HR:=aA hr;have HG:=aA hg;obtain⟨Aa,ca,rfl,_,_⟩:=ho.form;obtain⟨f,rfl⟩:∃f',f=f'+1:=⟨f-1,by omega⟩
  obtain⟨Ax,cx,ai,aj,_⟩:=hr.cell0;have ab:=aA (fun(x:World) (h:ie L B R px py x rest)=>I9 L B R px py rest x h);have hY:=HY.o;rw[Y.decls]at hY;rcases rest with _|⟨t,m1⟩
  ·exfalso
   rw[AI (by simp[Y.is])]at hY;obtain⟨d,m,h1,_⟩:=Y.fD hY;unfold Y.decl at h1;obtain⟨t,m,h2,_⟩:=Y.fD h1;cases h2
  have af:Hid (kd (t::m1)=t.k):=aA rfl;rw[af.o]at ab;have ag:0<((t::m1).length:Int):=by simp
  by_cases h9:t.k=9
  ·have aa:Hid (acc=ds/\t::m1=r):=aA (by
    rw[AC (by show [(9:Int)].contains t.k=true;rw[h9];rfl)]at hY;injection hY with h1 h2;exact⟨h1,h2⟩)
   rw[h9]at ab;clear hY h9 ho hr hg;generalize (t::m1).length=n at *;go_wp2_with fail
   refine(ab.o _ HR.o).mono ?_;rintro _ _ ⟨rfl,rfl⟩;go_wp2;go_ret
   exact⟨HG.o,_,rfl,by rw[<-aa.o.1];exact HO.o,by rw[<-aa.o.2];exact HR.o⟩
  ·rw[AI (by show ¬ [(9:Int)].contains t.k=true;simpa using fun e=>h9 e)]at hY;obtain⟨d,m2,hd,hY⟩:=Y.fD hY
   exfalso
   obtain⟨ms,e⟩:=Y.mH _ _ _ _ _ hY;have h0:=ae.o;unfold xD at h0;rw[h0]at e;simp at e
namespace T
theorem jG (l:List Int) (a b:Int) (hl:K.Bytes l) (ab:K.Bytes [a,b]) (h:pre l [a,b]=true):l.getD 0 0=a/\l.getD 1 0=b:=by
 have aa:=FI l _ h;rw[qi l [a,b],BJ,gI,gI]at h;have h2:=K.bytes_inj (hl.take 2) ab h
 match l,aa with
 | x::y::r,_ =>
  simp at h2;exact⟨h2.1,h2.2⟩
theorem qh (l:List Int) (h:l.getD 0 0=32\/l.getD 0 0=9\/l.getD 0 0=10\/l.getD 0 0=13):piece l=(0,1,0):=by
 unfold piece;simp only;rw[AC h]
theorem qf (l:List Int) (h:l.getD 0 0=47):piece l=comment l:=by
 unfold piece;simp only[h];rfl
theorem uI (l:List Int) (h:l.getD 0 0=60):piece l=skip (line l) 1 [62]:=by
 unfold piece;simp only[h];rfl
theorem te (l:List Int) (h:l.getD 0 0=123):piece l=action l:=by
 unfold piece;simp only[h];rfl
theorem mW (l:List Int) (h:l.getD 0 0=37):piece l=jF l:=by
 unfold piece;simp only[h];rfl
theorem ry (l:List Int) (hb:¬(l.getD 0 0=32\/l.getD 0 0=9\/l.getD 0 0=10\/l.getD 0 0=13)) (h1:pre l [47,42]=false) (h2:pre l [47,47]=false) (h3:pre l [37,123]=false) (h4:¬l.getD 0 0=60) (h5:¬l.getD 0 0=123) (he:(piece l).2.2=0):(piece l).1≠0:=by
 revert he
 unfold piece;simp only;rw[AI hb,AI h4,AI h5];split
 ·unfold comment;rw[h1,h2];simp
 split
 ·unfold jF;rw[h3];have hw:=np (List.drop 1 (List.take (jX l) l));split
  ·simp
  split
  ·rename_i h;simp at h
  split
  ·simp
  ·rename_i hh;intro _;exact hh
 split
 ·unfold literal;split
  ·simp
  split
  ·simp
  split <;> simp
 split
 ·simp
 split
 ·simp
 split
 ·simp
 ·unfold name;split
  ·simp
  split <;> simp
end T
def vC (k:Nat) (x:T.P3):Value:=.tuple #[.int .i64 (if x.1=0 then((k+x.2.1:Nat):Int) else k),.bool (x.1==0)]
theorem OC (w:World) (A:Option Addr) (c n k:Nat) (hk:k<=c):(Instr.sliceAt 65 (.slice A n c) none (some (.int .i64 k)) none).run prog w=.ok (.slice A k c) w:=Ql w A c n k hk
theorem Fz {x:T.P3} {P:Int} (h:x.1=0) (hp:P=((k+x.2.1:Nat):Int)):vC k x=.tuple #[.int .i64 P,.bool true]:=by
 unfold vC;rw[AC h,h,hp];rfl
theorem Kz {x:T.P3} (h:x.1≠0):vC k x=.tuple #[.int .i64 k,.bool false]:=by
 unfold vC;rw[AI h,show(x.1==0)=false by simpa using h]
theorem Im (k:Nat) (m:List Int) (f:Nat) (s:List Int) (P:Int) (hP:T.iY m s (k+f)=P) (l:List Int) (hl:m.drop (k+f)=l.drop f) (he:(T.skip l f s).2.2=0):P=((k+(T.skip l f s).2.1:Nat):Int)/\(T.skip l f s).1=0:=by
 unfold T.iY at hP;rw[hl]at hP;unfold T.skip at he ⊢;by_cases h:T.ix (l.drop f) s<0
 ·rw[AC h]at he;simp at he
 ·rw[AI h]at he ⊢;rw[AI h]at hP;refine⟨?_,rfl⟩;simp only;omega
theorem OF (A:Option Addr) (c B:Nat) (L:List Int) (k:Nat) (w:World) (hr:il w B A L) (hl:K.Bytes L) (hc:L.length<=c) (hn:L.length<=5000) (hk:k<L.length) (he:(T.piece (L.drop k)).2.2=0) :
  Calls prog 86 #[.slice A L.length c,.int .i64 k] w fun e w'=>e=.returned (vC k (T.piece (L.drop k)))/\w=w':=by
 obtain⟨g,o,rfl,_,ae⟩:=hr (by omega);have af:=ae k hk;have hz:(L.drop k).getD 0 0=L.getD k 0:=by rw[Go.Proofs.YtcmhaemaophplaaGreat.L.fM L k hk];rfl
 have H1:=aA (ze _ c B L [47,42] k w hr hl hc hn (by omega) (by decide));have H2:=aA (ze _ c B L [47,47] k w hr hl hc hn (by omega) (by decide));have H3:=aA (ze _ c B L [37,123] k w hr hl hc hn (by omega) (by decide));rw[show K.str [47,42]=⟨#[47,42]⟩ from rfl]at H1;rw[show K.str [47,47]=⟨#[47,47]⟩ from rfl]at H2;rw[show K.str [37,123]=⟨#[37,123]⟩ from rfl]at H3;have q:=aA (T.qh (L.drop k));have r:=aA (T.ry (L.drop k));rw[hz]at q r;have HR:=aA hr;have HL:=aA hl;have HE:=aA he;have HZ:=aA hz;have i:=hl.drop k;clear ae hr hl he hz;by_cases hb:L.getD k 0=32\/L.getD k 0=9\/L.getD k 0=10\/L.getD k 0=13
 ·have hp:=q.o hb;rw[hp];unfold vC;clear H1 H2 H3 q r hp HE i;generalize L.getD k 0=z at *;rcases hb with rfl|rfl|rfl|rfl
  all_goals
   go_enter func86,ntmps86
   go_wp2
   go_ret2
   exact⟨rfl,rfl⟩
 ·have n1:(L.getD k 0==32)=false:=by simpa using fun e=>hb (.inl e)
  have n2:(L.getD k 0==9)=false:=by simpa using fun e=>hb (.inr (.inl e))
  have n3:(L.getD k 0==10)=false:=by simpa using fun e=>hb (.inr (.inr (.inl e)))
  have n4:(L.getD k 0==13)=false:=by simpa using fun e=>hb (.inr (.inr (.inr e)))
  rcases j:T.pre (L.drop k) [47,42] with _|_
  ·rw[j]at H1;rcases l:T.pre (L.drop k) [47,47] with _|_
   ·rw[l]at H2;rcases p:T.pre (L.drop k) [37,123] with _|_
    ·rw[p]at H3;by_cases s:L.getD k 0=60
     ·have f:(L.drop k).getD 0 0=60:=HZ.o.trans s;have b:T.piece (L.drop k)=T.skip (T.line (L.drop k)) 1 [62]:=T.uI _ f;have ag:=T.sn (L.drop k);rw[Bl]at ag
      have ah:T.line (L.drop k)=(L.drop k).take (T.line (L.drop k)).length:=by
       unfold T.line;have hx:=T.oO (L.drop k) [10];split
       ·rw[Bd,Eh (by have:=hx (by assumption);omega)]
       ·rw[Bn]
      have ai:(L.take (k+(T.line (L.drop k)).length)).drop (k+1)=(T.line (L.drop k)).drop 1:=by
       have e:∀ll,(L.take (k+ll)).drop (k+1)=((L.drop k).take ll).drop 1:=fun ll=>by
        rw[List.drop_take,List.drop_take,DR]
        congr 1
        omega
       exact(e _).trans (congrArg (List.drop 1) ah.symm)
      have hq:=Im k (L.take (k+(T.line (L.drop k)).length)) 1 [62] _ rfl (T.line (L.drop k)) ai (by rw[<-b];exact HE.o);have hv:=Fz (k:=k) hq.2 hq.1;rw[<-b]at hv;rw[hv];have aj:=aA (Kp _ c B L k w HR.o HL.o hn (by omega));have ad:(L.take (k+(T.line (L.drop k)).length)).length=k+(T.line (L.drop k)).length:=by rw[Bd];omega
      have HP:=aA (Hy _ c B (L.take (k+(T.line (L.drop k)).length)) [62] (k+1) w (HR.o.take _) (HL.o.take _) (by rw[ad];omega) (by rw[ad];omega) (by omega) (by decide) (by decide));rw[ad,show K.str [62]=⟨#[62]⟩ from rfl,show((k+1:Nat):Int)=(k:Int)+1 by omega]at HP;have S1:=fun w=>OC w (some ⟨g,o,none⟩) c L.length (k+(T.line (L.drop k)).length) (by omega);have q60:(L.getD k 0==60)=true:=by rw[s];rfl
      generalize T.iY (L.take (k+(T.line (L.drop k)).length)) [62] (k+1)=P at *;generalize k+(T.line (L.drop k)).length=m at *;clear hb q r i b hq HE f hv ag ah ai ad j l p s HZ;generalize L.getD k 0=z at *
      go_enter func86,ntmps86
      go_wp2_with fail
      refine H1.o.mono ?_;rintro _ w' ⟨rfl,rfl⟩;go_wp2_with fail
      refine H2.o.mono ?_;rintro _ w' ⟨rfl,rfl⟩;go_wp2_with fail
      refine H3.o.mono ?_;rintro _ w' ⟨rfl,rfl⟩;go_wp2_with fail
      refine aj.o.mono ?_;rintro _ w' ⟨rfl,rfl⟩;go_wp2_with fail
      refine HP.o.mono ?_;rintro _ w' ⟨rfl,rfl⟩;go_wp2
      go_ret2
      exact⟨rfl,rfl⟩
     ·have q60:(L.getD k 0==60)=false:=by simpa using s
      by_cases d:L.getD k 0=123
      ·have f:(L.drop k).getD 0 0=123:=HZ.o.trans d;have b:T.piece (L.drop k)=T.action (L.drop k):=T.te _ f;rcases aa:T.act ((L.drop k).length+1) (L.drop k) 0 with _|n
       ·exfalso
        have:=HE.o
        rw[b]at this;unfold T.action at this;rw[aa]at this;simp at this
       ·have ab:T.piece (L.drop k)=(0,n,0):=by rw[b];unfold T.action;rw[aa]
        have hv:vC k (T.piece (L.drop k))=.tuple #[.int .i64 ((k+n:Nat):Int),.bool true]:=Fz (by rw[ab]) (by rw[ab]);rw[hv];have HP:=aA (Nd _ c B L k n _ w HR.o hn hk d aa);have q123:(L.getD k 0==123)=true:=by rw[d];rfl
        generalize k+n=P at *;clear hb q r i b ab aa HE f hv j l p s d HZ;generalize L.getD k 0=z at *
        go_enter func86,ntmps86
        go_wp2_with fail
        refine H1.o.mono ?_;rintro _ w' ⟨rfl,rfl⟩;go_wp2_with fail
        refine H2.o.mono ?_;rintro _ w' ⟨rfl,rfl⟩;go_wp2_with fail
        refine H3.o.mono ?_;rintro _ w' ⟨rfl,rfl⟩;go_wp2_with fail
        refine HP.o.mono ?_;rintro _ w' ⟨rfl,rfl⟩;go_wp2
        go_ret2
        exact⟨rfl,rfl⟩
      ·have q123:(L.getD k 0==123)=false:=by simpa using d
       have hv:=Kz (k:=k) (r.o hb j l p s d HE.o);rw[hv];clear hb q r i HE hv j l p s d HZ;generalize L.getD k 0=z at *
       go_enter func86,ntmps86
       go_wp2_with fail
       refine H1.o.mono ?_;rintro _ w' ⟨rfl,rfl⟩;go_wp2_with fail
       refine H2.o.mono ?_;rintro _ w' ⟨rfl,rfl⟩;go_wp2_with fail
       refine H3.o.mono ?_;rintro _ w' ⟨rfl,rfl⟩;go_wp2
       go_ret2
       exact⟨rfl,rfl⟩
    ·rw[p]at H3
     have ac:T.pre (L.drop k) [37,37]=false:=by
      rcases hh:T.pre (L.drop k) [37,37] with _|_
      ·rfl
      ·have e1:=(T.jG _ _ _ i (by intro x hx;simp at hx;omega) hh).2;have e2:=(T.jG _ _ _ i (by intro x hx;simp at hx;omega) p).2;omega
     have f:=(T.jG _ _ _ i (by intro x hx;simp at hx;omega) p).1;have b:T.piece (L.drop k)=T.skip (L.drop k) 2 [37,125]:=by rw[T.mW _ f];unfold T.jF;rw[AI (by rw[ac];simp),AC p]
     have hq:=Im k L 2 [37,125] _ rfl (L.drop k) (by rw[DR]) (by rw[<-b];exact HE.o);have hv:=Fz (k:=k) hq.2 hq.1;rw[<-b]at hv;rw[hv];have HP:=aA (Hy _ c B L [37,125] (k+2) w HR.o HL.o hc hn (by omega) (by decide) (by decide));rw[show K.str [37,125]=⟨#[37,125]⟩ from rfl,show((k+2:Nat):Int)=(k:Int)+2 by omega]at HP;clear hb q r i b hq HE f hv j l p ac HZ;generalize T.iY L [37,125] (k+2)=P at *;generalize L.getD k 0=z at *
     go_enter func86,ntmps86
     go_wp2_with fail
     refine H1.o.mono ?_;rintro _ w' ⟨rfl,rfl⟩;go_wp2_with fail
     refine H2.o.mono ?_;rintro _ w' ⟨rfl,rfl⟩;go_wp2_with fail
     refine H3.o.mono ?_;rintro _ w' ⟨rfl,rfl⟩;go_wp2_with fail
     refine HP.o.mono ?_;rintro _ w' ⟨rfl,rfl⟩;go_wp2
     go_ret2
     exact⟨rfl,rfl⟩
   ·rw[l]at H2;have f:=(T.jG _ _ _ i (by intro x hx;simp at hx;omega) l).1;have b:T.piece (L.drop k)=(0,(T.line (L.drop k)).length,0):=by rw[T.qf _ f];unfold T.comment;rw[AI (by rw[j];simp),AC l]
    have hv:vC k (T.piece (L.drop k))=.tuple #[.int .i64 ((k+(T.line (L.drop k)).length:Nat):Int),.bool true]:=Fz (by rw[b]) (by rw[b]);rw[hv];have HP:=aA (Kp _ c B L k w HR.o HL.o hn (by omega));generalize k+(T.line (L.drop k)).length=P at *;clear hb q r i b HE f hv j l HZ;generalize L.getD k 0=z at *
    go_enter func86,ntmps86
    go_wp2_with fail
    refine H1.o.mono ?_;rintro _ w' ⟨rfl,rfl⟩;go_wp2_with fail
    refine H2.o.mono ?_;rintro _ w' ⟨rfl,rfl⟩;go_wp2_with fail
    refine HP.o.mono ?_;rintro _ w' ⟨rfl,rfl⟩;go_wp2
    go_ret2
    exact⟨rfl,rfl⟩
  ·rw[j]at H1;have f:=(T.jG _ _ _ i (by intro x hx;simp at hx;omega) j).1;have b:T.piece (L.drop k)=T.skip (L.drop k) 2 [42,47]:=by rw[T.qf _ f];unfold T.comment;rw[AC j]
   have hq:=Im k L 2 [42,47] _ rfl (L.drop k) (by rw[DR]) (by rw[<-b];exact HE.o);have hv:=Fz (k:=k) hq.2 hq.1;rw[<-b]at hv;rw[hv];have HP:=aA (Hy _ c B L [42,47] (k+2) w HR.o HL.o hc hn (by omega) (by decide) (by decide));rw[show K.str [42,47]=⟨#[42,47]⟩ from rfl,show((k+2:Nat):Int)=(k:Int)+2 by omega]at HP;clear hb q r i b hq HE f hv j HZ;generalize T.iY L [42,47] (k+2)=P at *;generalize L.getD k 0=z at *
   go_enter func86,ntmps86
   go_wp2_with fail
   refine H1.o.mono ?_;rintro _ w' ⟨rfl,rfl⟩;go_wp2_with fail
   refine HP.o.mono ?_;rintro _ w' ⟨rfl,rfl⟩;go_wp2
   go_ret2
   exact⟨rfl,rfl⟩
theorem OJ (z:Int) (w:World):Calls prog 128 #[.int .u8 z] w fun e w'=>e=.returned (.int .i64 (if z=58 then 10 else if z=124 then 11 else if z=59 then 12 else 0))/\w=w':=by
 by_cases h1:z=58
 ·subst h1
  go_enter func128,ntmps128
  go_wp2;go_ret
  exact⟨rfl,rfl⟩
 ·by_cases h2:z=124
  ·subst h2
   go_enter func128,ntmps128
   go_wp2;go_ret
   exact⟨rfl,rfl⟩
  ·by_cases h3:z=59
   ·subst h3
    go_enter func128,ntmps128
    go_wp2;go_ret
    exact⟨rfl,rfl⟩
   ·rw[AI h1,AI h2,AI h3];have q1:(z==58)=false:=by simpa using h1
    have q2:(z==124)=false:=by simpa using h2
    have q3:(z==59)=false:=by simpa using h3
    clear h1 h2 h3
    go_enter func128,ntmps128
    go_wp2;go_ret
    exact⟨rfl,rfl⟩
theorem zW (l m:List Int) (hl:K.Bytes l) (hm:K.Bytes m):((K.str l).toList==(K.str m).toList)=decide (l=m):=by
 rw[T.gI,T.gI,Bw,BJ,Cg];exact⟨fun h=>K.bytes_inj hl hm h,fun h=>by rw[h]⟩
theorem Nq (l:List Int) (hl:K.Bytes l) (w:World):Calls prog 127 #[.string (K.str l)] w fun e w'=>e=.returned (.int .i64 (T.jd l))/\w=w':=by
 have b1:=zW l [116,111,107,101,110] hl (by intro x hx;simp at hx;omega);have b2:=zW l [108,101,102,116] hl (by intro x hx;simp at hx;omega);have b3:=zW l [114,105,103,104,116] hl (by intro x hx;simp at hx;omega);have b4:=zW l [110,111,110,97,115,115,111,99] hl (by intro x hx;simp at hx;omega);have b5:=zW l [115,116,97,114,116] hl (by intro x hx;simp at hx;omega);have b6:=zW l [112,114,101,99] hl (by intro x hx;simp at hx;omega);rw[show(K.str [116,111,107,101,110]).toList=[116,111,107,101,110] by rw[CP];rfl]at b1;rw[show(K.str [108,101,102,116]).toList=[108,101,102,116] by rw[CP];rfl]at b2;rw[show(K.str [114,105,103,104,116]).toList=[114,105,103,104,116] by rw[CP];rfl]at b3;rw[show(K.str [110,111,110,97,115,115,111,99]).toList=[110,111,110,97,115,115,111,99] by rw[CP];rfl]at b4;rw[show(K.str [115,116,97,114,116]).toList=[115,116,97,114,116] by rw[CP];rfl]at b5;rw[show(K.str [112,114,101,99]).toList=[112,114,101,99] by rw[CP];rfl]at b6;unfold T.jd;clear hl;generalize hs:K.str l=st at *;clear hs
 go_enter func127,ntmps127
 go_wp2;all_goals go_ret
 all_goals exact⟨rfl,rfl⟩
namespace T
theorem lV (l:List Int) (f:Nat) (s:List Int):(skip l f s).1=0:=by unfold skip;split <;> rfl
theorem RP (h:head z=true):(97<=z/\z<=122)\/(65<=z/\z<=90)\/z=95:=by
 unfold head small at h;simp only[Dd,Bb,Bi,BJ]at h;omega
theorem rA (l:List Int) (h:head (l.getD 0 0)=true):piece l=name l:=by
 have hz:=RP h;unfold piece;simp only;rw[AI (by omega),AI (by omega),AI (by omega),AI (by omega),AI (by omega),AI (by omega),AI (by omega),AI (by omega),AI (by omega)]
theorem uH (l:List Int) (h:l.getD 0 0=39):piece l=literal l:=by
 unfold piece;simp only[h];rfl
theorem rB (l:List Int) (h1:head (l.getD 0 0)=false) (h2:¬l.getD 0 0=39) (h3:¬l.getD 0 0=37) (he:(piece l).2.2=0) (hk:(piece l).1≠0):piece l=((if l.getD 0 0=58 then 10 else if l.getD 0 0=124 then 11 else if l.getD 0 0=59 then 12 else 0),1,0)/\(if l.getD 0 0=58 then(10:Int) else if l.getD 0 0=124 then 11 else if l.getD 0 0=59 then 12 else 0)≠0:=by
 have aa:ib l=0:=by
  cases l with
  | nil=>rfl
  | cons z r=>rw[im,AI];simpa using h1
 revert he hk
 unfold piece;simp only;split
 ·intro _ h;exact absurd rfl h
 split
 ·intro _ h;unfold comment at h;split at h
  ·exact absurd (lV _ _ _) h
  split at h <;> exact absurd rfl h
 split
 ·intro _ h;exact absurd (lV _ _ _) h
 split
 ·intro _ h;unfold action at h;split at h <;> exact absurd rfl h
 split
 ·exact fun _ _=>⟨rfl,by decide⟩
 split
 ·exact fun _ _=>⟨rfl,by decide⟩
 split
 ·exact fun _ _=>⟨rfl,by decide⟩
 ·intro h;unfold name at h;rw[AC aa]at h;simp at h
end T
def qQ (L:List Int) (k:Nat) (x:T.P3):Value:=.tuple #[.agg #[.int .i64 x.1,.string (K.str (bG x.1 ((L.drop k).take x.2.1))),.complex .f64 (Fl.fl (Pl.pos (L.take k)).1) (Fl.fl (Pl.pos (L.take k)).2)],.int .i64 ((k+x.2.1:Nat):Int),.int .i64 0]
theorem P6 (A:Option Addr) (c:Nat) (L:List Int) (k:Nat) (w:World) (hr:il w w.heap.size A L) (hl:K.Bytes L) (hc:L.length<=c) (hn:L.length<=2000) (hk:k<L.length) (he:(T.piece (L.drop k)).2.2=0) (hx:(T.piece (L.drop k)).1≠0) (h1:T.head (L.getD k 0)=false) (h2:¬L.getD k 0=39) (h3:¬L.getD k 0=37) :
  Calls prog 88 #[.slice A L.length c,.int .i64 k] w fun e w'=>e=.returned (qQ L k (T.piece (L.drop k)))/\Below w.heap.size w w':=by
 have hz:(L.drop k).getD 0 0=L.getD k 0:=by rw[Go.Proofs.YtcmhaemaophplaaGreat.L.fM L k hk];rfl
 obtain⟨g,o,rfl,ai,ac⟩:=hr (by omega);have ad:=ac k hk;have ae:=T.rB (L.drop k) (by rw[hz];exact h1) (by rw[hz];exact h2) (by rw[hz];exact h3) he hx;rw[hz]at ae;obtain⟨af,ag⟩:=ae
 have aa:T.pre (L.drop k) [37,37]=false:=by
  rcases hh:T.pre (L.drop k) [37,37] with _|_
  ·rfl
  ·exact absurd ((T.jG _ _ _ (hl.drop k) (by intro x hx;simp at hx;omega) hh).1) (by rw[hz];exact h3)
 have ah:=aA (fun(w1:World) (h:Below w.heap.size w w1)=>zT (some ⟨g,o,none⟩) c w.heap.size L k w1 (hr.below h (Af _)) hn (by omega));have H1:=aA (fun(w1:World) (h:Below w.heap.size w w1)=>ze (some ⟨g,o,none⟩) c w.heap.size L [37,37] k w1 (hr.below h (Af _)) hl hc (by omega) (by omega) (by decide));rw[aa,show K.str [37,37]=⟨#[37,37]⟩ from rfl]at H1;have HF:=aA (zk (L.getD k 0));rw[h1]at HF;have HM:=aA (OJ (L.getD k 0));have ab:=aA (fun o=>((AB w.heap.size w).alloc (Af _) o));have SC:=fun a w m X Y=>show(store a (.complex .f64 X Y) m).run prog w=stored prog w a (.complex .f64 X Y) m from run_store _ w a _ m rfl;have q39:(L.getD k 0==39)=false:=by simpa using h2
 have q37:(L.getD k 0==37)=false:=by simpa using h3
 rw[af];unfold qQ
 have ht:bG (if L.getD k 0=58 then 10 else if L.getD k 0=124 then 11 else if L.getD k 0=59 then 12 else 0) ((L.drop k).take 1)=[]:=by
  unfold bG;rw[AI];split
  ·omega
  split
  ·omega
  split <;> omega
 simp only;rw[ht,show K.str []=⟨#[]⟩ from rfl];have qk:((if L.getD k 0=58 then(10:Int) else if L.getD k 0=124 then 11 else if L.getD k 0=59 then 12 else 0)==0)=false:=by simpa using ag
 clear ht af ag aa ac hr hz h1 h2 h3 he hx;generalize (if L.getD k 0=58 then(10:Int) else if L.getD k 0=124 then 11 else if L.getD k 0=59 then 12 else 0)=xk at *;generalize L.getD k 0=z at *;generalize Fl.fl (Pl.pos (L.take k)).1=X at *;generalize Fl.fl (Pl.pos (L.take k)).2=Y at *
 go_enter func88,ntmps88
 go_wp2_with fail
 refine(ah.o _ (ab.o _)).mono ?_;rintro _ w' ⟨rfl,rfl⟩;go_wp2_with fail
 refine(HF.o _).mono ?_;rintro _ w' ⟨rfl,rfl⟩;go_wp2_with fail
 refine(H1.o _ ((ab.o _).alloc (by simp) _)).mono ?_;rintro _ w' ⟨rfl,rfl⟩;go_wp2_with fail
 refine(HM.o _).mono ?_;rintro _ w' ⟨rfl,rfl⟩;go_wp2;refine B8 (v:=.tuple #[.agg #[.int .i64 xk,.string ⟨#[]⟩,.complex .f64 X Y],.int .i64 ((k:Int)+1),.int .i64 0]) (by simp[results,results88,go_sem]) rfl ⟨by rw[Int.natCast_add];rfl,?_⟩;exact(ab.o _).alloc (by simp) _
theorem P8 (A:Option Addr) (c:Nat) (L:List Int) (k:Nat) (w:World) (hr:il w w.heap.size A L) (hl:K.Bytes L) (hc:L.length<=c) (hn:L.length<=2000) (hk:k<L.length) (hp:T.pre (L.drop k) [37,37]=true) :
  Calls prog 88 #[.slice A L.length c,.int .i64 k] w fun e w'=>e=.returned (qQ L k (T.piece (L.drop k)))/\Below w.heap.size w w':=by
 have hz:(L.drop k).getD 0 0=L.getD k 0:=by rw[Go.Proofs.YtcmhaemaophplaaGreat.L.fM L k hk];rfl
 have ab:=(T.jG _ _ _ (hl.drop k) (by intro x hx;simp at hx;omega) hp).1;have ad:T.piece (L.drop k)=(9,2,0):=by rw[T.mW _ ab];unfold T.jF;rw[AC hp]
 rw[hz]at ab;obtain⟨g,o,rfl,ag,ae⟩:=hr (by omega);have aa:=ae k hk;rw[ab]at aa;have af:=aA (fun(w1:World) (h:Below w.heap.size w w1)=>zT (some ⟨g,o,none⟩) c w.heap.size L k w1 (hr.below h (Af _)) hn (by omega));have H1:=aA (fun(w1:World) (h:Below w.heap.size w w1)=>ze (some ⟨g,o,none⟩) c w.heap.size L [37,37] k w1 (hr.below h (Af _)) hl hc (by omega) (by omega) (by decide));rw[hp,show K.str [37,37]=⟨#[37,37]⟩ from rfl]at H1;have HF:=aA (zk 37);rw[show T.head 37=false from rfl]at HF;have ac:=aA (fun o=>((AB w.heap.size w).alloc (Af _) o));have SC:=fun a w m X Y=>show(store a (.complex .f64 X Y) m).run prog w=stored prog w a (.complex .f64 X Y) m from run_store _ w a _ m rfl;rw[ad];unfold qQ;simp only;rw[show bG 9 ((L.drop k).take 2)=[] from rfl,show K.str []=⟨#[]⟩ from rfl];clear ad hp ae hr hz ab;generalize Fl.fl (Pl.pos (L.take k)).1=X at *;generalize Fl.fl (Pl.pos (L.take k)).2=Y at *
 go_enter func88,ntmps88
 go_wp2_with fail
 refine(af.o _ (ac.o _)).mono ?_;rintro _ w' ⟨rfl,rfl⟩;go_wp2_with fail
 refine(HF.o _).mono ?_;rintro _ w' ⟨rfl,rfl⟩;go_wp2_with fail
 refine(H1.o _ ((ac.o _).alloc (by simp) _)).mono ?_;rintro _ w' ⟨rfl,rfl⟩;go_wp2;refine B8 (v:=.tuple #[.agg #[.int .i64 9,.string ⟨#[]⟩,.complex .f64 X Y],.int .i64 ((k:Int)+2),.int .i64 0]) (by simp[results,results88,go_sem]) rfl ⟨by rw[Int.natCast_add];rfl,?_⟩;exact(ac.o _).alloc (by simp) _
theorem P5 (A:Option Addr) (c:Nat) (L:List Int) (k:Nat) (w:World) (hr:il w w.heap.size A L) (hl:K.Bytes L) (hc:L.length<=c) (hn:L.length<=2000) (hk:k<L.length) (he:(T.piece (L.drop k)).2.2=0) (hx:(T.piece (L.drop k)).1≠0) (ag:L.getD k 0=37) (hp:T.pre (L.drop k) [37,37]=false) :
  Calls prog 88 #[.slice A L.length c,.int .i64 k] w fun e w'=>e=.returned (qQ L k (T.piece (L.drop k)))/\Below w.heap.size w w':=by
 have hz:(L.drop k).getD 0 0=L.getD k 0:=by rw[Go.Proofs.YtcmhaemaophplaaGreat.L.fM L k hk];rfl
 have ah:T.jX (L.drop k)=1+T.run T.small (L.drop (k+1)):=by unfold T.jX;rw[DR]
 have ab:((L.drop k).take (T.jX (L.drop k))).drop 1=(L.drop (k+1)).take (T.run T.small (L.drop (k+1))):=by
  rw[ah,List.drop_take,DR]
  congr 1
  omega
 have ae:T.piece (L.drop k)=(T.jd ((L.drop (k+1)).take (T.run T.small (L.drop (k+1)))),1+T.run T.small (L.drop (k+1)),0)/\T.jd ((L.drop (k+1)).take (T.run T.small (L.drop (k+1))))≠0:=by
  rw[T.mW _ (hz.trans ag)]at he hx ⊢;unfold T.jF at he hx ⊢;rw[AI (by rw[hp];simp)]at he hx ⊢;by_cases h3:T.pre (L.drop k) [37,123]=true
  ·rw[AC h3]at hx;exact absurd (T.lV _ _ _) hx
  ·rw[AI h3]at he hx ⊢;rw[ab,ah]at he ⊢;by_cases h4:T.jd ((L.drop (k+1)).take (T.run T.small (L.drop (k+1))))=0
   ·exfalso;simp[h4]at he
   ·exact⟨by simp[h4],h4⟩
 obtain⟨ae,ai⟩:=ae;obtain⟨g,o,rfl,ax,aj⟩:=hr (by omega);have aa:=aj k hk;rw[ag]at aa;have HC:=aA aj;have ap:=T.pe T.small (L.drop (k+1));rw[Bl]at ap;have aq:=aA (fun(w1:World) (h:Below w.heap.size w w1)=>zT (some ⟨g,o,none⟩) c w.heap.size L k w1 (hr.below h (Af _)) hn (by omega));have H1:=aA (fun(w1:World) (h:Below w.heap.size w w1)=>ze (some ⟨g,o,none⟩) c w.heap.size L [37,37] k w1 (hr.below h (Af _)) hl hc (by omega) (by omega) (by decide));rw[hp,show K.str [37,37]=⟨#[37,37]⟩ from rfl]at H1;have HF:=aA (zk 37);rw[show T.head 37=false from rfl]at HF;have f:=aA (fun(o1 o2:Obj)=>FE ((((hr.alloc (Af _) o1).alloc (by simp) o2).fU hc (k+1)).take (T.run T.small (L.drop (k+1)))) ((hl.drop (k+1)).take _) (c-(k+1)));have HK:=aA (fun w=>Nq ((L.drop (k+1)).take (T.run T.small (L.drop (k+1)))) ((hl.drop _).take _) w);have HS:=aA (fun w=>F6 w (some ⟨g,o,none⟩) c L.length (k+1) (k+1+T.run T.small (L.drop (k+1))) (by omega) (by omega));rw[show k+1+T.run T.small (L.drop (k+1))-(k+1)=T.run T.small (L.drop (k+1)) by omega]at HS;have ac:((L.drop (k+1)).take (T.run T.small (L.drop (k+1)))).length=T.run T.small (L.drop (k+1)):=by rw[Bd,Bl];omega
 rw[ac]at f;have af:=aA (fun o=>((AB w.heap.size w).alloc (Af _) o));have SC:=fun a w m X Y=>show(store a (.complex .f64 X Y) m).run prog w=stored prog w a (.complex .f64 X Y) m from run_store _ w a _ m rfl;rw[ae];unfold qQ;have al:=T.np ((L.drop (k+1)).take (T.run T.small (L.drop (k+1))))
 have ht:bG (T.jd ((L.drop (k+1)).take (T.run T.small (L.drop (k+1))))) ((L.drop k).take (1+T.run T.small (L.drop (k+1))))=[]:=by
  have:=al.2.2 ai
  unfold bG;rw[AI (by omega)]
 simp only;rw[ht,show K.str []=⟨#[]⟩ from rfl];have qk:(T.jd ((L.drop (k+1)).take (T.run T.small (L.drop (k+1))))==0)=false:=by simpa using ai
 have ar:=aA (T.nh T.small L);have au:=aA (T.ku T.small L);clear ae hp aj hr hz ag ht ai al ab ah ac he hx hl;generalize T.jd ((L.drop (k+1)).take (T.run T.small (L.drop (k+1))))=xk at *;generalize K.str ((L.drop (k+1)).take (T.run T.small (L.drop (k+1))))=st at *;generalize ad:T.run T.small (L.drop (k+1))=rn at *;have ak:=aA ad;clear ad;generalize Fl.fl (Pl.pos (L.take k)).1=X at *;generalize Fl.fl (Pl.pos (L.take k)).2=Y at *
 go_enter func88,ntmps88
 go_wp2_with fail
 refine(aq.o _ (af.o _)).mono ?_;rintro _ w' ⟨rfl,rfl⟩;go_wp2_with fail
 refine(HF.o _).mono ?_;rintro _ w' ⟨rfl,rfl⟩;go_wp2_with fail
 refine(H1.o _ ((af.o _).alloc (by simp) _)).mono ?_;rintro _ w' ⟨rfl,rfl⟩;go_wp2_with fail
 go_loop [9] (fun vi=>∃(j:Nat),j<=L.length/\k+1<=j/\vi=.int .i64 j/\j+T.run T.small (L.drop j)=k+1+rn) (fun vi=>L.length-(intOf vi).toNat)
 case atStart=>exact⟨k+1,by omega,by omega,by go_num,by rw[ak.o]⟩
 case round =>
  obtain⟨j,hj,ay,rfl,hrel⟩:=hrel;have HV:=aA hrel;clear hrel;by_cases am:j<L.length
  ·have az:=HC.o j am;have d:=ar.o j am;by_cases hs:97<=L.getD j 0/\L.getD j 0<=122
   ·have i:T.small (L.getD j 0)=true:=by unfold T.small;simp;exact hs
    rw[i,AC rfl]at d;have HN:=aA d;obtain⟨a0,a1⟩:=hs;clear i d aa;generalize L.getD j 0=z at *;go_wp2
    go_round
    case rel=>exact⟨j+1,by omega,by omega,by go_num,by have:=HV.o;have:=HN.o;omega⟩
    case measure=>simp[intOf];omega
   ·have i:T.small (L.getD j 0)=false:=by
     rcases hq:T.small (L.getD j 0) with _|_
     ·rfl
     ·exfalso;apply hs;unfold T.small at hq;simp at hq;exact hq
    rw[i]at d;have b:k+1+rn=j:=by have:=HV.o;rw[d]at this;simp at this;omega
    have S1:∀w,(Instr.sliceAt 65 (.slice (some ⟨g,o,none⟩) L.length c) (some (.int .i64 ((k:Int)+1))) (some (.int .i64 j)) none).run prog w=.ok (.slice (fU (some ⟨g,o,none⟩) c (k+1)) rn (c-(k+1))) w:=fun w=>by
     have h:=HS.o w;rw[b,show((k+1:Nat):Int)=(k:Int)+1 by omega]at h;exact h
    have C1:=f.o bU (.cells #[.int .i64 0,.string ⟨#[]⟩,.complex .f64 X Y] 157);unfold bU at C1;have HJ:=aA b;clear i d b aa HS f;generalize fU (some ⟨g,o,none⟩) c (k+1)=D at *;generalize c-(k+1)=c2 at *;generalize L.getD j 0=z at *;by_cases av:97<=z
    focus
     have aw:¬z<=122:=fun h=>hs ⟨av,h⟩
    rotate_left
    all_goals
     clear hs;go_wp2_with fail
     refine(HK.o _).mono ?_;rintro _ w' ⟨rfl,rfl⟩;go_wp2;refine B8 (v:=.tuple #[.agg #[.int .i64 xk,.string ⟨#[]⟩,.complex .f64 X Y],.int .i64 j,.int .i64 0]) (by simp[results,results88,go_sem]) rfl ⟨by rw[<-HJ.o,show k+(1+rn)=k+1+rn by omega],?_⟩;exact(af.o _).alloc (by simp) _
  ·have ao:=au.o j (by omega);have b:k+1+rn=j:=by have:=HV.o;rw[ao]at this;omega
   have S1:∀w,(Instr.sliceAt 65 (.slice (some ⟨g,o,none⟩) L.length c) (some (.int .i64 ((k:Int)+1))) (some (.int .i64 j)) none).run prog w=.ok (.slice (fU (some ⟨g,o,none⟩) c (k+1)) rn (c-(k+1))) w:=fun w=>by
    have h:=HS.o w;rw[b,show((k+1:Nat):Int)=(k:Int)+1 by omega]at h;exact h
   have C1:=f.o bU (.cells #[.int .i64 0,.string ⟨#[]⟩,.complex .f64 X Y] 157);unfold bU at C1;have HJ:=aA b;clear ao b aa HS f;generalize fU (some ⟨g,o,none⟩) c (k+1)=D at *;generalize c-(k+1)=c2 at *;go_wp2_with fail
   refine(HK.o _).mono ?_;rintro _ w' ⟨rfl,rfl⟩;go_wp2;refine B8 (v:=.tuple #[.agg #[.int .i64 xk,.string ⟨#[]⟩,.complex .f64 X Y],.int .i64 j,.int .i64 0]) (by simp[results,results88,go_sem]) rfl ⟨by rw[<-HJ.o,show k+(1+rn)=k+1+rn by omega],?_⟩;exact(af.o _).alloc (by simp) _
theorem P7 (A:Option Addr) (c:Nat) (L:List Int) (k:Nat) (w:World) (hr:il w w.heap.size A L) (hl:K.Bytes L) (hc:L.length<=c) (hn:L.length<=2000) (hk:k<L.length) (he:(T.piece (L.drop k)).2.2=0) (hh:T.head (L.getD k 0)=true) :
  Calls prog 88 #[.slice A L.length c,.int .i64 k] w fun e w'=>e=.returned (qQ L k (T.piece (L.drop k)))/\Below w.heap.size w w':=by
 have hz:(L.drop k).getD 0 0=L.getD k 0:=by rw[Go.Proofs.YtcmhaemaophplaaGreat.L.fM L k hk];rfl
 have ai:T.ib (L.drop k)=1+T.run T.fA (L.drop (k+1)):=by
  rw[Go.Proofs.YtcmhaemaophplaaGreat.L.fM L k hk,T.im,AC hh];omega
 have ad:T.piece (L.drop k)=(1,1+T.run T.fA (L.drop (k+1)),0)/\1+T.run T.fA (L.drop (k+1))<=20:=by
  rw[T.rA _ (by rw[hz];exact hh)]at he ⊢;unfold T.name at he ⊢;rw[ai]at he ⊢;rw[AI (by omega)]at he ⊢;by_cases h4:20<1+T.run T.fA (L.drop (k+1))
  ·exfalso;simp[h4]at he
  ·exact⟨by simp[h4],by omega⟩
 obtain⟨ad,av⟩:=ad;obtain⟨g,o,rfl,aw,ag⟩:=hr (by omega);have aa:=ag k hk;have HC:=aA ag;have al:=T.pe T.fA (L.drop (k+1));rw[Bl]at al;have am:=aA (fun(w1:World) (h:Below w.heap.size w w1)=>zT (some ⟨g,o,none⟩) c w.heap.size L k w1 (hr.below h (Af _)) hn (by omega));have HF:=aA (zk (L.getD k 0));rw[hh]at HF;have ao:=aA (fun j=>Ke (L.getD j 0));have n:=aA (fun(w1:World) (h:Below w.heap.size w w1)=>FE (((hr.below h (Af _)).fU hc k).take (1+T.run T.fA (L.drop (k+1)))) ((hl.drop k).take _) (c-k));have HS:=aA (fun w=>F6 w (some ⟨g,o,none⟩) c L.length k (k+(1+T.run T.fA (L.drop (k+1)))) (by omega) (by omega));rw[show k+(1+T.run T.fA (L.drop (k+1)))-k=1+T.run T.fA (L.drop (k+1)) by omega]at HS;have ab:((L.drop k).take (1+T.run T.fA (L.drop (k+1)))).length=1+T.run T.fA (L.drop (k+1)):=by rw[Bd,Bl];omega
 rw[ab]at n;have p:=aA (fun o=>((AB w.heap.size w).alloc (Af _) o));have SC:=fun a w m X Y=>show(store a (.complex .f64 X Y) m).run prog w=stored prog w a (.complex .f64 X Y) m from run_store _ w a _ m rfl;rw[ad];unfold qQ;have ht:bG 1 ((L.drop k).take (1+T.run T.fA (L.drop (k+1))))=(L.drop k).take (1+T.run T.fA (L.drop (k+1))):=by unfold bG;rw[AC (.inl rfl)]
 simp only;rw[ht];have ap:=aA (T.nh T.fA L);have aq:=aA (T.ku T.fA L);clear ad ag hr hz ht ai ab he hl hh;generalize K.str ((L.drop k).take (1+T.run T.fA (L.drop (k+1))))=st at *;generalize ac:T.run T.fA (L.drop (k+1))=rn at *;have ah:=aA ac;clear ac;generalize Fl.fl (Pl.pos (L.take k)).1=X at *;generalize Fl.fl (Pl.pos (L.take k)).2=Y at *;generalize ar:L.getD k 0=z at *;clear ar
 go_enter func88,ntmps88
 go_wp2_with fail
 refine(am.o _ (p.o _)).mono ?_;rintro _ w' ⟨rfl,rfl⟩;go_wp2_with fail
 refine(HF.o _).mono ?_;rintro _ w' ⟨rfl,rfl⟩;go_wp2_with fail
 go_loop [9] (fun vi=>∃(j:Nat),j<=L.length/\k+1<=j/\vi=.int .i64 j/\j+T.run T.fA (L.drop j)=k+1+rn) (fun vi=>L.length-(intOf vi).toNat)
 case atStart=>exact⟨k+1,by omega,by omega,by go_num,by rw[ah.o]⟩
 case round =>
  obtain⟨j,hj,ax,rfl,hrel⟩:=hrel;have HV:=aA hrel;clear hrel aa;by_cases aj:j<L.length
  ·have ay:=HC.o j aj;have l:=ap.o j aj;have ae:=aA (ao.o j);rcases q:T.fA (L.getD j 0) with _|_
   ·rw[q]at l ae;have af:k+(1+rn)=j:=by have:=HV.o;rw[l]at this;simp at this;omega
    have HJ:=aA af;clear q l;generalize L.getD j 0=z2 at *;go_wp2_with fail
    refine(ae.o _).mono ?_;rintro _ w' ⟨rfl,rfl⟩;have au:¬(j:Int)-(k:Int) > 20:=by have:=HJ.o;omega
    go_upto_region 10 with fail
    have f:Below w.heap.size w ((((w.alloc bU).alloc (.cells #[.int .i64 0,.string ⟨#[]⟩,.complex .f64 X Y] 157))).drew):=aB ((p.o bU).alloc (by simp) _) 1;unfold bU at f
    have S1:∀w,(Instr.sliceAt 65 (.slice (some ⟨g,o,none⟩) L.length c) (some (.int .i64 k)) (some (.int .i64 j)) none).run prog w=.ok (.slice (fU (some ⟨g,o,none⟩) c k) (1+rn) (c-k)) w:=fun w=>by
     have h:=HS.o w;rw[HJ.o]at h;exact h
    have CC:=fun y:Calm.On w.heap.size w=>n.o y.1 y.2;refine Calm.fk (fun x=>∃y:Calm.On w.heap.size w,x=y.1) (.one [0,1,2,3,4,5] 6 (.one [7] 8 (.fin []))) (by kernel_rfl) (by kernel_rfl) (fun _ _ d _ _ h=>by cases d <;> exact h) ⟨⟨_,f⟩,rfl⟩ ?_;simp only[Calm.fN,Calm.fv,Calm.fo,Az,Am,Ap];repeat (go_big_quiet_step (fail))
    refine Aw ?_;clear CC n HS S1 f;have b:=aA (fun o1 o2=>aB ((p.o o1).alloc (by simp) o2) 1);intro KK i;try rw[AC (by rfl)]
    go_wp2_with fail
    refine i _ _ ⟨⟨_,b.o _ _⟩,rfl⟩ _ (fun _ h=>h) ⟨⟨_,b.o _ _⟩,rfl⟩ ?_;repeat (go_big_quiet_step (fail))
    refine Aw ?_;intro KK i;try rw[AC (by rfl)]
    go_wp2_with fail
    refine i _ _ ⟨⟨_,b.o _ _⟩,rfl⟩ _ (fun _ h=>h) ⟨⟨_,b.o _ _⟩,rfl⟩ ?_;refine Aw ?_;go_wp2;exact B8 (v:=.tuple #[.agg #[.int .i64 1,.string st,.complex .f64 X Y],.int .i64 j,.int .i64 0]) (by simp[results,results88,go_sem]) rfl ⟨by rw[HJ.o],b.o _ _⟩
   ·rw[q,AC rfl]at l;rw[q]at ae;have HN:=aA l;clear q l;generalize L.getD j 0=z2 at *;go_wp2_with fail
    refine(ae.o _).mono ?_;rintro _ w' ⟨rfl,rfl⟩;go_wp2
    go_round
    case rel=>exact⟨j+1,by omega,by omega,by go_num,by have:=HV.o;have:=HN.o;omega⟩
    case measure=>simp[intOf];omega
  ·have ak:=aq.o j (by omega);have af:k+(1+rn)=j:=by have:=HV.o;rw[ak]at this;omega
   have HJ:=aA af;have au:¬(j:Int)-(k:Int) > 20:=by omega
   clear ak af;go_upto_region 10 with fail
   have f:Below w.heap.size w ((((w.alloc bU).alloc (.cells #[.int .i64 0,.string ⟨#[]⟩,.complex .f64 X Y] 157))).drew):=aB ((p.o bU).alloc (by simp) _) 1;unfold bU at f
   have S1:∀w,(Instr.sliceAt 65 (.slice (some ⟨g,o,none⟩) L.length c) (some (.int .i64 k)) (some (.int .i64 j)) none).run prog w=.ok (.slice (fU (some ⟨g,o,none⟩) c k) (1+rn) (c-k)) w:=fun w=>by
    have h:=HS.o w;rw[HJ.o]at h;exact h
   have CC:=fun y:Calm.On w.heap.size w=>n.o y.1 y.2;refine Calm.fk (fun x=>∃y:Calm.On w.heap.size w,x=y.1) (.one [0,1,2,3,4,5] 6 (.one [7] 8 (.fin []))) (by kernel_rfl) (by kernel_rfl) (fun _ _ d _ _ h=>by cases d <;> exact h) ⟨⟨_,f⟩,rfl⟩ ?_;simp only[Calm.fN,Calm.fv,Calm.fo,Az,Am,Ap];repeat (go_big_quiet_step (fail))
   refine Aw ?_;clear CC n HS S1 f;have b:=aA (fun o1 o2=>aB ((p.o o1).alloc (by simp) o2) 1);intro KK i;try rw[AC (by rfl)]
   go_wp2_with fail
   refine i _ _ ⟨⟨_,b.o _ _⟩,rfl⟩ _ (fun _ h=>h) ⟨⟨_,b.o _ _⟩,rfl⟩ ?_;repeat (go_big_quiet_step (fail))
   refine Aw ?_;intro KK i;try rw[AC (by rfl)]
   go_wp2_with fail
   refine i _ _ ⟨⟨_,b.o _ _⟩,rfl⟩ _ (fun _ h=>h) ⟨⟨_,b.o _ _⟩,rfl⟩ ?_;refine Aw ?_;go_wp2;exact B8 (v:=.tuple #[.agg #[.int .i64 1,.string st,.complex .f64 X Y],.int .i64 j,.int .i64 0]) (by simp[results,results88,go_sem]) rfl ⟨by rw[HJ.o],b.o _ _⟩
theorem Ry (A:Option Addr) (c:Nat) (L:List Int) (k:Nat) (w:World) (hr:il w w.heap.size A L) (hl:K.Bytes L) (hc:L.length<=c) (hn:L.length<=2000) (hk:k<L.length) (he:(T.piece (L.drop k)).2.2=0) (ae:L.getD k 0=39) :
  Calls prog 88 #[.slice A L.length c,.int .i64 k] w fun e w'=>e=.returned (qQ L k (T.piece (L.drop k)))/\Below w.heap.size w w':=by
 have hz:(L.drop k).getD 0 0=L.getD k 0:=by rw[Go.Proofs.YtcmhaemaophplaaGreat.L.fM L k hk];rfl
 have ac:(T.isLit ((L.drop k).take 3)=true/\T.piece (L.drop k)=(2,3,0))\/(T.isLit ((L.drop k).take 3)=false/\T.isLit ((L.drop k).take 4)=true/\T.piece (L.drop k)=(2,4,0)):=by
  rw[T.uH _ (hz.trans ae)]at he ⊢;unfold T.literal at he ⊢;rcases h3:T.isLit ((L.drop k).take 3) with _|_
  ·rcases h4:T.isLit ((L.drop k).take 4) with _|_
   ·exfalso
    rw[h3,h4]at he;simp only[DF,if_false]at he;split at he <;> simp at he
   ·right;refine⟨rfl,rfl,?_⟩;simp
  ·left;refine⟨rfl,?_⟩;simp
 obtain⟨g,o,rfl,ap,ai⟩:=hr (by omega);have aa:=ai k hk;rw[ae]at aa;have ak:=aA (fun(w1:World) (h:Below w.heap.size w w1)=>zT (some ⟨g,o,none⟩) c w.heap.size L k w1 (hr.below h (Af _)) hn (by omega));have HF:=aA (zk 39);rw[show T.head 39=false from rfl]at HF;have af:=aA (fun n=>Ih ((L.drop k).take n) ((hl.drop k).take n))
 have l:=aA (fun(n:Nat) (al:k+n<=L.length) (w1:World) (h:Below w.heap.size w w1)=>(by
  have h1:=FE (((hr.below h (Af _)).fU hc k).take n) ((hl.drop k).take _) (c-k);rw[show((L.drop k).take n).length=n by rw[Bd,Bl];omega]at h1;exact h1:(convert 65 9 (.slice (fU (some ⟨g,o,none⟩) c k) n (c-k))).run prog w1=.ok (.string (K.str ((L.drop k).take n))) w1))
 have HS:=aA (fun(n:Nat) (al:k+n<=L.length) (w1:World)=>(by
  have h1:=F6 w1 (some ⟨g,o,none⟩) c L.length k (k+n) (by omega) (by omega);rw[show k+n-k=n by omega,Int.natCast_add]at h1;exact h1:(Instr.sliceAt 65 (.slice (some ⟨g,o,none⟩) L.length c) (some (.int .i64 k)) (some (.int .i64 ((k:Int)+(n:Int)))) none).run prog w1=.ok (.slice (fU (some ⟨g,o,none⟩) c k) n (c-k)) w1))
 have i:=aA (fun o=>((AB w.heap.size w).alloc (Af _) o));have SC:=fun a w m X Y=>show(store a (.complex .f64 X Y) m).run prog w=stored prog w a (.complex .f64 X Y) m from run_store _ w a _ m rfl
 have ag:∀n,qQ L k (2,n,0)=.tuple #[.agg #[.int .i64 2,.string (K.str ((L.drop k).take n)),.complex .f64 (Fl.fl (Pl.pos (L.take k)).1) (Fl.fl (Pl.pos (L.take k)).2)],.int .i64 ((k:Int)+n),.int .i64 0]:=fun n=>by
  unfold qQ bG;simp
 have ah:Hid ((T.isLit ((L.drop k).take 3)=true->qQ L k (T.piece (L.drop k))=.tuple #[.agg #[.int .i64 2,.string (K.str ((L.drop k).take 3)),.complex .f64 (Fl.fl (Pl.pos (L.take k)).1) (Fl.fl (Pl.pos (L.take k)).2)],.int .i64 ((k:Int)+3),.int .i64 0])/\(T.isLit ((L.drop k).take 3)=false->T.isLit ((L.drop k).take 4)=true->qQ L k (T.piece (L.drop k))=.tuple #[.agg #[.int .i64 2,.string (K.str ((L.drop k).take 4)),.complex .f64 (Fl.fl (Pl.pos (L.take k)).1) (Fl.fl (Pl.pos (L.take k)).2)],.int .i64 ((k:Int)+4),.int .i64 0])):=aA (by
  refine⟨fun h=>?_,fun h h'=>?_⟩
  ·rcases ac with⟨_,e⟩|⟨e1,_,_⟩
   ·rw[e];exact ag 3
   ·rw[h]at e1;cases e1
  ·rcases ac with⟨e1,_⟩|⟨_,_,e⟩
   ·rw[h]at e1;cases e1
   ·rw[e];exact ag 4)
 have ad:Hid (T.isLit ((L.drop k).take 3)=false->T.isLit ((L.drop k).take 4)=true):=aA (fun h=>by
  rcases ac with⟨e1,_⟩|⟨_,e,_⟩
  ·rw[h]at e1;cases e1
  ·exact e)
 clear ac ai hr hz he hl ae ag;generalize qQ L k (T.piece (L.drop k))=V at *;generalize Fl.fl (Pl.pos (L.take k)).1=X at *;generalize Fl.fl (Pl.pos (L.take k)).2=Y at *
 go_enter func88,ntmps88
 go_wp2_with fail
 refine(ak.o _ (i.o _)).mono ?_;rintro _ w' ⟨rfl,rfl⟩;go_wp2_with fail
 refine(HF.o _).mono ?_;rintro _ w' ⟨rfl,rfl⟩;go_wp2_with fail
 go_loop [10] (fun vi=>∃(n:Nat),(n=3\/(n=4/\T.isLit ((L.drop k).take 3)=false))/\vi=.int .i64 n) (fun vi=>5-(intOf vi).toNat)
 case atStart=>exact⟨3,.inl rfl,rfl⟩
 case round =>
  clear aa;obtain⟨n,am,rfl⟩:=hrel;rcases am with rfl|⟨rfl,h3⟩
  ·rcases h3:T.isLit ((L.drop k).take 3) with _|_
   ·clear ah
    have ab:k+3<=L.length:=by
     have h1:=T.iV (ad.o h3);rw[Bd,Bl]at h1;omega
    have C1:=l.o 3 ab (((w.alloc bU).alloc (.cells #[.int .i64 0,.string ⟨#[]⟩,.complex .f64 X Y] 157))) ((i.o bU).alloc (by simp) _);unfold bU at C1;have S1:∀w,(Instr.sliceAt 65 (.slice (some ⟨g,o,none⟩) L.length c) (some (.int .i64 k)) (some (.int .i64 ((k:Int)+3))) none).run prog w=.ok (.slice (fU (some ⟨g,o,none⟩) c k) 3 (c-k)) w:=HS.o 3 ab;have j:=aA (af.o 3);rw[h3]at j;have H3:=aA h3;have aj:¬(k:Int)+3 > (L.length:Int):=by omega
    clear h3;generalize ao:K.str ((L.drop k).take 3)=st at *;clear ao;go_wp2_with fail
    refine(j.o _).mono ?_;rintro _ w' ⟨rfl,rfl⟩;go_wp2
    go_round
    case rel=>exact⟨4,by simp,by go_num⟩
    case measure=>simp[intOf]
   ·have hA:=h3;clear h3 ad
    have b:k+3<=L.length:=by
     have h1:=T.iV hA;rw[Bd,Bl]at h1;omega
    have hV:=ah.o.1 hA;have C1:=l.o 3 b (((w.alloc bU).alloc (.cells #[.int .i64 0,.string ⟨#[]⟩,.complex .f64 X Y] 157))) ((i.o bU).alloc (by simp) _);unfold bU at C1;have S1:∀w,(Instr.sliceAt 65 (.slice (some ⟨g,o,none⟩) L.length c) (some (.int .i64 k)) (some (.int .i64 ((k:Int)+3))) none).run prog w=.ok (.slice (fU (some ⟨g,o,none⟩) c k) 3 (c-k)) w:=HS.o 3 b;have j:=aA (af.o 3);rw[hA]at j;have HV:=aA hV;have aj:¬(k:Int)+3 > (L.length:Int):=by omega
    clear hA hV;go_wp2_with fail
    refine(j.o _).mono ?_;rintro _ w' ⟨rfl,rfl⟩;go_upto_region 17 with fail
    have p:Below w.heap.size w ((((w.alloc bU).alloc (.cells #[.int .i64 0,.string ⟨#[]⟩,.complex .f64 X Y] 157))).drew):=aB ((i.o bU).alloc (by simp) _) 1;unfold bU at p;have CC:=fun y:Calm.On w.heap.size w=>l.o 3 b y.1 y.2;refine Calm.fk (fun x=>∃y:Calm.On w.heap.size w,x=y.1) (.one [0,1,2,3,4,5,6,7] 8 (.one [9] 10 (.fin []))) (by kernel_rfl) (by kernel_rfl) (fun _ _ d _ _ h=>by cases d <;> exact h) ⟨⟨_,p⟩,rfl⟩ ?_;simp only[Calm.fN,Calm.fv,Calm.fo,Az,Am,Ap];repeat (go_big_quiet_step (fail))
    refine Aw ?_;clear CC l HS S1 p C1;have f:=aA (fun o1 o2=>aB ((i.o o1).alloc (by simp) o2) 1);intro KK q;try rw[AC (by rfl)]
    go_wp2_with fail
    refine q _ _ ⟨⟨_,f.o _ _⟩,rfl⟩ _ (fun _ h=>h) ⟨⟨_,f.o _ _⟩,rfl⟩ ?_;repeat (go_big_quiet_step (fail))
    refine Aw ?_;intro KK q;try rw[AC (by rfl)]
    go_wp2_with fail
    refine q _ _ ⟨⟨_,f.o _ _⟩,rfl⟩ _ (fun _ h=>h) ⟨⟨_,f.o _ _⟩,rfl⟩ ?_;refine Aw ?_;go_wp2;exact B8 (v:=.tuple #[.agg #[.int .i64 2,.string (K.str ((L.drop k).take 3)),.complex .f64 X Y],.int .i64 ((k:Int)+3),.int .i64 0]) (by simp[results,results88,go_sem]) rfl ⟨by rw[HV.o],f.o _ _⟩
  ·have hA:=ad.o h3;clear ad
   have b:k+4<=L.length:=by
    have h1:=T.iV hA;rw[Bd,Bl]at h1;rcases h1 with h1|h1
    ·exfalso
     have e3:(L.drop k).take 3=L.drop k:=Cf (by rw[Bl];omega);have e4:(L.drop k).take 4=L.drop k:=Cf (by rw[Bl];omega);rw[e3]at h3;rw[e4]at hA;rw[h3]at hA;cases hA
    ·omega
   have hV:=ah.o.2 h3 hA;have C1:=l.o 4 b (((w.alloc bU).alloc (.cells #[.int .i64 0,.string ⟨#[]⟩,.complex .f64 X Y] 157))) ((i.o bU).alloc (by simp) _);unfold bU at C1;have S1:∀w,(Instr.sliceAt 65 (.slice (some ⟨g,o,none⟩) L.length c) (some (.int .i64 k)) (some (.int .i64 ((k:Int)+4))) none).run prog w=.ok (.slice (fU (some ⟨g,o,none⟩) c k) 4 (c-k)) w:=HS.o 4 b;have j:=aA (af.o 4);rw[hA]at j;have HV:=aA hV;have aj:¬(k:Int)+4 > (L.length:Int):=by omega
   clear hA hV h3;go_wp2_with fail
   refine(j.o _).mono ?_;rintro _ w' ⟨rfl,rfl⟩;go_upto_region 17 with fail
   have p:Below w.heap.size w ((((w.alloc bU).alloc (.cells #[.int .i64 0,.string ⟨#[]⟩,.complex .f64 X Y] 157))).drew):=aB ((i.o bU).alloc (by simp) _) 1;unfold bU at p;have CC:=fun y:Calm.On w.heap.size w=>l.o 4 b y.1 y.2;refine Calm.fk (fun x=>∃y:Calm.On w.heap.size w,x=y.1) (.one [0,1,2,3,4,5,6,7] 8 (.one [9] 10 (.fin []))) (by kernel_rfl) (by kernel_rfl) (fun _ _ d _ _ h=>by cases d <;> exact h) ⟨⟨_,p⟩,rfl⟩ ?_;simp only[Calm.fN,Calm.fv,Calm.fo,Az,Am,Ap];repeat (go_big_quiet_step (fail))
   refine Aw ?_;clear CC l HS S1 p C1;have f:=aA (fun o1 o2=>aB ((i.o o1).alloc (by simp) o2) 1);intro KK q;try rw[AC (by rfl)]
   go_wp2_with fail
   refine q _ _ ⟨⟨_,f.o _ _⟩,rfl⟩ _ (fun _ h=>h) ⟨⟨_,f.o _ _⟩,rfl⟩ ?_;repeat (go_big_quiet_step (fail))
   refine Aw ?_;intro KK q;try rw[AC (by rfl)]
   go_wp2_with fail
   refine q _ _ ⟨⟨_,f.o _ _⟩,rfl⟩ _ (fun _ h=>h) ⟨⟨_,f.o _ _⟩,rfl⟩ ?_;refine Aw ?_;go_wp2;exact B8 (v:=.tuple #[.agg #[.int .i64 2,.string (K.str ((L.drop k).take 4)),.complex .f64 X Y],.int .i64 ((k:Int)+4),.int .i64 0]) (by simp[results,results88,go_sem]) rfl ⟨by rw[HV.o],f.o _ _⟩
theorem PS (A:Option Addr) (c:Nat) (L:List Int) (k:Nat) (w:World) (hr:il w w.heap.size A L) (hl:K.Bytes L) (hc:L.length<=c) (hn:L.length<=2000) (hk:k<L.length) (he:(T.piece (L.drop k)).2.2=0) (hx:(T.piece (L.drop k)).1≠0) :
  Calls prog 88 #[.slice A L.length c,.int .i64 k] w fun e w'=>e=.returned (qQ L k (T.piece (L.drop k)))/\Below w.heap.size w w':=by
 rcases hh:T.head (L.getD k 0) with _|_
 ·by_cases aa:L.getD k 0=39
  ·exact Ry A c L k w hr hl hc hn hk he aa
  ·by_cases ab:L.getD k 0=37
   ·rcases hp:T.pre (L.drop k) [37,37] with _|_
    ·exact P5 A c L k w hr hl hc hn hk he hx ab hp
    ·exact P8 A c L k w hr hl hc hn hk hp
   ·exact P6 A c L k w hr hl hc hn hk he hx hh aa ab
 ·exact P7 A c L k w hr hl hc hn hk he hh
theorem OE (A:Option Addr) (c:Nat) (L:List Int) (xs:List fw) (w:World) (hr:il w w.heap.size A L) (hl:K.Bytes L) (hc:L.length<=c) (hn:L.length<=2000) (hx:zt L=.ok xs) :
  Calls prog 62 #[.slice A L.length c] w (Ro L (.ok xs) w):=by
 have ah:=aA (fun(w1:World) (h:Below w.heap.size w w1) (k:Nat) (hk:k<L.length) (he:(T.piece (L.drop k)).2.2=0)=>OF A c w.heap.size L k w1 (hr.below h (Af _)) hl hc (by omega) hk he);have ai:=aA (fun(w1:World) (h:Below w.heap.size w w1) (k:Nat) (hk:k<L.length) (he:(T.piece (L.drop k)).2.2=0) (hx:(T.piece (L.drop k)).1≠0)=>PS A c L k w1 (hr.up h) hl hc hn hk he hx);have aj:=aA (fun(w1:World) (h:Below w.heap.size w w1)=>zT A c w.heap.size L L.length w1 (hr.below h (Af _)) hn (Af _));have ak:=aA (fun(k:Nat) (hk:k<L.length)=>T.mX (L.drop k) (by rw[Bl];omega) (hl.drop k));have HX:=aA hx;have ar:Hid (Below w.heap.size w w):=aA (AB _ _);have SC:=fun a w m X Y=>show(store a (.complex .f64 X Y) m).run prog w=stored prog w a (.complex .f64 X Y) m from run_store _ w a _ m rfl;clear hr hl hx
 go_enter func62,ntmps62
 go_wp2;go_loopw [5,6,7] (fun v vk vm wr=>∃(f k m:Nat) (acc:List fw),vk=.int .i64 k/\vm=.int .i64 m/\k<=L.length/\m<=2/\L.length<k+f/\acc.length<=k/\bV L wr w.heap.size v acc/\Below w.heap.size w wr/\tG f (L.drop k) k m acc=.ok xs) (fun _ vk _ _=>L.length-(intOf vk).toNat)
 case atStart=>exact⟨L.length+1,0,0,[],rfl,rfl,by omega,by omega,by omega,by simp,bV.nil _ _ _,ar.o,by have:=HX.o;unfold zt at this;simpa using this⟩
 case round =>
  clear HX ar;obtain⟨f,k,m,acc,rfl,rfl,hk,au,hf,a3,ho,hb,av⟩:=hrel;have HO:=aA ho;have HB:=aA hb;have g:=aA av;have af:=aA au;obtain⟨A0,c0,rfl,a4,a5⟩:=ho.form;clear ho hb av au a4 a5;by_cases ab:L.length<=k\/2<=m
  ·have bf:=af.o
   have a6:xs=acc:=by
    have:=g.o
    rw[KC _ _ _ _ _ (by rw[Bl];omega)]at this;injection this with this;exact this.symm
   subst a6;have ac:=aA (aj.o wr HB.o);rw[Bn]at ac;clear aj ah ai ak g;by_cases ag:k<L.length
   ·have a9:¬(m:Int)<2:=by omega
    clear ab;go_wp2_with fail
    refine(ac.o).mono ?_;rintro _ w' ⟨rfl,rfl⟩;go_wp2
    go_ret3
    exact⟨_,rfl,HO.o,HB.o⟩
   ·have ba:¬(k:Int)<(L.length:Int):=by omega
    clear ab;go_wp2_with fail
    refine(ac.o).mono ?_;rintro _ w' ⟨rfl,rfl⟩;go_wp2
    go_ret3
    exact⟨_,rfl,HO.o,HB.o⟩
  ·have ag:k<L.length:=by omega
   have a9:(m:Int)<2:=by omega
   obtain⟨f,rfl⟩:∃f',f=f'+1:=⟨f-1,by omega⟩
   have al:¬((L.drop k).length=0\/m=2):=by rw[Bl];omega
   have he:(T.piece (L.drop k)).2.2=0:=by
    by_cases h:(T.piece (L.drop k)).2.2=0
    ·exact h
    ·have:=g.o
     rw[KD _ _ _ _ _ al h]at this;cases this
   have am:=g.o;rw[Lh _ _ _ _ _ al he,DR]at am;have ad:=ak.o k ag;obtain⟨h1,h2,h3,_,_,_⟩:=ad;obtain⟨h4,h5,_,_⟩:=h1 he;rw[Bl]at h5;have b:=aA (ah.o wr HB.o k ag he);have aa:=aA (ai.o wr HB.o k ag he);clear ah ai ak aj g h1 al ab;unfold qQ at aa;generalize T.piece (L.drop k)=x at *;obtain⟨xk,xn,xe⟩:=x;simp only at he h2 h3 h4 h5;subst he;have d:=aA am;clear am;by_cases i:xk=0
   ·subst i;have hv:vC k (0,xn,0)=.tuple #[.int .i64 ((k+xn:Nat):Int),.bool true]:=rfl;rw[hv]at b;have bb:Hid (tG f (L.drop (k+xn)) (k+xn) m acc=.ok xs):=aA d.o;have ao:¬((k+xn:Nat):Int)<0:=by omega
    clear hv d aa;generalize hj:k+xn=j at *;have HJ:=aA hj;clear hj;go_wp2_with fail
    refine b.o.mono ?_;rintro _ w' ⟨rfl,rfl⟩;go_wp2;go_roundw
    case rel=>exact⟨f,j,m,acc,rfl,rfl,by have:=HJ.o;omega,af.o,by have:=HJ.o;omega,by have:=HJ.o;omega,HO.o,HB.o,bb.o⟩
    case measure=>have:=HJ.o;simp[intOf];omega
   ·have hv:vC k (xk,xn,0)=.tuple #[.int .i64 k,.bool false]:=Kz i;rw[hv]at b;have ap:=aA (aa.o i);simp only at ap;have aw:Hid (more acc k (xk,xn,0) (L.drop k)=acc++[⟨xk,bG xk ((L.drop k).take xn),k⟩]):=aA (by unfold more;rw[AI i]);rw[aw.o]at d;have ao:¬((k:Nat):Int)<0:=by omega
    clear hv aa aw i;go_wp2_with fail
    refine b.o.mono ?_;rintro _ w' ⟨rfl,rfl⟩;go_wp2_with fail
    refine ap.o.mono ?_;rintro _ w2 ⟨rfl,aq⟩;have l:=aA (HB.o.trans (aq.mono HB.o.size));have ax:=aA (HO.o.below aq (Af _));clear aq ap b HO HB
    have bc:Hid (∀o j u,(tC L ⟨xk,bG xk ((L.drop k).take xn),k⟩)[j]?=some u->((w2.alloc o).alloc (.cells #[.int .i64 xk,.string (K.str (bG xk ((L.drop k).take xn))),.complex .f64 (Fl.fl (Pl.pos (L.take k)).1) (Fl.fl (Pl.pos (L.take k)).2)] 157)).cell? ⟨w2.heap.size+1,j,none⟩=some u):=aA (by
     intro o j u hu;have e:w2.heap.size+1=(w2.alloc o).heap.size:=by simp
     rw[e,C8]
     simpa[tC] using hu)
    have bd:=aA (fun o1 o2=>(l.o.alloc l.o.size o1).alloc (by have:=l.o.size;simp;omega) o2);rcases ay:(xk==9) with _|_
    focus
     have ae:Hid (zM m (xk,xn,0)=m):=aA (by unfold zM;rw[AI (by simpa using ay)])
    rotate_left
    focus
     have ae:Hid (zM m (xk,xn,0)=m+1):=aA (by unfold zM;rw[AC (by simpa using ay)])
    rotate_left
    all_goals
     rw[ae.o]at d;go_wp2_with (at_builtin;refine Ri rfl (.tmp 54) (.tmp 56) _ rfl underlying121 L w.heap.size _ acc rfl ((ax.o.alloc _).alloc _) _ 1 ⟨xk,bG xk ((L.drop k).take xn),k⟩ rfl (bc.o _) (by omega) (by have:=l.o.size;simp;omega) ?_;intro v3 w3 az a0)
     have a1:=aA (Nk (bd.o _ _) ((ax.o.alloc _).alloc _) a0 (by have:=l.o.size;simp;omega));have a2:=aA az;clear az a0
    focus
     go_roundw
     case rel=>exact⟨f,k+xn,m,acc++[⟨xk,bG xk ((L.drop k).take xn),k⟩],by go_num,rfl,by omega,by have:=af.o;omega,by omega,by simp;omega,a2.o,a1.o,d.o⟩
     case measure=>simp[intOf];omega
    focus
     go_roundw
     case rel=>exact⟨f,k+xn,m+1,acc++[⟨xk,bG xk ((L.drop k).take xn),k⟩],by go_num,by go_num,by omega,by have:=af.o;omega,by omega,by simp;omega,a2.o,a1.o,d.o⟩
     case measure=>simp[intOf];omega
theorem bR.pX {L:List Int} (h:bR L w base v ds) (hb:base'<=base):bR L w base' v ds:=by
 obtain⟨qs,h1,h2,h3⟩:=h;refine⟨qs,h1,⟨h2.1,?_⟩,fun q hq=>(h3 q hq).less hb⟩;rcases h2.2 with h0|⟨g,cap,cur,e,aa,hr⟩
 ·exact .inl h0
 ·exact .inr ⟨g,cap,cur,e,by omega,hr⟩
theorem bL.pX {L:List Int} {ps:List Y.iv} (h:bL L w base v ps) (hb:base'<=base):bL L w base' v ps:=by
 obtain⟨qs,h1,h2,h3⟩:=h;refine⟨qs,h1,⟨h2.1,?_⟩,fun q hq=>(h3 q hq).less hb⟩;rcases h2.2 with h0|⟨g,cap,cur,e,aa,hr⟩
 ·exact .inl h0
 ·exact .inr ⟨g,cap,cur,e,by omega,hr⟩
theorem zF (h:w.heap[g]?=some (.cells cs 96 (0,0))):pE w (some g):=Gf h (by decide)
def yR (L:List Int) (x:fw):Nat:=Fl.fl (Pl.pos (L.take x.o)).1
def yS (L:List Int) (x:fw):Nat:=Fl.fl (Pl.pos (L.take x.o)).2
def uT (S:St) (x:fw):St:={S with s:={S.s with st:=some x} }
def zw (L:List Int) (w:World) (B:Nat) (A:Option Addr) (xs:List fw):Prop :=
 xs.length≠0->∃g o,A=some ⟨g,o,none⟩/\g<B/\∀i (h:i<xs.length),w.cell? ⟨g,o+i*2,none⟩=some (.string (K.str xs[i].t))/\w.cell? ⟨g,o+i*2+1,none⟩=some (.complex .f64 (yR L xs[i]) (yS L xs[i]))
def zy (L:List Int) (w:World) (B:Nat) (A:Option Addr) (ds:List Y.kB):Prop :=
 ds.length≠0->∃g o,A=some ⟨g,o,none⟩/\g<B/\∀i (h:i<ds.length),w.cell? ⟨g,o+i*2,none⟩=some (.int .i64 ds[i].k)/\∃A' c',w.cell? ⟨g,o+i*2+1,none⟩=some (.slice A' ds[i].ns.length c')/\zw L w B A' ds[i].ns
theorem zw.fp {L:List Int} {xs:List fw} (h:zw L w B A xs) (hb:Below B w w'):zw L w' B A xs:=fun hn=>by
 obtain⟨g,o,e,hg,hc⟩:=h hn;exact⟨g,o,e,hg,fun i hi=>⟨(hb.cell (p:=⟨g,o+i*2,none⟩) hg).trans (hc i hi).1,(hb.cell (p:=⟨g,o+i*2+1,none⟩) hg).trans (hc i hi).2⟩⟩
theorem zy.fp {L:List Int} {w w':World} {B:Nat} {A:Option Addr} {xs:List Y.kB} (h:zy L w B A xs) (hb:Below B w w'):zy L w' B A xs:=fun hn=>by
 obtain⟨g,o,e,hg,hc⟩:=h hn;refine⟨g,o,e,hg,fun i hi=>?_⟩;obtain⟨h1,A',c',h2,h3⟩:=hc i hi;exact⟨(hb.cell (p:=⟨g,o+i*2,none⟩) hg).trans h1,A',c',(hb.cell (p:=⟨g,o+i*2+1,none⟩) hg).trans h2,h3.fp hb⟩
def zx (L:List Int) (w:World) (B:Nat) (A:Option Addr) (ps:List Y.iv):Prop :=
 ps.length≠0->∃g o,A=some ⟨g,o,none⟩/\g<B/\∀i (h:i<ps.length),w.cell? ⟨g,o+i*5,none⟩=some (.string (K.str ps[i].l.t))/\w.cell? ⟨g,o+i*5+1,none⟩=some (.complex .f64 (yR L ps[i].l) (yS L ps[i].l))/\(∃A' c',w.cell? ⟨g,o+i*5+2,none⟩=some (.slice A' ps[i].r.length c')/\zw L w B A' ps[i].r)/\w.cell? ⟨g,o+i*5+3,none⟩=some (.string (yV ps[i].p))/\w.cell? ⟨g,o+i*5+4,none⟩=some (.complex .f64 (yW L ps[i].p) (yX L ps[i].p))
theorem zx.fp {L:List Int} {w w':World} {B:Nat} {A:Option Addr} {xs:List Y.iv} (h:zx L w B A xs) (hb:Below B w w'):zx L w' B A xs:=fun hn=>by
 obtain⟨g,o,e,hg,hc⟩:=h hn;refine⟨g,o,e,hg,fun i hi=>?_⟩;obtain⟨h1,h2,⟨A',c',h3,h4⟩,h5,h6⟩:=hc i hi;exact⟨(hb.cell (p:=⟨g,o+i*5,none⟩) hg).trans h1,(hb.cell (p:=⟨g,o+i*5+1,none⟩) hg).trans h2,⟨A',c',(hb.cell (p:=⟨g,o+i*5+2,none⟩) hg).trans h3,h4.fp hb⟩,(hb.cell (p:=⟨g,o+i*5+3,none⟩) hg).trans h5,(hb.cell (p:=⟨g,o+i*5+4,none⟩) hg).trans h6⟩
theorem Px {x:fw} (h:Gm.l8 ts ns x=.ok ns') (hl:ns.length<=16):ns'.length<=16:=by
 rcases Gm.pW h with⟨rfl,_⟩|⟨rfl,_,_,h4⟩
 ·exact hl
 ·rw[AW,BA];omega
theorem NG {ps:List Y.iv} (h:i<ps.length):Gm.kC ts ns (ps.drop i)=(Gm.l8 ts ns ps[i].l).bind fun ns=>Gm.kC ts ns (ps.drop (i+1)):=by
 rw[BV h,Gm.kC]
theorem Pw {ps:List Y.iv} (h:ps.length<=i):Gm.kC ts ns (ps.drop i)=.ok ns:=by
 rw[BU h,Gm.kC]
def FJ (L:List Int) (p:Y.iv) (A:Option Addr) (c:Nat):Array Value:=#[.string (K.str p.l.t),.complex .f64 (yR L p.l) (yS L p.l),.slice A p.r.length c,.string (yV p.p),.complex .f64 (yW L p.p) (yX L p.p)]
theorem IS {o:Oper} {a:Act} {Q:Exit->Act->World->Prop} {K:Act->World->Prop} (s x:Operand) (t:TypeId) (ho:o.op=.call {callee:=.builtin .append,args:=#[s,x],argTypes:=#[t,t]}) (ht:prog.underlying t=some (.slice 48)) (base N:Nat) (v:Value) (rs:List Gm.Rl) (hs:a.eval s=v) (ab:bA w base N v rs) (g c:Nat) (q:RA) (hx:a.eval x=.slice (some ⟨g,0,none⟩) 1 c) (hz:∀j u,(pC q)[j]?=some u->w.cell? ⟨g,j,none⟩=some u) (hr:q.1.r.length<=q.2.2/\q.2.2<=9223372036854775807/\sS w base w.heap.size q.2.1 q.1.r) (af:rs.length<=1000000) (aa:base<=w.heap.size) (hN:N<=w.heap.size) (hK:∀v' w',bA w' base w'.heap.size v' (rs++[q.1])->w.grownBy w' v.ownBlock->K (a.put o.dst v') w') :
  o.wp prog a w K Q:=by
 obtain⟨i,hi,ag,ah,ai⟩:=Cs LV;obtain⟨qs,ac,ad,ak,aj⟩:=ab;have al:qs.length=rs.length:=by rw[<-ac,Bh]
 refine EC w s x t ho base 48 i _ 3 40 ht hi ag ah ai rfl (by decide) v rs.length (Be qs) hs ad ⟨g,0,none⟩ 1 c (pC q) hx rfl ?_ ?_ (by unfold maxLen;omega) (by omega) aa fun v' w' h1 h2 _=>hK v' w' ?_ h2
 ·intro j u hj;rw[rX,BG];exact hz j u hj
 ·intro u hu;simp[pC]at hu;rcases hu with rfl|rfl|rfl <;> rfl
 ·have ae:∀g',v.ownBlock=some g'->(∀cur,w.heap[g']? ≠ some (.cells cur 3 (0,0)))\/w.heap.size<=g':=fun g' e=>by
   obtain⟨_,cur,hc⟩:=aM ad e;exact .inl (aQ hc (by decide))
  refine⟨qs++[q],by rw[Bf,ac];rfl,?_,fun k hk=>?_,fun p hp=>?_⟩
  ·rw[AW];unfold Be;rw[B4,Cw];exact h1
  ·obtain⟨_,cur,hc⟩:=aM h1 hk;exact(Ad.1 hc).1
  ·rcases Bt.1 hp with h|h
   ·obtain⟨a1,a2,a3⟩:=aj p h;exact⟨a1,a2,((a3.more hN).grown h2 ae).more h2.size⟩
   ·rw[AP]at h;subst h;exact⟨hr.1,hr.2.1,(hr.2.2.grown h2 ae).more h2.size⟩
theorem aV.row {xs:List Int} (h:aV w base v xs) (hB:B<=base):∃A c,v=.slice A xs.length c/\xs.length<=c/\c<=9223372036854775807/\sS w B w.heap.size A xs:=by
 rcases h.2 with⟨rfl,h0⟩|⟨g,cap,cur,rfl,hb,hg,hn,hm,hs,ht⟩
 ·exact⟨none,0,by rw[h0],by omega,by omega,fun hc=>absurd h0 hc⟩
 ·refine⟨some ⟨g,0,none⟩,cap,rfl,hn,by unfold maxLen at hm;omega,fun _=>⟨g,cur,rfl,by omega,(Ad.1 hg).1,hg,fun j hj=>?_⟩⟩;have hq:(cur.toList.take (xs.length*1))[j]?=(xs.map (Value.int .i64))[j]?:=by rw[ht]
  rw[CO (by omega),Bv,AD hj]at hq
  simpa using hq
theorem Nb {acc:List Int} {p:Int} {xs:List fw} (h:i<xs.length):Gm.jH ns ts acc p (xs.drop i)=if acc.length=6 then .bad xs[i] 5 else(Gm.tx ns ts xs[i]).bind fun q=>Gm.jH ns q.1 (acc++[q.2]) (if 0<=q.2 then q.2 else p) (xs.drop (i+1)):=by
 rw[BV h,Gm.jH]
theorem NW {acc:List Int} {p:Int} {xs:List fw} (h:xs.length<=i):Gm.jH ns ts acc p (xs.drop i)=.ok (ts,acc,p):=by
 rw[BU h,Gm.jH]
theorem QG (z:Int) (w:World):(Instr.build 48 #[(0,.int .i64 z),(2,.int .i64 (-1))]).run prog w=.ok (.agg #[.int .i64 z,.slice none 0 0,.int .i64 (-1)]) w:=EG w 48 _ _ (by kernel_rfl)
theorem xi (h:bA w base N v rs):∃A c,v=.slice A rs.length c/\rs.length<=c/\c<=maxLen:=by
 obtain⟨qs,_,h2,_⟩:=h;exact aN h2
theorem aV.qp {xs:List Int} (h:aV w base v xs) (hg:w.heap[g]?=some (.cells cs 48 (0,0))) (j:Nat) (u:Value):aV (w.setCell ⟨g,j,none⟩ u) base v xs :=
 AO h (aF (AJ _ _) j u) (aO h hg (fun cur e=>by injection e with _ e;cases e))
theorem Jw (w:World) (base:Nat):aV w base (.slice none 0 0) []:=aV.nil w base
theorem J5 {L:List Int} {xs:List fw} (h:mx L w base A xs):zw L w w.heap.size A xs:=fun hn=>by
 obtain⟨g,cur,e,_,hh,_⟩:=h hn;obtain⟨g',e',_,hc⟩:=h.cell hn;rw[e]at e';injection e' with e';injection e' with e';subst e';refine⟨g,0,e,(Ad.1 hh).1,fun i hi=>⟨?_,?_⟩⟩
 ·have:=hc i 0 _ hi (by omega) rfl
  rw[BG];exact this
 ·have:=hc i 1 _ hi (by omega) rfl
  rw[BG];exact this
theorem Pj {L:List Int} (h:bR L w base v ds):∃A c,v=.slice A ds.length c/\zy L w w.heap.size A ds:=by
 have h':=h;obtain⟨qs,_,h2,_⟩:=h';rcases h2.2 with⟨hv,h0⟩|⟨g,cap,cur,hv,_,hg,_⟩
 ·exact⟨none,0,by rw[hv,h0],fun hn=>absurd h0 hn⟩
 ·refine⟨some ⟨g,0,none⟩,cap,hv,fun hn=>⟨g,0,rfl,(Ad.1 hg).1,fun i hi=>?_⟩⟩;obtain⟨D,c,A,c',aa,k1,k2,k3⟩:=h.at i hi;rw[hv]at aa;injection aa with e1 e2 e3;injection e1 with e1;injection e1 with e1;subst e1;rw[BG];exact⟨k1,A,c',k2,J5 k3⟩
theorem Oq {L:List Int} {ps:List Y.iv} (h:bL L w base v ps):∃A c,v=.slice A ps.length c/\zx L w w.heap.size A ps:=by
 have h':=h;obtain⟨qs,_,h2,_⟩:=h';rcases h2.2 with⟨hv,h0⟩|⟨g,cap,cur,hv,_,hg,_⟩
 ·exact⟨none,0,by rw[hv,h0],fun hn=>absurd h0 hn⟩
 ·refine⟨some ⟨g,0,none⟩,cap,hv,fun hn=>⟨g,0,rfl,(Ad.1 hg).1,fun i hi=>?_⟩⟩;obtain⟨D,c,A,c',aa,k,k3⟩:=h.at i hi;rw[hv]at aa;injection aa with e1 e2 e3;injection e1 with e1;injection e1 with e1;subst e1;rw[BG];refine⟨k 0 _ (by omega) rfl,k 1 _ (by omega) rfl,⟨A,c',k 2 _ (by omega) rfl,J5 k3⟩,?_,?_⟩
  ·refine k 3 _ (by omega) ?_;unfold a7 zE;rcases ps[i].p with _|x <;> rfl
  ·refine k 4 _ (by omega) ?_;unfold a7 zE;rcases ps[i].p with _|x <;> rfl
theorem NY (h:sS w base N A zs) (hN:N<=w.heap.size):gd w w.heap.size A zs:=fun hn=>by
 obtain⟨g,cur,e,_,hg,hh,hc⟩:=h hn;refine⟨g,0,e,by omega,fun j hj=>?_⟩;rw[BG,AF w g _ _ _ _ hh];rw[hc j hj];simp[List.getD,hj]
theorem Gs (h:bB w base v ts):∃A c,v=.slice A ts.length c/\(ts.length<=c/\c<=9223372036854775807)/\rV w w.heap.size A ts:=by
 have h0:=h;unfold bB at h0;rcases h0.2 with⟨hv,h1⟩|⟨g,cap,cur,hv,_,hg,hn,hm,_⟩
 ·exact⟨none,0,by rw[hv,h1],by omega,fun hn=>absurd h1 hn⟩
 ·refine⟨some ⟨g,0,none⟩,cap,hv,⟨hn,by unfold maxLen at hm;omega⟩,fun _=>⟨g,0,rfl,(Ad.1 hg).1,fun i hi=>?_⟩⟩;subst hv;have k:=fun(j:Nat) (u:Value) (hj:j<3) (hu:(mf ts[i])[j]?=some u)=>CE h0 (g:=g) rfl (i*3+j) u (by unfold ye;rw[Ie mf (fun _=>rfl) ts i j hi hj];exact hu);have k0:=k 0 _ (by omega) rfl;have k1:=k 1 _ (by omega) rfl;have k2:=k 2 _ (by omega) rfl;rw[rX,BG]at k0 k1 k2;rw[BG];exact⟨k0,k1,k2⟩
theorem Gh (h:bK w base v ns):∃A c,v=.slice A ns.length c/\(ns.length<=c/\c<=9223372036854775807)/\tM w w.heap.size A ns:=by
 have h0:=h;unfold bK at h0;rcases h0.2 with⟨hv,h1⟩|⟨g,cap,cur,hv,_,hg,hn,hm,_⟩
 ·exact⟨none,0,by rw[hv,h1],by omega,fun hn=>absurd h1 hn⟩
 ·refine⟨some ⟨g,0,none⟩,cap,hv,⟨hn,by unfold maxLen at hm;omega⟩,fun _=>⟨g,0,rfl,(Ad.1 hg).1,fun i hi=>?_⟩⟩;subst hv;have k:=CE h0 (g:=g) rfl i (.string (K.str ns[i])) (by unfold tI;simp[hi]);rw[rX,BG]at k;rw[BG];exact k
theorem Gt (h:bA w base N v rs) (hN:N<=w.heap.size):∃A c,v=.slice A rs.length c/\(rs.length<=c/\c<=9223372036854775807)/\qR w w.heap.size A rs:=by
 obtain⟨qs,rfl,h0,_,hq⟩:=h;rcases h0.2 with⟨hv,h1⟩|⟨g,cap,cur,hv,_,hg,hn,hm,_⟩
 ·exact⟨none,0,by rw[hv,h1],by omega,fun hn=>absurd h1 hn⟩
 ·refine⟨some ⟨g,0,none⟩,cap,hv,⟨hn,by unfold maxLen at hm;omega⟩,fun _=>⟨g,0,rfl,(Ad.1 hg).1,fun i hi=>?_⟩⟩;subst hv;have aa:i<qs.length:=by simpa using hi
  have k:=fun(j:Nat) (u:Value) (hj:j<3) (hu:(pC qs[i])[j]?=some u)=>CE h0 (g:=g) rfl (i*3+j) u (by unfold Be;rw[Ie pC (fun _=>rfl) qs i j aa hj];exact hu);have k0:=k 0 _ (by omega) rfl;have k1:=k 1 _ (by omega) rfl;have k2:=k 2 _ (by omega) rfl;rw[rX,BG]at k0 k1 k2;rw[BG];obtain⟨q1,q2,q3⟩:=hq qs[i] (AE aa);simp only[C3];exact⟨k0,⟨_,_,k1,q1,q2,NY q3 hN⟩,k2⟩
end Go.Proofs.YtcmhaemaophplaaGreat
