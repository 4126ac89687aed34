/- Part of the proofs over this program: YaccW, LexToks, YaccRd, YaccP, YaccDecl, Ref8R, YaccSource, YaccOf, ScanL, Ref7, YaccList, BldW, Ref8G, Dcl. -/
import Derived.Deep.DeepCutAuto
import Derived.Defers
import Derived.Recover
import Derived.Test.YtjjbaehamplnaaaGreatME
set_option linter.all false
namespace Go
def CP:=@List.getElem?_take_of_lt
def D5:=@Go.wp_append_own
def BM:=@Go.bodyPost_ret
def Dx:=@List.drop_drop
def DT:=@List.drop_length
end Go
set_option maxRecDepth 100000
set_option maxHeartbeats 40000000
variable {A:Option Go.Addr} {B B' N N' base base' f g i k m n px py:Nat} {cs:Array Go.Value} {ds:List Go.Proofs.YtjjbaehamplnaaaGreat.Y.Dcl} {ops:Array Go.Oper} {r zs:List Int} {u v:Go.Value} {w w':Go.World} {xs:List Go.Value} {z:Int}
namespace Go.Proofs.YtjjbaehamplnaaaGreat
open Go.RowKit
theorem zd1 (g o j:Nat):((⟨g,o,none⟩:Addr).add j)=⟨g,o+j,none⟩:=by unfold Addr.add;by_cases h0:j=0 <;> simp[h0]
def RdT (L:List Int) (w:World) (B:Nat) (A:Option Addr) (ts:List Tok):Prop :=
 ts.length≠0->∃g o,A=some ⟨g,o,none⟩/\g<B/\∀i j u,(hi:i<ts.length)->(zaK L ts[i])[j]?=some u->w.cell? ⟨g,o+(i*3+j),none⟩=some u
theorem RdT.nil (L:List Int) (w:World) (B:Nat) (A:Option Addr):RdT L w B A []:=fun h=>absurd rfl h
theorem RdT.keep {L:List Int} {ts:List Tok} (h:RdT L w B A ts) (hk:∀g o,g<B->w'.cell? ⟨g,o,none⟩=w.cell? ⟨g,o,none⟩):RdT L w' B A ts:=fun hn=>by
 obtain⟨g,o,e,hg,hc⟩:=h hn;exact⟨g,o,e,hg,fun i j u hi hu=>(hk _ _ hg).trans (hc i j u hi hu)⟩
theorem RdT.more {L:List Int} {ts:List Tok} (h:RdT L w B A ts) (hB:B<=B'):RdT L w B' A ts:=fun hn=>by
 obtain⟨g,o,e,hg,hc⟩:=h hn;exact⟨g,o,e,by omega,hc⟩
theorem RdT.grown {L:List Int} {ts:List Tok} {row:Option Nat} (h:RdT L w B A ts) (hg:w.grownBy w' row) (hr:∀k,row=some k->B<=k) (hs:B<=w.heap.size):RdT L w' B A ts :=
 h.keep fun p o hp=>Ch (hg.block p (by omega) (fun e=>by have:=hr p e.symm;omega))
theorem RdT.below {L:List Int} {ts:List Tok} (h:RdT L w B A ts) (hb:Below B' w w') (hB:B<=B'):RdT L w' B A ts :=
 h.keep fun g o hg=>hb.cell (p:=⟨g,o,none⟩) (Ao hg hB)
theorem bS.rd {L:List Int} {xs:List Tok} (h:bS L w base v xs):∃A c,v=.slice A xs.length c/\xs.length<=c/\c<=maxLen/\RdT L w w.heap.size A xs:=by
 obtain⟨A,c,rfl,h1,h2⟩:=h.form;refine⟨A,c,rfl,h1,h2,fun h0=>?_⟩;obtain⟨g,c',e,_,_,_,hg,aa⟩:=h.addr h0;injection e with e1 e2 e3;refine⟨g,0,e1,hg,fun i j u hi hu=>?_⟩
 have hj:j<3:=by
  have:=(Ba.1 hu).1
  simpa[zaK] using this
 rw[Bu];exact aa i j u hi hj (by rw[Ar hi];exact hu)
def zhm (A:Option Addr) (c:Nat):Option Addr:=if c=1 then A else A.map fun x=>x.add 3
theorem RdT.tail {L:List Int} {c:Nat} {t:Tok} {ts:List Tok} (h:RdT L w B A (t::ts)) (hc:(t::ts).length<=c):RdT L w B (zhm A c) ts:=by
 intro hn;obtain⟨g,o,rfl,hg,aa⟩:=h (by simp);refine⟨g,o+3,?_,hg,fun i j u hi hu=>?_⟩
 ·unfold zhm;rw[AB (by simp at hc;omega),DF,zd1]
 ·have:=aa (i+1) j u (by simp;omega) (by simpa using hu)
  rwa [show o+3+(i*3+j)=o+((i+1)*3+j) by omega]
def aT (L:List Int) (x:Tok):List Value:=[.string (K.str x.t),.complex .f64 (Fl.fl (Pl.pos (L.take x.o)).1) (Fl.fl (Pl.pos (L.take x.o)).2)]
theorem zcz (L:List Int) (xs:List Tok):(xs.flatMap (aT L)).length=xs.length*2:=by
 induction xs with
 | nil=>rfl
 | cons x r ih=>simp[BD,ih,aT];omega
theorem zg6 (L:List Int) (xs:List Tok) (i j:Nat) (hi:i<xs.length) (hj:j<2):(xs.flatMap (aT L))[i*2+j]?=(aT L xs[i])[j]?:=by
 induction xs generalizing i with
 | nil=>simp at hi
 | cons x r ih =>
  rw[BD];have hl:(aT L x).length=2:=rfl;cases i with
  | zero=>rw[Bw (by omega)];simp
  | succ i =>
   rw[Cg (by omega),hl,show(i+1)*2+j-2=i*2+j by omega]
   simpa using ih i (by simpa using hi)
def RdR (L:List Int) (w:World) (B:Nat) (A:Option Addr) (xs:List Tok):Prop :=
 xs.length≠0->∃(g:Nat) (cur:Array Value),A=some ⟨g,0,none⟩/\B<=g/\w.heap[g]?=some (.cells cur 153 (0,0))/\∀(j:Nat) (u:Value),(xs.flatMap (aT L))[j]?=some u->cur[j]?=some u
theorem RdR.nil (L:List Int) (w:World) (B:Nat) (A:Option Addr):RdR L w B A []:=fun h=>absurd rfl h
def a8 (w:World) (row:Option Nat):Prop:=∀k,row=some k->∀cur,w.heap[k]? ≠ some (.cells cur 153 (0,0))
theorem a8.none (w:World):a8 w .none:=fun _ h=>by cases h
theorem RdR.grown {L:List Int} {xs:List Tok} {row:Option Nat} (h:RdR L w B A xs) (hg:w.grownBy w' row) (hr:a8 w row):RdR L w' B A xs:=fun hn=>by
 obtain⟨g,cur,e,hB,hh,hc⟩:=h hn;exact⟨g,cur,e,hB,(hg.block g (Ac.1 hh).1 (fun e=>hr g e.symm cur hh)).trans hh,hc⟩
theorem RdR.less {L:List Int} {xs:List Tok} (h:RdR L w B A xs) (hB:B'<=B):RdR L w B' A xs:=fun hn=>by
 obtain⟨g,cur,e,hb,hh⟩:=h hn;exact⟨g,cur,e,by omega,hh⟩
theorem RdR.below {L:List Int} {xs:List Tok} (h:RdR L w B A xs) (hb:Below w.heap.size w w'):RdR L w' B A xs:=h.grown (zab hb .none) (a8.none w)
theorem RdR.cell {L:List Int} {xs:List Tok} (h:RdR L w B A xs) (h0:xs.length≠0):∃g,A=some ⟨g,0,none⟩/\B<=g/\∀i j u,(hi:i<xs.length)->j<2->(aT L xs[i])[j]?=some u->w.cell? ⟨g,i*2+j,none⟩=some u:=by
 obtain⟨g,cur,e,hB,hh,hc⟩:=h h0;refine⟨g,e,hB,fun i j u hi hj hu=>?_⟩;rw[Aw w g _ _ _ _ hh];exact hc _ _ (by rw[zg6 L xs i j hi hj];exact hu)
def bO (L:List Int) (w:World) (base:Nat) (v:Value) (xs:List Tok):Prop:=w.ownsRow base 153 2 v xs.length (xs.flatMap (aT L))
theorem bO.nil (L:List Int) (w:World) (base:Nat):bO L w base (.slice none 0 0) []:=CR w base _ _
theorem bO.alloc {L:List Int} {xs:List Tok} (h:bO L w base v xs) (o:Obj):bO L (w.alloc o) base v xs:=Db h o
theorem bO.grown {L:List Int} {xs:List Tok} {row:Option Nat} (h:bO L w base v xs) (hg:w.grownBy w' row) (hr:a8 w row):bO L w' base v xs:=by
 refine⟨h.1,?_⟩;rcases h.2 with h0|⟨g,cap,cur,e,aa,hh,ab⟩
 ·exact .inl h0
 ·exact .inr ⟨g,cap,cur,e,aa,(hg.block g (Ac.1 hh).1 (fun e=>hr g e.symm cur hh)).trans hh,ab⟩
theorem bO.below {L:List Int} {xs:List Tok} (h:bO L w base v xs) (hb:Below w.heap.size w w'):bO L w' base v xs:=h.grown (zab hb .none) (a8.none w)
theorem bO.rd {L:List Int} {xs:List Tok} (h:bO L w base v xs):∃A c,v=.slice A xs.length c/\xs.length<=c/\c<=maxLen/\RdR L w base A xs:=by
 rcases h.2 with⟨rfl,h0⟩|⟨g,cap,cur,rfl,hb,hg,hn,hm,hs,ht⟩
 ·exact⟨none,0,by rw[h0],by omega,by unfold maxLen;omega,fun hc=>absurd h0 hc⟩
 ·refine⟨some ⟨g,0,none⟩,cap,rfl,hn,hm,fun _=>⟨g,cur,rfl,hb,hg,fun j u hu=>?_⟩⟩;rw[<-ht]at hu;have hj:=(Ba.1 hu).1;rw[Bc]at hj;rw[CP (by omega)]at hu
  simpa using hu
theorem zmp:(Tryz.prog.info? 153).map (fun i=>(i.zero,i.size,i.bytes))=some (some (.agg #[.string ⟨#[]⟩,.complex .f64 0 0]),2,32):=by kernel_rfl
theorem zk9 {rest:List Oper} {o:Oper} {a:Act} {Q:Exit->Act->World->Prop} (ac:o.guard=none) (s x:Operand) (t:TypeId) (ho:o.op=.call {callee:=.builtin .append,args:=#[s,x],argTypes:=#[t,t]}) (ht:Tryz.prog.underlying t=some (.slice 153)) (L:List Int) (base:Nat) (v:Value) (xs:List Tok) (hs:a.eval s=v) (ab:bO L w base v xs) (g c:Nat) (y:Tok) (hx:a.eval x=.slice (some ⟨g,0,none⟩) 1 c) (hz:∀j u,(aT L y)[j]?=some u->w.cell? ⟨g,j,none⟩=some u) (ad:xs.length<=1000000) (aa:base<=w.heap.size) (hK:∀v' w',bO L w' base v' (xs++[y])->w.grownBy w' v.ownBlock->wpList Tryz.prog ops Q rest (a.put o.dst v') w') :
  wpList Tryz.prog ops Q (o::rest) a w:=by
 obtain⟨i,hi,ae,af,ag⟩:=CD zmp;refine Dm w ac s x t ho base 153 i _ 2 32 ht hi ae af ag rfl (by decide) v xs.length (xs.flatMap (aT L)) hs ab ⟨g,0,none⟩ 1 c (aT L y) hx rfl ?_ ?_ (by unfold maxLen;omega) (by omega) aa fun v' w' h1 h2 _=>hK v' w' ?_ h2
 ·intro j u hj;rw[zd1,Bu];exact hz j u hj
 ·intro u hu;simp[aT]at hu;rcases hu with rfl|rfl <;> rfl
 ·unfold bO;rw[AU,BX,Cc];exact h1
theorem _root_.Go.World.grownBy.row (h:w.grownBy w' .none) (row:Option Nat):w.grownBy w' row:=⟨h.os,h.tape,h.output,h.size,fun k hk _=>h.block k hk (by simp)⟩
theorem zaA {a:World} {row:Option Nat} {e:TypeId} {size:Nat} (h:a.grownBy w row) (ho:w.ownsRow a.heap.size e size v n xs) (hg:w.grownBy w' v.ownBlock):a.grownBy w' row :=
 ⟨hg.os.trans h.os,hg.tape.trans h.tape,hg.output.trans h.output,Ag h.size hg.size,fun k hk aa=>(hg.block k (Ao hk h.size) (fun e=>by have:=(Bs ho k e.symm).1;omega)).trans (h.block k hk aa)⟩
theorem zg3 (L:List Int) (w:World) (t:Tok):∀j u,(aT L t)[j]?=some u->(w.alloc (.cells #[.string (K.str t.t),.complex .f64 (Fl.fl (Pl.pos (L.take t.o)).1) (Fl.fl (Pl.pos (L.take t.o)).2)] 153)).cell? ⟨w.heap.size,j,none⟩=some u:=by
 intro j u hu;rw[Dz]
 simpa[aT] using hu
theorem zcM {w2:World} {o:Obj} {R:Nat} (h:(w.alloc o).grownBy w2 (some R)) (hR:R<w.heap.size):w2.heap[w.heap.size]?=some o:=by
 rw[h.block w.heap.size (by simp) (fun e=>by injection e with e;omega)];exact Az w o
theorem zaU {a:World} {row:Option Nat} (h:a.grownBy w row) (g i:Nat) (u:Value) (hg:a.heap.size<=g):a.grownBy (w.setCell ⟨g,i,none⟩ u) row :=
 ⟨h.os,h.tape,h.output,by simpa[World.setCell] using h.size,fun k hk aa=>(AH w ⟨g,i,none⟩ u k (by simp only;omega)).trans (h.block k hk aa)⟩
def zdl (v:Value):Nat:=match v with | .slice _ n _=>n|_=>0
def zld (L:List Int) (r:Out) (w:World) (e:Ending) (w':World):Prop :=
 match r with
 | .ok xs=>∃v,e=.returned (.tuple #[v,.complex .f64 (Fl.fl (Pl.pos L).1) (Fl.fl (Pl.pos L).2),.int .i64 0])/\bS L w' w.heap.size v xs/\Below w.heap.size w w'
 | .bad o d=>e=.returned (.tuple #[.slice none 0 0,.complex .f64 (Fl.fl (Pl.pos (L.take o)).1) (Fl.fl (Pl.pos (L.take o)).2),.int .i64 d])/\Below w.heap.size w w'
def At (L:List Int) (R:Out) (w:World) (k d f m:Nat) (acc:List Tok) (l:List Int) (p:Int×Int) (A':Option Addr) (c':Nat) (v:Value) (w':World):Prop :=
 L.length=k+d/\l=L.drop k/\p=Pl.pos (L.take k)/\Below w.heap.size w w'/\RdB w' w.heap.size A' l/\bS L w' w.heap.size v acc/\d<=c'/\d<f/\acc.length<=k/\m<=k/\zfL f l k m acc=R
def bW (L:List Int) (t:Tok):Value:=.agg #[.string (K.str t.t),.complex .f64 (Fl.fl (Pl.pos (L.take t.o)).1) (Fl.fl (Pl.pos (L.take t.o)).2)]
theorem zfK (w:World) (A:Option Addr) (c n:Nat) (hk:1<=n):(Instr.sliceAt 147 (.slice A n c) (some (.int .i64 1)) none none).run Tryz.prog w=.ok (.slice (zhm A c) (n-1) (c-1)) w:=by
 rw[DJ _ _ _ _ _ _ (by kernel_rfl),run_slice_l _ _ _ _ _ (by kernel_rfl) .i64 (1:Int) (by omega) (by omega)];have hs:(sizeOf (Tryz.prog.elem 147)).run Tryz.prog w=.ok 3 w:=by kernel_rfl
 rw[hs];simp[Result.andThen,sliced,zhm]
def za6 (L:List Int):Option Tok->List Value
 | none=>[.string ⟨#[]⟩,.complex .f64 0 0]
 | some t=>aT L t
def aU (L:List Int) (p:Y.Prd) (A:Option Addr) (c:Nat):List Value:=aT L p.l++[.slice A p.r.length c]++za6 L p.p
def zbc (d:Y.Dcl) (A:Option Addr) (c:Nat):List Value:=[.int .i64 d.k,.slice A d.ns.length c]
abbrev PA:=Y.Prd×Option Addr×Nat
abbrev DA:=Y.Dcl×Option Addr×Nat
def ziO (L:List Int) (qs:List PA):List Value:=qs.flatMap fun q=>aU L q.1 q.2.1 q.2.2
def zmJ (qs:List DA):List Value:=qs.flatMap fun q=>zbc q.1 q.2.1 q.2.2
theorem zcC (L:List Int) (p:Y.Prd) (A:Option Addr) (c:Nat):(aU L p A c).length=5:=by
 unfold aU za6;split <;> rfl
theorem zkv (L:List Int) (qs:List PA) (i j:Nat) (hi:i<qs.length) (hj:j<5):(ziO L qs)[i*5+j]?=(aU L qs[i].1 qs[i].2.1 qs[i].2.2)[j]?:=by
 unfold ziO;induction qs generalizing i with
 | nil=>simp at hi
 | cons x r ih =>
  rw[BD];have hl:=zcC L x.1 x.2.1 x.2.2;cases i with
  | zero=>rw[Bw (by omega)];simp
  | succ i =>
   rw[Cg (by omega),hl,show(i+1)*5+j-5=i*5+j by omega]
   simpa using ih i (by simpa using hi)
theorem zhY (qs:List DA) (i j:Nat) (hi:i<qs.length) (hj:j<2):(zmJ qs)[i*2+j]?=(zbc qs[i].1 qs[i].2.1 qs[i].2.2)[j]?:=by
 unfold zmJ;induction qs generalizing i with
 | nil=>simp at hi
 | cons x r ih =>
  rw[BD];have hl:(zbc x.1 x.2.1 x.2.2).length=2:=rfl;cases i with
  | zero=>rw[Bw (by omega)];simp
  | succ i =>
   rw[Cg (by omega),hl,show(i+1)*2+j-2=i*2+j by omega]
   simpa using ih i (by simpa using hi)
def bH (L:List Int) (w:World) (base:Nat) (v:Value) (ps:List Y.Prd):Prop :=
 ∃qs:List PA,qs.map (·.1)=ps/\w.ownsRow base 161 5 v ps.length (ziO L qs)/\∀q∈qs,RdR L w base q.2.1 q.1.r
def bI (L:List Int) (w:World) (base:Nat) (v:Value) (ds:List Y.Dcl):Prop :=
 ∃qs:List DA,qs.map (·.1)=ds/\w.ownsRow base 209 2 v ds.length (zmJ qs)/\∀q∈qs,RdR L w base q.2.1 q.1.ns
theorem bH.nil (L:List Int) (w:World) (base:Nat):bH L w base (.slice none 0 0) []:=⟨[],rfl,CR w base _ _,fun q h=>by cases h⟩
theorem bI.nil (L:List Int) (w:World) (base:Nat):bI L w base (.slice none 0 0) []:=⟨[],rfl,CR w base _ _,fun q h=>by cases h⟩
def zj5 (w:World) (v:Value) (row:Option Nat):Prop:=a8 w row/\(v.ownBlock=none\/v.ownBlock≠row)
theorem zj5.none (w:World) (v:Value):zj5 w v .none:=⟨a8.none w,by rcases v.ownBlock with _|k;exact .inl rfl;exact .inr (by simp)⟩
theorem bH.grown {L:List Int} {w w':World} {base:Nat} {v:Value} {ps:List Y.Prd} {row:Option Nat} (h:bH L w base v ps) (hg:w.grownBy w' row) (ha:zj5 w v row):bH L w' base v ps:=by
 obtain⟨qs,h1,h2,h3⟩:=h;exact⟨qs,h1,h2.kept hg ha.2,fun q hq=>(h3 q hq).grown hg ha.1⟩
theorem bI.grown {L:List Int} {w w':World} {base:Nat} {v:Value} {ds:List Y.Dcl} {row:Option Nat} (h:bI L w base v ds) (hg:w.grownBy w' row) (ha:zj5 w v row):bI L w' base v ds:=by
 obtain⟨qs,h1,h2,h3⟩:=h;exact⟨qs,h1,h2.kept hg ha.2,fun q hq=>(h3 q hq).grown hg ha.1⟩
theorem zat {size:Nat} {e:TypeId} (h:w.ownsRow base e size v n xs) (he:e≠153):a8 w v.ownBlock:=by
 intro k hk cur hc;rcases h.2 with⟨rfl,_⟩|⟨g,cap,cur',rfl,_,hg,_⟩
 ·cases hk
 ·injection hk with hk;subst hk;have aa:w.heap[g]?=some (.cells cur 153 (0,0)):=hc;rw[hg]at aa;injection aa with e1;injection e1 with _ e2;exact he e2
theorem bH.form {L:List Int} {ps:List Y.Prd} (h:bH L w base v ps):∃A c,v=.slice A ps.length c/\ps.length<=c/\c<=maxLen:=by
 obtain⟨qs,h1,h2,h3⟩:=h;rcases h2.2 with⟨rfl,h0⟩|⟨g,cap,cur,rfl,hb,hg,hn,hm,hs,ht⟩
 ·exact⟨none,0,by rw[h0],by omega,by unfold maxLen;omega⟩
 ·exact⟨_,cap,rfl,hn,hm⟩
theorem bI.form {L:List Int} (h:bI L w base v ds):∃A c,v=.slice A ds.length c/\ds.length<=c/\c<=maxLen:=by
 obtain⟨qs,h1,h2,h3⟩:=h;rcases h2.2 with⟨rfl,h0⟩|⟨g,cap,cur,rfl,hb,hg,hn,hm,hs,ht⟩
 ·exact⟨none,0,by rw[h0],by omega,by unfold maxLen;omega⟩
 ·exact⟨_,cap,rfl,hn,hm⟩
theorem zmq:(Tryz.prog.info? 161).map (fun i=>(i.zero,i.size,i.bytes))=some (some (.agg #[.string ⟨#[]⟩,.complex .f64 0 0,.slice none 0 0,.string ⟨#[]⟩,.complex .f64 0 0]),5,88):=by kernel_rfl
theorem znJ:(Tryz.prog.info? 209).map (fun i=>(i.zero,i.size,i.bytes))=some (some (.agg #[.int .i64 0,.slice none 0 0]),2,32):=by kernel_rfl
theorem zcB (L:List Int) (p:Y.Prd) (A:Option Addr) (c:Nat):∀u∈aU L p A c,u.oneCell'=true:=by
 intro u hu;unfold aU za6 at hu;split at hu <;> simp[aT]at hu <;> rcases hu with rfl|rfl|rfl|rfl|rfl <;> rfl
theorem zid {rest:List Oper} {o:Oper} {a:Act} {Q:Exit->Act->World->Prop} (ae:o.guard=none) (s x:Operand) (t:TypeId) (ho:o.op=.call {callee:=.builtin .append,args:=#[s,x],argTypes:=#[t,t]}) (ht:Tryz.prog.underlying t=some (.slice 161)) (L:List Int) (base:Nat) (v:Value) (ps:List Y.Prd) (hs:a.eval s=v) (ab:bH L w base v ps) (g c:Nat) (p:Y.Prd) (A:Option Addr) (pc:Nat) (hx:a.eval x=.slice (some ⟨g,0,none⟩) 1 c) (hz:∀j u,(aU L p A pc)[j]?=some u->w.cell? ⟨g,j,none⟩=some u) (hr:RdR L w base A p.r) (af:ps.length<=1000000) (aa:base<=w.heap.size) (hK:∀v' w',bH L w' base v' (ps++[p])->w.grownBy w' v.ownBlock->wpList Tryz.prog ops Q rest (a.put o.dst v') w') :
  wpList Tryz.prog ops Q (o::rest) a w:=by
 obtain⟨i,hi,ag,ah,ai⟩:=CD zmq;obtain⟨qs,ac,ad,aj⟩:=ab;have ak:qs.length=ps.length:=by rw[<-ac,Bb]
 refine Dm w ae s x t ho base 161 i _ 5 88 ht hi ag ah ai rfl (by decide) v ps.length (ziO L qs) hs ad ⟨g,0,none⟩ 1 c (aU L p A pc) hx (by rw[zcC]) ?_ (zcB L p A pc) (by unfold maxLen;omega) (by omega) aa fun v' w' h1 h2 _=>hK v' w' ?_ h2
 ·intro j u hj;rw[zd1,Bu];exact hz j u hj
 ·have ho:=zat ad (by decide);refine⟨qs++[(p,A,pc)],by rw[AW,ac];rfl,?_,fun q hq=>?_⟩
  ·rw[AU];unfold ziO;rw[BX,Cc];exact h1
  ·rcases Bj.1 hq with h|h
   ·exact(aj q h).grown h2 ho
   ·rw[AF]at h;subst h;exact hr.grown h2 ho
theorem zad (w:World) (row:Option Nat):w.grownBy w.drew row:=⟨rfl,rfl,rfl,Ad _,fun _ _ _=>rfl⟩
theorem zag {w2:World} {R:Nat} {o:Obj} (h:w.grownBy w2 (some R)) (ho:w.heap[g]?=some o) (aa:g≠R):w2.heap[g]?=some o:=by
 rw[h.block g (Ac.1 ho).1 (fun e=>by injection e with e;omega)];exact ho
theorem zbK {t:TypeId} (h:w.heap[g]?=some (.cells cs t (0,0))) (ht:t≠153):a8 w (some g):=by
 intro k hk cur hc;injection hk with hk;subst hk;rw[h]at hc;injection hc with hc;injection hc with _ hc;exact ht hc
theorem zdA (L:List Int) (p:Option Tok):∃x3 x4,za6 L p=[x3,x4]:=by cases p <;> exact⟨_,_,rfl⟩
theorem zg4 {row:Option Nat} (h:w.heap[g]?=some (.cells cs 153 (0,0))) (hg:w.grownBy w' row) (ho:a8 w row):w'.heap[g]?=some (.cells cs 153 (0,0)) :=
 (hg.block g (Ac.1 h).1 (fun e=>ho g e.symm cs h)).trans h
theorem bH.own {L:List Int} {ps:List Y.Prd} (h:bH L w base v ps):∃xs,w.ownsRow base 161 5 v ps.length xs:=by
 obtain⟨qs,_,h2,_⟩:=h;exact⟨_,h2⟩
theorem bI.own {L:List Int} (h:bI L w base v ds):∃xs,w.ownsRow base 209 2 v ds.length xs:=by
 obtain⟨qs,_,h2,_⟩:=h;exact⟨_,h2⟩
theorem bH.other {L:List Int} {ps:List Y.Prd} (h:bH L w base v ps):a8 w v.ownBlock:=by
 obtain⟨xs,h2⟩:=h.own;exact zat h2 (by decide)
theorem bI.other {L:List Int} (h:bI L w base v ds):a8 w v.ownBlock:=by
 obtain⟨xs,h2⟩:=h.own;exact zat h2 (by decide)
theorem zfk (p:Tok->Bool):∀ts:List Tok,(ts.dropWhile p).length<=ts.length
 | []=>Ad _
 | t::r=>by
  have:=zfk p r
  rw[List.dropWhile_cons];split
  ·simp;omega
  ·exact Ad _
theorem ziF {left:Tok} {ts r:List Tok} {p:Y.Prd} (h:Y.rule left ts=.ok p r):r.length<=ts.length:=by
 unfold Y.rule Y.rule2 at h;have hd:=zfk Y.isRef ts;split at h
 ·obtain⟨t,m,h1,h2⟩:=Y.bind_eq_ok h;obtain⟨u,m2,h3,h4⟩:=Y.bind_eq_ok h2;injection h4 with _ h5;subst h5;have e1:=congrArg List.length (Y.take_ok h1).1;have e2:=congrArg List.length (Y.take_ok h3).1;simp at e1 e2;omega
 ·injection h with _ h5;subst h5;exact hd
theorem zly {t:TypeId} {a0 a1 a2 a3 a4:Value} (h:w.heap[g]?=some (.cells #[a0,a1,a2,a3,a4] t (0,0))) (b0 b1 b2 b3 b4:Value) :
  (((((w.setCell ⟨g,0,none⟩ b0).setCell ⟨g,1,none⟩ b1).setCell ⟨g,2,none⟩ b2).setCell ⟨g,3,none⟩ b3).setCell ⟨g,4,none⟩ b4).heap[g]?=some (.cells #[b0,b1,b2,b3,b4] t (0,0)):=by
 have h0:=AP w g 0 _ _ b0 h;have h1:=AP _ g 1 _ _ b1 h0;have h2:=AP _ g 2 _ _ b2 h1;have h3:=AP _ g 3 _ _ b3 h2;have h4:=AP _ g 4 _ _ b4 h3;exact h4
theorem ziz (w:World) (p:Addr) (u:Value):(w.setCell p u).heap.size=w.heap.size:=by simp[World.setCell]
theorem zc1 (L:List Int) (w:World) (base:Nat) (t:Tok) (hb:base<=w.heap.size):bO L (w.alloc (.cells #[.string (K.str t.t),.complex .f64 (Fl.fl (Pl.pos (L.take t.o)).1) (Fl.fl (Pl.pos (L.take t.o)).2)] 153)) base (.slice (some ⟨w.heap.size,0,none⟩) 1 1) [t] :=
 World.ownsRow_lit w #[.string (K.str t.t),.complex .f64 (Fl.fl (Pl.pos (L.take t.o)).1) (Fl.fl (Pl.pos (L.take t.o)).2)] 1 hb (by unfold maxLen;omega) rfl
theorem zib {o:Oper} {a:Act} {K:Act->World->Prop} {Q:Exit->Act->World->Prop} (s x:Operand) (t:TypeId) (ho:o.op=.call {callee:=.builtin .append,args:=#[s,x],argTypes:=#[t,t]}) (ht:Tryz.prog.underlying t=some (.slice 153)) (L:List Int) (base B:Nat) (v:Value) (xs:List Tok) (hs:a.eval s=v) (aa:bO L w base v xs) (A:Option Addr) (m c:Nat) (ys:List Tok) (hx:a.eval x=.slice A m c) (hm:m=ys.length) (hr:RdR L w B A ys) (ae:xs.length+ys.length<=1000000) (ab:base<=w.heap.size) (hK:∀v' w',bO L w' base v' (xs++ys)->w.grownBy w' v.ownBlock->K (a.put o.dst v') w') :
  o.wp Tryz.prog a w K Q:=by
 obtain⟨i,hi,af,ag,ah⟩:=CD zmp;subst hm;rcases A with _|ad
 ·have hz:ys=[]:=by
   rcases Dh ys.length with h0|h0
   ·exact Bv h0
   ·obtain⟨g,o',h,_⟩:=hr (by omega);cases h
  subst hz;have ac:=zar (P:=Tryz.prog) w base t o.type 153 i 2 ht hi v xs.length _ aa c;unfold Oper.wp;simp[execOp,ho,resolve,invoke,builtin,hs,hx,ac,Result.andThen];exact hK v w (by simpa using aa) (AI _ _)
 ·refine D5 w s x t ho base 153 i _ 2 32 ht hi af ag ah rfl (by decide) v xs.length (xs.flatMap (aT L)) hs aa ad ys.length c (ys.flatMap (aT L)) hx (zcz L ys) ?_ ?_ (by unfold maxLen;omega) (by omega) ab fun v' w' h1 h2 _=>hK v' w' ?_ h2
  ·intro j u hj;have ai:j<(ys.flatMap (aT L)).length:=(Ba.1 hj).1;rw[zcz]at ai;obtain⟨g,cur,h,_,hh,hc⟩:=hr (by omega)
   replace h:=DE h
   subst h;rw[zd1,Bu,Aw w g _ _ _ _ hh];exact hc j u hj
  ·intro u hu;obtain⟨z,_,hz⟩:=CK.1 hu;simp[aT]at hz;rcases hz with rfl|rfl <;> rfl
  ·unfold bO;rw[AU,BX];exact h1
def Rd8 (L:List Int) (B R px py:Nat) (w:World) (ts:List Tok):Prop :=
 ∃A c,w.heap[R]?=some (.cells #[.slice A ts.length c,.complex .f64 px py,.complex .f64 0 0,.int .i64 0] 203 (0,0))/\ts.length<=c/\ts.length<=4000/\RdT L w B A ts/\B<=R
theorem Rd8.lt {L:List Int} {R:Nat} {ts:List Tok} (h:Rd8 L B R px py w ts):R<w.heap.size:=by
 obtain⟨A,c,hh,_⟩:=h;exact(Ac.1 hh).1
theorem Rd8.other {L:List Int} {R:Nat} {ts:List Tok} (h:Rd8 L B R px py w ts):a8 w (some R):=by
 obtain⟨A,c,hh,_⟩:=h;intro k hk cur he;injection hk with hk;subst hk;rw[hh]at he;injection he with he;injection he with _ he;cases he
theorem Rd8.grown {L:List Int} {B R px py:Nat} {w w':World} {ts:List Tok} {row:Option Nat} (h:Rd8 L B R px py w ts) (hg:w.grownBy w' row) (hr:∀k,row=some k->R<k):Rd8 L B R px py w' ts:=by
 have aa:=h.lt;obtain⟨A,c,hh,h1,h2,h3,h4⟩:=h;exact⟨A,c,(hg.block R aa (fun e=>by have:=hr R e.symm;omega)).trans hh,h1,h2,h3.grown hg (fun k e=>by have:=hr k e;omega) (by omega),h4⟩
theorem Rd8.alloc {L:List Int} {R:Nat} {ts:List Tok} (h:Rd8 L B R px py w ts) (o:Obj):Rd8 L B R px py (w.alloc o) ts :=
 h.grown (row:=.none) (aG (AI _ _) o) (fun _ e=>by cases e)
theorem Rd8.own {L:List Int} {R:Nat} {ts:List Tok} {e:TypeId} {size:Nat} (h:Rd8 L B R px py w ts) (ho:w.ownsRow base e size v n xs) (hg:w.grownBy w' v.ownBlock) (hb:R<base):Rd8 L B R px py w' ts :=
 h.grown hg (fun k e=>by have:=(Bs ho k e).1;omega)
theorem Rd8.far {L:List Int} {R:Nat} {ts:List Tok} (h:Rd8 L B R px py w ts) (g i:Nat) (u:Value) (hg:R<g):Rd8 L B R px py (w.setCell ⟨g,i,none⟩ u) ts :=
 h.grown (aF (AI w (some g)) i u) (fun k e=>by injection e with e;omega)
theorem Rd8.cell0 {L:List Int} {R:Nat} {ts:List Tok} (h:Rd8 L B R px py w ts):∃A c,w.cell? ⟨R,0,none⟩=some (.slice A ts.length c)/\w.cell? ⟨R,3,none⟩=some (.int .i64 0)/\w.frozen? ⟨R,0,none⟩=false/\ts.length<=c/\RdT L w B A ts /\
  ∀A' c' ts',ts'.length<=c'->ts'.length<=4000->RdT L w B A' ts'->Rd8 L B R px py (w.setCell ⟨R,0,none⟩ (.slice A' ts'.length c')) ts':=by
 obtain⟨A,c,hh,h1,h2,h3,h4⟩:=h;refine⟨A,c,by rw[Aw w R 0 _ _ _ hh];rfl,by rw[Aw w R 3 _ _ _ hh];rfl,AD w R 0 _ _ hh,h1,h3,fun A' c' ts' k1 k2 k3=>⟨A',c',?_,k1,k2,?_,h4⟩⟩
 ·rw[AP w R 0 _ _ _ hh];rfl
 ·exact k3.keep fun g o hg=>Ch (AH w ⟨R,0,none⟩ _ g (by simp only;omega))
def kd:List Tok->Int
 | []=>0
 | t::_=>t.k
theorem zkK (L:List Int) (B R px py:Nat) (ts:List Tok) (w:World) (hr:Rd8 L B R px py w ts) :
  Calls Tryz.prog 127 #[.pointer (some ⟨R,0,none⟩)] w fun e w'=>e=.returned (.int .i64 (kd ts))/\w=w':=by
 obtain⟨A,c,h0,h3,_,hc,ht,_⟩:=hr.cell0;rcases ts with _|⟨t,r⟩
 ·clear hr ht
  go_enter Tryz.func127,Tryz.ntmps127
  go_wp2;go_ret
  exact⟨rfl,rfl⟩
 ·obtain⟨g,o,rfl,_,aa⟩:=ht (by simp);have ab:w.cell? ⟨g,o,none⟩=some (.int .i64 t.k):=aa 0 0 _ (by simp) rfl;have hl:0<((t::r).length:Int):=by simp
  have ac:(((t::r).length:Int)==0)=false:=by simp;omega
  have HK:Hid (kd (t::r)=t.k):=aA rfl;rw[HK.o];clear hr ht aa;generalize (t::r).length=n at *;generalize t.k=z at *
  go_enter Tryz.func127,Tryz.ntmps127
  go_wp2;go_ret
  exact⟨rfl,rfl⟩
theorem is8 (L:List Int) (B R px py:Nat) (ts:List Tok) (a b:Int) (w:World) (hr:Rd8 L B R px py w ts) :
  Calls Tryz.prog 171 #[.pointer (some ⟨R,0,none⟩),.int .i64 a,.int .i64 b] w fun e w'=>e=.returned (.bool (Y.is [a,b] ts))/\w=w':=by
 have HK:=aA (zkK L B R px py ts w hr);obtain⟨A,c,h0,h3,_,hc,ht,_⟩:=hr.cell0;rcases ts with _|⟨t,r⟩
 ·clear hr ht
  go_enter Tryz.func171,Tryz.ntmps171
  go_wp2;go_ret
  exact⟨rfl,rfl⟩
 ·have hl:0<((t::r).length:Int):=by simp
  have HE:Hid (Y.is [a,b] (t::r)=((t.k==a)||(t.k==b))):=aA (by show [a,b].contains t.k=_;simp[List.contains,List.elem];cases (t.k==a) <;> cases (t.k==b) <;> rfl);have ab:Hid (kd (t::r)=t.k):=aA rfl;rw[HE.o];rw[ab.o]at HK;clear hr ht;generalize (t::r).length=n at *;generalize t.k=z at *;by_cases ha:z=a
  ·have aa:(z==a)=true:=by simpa using ha
   rw[aa,Ds];clear ha
   go_enter Tryz.func171,Tryz.ntmps171
   go_wp2_with fail
   refine HK.o.mono ?_;rintro _ _ ⟨rfl,rfl⟩;go_wp2;go_ret
   exact⟨rfl,rfl⟩
  ·have aa:(z==a)=false:=by simpa using ha
   rw[aa,EN];clear ha;generalize hb:(z==b)=q at *
   go_enter Tryz.func171,Tryz.ntmps171
   go_wp2_with fail
   refine HK.o.mono ?_;rintro _ _ ⟨rfl,rfl⟩;go_wp2_with fail
   refine HK.o.mono ?_;rintro _ _ ⟨rfl,rfl⟩;go_wp2;go_ret
   exact⟨rfl,rfl⟩
theorem zd9 (L:List Int) (B R px py:Nat) (t:Tok) (r:List Tok) (a b:Int) (w:World) (hr:Rd8 L B R px py w (t::r)) (hk:Y.is [a,b] (t::r)=true) :
  Calls Tryz.prog 125 #[.pointer (some ⟨R,0,none⟩),.int .i64 a,.int .i64 b] w fun e w'=>e=.returned (bW L t)/\w.grownBy w' (some R)/\Rd8 L B R px py w' r:=by
 have HR:=aA (fun(w1:World) (h1:Below w.heap.size w w1)=>hr.grown (row:=.none) (zab h1 .none) (fun _ e=>by cases e));have ae:=aA (fun o=>((Aq w.heap.size w).alloc (Ad _) o));have ag:=hr.lt;obtain⟨A,c,h0,h3,hf,hc,ht,aa⟩:=hr.cell0;obtain⟨g,o,hA,ah,ab⟩:=ht (by simp);have ai:w.cell? ⟨g,o,none⟩=some (.int .i64 t.k):=ab 0 0 _ (by simp) rfl;have aj:w.cell? ⟨g,o+1,none⟩=some (.string (K.str t.t)):=ab 0 1 _ (by simp) rfl;have ak:w.cell? ⟨g,o+2,none⟩=some (.complex .f64 (Fl.fl (Pl.pos (L.take t.o)).1) (Fl.fl (Pl.pos (L.take t.o)).2)):=ab 0 2 _ (by simp) rfl;have af:g<w.heap.size:=by obtain⟨_,_,_,_,_,_,al⟩:=hr;omega
 have ad:=aA (fun(w1:World) (h1:Below w.heap.size w w1)=>is8 L B R px py (t::r) a b w1 (HR.o w1 h1));rw[hk]at ad;have HT:=aA (ht.tail hc);have ac:=aA aa;have S1:=fun w=>zfK w A c (t::r).length (by simp);have SC:=fun a w m X Y=>show(store a (.complex .f64 X Y) m).run Tryz.prog w=stored Tryz.prog w a (.complex .f64 X Y) m from run_store _ w a _ m rfl;have am:(((t::r).length:Int)==0)=false:=by simp;omega
 have ao:0<(t::r).length:=by simp
 have HN:Hid ((t::r).length=r.length+1/\r.length+1<=c/\r.length+1<=4000):=aA ⟨rfl,hc,by obtain⟨_,_,_,_,h4,_,_⟩:=hr;simpa using h4⟩;unfold bW;clear hr ht ab aa hk;subst hA;generalize (t::r).length=n at *;generalize t.k=z at *;generalize K.str t.t=st at *;generalize Fl.fl (Pl.pos (L.take t.o)).1=X at *;generalize Fl.fl (Pl.pos (L.take t.o)).2=Y' at *
 go_enter Tryz.func125,Tryz.ntmps125
 go_wp2_with fail
 refine(ad.o _ (ae.o _)).mono ?_;rintro _ w2 ⟨rfl,rfl⟩;go_wp2;have hk:=ac.o (zhm (some ⟨g,o,none⟩) c) (c-1) r (by have:=HN.o;omega) (by have:=HN.o;omega) HT.o;refine BM (v:=.agg #[.string st,.complex .f64 X Y']) (by simp[results,Tryz.results125,go_sem]) rfl ⟨rfl,aG (aG (aF (AI _ _) _ _) _) _,?_⟩;rw[show n-1=r.length by have:=HN.o;omega];exact(hk.alloc _).alloc _
def znW (L:List Int) (B R px py:Nat) (ts:List Tok) (w:World) (e:Ending) (w':World):Prop :=
 w.grownBy w' (some R)/\∃v,e=.returned v/\bO L w' w.heap.size v (ts.takeWhile Y.isRef)/\Rd8 L B R px py w' (ts.dropWhile Y.isRef)
theorem zlK (L:List Int) (B R px py:Nat) (ts:List Tok) (w:World) (hr:Rd8 L B R px py w ts) :
  Calls Tryz.prog 170 #[.pointer (some ⟨R,0,none⟩)] w (znW L B R px py ts w):=by
 have HR:=aA hr;have ad:=hr.lt;have a1:ts.length<=4000:=by obtain⟨_,_,_,_,h,_⟩:=hr;exact h
 clear hr
 go_enter Tryz.func170,Tryz.ntmps170
 go_wp2;go_loopw [3] (fun v wr=>∃(acc rest:List Tok),bO L wr w.heap.size v acc/\Rd8 L B R px py wr rest/\w.grownBy wr (some R)/\acc.length+rest.length=ts.length/\acc++rest.takeWhile Y.isRef=ts.takeWhile Y.isRef/\rest.dropWhile Y.isRef=ts.dropWhile Y.isRef) (fun v _=>4001-zdl v)
 case atStart=>exact⟨[],ts,bO.nil _ _ _,HR.o,AI _ _,by simp,rfl,rfl⟩
 case round =>
  clear HR;obtain⟨acc,rest,ho,hr,hg,aa,ak,al⟩:=hrel;have HO:=aA ho;have HR:=aA hr;have HG:=aA hg;have HL:=aA aa;have ae:=aA ak;have af:=aA al;obtain⟨A,c,rfl,av,aw⟩:=ho.rd;have ac:=aA (is8 L B R px py rest 1 2 wr hr);clear ho hr hg aa ak al av aw;rcases hb:Y.is [1,2] rest with _|_
  ·rw[hb]at ac;have HB:=aA hb;clear hb;go_wp2_with fail
   refine ac.o.mono ?_;rintro _ w2 ⟨rfl,rfl⟩;go_wp2;go_ret
   obtain⟨e1,e2⟩:=Y.refs_end HB.o;rw[e1,Co]at ae;rw[e2]at af;refine⟨HG.o,_,rfl,?_,?_⟩
   ·rw[<-ae.o];exact HO.o
   ·rw[<-af.o];exact HR.o
  ·rw[hb]at ac;have HB:=aA hb;obtain⟨t,r,rfl,ab,hk⟩:=Y.is_true hb;have am:=aA (zd9 L B R px py t r 1 2 wr HR.o hb);have HK:Hid (Y.isRef t=true):=aA hk;clear hb ab hk;unfold bW at am;go_wp2_with fail
   refine ac.o.mono ?_;rintro _ w2 ⟨rfl,rfl⟩;go_wp2_with fail
   refine am.o.mono ?_;rintro _ w3 ⟨rfl,ag,ao⟩;have ap:=aA ag;have ax:=aA ao;have ah:=aA (HO.o.grown ag HR.o.other);clear ag ao;have ay:=aA (zg3 L w3 t);have az:Hid (w.heap.size<=w3.heap.size):=aA (by have h1:=HG.o.size;have h3:=ap.o.size;omega);have aq:Hid (acc.length<=4000):=aA (by have:=HL.o;simp at this;omega);go_wp2_with (at_builtin;refine zk9 rfl (.tmp 6) (.tmp 9) _ rfl Tryz.underlying159 L w.heap.size _ acc rfl (ah.o.alloc _) w3.heap.size 1 t rfl ay.o (by have:=aq.o;omega) (by have:=az.o;simp;omega) ?_;intro v4 w4 ar ai)
   have a0:=aA (zaA (aG (HG.o.trans ap.o) _) (ah.o.alloc _) ai);have aj:=aA ((ax.o.alloc _).own (ah.o.alloc _) ai ad);have au:=aA ar;clear ar ai;go_roundw
   case rel =>
    refine⟨acc++[t],r,au.o,aj.o,a0.o,?_,?_,?_⟩
    ·have:=HL.o;simp at this ⊢;omega
    ·rw[<-ae.o,List.takeWhile_cons,HK.o];simp
    ·rw[<-af.o,List.dropWhile_cons,HK.o];rfl
   case measure =>
    obtain⟨A4,c4,rfl,_,_⟩:=au.o.rd
    have:=aq.o
    simp[zdl];omega
namespace Y
theorem zfs (left:Tok):∀(f:Nat) (acc:List Prd) (ts:List Tok) (ps:List Prd) (r:List Tok),alts f left acc ts=.ok ps r->ps.length+r.length<=acc.length+ts.length
 | 0,acc,ts,ps,r,h=>by injection h with h1 h2;subst h1 h2;exact Ad _
 | f+1,acc,ts,ps,r,h=>by
  rw[alts]at h;obtain⟨p,m,h1,h2⟩:=bind_eq_ok h;obtain⟨t,m2,h3,h4⟩:=bind_eq_ok h2;have e1:=ziF h1;have e2:=congrArg List.length (take_ok h3).1;simp at e2;split at h4
  ·have:=zfs left f _ _ _ _ h4
   simp at this;omega
  ·injection h4 with h5 h6;subst h5 h6;simp;omega
theorem group_len {acc ps:List Prd} {ts r:List Tok} (h:group acc ts=.ok ps r):ps.length+r.length<acc.length+ts.length:=by
 unfold group at h;obtain⟨t,m,h1,h2⟩:=bind_eq_ok h;obtain⟨u,m2,h3,h4⟩:=bind_eq_ok h2;have e1:=congrArg List.length (take_ok h1).1;have e2:=congrArg List.length (take_ok h3).1;have e3:=zfs _ _ _ _ _ _ h4;simp at e1 e2;omega
end Y
theorem zeV {size:Nat} {e t:TypeId} (h:w.ownsRow base e size v n xs) (hb:w.heap[g]?=some (.cells cs t (0,0))) (he:e≠t):v.ownBlock≠some g:=by
 intro hk;rcases h.2 with⟨rfl,_⟩|⟨g',cap,cur',rfl,_,hg,_⟩
 ·cases hk
 ·injection hk with hk;have aa:g'=g:=hk;subst aa;rw[hg]at hb;injection hb with e1;injection e1 with _ e2;exact he e2
theorem zeW {size:Nat} {e t:TypeId} (h:w.ownsRow base e size v n xs) (hb:w.heap[g]?=some (.cells cs t (0,0))) (he:e≠t) (hg:w.grownBy w' v.ownBlock):w'.heap[g]?=some (.cells cs t (0,0)) :=
 (hg.block g (Ac.1 hb).1 (fun e'=>zeV h hb he e'.symm)).trans hb
theorem zj1 {o:Oper} {a:Act} {K:Act->World->Prop} {Q:Exit->Act->World->Prop} (s x:Operand) (t:TypeId) (ho:o.op=.call {callee:=.builtin .append,args:=#[s,x],argTypes:=#[t,t]}) (ht:Tryz.prog.underlying t=some (.slice 209)) (L:List Int) (base:Nat) (v:Value) (ds:List Y.Dcl) (hs:a.eval s=v) (ab:bI L w base v ds) (g c:Nat) (d:Y.Dcl) (A:Option Addr) (dc:Nat) (hx:a.eval x=.slice (some ⟨g,0,none⟩) 1 c) (hz:∀j u,(zbc d A dc)[j]?=some u->w.cell? ⟨g,j,none⟩=some u) (hr:RdR L w base A d.ns) (ad:ds.length<=1000000) (aa:base<=w.heap.size) (hK:∀v' w',bI L w' base v' (ds++[d])->w.grownBy w' v.ownBlock->K (a.put o.dst v') w') :
  o.wp Tryz.prog a w K Q:=by
 obtain⟨i,hi,ae,af,ag⟩:=CD znJ;obtain⟨qs,ah,ac,ai⟩:=ab;refine D5 w s x t ho base 209 i _ 2 32 ht hi ae af ag rfl (by decide) v ds.length (zmJ qs) hs ac ⟨g,0,none⟩ 1 c (zbc d A dc) hx rfl ?_ (fun u hu=>by simp[zbc]at hu;rcases hu with rfl|rfl <;> rfl) (by unfold maxLen;omega) (by omega) aa fun v' w' h1 h2 _=>hK v' w' ?_ h2
 ·intro j u hj;rw[zd1,Bu];exact hz j u hj
 ·have ho:=zat ac (by decide);refine⟨qs++[(d,A,dc)],by rw[AW,ah];rfl,?_,fun q hq=>?_⟩
  ·rw[AU];unfold zmJ;rw[BX,Cc];exact h1
  ·rcases Bj.1 hq with h|h
   ·exact(ai q h).grown h2 ho
   ·rw[AF]at h;subst h;exact hr.grown h2 ho
theorem bH.less {L:List Int} {w:World} {base base':Nat} {v:Value} {ps:List Y.Prd} (h:bH L w base v ps) (hb:base'<=base):bH L w base' v ps:=by
 obtain⟨qs,h1,h2,h3⟩:=h;refine⟨qs,h1,⟨h2.1,?_⟩,fun q hq=>(h3 q hq).less hb⟩;rcases h2.2 with h0|⟨g,cap,cur,e,aa,hr⟩
 ·exact .inl h0
 ·exact .inr ⟨g,cap,cur,e,by omega,hr⟩
def zc9 (n:Nat) (w:World):Nat:=match w.cell? ⟨n,0,none⟩ with|some (.slice _ k _)=>k|_=>0
theorem bI.less {L:List Int} {w:World} {base base':Nat} {v:Value} {ds:List Y.Dcl} (h:bI L w base v ds) (hb:base'<=base):bI L w base' v ds:=by
 obtain⟨qs,h1,h2,h3⟩:=h;refine⟨qs,h1,⟨h2.1,?_⟩,fun q hq=>(h3 q hq).less hb⟩;rcases h2.2 with h0|⟨g,cap,cur,e,aa,hr⟩
 ·exact .inl h0
 ·exact .inr ⟨g,cap,cur,e,by omega,hr⟩
theorem zaP {a:World} (h:Below B a w) (u:Value) (hg:B<=g):Below B a (w.setCell ⟨g,i,none⟩ u) :=
 ⟨h.os,h.tape,h.output,by simpa[World.setCell] using h.size,fun k hk=>(AH w ⟨g,i,none⟩ u k (by simp only;omega)).trans (h.block k hk)⟩
structure Stands (L:List Int) (x:Tok):Prop where
 o:x.o<L.length
 len:x.t.length<=L.length-x.o
 text:(L.drop x.o).take x.t.length=x.t
 name:(x.k==1)=T.isName x.t
 lit:(x.k==2)=T.isLit x.t
 bytes:K.Bytes x.t
theorem zfJ (L:List Int) (hL:K.Bytes L) (k:Nat) (hk:k<L.length) (x:T.P3) (hf:T.Fine (L.drop k) x) (he:x.2.2=0):Stands L ⟨x.1,aZ x.1 ((L.drop k).take x.2.1),k⟩:=by
 obtain⟨xk,xn,xe⟩:=x;obtain⟨h1,_,_,_,_,_⟩:=hf;obtain⟨h2,h3,h4,h5⟩:=h1 he;simp only at h2 h3 h4 h5;rw[Bl]at h3;have aa:((L.drop k).take xn).length=xn:=by rw[Bc,Bl];omega
 by_cases ab:xk=1
 ·subst ab;have hn:=h4 rfl;have e:aZ 1 ((L.drop k).take xn)=(L.drop k).take xn:=by simp[aZ]
  refine⟨hk,?_,?_,?_,?_,?_⟩
  ·simp only;rw[e,aa];exact h3
  ·simp only;rw[e,aa]
  ·simp only;rw[e,hn];rfl
  ·simp only;rw[e,T.name_lit _ hn];rfl
  ·simp only;rw[e];exact(hL.drop k).take xn
 ·by_cases ac:xk=2
  ·subst ac;have hn:=h5 rfl;have e:aZ 2 ((L.drop k).take xn)=(L.drop k).take xn:=by simp[aZ]
   have ad:T.isName ((L.drop k).take xn)=false:=by
    rcases hq:T.isName ((L.drop k).take xn) with _|_
    ·rfl
    ·have:=T.name_lit _ hq;rw[hn]at this;cases this
   refine⟨hk,?_,?_,?_,?_,?_⟩
   ·simp only;rw[e,aa];exact h3
   ·simp only;rw[e,aa]
   ·simp only;rw[e,ad];rfl
   ·simp only;rw[e,hn];rfl
   ·simp only;rw[e];exact(hL.drop k).take xn
  ·have e:aZ xk ((L.drop k).take xn)=[]:=by unfold aZ;rw[AB (by omega)]
   refine⟨hk,?_,?_,?_,?_,?_⟩
   ·simp only;rw[e];simp
   ·simp only;rw[e];simp
   ·simp only;rw[e,AY.2 ab];rfl
   ·simp only;rw[e,AY.2 ac];rfl
   ·simp only;rw[e];exact K.Bytes.nil
def zim (L:List Int) (k:Nat) (xs:List Tok):Prop:=(∀x∈xs,Stands L x/\x.o<k)/\xs.Pairwise (fun a b=>a.o<b.o)
theorem zdm (L:List Int) (hL:K.Bytes L):∀(f k m:Nat) (acc xs:List Tok),k<=L.length->zim L k acc->zfL f (L.drop k) k m acc=.ok xs->zim L L.length xs
 | 0,k,m,acc,xs,hk,hr,h=>by
  injection h with h;subst h;exact⟨fun x hx=>⟨(hr.1 x hx).1,(hr.1 x hx).1.o⟩,hr.2⟩
 | f+1,k,m,acc,xs,hk,hr,h=>by
  by_cases he:(L.drop k).length=0\/m=2
  ·rw[zeM _ _ _ _ _ he]at h;injection h with h;subst h;exact⟨fun x hx=>⟨(hr.1 x hx).1,(hr.1 x hx).1.o⟩,hr.2⟩
  ·have ab:k<L.length:=by rw[Bl]at he;omega
   have hf:=T.piece_fine (L.drop k) (by rw[Bl];omega) (hL.drop k);by_cases hb:(T.piece (L.drop k)).2.2=0
   ·rw[zgN _ _ _ _ _ he hb]at h;obtain⟨ad,ac,_,_⟩:=hf.1 hb;rw[Bl]at ac;rw[Dx]at h;refine zdm L hL f _ _ _ xs (by omega) ?_ h;unfold more;split
    ·exact⟨fun x hx=>⟨(hr.1 x hx).1,by have:=(hr.1 x hx).2;omega⟩,hr.2⟩
    ·refine⟨fun x hx=>?_,?_⟩
     ·rcases Bj.1 hx with h1|h1
      ·exact⟨(hr.1 x h1).1,by have:=(hr.1 x h1).2;omega⟩
      ·rw[AF]at h1;subst h1;exact⟨zfJ L hL k ab _ hf hb,by simp only;omega⟩
     ·rw[El];refine⟨hr.2,List.pairwise_singleton _ _,fun a ha b aa=>?_⟩;rw[AF]at aa;subst aa;exact(hr.1 a ha).2
   ·rw[zeN _ _ _ _ _ he hb]at h;cases h
theorem zgr (L:List Int) (hL:K.Bytes L) (xs:List Tok) (h:zkb L=.ok xs):zim L L.length xs :=
 zdm L hL _ 0 0 [] xs (AX _) ⟨fun x hx=>by simp at hx,List.Pairwise.nil⟩ (by simpa[zkb] using h)
theorem zim.lt {L:List Int} {xs:List Tok} (h:zim L k xs) (i j:Nat) (aa:i<j) (hj:j<xs.length):xs[i].o<xs[j].o :=
 CN.1 h.2 i j (by omega) hj aa
theorem zim.at {L:List Int} {xs:List Tok} (h:zim L k xs) (i:Nat) (hi:i<xs.length):Stands L xs[i]:=(h.1 _ (Ay hi)).1
theorem zim.ge {L:List Int} {k:Nat} {xs:List Tok} (h:zim L k xs):∀(i:Nat) (hi:i<xs.length),i<=xs[i].o
 | 0,_=>AX _
 | i+1,hi=>by
  have h1:=h.ge i (by omega);have h2:=h.lt i (i+1) (by omega) hi;omega
theorem zim.count {L:List Int} {xs:List Tok} (h:zim L k xs):xs.length<=L.length:=by
 rcases Dh xs.length with h0|h0
 ·omega
 ·have h1:=h.ge (xs.length-1) (by omega);have h2:=(h.at (xs.length-1) (by omega)).o;omega
theorem za3 (w:World) (A:Option Addr) (c n i j:Nat) (h1:i<=j) (h2:j<=c):(Instr.sliceAt 72 (.slice A n c) (some (.int .i64 i)) (some (.int .i64 j)) none).run Tryz.prog w=.ok (.slice (dropA A c i) (j-i) (c-i)) w:=by
 rw[DJ _ _ _ _ _ _ (by kernel_rfl),run_slice_lh _ _ _ _ _ (by kernel_rfl) .i64 .i64 (i:Int) (j:Int) (by omega) (by omega) (by omega)];have hs:(sizeOf (Tryz.prog.elem 72)).run Tryz.prog w=.ok 1 w:=by kernel_rfl
 rw[hs];simp[Result.andThen,sliced,dropA]
namespace T
theorem str_list (l:List Int):(K.str l).toList=Lib.bytesOf l:=by
 rw[CH];rfl
theorem pre_take (l s:List Int):pre l s=((K.str (l.take s.length)).toList==(K.str s).toList):=by
 rw[str_list,str_list];have e:Lib.bytesOf (l.take s.length)=(Lib.bytesOf l).take (Lib.bytesOf s).length:=by simp[Lib.bytesOf,List.map_take]
 rw[e];unfold pre Lib.hasPrefix;rw[Bn,List.isPrefixOf_iff_prefix,BH,List.prefix_iff_eq_take,eq_comm]
theorem pre_short (l s:List Int) (h:l.length<s.length):pre l s=false:=by
 rcases hp:pre l s with _|_
 ·rfl
 ·have:=zb2 l s hp;omega
theorem ix_cons (z:Int) (r s:List Int):ix (z::r) s=if pre (z::r) s then 0 else if ix r s<0 then -1 else ix r s+1:=by
 unfold ix pre Lib.hasPrefix;rw[show Lib.bytesOf (z::r)=UInt8.ofNat z.toNat::Lib.bytesOf r from rfl,Lib.index]
 have:=Lib.index_ge (Lib.bytesOf r) (Lib.bytesOf s)
 split
 ·rfl
 ·by_cases h:Lib.index (Lib.bytesOf r) (Lib.bytesOf s) = -1
  ·rw[h];simp
  ·have h1:(Lib.index (Lib.bytesOf r) (Lib.bytesOf s) == -1)=false:=by simpa using h
   rw[h1];simp only[Di,if_false];rw[AB (by omega)]
theorem ix_nil (s:List Int) (h:s.length≠0):ix [] s = -1:=by
 cases s with
 | nil=>simp at h
 | cons a b=>rfl
theorem ix_next (l s:List Int) (k:Nat) (h:k<l.length):ix (l.drop k) s=if pre (l.drop k) s then 0 else if ix (l.drop (k+1)) s<0 then -1 else ix (l.drop (k+1)) s+1:=by
 rw[L.cons_drop l k h,ix_cons]
end T
theorem zaT (A:Option Addr) (c B:Nat) (l s:List Int) (k:Nat) (w:World) (hr:RdB w B A l) (hl:K.Bytes l) (hc:l.length<=c) (hn:l.length<=5000) (hk:k<=l.length) (hs:s.length<=5000) :
  Calls Tryz.prog 162 #[.slice A l.length c,.int .i64 k,.string (K.str s)] w fun e w'=>e=.returned (.bool (T.pre (l.drop k) s))/\w=w':=by
 have b:=K.str_size s;by_cases h:k+s.length<=l.length
 ·have hp:=T.pre_take (l.drop k) s;have C1:=zbl (((hr.dropA hc k).take s.length)) ((hl.drop k).take s.length) (c-k);have S1:=fun w=>za3 w A c l.length k (k+s.length) (by omega) (by omega);rw[Bc,Bl,DB (by omega)]at C1;rw[show k+s.length-k=s.length by omega]at S1;have aa:(k:Int)+((K.str s).size:Int)=((k+s.length:Nat):Int):=by rw[b];omega
  have h1:((k+s.length:Nat):Int)<=(l.length:Int):=by omega
  have HP:=aA hp;clear hp b hr hl hk hs hc;generalize T.pre (l.drop k) s=pb at *;generalize K.str (List.take s.length (List.drop k l))=st at *;generalize K.str s=s2 at *;generalize k+s.length=m at *;generalize dropA A c k=D at *;generalize c-k=c2 at *;generalize s.length=sl at *
  go_enter Tryz.func162,Tryz.ntmps162
  go_wp2_with (first|simp only[S1]|simp only[C1])
  go_ret
  exact⟨aD HP.o.symm,rfl⟩
 ·rw[T.pre_short (l.drop k) s (by rw[Bl];omega)];have h1:¬(k:Int)+((K.str s).size:Int)<=(l.length:Int):=by rw[b];omega
  have h2:(k:Int)+((K.str s).size:Int)<=20000:=by rw[b];omega
  have h3:0<=(k:Int)+((K.str s).size:Int):=by omega
  clear hr hl hk hs hc b;generalize K.str s=s2 at *
  go_enter Tryz.func162,Tryz.ntmps162
  go_wp2;go_ret
  exact⟨rfl,rfl⟩
def T.pastV (l s:List Int) (k:Nat):Int:=if T.ix (l.drop k) s<0 then -1 else k+T.ix (l.drop k) s+s.length
theorem T.pastV_on (l s:List Int) (k:Nat) (h:k<l.length) (hp:T.pre (l.drop k) s=false):T.pastV l s k=T.pastV l s (k+1):=by
 unfold T.pastV;have hx:=T.ix_next l s k h;rw[hp]at hx;simp only[Di,if_false]at hx;have hg:=T.ix_ge (l.drop (k+1)) s;by_cases h1:T.ix (l.drop (k+1)) s<0
 ·rw[Ap h1]at hx;rw[Ap (by omega),Ap h1]
 ·rw[AB h1]at hx;rw[AB (by omega),AB h1,hx];simp only[Int.natCast_add];omega
theorem T.pastV_here (l s:List Int) (k:Nat) (h:k<l.length) (hp:T.pre (l.drop k) s=true):T.pastV l s k=k+s.length:=by
 unfold T.pastV;have hx:=T.ix_next l s k h;rw[hp,Ap rfl]at hx;rw[hx];simp
theorem T.pastV_end (l s:List Int) (k:Nat) (h:l.length<=k) (hs:s.length≠0):T.pastV l s k = -1:=by
 unfold T.pastV;rw[BV h,T.ix_nil s hs];rfl
theorem zbW (A:Option Addr) (c B:Nat) (l s:List Int) (k:Nat) (w:World) (hr:RdB w B A l) (hl:K.Bytes l) (hc:l.length<=c) (hn:l.length<=5000) (hk:k<=6000) (hs:s.length<=5000) (ac:s.length≠0) :
  Calls Tryz.prog 163 #[.slice A l.length c,.int .i64 k,.string (K.str s)] w fun e w'=>e=.returned (.int .i64 (T.pastV l s k))/\w=w':=by
 have HP:=aA (fun(j:Nat) (h:j<=l.length)=>zaT A c B l s j w hr hl hc hn h hs);have ad:=aA (K.str_size s);have HE:=aA (fun j h=>T.pastV_end l s j h ac);have HH:=aA (T.pastV_here l s);have HO:=aA (T.pastV_on l s);clear hr hl hc ac
 go_enter Tryz.func163,Tryz.ntmps163
 go_wp2
 go_loop [1] (fun vi=>∃(j:Nat),j<=6000/\vi=.int .i64 j/\T.pastV l s j=T.pastV l s k) (fun vi=>6001-(intOf vi).toNat)
 case atStart=>exact⟨k,hk,rfl,rfl⟩
 case round =>
  obtain⟨j,hj,rfl,he⟩:=hrel;have HV:=aA he;clear he;by_cases ae:j<l.length
  ·have ab:=aA (HP.o j (by omega));rcases hb:T.pre (l.drop j) s with _|_
   ·rw[hb]at ab;have HN:=aA (HO.o j ae hb);clear hb HP HE HH HO;go_wp2_with fail
    refine ab.o.mono ?_;rintro _ w' ⟨rfl,rfl⟩;go_wp2
    go_round
    case rel=>exact⟨j+1,by omega,by go_num,by rw[<-HV.o,HN.o]⟩
    case measure=>simp[intOf];omega
   ·rw[hb]at ab;have HN:=aA (HH.o j ae hb);clear hb HP HE HH HO;have aa:=ad.o;have af:(j:Int)+((K.str s).size:Int)<=20000:=by rw[aa];omega
    have HZ:=aA aa;clear aa ad;generalize K.str s=s2 at *;go_wp2_with fail
    refine ab.o.mono ?_;rintro _ w' ⟨rfl,rfl⟩;go_wp2;go_ret
    exact⟨aP (by rw[<-HV.o,HN.o,HZ.o]),rfl⟩
  ·have HN:=aA (HE.o j (by omega));clear HP HE HH HO;go_wp2;go_ret
   exact⟨aP (by rw[<-HV.o,HN.o]),rfl⟩
theorem T.line_cons (z:Int) (r:List Int) (hb:K.Bytes (z::r)):T.line (z::r)=if z=10 then [] else z::T.line r:=by
 have hp:T.pre (z::r) [10]=decide (z=10):=by
  unfold T.pre Lib.hasPrefix;simp only[Lib.bytesOf,Bp,CU,List.isPrefixOf,Bool.and_true]
  have:=hb.hd
  rw[Bn,Ca,BH]
  constructor
  ·intro h
   have:=congrArg UInt8.toNat h
   simp at this;omega
  ·rintro rfl;rfl
 have hx:=T.ix_cons z r [10];have hg:=T.ix_ge r [10];rw[hp]at hx;unfold T.line;by_cases h:z=10
 ·rw[Ap h];rw[AJ h,Ap rfl]at hx;rw[hx];rfl
 ·rw[AB h];rw[AM h,AB (by simp)]at hx;by_cases h1:T.ix r [10]<0
  ·rw[Ap h1]at hx;rw[AB (by omega),AB (by omega)]
  ·rw[AB h1]at hx;rw[Ap (by omega),Ap (by omega),hx];rw[show(T.ix r [10]+1).toNat=(T.ix r [10]).toNat+1 by omega];rfl
theorem zdr (A:Option Addr) (c B:Nat) (l:List Int) (k:Nat) (w:World) (hr:RdB w B A l) (hl:K.Bytes l) (hn:l.length<=5000) (hk:k<=l.length) :
  Calls Tryz.prog 164 #[.slice A l.length c,.int .i64 k] w fun e w'=>e=.returned (.int .i64 ((k+(T.line (l.drop k)).length:Nat):Int))/\w=w':=by
 go_enter Tryz.func164,Tryz.ntmps164
 go_wp2
 go_loop [1] (fun vi=>∃(j:Nat),j<=l.length/\vi=.int .i64 j/\j+(T.line (l.drop j)).length=k+(T.line (l.drop k)).length) (fun vi=>l.length-(intOf vi).toNat)
 case atStart=>exact⟨k,hk,rfl,rfl⟩
 case round =>
  obtain⟨j,hj,rfl,he⟩:=hrel;have HV:=aA he;clear he;by_cases af:j<l.length
  ·obtain⟨g,o,rfl,_,ad⟩:=hr (by omega);have ae:=ad j (by omega);have ab:=L.cons_drop l j af;have ac:=T.line_cons (l.getD j 0) (l.drop (j+1)) (ab▸hl.drop j);rw[<-ab]at ac;have HL:=aA ac;clear ad hr hl ab ac;generalize l.getD j 0=z at *;by_cases aa:z=10
   ·subst aa;go_wp2;go_ret
    exact⟨aP (by have h:=HV.o;have h2:=HL.o;simp only[if_true]at h2;rw[h2]at h;simp at h;omega),rfl⟩
   ·have ag:(z==10)=false:=by simpa using aa
    have HN:=aA aa;clear aa;go_wp2
    go_round
    case rel=>exact⟨j+1,by omega,by go_num,by rw[<-HV.o,HL.o,AB HN.o];simp;omega⟩
    case measure=>simp[intOf];omega
  ·obtain rfl:j=l.length:=by omega
   clear hr hl;go_wp2;go_ret
   exact⟨aP (by have h:=HV.o;rw[DT,show T.line []=[] from rfl]at h;simp at h;omega),rfl⟩
def T.quoV (q:Int) (l:List Int) (k:Nat):Int:=match T.quoted q (l.drop k) with|none=>-1|some n=>k+n
theorem T.quoted_nil (q:Int):T.quoted q []=none:=by simp[T.quoted]
theorem T.quoV_end (q:Int) (l:List Int) (k:Nat) (h:l.length<=k):T.quoV q l k = -1:=by
 unfold T.quoV;rw[BV h,T.quoted_nil]
theorem T.quoV_here (q:Int) (l:List Int) (k:Nat) (h:k<l.length) (hq:l.getD k 0=q):T.quoV q l k=k+1:=by
 unfold T.quoV;rw[L.cons_drop l k h,hq]
 have:T.quoted q (q::l.drop (k+1))=some 1:=by unfold T.quoted;rw[Ap rfl]
 rw[this];rfl
theorem T.quoV_on (q:Int) (l:List Int) (k:Nat) (h:k<l.length) (hq:¬l.getD k 0=q) (aa:¬l.getD k 0=92):T.quoV q l k=T.quoV q l (k+1):=by
 unfold T.quoV;rw[L.cons_drop l k h]
 have:T.quoted q (l.getD k 0::l.drop (k+1))=(T.quoted q (l.drop (k+1))).map (· + 1):=by
  generalize l.drop (k+1)=r;cases r with
  | nil =>
   rw[T.quoted_nil]
   have h1:T.quoted q [l.getD k 0]=none:=by
    generalize l.getD k 0=z at *;simp[T.quoted,hq,aa]
   rw[h1];rfl
  | cons a b=>rw[T.quoted,AB hq,AB aa]
 rw[this];cases T.quoted q (l.drop (k+1)) with
 | none=>rfl
 | some n=>simp only[DF];omega
theorem T.quoV_two (q:Int) (l:List Int) (k:Nat) (h:k<l.length) (hq:¬l.getD k 0=q) (aa:l.getD k 0=92):T.quoV q l k=T.quoV q l (k+2):=by
 unfold T.quoV;rw[L.cons_drop l k h];by_cases h2:k+1<l.length
 ·rw[L.cons_drop l (k+1) h2]
  have:T.quoted q (l.getD k 0::l.getD (k+1) 0::l.drop (k+1+1))=(T.quoted q (l.drop (k+2))).map (· + 2):=by
   rw[T.quoted,AB hq,Ap aa]
  rw[this];cases T.quoted q (l.drop (k+2)) with
  | none=>rfl
  | some n=>simp only[DF];omega
 ·rw[BV (by omega:l.length<=k+1),BV (by omega:l.length<=k+2),T.quoted_nil]
  have:T.quoted q [l.getD k 0]=none:=by rw[T.quoted,AB hq,Ap aa]
  rw[this]
theorem zed (A:Option Addr) (c B:Nat) (l:List Int) (k:Nat) (w:World) (hr:RdB w B A l) (hn:l.length<=5000) (hk:k<l.length) :
  Calls Tryz.prog 197 #[.slice A l.length c,.int .i64 k] w fun e w'=>e=.returned (.int .i64 (T.quoV (l.getD k 0) l (k+1)))/\w=w':=by
 obtain⟨g,o,rfl,_,ac⟩:=hr (by omega);have aa:=ac k hk;have HE:=aA (T.quoV_end (l.getD k 0) l);have HH:=aA (T.quoV_here (l.getD k 0) l);have HO:=aA (T.quoV_on (l.getD k 0) l);have HT:=aA (T.quoV_two (l.getD k 0) l);have HC:=aA ac;clear ac hr;generalize l.getD k 0=q at *
 go_enter Tryz.func197,Tryz.ntmps197
 go_wp2
 go_loop [1] (fun vi=>∃(j:Nat),j<=l.length+1/\vi=.int .i64 j/\T.quoV q l j=T.quoV q l (k+1)) (fun vi=>l.length+2-(intOf vi).toNat)
 case atStart=>exact⟨k+1,by omega,by go_num,rfl⟩
 case round =>
  clear aa;obtain⟨j,hj,rfl,he⟩:=hrel;have HV:=aA he;clear he;by_cases ab:j<l.length
  ·have ae:=HC.o j ab;by_cases hz:l.getD j 0=q
   ·have HN:=aA (HH.o j ab hz);have af:(l.getD j 0==q)=true:=by simpa using hz
    clear hz HE HH HO HT HC;generalize l.getD j 0=z at *;go_wp2;go_ret
    exact⟨aP (by rw[<-HV.o,HN.o]),rfl⟩
   ·have af:(l.getD j 0==q)=false:=by simpa using hz
    by_cases b:l.getD j 0=92
    ·have HN:=aA (HT.o j ab hz b);have ad:(l.getD j 0==92)=true:=by simpa using b
     clear hz b HE HH HO HT HC;generalize l.getD j 0=z at *;go_wp2
     go_round
     case rel=>exact⟨j+2,by omega,by go_num,by rw[<-HV.o,HN.o]⟩
     case measure=>simp[intOf];omega
    ·have HN:=aA (HO.o j ab hz b);have ad:(l.getD j 0==92)=false:=by simpa using b
     clear hz b HE HH HO HT HC;generalize l.getD j 0=z at *;go_wp2
     go_round
     case rel=>exact⟨j+1,by omega,by go_num,by rw[<-HV.o,HN.o]⟩
     case measure=>simp[intOf];omega
  ·have HN:=aA (HE.o j (by omega));clear HE HH HO HT HC;go_wp2;go_ret
   exact⟨aP (by rw[<-HV.o,HN.o]),rfl⟩
theorem T.act_quo {o:Int} (h:T.act f (z::r) o=some m) (hz:z=39\/z=34):∃f' q m',T.quoted z r=some q/\T.act f' (r.drop q) o=some m'/\m=m'+(q+1):=by
 cases f with
 | zero=>simp[T.act]at h
 | succ f =>
  rw[T.act]at h;rw[Ap hz]at h;split at h
  ·cases h
  ·rename_i q hq
   rw[CT]at h;obtain⟨m',h1,h2⟩:=h;exact⟨f,q,m',hq,h1,h2.symm⟩
theorem T.act_on {o:Int} (h:T.act f (z::r) o=some m) (hz:¬(z=39\/z=34)) (ho:0<T.ostep z o):∃f' m',T.act f' r (T.ostep z o)=some m'/\m=m'+1:=by
 cases f with
 | zero=>simp[T.act]at h
 | succ f =>
  rw[T.act]at h;rw[AB hz,Ap ho,CT]at h;obtain⟨m',h1,h2⟩:=h;exact⟨f,m',h1,h2.symm⟩
theorem T.act_end {o:Int} (h:T.act f (z::r) o=some m) (hz:¬(z=39\/z=34)) (ho:¬0<T.ostep z o):m=1:=by
 cases f with
 | zero=>simp[T.act]at h
 | succ f =>
  rw[T.act]at h;rw[AB hz,AB ho]at h;exact(DE h).symm
theorem T.act_nil {o:Int} (h:T.act f [] o=some m):False:=by
 cases f with
 | zero=>simp[T.act]at h
 | succ f=>rw[T.act]at h;cases h
theorem zeg (A:Option Addr) (c B:Nat) (l:List Int) (k n f0:Nat) (w:World) (hr:RdB w B A l) (hn:l.length<=5000) (hk:k<l.length) (hz:l.getD k 0=123) (ha:T.act f0 (l.drop k) 0=some n) :
  Calls Tryz.prog 165 #[.slice A l.length c,.int .i64 k] w fun e w'=>e=.returned (.int .i64 ((k+n:Nat):Int))/\w=w':=by
 have HQ:=aA (fun(j:Nat) (h:j<l.length)=>zed A c B l j w hr hn h);have HA:=aA ha;have HZ:=aA hz;clear ha hz
 go_enter Tryz.func165,Tryz.ntmps165
 go_wp2
 go_loop [1,5] (fun vi vo=>∃(j f m:Nat) (o:Int),j<=l.length/\vi=.int .i64 j/\vo=.int .i64 o/\0<=o/\o+k<=j/\T.act f (l.drop j) o=some m/\j+m=k+n/\(o=0->l.getD j 0=123)) (fun vi _=>l.length-(intOf vi).toNat)
 case atStart=>exact⟨k,f0,n,0,by omega,rfl,rfl,by omega,by omega,HA.o,rfl,fun _=>HZ.o⟩
 case round =>
  clear HA HZ;obtain⟨j,f,m,o,hj,rfl,rfl,ho,ak,d,hm,b⟩:=hrel;have HM:=aA hm;clear hm;by_cases aa:j<l.length
  ·obtain⟨g,o',rfl,_,ad⟩:=hr (by omega);have ae:=ad j aa;have ab:=aA (HQ.o j aa);rw[L.cons_drop l j aa]at d;have i:=aA d;clear d HQ ad hr;have HD:Hid (∀q,(l.drop (j+1)).drop q=l.drop (j+1+q)):=aA (fun q=>by rw[Dx]);by_cases hq:l.getD j 0=39\/l.getD j 0=34
   ·obtain⟨f',q,m',h1,h2,h3⟩:=T.act_quo i.o hq;have ag:=T.quoted_le _ _ _ h1;rw[Bl]at ag;have hv:T.quoV (l.getD j 0) l (j+1)=((j+1+q:Nat):Int):=by unfold T.quoV;rw[h1];simp only;omega
    rw[hv]at ab;rw[HD.o]at h2;have H2:=aA h2;have H3:=aA h3;have r:¬o=0:=fun e=>by have:=b e;omega
    have ac:(o==0)=false:=by simpa using r
    clear h1 h2 h3 hv i b
    have ah:(l.getD j 0==123)=false/\(l.getD j 0==125)=false:=by
     rcases hq with e|e <;> rw[e] <;> exact⟨rfl,rfl⟩
    obtain⟨q1,q2⟩:=ah;have ai:0<=((j+1+q:Nat):Int):=by omega
    have al:j+1+q<=l.length:=by omega
    rcases hq with hq|hq
    focus
     have q3:(l.getD j 0==39)=true:=by rw[hq];rfl
    rotate_left
    focus
     have q3:(l.getD j 0==39)=false:=by rw[hq];rfl
     have q4:(l.getD j 0==34)=true:=by rw[hq];rfl
    all_goals
     clear hq;generalize l.getD j 0=z at *;generalize hx:j+1+q=x at *;have HX:=aA hx;clear hx;go_wp2_with fail
     refine ab.o.mono ?_;rintro _ w' ⟨rfl,rfl⟩;go_wp2
     go_round
     case rel=>exact⟨x,f',m',o,by omega,rfl,rfl,ho,by have:=HX.o;omega,H2.o,by have:=H3.o;have:=HM.o;have:=HX.o;omega,fun e=>absurd e r⟩
     case measure=>have:=HX.o;simp[intOf];omega
   ·have q3:(l.getD j 0==39)=false:=by simpa using fun e=>hq (.inl e)
    have q4:(l.getD j 0==34)=false:=by simpa using fun e=>hq (.inr e)
    have p:=aA (T.act_on i.o hq);have s:=aA (T.act_end i.o hq);clear i hq ab HD;by_cases h1:l.getD j 0=123
    ·have q1:(l.getD j 0==123)=true:=by rw[h1];rfl
     have hs:T.ostep (l.getD j 0) o=o+1:=by unfold T.ostep;rw[Ap h1]
     obtain⟨f',m',h2,h3⟩:=p.o (by rw[hs];omega);rw[hs]at h2;have H2:=aA h2;have H3:=aA h3;clear p s h1 hs h2 h3 b;have ac:(o+1==0)=false:=by rw[AY];omega
     generalize l.getD j 0=z at *;go_wp2
     go_round
     case rel=>exact⟨j+1,f',m',o+1,by omega,by go_num,by go_num,by omega,by omega,H2.o,by have:=H3.o;have:=HM.o;omega,fun e=>by omega⟩
     case measure=>simp[intOf];omega
    ·have q1:(l.getD j 0==123)=false:=by simpa using h1
     have r:¬o=0:=fun e=>h1 (b e);by_cases h5:l.getD j 0=125
     ·have q2:(l.getD j 0==125)=true:=by rw[h5];rfl
      have hs:T.ostep (l.getD j 0) o=o-1:=by unfold T.ostep;rw[AB h1,Ap h5]
      by_cases h0:0<o-1
      ·obtain⟨f',m',h2,h3⟩:=p.o (by rw[hs];omega);rw[hs]at h2;have H2:=aA h2;have H3:=aA h3;clear p s h1 h5 hs h2 h3 b;have ac:(o-1==0)=false:=by rw[AY];omega
       generalize l.getD j 0=z at *;go_wp2
       go_round
       case rel=>exact⟨j+1,f',m',o-1,by omega,by go_num,by go_num,by omega,by omega,H2.o,by have:=H3.o;have:=HM.o;omega,fun e=>by omega⟩
       case measure=>simp[intOf];omega
      ·have af:=s.o (by rw[hs];omega);have H3:=aA af;have aj:o=1:=by omega
       subst aj;clear p s h1 h5 hs af b h0 r;generalize l.getD j 0=z at *;go_wp2;go_ret
       exact⟨aP (by have:=HM.o;have:=H3.o;omega),rfl⟩
     ·have q2:(l.getD j 0==125)=false:=by simpa using h5
      have hs:T.ostep (l.getD j 0) o=o:=by unfold T.ostep;rw[AB h1,AB h5]
      obtain⟨f',m',h2,h3⟩:=p.o (by rw[hs];omega);rw[hs]at h2;have H2:=aA h2;have H3:=aA h3;clear p s h1 h5 hs h2 h3 b;have ac:(o==0)=false:=by simpa using r
      generalize l.getD j 0=z at *;go_wp2
      go_round
      case rel=>exact⟨j+1,f',m',o,by omega,by go_num,rfl,by omega,by omega,H2.o,by have:=H3.o;have:=HM.o;omega,fun e=>absurd e r⟩
      case measure=>simp[intOf];omega
  ·exfalso
   rw[BV (by omega)]at d;exact T.act_nil d
theorem bI.at {L:List Int} {w:World} {base:Nat} {v:Value} {ds:List Y.Dcl} (h:bI L w base v ds) (i:Nat) (hi:i<ds.length):∃D c A c',v=.slice (some ⟨D,0,none⟩) ds.length c/\w.cell? ⟨D,i*2,none⟩=some (.int .i64 ds[i].k)/\w.cell? ⟨D,i*2+1,none⟩=some (.slice A ds[i].ns.length c')/\RdR L w base A ds[i].ns:=by
 obtain⟨qs,rfl,h2,h3⟩:=h;have aa:i<qs.length:=by simpa using hi
 rcases h2.2 with⟨_,h0⟩|⟨g,cap,cur,rfl,_⟩
 ·omega
 ·refine⟨g,cap,qs[i].2.1,qs[i].2.2,rfl,?_,?_,?_⟩
  ·have:=Cw h2 (g:=g) rfl (i*2+0) _ (by rw[zhY qs i 0 aa (by omega)];rfl)
   rw[zd1,Bu]at this
   simpa using this
  ·have:=Cw h2 (g:=g) rfl (i*2+1) _ (by rw[zhY qs i 1 aa (by omega)];rfl)
   rw[zd1,Bu]at this
   simpa using this
  ·have:=h3 qs[i] (Ay aa)
   simpa using this
theorem bH.at {L:List Int} {w:World} {base:Nat} {v:Value} {ps:List Y.Prd} (h:bH L w base v ps) (i:Nat) (hi:i<ps.length):∃D c A c',v=.slice (some ⟨D,0,none⟩) ps.length c/\(∀j u,j<5->(aU L ps[i] A c')[j]?=some u->w.cell? ⟨D,i*5+j,none⟩=some u)/\RdR L w base A ps[i].r:=by
 obtain⟨qs,rfl,h2,h3⟩:=h;have aa:i<qs.length:=by simpa using hi
 rcases h2.2 with⟨_,h0⟩|⟨g,cap,cur,rfl,_⟩
 ·omega
 ·refine⟨g,cap,qs[i].2.1,qs[i].2.2,rfl,fun j u hj hu=>?_,?_⟩
  ·have:=Cw h2 (g:=g) rfl (i*5+j) u (by rw[zkv L qs i j aa hj];simpa using hu)
   rw[zd1,Bu]at this;exact this
  ·have:=h3 qs[i] (Ay aa)
   simpa using this
namespace Y
end Y
theorem bO.base_le {L:List Int} {xs:List Tok} (h:bO L w base v xs) (hb:base'<=base):bO L w base' v xs:=by
 refine⟨h.1,?_⟩;rcases h.2 with h0|⟨g,cap,cur,e,aa,hr⟩
 ·exact .inl h0
 ·exact .inr ⟨g,cap,cur,e,by omega,hr⟩
def tmC (t:Gm.Tm):List Value:=[.string (K.str t.nm),.int .i64 t.lv,.int .i64 t.wy]
def zd8 (ts:List Gm.Tm):List Value:=ts.flatMap tmC
def zlm (ns:List (List Int)):List Value:=ns.map fun s=>.string (K.str s)
abbrev RA:=Gm.Rl×Option Addr×Nat
def rlC (q:RA):List Value:=[.int .i64 q.1.l,.slice q.2.1 q.1.r.length q.2.2,.int .i64 q.1.p]
def zm3 (qs:List RA):List Value:=qs.flatMap rlC
theorem zbj {α:Type} (f:α->List Value) (hf:∀x,(f x).length=3) (xs:List α) (i j:Nat) (hi:i<xs.length) (hj:j<3):(xs.flatMap f)[i*3+j]?=(f xs[i])[j]?:=by
 induction xs generalizing i with
 | nil=>simp at hi
 | cons x r ih =>
  rw[BD];have hl:=hf x;cases i with
  | zero=>rw[Bw (by omega)];simp
  | succ i =>
   rw[Cg (by omega),hl,show(i+1)*3+j-3=i*3+j by omega]
   simpa using ih i (by simpa using hi)
theorem zdh {α:Type} (f:α->List Value) (hf:∀x,(f x).length=3) (xs:List α):(xs.flatMap f).length=xs.length*3:=by
 induction xs with
 | nil=>rfl
 | cons x r ih=>rw[BD,AU,ih,hf,Bt];omega
def aX (w:World) (base:Nat) (v:Value) (ts:List Gm.Tm):Prop:=w.ownsRow base 85 3 v ts.length (zd8 ts)
def bJ (w:World) (base:Nat) (v:Value) (ns:List (List Int)):Prop:=w.ownsRow base 9 1 v ns.length (zlm ns)
def zgj (w:World) (base N:Nat) (A:Option Addr) (zs:List Int):Prop :=
 zs.length≠0->∃(g:Nat) (cur:Array Value),A=some ⟨g,0,none⟩/\base<=g/\g<N/\w.heap[g]?=some (.cells cur 3 (0,0))/\∀j (h:j<zs.length),cur[j]?=some (.int .i64 zs[j])
def bB (w:World) (base N:Nat) (v:Value) (rs:List Gm.Rl):Prop :=
 ∃qs:List RA,qs.map (·.1)=rs/\w.ownsRow base 74 3 v rs.length (zm3 qs)/\(∀k,v.ownBlock=some k->k<N)/\∀q∈qs,q.1.r.length<=q.2.2/\q.2.2<=9223372036854775807/\zgj w base N q.2.1 q.1.r
theorem aX.nil (w:World) (base:Nat):aX w base (.slice none 0 0) []:=CR w base _ _
theorem bJ.nil (w:World) (base:Nat):bJ w base (.slice none 0 0) []:=CR w base _ _
theorem bB.nil (w:World) (base N:Nat):bB w base N (.slice none 0 0) []:=⟨[],rfl,CR w base _ _,(by intro k h;cases h),(by intro q h;cases h)⟩
theorem aL {e:TypeId} {size:Nat} (h:w.ownsRow base e size v n xs):∃A c,v=.slice A n c/\n<=c/\c<=maxLen:=by
 rcases h.2 with⟨rfl,h0⟩|⟨g,cap,cur,rfl,hb,hg,hn,hm,hs,ht⟩
 ·exact⟨none,0,by rw[h0],by omega,by unfold maxLen;omega⟩
 ·exact⟨_,cap,rfl,hn,hm⟩
theorem zdC {e:TypeId} {size:Nat} (h:w.ownsRow base e size v n xs):∃A m c,v=.slice A m c:=by
 obtain⟨A,c,rfl,_⟩:=aL h;exact⟨A,n,c,rfl⟩
theorem aN {e:TypeId} {size:Nat} (h:w.ownsRow base e size v n xs) {o:Obj} (hg:w.heap[g]?=some o) (ho:∀cur,o ≠ .cells cur e (0,0)):v.ownBlock=none\/v.ownBlock≠some g:=by
 rcases h.2 with⟨rfl,_⟩|⟨g',cap,cur,rfl,_,aa,_⟩
 ·exact .inl rfl
 ·refine .inr fun e1=>?_;injection e1 with e1;have e1:g'=g:=e1;subst e1;rw[hg]at aa;injection aa with aa;exact ho _ aa
theorem zac {e:TypeId} {size:Nat} (h:w.ownsRow base e size v n xs) (hk:v.ownBlock=some k):base<=k/\∃cur,w.heap[k]?=some (.cells cur e (0,0)):=by
 rcases h.2 with⟨rfl,_⟩|⟨g',cap,cur,rfl,hb,aa,_⟩
 ·cases hk
 ·injection hk with hk;have hk:g'=k:=hk;subst hk;exact⟨hb,cur,aa⟩
theorem zgj.grown {row:Option Nat} (h:zgj w base N A zs) (hg:w.grownBy w' row) (hr:∀g,row=some g->(∀cur,w.heap[g]? ≠ some (.cells cur 3 (0,0)))\/N<=g):zgj w' base N A zs:=fun hn=>by
 obtain⟨g,cur,e,hb,hN,hh,hc⟩:=h hn;refine⟨g,cur,e,hb,hN,(hg.block g (Ac.1 hh).1 (fun e=>?_)).trans hh,hc⟩;rcases hr g e.symm with q|q
 ·exact q _ hh
 ·omega
theorem zgj.more (h:zgj w base N A zs) (hN:N<=N'):zgj w base N' A zs:=fun hn=>by
 obtain⟨g,cur,e,hb,h1,hh⟩:=h hn;exact⟨g,cur,e,hb,by omega,hh⟩
theorem bB.grown {w w':World} {base N:Nat} {v:Value} {rs:List Gm.Rl} {row:Option Nat} (h:bB w base N v rs) (hg:w.grownBy w' row) (hr:∀g,row=some g->((∀cur,w.heap[g]? ≠ some (.cells cur 3 (0,0)))/\(∀cur,w.heap[g]? ≠ some (.cells cur 74 (0,0))))\/N<=g):bB w' base N v rs:=by
 obtain⟨qs,h1,h2,h3,h4⟩:=h;refine⟨qs,h1,h2.kept hg ?_,h3,fun q hq=>⟨(h4 q hq).1,(h4 q hq).2.1,(h4 q hq).2.2.grown hg fun g e=>?_⟩⟩
 ·rcases hv:v.ownBlock with _|k
  ·exact .inl rfl
  ·refine .inr fun e=>?_;rcases hr k e.symm with q|q
   ·obtain⟨_,cur,hc⟩:=zac h2 hv;exact q.2 _ hc
   ·have:=h3 k hv;omega
 ·rcases hr g e with q|q
  ·exact .inl q.1
  ·exact .inr q
theorem bB.more {w:World} {base N N':Nat} {v:Value} {rs:List Gm.Rl} (h:bB w base N v rs) (hN:N<=N'):bB w base N' v rs:=by
 obtain⟨qs,h1,h2,h3,h4⟩:=h;exact⟨qs,h1,h2,fun k hk=>by have:=h3 k hk;omega,fun q hq=>⟨(h4 q hq).1,(h4 q hq).2.1,(h4 q hq).2.2.more hN⟩⟩
structure St where
 s:Gm.S1
 ns:List (List Int)
 rs:List Gm.Rl
 z:Int
def soS:Option Tok->ByteArray|none=>⟨#[]⟩|some x=>K.str x.t
def soX (L:List Int):Option Tok->Nat|none=>0|some x=>Fl.fl (Pl.pos (L.take x.o)).1
def soY (L:List Int):Option Tok->Nat|none=>0|some x=>Fl.fl (Pl.pos (L.take x.o)).2
theorem aO {T T':TypeId} (h:w.heap[g]?=some (.cells cs T (0,0))) (hT:T≠T') (cur:Array Value):w.heap[g]? ≠ some (.cells cur T' (0,0)):=by
 rw[h];intro e;injection e with e;injection e with _ e;exact hT e
theorem zax (v:Value):v.ownBlock=none\/v.ownBlock≠(none:Option Nat):=by
 rcases v.ownBlock with _|k
 ·exact .inl rfl
 ·exact .inr (by simp)
section
variable {w w':World} {B N R:Nat} {cs:Array Value} {vT vN vR:Value} {ts:List Gm.Tm} {ns:List (List Int)} {rs:List Gm.Rl} {Ms Mt:Nat} {ml tl:List (List Int×Value)} {row:Option Nat}
theorem zav {e e':TypeId} {size size' n':Nat} {ys:List Value} (h:w.ownsRow base e size v n xs) (k:w.ownsRow base' e' size' u n' ys) (he:e≠e'):v.ownBlock=none\/v.ownBlock≠u.ownBlock:=by
 rcases hu:u.ownBlock with _|g
 ·exact zax _
 ·obtain⟨_,cur,hc⟩:=zac k hu;exact aN h hc (fun cur' q=>by injection q with _ q;exact he q.symm)
theorem zak {e T:TypeId} {size:Nat} {ys:List Value} (hb:w.heap[g]?=some (.cells cs T (0,0))) (k:w.ownsRow base e size u n ys) (he:T≠e) (hg:w.grownBy w' u.ownBlock):w'.heap[g]?=some (.cells cs T (0,0)):=by
 refine(hg.block g (Ac.1 hb).1 (fun q=>?_)).trans hb;obtain⟨_,cur,hc⟩:=zac k q.symm;exact aO hb he _ hc
end
theorem zjM:(Tryz.prog.info? 85).map (fun i=>(i.zero,i.size,i.bytes))=some (some (.agg #[.string ⟨#[]⟩,.int .i64 0,.int .i64 0]),3,32):=by kernel_rfl
theorem zjN:(Tryz.prog.info? 9).map (fun i=>(i.zero,i.size,i.bytes))=some (some (.string ⟨#[]⟩),1,16):=by kernel_rfl
theorem zmo:(Tryz.prog.info? 74).map (fun i=>(i.zero,i.size,i.bytes))=some (some (.agg #[.int .i64 0,.slice none 0 0,.int .i64 0]),3,40):=by kernel_rfl
theorem zah (w:World) (l:List Value) (T:TypeId) (j:Nat):(w.alloc (.cells l.toArray T)).cell? ⟨w.heap.size,j,none⟩=l[j]?:=by
 rw[Aw _ _ j _ _ _ (Az w _)];simp
section
variable {w w':World} {B N R:Nat} {cs:Array Value} {vT vN vR:Value} {ts:List Gm.Tm} {ns:List (List Int)} {rs:List Gm.Rl} {Ms Mt:Nat} {ml tl:List (List Int×Value)}
end
end Go.Proofs.YtjjbaehamplnaaaGreat
namespace Go.Proofs.YtjjbaehamplnaaaGreat
open Go.RowKit
theorem Y.is_two (a:Int) (ts:List Tok):Y.is [a,a] ts=Y.is [a] ts:=by
 cases ts with
 | nil=>rfl
 | cons t r =>
  show [a,a].contains t.k=[a].contains t.k
  rw[Bn];simp
theorem Rd8.row {L:List Int} {R:Nat} {ts:List Tok} (h:Rd8 L B R px py w ts) (hg:w.grownBy w' .none):Rd8 L B R px py w' ts:=h.grown hg (fun _ e=>by cases e)
theorem Rd8.drew {L:List Int} {R:Nat} {ts:List Tok} (h:Rd8 L B R px py w ts):Rd8 L B R px py w.drew ts:=h
theorem Rd8.len {L:List Int} {R:Nat} {ts:List Tok} (h:Rd8 L B R px py w ts):ts.length<=4000:=by obtain⟨_,_,_,_,h,_⟩:=h;exact h
theorem zct (L:List Int) (B R px py:Nat) (ts:List Tok) (a b:Int) (w:World) (hr:Rd8 L B R px py w ts) (t:Tok) (r:List Tok) (hk:Y.take [a,b] ts=.ok t r) :
  Calls Tryz.prog 125 #[.pointer (some ⟨R,0,none⟩),.int .i64 a,.int .i64 b] w fun e w'=>e=.returned (bW L t)/\w.grownBy w' (some R)/\Rd8 L B R px py w' r:=by
 obtain⟨rfl,h⟩:=Y.take_ok hk;exact zd9 L B R px py t r a b w hr h
theorem zbJ (a:Int) (ts:List Tok):Y.take [a,a] ts=Y.take [a] ts:=by
 cases ts with
 | nil=>rfl
 | cons t r =>
  have h:([a,a]:List Int).contains t.k=[a].contains t.k:=Y.is_two a (t::r);rw[Y.take_cons,Y.take_cons,h]
def zmb (L:List Int) (t:Tok):Obj:=.cells #[.string (K.str t.t),.complex .f64 (Fl.fl (Pl.pos (L.take t.o)).1) (Fl.fl (Pl.pos (L.take t.o)).2)] 153 (0,0)
theorem zau {e:TypeId} {size:Nat} (h:w.ownsRow base e size v n xs) {R:Nat} (hR:R<base):v.ownBlock=none\/v.ownBlock≠some R:=by
 rcases hv:v.ownBlock with _|k
 ·exact .inl rfl
 ·have:=(Bs h k hv).1
  exact .inr (fun e=>by injection e with e;omega)
theorem bH.alloc5 {L:List Int} {ps:List Y.Prd} (h:bH L w base v ps) (o:Obj):bH L (w.alloc o) base v ps:=h.grown (aG (AI _ _) o) (zj5.none _ _)
theorem zfH {L:List Int} {c:Nat} {left pt:Tok} {rs:List Tok} (h:w.heap[g]?=some (.cells (aU L ⟨left,rs,none⟩ A c).toArray 161 (0,0))) (u3 u4:Value) (h3:u3=.string (K.str pt.t)) (h4:u4=.complex .f64 (Fl.fl (Pl.pos (L.take pt.o)).1) (Fl.fl (Pl.pos (L.take pt.o)).2)) :
  ((w.setCell ⟨g,3,none⟩ u3).setCell ⟨g,4,none⟩ u4).heap[g]?=some (.cells (aU L ⟨left,rs,some pt⟩ A c).toArray 161 (0,0)):=by
 subst h3 h4;have h3:=AP w g 3 _ _ (.string (K.str pt.t)) h;rw[AP _ g 4 _ _ _ h3];rfl
theorem zeQ {size:Nat} (h:w.heap[g]?=some (.cells cs 153 (0,0))) (o:Obj) (ho:(w.alloc o).ownsRow base 161 size v n xs) (hg:(w.alloc o).grownBy w' v.ownBlock):w'.heap[g]?=some (.cells cs 153 (0,0)):=by
 have h1:(w.alloc o).heap[g]?=some (.cells cs 153 (0,0)):=(((Aq _ w).alloc (Ad _) o).block g (Ac.1 h).1).trans h;exact zg4 h1 hg (zat ho (by decide))
theorem zjS (L:List Int) (B R px py:Nat) (ts:List Tok) (ps:List Y.Prd) (r:List Tok) (w:World) (hr:Rd8 L B R px py w ts) (hy:Y.group [] ts=.ok ps r) :
  Calls Tryz.prog 126 #[.pointer (some ⟨R,0,none⟩)] w fun e w'=>w.grownBy w' (some R)/\∃v,e=.returned v/\bH L w' w.heap.size v ps/\Rd8 L B R px py w' r:=by
 have HR:=aA hr;have ac:=hr.lt;have cr:=aA hr.len;unfold Y.group at hy;obtain⟨left,m,h1,hy⟩:=Y.bind_eq_ok hy;obtain⟨t10,m2,h2,hy⟩:=Y.bind_eq_ok hy;have a5:=aA (zct L B R px py ts 1 1 w hr left m ((zbJ 1 ts).trans h1));have a6:=aA (fun(x:World) (h:Rd8 L B R px py x m)=>zct L B R px py m 10 10 x h t10 m2 ((zbJ 10 m).trans h2));have HY:=aA hy;have SC:=fun a w m X Y=>show(store a (.complex .f64 X Y) m).run Tryz.prog w=stored Tryz.prog w a (.complex .f64 X Y) m from run_store _ w a _ m rfl;clear hr h1 h2 hy;unfold bW at a5 a6
 go_enter Tryz.func126,Tryz.ntmps126
 go_wp2_with fail
 refine a5.o.mono ?_;rintro _ w2 ⟨rfl,a9,bs⟩;have bu:=aA a9;have bv:=aA (bs.alloc (.cells #[.string (K.str left.t),.complex .f64 (Fl.fl (Pl.pos (L.take left.o)).1) (Fl.fl (Pl.pos (L.take left.o)).2)] 153));have cs:=a9.size;clear a9 bs;go_wp2_with fail
 refine(a6.o _ bv.o).mono ?_;rintro _ w3 ⟨rfl,ay,bw⟩;have bx:=aA ((aG bu.o (.cells #[.string (K.str left.t),.complex .f64 (Fl.fl (Pl.pos (L.take left.o)).1) (Fl.fl (Pl.pos (L.take left.o)).2)] 153)).trans ay);have ba:=aA bw;have bz:Hid (w3.heap[w2.heap.size]?=some (zmb L left)):=aA (zcM ay (by omega));have cu:w2.heap.size+1<=w3.heap.size:=by have:=ay.size;simpa using this
 clear ay bw;go_wp2_with fail
 go_loopw [3] (fun v wr=>∃(acc:List Y.Prd) (rest:List Tok) (f:Nat),Hid (Y.alts f left acc rest=.ok ps r)/\rest.length<f/\bH L wr w.heap.size v acc/\Rd8 L B R px py wr rest/\w.grownBy wr (some R)/\wr.heap[w2.heap.size]?=some (zmb L left)/\acc.length+rest.length<=4000) (fun v _=>4001-zdl v)
 case atStart=>exact⟨[],m2,m2.length+1,HY,by omega,bH.nil _ _ _,ba.o,bx.o,bz.o,by have:=ba.o.len;simpa using this⟩
 case round =>
  clear a5 a6 bv bu ba bz bx HR HY;obtain⟨acc,rest,f,HY,hf,ho,hr,hg,hb,hl⟩:=hrel;have HO:=aA ho;have HR:=aA hr;have HG:=aA hg;have HB:=aA hb;obtain⟨Aa,ca,rfl,_,_⟩:=ho.form;obtain⟨f,rfl⟩:∃f',f=f'+1:=⟨f-1,by omega⟩
  have hY:=HY.o;rw[Y.alts]at hY;obtain⟨p,m3,hp,hY⟩:=Y.bind_eq_ok hY;obtain⟨t,m4,ht,hY⟩:=Y.bind_eq_ok hY;obtain⟨Ax,cx,cv,cw,_⟩:=hr.cell0;have HP:=aA hp;have HT:=aA ht;have az:=aA hY;clear ho hr hg hb hp ht hY;go_upto_region 5 with fail
  go_cut [5] (fun s5 wx=>∃g A c,s5=.pointer (some ⟨g,0,none⟩)/\wr.heap.size<=g/\wx.heap[g]?=some (.cells (aU L ⟨left,rest.takeWhile Y.isRef,none⟩ A c).toArray 161 (0,0))/\RdR L wx w.heap.size A (rest.takeWhile Y.isRef)/\Rd8 L B R px py wx (rest.dropWhile Y.isRef)/\wr.grownBy wx (some R))
  case first =>
   have bD:w2.heap.size≠R:=by omega
   have CL0:=fun y:Calm.OnR R wr=>aM (zag y.2 HB.o bD);have CL1:=fun y:Calm.OnR R wr=>aR (zag y.2 HB.o bD);have bM:wr.grownBy wr.drew (some R):=zad wr _;have ah:R<wr.heap.size:=HR.o.lt;have ce:w.heap.size<=wr.heap.size:=HG.o.size;refine Calm.region_tree (fun x=>∃y:Calm.OnR R wr,x=y.1) (.two [0,1] 2 (.one [3] 4 (.one [] 5 (.fin []))) 4 (.one [] 2 (.one [3] 5 (.fin [])))) (by kernel_rfl) (by kernel_rfl) (fun _ _ d _ _ h=>by cases d <;> exact h) ⟨⟨wr.drew,bM⟩,rfl⟩ ?_;simp only[Calm.wpT,Calm.wpSt,Calm.pickOps,Am,Af,Ah];repeat (go_big_quiet_step (fail))
   refine Aj ?_;have O:=aA (fun(x:World) (hx:Rd8 L B R px py x rest)=>zlK L B R px py rest x hx);refine⟨?_,?_⟩
   ·intro KK J;rw[Ap (by rfl)];go_wp2_with fail
    refine(O.o _ HR.o.drew).mono ?_;rintro _ w4 ⟨U,v,rfl,ho,ai⟩;obtain⟨A,c,rfl,bb,bc,aj⟩:=ho.rd;have hg:wr.grownBy w4 (some R):=bM.trans U;clear ho U bb bc;go_wp2_with fail
    refine J _ _ ⟨⟨w4,hg⟩,rfl⟩ _ (fun _ h=>h) ⟨⟨w4,hg⟩,rfl⟩ ?_;repeat (go_big_quiet_step (fail))
    refine Aj ?_;intro KK J;rw[Ap (by rfl)];go_wp2_with fail
    refine J _ _ ⟨⟨_,aG hg _⟩,rfl⟩ _ (fun _ h=>h) ⟨⟨_,aG hg _⟩,rfl⟩ ?_;repeat (go_big_quiet_step (fail))
    refine Aj ?_;intro KK J;try rw[Ap (by rfl)]
    go_wp2_with fail
    refine J _ _ ⟨⟨_,aG hg _⟩,rfl⟩ _ (fun _ h=>h) ⟨⟨_,aG hg _⟩,rfl⟩ ?_;refine Aj ?_;go_wp2_with fail
    go_meet
    case rel =>
     refine⟨w4.heap.size,A,c,rfl,hg.size,Az _ _,(aj.less ce).grown (aG (AI _ _) _) (a8.none _),ai.alloc _,aG hg _⟩
   ·intro KK J;rw[Ap (by rfl)];go_wp2_with fail
    obtain⟨w4,a0⟩:∃x,x=(wr.alloc (.cells #[.string ⟨#[]⟩,.complex .f64 0 0,.slice none 0 0,.string ⟨#[]⟩,.complex .f64 0 0] 161)).drew:=⟨_,rfl⟩
    rw[<-a0];have U:wr.grownBy w4 .none:=by rw[a0];exact(aG (AI _ _) _).trans (zad _ _)
    have cf:w4.heap[wr.heap.size]?=some (.cells #[.string ⟨#[]⟩,.complex .f64 0 0,.slice none 0 0,.string ⟨#[]⟩,.complex .f64 0 0] 161 (0,0)):=by rw[a0];exact Az wr _
    have cg:=HR.o.row U;clear a0;refine J _ _ ⟨⟨w4,U.row _⟩,rfl⟩ _ (fun _ h=>h) ⟨⟨w4,U.row _⟩,rfl⟩ ?_;refine Aj ?_;intro KK J;try rw[Ap (by rfl)]
    go_wp2_with fail
    refine(O.o _ cg).mono ?_;rintro _ w5 ⟨ap,v,rfl,ho,ai⟩;obtain⟨A,c,rfl,bb,bc,aj⟩:=ho.rd;have hg:wr.grownBy w5 (some R):=(U.row _).trans ap;have I:=zag ap cf (by omega);clear ho bb bc;go_wp2_with fail
    refine J _ _ ⟨⟨w5,hg⟩,rfl⟩ _ (fun _ h=>h) ⟨⟨w5,hg⟩,rfl⟩ ?_;repeat (go_big_quiet_step (fail))
    refine Aj ?_;intro KK J;try rw[Ap (by rfl)]
    have c0:=Aw w5 _ 0 _ _ _ I;have c1:=Aw w5 _ 1 _ _ _ I;have c2:=Aw w5 _ 2 _ _ _ I;have c3:=Aw w5 _ 3 _ _ _ I;have c4:=Aw w5 _ 4 _ _ _ I;have f0:=AD w5 _ 0 _ _ I;have f1:=AD w5 _ 1 _ _ I;have f2:=AD w5 _ 2 _ _ I;have f3:=AD w5 _ 3 _ _ I;have f4:=AD w5 _ 4 _ _ I;go_wp2_with fail
    have bd:=aA (fun u0 u1 u2 u3 u4=>zaU (zaU (zaU (zaU (zaU hg wr.heap.size 0 u0 (Ad _)) wr.heap.size 1 u1 (Ad _)) wr.heap.size 2 u2 (Ad _)) wr.heap.size 3 u3 (Ad _)) wr.heap.size 4 u4 (Ad _));refine J _ _ ⟨⟨_,bd.o _ _ _ _ _⟩,rfl⟩ _ (fun _ h=>h) ⟨⟨_,bd.o _ _ _ _ _⟩,rfl⟩ ?_;refine Aj ?_;go_wp2_with fail
    go_meet
    case rel =>
     refine⟨wr.heap.size,A,c,rfl,Ad _,zly I _ _ _ _ _,(aj.less (by have:=U.size;omega)).grown (aF (aF (aF (aF (aF (AI _ _) _ _) _ _) _ _) _ _) _ _) (zbK I (by decide)),((((ai.far _ _ _ ah).far _ _ _ ah).far _ _ _ ah).far _ _ _ ah).far _ _ _ ah,bd.o _ _ _ _ _⟩
  case rest =>
   obtain⟨g,A,c,rfl,ch,bT,aj,ai,V⟩:=hcut;have a1:=aA bT;have a2:=aA aj;have a3:=aA ai;have bX:=aA V;have ah:R<wr.heap.size:=HR.o.lt;have ci:Hid (g≠R):=aA (by omega);have bZ:Hid (R<g):=aA (by omega);have b0:Hid (wr.heap.size<=g):=aA ch;have cj:Hid ((Value.slice Aa acc.length ca).ownBlock=none\/(Value.slice Aa acc.length ca).ownBlock≠some R):=aA (by obtain⟨zs,aa⟩:=HO.o.own;exact zau aa ac);have b1:Hid (Y.rule left rest=Y.rule2 left (rest.takeWhile Y.isRef) (rest.dropWhile Y.isRef)):=aA rfl;have b3:Hid ((rest.dropWhile Y.isRef).length<=rest.length):=aA ((List.dropWhile_sublist _).length_le);clear bT aj ai V;generalize rest.takeWhile Y.isRef=rs at *;generalize rest.dropWhile Y.isRef=rest2 at *;have aq:=aA (is8 L B R px py rest2 8 8 wc a3.o);rw[Y.is_two]at aq;rcases hb:Y.is [8] rest2 with _|_
   focus
    rw[hb]at aq;have ck:Hid (p=⟨left,rs,none⟩/\m3=rest2):=aA (by have h:=HP.o;rw[b1.o]at h;unfold Y.rule2 at h;rw[hb]at h;rw[AB (by simp)]at h;injection h with h1 h2;exact⟨h1.symm,h2.symm⟩);obtain⟨ak,Z⟩:=ck.o;have bf:Hid (wc.heap[g]?=some (.cells (aU L p A c).toArray 161 (0,0))):=aA (by rw[ak];exact a1.o);have ad:Hid (Rd8 L B R px py wc m3):=aA (by rw[Z];exact a3.o);have ae:Hid (RdR L wc w.heap.size A p.r):=aA (by rw[ak];exact a2.o);have E:=bX;have ar:Hid (m3.length<=rest.length):=aA (by rw[Z];exact b3.o);clear ak Z a1 a2;go_wp2_with fail
    refine aq.o.mono ?_;rintro _ _ ⟨rfl,rfl⟩
   rotate_left
   focus
    rw[hb]at aq;obtain⟨t8,r8,ab,af,_⟩:=Y.is_true hb;have al:=HP.o;rw[b1.o]at al;unfold Y.rule2 at al;rw[hb,Ap rfl,af,Y.bind_ok]at al;obtain⟨pt,r9,bg,al⟩:=Y.bind_eq_ok al;injection al with ak Z;have b4:=aA ak;have b5:=aA (zct L B R px py rest2 8 8 wc a3.o t8 r8 ((zbJ 8 rest2).trans af));have b6:=aA (fun(x:World) (h:Rd8 L B R px py x r8)=>zct L B R px py r8 1 2 x h pt r9 bg)
    have ar:Hid (m3.length<=rest.length):=aA (by
     have h1:=(Y.take_ok bg).1;have h2:=b3.o;rw[ab,h1]at h2;rw[<-Z];simp at h2
     omega)
    have cl:Hid (r9=m3):=aA Z;clear ab af bg ak Z hb;unfold bW at b5 b6;go_wp2_with fail
    refine aq.o.mono ?_;rintro _ _ ⟨rfl,rfl⟩;go_wp2_with fail
    refine b5.o.mono ?_;rintro _ w5 ⟨rfl,ap,b7⟩;have cm:=aA ap;have cn:=aA b7;clear ap b7;go_wp2_with fail
    refine(b6.o _ cn.o).mono ?_;rintro _ w6 ⟨rfl,b8,b9⟩;have V:=cm.o.trans b8;have n:=zag V a1.o ci.o;have e3:=AD w6 g 3 _ _ n;have e4:=AD w6 g 4 _ _ n;have d3:=bQ n;have d4:=zdZ n;have bh:=aA n;have co:=aA (bX.o.trans V);have cp:=aA b9;have bi:=aA (a2.o.grown V a3.o.other);have cq:=aA (zbK n (by decide));clear n b8 b9 V a1 a2;go_upto_region 9 with fail
    obtain⟨w7,am⟩:∃x,x=(w6.setCell ⟨g,3,none⟩ (.string (K.str pt.t))).setCell ⟨g,4,none⟩ (.complex .f64 (Fl.fl (Pl.pos (L.take pt.o)).1) (Fl.fl (Pl.pos (L.take pt.o)).2)):=⟨_,rfl⟩
    rw[<-am];have bf:Hid (w7.heap[g]?=some (.cells (aU L p A c).toArray 161 (0,0))):=aA (by rw[am,<-b4.o];exact zfH bh.o _ _ rfl rfl);have ad:Hid (Rd8 L B R px py w7 m3):=aA (by rw[am,<-cl.o];exact(cp.o.far _ _ _ bZ.o).far _ _ _ bZ.o);have ae:Hid (RdR L w7 w.heap.size A p.r):=aA (by rw[am,<-b4.o];exact bi.o.grown (aF (aF (AI _ _) _ _) _ _) cq.o);have E:Hid (wr.grownBy w7 (some R)):=aA (by rw[am];exact zaU (zaU co.o _ _ _ b0.o) _ _ _ b0.o);clear am e3 e4 d3 d4
   rotate_left
   all_goals
    have bj:=aA (HO.o.grown E.o ⟨HR.o.other,cj.o⟩);have a4:Hid (acc.length<=4000):=aA (by omega);obtain⟨x3,x4,au⟩:=zdA L p.p;have bk:=aA (show aU L p A c=[.string (K.str p.l.t),.complex .f64 (Fl.fl (Pl.pos (L.take p.l.o)).1) (Fl.fl (Pl.pos (L.take p.l.o)).2),.slice A p.r.length c,x3,x4] by unfold aU;rw[au];rfl);have n:=bf.o;rw[bk.o]at n
   focus
    have g0:=aM n;have g1:=aR n;have g2:=bF n;have g3:=bQ n;have g4:=zdZ n;have bl:=aA (fun j u (hj:(aU L p A c)[j]?=some u)=>(zah wc [.string (K.str p.l.t),.complex .f64 (Fl.fl (Pl.pos (L.take p.l.o)).1) (Fl.fl (Pl.pos (L.take p.l.o)).2),.slice A p.r.length c,x3,x4] 161 j).trans (bk.o▸hj));have bm:Hid (w.heap.size<=wc.heap.size):=aA (by have h1:=HG.o.size;have h2:=E.o.size;omega)
   rotate_left
   focus
    have g0:=aM n;have g1:=aR n;have g2:=bF n;have g3:=bQ n;have g4:=zdZ n;have bl:=aA (fun j u (hj:(aU L p A c)[j]?=some u)=>(zah w7 [.string (K.str p.l.t),.complex .f64 (Fl.fl (Pl.pos (L.take p.l.o)).1) (Fl.fl (Pl.pos (L.take p.l.o)).2),.slice A p.r.length c,x3,x4] 161 j).trans (bk.o▸hj));have bm:Hid (w.heap.size<=w7.heap.size):=aA (by have h1:=HG.o.size;have h2:=E.o.size;omega)
   rotate_left
   all_goals
    have F:=aA (fun(x:World) (h:Rd8 L B R px py x m3)=>is8 L B R px py m3 11 11 x h);have cb:=aA (HG.o.trans E.o);have cc:=zag E.o HB.o (by omega);have cd:=aA cc;clear n au bf cc;obtain⟨zs,aa⟩:=(bj.o.alloc5 (.cells #[.string (K.str p.l.t),.complex .f64 (Fl.fl (Pl.pos (L.take p.l.o)).1) (Fl.fl (Pl.pos (L.take p.l.o)).2),.slice A p.r.length c,x3,x4] 161)).own;have ao:=aA aa;clear aa
   focus
    rcases b:Y.is [11] m3 with _|_
    focus
     have HK:=aA b;rw[Y.is_two,b]at F;obtain⟨rfl,hk⟩:=Y.take_ok HT.o
     have H:t.k=12:=by
      have h1:[(11:Int)].contains t.k=false:=b;simp at h1 hk;omega
     have ag:=aA (fun(x:World) (h:Rd8 L B R px py x (t::m4))=>zd9 L B R px py t m4 12 12 x h (by show [(12:Int),12].contains t.k=true;rw[H];rfl));have s:Hid (acc++[p]=ps/\m4=r):=aA (by have h:=az.o;rw[AB (by rw[H];decide)]at h;injection h with h1 h2;exact⟨h1,h2⟩)
    rotate_left
    focus
     have HK:=aA b;rw[Y.is_two,b]at F;obtain⟨rfl,hk⟩:=Y.take_ok HT.o
     have H:t.k=11:=by
      have h1:[(11:Int)].contains t.k=true:=b
      simpa using h1
     have ag:=aA (fun(x:World) (h:Rd8 L B R px py x (t::m4))=>zd9 L B R px py t m4 11 11 x h (by show [(11:Int),11].contains t.k=true;rw[H];rfl));have s:Hid (Y.alts f left (acc++[p]) m4=.ok ps r):=aA (by have h:=az.o;rwa [Ap H]at h)
    rotate_left
    all_goals
     unfold bW at ag;clear b hk H;go_wp2_with (at_builtin;(refine zid rfl (.tmp 26) (.tmp 28) _ rfl Tryz.underlying112 L w.heap.size _ acc rfl (bj.o.alloc5 _) wc.heap.size 1 p A c rfl bl.o (ae.o.grown (aG (AI _ _) _) (a8.none _)) (by have:=a4.o;omega) (by have:=bm.o;simp;omega) ?_;intro v9 w9 M N))
     have C:=aA ((ad.o.alloc (.cells #[.string (K.str p.l.t),.complex .f64 (Fl.fl (Pl.pos (L.take p.l.o)).1) (Fl.fl (Pl.pos (L.take p.l.o)).2),.slice A p.r.length c,x3,x4] 161)).own ao.o N ac);have bn:=aA (zaA (aG cb.o (.cells #[.string (K.str p.l.t),.complex .f64 (Fl.fl (Pl.pos (L.take p.l.o)).1) (Fl.fl (Pl.pos (L.take p.l.o)).2),.slice A p.r.length c,x3,x4] 161)) ao.o N);obtain⟨A9,c9,av,_,_⟩:=M.form;rw[show(acc++[p]).length=acc.length+1 by simp]at av;subst av;have bo:=aA M;have bp:=aA ((zeQ cd.o (.cells #[.string (K.str p.l.t),.complex .f64 (Fl.fl (Pl.pos (L.take p.l.o)).1) (Fl.fl (Pl.pos (L.take p.l.o)).2),.slice A p.r.length c,x3,x4] 161) ao.o N));obtain⟨z9,z⟩:=M.own;have bq:=aA z;clear M N z;go_wp2_with fail
     refine(F.o _ C.o).mono ?_;rintro _ _ ⟨rfl,rfl⟩;go_wp2_with fail
     refine(ag.o _ C.o).mono ?_;rintro _ w10 ⟨rfl,i,D⟩;have aw:=aA (bn.o.trans i);have ax:=aA (bo.o.grown i ⟨C.o.other,zau bq.o (by omega)⟩);have O:=aA D
    focus
     clear i D;go_wp2;go_ret
     refine⟨aw.o,_,rfl,?_,?_⟩
     ·rw[<-s.o.1];exact ax.o
     ·rw[<-s.o.2];exact O.o
    focus
     have br:=aA (zag i bp.o (by omega));clear i D;go_wp2;go_roundw
     case rel=>exact⟨acc++[p],m4,f,s,by have:=ar.o;simp at this;omega,ax.o,O.o,aw.o,br.o,by have:=ar.o;simp at this ⊢;omega⟩
     case measure=>have:=a4.o;simp[zdl];omega
   focus
    rcases b:Y.is [11] m3 with _|_
    focus
     have HK:=aA b;rw[Y.is_two,b]at F;obtain⟨rfl,hk⟩:=Y.take_ok HT.o
     have H:t.k=12:=by
      have h1:[(11:Int)].contains t.k=false:=b;simp at h1 hk;omega
     have ag:=aA (fun(x:World) (h:Rd8 L B R px py x (t::m4))=>zd9 L B R px py t m4 12 12 x h (by show [(12:Int),12].contains t.k=true;rw[H];rfl));have s:Hid (acc++[p]=ps/\m4=r):=aA (by have h:=az.o;rw[AB (by rw[H];decide)]at h;injection h with h1 h2;exact⟨h1,h2⟩)
    rotate_left
    focus
     have HK:=aA b;rw[Y.is_two,b]at F;obtain⟨rfl,hk⟩:=Y.take_ok HT.o
     have H:t.k=11:=by
      have h1:[(11:Int)].contains t.k=true:=b
      simpa using h1
     have ag:=aA (fun(x:World) (h:Rd8 L B R px py x (t::m4))=>zd9 L B R px py t m4 11 11 x h (by show [(11:Int),11].contains t.k=true;rw[H];rfl));have s:Hid (Y.alts f left (acc++[p]) m4=.ok ps r):=aA (by have h:=az.o;rwa [Ap H]at h)
    rotate_left
    all_goals
     unfold bW at ag;clear b hk H;go_wp2_with (at_builtin;(refine zid rfl (.tmp 26) (.tmp 28) _ rfl Tryz.underlying112 L w.heap.size _ acc rfl (bj.o.alloc5 _) w7.heap.size 1 p A c rfl bl.o (ae.o.grown (aG (AI _ _) _) (a8.none _)) (by have:=a4.o;omega) (by have:=bm.o;simp;omega) ?_;intro v9 w9 M N))
     have C:=aA ((ad.o.alloc (.cells #[.string (K.str p.l.t),.complex .f64 (Fl.fl (Pl.pos (L.take p.l.o)).1) (Fl.fl (Pl.pos (L.take p.l.o)).2),.slice A p.r.length c,x3,x4] 161)).own ao.o N ac);have bn:=aA (zaA (aG cb.o (.cells #[.string (K.str p.l.t),.complex .f64 (Fl.fl (Pl.pos (L.take p.l.o)).1) (Fl.fl (Pl.pos (L.take p.l.o)).2),.slice A p.r.length c,x3,x4] 161)) ao.o N);obtain⟨A9,c9,av,_,_⟩:=M.form;rw[show(acc++[p]).length=acc.length+1 by simp]at av;subst av;have bo:=aA M;have bp:=aA ((zeQ cd.o (.cells #[.string (K.str p.l.t),.complex .f64 (Fl.fl (Pl.pos (L.take p.l.o)).1) (Fl.fl (Pl.pos (L.take p.l.o)).2),.slice A p.r.length c,x3,x4] 161) ao.o N));obtain⟨z9,z⟩:=M.own;have bq:=aA z;clear M N z;go_wp2_with fail
     refine(F.o _ C.o).mono ?_;rintro _ _ ⟨rfl,rfl⟩;go_wp2_with fail
     refine(ag.o _ C.o).mono ?_;rintro _ w10 ⟨rfl,i,D⟩;have aw:=aA (bn.o.trans i);have ax:=aA (bo.o.grown i ⟨C.o.other,zau bq.o (by omega)⟩);have O:=aA D
    focus
     clear i D;go_wp2;go_ret
     refine⟨aw.o,_,rfl,?_,?_⟩
     ·rw[<-s.o.1];exact ax.o
     ·rw[<-s.o.2];exact O.o
    focus
     have br:=aA (zag i bp.o (by omega));clear i D;go_wp2;go_roundw
     case rel=>exact⟨acc++[p],m4,f,s,by have:=ar.o;simp at this;omega,ax.o,O.o,aw.o,br.o,by have:=ar.o;simp at this ⊢;omega⟩
     case measure=>have:=a4.o;simp[zdl];omega
def znX (x:Tok):Prop:=K.Tx x.t/\Gm.named x.t=true/\x.t≠[101,114,114,111,114]
def zlq (ds:List Y.Dcl):Prop:=∀d∈ds,d.k=4\/d.k=5
def PrOk (p:Y.Prd):Prop:=∀x,p.p=some x->znX x
theorem zcL {k:Int} (hk:k=4\/k=5):∀(xs:List Tok) {s s':Gm.S1},Gm.declN k s xs=.ok s'->s'.st=s.st
 | [],s,s',h=>by rw[Gm.declN]at h;injection h with h;subst h;rfl
 | x::r,s,s',h=>by
  rw[Gm.declN]at h;obtain⟨s1,h1,h2⟩:=Gm.R.bind_eq h;rw[zcL hk r h2];unfold Gm.decl1 at h1;rw[AB (by omega),AB (by omega)]at h1;split at h1
  ·cases h1
  ·obtain⟨p,_,h1⟩:=Gm.R.bind_eq h1;injection h1 with h1;subst h1;rfl
theorem zcK:∀(ds:List Y.Dcl) {S S':Gm.S1},zlq ds->Gm.decls S ds=.ok S'->S'.st=S.st
 | [],S,S',_,h=>by rw[Gm.decls]at h;injection h with h;subst h;rfl
 | d::r,S,S',hk,h=>by
  rw[Gm.decls]at h;obtain⟨s1,h1,h2⟩:=Gm.R.bind_eq h;rw[zcK r (fun d hd=>hk d (Bh _ hd)) h2,zcL (hk d (Bf ..)) d.ns h1];unfold Gm.up;split <;> rfl
end Go.Proofs.YtjjbaehamplnaaaGreat
