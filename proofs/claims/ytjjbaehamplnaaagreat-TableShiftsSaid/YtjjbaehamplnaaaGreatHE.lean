/- Part of the proofs over this program: RowQ, PairOpen, PartQ, OnP, WordsO, TrimFn, TrimPass, TrimGrow, TrimTells, CalmN, CalmA. -/
import Derived.Deep.Cut
import Derived.Test.YtjjbaehamplnaaaGreatHD
set_option linter.all false
namespace Go
def DT:=@Nat.mul_le_mul
def Ex:=@List.map_replicate
def CY:=@List.replicate_succ
def CN:=@of_decide_eq_true
def Df:=@Go.World.cell?_alloc_new
def Bf:=@Go.World.ownsRow.kept
def Ff:=@Bool.false_or
def E8:=@Go.Result.andThen_ok
end Go
open Go.RowKit Go.Proofs.Tryz
set_option maxRecDepth 100000
set_option maxHeartbeats 40000000
variable {A:Option Go.Addr} {B B' base base' f g gk i k m n:Nat} {cs:Array Go.Value} {fr:Nat×Nat} {l r:List Int} {ops:Array Go.Oper} {p:Go.Addr} {s0:List Bool} {tm:Bool} {u v:Go.Value} {w w' wr:Go.World} {z:Int}
namespace Go.Proofs.YtjjbaehamplnaaaGreat
open Go.RowKit Go.ChangeShapes Go.WideShapes Go.ChangeAt
section
variable {α:Type} {m:Nat} {f:α->List Value}
theorem tI (hf:∀x,(f x).length=m) (xs:List α):(xs.flatMap f).length=xs.length*m:=by
 induction xs with
 | nil=>simp
 | cons x r ih=>rw[B7,AZ,ih,hf,Bz,Fi,Eu,Nat.add_comm]
theorem xE (hf:∀x,(f x).length=m) (xs:List α) (i j:Nat) (hi:i<xs.length) (hj:j<m):(xs.flatMap f)[i*m+j]?=(f xs[i])[j]?:=by
 induction xs generalizing i with
 | nil=>simp at hi
 | cons x r ih =>
  rw[B7];have hl:=hf x;cases i with
  | zero=>rw[BQ ω];simp
  | succ i =>
   rw[Fi,Eu,Cp ω,show i*m+m+j-(f x).length=i*m+j by omega]
   simpa using ih i (by simpa using hi)
theorem U5 (hf:∀x,(f x).length=2) (xs:List α) (i:Nat) (y:α) (a b:Value) (hy:f y=[a,b]):((xs.flatMap f).set (i*2) a).set (i*2+1) b=(xs.set i y).flatMap f:=by
 induction xs generalizing i with
 | nil=>simp
 | cons x r ih =>
  obtain⟨p,q,e⟩:∃p q,f x=[p,q]:=by
   have:=hf x
   match h:f x,this with
   | [p,q],_=>exact⟨p,q,rfl⟩
  rw[B7,e];cases i with
  | zero=>simp[hy]
  | succ i =>
   rw[show(i+1)*2=i*2+1+1 by omega];simp only[Ct,CS,DM,B7,e];rw[ih i]
def iC (m:Nat) (f:α->List Value) (w:World) (B:Nat) (A:Option Addr) (xs:List α):Prop :=
 xs.length≠0->∃g o,A=some ⟨g,o,none⟩/\g<B/\∀i (h:i<xs.length) j u,(f xs[i])[j]?=some u->w.cell? ⟨g,o+i*m+j,none⟩=some u
theorem iC.fp {xs:List α} (h:iC m f w B A xs) (hk:∀g o,g<B->w'.cell? ⟨g,o,none⟩=w.cell? ⟨g,o,none⟩):iC m f w' B A xs:=fun hn=>by
 obtain⟨g,o,e,hg,hc⟩:=h hn;exact⟨g,o,e,hg,fun i hi j u hu=>(hk _ _ hg).trans (hc i hi j u hu)⟩
theorem iC.more {xs:List α} (h:iC m f w B A xs) (hB:B<=B'):iC m f w B' A xs:=fun hn=>by
 obtain⟨g,o,e,hg,hc⟩:=h hn;exact⟨g,o,e,ω,hc⟩
theorem iC.below {xs:List α} (h:iC m f w B A xs) (hb:Below B' w w') (hB:B<=B'):iC m f w' B A xs :=
 h.fp fun g o hg=>hb.cell (p:=⟨g,o,none⟩) (Aj hg hB)
def ia (T:TypeId) (f:α->List Value) (w:World) (g:Nat) (xs:List α):Prop:=w.heap[g]?=some (.cells (xs.flatMap f).toArray T (0,0))
variable {T:TypeId}
theorem ia.lt {xs:List α} (h:ia T f w g xs):g<w.heap.size:=(Ad.1 h).1
theorem ia.cell {xs:List α} (h:ia T f w g xs) (hf:∀x,(f x).length=m) (i j:Nat) (hi:i<xs.length) (u:Value) (hu:(f xs[i])[j]?=some u):w.cell? ⟨g,i*m+j,none⟩=some u:=by
 have hj:j<m:=by rw[<-hf xs[i]];exact(Bk.1 hu).1
 rw[AF w g _ _ _ _ h];rw[Aq,xE hf xs i j hi hj];exact hu
theorem ia.frozen {xs:List α} (h:ia T f w g xs) (i:Nat):w.frozen? ⟨g,i,none⟩=false:=AM w g i _ _ h
theorem ia.below {xs:List α} (h:ia T f w g xs) (hb:Below B w w') (hg:g<B):ia T f w' g xs:=(hb.block g hg).trans h
theorem ia.drewN {xs:List α} (h:ia T f w g xs) (n:Nat):ia T f (w.drewN n) g xs:=h
theorem ia.jv {xs:List α} (h:ia T f w g xs) (hp:g≠p.block) (u:Value):ia T f (w.setCell p u) g xs:=(AQ w p u g hp).trans h
theorem ia.xK {xs:List α} (h:ia T f w g xs) (hf:∀x,(f x).length=2) (i:Nat) (y:α) (a b:Value) (hy:f y=[a,b]):ia T f ((w.setCell ⟨g,i*2,none⟩ a).setCell ⟨g,i*2+1,none⟩ b) g (xs.set i y):=by
 unfold ia at h ⊢;rw[Ba _ g _ _ _ _ (Ba w g _ _ _ _ h)]
 congr 2
 apply EI;rw[<-U5 hf xs i y a b hy];simp
def aK (T:TypeId) (m:Nat) (f:α->List Value) (w:World) (base:Nat) (v:Value) (xs:List α):Prop:=w.ownsRow base T m v xs.length (xs.flatMap f)
theorem aK.nil (w:World) (base:Nat):aK T m f w base (.slice none 0 0) []:=Dg w base _ _
theorem aK.mono {xs:List α} (h:aK T m f w base v xs) (hb:base'<=base):aK T m f w base' v xs:=by
 refine⟨h.1,?_⟩;rcases h.2 with h0|⟨g,cap,cur,e,aa,hr⟩
 ·exact .inl h0
 ·exact .inr ⟨g,cap,cur,e,ω,hr⟩
theorem aK.alloc {xs:List α} (h:aK T m f w base v xs) (o:Obj):aK T m f (w.alloc o) base v xs:=Dm h o
theorem aK.drewN {xs:List α} (h:aK T m f w base v xs) (n:Nat):aK T m f (w.drewN n) base v xs:=h
theorem aK.below {xs:List α} (h:aK T m f w base v xs) (hb:Below B w w') (hB:w.heap.size<=B):aK T m f w' base v xs:=by
 refine⟨h.1,?_⟩;rcases h.2 with h0|⟨g,cap,cur,e,aa,hg,hr⟩
 ·exact .inl h0
 ·exact .inr ⟨g,cap,cur,e,aa,(hb.block g (Aj (Ad.1 hg).1 hB)).trans hg,hr⟩
theorem aK.form {xs:List α} (h:aK T m f w base v xs) (hf:∀x,(f x).length=m):∃A c,v=.slice A xs.length c/\xs.length<=c/\c<=maxLen/\iC m f w w.heap.size A xs:=by
 rcases h.2 with⟨rfl,h0⟩|⟨g,cap,cur,rfl,hb,hg,hn,hm,hs,ht⟩
 ·exact⟨none,0,by rw[h0],ω,by unfold maxLen;omega,fun hc=>absurd h0 hc⟩
 ·refine⟨some ⟨g,0,none⟩,cap,rfl,hn,hm,fun _=>⟨g,0,rfl,(Ad.1 hg).1,fun i hi j u hu=>?_⟩⟩;have hj:j<m:=by rw[<-hf xs[i]];exact(Bk.1 hu).1
  have hc:=CQ h (g:=g) rfl (i*m+j) u (by rw[xE hf xs i j hi hj];exact hu);rw[Go.WideShapes.add_plain,BF]at hc;rw[BF];exact hc
theorem aK.addr {xs:List α} (h:aK T m f w base v xs) (h0:xs.length≠0):∃g c,v=.slice (some ⟨g,0,none⟩) xs.length c/\xs.length<=c/\c<=maxLen/\base<=g:=by
 rcases h.2 with⟨_,h1⟩|⟨g,cap,cur,rfl,hb,hg,hn,hm,hs,ht⟩
 ·exact absurd h1 h0
 ·exact⟨g,cap,rfl,hn,hm,hb⟩
theorem aK.cellAt {c:Nat} {xs:List α} (h:aK T m f w base (.slice (some ⟨g,0,none⟩) n c) xs) (hf:∀x,(f x).length=m) (i j:Nat) (hi:i<xs.length) (u:Value) (hu:(f xs[i])[j]?=some u):w.cell? ⟨g,i*m+j,none⟩=some u:=by
 have hj:j<m:=by rw[<-hf xs[i]];exact(Bk.1 hu).1
 have hc:=CQ h (g:=g) rfl (i*m+j) u (by rw[xE hf xs i j hi hj];exact hu);rw[Go.WideShapes.add_plain,BF]at hc;exact hc
theorem aK.lt {c:Nat} {xs:List α} (h:aK T m f w base (.slice (some ⟨g,0,none⟩) n c) xs):g<w.heap.size:=by
 rcases h.2 with⟨e,_⟩|⟨g',_,_,e,_,hg,_⟩
 ·cases e
 ·injection e with e;injection e with e;injection e with e;subst e;exact(Ad.1 hg).1
theorem yz {rest:List Oper} {o:Oper} {a:Act} {Q:Exit->Act->World->Prop} (ad:o.guard=none) (s x:Operand) (t:TypeId) (ho:o.op=.call {callee:=.builtin .append,args:=#[s,x],argTypes:=#[t,t]}) (ht:prog.underlying t=some (.slice T)) (z:Value) (bytes:Nat) (aa:(prog.info? T).map (fun i=>(i.zero,i.size,i.bytes))=some (some z,m,bytes)) (ae:z.cells.size=m) (hm:0<m) (af:bytes<=100) (hf:∀x,(f x).length=m) (h1:∀x,∀u∈f x,u.oneCell'=true) (base:Nat) (v:Value) (xs:List α) (hs:a.eval s=v) (ac:aK T m f w base v xs) (g c:Nat) (y:α) (hx:a.eval x=.slice (some ⟨g,0,none⟩) 1 c) (hz:∀j u,(f y)[j]?=some u->w.cell? ⟨g,j,none⟩=some u) (ag:xs.length<=1000000) (ab:base<=w.heap.size) (hK:∀v' w',aK T m f w' base v' (xs++[y])->w.grownBy w' v.ownBlock->wpList prog ops Q rest (a.put o.dst v') w') :
  wpList prog ops Q (o::rest) a w:=by
 obtain⟨i,hi,ah,ai,aj⟩:=CF aa;refine Dp w ad s x t ho base T i z m bytes ht hi ah ai aj ae hm v xs.length (xs.flatMap f) hs ac ⟨g,0,none⟩ 1 c (f y) hx (by rw[hf,Eu]) ?_ (h1 y) (by unfold maxLen;omega) (by have:=DT (show xs.length+1<=1000001 by omega) af;omega) ab fun v' w' h2 h3 _=>hK v' w' ?_ h3
 ·intro j u hj;rw[Go.WideShapes.add_plain,BF];exact hz j u hj
 ·unfold aK;rw[AZ,BW,Ci];exact h2
theorem LU {rest:List Oper} {o:Oper} {a:Act} {Q:Exit->Act->World->Prop} (af:o.guard=none) (s x:Operand) (t:TypeId) (ho:o.op=.call {callee:=.builtin .append,args:=#[s,x],argTypes:=#[t,t]}) (ht:prog.underlying t=some (.slice T)) (z:Value) (bytes:Nat) (ab:(prog.info? T).map (fun i=>(i.zero,i.size,i.bytes))=some (some z,m,bytes)) (ai:z.cells.size=m) (hm:0<m) (aj:bytes<=100) (hf:∀x,(f x).length=m) (h1:∀x,∀u∈f x,u.oneCell'=true) (base:Nat) (v:Value) (xs:List α) (hs:a.eval s=v) (aa:aK T m f w base v xs) (B n c:Nat) (A:Option Addr) (ys:List α) (hx:a.eval x=.slice A n c) (hn:n=ys.length) (hr:iC m f w B A ys) (ak:xs.length+ys.length<=1000000) (ac:base<=w.heap.size) (hK:∀v' w',aK T m f w' base v' (xs++ys)->w.grownBy w' v.ownBlock->wpList prog ops Q rest (a.put o.dst v') w') :
  wpList prog ops Q (o::rest) a w:=by
 obtain⟨i,hi,al,am,ao⟩:=CF ab;subst hn;rcases A with _|ad
 ·have hz:ys=[]:=by
   rcases Di ys.length with h0|h0
   ·exact BI h0
   ·obtain⟨g,o',h,_⟩:=hr ω;cases h
  subst hz;have ae:=Fx (P:=prog) w base t o.type T i m ht hi v xs.length _ aa c;refine E5 af fun K ap=>?_;unfold Oper.wp;simp[execOp,ho,resolve,invoke,builtin,hs,hx,ae,Result.andThen];exact ap _ _ (hK v w (by simpa using aa) (AO _ _))
 ·refine Dp w af s x t ho base T i z m bytes ht hi al am ao ai hm v xs.length (xs.flatMap f) hs aa ad ys.length c (ys.flatMap f) hx (tI hf ys) ?_ ?_ (by unfold maxLen;omega) (by have:=DT (show xs.length+ys.length<=1000000 by omega) aj;omega) ac fun v' w' h2 h3 _=>hK v' w' ?_ h3
  ·intro j u hj;have aq:j<ys.length*m:=by rw[<-tI hf ys];exact(Bk.1 hj).1
   have hd:j / m<ys.length:=by
    rcases BM (j / m) ys.length with h|h
    ·exact h
    ·have:=Dx m h
     have:=Nat.div_mul_le_self j m
     omega
   obtain⟨g,o',h,_,hc⟩:=hr (fun e=>by rw[e]at hd;exact absurd hd (Dj _))
   replace h:=DG h
   subst h;have ag:j=j / m*m+j % m:=by rw[Nat.mul_comm];exact(Nat.div_add_mod j m).symm
   have ah:=hj;rw[ag,xE hf ys _ _ hd (Nat.mod_lt _ hm)]at ah
   have:=hc _ hd _ _ ah
   rw[Go.WideShapes.add_plain];rw[Nat.add_assoc,<-ag]at this;exact this
  ·intro u hu;obtain⟨y,_,hy⟩:=CJ.1 hu;exact h1 y u hy
  ·unfold aK;rw[AZ,BW];exact h2
theorem OT {xs:List α} (h:w.ownsRow base T m (.slice (some ⟨g,0,none⟩) n n) n (xs.flatMap f)):ia T f w g xs:=by
 rcases h.2 with⟨he,_⟩|⟨g',cap,cur,he,hb,hg,_,hm,hs,ht⟩
 ·cases he
 ·injection he with e1 e2 e3;injection e1 with e1;injection e1 with e1;subst e1 e3;unfold ia;rw[hg,<-ht,Cq (by simp[hs])]
theorem Qw (z:Value) (hz:z.cells.size=m) (hm:0<m) (n:Nat):(madeCells z.cells (n*m)).toList=(List.replicate n z).flatMap fun z=>z.cells.toList:=by
 refine C3 fun j=>?_;have hl:∀x∈List.replicate n z,x=z:=fun x hx=>(List.mem_replicate.1 hx).2
 have aa:((List.replicate n z).flatMap fun z=>z.cells.toList).length=n*m:=by
  rw[List.length_flatMap,Ex];simp[hz]
 rcases BM j (n*m) with h|h
 ·have hd:j / m<n:=by
   rcases BM (j / m) n with h1|h1
   ·exact h1
   ·have:=Dx m h1
    have:=Nat.div_mul_le_self j m
    omega
  have ab:j=j / m*m+j % m:=by rw[Nat.mul_comm];exact(Nat.div_add_mod j m).symm
  have key:∀(k i r:Nat),i<k->r<m->((List.replicate k z).flatMap fun z=>z.cells.toList)[i*m+r]?=z.cells.toList[r]?:=by
   intro k;induction k with
   | zero=>intro i r hi;omega
   | succ k ih =>
    intro i r hi hr;rw[CY,B7];have ac:z.cells.toList.length=m:=by simpa using hz
    cases i with
    | zero=>rw[BQ ω];simp
    | succ i =>
     rw[Fi,Eu,Cp ω,show i*m+m+r-z.cells.toList.length=i*m+r by omega];exact ih i r ω hr
  have hr:=Nat.mod_lt j hm;have e2:=key n (j / m) (j % m) hd hr;rw[<-ab]at e2;rw[e2];unfold madeCells;simp[h,hz,hr]
 ·have e1:(madeCells z.cells (n*m)).toList.length<=j:=by rw[Array.length_toList,size_madeCells];exact h
  have e2:((List.replicate n z).flatMap fun z=>z.cells.toList).length<=j:=by rw[aa];exact h
  rw[Ch e1,Ch e2]
theorem SP (w:World) (t:TypeId) (ht:prog.underlying t=some (.slice T)) (z:Value) (bytes:Nat) (ab:(prog.info? T).map (fun i=>(i.zero,i.size,i.bytes))=some (some z,m,bytes)) (ad:z.cells.size=m) (hm:0<m) (ae:bytes<=100) (y:α) (hy:f y=z.cells.toList) (n:Nat) (hn:n<=1000000) :
  ∃w',(Instr.makeSlice t (.int .i64 n) (.int .i64 n)).run prog w=.ok (.slice (some ⟨w.heap.size,0,none⟩) n n) w'/\ia T f w' w.heap.size (List.replicate n y)/\β w w':=by
 obtain⟨i,hi,af,ag,ah⟩:=CF ab;obtain⟨w',ac,aa,b⟩:=run_make_full (P:=prog) w w.heap.size t T i z m ht hi af ag .i64 .i64 n (by rw[ah];have:=DT ae hn;omega) (by unfold maxLen;omega) (Af _);refine⟨w',ac,?_,⟨b.os,b.tape,b.output,b.size,fun k hk=>b.block k hk σ⟩⟩;refine OT (m:=m) (base:=w.heap.size) (n:=n) ?_;rw[Qw z ad hm n]at aa
 have e:(List.replicate n z).flatMap (fun z=>z.cells.toList)=(List.replicate n y).flatMap f:=by
  clear aa ac;induction n with
  | zero=>rfl
  | succ n ih=>rw[CY,CY,B7,B7,ih ω,hy]
 rw[e]at aa;exact aa
theorem Ua {o:Oper} {a:Act} {K:Act->World->Prop} {Q:Exit->Act->World->Prop} (l c:Operand) (t:TypeId) (ac:o.op=Op.makeSlice t l c) (ht:prog.underlying t=some (.slice T)) (z:Value) (bytes:Nat) (aa:(prog.info? T).map (fun i=>(i.zero,i.size,i.bytes))=some (some z,m,bytes)) (ad:z.cells.size=m) (hm:0<m) (ae:bytes<=100) (y:α) (hy:f y=z.cells.toList) (n:Nat) (hl:a.eval l=.int .i64 n) (hc:a.eval c=.int .i64 n) (hn:n<=1000000) (hK:∀w',ia T f w' w.heap.size (List.replicate n y)->β w w'->K (a.put o.dst (.slice (some ⟨w.heap.size,0,none⟩) n n)) w'):Oper.wp prog o a w K Q:=by
 obtain⟨w',ab,h1,h2⟩:=SP w t ht z bytes aa ad hm ae y hy n hn;unfold Oper.wp;simp[execOp,ac,hl,hc,ab,Result.andThen];exact hK w' h1 h2
theorem GY {rest:List Oper} {o:Oper} {a:Act} {Q:Exit->Act->World->Prop} (hg:o.guard=none) (l c:Operand) (t:TypeId) (ab:o.op=Op.makeSlice t l c) (ht:prog.underlying t=some (.slice T)) (z:Value) (bytes:Nat) (aa:(prog.info? T).map (fun i=>(i.zero,i.size,i.bytes))=some (some z,m,bytes)) (ac:z.cells.size=m) (hm:0<m) (ad:bytes<=100) (y:α) (hy:f y=z.cells.toList) (n:Nat) (hl:a.eval l=.int .i64 n) (hc:a.eval c=.int .i64 n) (hn:n<=1000000) (hK:∀w',ia T f w' w.heap.size (List.replicate n y)->β w w'->wpList prog ops Q rest (a.put o.dst (.slice (some ⟨w.heap.size,0,none⟩) n n)) w') :
  wpList prog ops Q (o::rest) a w :=
 E5 hg fun _ ae=>Ua l c t ab ht z bytes aa ac hm ad y hy n hl hc hn fun w' h1 h2=>ae _ _ (hK w' h1 h2)
end
end Go.Proofs.YtjjbaehamplnaaaGreat
namespace Go.Proofs.YtjjbaehamplnaaaGreat
open Go.ChangeShapes Go.WideShapes Go.Deep Go.RowKit Go.Joins
def fM (x:Int×Int):List Value:=[.int .i64 x.1,.int .i64 x.2]
theorem aG (x:Int×Int):(fM x).length=2:=rfl
abbrev nY:=List (Int×Int)×List (Int×Int)
def cB (w:World) (B:Nat) (A:Option Addr) (ss:List nY):Prop :=
 ss.length≠0->∃g o,A=some ⟨g,o,none⟩/\g<B/\∀i (h:i<ss.length),(∃A' c',w.cell? ⟨g,o+i*2,none⟩=some (.slice A' ss[i].1.length c')/\ss[i].1.length<=c'/\c'<=9223372036854775807/\iC 2 fM w B A' ss[i].1)/\(∃A' c',w.cell? ⟨g,o+i*2+1,none⟩=some (.slice A' ss[i].2.length c')/\ss[i].2.length<=c'/\c'<=9223372036854775807/\iC 2 fM w B A' ss[i].2)
theorem cB.nil (w:World) (B:Nat) (A:Option Addr):cB w B A []:=fun h=>absurd rfl h
theorem cB.fp {w w':World} {B:Nat} {A:Option Addr} {ss:List nY} (h:cB w B A ss) (hk:∀g o,g<B->w'.cell? ⟨g,o,none⟩=w.cell? ⟨g,o,none⟩):cB w' B A ss:=fun hn=>by
 obtain⟨g,o,e,hg,hc⟩:=h hn;refine⟨g,o,e,hg,fun i hi=>?_⟩;obtain⟨⟨A1,c1,h1,h2,h3,h4⟩,⟨A2,c2,k1,k2,k3,k4⟩⟩:=hc i hi;exact⟨⟨A1,c1,(hk _ _ hg).trans h1,h2,h3,h4.fp hk⟩,⟨A2,c2,(hk _ _ hg).trans k1,k2,k3,k4.fp hk⟩⟩
theorem cB.below {ss:List nY} (h:cB w B A ss) (hb:Below B' w w') (hB:B<=B'):cB w' B A ss :=
 h.fp fun g o hg=>hb.cell (p:=⟨g,o,none⟩) (Aj hg hB)
theorem cB.more {w:World} {B B':Nat} {A:Option Addr} {ss:List nY} (h:cB w B A ss) (hB:B<=B'):cB w B' A ss:=fun hn=>by
 obtain⟨g,o,e,hg,hc⟩:=h hn;refine⟨g,o,e,ω,fun i hi=>?_⟩;obtain⟨⟨A1,c1,h1,h2,h3,h4⟩,⟨A2,c2,k1,k2,k3,k4⟩⟩:=hc i hi;exact⟨⟨A1,c1,h1,h2,h3,h4.more hB⟩,⟨A2,c2,k1,k2,k3,k4.more hB⟩⟩
section
variable {H:Type} {enc:TypeId×Value->H} {P:Program} {w:World} {base:Nat} {spare:Nat->Bool} {held:Bool}
end
end Go.Proofs.YtjjbaehamplnaaaGreat
namespace Go.Proofs.YtjjbaehamplnaaaGreat
def mD (m:Nat) (A:Option Addr) (c k:Nat):Option Addr:=if c=k then A else A.map fun x=>x.add (k*m)
section
variable {α:Type} {m:Nat} {f:α->List Value} {T:TypeId}
theorem iC.mD {w:World} {B c:Nat} {A:Option Addr} {l:List α} (h:iC m f w B A l) (hc:l.length<=c) (k:Nat):iC m f w B (mD m A c k) (l.drop k):=by
 intro hn;rw[Bt]at hn;obtain⟨g,o,rfl,hg,aa⟩:=h ω;refine⟨g,o+k*m,?_,hg,fun i hi j u hu=>?_⟩
 ·unfold Go.Proofs.YtjjbaehamplnaaaGreat.mD;rw[AJ ω,DH,Go.WideShapes.add_plain]
 ·rw[Bt]at hi;rw[Dy]at hu
  have:=aa (k+i) ω j u hu
  rw[Fi]at this;rw[show o+k*m+i*m+j=o+(k*m+i*m)+j by omega];exact this
theorem iC.take {l:List α} (h:iC m f w B A l) (k:Nat):iC m f w B A (l.take k):=by
 intro hn;rw[Bm]at hn;obtain⟨g,o,e,hg,aa⟩:=h ω;refine⟨g,o,e,hg,fun i hi j u hu=>?_⟩;rw[Bm]at hi;rw[Dn]at hu;exact aa i ω j u hu
theorem iC.alloc {w:World} {B:Nat} {A:Option Addr} {l:List α} (h:iC m f w B A l) (hB:B<=w.heap.size) (o:Obj):iC m f (w.alloc o) B A l :=
 h.below ((AB _ w).alloc (Af _) o) hB
theorem Hl (w:World) (t:TypeId) (ht:prog.underlying t=some (.slice (prog.elem t))) (hs:∀w:World,(sizeOf (prog.elem t)).run prog w=.ok m w) (A:Option Addr) (c n k:Nat) (hk:k<=n):(Instr.sliceAt t (.slice A n c) (some (.int .i64 k)) none none).run prog w=.ok (.slice (mD m A c k) (n-k) (c-k)) w:=by
 rw[DU _ _ _ _ _ _ ht,run_slice_l _ _ _ _ _ ht .i64 (k:Int) ω ω,hs];simp[Result.andThen,sliced,mD]
theorem Jm (w:World) (t:TypeId) (ht:prog.underlying t=some (.slice (prog.elem t))) (hs:∀w:World,(sizeOf (prog.elem t)).run prog w=.ok m w) (A:Option Addr) (c n k:Nat) (hk:k<=c):(Instr.sliceAt t (.slice A n c) none (some (.int .i64 k)) none).run prog w=.ok (.slice A k c) w:=by
 rw[DU _ _ _ _ _ _ ht,run_slice_h _ _ _ _ _ ht .i64 (k:Int) ω ω,hs]
 have e:∀A:Option Addr,A.map (fun x=>x.add 0)=A:=fun A=>by
  cases A with
  | none=>rfl
  | some x=>simp[Addr.add]
 simp[Result.andThen,sliced,e]
theorem U4 (hf:∀x,(f x).length=m) (xs:List α) (k:Nat) (hk:k<=xs.length):(xs.take k).flatMap f=(xs.flatMap f).take (k*m):=by
 have h1:xs.flatMap f=(xs.take k).flatMap f++(xs.drop k).flatMap f:=by rw[<-BW,DK]
 have h2:((xs.take k).flatMap f).length=k*m:=by rw[tI hf,Bm,Eb hk]
 rw[h1,<-h2,List.take_left]
theorem aK.take {w:World} {base n c:Nat} {A:Option Addr} {xs:List α} (h:aK T m f w base (.slice A n c) xs) (hf:∀x,(f x).length=m) (k:Nat) (hk:k<=xs.length):aK T m f w base (.slice A k c) (xs.take k):=by
 rcases h.2 with⟨e,h0⟩|⟨g,cap,cur,e,hb,hg,hn,hm,hs,ht⟩
 ·injection e with e1 e2 e3;subst e1 e2 e3;obtain rfl:k=0:=ω
  rw[D5];exact aK.nil w base
 ·injection e with e1 e2 e3;subst e1 e2 e3;have hl:(xs.take k).length=k:=by rw[Bm,Eb hk]
  unfold aK;rw[hl];refine⟨by rw[tI hf,hl],.inr ⟨g,c,cur,rfl,hb,hg,ω,hm,hs,?_⟩⟩;rw[U4 hf xs k hk,<-ht,List.take_take,Eb (Dx m hk)]
end
def iR (ps:List Nat) (w:World):Type:={x:World // ∀g∈ps,x.heap[g]?=w.heap[g]?}
instance (ps:List Nat) (w:World):Nonempty (iR ps w):=⟨⟨w,fun _ _=>rfl⟩⟩
theorem iR.cell {ps:List Nat} (y:iR ps w) (h:p.block∈ps):y.1.cell? p=w.cell? p:=Ck (y.2 _ h)
theorem iR.row {ps:List Nat} (y:iR ps w) {j:Nat} {t:TypeId} (h:g∈ps) (hb:w.heap[g]?=some (.cells cs t fr)) (hj:cs[j]?=some u):y.1.cell? ⟨g,j,none⟩=some u :=
 (AF y.1 g j _ _ _ ((y.2 g h).trans hb)).trans hj
section
variable {t:TypeId} {w w' w2:World}
end
open Go.RowKit Go.ChangeShapes Go.WideShapes Go.ChangeAt
theorem LB.fy {l:List Bool} (h:k<l.length):l.getD k false=l[k]:=by simp[List.getD,h]
theorem LB.jS (pre xs post:List Bool) (k:Nat) (h:k<xs.length):(pre++xs++post).getD (pre.length+k) false=xs.getD k false:=by
 simp only[List.getD];rw[BQ (by simp;omega),Cp ω,show pre.length+k-pre.length=k by omega]
theorem LB.k9 (pre xs post:List Bool) (k:Nat) (z:Bool) (h:k<xs.length):(pre++xs++post).set (pre.length+k) z=pre++xs.set k z++post:=by
 rw[List.set_append_left _ _ (by simp;omega),De _ _ ω,show pre.length+k-pre.length=k by omega]
def jk (w:World) (B:Nat) (A:Option Addr) (zs:List Bool):Prop :=
 zs.length≠0->∃g o,A=some ⟨g,o,none⟩/\g<B/\∀j,j<zs.length->w.cell? ⟨g,o+j,none⟩=some (.bool (zs.getD j false))
theorem jk.nil (w:World) (B:Nat) (A:Option Addr):jk w B A []:=fun h=>absurd rfl h
theorem jk.fp {zs:List Bool} (h:jk w B A zs) (hk:∀g o,g<B->w'.cell? ⟨g,o,none⟩=w.cell? ⟨g,o,none⟩):jk w' B A zs:=fun hn=>by
 obtain⟨g,o,e,hg,hc⟩:=h hn;exact⟨g,o,e,hg,fun j hj=>(hk _ _ hg).trans (hc j hj)⟩
theorem jk.more {zs:List Bool} (h:jk w B A zs) (hB:B<=B'):jk w B' A zs:=fun hn=>by
 obtain⟨g,o,e,hg,hc⟩:=h hn;exact⟨g,o,e,ω,hc⟩
theorem jk.below {zs:List Bool} (h:jk w B A zs) (hb:Below B' w w') (hB:B<=B'):jk w' B A zs :=
 h.fp fun g o hg=>hb.cell (p:=⟨g,o,none⟩) (Aj hg hB)
theorem jk.drewN {zs:List Bool} (h:jk w B A zs) (n:Nat):jk (w.drewN n) B A zs:=h
theorem jk.drew {zs:List Bool} (h:jk w B A zs):jk w.drew B A zs:=h
theorem jk.alloc {zs:List Bool} (h:jk w B A zs) (hB:B<=w.heap.size) (o:Obj):jk (w.alloc o) B A zs :=
 h.fp fun g i hg=>EH w o ⟨g,i,none⟩ (Aj hg hB)
theorem jk.grown {zs:List Bool} (h:jk w B A zs) (hg:w.grownBy w' (some g)) (hB:B<=g) (hs:B<=w.heap.size):jk w' B A zs :=
 h.fp fun p o hp=>Ck (hg.block p ω (fun e=>by injection e with e;omega))
theorem jk.take {w:World} {B:Nat} {A:Option Addr} {zs:List Bool} (h:jk w B A zs) (k:Nat):jk w B A (zs.take k):=fun hn=>by
 have hl:(zs.take k).length<=zs.length:=by rw[Bm];omega
 obtain⟨g,o,e,hg,hc⟩:=h ω;refine⟨g,o,e,hg,fun j hj=>?_⟩;rw[hc j ω,LB.fy hj,LB.fy (by omega:j<zs.length),Dn]
theorem jk.cell {zs:List Bool} {o:Nat} (h:jk w B (some ⟨g,o,none⟩) zs) (j:Nat) (hj:j<zs.length):w.cell? ⟨g,o+j,none⟩=some (.bool (zs.getD j false)):=by
 obtain⟨g',o',e,_,hc⟩:=h ω;injection e with e;injection e with e1 e2;subst e1 e2;exact hc j hj
def fU (w:World) (g:Nat) (ls:List Bool):Prop:=w.heap[g]?=some (.cells (ls.map Value.bool).toArray 4 (0,0))
theorem fU.lt {ls:List Bool} (h:fU w g ls):g<w.heap.size:=by
 rcases BM g w.heap.size with aa|hge
 ·exact aa
 ·unfold fU at h;rw[Ev hge]at h;cases h
theorem fU.cell {ls:List Bool} (h:fU w g ls) (i:Nat) (hi:i<ls.length):w.cell? ⟨g,i,none⟩=some (.bool (ls.getD i false)):=by
 rw[AF w g i _ _ _ h];simp[hi,List.getD]
theorem fU.frozen {ls:List Bool} (h:fU w g ls) (i:Nat):w.frozen? ⟨g,i,none⟩=false:=AM w g i _ _ h
theorem fU.drewN {ls:List Bool} (h:fU w g ls) (n:Nat):fU (w.drewN n) g ls:=h
theorem fU.drew {ls:List Bool} (h:fU w g ls):fU w.drew g ls:=h
theorem fU.alloc {ls:List Bool} (h:fU w g ls) (o:Obj):fU (w.alloc o) g ls:=(BD w o g h.lt).trans h
theorem fU.ky {ls:List Bool} (h:fU w g ls) (i:Nat) (z:Bool):fU (w.setCell ⟨g,i,none⟩ (.bool z)) g (ls.set i z):=by
 unfold fU at h ⊢;rw[Ba w g i _ _ _ h]
 congr 2
 apply EI;simp[Cy]
theorem fU.jv {ls:List Bool} (h:fU w g ls) (hp:g≠p.block) (u:Value):fU (w.setCell p u) g ls:=(AQ w p u g hp).trans h
theorem fU.below {ls:List Bool} (h:fU w g ls) (hb:Below B w w') (hg:g<B):fU w' g ls:=(hb.block g hg).trans h
theorem fU.grown {ls:List Bool} {row:Option Nat} (h:fU w g ls) (hb:w.grownBy w' row) (hg:some g≠row):fU w' g ls:=(hb.block g h.lt hg).trans h
theorem fU.Fq {o:Nat} {pre xs post:List Bool} (h:fU w g (pre++xs++post)) (ho:o=pre.length) (k:Nat) (hk:k<xs.length):w.cell? ⟨g,o+k,none⟩=some (.bool (xs.getD k false)):=by
 rw[h.cell (o+k) (by simp;omega),ho,LB.jS pre xs post k hk]
theorem fU.k9 {w:World} {g o:Nat} {pre xs post:List Bool} (h:fU w g (pre++xs++post)) (ho:o=pre.length) (k:Nat) (z:Bool) (hk:k<xs.length):fU (w.setCell ⟨g,o+k,none⟩ (.bool z)) g (pre++xs.set k z++post):=by
 have:=h.ky (o+k) z;rwa [ho,LB.k9 pre xs post k z hk,<-ho]at this
theorem fU.rd {ls:List Bool} (h:fU w g ls) (o n:Nat) (hn:o+n<=ls.length) (hB:g<B):jk w B (some ⟨g,o,none⟩) ((ls.drop o).take n):=fun _=>by
 refine⟨g,o,rfl,hB,fun j hj=>?_⟩;have aa:j<n:=by rw[Bm]at hj;omega
 rw[h.cell (o+j) ω,LB.fy hj,LB.fy (by omega:o+j<ls.length),Dn,Dy]
theorem fU.p7 {ls:List Bool} (h:fU w g ls) (hB:g<B):jk w B (some ⟨g,0,none⟩) ls:=by
 have:=h.rd 0 ls.length ω hB;simpa using this
theorem NW:(prog.info? 4).map (fun i=>(i.zero,i.size,i.bytes))=some (some (.bool false),1,1):=κ
theorem KE (n:Nat):(List.replicate n false).map Value.bool=List.replicate n (.bool false):=σ
theorem Ky {ls:List Bool} (h:w.ownsRow base 4 1 (.slice (some ⟨g,0,none⟩) n n) n (ls.map Value.bool)):fU w g ls:=by
 rcases h.2 with⟨he,_⟩|⟨g',cap,cur,he,hb,hg,hn,hm,hs,ht⟩
 ·cases he
 ·injection he with e1 e2 e3;injection e1 with e1;injection e1 with e1;subst e1 e3;unfold fU;rw[hg,<-ht,Cq (by simp[hs])]
theorem Ir {rest:List Oper} {o:Oper} {a:Act} {Q:Exit->Act->World->Prop} (hg:o.guard=none) (l c:Operand) (t:TypeId) (ac:o.op=Op.makeSlice t l c) (ht:prog.underlying t=some (.slice 4)) (n:Nat) (L C:Int) (hl:a.eval l=.int .i64 L) (hc:a.eval c=.int .i64 C) (hL:L=(n:Int)) (hC:C=(n:Int)) (hn:n<=35184372088832) (hK:∀w',fU w' w.heap.size (List.replicate n false)->β w w'->w.heap.size<w'.heap.size->wpList prog ops Q rest (a.put o.dst (.slice (some ⟨w.heap.size,0,none⟩) n n)) w') :
  wpList prog ops Q (o::rest) a w:=by
 obtain⟨i,hi,ad,ae,af⟩:=CF NW;refine wpList_make_full w hg l c t ac w.heap.size 4 i (.bool false) 1 ht hi ad ae .i64 .i64 L C n hl hc hL hC (by rw[af];omega) (by unfold maxLen;omega) (Af _) fun w' aa b=>?_
 have ab:fU w' w.heap.size (List.replicate n false):=by
  refine Ky (base:=w.heap.size) (n:=n) ?_;rw[KE]
  have e:(madeCells (Value.bool false).cells (n*1)).toList=List.replicate n (Value.bool false):=by
   rw[DS];exact EL _ _
  rw[e]at aa;exact aa
 exact hK w' ab ⟨b.os,b.tape,b.output,b.size,fun k hk=>b.block k hk σ⟩ ab.lt
end Go.Proofs.YtjjbaehamplnaaaGreat
namespace Go.Proofs.YtjjbaehamplnaaaGreat
def Gm.pW (r:List Int):List Int:=(r.filter fun z=>decide (z<0)).map fun z=>-1-z
theorem Gm.uI (h:k<r.length):Gm.pW (r.take (k+1))=if r.getD k 0<0 then Gm.pW (r.take k)++[-1-r.getD k 0] else Gm.pW (r.take k):=by
 unfold Gm.pW;rw[L.jt r k h,CH,Bi];generalize r.getD k 0=z;by_cases hz:z<0
 ·rw[Az hz];simp[hz]
 ·rw[AJ hz];simp[hz]
theorem Gm.oB (r:List Int):(Gm.pW r).length<=r.length:=by
 unfold Gm.pW;rw[Bh];exact CD _ _
theorem Gm.lj {n:Int}:n∈Gm.pW r ↔ -1-n∈r/\0<=n:=by
 unfold Gm.pW;rw[Bo]
 constructor
 ·rintro⟨z,hz,rfl⟩
  have:=Cc.1 hz
  have h2:=CN this.2;exact⟨by rw[show -1-(-1-z)=z by omega];exact this.1,ω⟩
 ·rintro⟨h1,h2⟩;exact⟨-1-n,Cc.2 ⟨h1,by simp;omega⟩,ω⟩
theorem Ik (z:Int) (w:World) :
  Calls prog 176 #[.int .i64 z] w fun e w'=>e=.returned (.bool (decide (z<0)))/\w'=w:=by
 go_enter func176,ntmps176
 go_wp2;go_ret
 exact⟨rfl,rfl⟩
theorem Ht (z:Int) (hz:-9223372036854775808<=z) (aa:z<=9223372036854775807) (w:World) :
  Calls prog 177 #[.int .i64 z] w fun e w'=>e=.returned (.int .i64 (-1-z))/\w'=w:=by
 have hs:IntKind.i64.wrap (-1-z) = -1-z:=BV _ ω;clear hz aa
 go_enter func177,ntmps177
 go_wp2;go_ret
 exact⟨rfl,rfl⟩
theorem L8 (x:Gm.Rl) (A:Option Addr) (c B:Nat) (w:World) (hr:gg w B A x.r) (b:∀z∈x.r,Gm.In z) (hB:B<=w.heap.size) (hl:x.r.length<=1000000) :
  Calls prog 201 #[.agg #[.int .i64 x.l,.slice A x.r.length c,.int .i64 x.p]] w fun e w'=>∃v,e=.returned v/\aV w' w.heap.size v (Gm.pW x.r)/\β w w':=by
 have HR:=aA hr;have ac:=aA b;have HI:=aA (fun z w=>Ik z w);have HX:=aA (fun z h1 h2 w=>Ht z h1 h2 w);have ad:=aA hB;have HL:=aA hl;have ae:(x.r.length:Int)<=9223372036854775807:=ω
 have HA:=aA (fun o=>(AB w.heap.size w).alloc (Af _) o);clear hr b hB hl
 go_enter func201,ntmps201
 go_wp2;go_loopw [3,9] (fun vl vi wr=>∃k:Nat,k<=x.r.length/\vi=.int .i64 k/\Hid (aV wr w.heap.size vl (Gm.pW (x.r.take k)))/\Hid (β w wr)) (fun _ vi _=>x.r.length-(intOf vi).toNat)
 case atStart=>exact⟨0,Bb _,rfl,aA (aV.nil _ _),HA.o _⟩
 case round =>
  obtain⟨k,hk,rfl,HO,HB⟩:=hrel;by_cases hlt:k<x.r.length
  ·obtain⟨g,o,rfl,af,hc⟩:=HR.o ω;have k0:=(HB.o.cell (p:=⟨g,o+k,none⟩) (Aj af ad.o)).trans (hc k hlt);have b:=ac.o (x.r.getD k 0) (by rw[L.fy hlt];exact AD _);have HN:=aA (Gm.uI hlt);have ag:Hid ((Gm.pW (x.r.take k)).length<=1000000):=aA (Ah (Gm.oB _) (by rw[Bm];have:=HL.o;omega));clear hc;unfold Gm.In at b;generalize x.r.getD k 0=z at *;have ah:=aA (fun w=>HX.o z b.1 b.2 w);have aa:=aA (fun w=>HI.o z w);clear b;by_cases hz:z<0
   ·have ab:=aA (HN.o.trans (Az hz));rw[AV hz]at aa;clear hz;go_wp2_with fail
    refine(aa.o _).mono ?_;rintro _ w2 ⟨rfl,d⟩;subst d;go_wp2_with fail
    refine(ah.o _).mono ?_;rintro _ w2 ⟨rfl,d⟩;subst d;generalize -1-z=n at *;go_wp2_with (at_builtin;refine yA rfl (.tmp 15) (.tmp 18) _ rfl underlying51 w.heap.size _ _ rfl (HO.o.alloc _) _ 1 n rfl (Df _ _ _ 0) (by have:=ag.o;omega) (by have:=HB.o.size;simp;omega) ?_;intro v' w2 ai aj)
    go_roundw
    case rel=>exact⟨k+1,hlt,ν,by rw[ab.o];exact ai,KC (HB.o.alloc (by have:=HB.o.size;omega) _) (HO.o.alloc _) aj (by have:=HB.o.size;simp;omega)⟩
    case measure=>simp[intOf];omega
   ·have ab:=aA (HN.o.trans (AJ hz));rw[AU hz]at aa;clear hz;go_wp2_with fail
    refine(aa.o _).mono ?_;rintro _ w2 ⟨rfl,d⟩;subst d;go_wp2_with fail
    go_roundw
    case rel=>exact⟨k+1,hlt,ν,by rw[ab.o];exact HO,HB⟩
    case measure=>simp[intOf];omega
  ·obtain rfl:k=x.r.length:=ω
   rw[Bp]at HO;go_wp2;go_ret
   exact⟨_,rfl,HO.o,HB.o⟩
theorem Gm.tX {is:List Bool}:Gm.iv true is r=(Gm.pW r).all fun n=>is.getD n.toNat false:=by
 unfold Gm.iv Gm.pW;rw[List.all_map,List.all_filter]
 congr 1
 funext z
 by_cases h:z<0
 ·simp[h,show ¬0<=z by omega]
 ·simp[h,show 0<=z by omega]
def tT (l:List Int) (p:Int->Bool) (k:Nat):Prop:=∀i (h:i<l.length),i<k->p l[i]=true
theorem tT.next {p:Int->Bool} (h:tT l p k) (hk:k<l.length) (hn:p l[k]=true):tT l p (k+1):=fun i hi aa=>by
 rcases BM i k with q|q
 ·exact h i hi q
 ·obtain rfl:i=k:=ω
  exact hn
theorem tT.all {p:Int->Bool} (h:tT l p l.length):l.all p=true:=by
 rw[B6];intro z hz;obtain⟨i,hi,rfl⟩:=BG hz;exact h i hi hi
theorem tT.not {p:Int->Bool} (hk:k<l.length) (h:p l[k]=false):l.all p=false:=by
 rw[Eg];exact⟨_,AD hk,by rw[h];simp⟩
theorem Kx (x:Gm.Rl) (is:List Bool) (A A2:Option Addr) (c c2 B:Nat) (w:World) (hr:gg w B A x.r) (ad:∀z∈x.r,Gm.In z) (hs:∀z∈x.r,z<0->-1-z<(is.length:Int)) (hp:jk w B A2 is) (hB:B<=w.heap.size) (hl:x.r.length<=1000000) :
  Calls prog 179 #[.agg #[.int .i64 x.l,.slice A x.r.length c,.int .i64 x.p],.slice A2 is.length c2] w fun e w'=>e=.returned (.bool (Gm.iv true is x.r))/\β w w':=by
 have ae:=aA (fun(y:World) (h:β w y)=>L8 x A c B y (hr.below h hB) ad (Ah hB h.size) hl);have HP:=aA hp;have aj:=aA hB;have aa:=aA (fun n (h:n∈Gm.pW x.r)=>(show 0<=n/\n<(is.length:Int) from⟨(Gm.lj.1 h).2,by have:=hs _ (Gm.lj.1 h).1 (by have:=(Gm.lj.1 h).2;omega);omega⟩));have HE:=aA (Gm.tX (is:=is) (r:=x.r));have HA:=aA (fun o=>(AB w.heap.size w).alloc (Af _) o);have ak:=aA (Ah (Gm.oB x.r) hl);rw[HE.o];generalize Gm.pW x.r=ls at *;have al:(ls.length:Int)<=9223372036854775807:=by have:=ak.o;omega
 clear hr ad hs hp hB hl HE
 go_enter func179,ntmps179
 go_wp2_with fail
 refine(ae.o _ (HA.o _)).mono ?_;rintro _ w2 ⟨v,rfl,af,ag⟩;have ab:=aA ((HA.o (.cells #[.int .i64 x.l,.slice A x.r.length c,.int .i64 x.p] 74)).trans (ag.mono σ));obtain⟨A3,c3,rfl,am,ao,ah⟩:=af.form;have ap:=aA ah;clear af ag ah am ao ae;go_wp2
 go_loop [10] (fun vi=>∃k:Nat,k<=ls.length/\vi=.int .i64 k/\Hid (tT ls (fun n=>is.getD n.toNat false) k)) (fun vi=>ls.length-(intOf vi).toNat)
 case atStart=>exact⟨0,Bb _,rfl,aA (fun _ _ h=>absurd h ω)⟩
 case round =>
  obtain⟨k,hk,rfl,HK⟩:=hrel;by_cases hlt:k<ls.length
  ·obtain⟨g,o,rfl,ar,hc⟩:=ap.o ω;have k0:=hc k hlt;have hm:=aa.o _ (AD hlt);rw[L.fy hlt]at k0;have HY:=aA (fun h=>HK.o.next hlt h);have HN:=aA (fun h=>tT.not (p:=fun n=>is.getD n.toNat false) hlt h);clear hc;generalize ls[k]=n at *;obtain⟨m,rfl⟩:∃m:Nat,n=(m:Int):=⟨n.toNat,ω⟩
   have aq:m<is.length:=ω
   obtain⟨g2,o2,rfl,ac,ai⟩:=HP.o ω;have k2:=(ab.o.cell (p:=⟨g2,o2+m,none⟩) (Aj ac aj.o)).trans (ai m aq);have au:(m:Int)<(is.length:Int):=ω
   simp only[Cj]at HY HN;generalize is.getD m false=b at *;clear ai hm;cases b
   ·have HX:=aA (HN.o rfl);go_wp2;go_ret
    exact⟨aD HX.o.symm,ab.o⟩
   ·have HX:=aA (HY.o rfl);go_wp2
    go_round
    case rel=>exact⟨k+1,hlt,ν,HX⟩
    case measure=>simp[intOf];omega
  ·obtain rfl:k=ls.length:=ω
   have HX:=aA (HK.o.all);go_wp2;go_ret
   exact⟨aD HX.o.symm,ab.o⟩
def Gm.ps (tm:Bool) (is:List Bool) (z:Int):Bool:=if 0<=z then tm else is.getD (-1-z).toNat false
theorem Gm.wN (tm:Bool) (is:List Bool) (r:List Int):Gm.iv tm is r=r.all (Gm.ps tm is):=rfl
theorem Gm.rq {is:List Bool} (h:z<0):∃m:Nat,-1-z=(m:Int)/\Gm.ps tm is z=is.getD m false:=by
 refine⟨(-1-z).toNat,ω,?_⟩;unfold Gm.ps;rw[AJ ω]
theorem Gm.oH {is:List Bool} (h:¬z<0):Gm.ps tm is z=tm:=by unfold Gm.ps;rw[Az ω]
theorem Qo (z:Int) (is:List Bool) (A:Option Addr) (c B:Nat) (w:World) (hz:Gm.In z) (hs:z<0->-1-z<(is.length:Int)) (hr:jk w B A is) :
  Calls prog 226 #[.int .i64 z,.slice A is.length c] w fun e w'=>e=.returned (.bool (Gm.ps false is z))/\w'=w:=by
 unfold Gm.In at hz;have HI:=aA (fun w=>Ik z w);have HX:=aA (fun w=>Ht z hz.1 hz.2 w);by_cases h0:z<0
 ·obtain⟨m,he,hp⟩:=Gm.rq (tm:=false) (is:=is) h0;have hm:=hs h0;rw[he]at HX hm;have aa:m<is.length:=ω
  obtain⟨g,o,rfl,ab,hc⟩:=hr ω;have k0:=hc m aa;rw[hp];rw[AV h0]at HI;generalize is.getD m false=b at *;clear hz hs hr hc h0 he hp
  go_enter func226,ntmps226
  go_wp2_with fail
  refine(HI.o _).mono ?_;rintro _ w2 ⟨rfl,d⟩;subst d;go_wp2_with fail
  refine(HX.o _).mono ?_;rintro _ w2 ⟨rfl,d⟩;subst d;go_wp2;go_ret
  exact⟨rfl,rfl⟩
 ·rw[Gm.oH h0];rw[AU h0]at HI;clear hz hs hr h0 HX
  go_enter func226,ntmps226
  go_wp2_with fail
  refine(HI.o _).mono ?_;rintro _ w2 ⟨rfl,d⟩;subst d;go_wp2;go_ret
  exact⟨rfl,rfl⟩
theorem Qn (z:Int) (is:List Bool) (A:Option Addr) (c B:Nat) (w:World) (hz:Gm.In z) (hs:z<0->-1-z<(is.length:Int)) (hr:jk w B A is) :
  Calls prog 175 #[.int .i64 z,.slice A is.length c] w fun e w'=>e=.returned (.bool (Gm.ps true is z))/\w'=w:=by
 unfold Gm.In at hz;have HI:=aA (fun w=>Ik z w);have HX:=aA (fun w=>Ht z hz.1 hz.2 w);by_cases h0:z<0
 ·obtain⟨m,he,hp⟩:=Gm.rq (tm:=true) (is:=is) h0;have hm:=hs h0;rw[he]at HX hm;have aa:m<is.length:=ω
  obtain⟨g,o,rfl,ab,hc⟩:=hr ω;have k0:=hc m aa;rw[hp];rw[AV h0]at HI;generalize is.getD m false=b at *;clear hz hs hr hc h0 he hp
  go_enter func175,ntmps175
  go_wp2_with fail
  refine(HI.o _).mono ?_;rintro _ w2 ⟨rfl,d⟩;subst d;go_wp2_with fail
  refine(HX.o _).mono ?_;rintro _ w2 ⟨rfl,d⟩;subst d;go_wp2;go_ret
  exact⟨rfl,rfl⟩
 ·rw[Gm.oH h0];rw[AU h0]at HI;clear hz hs hr h0 HX
  go_enter func175,ntmps175
  go_wp2_with fail
  refine(HI.o _).mono ?_;rintro _ w2 ⟨rfl,d⟩;subst d;go_wp2;go_ret
  exact⟨rfl,rfl⟩
theorem JA (l:List Int) (is:List Bool) (tm:Bool) (A A2:Option Addr) (c c2 B B2:Nat) (w:World) (hr:gg w B A l) (aa:∀z∈l,Gm.In z) (hs:∀z∈l,z<0->-1-z<(is.length:Int)) (hp:jk w B2 A2 is) (hl:l.length<=1000000) :
  Calls prog 115 #[.slice A l.length c,.slice A2 is.length c2,.bool tm] w fun e w'=>e=.returned (.bool (Gm.iv tm is l))/\w'=w:=by
 have HR:=aA hr;have HP:=aA hp;have ad:=aA aa;have HS:=aA hs;rw[Gm.wN];have ae:(l.length:Int)<=9223372036854775807:=ω
 clear hr aa hs hp hl
 go_enter func115,ntmps115
 go_wp2
 go_loop [7] (fun vi=>∃k:Nat,k<=l.length/\vi=.int .i64 k/\Hid (tT l (Gm.ps tm is) k)) (fun vi=>l.length-(intOf vi).toNat)
 case atStart=>exact⟨0,Bb _,rfl,aA (fun _ _ h=>absurd h ω)⟩
 case round =>
  obtain⟨k,hk,rfl,HK⟩:=hrel;by_cases hlt:k<l.length
  ·obtain⟨g,o,rfl,ah,hc⟩:=HR.o ω;have k0:=hc k hlt;rw[L.fy hlt]at k0;have hz:=ad.o _ (AD hlt);have hq:=HS.o _ (AD hlt);have HY:=aA (fun h=>HK.o.next hlt h);have HN:=aA (fun h=>tT.not (p:=Gm.ps tm is) hlt h);clear hc;generalize l[k]=z at *;unfold Gm.In at hz;by_cases h0:z<0
   ·obtain⟨m,he,ab⟩:=Gm.rq (tm:=tm) (is:=is) h0;have hm:=hq h0;rw[he]at hm;have af:m<is.length:=ω
    obtain⟨g2,o2,rfl,ag,ac⟩:=HP.o ω;have k2:=ac m af;have d0:decide (0<=z)=false:=AU ω;have d1:decide (z<0)=true:=AV h0;have d2:IntKind.i64.wrap (-1-z)=(m:Int):=by rw[BV _ ω];exact he
    rw[ab]at HY HN;generalize is.getD m false=b at *;clear hz hq ac he ab h0;cases b
    ·have HX:=aA (HN.o rfl);go_wp2;go_ret
     exact⟨aD HX.o.symm,rfl⟩
    ·have HX:=aA (HY.o rfl);go_wp2
     go_round
     case rel=>exact⟨k+1,hlt,ν,HX⟩
     case measure=>simp[intOf];omega
   ·have d0:decide (0<=z)=true:=AV ω;have d1:decide (z<0)=false:=AU h0;rw[Gm.oH h0]at HY HN;clear hz hq h0;cases tm
    ·have HX:=aA (HN.o rfl);go_wp2;go_ret
     exact⟨aD HX.o.symm,rfl⟩
    ·have HX:=aA (HY.o rfl);go_wp2
     go_round
     case rel=>exact⟨k+1,hlt,ν,HX⟩
     case measure=>simp[intOf];omega
  ·obtain rfl:k=l.length:=ω
   have HX:=aA (HK.o.all);go_wp2;go_ret
   exact⟨aD HX.o.symm,rfl⟩
theorem yE {fn:Func} (hf:prog.funcs[f]?=some fn) (hb:fn.body.isNone=false) (hn:(fn.name == "runtime.NumGoroutine")=false) (args:Array Value) (w:World):Sem.run prog (callFunc f args) w=.ok (.enter f args) w:=by
 have aa:¬fn.name = "runtime.NumGoroutine" := by simpa using hn
 have ab:fn.body≠none:=by intro h;rw[h]at hb;cases hb
 simp[callFunc,go_sem,hf,ab,aa]
theorem Se (w:World) (b:List Int) (base:Nat) (hb:base<=w.heap.size) (hm:b.length<=maxLen):aV (w.alloc (.cells (b.map (Value.int .i64)).toArray 3)) base (.slice (some ⟨w.heap.size,0,none⟩) b.length b.length) b :=
 ⟨σ,.inr ⟨w.heap.size,b.length,_,rfl,hb,AI w _,Af _,hm,σ,by simp[Cq]⟩⟩
def Gm.wg (tm:Bool) (is:List Bool) (x:Gm.Rl):List Int:=if Gm.iv tm is x.r=true then [x.l] else []
theorem PW (f:Nat) (hE:∀args w,Sem.run prog (callFunc f args) w=.ok (.enter f args) w) (tm:Bool) (x:Gm.Rl) (is:List Bool) (A A2:Option Addr) (c c2 B gp gk:Nat) (w:World) (hf:∀z y,β w y->z∈x.r->Calls prog f #[.int .i64 z,.slice A2 is.length c2] y fun e w'=>e=.returned (.bool (Gm.ps tm is z))/\w'=y) (ac:w.cell? ⟨gp,0,none⟩=some (.func (Fn.func f) #[] #[])) (ad:w.cell? ⟨gk,0,none⟩=some (.slice A2 is.length c2)) (hr:gg w B A x.r) (hB:B<=w.heap.size) (hl:x.r.length<=1000000) :
  Calls prog 199 #[.agg #[.int .i64 x.l,.slice A x.r.length c,.int .i64 x.p],.pointer (some ⟨gp,0,none⟩),.pointer (some ⟨gk,0,none⟩)] w fun e w'=>∃v,e=.returned v/\aV w' w.heap.size v (Gm.wg tm is x)/\β w w':=by
 have HF:=aA hf;have HR:=aA hr;have ae:=aA hB;have HA:=aA (fun o=>(AB w.heap.size w).alloc (Af _) o);have lp:=Bl ac;have lk:=Bl ad;have af:(x.r.length:Int)<=9223372036854775807:=ω
 have HE:Hid (Gm.wg tm is x=if x.r.all (Gm.ps tm is)=true then [x.l] else []):=aA rfl;clear hf hr hB hl
 go_enter func199,ntmps199
 go_wp2
 go_loop [10] (fun vi=>∃k:Nat,k<=x.r.length/\vi=.int .i64 k/\Hid (tT x.r (Gm.ps tm is) k)) (fun vi=>x.r.length-(intOf vi).toNat)
 case atStart=>exact⟨0,Bb _,rfl,aA (fun _ _ h=>absurd h ω)⟩
 case round =>
  obtain⟨k,hk,rfl,HK⟩:=hrel;by_cases hlt:k<x.r.length
  ·obtain⟨g,o,rfl,ag,hc⟩:=HR.o ω;have k0:=hc k hlt;rw[L.fy hlt]at k0;have ah:g<w.heap.size:=Aj ag ae.o;have aa:=aA (fun y h=>HF.o _ y h (AD hlt));have HY:=aA (fun h=>HK.o.next hlt h);have HN:=aA (fun h=>tT.not (p:=Gm.ps tm is) hlt h);clear hc;generalize x.r[k]=z at *;cases hb:Gm.ps tm is z
   ·rw[hb]at aa;have HX:=aA (HE.o.trans (AJ (by rw[HN.o hb];decide)));clear hb;go_wp2_with fail
    refine(aa.o _ (HA.o _)).mono ?_;rintro _ w2 ⟨rfl,ab⟩;subst ab;go_wp2;go_ret
    exact⟨_,rfl,by rw[HX.o];exact aV.nil _ _,HA.o _⟩
   ·rw[hb]at aa;have HX:=aA (HY.o hb);clear hb;go_wp2_with fail
    refine(aa.o _ (HA.o _)).mono ?_;rintro _ w2 ⟨rfl,ab⟩;subst ab;go_wp2
    go_round
    case rel=>exact⟨k+1,hlt,ν,HX⟩
    case measure=>simp[intOf];omega
  ·obtain rfl:k=x.r.length:=ω
   have HX:=aA (HE.o.trans (Az HK.o.all));go_wp2;go_ret
   have q:=Se (w.alloc (.cells #[.int .i64 x.l,.slice A x.r.length c,.int .i64 x.p] 74)) [x.l] w.heap.size σ (by unfold maxLen;simp);rw[show(w.alloc (.cells #[.int .i64 x.l,.slice A x.r.length c,.int .i64 x.p] 74)).heap.size=w.heap.size+1 by simp]at q;exact⟨_,rfl,by rw[HX.o];exact q,(HA.o _).alloc (HA.o _).size _⟩
def Kn (w:World) (g:Nat):Nat:=match w.heap[g]? with
 | some (.cells cs _ _)=>cs.toList.countP fun v=>match v with | .bool false=>true|_=>false
 | _=>0
theorem fU.xc {s:List Bool} (h:fU w g s):Kn w g=s.count false:=by
 unfold Kn;rw[h];clear h;simp only;induction s with
 | nil=>rfl
 | cons b s ih =>
  simp only[Bw,List.countP_cons,List.count_cons]at ih ⊢;rw[ih];cases b <;> rfl
theorem Gm.pC (s:List Bool):s.count false+Gm.ct s=s.length:=by
 unfold Gm.ct;induction s with
 | nil=>rfl
 | cons b s ih=>cases b <;> simp <;> omega
theorem Gm.y7 {s:List Bool} (h:i<s.length):(s.getD i false=true->s.set i true=s)/\(s.getD i false=false->Gm.ct (s.set i true)=Gm.ct s+1):=by
 induction s generalizing i with
 | nil=>simp at h
 | cons b s ih =>
  cases i with
  | zero=>cases b <;> simp[Gm.ct]
  | succ i =>
   have:=ih (i:=i) (by simpa using h)
   simp only[List.getD_cons_succ,DM];refine⟨fun e=>by rw[this.1 e],fun e=>?_⟩;have h2:=this.2 e;unfold Gm.ct at h2 ⊢;cases b <;> simp_all
structure qw (w wr:World) (gk n:Nat) (D:Int->Prop) (s0 s:List Bool):Prop where
 u:fU wr gk s
 l:s.length=n
 d:∀i:Nat,s.getD i false=true->D (i:Int)
 le:Gm.Le s0 s
 g:w.grownBy wr (some gk)
theorem qw.alloc {w wr:World} {gk n:Nat} {D:Int->Prop} {s0 s:List Bool} (h:qw w wr gk n D s0 s) (o:Obj):qw w (wr.alloc o) gk n D s0 s:=⟨h.u.alloc o,h.l,h.d,h.le,aI h.g o⟩
theorem qw.below {w wr w':World} {gk n:Nat} {D:Int->Prop} {s0 s:List Bool} (h:qw w wr gk n D s0 s) (hb:β wr w'):qw w w' gk n D s0 s:=⟨h.u.below hb h.u.lt,h.l,h.d,h.le,qI h.g (aL hb _)⟩
theorem qw.set {w wr:World} {gk n:Nat} {D:Int->Prop} {s0 s:List Bool} (h:qw w wr gk n D s0 s) {m:Nat} (hd:D (m:Int)):qw w (wr.setCell ⟨gk,m,none⟩ (.bool true)) gk n D s0 (s.set m true) :=
 ⟨h.u.ky m true,by rw[CE];exact h.l,fun i hi=>by
  rcases Gm.jq _ _ _ hi with h1|h1
  ·exact h.d i h1
  ·rw[h1];exact hd,h.le.trans (Gm.Le.set _ _),aF h.g m _⟩
def Nw (s0 s:List Bool) (b:Bool) (C:Prop):Prop:=(b=false->s=s0/\C)/\(b=true->Gm.ct s0<Gm.ct s)
theorem Nw.start (s:List Bool) (C:Prop) (hC:C):Nw s s false C:=⟨fun _=>⟨rfl,hC⟩,fun h=>by cases h⟩
theorem Nw.mono {s:List Bool} {b:Bool} {C C':Prop} (h:Nw s0 s b C) (k:C->C'):Nw s0 s b C':=⟨fun e=>⟨(h.1 e).1,k (h.1 e).2⟩,h.2⟩
theorem Nw.next {s:List Bool} {b:Bool} {C C':Prop} (h:Nw s0 s b C) (hm:m<s.length) (hC:C->s0.getD m false=true->C'):Nw s0 (s.set m true) (b || !s.getD m false) C':=by
 obtain⟨h1,h2⟩:=Gm.y7 hm;cases hv:s.getD m false
 ·refine⟨fun e=>by simp at e,fun _=>?_⟩;rw[h2 hv];cases b
  ·rw[(h.1 rfl).1];omega
  ·have:=h.2 rfl;omega
 ·rw[h1 hv];refine⟨fun e=>?_,fun e=>h.2 (by simpa using e)⟩;have hb:b=false:=by simpa using e
  obtain⟨e1,c⟩:=h.1 hb;refine⟨e1,hC c ?_⟩;rw[<-e1];exact hv
theorem aV.xG {c:Nat} {xs:List Int} (h:aV w base (.slice A n c) xs):gg w w.heap.size A xs:=by
 obtain⟨A',c',e,_,_,hr⟩:=h.form;injection e with e1 _ _;rw[e1];exact hr
theorem aV.jv {xs:List Int} (h:aV w base v xs) (hg:w.grownBy w' (some gk)) (aa:gk<base):aV w' base v xs :=
 Bf h hg (by
  cases hv:v.ownBlock with
  | none=>exact .inl rfl
  | some k=>exact .inr (fun e=>by injection e with e;have:=(Br h k hv).1;omega))
def bN:Value->Nat
 | .bool true=>1
 | _=>0
theorem wD {o:Nat} (h:w.grownBy wr (some gk)) (hB:B<=w.heap.size) (hk:B<=gk) (hg:g<B):wr.cell? ⟨g,o,none⟩=w.cell? ⟨g,o,none⟩ :=
 Ck (h.block g ω (fun e=>by injection e with e;omega))
theorem Mj (fb p1 p2:Nat) (hE:∀args w,Sem.run prog (callFunc fb args) w=.ok (.enter fb args) w) (rs:List Gm.Rl) (AR:Option Addr) (cR ck B gk n:Nat) (w:World) (s0:List Bool) (D:Int->Prop) (br:List Bool->Gm.Rl->List Int) (hR:qL w B AR rs) (hB:B<=w.heap.size) (hk:B<=gk) (hu:fU w gk s0) (hn:s0.length=n) (hd:∀i:Nat,s0.getD i false=true->D (i:Int)) (hl:rs.length<=1000000) (ah:∀(y:World) (s:List Bool) (x:Gm.Rl) (A':Option Addr) (c':Nat),w.grownBy y (some gk)->fU y gk s->s.length=n->x∈rs->gg y B A' x.r->Calls prog fb #[.agg #[.int .i64 x.l,.slice A' x.r.length c',.int .i64 x.p],.pointer (some ⟨p1,0,none⟩),.pointer (some ⟨p2,0,none⟩)] y fun e w'=>∃v,e=.returned v/\aV w' y.heap.size v (br s x)/\β y w') (ai:∀s x,x∈rs->s.length=n->(∀i:Nat,s.getD i false=true->D (i:Int))->∀m∈br s x,0<=m/\m<n/\D m) (aj:∀s x,x∈rs->(br s x).length<=1000000) :
  Calls prog 198 #[.slice (some ⟨gk,0,none⟩) n ck,.slice AR rs.length cR,.func (Fn.func fb) #[] #[.pointer (some ⟨p1,0,none⟩),.pointer (some ⟨p2,0,none⟩)]] w fun e w'=>e=.returned (.tuple #[])/\∃s,qw w w' gk n D s0 s/\∀x∈rs,∀m∈br s x,s.getD m.toNat false=true:=by
 have HR:=aA hR;have HB:=aA hB;have HK:=aA hk;have ay:=aA ah;have az:=aA ai;have a0:=aA aj;have a1:Hid (qw w w gk n D s0 s0):=aA ⟨hu,hn,hd,Gm.Le.refl _,AO _ _⟩;have a2:(rs.length:Int)<=9223372036854775807:=ω
 clear hR hB hk hu hn hd hl ah ai aj
 go_enter func198,ntmps198
 go_wp2;go_loopw [6] (fun vg wr=>∃(s:List Bool) (b:Bool),vg=.bool b/\Hid (qw w wr gk n D s0 s)/\Hid (b=false->∀x∈rs,∀m∈br s x,s.getD m.toNat false=true)) (fun vg wr=>2*Kn wr gk+bN vg)
 case atStart=>exact⟨s0,true,rfl,a1,aA (fun h=>by cases h)⟩
 case round =>
  obtain⟨s,b,rfl,HG,HC⟩:=hrel;obtain⟨wo,a3⟩:∃wo:World,wo=wr:=⟨_,rfl⟩
  subst a3;cases b
  ·go_wp2;go_end0
   exact⟨rfl,s,HG.o,HC.o (by trivial)⟩
  ·clear HC;go_wp2;go_loopw [6,14] (fun vg vi wr=>∃(s1:List Bool) (b1:Bool) (i:Nat),i<=rs.length/\vg=.bool b1/\vi=.int .i64 i/\Hid (qw w wr gk n D s0 s1)/\Hid (Gm.Le s s1)/\Hid (Nw s s1 b1 (∀x∈rs.take i,∀m∈br s x,s.getD m.toNat false=true))) (fun _ vi _=>rs.length-(intOf vi).toNat)
   case atStart=>exact⟨s,false,0,Bb _,rfl,rfl,HG,aA (Gm.Le.refl _),aA (Nw.start _ _ σ)⟩
   case round =>
    obtain⟨s1,b1,i,hi,rfl,rfl,f,a4,A⟩:=hrel;obtain⟨wi,a5⟩:∃wi:World,wi=wr:=⟨_,rfl⟩
    subst a5;by_cases t:i<rs.length
    ·obtain⟨g,o,rfl,ac,hc⟩:=HR.o ω;obtain⟨k0,⟨A',c',k1,_,_,ak⟩,k2⟩:=hc i t;have k0:=(wD f.o.g HB.o HK.o ac).trans k0;have k1:=(wD f.o.g HB.o HK.o ac).trans k1;have k2:=(wD f.o.g HB.o HK.o ac).trans k2;have a6:g<wi.heap.size:=by have:=f.o.g.size;have:=HB.o;omega
     have a9:=aA (fun(o:Obj)=>ay.o (wi.alloc o) s1 rs[i] A' c' (f.o.alloc o).g (f.o.alloc o).u f.o.l (AD t) (ak.fp fun g o hg=>wD (f.o.alloc _).g HB.o HK.o hg));have al:=aA (az.o s1 rs[i] (AD t) f.o.l f.o.d);have ba:=aA (a0.o s1 rs[i] (AD t));have bb:Hid (rs.take (i+1)=rs.take i++[rs[i]]):=aA (AP t);clear hc ak;generalize rs[i]=x at *;have aa:=a4;go_wp2_with fail
     refine(a9.o _).mono ?_;rintro _ w2 ⟨v,rfl,ad,am⟩;have ao:=aA ((f.o.alloc _).below am);have bh:=f.o.u.lt;obtain⟨A3,c3,rfl,bi,bj,_⟩:=ad.form;have ae:=aA ad;have bc:((br s1 x).length:Int)<=9223372036854775807:=by have:=ba.o;omega
     obtain⟨ls,af⟩:∃ls,ls=br s1 x:=⟨_,rfl⟩
     rw[<-af]at ae al bc ⊢;have bd:=aA af;clear ad am af k0 k1 k2 a6;go_wp2;go_loopw [6,22] (fun vg vk wr=>∃(s2:List Bool) (b2:Bool) (k:Nat),k<=ls.length/\vg=.bool b2/\vk=.int .i64 k/\Hid (qw w wr gk n D s0 s2)/\Hid (Gm.Le s1 s2)/\Hid (aV wr (wi.heap.size+1) (.slice A3 ls.length c3) ls)/\Hid (Nw s s2 b2 ((∀x∈rs.take i,∀m∈br s x,s.getD m.toNat false=true)/\∀m∈ls.take k,s.getD m.toNat false=true))) (fun _ vk _=>ls.length-(intOf vk).toNat)
     case atStart=>exact⟨s1,b1,0,Bb _,rfl,rfl,ao,aA (Gm.Le.refl _),aA (by have:=ae.o;simpa using this),aA (A.o.mono fun h=>⟨h,σ⟩)⟩
     case round =>
      clear ao ae;obtain⟨s2,b2,k,bk,rfl,rfl,z,ag,ap,C⟩:=hrel;by_cases j:k<ls.length
      ·obtain⟨g3,o3,rfl,bl,aq⟩:=ap.o.xG ω;have k3:=aq k j;rw[L.fy j]at k3;obtain⟨bf,ar,au⟩:=al.o _ (AD j);have bg:Hid (ls.take (k+1)=ls.take k++[ls[k]]):=aA (AP j);clear aq;generalize ls[k]=mz at *;obtain⟨m,rfl⟩:∃m:Nat,mz=(m:Int):=⟨mz.toNat,ω⟩
       have hmn:m<s2.length:=by rw[z.o.l];omega
       have av:=aA (z.o.set au);have aw:=aA (ag.o.trans (Gm.Le.set s2 m));have ax:=aA (ap.o.jv (aF (AO wr (some gk)) m (.bool true)) ω)
       have ab:=aA (C.o.next hmn (C':=(∀x∈rs.take i,∀m∈br s x,s.getD m.toNat false=true)/\∀m∈ls.take (k+1),s.getD m.toNat false=true) (fun hC hv=>⟨hC.1,fun q hq=>by
        rw[bg.o]at hq;rcases Bs.1 hq with h|h
        ·exact hC.2 q h
        ·obtain rfl:=AW.1 h
         simpa using hv⟩))
       have k4:=z.o.u.cell m hmn;have f4:=z.o.u.frozen m;have bm:=z.o.u.lt;have bn:(m:Int)<(n:Int):=ar;clear au bf ar;generalize s2.getD m false=bv at *;cases b2
       ·rw[Ff]at ab;go_wp2;go_roundw
        case rel=>exact⟨s2.set m true,!bv,k+1,j,rfl,ν,av,aw,ax,ab⟩
        case measure=>simp[intOf];omega
       ·rw[DQ]at ab;go_wp2;go_roundw
        case rel=>exact⟨s2.set m true,true,k+1,j,rfl,ν,av,aw,ax,ab⟩
        case measure=>simp[intOf];omega
      ·obtain rfl:k=ls.length:=ω
       rw[Bp]at C;go_wp2;go_roundw
       case rel =>
        refine⟨s2,b2,i+1,t,rfl,ν,z,aA (aa.o.trans ag.o),aA ⟨fun e=>⟨(C.o.1 e).1,?_⟩,C.o.2⟩⟩;obtain⟨e1,h1,h2⟩:=C.o.1 e;have e2:s1=s:=(by rw[<-e1];exact ag.o:Gm.Le s1 s).nj aa.o;intro y hy;rw[bb.o]at hy;rcases Bs.1 hy with h|h
        ·exact h1 y h
        ·obtain rfl:=AW.1 h;intro q hq;exact h2 q (by rw[bd.o,e2];exact hq)
       case measure=>simp[intOf];omega
    ·obtain rfl:i=rs.length:=ω
     rw[Bp]at A;go_wp2;go_roundw
     case rel=>exact⟨s1,b1,rfl,f,aA fun e=>by
      obtain⟨e1,h1⟩:=A.o.1 e;rw[e1];exact h1⟩
     case measure =>
      have q1:=HG.o.u.xc;have q2:=f.o.u.xc;have q3:=Gm.pC s;have q4:=Gm.pC s1;have q5:=HG.o.l;have q6:=f.o.l;rw[q1,q2];cases b1
      ·obtain⟨e1,_⟩:=A.o.1 rfl;rw[e1];simp[bN]
      ·have:=A.o.2 rfl
       simp[bN];omega
def wI (s:List Bool) (w:World) (e:Ending) (w':World):Prop:=∃g,e=.returned (.slice (some ⟨g,0,none⟩) s.length s.length)/\w.heap.size<=g/\fU w' g s/\β w w'
theorem xU {o:Nat} (h:w.grownBy wr (some gk)) (hg:w.cell? ⟨g,o,none⟩=some u) (aa:g≠gk):wr.cell? ⟨g,o,none⟩=some u :=
 (Ck (h.block g (Bl hg) (fun e=>by injection e with e;exact aa e))).trans hg
theorem Gm.wU {is:List Bool} {x:Gm.Rl} {m:Int} (h:m∈Gm.wg tm is x):m=x.l/\Gm.iv tm is x.r=true:=by
 unfold Gm.wg at h;split at h
 ·exact⟨AW.1 h,by assumption⟩
 ·simp at h
theorem Gm.y4 {is:List Bool} {x:Gm.Rl} (h:Gm.iv tm is x.r=true):x.l∈Gm.wg tm is x:=by
 unfold Gm.wg;rw[Az h];exact AW.2 rfl
theorem Gm.wT (tm:Bool) (is:List Bool) (x:Gm.Rl):(Gm.wg tm is x).length<=1000000:=by
 unfold Gm.wg;split <;> simp
theorem Lv (f:Nat) (hE:∀args w,Sem.run prog (callFunc f args) w=.ok (.enter f args) w) (tm:Bool) (hf:∀(z:Int) (is:List Bool) (A:Option Addr) (c B:Nat) (y:World),Gm.In z->(z<0->-1-z<(is.length:Int))->jk y B A is->Calls prog f #[.int .i64 z,.slice A is.length c] y fun e w'=>e=.returned (.bool (Gm.ps tm is z))/\w'=y) (v:Value) (G:Gm.Gr) (B:Nat) (w:World) (hg:aT w B v G) (aa:Gm.Fit G) (ac:Gm.Ok G) (hB:B<=w.heap.size) :
  Calls prog 174 #[v,.func (Fn.func f) #[] #[]] w (wI (Gm.gn tm G.rs G.ns.length) w):=by
 obtain⟨AT,cT,AN,cN,AR,cR,rfl,_,⟨a9,ba⟩,_,_,_,hR⟩:=hg;have ax:=aA hR;have HB:=aA hB;have af:=aA ac;have ay:=aA aa;have az:=aA hf;have HN:Hid (G.ns.length<=40):=aA (by have:=(Gm.fF G).1 ac.n;omega);have ag:Hid (G.rs.length<=40):=aA ac.kL;have bb:=HN.o;obtain⟨w1,b⟩:∃y,y=(w.alloc (.cells #[.slice AT G.ts.length cT,.slice AN G.ns.length cN,.slice AR G.rs.length cR,.int .i64 G.st] 26)).alloc (.cells #[.func (Fn.func f) #[] #[]] 249):=⟨_,rfl⟩
 have al:w1.heap.size=w.heap.size+2:=by rw[b];simp
 have a0:Hid (β w w1):=aA (by rw[b];exact((AB _ w).alloc (Af _) _).alloc σ _);have x0:w1.heap[w.heap.size]?=some (.cells #[.slice AT G.ts.length cT,.slice AN G.ns.length cN,.slice AR G.rs.length cR,.int .i64 G.st] 26 (0,0)):=by rw[b,BD _ _ _ σ];exact AI w _
 have x1:w1.heap[w.heap.size+1]?=some (.cells #[.func (Fn.func f) #[] #[]] 249 (0,0)):=by rw[b];have:=AI (w.alloc (.cells #[.slice AT G.ts.length cT,.slice AN G.ns.length cN,.slice AR G.rs.length cR,.int .i64 G.st] 26)) (.cells #[.func (Fn.func f) #[] #[]] 249);simpa using this
 have c1:=aU x0;have c2:=bB x0;have cf:=aQ x1;have a1:=aA c2;have a2:=aA cf;have ad:=aA al;have bc:w.heap.size<w1.heap.size:=ω
 have a3:(G.ns.length:Int)<=9223372036854775807:=ω
 clear hR hB ac aa hf x0 x1 c2 cf al
 go_enter func174,ntmps174
 go_upto_region 1 with fail
 rw[<-b];clear b;go_upto_region 2 with(at_make;refine Ir rfl (.tmp 8) (.tmp 8) _ rfl underlying188 G.ns.length _ _ rfl rfl rfl rfl ω ?_;intro w2 am ah a4)
 have x3:=AI w2 (.cells #[.slice (some ⟨w1.heap.size,0,none⟩) G.ns.length G.ns.length] 188);have ai:=am.alloc (.cells #[.slice (some ⟨w1.heap.size,0,none⟩) G.ns.length G.ns.length] 188);have i:Below w1.heap.size w1 (w2.alloc (.cells #[.slice (some ⟨w1.heap.size,0,none⟩) G.ns.length G.ns.length] 188)):=ah.alloc ah.size _;obtain⟨w3,aj⟩:=χ (w2.alloc (.cells #[.slice (some ⟨w1.heap.size,0,none⟩) G.ns.length G.ns.length] 188))
 rw[<-aj]at x3 ai i ⊢;have ao:w2.heap.size<w3.heap.size:=by rw[aj];simp
 have c2:=(i.cell (p:=⟨w.heap.size,2,none⟩) (by simp only;omega)).trans a1.o;have cf:=(i.cell (p:=⟨w.heap.size+1,0,none⟩) (by have:=ad.o;simp only;omega)).trans a2.o;have ck:=aQ x3;have bd:w.heap.size<w3.heap.size:=ω
 have j:β w w3:=a0.o.trans (i.mono (by have:=ad.o;omega));have ap:qL w3 B AR G.rs:=ax.o.fp fun g o hg=>j.cell (p:=⟨g,o,none⟩) (Aj hg HB.o)
 have aq:=aA (Mj 199 (w.heap.size+1) w2.heap.size (yE func199 κ κ) G.rs AR cR G.ns.length B w1.heap.size G.ns.length w3 (List.replicate G.ns.length false) (Gm.Gn tm G.rs) (Gm.wg tm)
  ap (Ah HB.o j.size) (by have:=HB.o;omega) ai σ (Gm.lH.none tm G.rs _) (by have:=ag.o;omega)
  (fun y s x A' c' ak hu hl hx hr=>by
   have e:=ay.o.r x hx;have q2:=xU ak ck ω;rw[<-hl]at q2
   exact PW f hE tm x s A' (some ⟨w1.heap.size,0,none⟩) c' s.length B (w.heap.size+1) w2.heap.size y
    (fun z y' hy hz=>az.o z s _ _ y'.heap.size y' (e.2.2 z hz) (fun h=>by rw[hl];exact af.o.sin x hx z hz h) ((hu.below hy hu.lt).p7 (by have:=hy.size;have:=hu.lt;omega)))
    (xU ak cf (by have:=ad.o;omega)) q2 hr (Ah HB.o (Ah j.size ak.size)) (by have:=(Gm.fT (af.o.rr x hx)).1;omega))
  (fun s x hx hl hd m hm=>by
   obtain⟨rfl,ha⟩:=Gm.wU hm;have h1:=af.o.iO x hx;exact⟨h1.1,h1.2,Gm.Gn.of hx (Gm.lH.all hd ha)⟩)
  (fun s x _=>Gm.wT tm s x))
 have bf:=aA ck;have ar:=aA (fun(y:World) (h:w3.grownBy y (some w1.heap.size))=>xU h ck ω);have au:=aA j;have ab:Hid (∀(y:World) (s:List Bool),qw w3 y w1.heap.size G.ns.length (Gm.Gn tm G.rs) (List.replicate G.ns.length false) s->(∀x∈G.rs,∀m∈Gm.wg tm s x,s.getD m.toNat false=true)->s=Gm.gn tm G.rs G.ns.length/\β w y):=aA (fun y s hg hc=>⟨Gm.uk hg.l hg.d (fun x hx ha=>hc x hx _ (Gm.y4 ha)),aM au.o hg.g (by have:=ad.o;omega) au.o.size⟩);have bg:w2.heap.size<w3.heap.size:=ao;clear ai i x3 ap j cf c1 am ah ao aj;go_wp2_with fail
 refine aq.o.mono ?_;rintro _ w4 ⟨rfl,s,ae,av⟩;obtain⟨e4,aw⟩:=ab.o w4 s ae av;have ck4:=ar.o w4 ae.g;have a5:=aA ae.u;have a6:=aA aw;have bh:w2.heap.size<w4.heap.size:=Bl ck4;clear ae av aw aq ab ar;go_wp2;go_ret
 subst e4;exact⟨w1.heap.size,by rw[Gm.iJ];rfl,ω,a5.o,a6.o⟩
def yT (b:Bool) (s:List Bool) (w:World) (e:Ending) (w':World):Prop:=(b=true->wI s w e w')/\(b=false->e=.returned (.slice none 0 0)/\β w w')
theorem yT.rd {b:Bool} {s:List Bool} {e:Ending} (h:yT b s w e w'):∃A c,e=.returned (.slice A (if b=true then s else []).length c)/\jk w' w'.heap.size A (if b=true then s else [])/\β w w':=by
 cases b
 ·obtain⟨h1,h2⟩:=h.2 rfl;exact⟨none,0,h1,jk.nil _ _ _,h2⟩
 ·obtain⟨g,h1,h2,h3,h4⟩:=h.1 rfl;exact⟨some ⟨g,0,none⟩,s.length,h1,h3.p7 h3.lt,h4⟩
theorem OC (v:Value) (G:Gm.Gr) (B:Nat) (w:World) (hg:aT w B v G) (hf:Gm.Fit G) (hB:B<=w.heap.size) :
  Calls prog 213 #[v] w (yT (Gm.right G) (Gm.gn false G.rs G.ns.length) w):=by
 have H1:=aA (fun(x:World) (h:β w x)=>zT v G B x (hg.below h hB) hf (Ah hB h.size));have H2:=aA (fun(q:Gm.right G=true) (x:World) (h:β w x)=>Lv 226 (yE func226 κ κ) false (fun z is A c B y h1 h2 h3=>Qo z is A c B y h1 h2 h3) v G B x (hg.below h hB) hf (Gm.fq.1 q) (Ah hB h.size));obtain⟨AT,cT,AN,cN,AR,cR,rfl,_⟩:=hg;have aa:=aA (One.start w #[.slice AT G.ts.length cT,.slice AN G.ns.length cN,.slice AR G.rs.length cR,.int .i64 G.st]);clear hf;cases q:Gm.right G
 ·rw[q]at H1;clear q H2
  go_enter func213,ntmps213
  go_wp2_with fail
  refine(H1.o _ aa.o.below).mono ?_;rintro _ w2 ⟨rfl,hb⟩;have b:=aA (aa.o.on hb);clear hb;go_wp2;go_ret
  exact⟨fun h=>by simp at h,fun _=>⟨rfl,b.o.below⟩⟩
 ·have H2:=aA (H2.o q);rw[q]at H1;clear q
  go_enter func213,ntmps213
  go_wp2_with fail
  refine(H1.o _ aa.o.below).mono ?_;rintro _ w2 ⟨rfl,hb⟩;have b:=aA (aa.o.on hb);have q0:=b.o.c 0 _ rfl;have q1:=b.o.c 1 _ rfl;have q2:=b.o.c 2 _ rfl;have q3:=b.o.c 3 _ rfl;have af:w.heap.size<w2.heap.size:=b.o.size;clear hb;go_wp2_with fail
  refine(H2.o _ b.o.below).mono ?_;rintro _ w3 ⟨g,rfl,ab,hu,ac⟩;have HU:=aA hu;have ad:=aA ab;have ae:=aA (b.o.on ac);clear hu ac ab;go_wp2;go_ret
  exact⟨fun _=>⟨g,rfl,by have:=ad.o;omega,HU.o,ae.o.below⟩,fun h=>by simp at h⟩
theorem Jk (v:Value) (G:Gm.Gr) (B:Nat) (w:World) (hg:aT w B v G) (hf:Gm.Fit G) (hB:B<=w.heap.size) :
  Calls prog 131 #[v] w (yT (Gm.right G) (Gm.gn true G.rs G.ns.length) w):=by
 have H1:=aA (fun(x:World) (h:β w x)=>zT v G B x (hg.below h hB) hf (Ah hB h.size));have H2:=aA (fun(q:Gm.right G=true) (x:World) (h:β w x)=>Lv 175 (yE func175 κ κ) true (fun z is A c B y h1 h2 h3=>Qn z is A c B y h1 h2 h3) v G B x (hg.below h hB) hf (Gm.fq.1 q) (Ah hB h.size));obtain⟨AT,cT,AN,cN,AR,cR,rfl,_⟩:=hg;have aa:=aA (One.start w #[.slice AT G.ts.length cT,.slice AN G.ns.length cN,.slice AR G.rs.length cR,.int .i64 G.st]);clear hf;cases q:Gm.right G
 ·rw[q]at H1;clear q H2
  go_enter func131,ntmps131
  go_wp2_with fail
  refine(H1.o _ aa.o.below).mono ?_;rintro _ w2 ⟨rfl,hb⟩;have b:=aA (aa.o.on hb);clear hb;go_wp2;go_ret
  exact⟨fun h=>by simp at h,fun _=>⟨rfl,b.o.below⟩⟩
 ·have H2:=aA (H2.o q);rw[q]at H1;clear q
  go_enter func131,ntmps131
  go_wp2_with fail
  refine(H1.o _ aa.o.below).mono ?_;rintro _ w2 ⟨rfl,hb⟩;have b:=aA (aa.o.on hb);have q0:=b.o.c 0 _ rfl;have q1:=b.o.c 1 _ rfl;have q2:=b.o.c 2 _ rfl;have q3:=b.o.c 3 _ rfl;have af:w.heap.size<w2.heap.size:=b.o.size;clear hb;go_wp2_with fail
  refine(H2.o _ b.o.below).mono ?_;rintro _ w3 ⟨g,rfl,ab,hu,ac⟩;have HU:=aA hu;have ad:=aA ab;have ae:=aA (b.o.on ac);clear hu ac ab;go_wp2;go_ret
  exact⟨fun _=>⟨g,rfl,by have:=ad.o;omega,HU.o,ae.o.below⟩,fun h=>by simp at h⟩
end Go.Proofs.YtjjbaehamplnaaaGreat
namespace Go.CalmN
section
variable {P:Program} {ops:Array Oper} {Q:Exit->Act->World->Prop} {md:Region.Mode}
def il:Op->Bool
 | .move _ | .assign _ | .pick .. | .load .. | .convert .. | .binOp .. | .unOp .. | .slice .. | .fieldAddr .. | .field .. | .indexAddr .. | .index .. | .extract .. | .build .. | .nilCheck _ | .lookup ..=>true
 | .call c=>match c.callee with
  | .builtin .len | .builtin .cap=>true
  | _=>false
 | _=>false
theorem iX {s:Sem Value} {n:Next} (h:((do pure (.value (<-s))):Sem Next).run P w=.ok n w'):∃u,n=.value u:=by
 rw[EP]at h;cases hs:s.run P w with
 | ok v w1=>rw[hs]at h;simp[Result.andThen,Ds]at h;exact⟨v,h.1.symm⟩
 | halt x w1=>rw[hs]at h;simp[Result.andThen]at h
theorem Hz {α:Type} {n:α} (h:(runtimePanic .nilDeref:Sem α).run P w=.ok n w'):False:=by
 simp[runtimePanic,Result.andThen]at h
theorem jU {o:Oper} (hp:il o.op=true) {a:Act} {n:Next} (h:(execOp a.eval o).run P w=.ok n w'):∃u,n=.value u:=by
 obtain⟨dst,op,type,pos,after,guard⟩:=o;cases op with
 | call c =>
  obtain⟨callee,args,ats⟩:=c;cases callee with
  | builtin b =>
   cases b with
   | len=>exact iX (s:=Builtin.len_ ats type (args.map a.eval)) h
   | cap=>exact iX (s:=Builtin.cap_ ats type (args.map a.eval)) h
   | _=>exact absurd hp (by simp[il])
  | invoke recv name=>exact absurd hp (by simp[il])
  | value f=>exact absurd hp (by simp[il])
 | move x=>simp[execOp,Ds]at h;exact⟨_,h.1.symm⟩
 | assign x=>simp[execOp,Ds]at h;exact⟨_,h.1.symm⟩
 | pick c x y =>
  simp only[execOp,EP]at h;cases hs:(asBool (a.eval c)).run P w with
  | ok v w1=>rw[hs]at h;simp[Result.andThen,Ds]at h;exact⟨_,h.1.symm⟩
  | halt x w1=>rw[hs]at h;simp[Result.andThen]at h
 | nilCheck x =>
  simp only[execOp]at h;split at h
  ·exact(Hz h).elim
  ·exact(Hz h).elim
  ·exact(Hz h).elim
  ·split at h
   ·exact(Hz h).elim
   ·simp only[EP]at h;generalize (program:Sem Program).run P w=r1 at h;cases r1 with
    | halt x w1=>simp[Result.andThen]at h
    | ok pr w1 =>
     simp only[E8]at h
     revert h
     generalize (nilAhead _ _ _ _).run P w1=r2;intro h;cases r2 with
     | halt x w1=>simp[Result.andThen]at h
     | ok b w2 =>
      simp only[E8]at h;split at h
      ·simp[Result.andThen]at h
      ·simp[Ds]at h;exact⟨_,h.1.symm⟩
   ·simp[Ds]at h;exact⟨_,h.1.symm⟩
  ·simp[Ds]at h;exact⟨_,h.1.symm⟩
 | _=>first
  | (simp[il]at hp;done)
  | exact iX h
theorem jX {S:World->Prop} {o:Oper} {a:Act} (hp:il o.op=true) (hw:Region.wanted o (yielded ops a.tmps)=true) (h:∀w,S w->o.quietAt P a S w v):YieldsIf P ops S o v a:=by
 refine .inl ⟨hw,fun w hS=>?_⟩;have h1:=h w hS;unfold Oper.quietAt at h1;cases hr:(execOp a.eval o).run P w with
 | ok n w' =>
  obtain⟨u,rfl⟩:=jU hp hr;rw[hr]at h1;simp only[Oper.quietUpon]at h1;rw[h1.1,h1.2]
 | halt x w'=>rw[hr]at h1;simp[Oper.quietUpon]at h1
def fo (ops:Array Oper):List Nat->List Oper
 | []=>[]
 | i::r=>match ops[i]? with
  | some o=>o::fo ops r
  | none=>fo ops r
def marked:List Nat->Array Bool->Array Bool
 | [],l=>l
 | i::r,l=>marked r (l.setIfInBounds i true)
def iq (md:Region.Mode) (ops:Array Oper):List Nat->Array Bool->Bool
 | [],_=>true
 | i::r,l=>(match ops[i]? with|some o=>il o.op|none=>false)&&Region.free md ops l i&&(Region.ready md ops l).contains i&&iq md ops r (l.setIfInBounds i true)
theorem gV {S S':World->Prop} (h:∀x,S' x->S x):∀(fuel:Nat) (listed:Array Bool) (a:Act) (w:World),wpAnyH P md ops Q S' fuel listed a w->wpAnyH P md ops Q S fuel listed a w
 | 0,_,_,_,k=>k
 | fuel+1,_,_,_,k=>⟨k.1,fun i hi=>wpOp_mono (fun a w hk=>⟨h _ hk.1,gV h fuel _ a w hk.2⟩) (k.2 i hi)⟩
theorem fJ {S:World->Prop} (hs:Region.noSelect ops=true) (hQ:∀c a d v w,Q (.panic c) (a.put d v) w->Q (.panic c) a w) {w:World} (hS:S w) (fuel:Nat) :
  ∀(p:List Nat) (listed:Array Bool) (a:Act),iq md ops p listed=true ->
   wpQuiet P ops S (fun a'=>wpAnyH P md ops Q S fuel (marked p listed) a' w) (fo ops p) a->wpAnyH P md ops Q S (p.length+fuel) listed a w
 | [],_,_,_,h=>by rw[Ey,BF];exact h
 | i::r,listed,a,hb,h=>by
  unfold iq at hb;cases ho:ops[i]? with
  | none=>rw[ho]at hb;simp at hb
  | some o =>
   rw[ho]at hb;simp only[Bd]at hb;obtain⟨⟨⟨hp,hf⟩,hr⟩,aa⟩:=hb;have hl:fo ops (i::r)=o::fo ops r:=by simp only[fo,ho]
   rw[hl]at h;rw[show(i::r).length+fuel=(r.length+fuel)+1 by rw[Bz];omega];unfold wpQuiet at h;by_cases hw:Region.wanted o (yielded ops a.tmps)=true
   ·rw[Az hw]at h;obtain⟨v,h1,h2⟩:=h;exact wpAnyH_take ho hs hf hr (fun c a w=>hQ c a o.dst v w) (jX hp hw h1) hS (fJ hs hQ hS fuel r _ _ aa h2)
   ·rw[AJ hw]at h;exact wpAnyH_take ho hs hf hr (fun c a w=>hQ c a o.dst undef w) (.inr ⟨by simpa using hw,rfl⟩) hS (fJ hs hQ hS fuel r _ _ aa h)
end
section
variable {P:Program} {ops:Array Oper} {Q:Exit->Act->World->Prop} {md:Region.Mode}
inductive Ph where
 | fin (last:List Nat)
 | one (p:List Nat) (k:Nat) (t:Ph)
 | two (p:List Nat) (k:Nat) (t:Ph) (k2:Nat) (t2:Ph)
def fu (P:Program) (ops:Array Oper) (Q:Exit->Act->World->Prop) (o:Option Oper) (S:World->Prop) (T:(World->Prop)->Act->World->Prop) (a:Act) (w:World):Prop :=
 match o with
 | none=>True
 | some o=>∀K:Act->World->Prop,(∀a2 w2,S w2->∀S':World->Prop,(∀x,S' x->S x)->S' w2->T S' a2 w2->K a2 w2) ->
   if Region.wanted o (yielded ops a.tmps)=true then Oper.wp P o a w K Q else K (a.put o.dst undef) w
def fS (P:Program) (ops:Array Oper) (Q:Exit->Act->World->Prop):Ph->(World->Prop)->Act->World->Prop
 | .fin last,S,a,w=>wpQuiet P ops S (fun a'=>Q .normal a' w) (fo ops last) a
 | .one p k t,S,a,w=>wpQuiet P ops S (fun a'=>fu P ops Q ops[k]? S (fun S' a2 w2=>fS P ops Q t S' a2 w2) a' w) (fo ops p) a
 | .two p k t k2 t2,S,a,w=>wpQuiet P ops S (fun a'=>fu P ops Q ops[k]? S (fun S' a2 w2=>fS P ops Q t S' a2 w2) a' w/\fu P ops Q ops[k2]? S (fun S' a2 w2=>fS P ops Q t2 S' a2 w2) a' w) (fo ops p) a
def tB (md:Region.Mode) (ops:Array Oper):Ph->Array Bool->Nat->Bool
 | .fin last,l,n=>iq md ops last l&&(Region.ready md ops (marked last l)).isEmpty&&(last.length==n)
 | .one p k t,l,n=>iq md ops p l&&(match Region.ready md ops (marked p l) with | [j]=>j==k|_=>false)&&(ops[k]?).isSome&&decide (p.length+1<=n)&&tB md ops t ((marked p l).setIfInBounds k true) (n-(p.length+1))
 | .two p k t k2 t2,l,n=>iq md ops p l&&(match Region.ready md ops (marked p l) with | [j,j2]=>j==k&&j2==k2|_=>false)&&(ops[k]?).isSome&&(ops[k2]?).isSome&&decide (p.length+1<=n)&&tB md ops t ((marked p l).setIfInBounds k true) (n-(p.length+1))&&tB md ops t2 ((marked p l).setIfInBounds k2 true) (n-(p.length+1))
theorem quiet_mono {S:World->Prop} {Q1 Q2:Act->Prop} (h:∀a,Q1 a->Q2 a):∀ {l:List Oper} {a:Act},wpQuiet P ops S Q1 l a->wpQuiet P ops S Q2 l a
 | [],_,k=>h _ k
 | o::r,a,k=>by
  unfold wpQuiet at k ⊢;split
  ·rename_i hw;rw[Az hw]at k;obtain⟨v,h1,h2⟩:=k;exact⟨v,h1,quiet_mono h h2⟩
  ·rename_i hw;rw[AJ hw]at k;exact quiet_mono h k
theorem gK (hs:Region.noSelect ops=true) (hQ:∀c a d v w,Q (.panic c) (a.put d v) w->Q (.panic c) a w) :
  ∀(t:Ph) (S:World->Prop) (listed:Array Bool) (a:Act) (w:World) (n:Nat),tB md ops t listed n=true->S w->fS P ops Q t S a w->wpAnyH P md ops Q S n listed a w
 | .fin last,S,listed,a,w,n,hb,hS,h=>by
  unfold tB at hb;simp only[Bd,E9,BP]at hb;obtain⟨⟨h1,h2⟩,rfl⟩:=hb;have e:last.length=last.length+0:=rfl;rw[e];refine fJ hs hQ hS 0 last listed a h1 ?_;exact quiet_mono (fun a' hq=>wpAnyH_done h2 hq 0) h
 | .one p k t,S,listed,a,w,n,hb,hS,h=>by
  unfold tB at hb;simp only[Bd,Cr]at hb;obtain⟨⟨⟨⟨h1,h2⟩,h3⟩,h5⟩,h4⟩:=hb;obtain⟨o,ho⟩:=CV.1 h3
  have aa:Region.ready md ops (marked p listed)=[k]:=by
   split at h2
   ·rename_i j hj;rw[hj];rw[BP]at h2;rw[h2]
   ·cases h2
  obtain⟨m,rfl⟩:∃m,n=p.length+(m+1):=⟨n-(p.length+1),ω⟩
  rw[show p.length+(m+1)-(p.length+1)=m by omega]at h4;refine fJ hs hQ hS _ p listed a h1 ?_;unfold fS at h;refine quiet_mono (fun a' hq=>?_) h;refine wpAnyH_all aa σ fun i hi=>?_;rw[AW]at hi;subst hi;refine Fa ho fun K' hK=>?_;rw[ho]at hq;refine hq K' fun a2 w2 h6 S' b f h7=>hK _ _ ⟨h6,?_⟩;exact gV b _ _ _ _ (gK hs hQ t S' _ a2 w2 _ h4 f h7)
 | .two p k t k2 t2,S,listed,a,w,n,hb,hS,h=>by
  unfold tB at hb;simp only[Bd,Cr]at hb;obtain⟨⟨⟨⟨⟨⟨h1,h2⟩,h3⟩,ad⟩,h5⟩,h4⟩,ab⟩:=hb;obtain⟨o,ho⟩:=CV.1 h3;obtain⟨o2,ac⟩:=CV.1 ad
  have aa:Region.ready md ops (marked p listed)=[k,k2]:=by
   split at h2
   ·rename_i j j2 hj;rw[hj];simp only[Bd,BP]at h2;rw[h2.1,h2.2]
   ·cases h2
  obtain⟨m,rfl⟩:∃m,n=p.length+(m+1):=⟨n-(p.length+1),ω⟩
  rw[show p.length+(m+1)-(p.length+1)=m by omega]at h4 ab;refine fJ hs hQ hS _ p listed a h1 ?_;unfold fS at h;refine quiet_mono (fun a' hq=>?_) h;refine wpAnyH_all aa σ fun i hi=>?_;rw[ho,ac]at hq;rcases BB.1 hi with rfl|hi
  ·refine Fa ho fun K' hK=>?_;refine hq.1 K' fun a2 w2 h6 S' b f h7=>hK _ _ ⟨h6,?_⟩;exact gV b _ _ _ _ (gK hs hQ t S' _ a2 w2 _ h4 f h7)
  ·rw[AW]at hi;subst hi;refine Fa ac fun K' hK=>?_;refine hq.2 K' fun a2 w2 h6 S' b f h7=>hK _ _ ⟨h6,?_⟩;exact gV b _ _ _ _ (gK hs hQ t2 S' _ a2 w2 _ ab f h7)
theorem fk {id:Nat} {a:Act} {l:List Oper} (S:World->Prop) (t:Ph) (hS:S w.drew) (h:fS P l.toArray Q t S a w.drew) (hm:P.follows .mixedOrders=true:=by kernel_rfl) (hB:(Region.noSelect l.toArray&&tB .any l.toArray t (Array.replicate l.toArray.size false) l.toArray.size)=true:=by kernel_rfl) (hQ:∀c a d v w,Q (.panic c) (a.put d v) w->Q (.panic c) a w:=by intro _ _ d _ _ h;cases d<;>exact h):(Code.region id l.toArray true).wp P Q a w:=by
 simp only[Bd]at hB;refine wp_region_held (S:=S) hm ?_;exact gK hB.1 hQ t S _ a w.drew _ hB.2 hS h
end
section
variable {P:Program} {ops:Array Oper} {Q:Exit->Act->World->Prop} {md:Region.Mode}
def F8 (md:Region.Mode) (ops:Array Oper) (t:Ph):Nat->List Nat->Array Bool->Nat->Bool
 | 0,todo,l,n=>todo.isEmpty&&tB md ops t l n
 | f+1,todo,l,n=>(Region.ready md ops l==todo) && !todo.isEmpty&&decide (1<=n)&&todo.all fun k=>(ops[k]?).isSome&&F8 md ops t f (todo.erase k) (l.setIfInBounds k true) (n-1)
theorem KL (hs:Region.noSelect ops=true) (hQ:∀c a d v w,Q (.panic c) (a.put d v) w->Q (.panic c) a w) {S:World->Prop} {t:Ph} {J:List Nat->Act->World->Prop}
  (aa:∀todo k a w,k∈todo->J todo a w->S w->fu P ops Q ops[k]? S (fun _ a2 w2=>J (todo.erase k) a2 w2) a w)
  (ab:∀a w,J [] a w->S w->fS P ops Q t S a w) :
  ∀(f:Nat) (todo:List Nat) (listed:Array Bool) (a:Act) (w:World) (n:Nat),F8 md ops t f todo listed n=true->S w->J todo a w->wpAnyH P md ops Q S n listed a w
 | 0,todo,listed,a,w,n,hb,hS,h=>by
  unfold F8 at hb;simp only[Bd,E9]at hb;obtain⟨rfl,h2⟩:=hb;exact gK hs hQ t S listed a w n h2 hS (ab a w h hS)
 | f+1,todo,listed,a,w,n,hb,hS,h=>by
  unfold F8 at hb;simp only[Bd,Cr,BP,B6,EG,List.isEmpty_eq_false_iff]at hb;obtain⟨⟨⟨h1,h2⟩,h3⟩,h4⟩:=hb;obtain⟨m,rfl⟩:∃m,n=m+1:=⟨n-1,ω⟩
  refine wpAnyH_all h1 h2 fun i hi=>?_;obtain⟨h5,h6⟩:=h4 i hi;obtain⟨o,ho⟩:=CV.1 h5;have hq:=aa todo i a w hi h hS;rw[ho]at hq;refine Fa ho fun K' hK=>?_;refine hq K' fun a2 w2 h7 S' ac ad h8=>hK _ _ ⟨h7,?_⟩;exact KL hs hQ aa ab f _ _ a2 w2 _ h6 h7 h8
theorem rB {id:Nat} {a:Act} {l:List Oper} (S:World->Prop) (p ks:List Nat) (t:Ph) (J:List Nat->Act->World->Prop) (hm:P.follows .mixedOrders=true) (hB:(Region.noSelect l.toArray&&iq .any l.toArray p (Array.replicate l.toArray.size false)&&decide (p.length<=l.toArray.size)&&F8 .any l.toArray t ks.length ks (marked p (Array.replicate l.toArray.size false)) (l.toArray.size-p.length))=true) (hQ:∀c a d v w,Q (.panic c) (a.put d v) w->Q (.panic c) a w) (hS:S w.drew) (h0:wpQuiet P l.toArray S (fun a'=>J ks a' w.drew) (fo l.toArray p) a) (aa:∀todo k a w,k∈todo->J todo a w->S w->fu P l.toArray Q l.toArray[k]? S (fun _ a2 w2=>J (todo.erase k) a2 w2) a w) (ab:∀a w,J [] a w->S w->fS P l.toArray Q t S a w):(Code.region id l.toArray true).wp P Q a w:=by
 simp only[Bd,Cr]at hB;obtain⟨⟨⟨h1,h2⟩,h3⟩,h4⟩:=hB;refine wp_region_held (S:=S) hm ?_;have e:l.toArray.size=p.length+(l.toArray.size-p.length):=ω
 rw[show wpAnyH P .any l.toArray Q S l.toArray.size=wpAnyH P .any l.toArray Q S (p.length+(l.toArray.size-p.length)) by rw[<-e]];refine fJ h1 hQ hS _ p _ a h2 ?_;exact quiet_mono (fun a' hj=>KL h1 hQ aa ab _ ks _ a' _ _ h4 hS hj) h0
def F9 (md:Region.Mode) (ops:Array Oper) (t:Ph) (dep:List (Nat×Nat)):Nat->List Nat->Array Bool->Nat->Bool
 | 0,todo,l,n=>todo.isEmpty&&tB md ops t l n
 | f+1,todo,l,n=>!(Region.ready md ops l).isEmpty&&decide (1<=n)&&(Region.ready md ops l).all fun k=>todo.contains k&&dep.all (fun d=>!(d.1==k) || !todo.contains d.2)&&(ops[k]?).isSome&&F9 md ops t dep f (todo.erase k) (l.setIfInBounds k true) (n-1)
theorem KJ (hs:Region.noSelect ops=true) (hQ:∀c a d v w,Q (.panic c) (a.put d v) w->Q (.panic c) a w) {S:World->Prop} {t:Ph} {dep:List (Nat×Nat)} {J:List Nat->Act->World->Prop}
  (aa:∀todo k a w,k∈todo->(∀d∈dep,d.1=k->d.2 ∉ todo)->J todo a w->S w->fu P ops Q ops[k]? S (fun _ a2 w2=>J (todo.erase k) a2 w2) a w)
  (ab:∀a w,J [] a w->S w->fS P ops Q t S a w) :
  ∀(f:Nat) (todo:List Nat) (listed:Array Bool) (a:Act) (w:World) (n:Nat),F9 md ops t dep f todo listed n=true->S w->J todo a w->wpAnyH P md ops Q S n listed a w
 | 0,todo,listed,a,w,n,hb,hS,h=>by
  unfold F9 at hb;simp only[Bd,E9]at hb;obtain⟨rfl,h2⟩:=hb;exact gK hs hQ t S listed a w n h2 hS (ab a w h hS)
 | f+1,todo,listed,a,w,n,hb,hS,h=>by
  unfold F9 at hb;simp only[Bd,Cr,B6,EG,List.isEmpty_eq_false_iff]at hb;obtain⟨⟨h2,h3⟩,h4⟩:=hb;obtain⟨m,rfl⟩:∃m,n=m+1:=⟨n-1,ω⟩
  refine wpAnyH_all rfl h2 fun i hi=>?_;obtain⟨⟨⟨h5,h6⟩,h7⟩,h8⟩:=h4 i hi;obtain⟨o,ho⟩:=CV.1 h7
  have hq:=aa todo i a w (by simpa using h5) (fun d hd e=>by
   have:=h6 d hd
   subst e
   simpa using this) h hS
  rw[ho]at hq;refine Fa ho fun K' hK=>?_;refine hq K' fun a2 w2 h9 S' ad ae ac=>hK _ _ ⟨h9,?_⟩;exact KJ hs hQ aa ab f _ _ a2 w2 _ h8 h9 ac
theorem mT {id:Nat} {a:Act} {l:List Oper} (S:World->Prop) (p ks:List Nat) (dep:List (Nat×Nat)) (t:Ph) (J:List Nat->Act->World->Prop) (hm:P.follows .mixedOrders=true) (hB:(Region.noSelect l.toArray&&iq .any l.toArray p (Array.replicate l.toArray.size false)&&decide (p.length<=l.toArray.size)&&F9 .any l.toArray t dep ks.length ks (marked p (Array.replicate l.toArray.size false)) (l.toArray.size-p.length))=true) (hQ:∀c a d v w,Q (.panic c) (a.put d v) w->Q (.panic c) a w) (hS:S w.drew) (h0:wpQuiet P l.toArray S (fun a'=>J ks a' w.drew) (fo l.toArray p) a) (aa:∀todo k a w,k∈todo->(∀d∈dep,d.1=k->d.2 ∉ todo)->J todo a w->S w->fu P l.toArray Q l.toArray[k]? S (fun _ a2 w2=>J (todo.erase k) a2 w2) a w) (ab:∀a w,J [] a w->S w->fS P l.toArray Q t S a w):(Code.region id l.toArray true).wp P Q a w:=by
 simp only[Bd,Cr]at hB;obtain⟨⟨⟨h1,h2⟩,h3⟩,h4⟩:=hB;refine wp_region_held (S:=S) hm ?_;have e:l.toArray.size=p.length+(l.toArray.size-p.length):=ω
 rw[show wpAnyH P .any l.toArray Q S l.toArray.size=wpAnyH P .any l.toArray Q S (p.length+(l.toArray.size-p.length)) by rw[<-e]];refine fJ h1 hQ hS _ p _ a h2 ?_;exact quiet_mono (fun a' hj=>KJ h1 hQ aa ab _ ks _ a' _ _ h4 hS hj) h0
end
end Go.CalmN
namespace Go
abbrev γ(w:World):World→Prop:=fun x=>∃y:Calm.On w.heap.size w,x=y.1
end Go
