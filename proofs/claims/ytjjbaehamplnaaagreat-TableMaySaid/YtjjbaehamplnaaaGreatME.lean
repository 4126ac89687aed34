/- Part of the proofs over this program: RowQ, PairOpen, PartQ, OnP, WordsO, TrimFn, TrimPass, TrimGrow, TrimTells, CalmN, CalmA, TrimReach, TrimRef. -/
import Derived.Deep.Cut
import Derived.Test.YtjjbaehamplnaaaGreatMD
set_option linter.all false
namespace Go
def En:=@Nat.mul_le_mul
def DZ:=@List.map_replicate
def CQ:=@List.replicate_succ
def Cq:=@of_decide_eq_true
def Dz:=@Go.World.cell?_alloc_new
def AZ:=@Go.World.ownsRow.kept
def EN:=@Bool.false_or
def BJ:=@And.intro
end Go
set_option maxRecDepth 100000
set_option maxHeartbeats 40000000
variable {A:Option Go.Addr} {B B' base base' f fuel g gk i k m n:Nat} {G:Go.Proofs.YtjjbaehamplnaaaGreat.Gm.Gr} {cs:Array Go.Value} {fr:Nat×Nat} {l r:List Int} {ops:Array Go.Oper} {p:Go.Addr} {s0:List Bool} {tm:Bool} {u v:Go.Value} {w w' wr:Go.World} {z:Int}
namespace Go.Proofs.YtjjbaehamplnaaaGreat
open Go.RowKit Go.ChangeShapes Go.WideShapes Go.ChangeAt
section
variable {α:Type} {m:Nat} {f:α->List Value}
theorem zjH (hf:∀x,(f x).length=m) (xs:List α):(xs.flatMap f).length=xs.length*m:=by
 induction xs with
 | nil=>simp
 | cons x r ih=>rw[BD,AU,ih,hf,Bt,Nat.add_mul,Em,Nat.add_comm]
theorem qat (hf:∀x,(f x).length=m) (xs:List α) (i j:Nat) (hi:i<xs.length) (hj:j<m):(xs.flatMap f)[i*m+j]?=(f xs[i])[j]?:=by
 induction xs generalizing i with
 | nil=>simp at hi
 | cons x r ih =>
  rw[BD];have hl:=hf x;cases i with
  | zero=>rw[Bw (by omega)];simp
  | succ i =>
   rw[Nat.add_mul,Em,Cg (by omega),show i*m+m+j-(f x).length=i*m+j by omega]
   simpa using ih i (by simpa using hi)
theorem znr (hf:∀x,(f x).length=2) (xs:List α) (i:Nat) (y:α) (a b:Value) (hy:f y=[a,b]):((xs.flatMap f).set (i*2) a).set (i*2+1) b=(xs.set i y).flatMap f:=by
 induction xs generalizing i with
 | nil=>simp
 | cons x r ih =>
  obtain⟨p,q,e⟩:∃p q,f x=[p,q]:=by
   have:=hf x
   match h:f x,this with
   | [p,q],_=>exact⟨p,q,rfl⟩
  rw[BD,e];cases i with
  | zero=>simp[hy]
  | succ i =>
   rw[show(i+1)*2=i*2+1+1 by omega];simp only[Cx,De,Dv,BD,e];rw[ih i]
def RdQ (m:Nat) (f:α->List Value) (w:World) (B:Nat) (A:Option Addr) (xs:List α):Prop :=
 xs.length≠0->∃g o,A=some ⟨g,o,none⟩/\g<B/\∀i (h:i<xs.length) j u,(f xs[i])[j]?=some u->w.cell? ⟨g,o+i*m+j,none⟩=some u
theorem RdQ.keep {xs:List α} (h:RdQ m f w B A xs) (hk:∀g o,g<B->w'.cell? ⟨g,o,none⟩=w.cell? ⟨g,o,none⟩):RdQ m f w' B A xs:=fun hn=>by
 obtain⟨g,o,e,hg,hc⟩:=h hn;exact⟨g,o,e,hg,fun i hi j u hu=>(hk _ _ hg).trans (hc i hi j u hu)⟩
theorem RdQ.more {xs:List α} (h:RdQ m f w B A xs) (hB:B<=B'):RdQ m f w B' A xs:=fun hn=>by
 obtain⟨g,o,e,hg,hc⟩:=h hn;exact⟨g,o,e,by omega,hc⟩
theorem RdQ.below {xs:List α} (h:RdQ m f w B A xs) (hb:Below B' w w') (hB:B<=B'):RdQ m f w' B A xs :=
 h.keep fun g o hg=>hb.cell (p:=⟨g,o,none⟩) (Ao hg hB)
def UBQ (T:TypeId) (f:α->List Value) (w:World) (g:Nat) (xs:List α):Prop:=w.heap[g]?=some (.cells (xs.flatMap f).toArray T (0,0))
variable {T:TypeId}
theorem UBQ.lt {xs:List α} (h:UBQ T f w g xs):g<w.heap.size:=(Ac.1 h).1
theorem UBQ.cell {xs:List α} (h:UBQ T f w g xs) (hf:∀x,(f x).length=m) (i j:Nat) (hi:i<xs.length) (u:Value) (hu:(f xs[i])[j]?=some u):w.cell? ⟨g,i*m+j,none⟩=some u:=by
 have hj:j<m:=by rw[<-hf xs[i]];exact(Ba.1 hu).1
 rw[Aw w g _ _ _ _ h];rw[Am,qat hf xs i j hi hj];exact hu
theorem UBQ.frozen {xs:List α} (h:UBQ T f w g xs) (i:Nat):w.frozen? ⟨g,i,none⟩=false:=AD w g i _ _ h
theorem UBQ.below {xs:List α} (h:UBQ T f w g xs) (hb:Below B w w') (hg:g<B):UBQ T f w' g xs:=(hb.block g hg).trans h
theorem UBQ.drewN {xs:List α} (h:UBQ T f w g xs) (n:Nat):UBQ T f (w.drewN n) g xs:=h
theorem UBQ.far {xs:List α} (h:UBQ T f w g xs) (hp:g≠p.block) (u:Value):UBQ T f (w.setCell p u) g xs:=(AH w p u g hp).trans h
theorem UBQ.set2 {xs:List α} (h:UBQ T f w g xs) (hf:∀x,(f x).length=2) (i:Nat) (y:α) (a b:Value) (hy:f y=[a,b]):UBQ T f ((w.setCell ⟨g,i*2,none⟩ a).setCell ⟨g,i*2+1,none⟩ b) g (xs.set i y):=by
 unfold UBQ at h ⊢;rw[AP _ g _ _ _ _ (AP w g _ _ _ _ h)]
 congr 2
 apply Ef;rw[<-znr hf xs i y a b hy];simp
def aK (T:TypeId) (m:Nat) (f:α->List Value) (w:World) (base:Nat) (v:Value) (xs:List α):Prop:=w.ownsRow base T m v xs.length (xs.flatMap f)
theorem aK.nil (w:World) (base:Nat):aK T m f w base (.slice none 0 0) []:=CR w base _ _
theorem aK.mono {xs:List α} (h:aK T m f w base v xs) (hb:base'<=base):aK T m f w base' v xs:=by
 refine⟨h.1,?_⟩;rcases h.2 with h0|⟨g,cap,cur,e,aa,hr⟩
 ·exact .inl h0
 ·exact .inr ⟨g,cap,cur,e,by omega,hr⟩
theorem aK.alloc {xs:List α} (h:aK T m f w base v xs) (o:Obj):aK T m f (w.alloc o) base v xs:=Db h o
theorem aK.drewN {xs:List α} (h:aK T m f w base v xs) (n:Nat):aK T m f (w.drewN n) base v xs:=h
theorem aK.below {xs:List α} (h:aK T m f w base v xs) (hb:Below B w w') (hB:w.heap.size<=B):aK T m f w' base v xs:=by
 refine⟨h.1,?_⟩;rcases h.2 with h0|⟨g,cap,cur,e,aa,hg,hr⟩
 ·exact .inl h0
 ·exact .inr ⟨g,cap,cur,e,aa,(hb.block g (Ao (Ac.1 hg).1 hB)).trans hg,hr⟩
theorem aK.form {xs:List α} (h:aK T m f w base v xs) (hf:∀x,(f x).length=m):∃A c,v=.slice A xs.length c/\xs.length<=c/\c<=maxLen/\RdQ m f w w.heap.size A xs:=by
 rcases h.2 with⟨rfl,h0⟩|⟨g,cap,cur,rfl,hb,hg,hn,hm,hs,ht⟩
 ·exact⟨none,0,by rw[h0],by omega,by unfold maxLen;omega,fun hc=>absurd h0 hc⟩
 ·refine⟨some ⟨g,0,none⟩,cap,rfl,hn,hm,fun _=>⟨g,0,rfl,(Ac.1 hg).1,fun i hi j u hu=>?_⟩⟩;have hj:j<m:=by rw[<-hf xs[i]];exact(Ba.1 hu).1
  have hc:=Cw h (g:=g) rfl (i*m+j) u (by rw[qat hf xs i j hi hj];exact hu);rw[Go.WideShapes.add_plain,Bu]at hc;rw[Bu];exact hc
theorem aK.addr {xs:List α} (h:aK T m f w base v xs) (h0:xs.length≠0):∃g c,v=.slice (some ⟨g,0,none⟩) xs.length c/\xs.length<=c/\c<=maxLen/\base<=g:=by
 rcases h.2 with⟨_,h1⟩|⟨g,cap,cur,rfl,hb,hg,hn,hm,hs,ht⟩
 ·exact absurd h1 h0
 ·exact⟨g,cap,rfl,hn,hm,hb⟩
theorem aK.cellAt {c:Nat} {xs:List α} (h:aK T m f w base (.slice (some ⟨g,0,none⟩) n c) xs) (hf:∀x,(f x).length=m) (i j:Nat) (hi:i<xs.length) (u:Value) (hu:(f xs[i])[j]?=some u):w.cell? ⟨g,i*m+j,none⟩=some u:=by
 have hj:j<m:=by rw[<-hf xs[i]];exact(Ba.1 hu).1
 have hc:=Cw h (g:=g) rfl (i*m+j) u (by rw[qat hf xs i j hi hj];exact hu);rw[Go.WideShapes.add_plain,Bu]at hc;exact hc
theorem aK.lt {c:Nat} {xs:List α} (h:aK T m f w base (.slice (some ⟨g,0,none⟩) n c) xs):g<w.heap.size:=by
 rcases h.2 with⟨e,_⟩|⟨g',_,_,e,_,hg,_⟩
 ·cases e
 ·injection e with e;injection e with e;injection e with e;subst e;exact(Ac.1 hg).1
theorem zch {rest:List Oper} {o:Oper} {a:Act} {Q:Exit->Act->World->Prop} (ad:o.guard=none) (s x:Operand) (t:TypeId) (ho:o.op=.call {callee:=.builtin .append,args:=#[s,x],argTypes:=#[t,t]}) (ht:Tryz.prog.underlying t=some (.slice T)) (z:Value) (bytes:Nat) (aa:(Tryz.prog.info? T).map (fun i=>(i.zero,i.size,i.bytes))=some (some z,m,bytes)) (ae:z.cells.size=m) (hm:0<m) (af:bytes<=100) (hf:∀x,(f x).length=m) (h1:∀x,∀u∈f x,u.oneCell'=true) (base:Nat) (v:Value) (xs:List α) (hs:a.eval s=v) (ac:aK T m f w base v xs) (g c:Nat) (y:α) (hx:a.eval x=.slice (some ⟨g,0,none⟩) 1 c) (hz:∀j u,(f y)[j]?=some u->w.cell? ⟨g,j,none⟩=some u) (ag:xs.length<=1000000) (ab:base<=w.heap.size) (hK:∀v' w',aK T m f w' base v' (xs++[y])->w.grownBy w' v.ownBlock->wpList Tryz.prog ops Q rest (a.put o.dst v') w') :
  wpList Tryz.prog ops Q (o::rest) a w:=by
 obtain⟨i,hi,ah,ai,aj⟩:=CD aa;refine Dm w ad s x t ho base T i z m bytes ht hi ah ai aj ae hm v xs.length (xs.flatMap f) hs ac ⟨g,0,none⟩ 1 c (f y) hx (by rw[hf,Em]) ?_ (h1 y) (by unfold maxLen;omega) (by have:=En (show xs.length+1<=1000001 by omega) af;omega) ab fun v' w' h2 h3 _=>hK v' w' ?_ h3
 ·intro j u hj;rw[Go.WideShapes.add_plain,Bu];exact hz j u hj
 ·unfold aK;rw[AU,BX,Cc];exact h2
theorem zd6 {xs:List α} (h:w.ownsRow base T m (.slice (some ⟨g,0,none⟩) n n) n (xs.flatMap f)):UBQ T f w g xs:=by
 rcases h.2 with⟨he,_⟩|⟨g',cap,cur,he,hb,hg,_,hm,hs,ht⟩
 ·cases he
 ·injection he with e1 e2 e3;injection e1 with e1;injection e1 with e1;subst e1 e3;unfold UBQ;rw[hg,<-ht,Cb (by simp[hs])]
theorem zhr (z:Value) (hz:z.cells.size=m) (hm:0<m) (n:Nat):(madeCells z.cells (n*m)).toList=(List.replicate n z).flatMap fun z=>z.cells.toList:=by
 refine CX fun j=>?_;have hl:∀x∈List.replicate n z,x=z:=fun x hx=>(List.mem_replicate.1 hx).2
 have aa:((List.replicate n z).flatMap fun z=>z.cells.toList).length=n*m:=by
  rw[List.length_flatMap,DZ];simp[hz]
 rcases Bz j (n*m) with h|h
 ·have hd:j / m<n:=by
   rcases Bz (j / m) n with h1|h1
   ·exact h1
   ·have:=DK m h1
    have:=Nat.div_mul_le_self j m
    omega
  have ab:j=j / m*m+j % m:=by rw[Nat.mul_comm];exact(Nat.div_add_mod j m).symm
  have key:∀(k i r:Nat),i<k->r<m->((List.replicate k z).flatMap fun z=>z.cells.toList)[i*m+r]?=z.cells.toList[r]?:=by
   intro k;induction k with
   | zero=>intro i r hi;omega
   | succ k ih =>
    intro i r hi hr;rw[CQ,BD];have ac:z.cells.toList.length=m:=by simpa using hz
    cases i with
    | zero=>rw[Bw (by omega)];simp
    | succ i =>
     rw[Nat.add_mul,Em,Cg (by omega),show i*m+m+r-z.cells.toList.length=i*m+r by omega];exact ih i r (by omega) hr
  have hr:=Nat.mod_lt j hm;have e2:=key n (j / m) (j % m) hd hr;rw[<-ab]at e2;rw[e2];unfold madeCells;simp[h,hz,hr]
 ·have e1:(madeCells z.cells (n*m)).toList.length<=j:=by rw[Array.length_toList,size_madeCells];exact h
  have e2:((List.replicate n z).flatMap fun z=>z.cells.toList).length<=j:=by rw[aa];exact h
  rw[B6 e1,B6 e2]
theorem zkk (w:World) (t:TypeId) (ht:Tryz.prog.underlying t=some (.slice T)) (z:Value) (bytes:Nat) (ab:(Tryz.prog.info? T).map (fun i=>(i.zero,i.size,i.bytes))=some (some z,m,bytes)) (ad:z.cells.size=m) (hm:0<m) (ae:bytes<=100) (y:α) (hy:f y=z.cells.toList) (n:Nat) (hn:n<=1000000) :
  ∃w',(Instr.makeSlice t (.int .i64 n) (.int .i64 n)).run Tryz.prog w=.ok (.slice (some ⟨w.heap.size,0,none⟩) n n) w'/\UBQ T f w' w.heap.size (List.replicate n y)/\Below w.heap.size w w':=by
 obtain⟨i,hi,af,ag,ah⟩:=CD ab;obtain⟨w',ac,aa,b⟩:=run_make_full (P:=Tryz.prog) w w.heap.size t T i z m ht hi af ag .i64 .i64 n (by rw[ah];have:=En ae hn;omega) (by unfold maxLen;omega) (Ad _);refine⟨w',ac,?_,⟨b.os,b.tape,b.output,b.size,fun k hk=>b.block k hk (by simp)⟩⟩;refine zd6 (m:=m) (base:=w.heap.size) (n:=n) ?_;rw[zhr z ad hm n]at aa
 have e:(List.replicate n z).flatMap (fun z=>z.cells.toList)=(List.replicate n y).flatMap f:=by
  clear aa ac;induction n with
  | zero=>rfl
  | succ n ih=>rw[CQ,CQ,BD,BD,ih (by omega),hy]
 rw[e]at aa;exact aa
theorem zl2 {o:Oper} {a:Act} {K:Act->World->Prop} {Q:Exit->Act->World->Prop} (l c:Operand) (t:TypeId) (ac:o.op=Op.makeSlice t l c) (ht:Tryz.prog.underlying t=some (.slice T)) (z:Value) (bytes:Nat) (aa:(Tryz.prog.info? T).map (fun i=>(i.zero,i.size,i.bytes))=some (some z,m,bytes)) (ad:z.cells.size=m) (hm:0<m) (ae:bytes<=100) (y:α) (hy:f y=z.cells.toList) (n:Nat) (hl:a.eval l=.int .i64 n) (hc:a.eval c=.int .i64 n) (hn:n<=1000000) (hK:∀w',UBQ T f w' w.heap.size (List.replicate n y)->Below w.heap.size w w'->K (a.put o.dst (.slice (some ⟨w.heap.size,0,none⟩) n n)) w'):Oper.wp Tryz.prog o a w K Q:=by
 obtain⟨w',ab,h1,h2⟩:=zkk w t ht z bytes aa ad hm ae y hy n hn;unfold Oper.wp;simp[execOp,ac,hl,hc,ab,Result.andThen];exact hK w' h1 h2
theorem zb8 {rest:List Oper} {o:Oper} {a:Act} {Q:Exit->Act->World->Prop} (hg:o.guard=none) (l c:Operand) (t:TypeId) (ab:o.op=Op.makeSlice t l c) (ht:Tryz.prog.underlying t=some (.slice T)) (z:Value) (bytes:Nat) (aa:(Tryz.prog.info? T).map (fun i=>(i.zero,i.size,i.bytes))=some (some z,m,bytes)) (ac:z.cells.size=m) (hm:0<m) (ad:bytes<=100) (y:α) (hy:f y=z.cells.toList) (n:Nat) (hl:a.eval l=.int .i64 n) (hc:a.eval c=.int .i64 n) (hn:n<=1000000) (hK:∀w',UBQ T f w' w.heap.size (List.replicate n y)->Below w.heap.size w w'->wpList Tryz.prog ops Q rest (a.put o.dst (.slice (some ⟨w.heap.size,0,none⟩) n n)) w') :
  wpList Tryz.prog ops Q (o::rest) a w :=
 wpList_plain hg fun _ ae=>zl2 l c t ab ht z bytes aa ac hm ad y hy n hl hc hn fun w' h1 h2=>ae _ _ (hK w' h1 h2)
end
end Go.Proofs.YtjjbaehamplnaaaGreat
namespace Go.Proofs.YtjjbaehamplnaaaGreat
open Go.ChangeShapes Go.WideShapes Go.Deep Go.RowKit Go.Joins
def prF (x:Int×Int):List Value:=[.int .i64 x.1,.int .i64 x.2]
theorem aJ (x:Int×Int):(prF x).length=2:=rfl
abbrev StT:=List (Int×Int)×List (Int×Int)
def zdf (w:World) (B:Nat) (A:Option Addr) (ss:List StT):Prop :=
 ss.length≠0->∃g o,A=some ⟨g,o,none⟩/\g<B/\∀i (h:i<ss.length),(∃A' c',w.cell? ⟨g,o+i*2,none⟩=some (.slice A' ss[i].1.length c')/\ss[i].1.length<=c'/\c'<=9223372036854775807/\RdQ 2 prF w B A' ss[i].1)/\(∃A' c',w.cell? ⟨g,o+i*2+1,none⟩=some (.slice A' ss[i].2.length c')/\ss[i].2.length<=c'/\c'<=9223372036854775807/\RdQ 2 prF w B A' ss[i].2)
theorem zdf.nil (w:World) (B:Nat) (A:Option Addr):zdf w B A []:=fun h=>absurd rfl h
theorem zdf.keep {w w':World} {B:Nat} {A:Option Addr} {ss:List StT} (h:zdf w B A ss) (hk:∀g o,g<B->w'.cell? ⟨g,o,none⟩=w.cell? ⟨g,o,none⟩):zdf w' B A ss:=fun hn=>by
 obtain⟨g,o,e,hg,hc⟩:=h hn;refine⟨g,o,e,hg,fun i hi=>?_⟩;obtain⟨⟨A1,c1,h1,h2,h3,h4⟩,⟨A2,c2,k1,k2,k3,k4⟩⟩:=hc i hi;exact⟨⟨A1,c1,(hk _ _ hg).trans h1,h2,h3,h4.keep hk⟩,⟨A2,c2,(hk _ _ hg).trans k1,k2,k3,k4.keep hk⟩⟩
theorem zdf.below {ss:List StT} (h:zdf w B A ss) (hb:Below B' w w') (hB:B<=B'):zdf w' B A ss :=
 h.keep fun g o hg=>hb.cell (p:=⟨g,o,none⟩) (Ao hg hB)
theorem zdf.more {w:World} {B B':Nat} {A:Option Addr} {ss:List StT} (h:zdf w B A ss) (hB:B<=B'):zdf w B' A ss:=fun hn=>by
 obtain⟨g,o,e,hg,hc⟩:=h hn;refine⟨g,o,e,by omega,fun i hi=>?_⟩;obtain⟨⟨A1,c1,h1,h2,h3,h4⟩,⟨A2,c2,k1,k2,k3,k4⟩⟩:=hc i hi;exact⟨⟨A1,c1,h1,h2,h3,h4.more hB⟩,⟨A2,c2,k1,k2,k3,k4.more hB⟩⟩
section
variable {H:Type} {enc:TypeId×Value->H} {P:Program} {w:World} {base:Nat} {spare:Nat->Bool} {held:Bool}
theorem ziV {t e:TypeId} {f0 f1:Field} {cs:List Value} {x:DataW H×List MemPlace} (ht:P.underlying t=some (.slice e)) (he:P.underlying e=some (.struct #[f0,f1])) (ab:oneCellFields P #[f0,f1]=true) (hC:P.cellsOf e=2) (h0:P.underlying f0.type=some (.int .i64)) (h1:P.underlying f1.type=some (.int .i64)) (h:DataW.trod enc P w base spare held fuel t cs=some x) :
  ∃A n c xs,cs=[.slice A n c]/\n=xs.length/\n<=c/\c<=9223372036854775807/\RdQ 2 prF w w.heap.size A xs/\∀x∈xs,Gm.In x.1/\Gm.In x.2:=by
 rcases zb6 ht he ab hC h with rfl|⟨a,len,cap,rfl,hl,hm,hi⟩
 ·exact⟨none,0,0,[],rfl,rfl,Ad _,by omega,fun h=>absurd rfl h,fun x hx=>by simp at hx⟩
 ·have hp:∀i,i<len->∃t:Int×Int,(w.cell? (a.add (i*2))=some (.int .i64 t.1)/\w.cell? (a.add (i*2+1))=some (.int .i64 t.2))/\Gm.In t.1/\Gm.In t.2:=fun i ac=>by
   obtain⟨v0,y0,n0,c0,t0⟩:=hi i ac 0 f0 rfl;obtain⟨v1,y1,n1,c1,t1⟩:=hi i ac 1 f1 rfl;obtain⟨z0,e0,_,w0⟩:=Dw h0 t0;obtain⟨z1,e1,_,w1⟩:=Dw h1 t1;injection e0 with e0;injection e1 with e1;subst e0 e1;exact⟨⟨z0,z1⟩,⟨c0,c1⟩,DY w0,DY w1⟩
  obtain⟨ts,ad,aa⟩:=zbx len _ hp;refine⟨some a,len,cap,ts,rfl,ad.symm,hl,by unfold maxLen at hm;omega,fun hn=>?_,fun x hx=>?_⟩
  ·have ha:=zap (aa 0 (by omega)).1.1 (Nat.zero_mul 2);refine⟨a.block,a.off,congrArg some ha,?_,fun i hi j u hu=>?_⟩
   ·have:=Bd (aa 0 (by omega)).1.1
    simpa[Addr.add] using this
   ·have:=(aa i hi).1
    rw[ha,add_plain,add_plain]at this
    match j,hu with
    | 0,hu=>simp[prF]at hu;subst hu;exact this.1
    | 1,hu=>simp[prF]at hu;subst hu;exact this.2
    | j+2,hu=>simp[prF]at hu
  ·obtain⟨i,hi,rfl⟩:=BB hx;exact(aa i hi).2
end
end Go.Proofs.YtjjbaehamplnaaaGreat
namespace Go.Proofs.YtjjbaehamplnaaaGreat
open Go.RowKit
section
variable {α:Type} {m:Nat} {f:α->List Value} {T:TypeId}
theorem RdQ.take {l:List α} (h:RdQ m f w B A l) (k:Nat):RdQ m f w B A (l.take k):=by
 intro hn;rw[Bc]at hn;obtain⟨g,o,e,hg,aa⟩:=h (by omega);refine⟨g,o,e,hg,fun i hi j u hu=>?_⟩;rw[Bc]at hi;rw[CW]at hu;exact aa i (by omega) j u hu
theorem RdQ.alloc {w:World} {B:Nat} {A:Option Addr} {l:List α} (h:RdQ m f w B A l) (hB:B<=w.heap.size) (o:Obj):RdQ m f (w.alloc o) B A l :=
 h.below ((Aq _ w).alloc (Ad _) o) hB
theorem zgL (w:World) (t:TypeId) (ht:Tryz.prog.underlying t=some (.slice (Tryz.prog.elem t))) (hs:∀w:World,(sizeOf (Tryz.prog.elem t)).run Tryz.prog w=.ok m w) (A:Option Addr) (c n k:Nat) (hk:k<=c):(Instr.sliceAt t (.slice A n c) none (some (.int .i64 k)) none).run Tryz.prog w=.ok (.slice A k c) w:=by
 rw[DJ _ _ _ _ _ _ ht,run_slice_h _ _ _ _ _ ht .i64 (k:Int) (by omega) (by omega),hs]
 have e:∀A:Option Addr,A.map (fun x=>x.add 0)=A:=fun A=>by
  cases A with
  | none=>rfl
  | some x=>simp[Addr.add]
 simp[Result.andThen,sliced,e]
theorem znq (hf:∀x,(f x).length=m) (xs:List α) (k:Nat) (hk:k<=xs.length):(xs.take k).flatMap f=(xs.flatMap f).take (k*m):=by
 have h1:xs.flatMap f=(xs.take k).flatMap f++(xs.drop k).flatMap f:=by rw[<-BX,List.take_append_drop]
 have h2:((xs.take k).flatMap f).length=k*m:=by rw[zjH hf,Bc,DB hk]
 rw[h1,<-h2,List.take_left]
theorem aK.take {w:World} {base n c:Nat} {A:Option Addr} {xs:List α} (h:aK T m f w base (.slice A n c) xs) (hf:∀x,(f x).length=m) (k:Nat) (hk:k<=xs.length):aK T m f w base (.slice A k c) (xs.take k):=by
 rcases h.2 with⟨e,h0⟩|⟨g,cap,cur,e,hb,hg,hn,hm,hs,ht⟩
 ·injection e with e1 e2 e3;subst e1 e2 e3;obtain rfl:k=0:=by omega
  rw[Ej];exact aK.nil w base
 ·injection e with e1 e2 e3;subst e1 e2 e3;have hl:(xs.take k).length=k:=by rw[Bc,DB hk]
  unfold aK;rw[hl];refine⟨by rw[zjH hf,hl],.inr ⟨g,c,cur,rfl,hb,hg,by omega,hm,hs,?_⟩⟩;rw[znq hf xs k hk,<-ht,List.take_take,DB (DK m hk)]
end
end Go.Proofs.YtjjbaehamplnaaaGreat
namespace Go.Proofs.YtjjbaehamplnaaaGreat
open Go.RowKit
def OnP (ps:List Nat) (w:World):Type:={x:World // ∀g∈ps,x.heap[g]?=w.heap[g]?}
instance (ps:List Nat) (w:World):Nonempty (OnP ps w):=⟨⟨w,fun _ _=>rfl⟩⟩
theorem OnP.cell {ps:List Nat} (y:OnP ps w) (h:p.block∈ps):y.1.cell? p=w.cell? p:=Ch (y.2 _ h)
theorem OnP.row {ps:List Nat} (y:OnP ps w) {j:Nat} {t:TypeId} (h:g∈ps) (hb:w.heap[g]?=some (.cells cs t fr)) (hj:cs[j]?=some u):y.1.cell? ⟨g,j,none⟩=some u :=
 (Aw y.1 g j _ _ _ ((y.2 g h).trans hb)).trans hj
section
variable {t:TypeId} {w w' w2:World}
end
end Go.Proofs.YtjjbaehamplnaaaGreat
namespace Go.Proofs.YtjjbaehamplnaaaGreat
open Go.RowKit Go.ChangeShapes Go.WideShapes Go.ChangeAt
theorem LB.gd_lt {l:List Bool} (h:k<l.length):l.getD k false=l[k]:=by simp[List.getD,h]
theorem LB.mid_getD (pre xs post:List Bool) (k:Nat) (h:k<xs.length):(pre++xs++post).getD (pre.length+k) false=xs.getD k false:=by
 simp only[List.getD];rw[Bw (by simp;omega),Cg (by omega),show pre.length+k-pre.length=k by omega]
theorem LB.mid_set (pre xs post:List Bool) (k:Nat) (z:Bool) (h:k<xs.length):(pre++xs++post).set (pre.length+k) z=pre++xs.set k z++post:=by
 rw[List.set_append_left _ _ (by simp;omega),CY _ _ (by omega),show pre.length+k-pre.length=k by omega]
def RdO (w:World) (B:Nat) (A:Option Addr) (zs:List Bool):Prop :=
 zs.length≠0->∃g o,A=some ⟨g,o,none⟩/\g<B/\∀j,j<zs.length->w.cell? ⟨g,o+j,none⟩=some (.bool (zs.getD j false))
theorem RdO.nil (w:World) (B:Nat) (A:Option Addr):RdO w B A []:=fun h=>absurd rfl h
theorem RdO.keep {zs:List Bool} (h:RdO w B A zs) (hk:∀g o,g<B->w'.cell? ⟨g,o,none⟩=w.cell? ⟨g,o,none⟩):RdO w' B A zs:=fun hn=>by
 obtain⟨g,o,e,hg,hc⟩:=h hn;exact⟨g,o,e,hg,fun j hj=>(hk _ _ hg).trans (hc j hj)⟩
theorem RdO.more {zs:List Bool} (h:RdO w B A zs) (hB:B<=B'):RdO w B' A zs:=fun hn=>by
 obtain⟨g,o,e,hg,hc⟩:=h hn;exact⟨g,o,e,by omega,hc⟩
theorem RdO.below {zs:List Bool} (h:RdO w B A zs) (hb:Below B' w w') (hB:B<=B'):RdO w' B A zs :=
 h.keep fun g o hg=>hb.cell (p:=⟨g,o,none⟩) (Ao hg hB)
theorem RdO.drewN {zs:List Bool} (h:RdO w B A zs) (n:Nat):RdO (w.drewN n) B A zs:=h
theorem RdO.drew {zs:List Bool} (h:RdO w B A zs):RdO w.drew B A zs:=h
theorem RdO.alloc {zs:List Bool} (h:RdO w B A zs) (hB:B<=w.heap.size) (o:Obj):RdO (w.alloc o) B A zs :=
 h.keep fun g i hg=>Ee w o ⟨g,i,none⟩ (Ao hg hB)
theorem RdO.grown {zs:List Bool} (h:RdO w B A zs) (hg:w.grownBy w' (some g)) (hB:B<=g) (hs:B<=w.heap.size):RdO w' B A zs :=
 h.keep fun p o hp=>Ch (hg.block p (by omega) (fun e=>by injection e with e;omega))
theorem RdO.take {w:World} {B:Nat} {A:Option Addr} {zs:List Bool} (h:RdO w B A zs) (k:Nat):RdO w B A (zs.take k):=fun hn=>by
 have hl:(zs.take k).length<=zs.length:=by rw[Bc];omega
 obtain⟨g,o,e,hg,hc⟩:=h (by omega);refine⟨g,o,e,hg,fun j hj=>?_⟩;rw[hc j (by omega),LB.gd_lt hj,LB.gd_lt (by omega:j<zs.length),CW]
theorem RdO.cell {zs:List Bool} {o:Nat} (h:RdO w B (some ⟨g,o,none⟩) zs) (j:Nat) (hj:j<zs.length):w.cell? ⟨g,o+j,none⟩=some (.bool (zs.getD j false)):=by
 obtain⟨g',o',e,_,hc⟩:=h (by omega);injection e with e;injection e with e1 e2;subst e1 e2;exact hc j hj
def UBO (w:World) (g:Nat) (ls:List Bool):Prop:=w.heap[g]?=some (.cells (ls.map Value.bool).toArray 4 (0,0))
theorem UBO.lt {ls:List Bool} (h:UBO w g ls):g<w.heap.size:=by
 rcases Bz g w.heap.size with aa|hge
 ·exact aa
 ·unfold UBO at h;rw[DU hge]at h;cases h
theorem UBO.cell {ls:List Bool} (h:UBO w g ls) (i:Nat) (hi:i<ls.length):w.cell? ⟨g,i,none⟩=some (.bool (ls.getD i false)):=by
 rw[Aw w g i _ _ _ h];simp[hi,List.getD]
theorem UBO.frozen {ls:List Bool} (h:UBO w g ls) (i:Nat):w.frozen? ⟨g,i,none⟩=false:=AD w g i _ _ h
theorem UBO.drewN {ls:List Bool} (h:UBO w g ls) (n:Nat):UBO (w.drewN n) g ls:=h
theorem UBO.drew {ls:List Bool} (h:UBO w g ls):UBO w.drew g ls:=h
theorem UBO.alloc {ls:List Bool} (h:UBO w g ls) (o:Obj):UBO (w.alloc o) g ls:=(BI w o g h.lt).trans h
theorem UBO.set_ {ls:List Bool} (h:UBO w g ls) (i:Nat) (z:Bool):UBO (w.setCell ⟨g,i,none⟩ (.bool z)) g (ls.set i z):=by
 unfold UBO at h ⊢;rw[AP w g i _ _ _ h]
 congr 2
 apply Ef;simp[Cs]
theorem UBO.far {ls:List Bool} (h:UBO w g ls) (hp:g≠p.block) (u:Value):UBO (w.setCell p u) g ls:=(AH w p u g hp).trans h
theorem UBO.below {ls:List Bool} (h:UBO w g ls) (hb:Below B w w') (hg:g<B):UBO w' g ls:=(hb.block g hg).trans h
theorem UBO.grown {ls:List Bool} {row:Option Nat} (h:UBO w g ls) (hb:w.grownBy w' row) (hg:some g≠row):UBO w' g ls:=(hb.block g h.lt hg).trans h
theorem UBO.mid {o:Nat} {pre xs post:List Bool} (h:UBO w g (pre++xs++post)) (ho:o=pre.length) (k:Nat) (hk:k<xs.length):w.cell? ⟨g,o+k,none⟩=some (.bool (xs.getD k false)):=by
 rw[h.cell (o+k) (by simp;omega),ho,LB.mid_getD pre xs post k hk]
theorem UBO.mid_set {w:World} {g o:Nat} {pre xs post:List Bool} (h:UBO w g (pre++xs++post)) (ho:o=pre.length) (k:Nat) (z:Bool) (hk:k<xs.length):UBO (w.setCell ⟨g,o+k,none⟩ (.bool z)) g (pre++xs.set k z++post):=by
 have:=h.set_ (o+k) z;rwa [ho,LB.mid_set pre xs post k z hk,<-ho]at this
theorem UBO.rd {ls:List Bool} (h:UBO w g ls) (o n:Nat) (hn:o+n<=ls.length) (hB:g<B):RdO w B (some ⟨g,o,none⟩) ((ls.drop o).take n):=fun _=>by
 refine⟨g,o,rfl,hB,fun j hj=>?_⟩;have aa:j<n:=by rw[Bc]at hj;omega
 rw[h.cell (o+j) (by omega),LB.gd_lt hj,LB.gd_lt (by omega:o+j<ls.length),CW,Dl]
theorem UBO.rd0 {ls:List Bool} (h:UBO w g ls) (hB:g<B):RdO w B (some ⟨g,0,none⟩) ls:=by
 have:=h.rd 0 ls.length (by omega) hB;simpa using this
theorem zmr:(Tryz.prog.info? 4).map (fun i=>(i.zero,i.size,i.bytes))=some (some (.bool false),1,1):=by kernel_rfl
theorem zbb (n:Nat):(List.replicate n false).map Value.bool=List.replicate n (.bool false):=by simp
theorem zbS {ls:List Bool} (h:w.ownsRow base 4 1 (.slice (some ⟨g,0,none⟩) n n) n (ls.map Value.bool)):UBO w g ls:=by
 rcases h.2 with⟨he,_⟩|⟨g',cap,cur,he,hb,hg,hn,hm,hs,ht⟩
 ·cases he
 ·injection he with e1 e2 e3;injection e1 with e1;injection e1 with e1;subst e1 e3;unfold UBO;rw[hg,<-ht,Cb (by simp[hs])]
theorem zhp {rest:List Oper} {o:Oper} {a:Act} {Q:Exit->Act->World->Prop} (hg:o.guard=none) (l c:Operand) (t:TypeId) (ac:o.op=Op.makeSlice t l c) (ht:Tryz.prog.underlying t=some (.slice 4)) (n:Nat) (L C:Int) (hl:a.eval l=.int .i64 L) (hc:a.eval c=.int .i64 C) (hL:L=(n:Int)) (hC:C=(n:Int)) (hn:n<=35184372088832) (hK:∀w',UBO w' w.heap.size (List.replicate n false)->Below w.heap.size w w'->w.heap.size<w'.heap.size->wpList Tryz.prog ops Q rest (a.put o.dst (.slice (some ⟨w.heap.size,0,none⟩) n n)) w') :
  wpList Tryz.prog ops Q (o::rest) a w:=by
 obtain⟨i,hi,ad,ae,af⟩:=CD zmr;refine wpList_make_full w hg l c t ac w.heap.size 4 i (.bool false) 1 ht hi ad ae .i64 .i64 L C n hl hc hL hC (by rw[af];omega) (by unfold maxLen;omega) (Ad _) fun w' aa b=>?_
 have ab:UBO w' w.heap.size (List.replicate n false):=by
  refine zbS (base:=w.heap.size) (n:=n) ?_;rw[zbb]
  have e:(madeCells (Value.bool false).cells (n*1)).toList=List.replicate n (Value.bool false):=by
   rw[Dd];exact Eh _ _
  rw[e]at aa;exact aa
 exact hK w' ab ⟨b.os,b.tape,b.output,b.size,fun k hk=>b.block k hk (by simp)⟩ ab.lt
end Go.Proofs.YtjjbaehamplnaaaGreat
namespace Go.Proofs.YtjjbaehamplnaaaGreat
open Go.RowKit
def Gm.nts (r:List Int):List Int:=(r.filter fun z=>decide (z<0)).map fun z=>-1-z
theorem Gm.nts_next (h:k<r.length):Gm.nts (r.take (k+1))=if r.getD k 0<0 then Gm.nts (r.take k)++[-1-r.getD k 0] else Gm.nts (r.take k):=by
 unfold Gm.nts;rw[L.take_snoc r k h,CF,AW];generalize r.getD k 0=z;by_cases hz:z<0
 ·rw[Ap hz];simp[hz]
 ·rw[AB hz];simp[hz]
theorem Gm.nts_len (r:List Int):(Gm.nts r).length<=r.length:=by
 unfold Gm.nts;rw[Bb];exact Ct _ _
theorem Gm.nts_mem {n:Int}:n∈Gm.nts r ↔ -1-n∈r/\0<=n:=by
 unfold Gm.nts;rw[Bi]
 constructor
 ·rintro⟨z,hz,rfl⟩
  have:=B7.1 hz
  have h2:=Cq this.2;exact⟨by rw[show -1-(-1-z)=z by omega];exact this.1,by omega⟩
 ·rintro⟨h1,h2⟩;exact⟨-1-n,B7.2 ⟨h1,by simp;omega⟩,by omega⟩
theorem zbo (z:Int) (w:World) :
  Calls Tryz.prog 176 #[.int .i64 z] w fun e w'=>e=.returned (.bool (decide (z<0)))/\w'=w:=by
 go_enter Tryz.func176,Tryz.ntmps176
 go_wp2;go_ret
 exact⟨rfl,rfl⟩
theorem zbH (z:Int) (hz:-9223372036854775808<=z) (aa:z<=9223372036854775807) (w:World) :
  Calls Tryz.prog 177 #[.int .i64 z] w fun e w'=>e=.returned (.int .i64 (-1-z))/\w'=w:=by
 have hs:IntKind.i64.wrap (-1-z) = -1-z:=Cr _ (by omega);clear hz aa
 go_enter Tryz.func177,Tryz.ntmps177
 go_wp2;go_ret
 exact⟨rfl,rfl⟩
theorem zeZ (x:Gm.Rl) (A:Option Addr) (c B:Nat) (w:World) (hr:RdI w B A x.r) (b:∀z∈x.r,Gm.In z) (hB:B<=w.heap.size) (hl:x.r.length<=1000000) :
  Calls Tryz.prog 201 #[.agg #[.int .i64 x.l,.slice A x.r.length c,.int .i64 x.p]] w fun e w'=>∃v,e=.returned v/\aS w' w.heap.size v (Gm.nts x.r)/\Below w.heap.size w w':=by
 have HR:=aA hr;have ac:=aA b;have HI:=aA (fun z w=>zbo z w);have HX:=aA (fun z h1 h2 w=>zbH z h1 h2 w);have ad:=aA hB;have HL:=aA hl;have ae:(x.r.length:Int)<=9223372036854775807:=by omega
 have HA:=aA (fun o=>(Aq w.heap.size w).alloc (Ad _) o);clear hr b hB hl
 go_enter Tryz.func201,Tryz.ntmps201
 go_wp2;go_loopw [3,9] (fun vl vi wr=>∃k:Nat,k<=x.r.length/\vi=.int .i64 k/\Hid (aS wr w.heap.size vl (Gm.nts (x.r.take k)))/\Hid (Below w.heap.size w wr)) (fun _ vi _=>x.r.length-(intOf vi).toNat)
 case atStart=>exact⟨0,AX _,rfl,aA (aS.nil _ _),HA.o _⟩
 case round =>
  obtain⟨k,hk,rfl,HO,HB⟩:=hrel;by_cases hlt:k<x.r.length
  ·obtain⟨g,o,rfl,af,hc⟩:=HR.o (by omega);have k0:=(HB.o.cell (p:=⟨g,o+k,none⟩) (Ao af ad.o)).trans (hc k hlt);have b:=ac.o (x.r.getD k 0) (by rw[L.gd_lt hlt];exact Ay _);have HN:=aA (Gm.nts_next hlt);have ag:Hid ((Gm.nts (x.r.take k)).length<=1000000):=aA (Ag (Gm.nts_len _) (by rw[Bc];have:=HL.o;omega));clear hc;unfold Gm.In at b;generalize x.r.getD k 0=z at *;have ah:=aA (fun w=>HX.o z b.1 b.2 w);have aa:=aA (fun w=>HI.o z w);clear b;by_cases hz:z<0
   ·have ab:=aA (HN.o.trans (Ap hz));rw[AJ hz]at aa;clear hz;go_wp2_with fail
    refine(aa.o _).mono ?_;rintro _ w2 ⟨rfl,d⟩;subst d;go_wp2_with fail
    refine(ah.o _).mono ?_;rintro _ w2 ⟨rfl,d⟩;subst d;generalize -1-z=n at *;go_wp2_with (at_builtin;refine zbA rfl (.tmp 15) (.tmp 18) _ rfl Tryz.underlying51 w.heap.size _ _ rfl (HO.o.alloc _) _ 1 n rfl (Dz _ _ _ 0) (by have:=ag.o;omega) (by have:=HB.o.size;simp;omega) ?_;intro v' w2 ai aj)
    go_roundw
    case rel=>exact⟨k+1,hlt,by go_num,by rw[ab.o];exact ai,zbF (HB.o.alloc (by have:=HB.o.size;omega) _) (HO.o.alloc _) aj (by have:=HB.o.size;simp;omega)⟩
    case measure=>simp[intOf];omega
   ·have ab:=aA (HN.o.trans (AB hz));rw[AM hz]at aa;clear hz;go_wp2_with fail
    refine(aa.o _).mono ?_;rintro _ w2 ⟨rfl,d⟩;subst d;go_wp2_with fail
    go_roundw
    case rel=>exact⟨k+1,hlt,by go_num,by rw[ab.o];exact HO,HB⟩
    case measure=>simp[intOf];omega
  ·obtain rfl:k=x.r.length:=by omega
   rw[Bo]at HO;go_wp2;go_ret
   exact⟨_,rfl,HO.o,HB.o⟩
theorem Gm.allB_nts {is:List Bool}:Gm.allB true is r=(Gm.nts r).all fun n=>is.getD n.toNat false:=by
 unfold Gm.allB Gm.nts;rw[List.all_map,List.all_filter]
 congr 1
 funext z
 by_cases h:z<0
 ·simp[h,show ¬0<=z by omega]
 ·simp[h,show 0<=z by omega]
def ziq (l:List Int) (p:Int->Bool) (k:Nat):Prop:=∀i (h:i<l.length),i<k->p l[i]=true
theorem ziq.next {p:Int->Bool} (h:ziq l p k) (hk:k<l.length) (hn:p l[k]=true):ziq l p (k+1):=fun i hi aa=>by
 rcases Bz i k with q|q
 ·exact h i hi q
 ·obtain rfl:i=k:=by omega
  exact hn
theorem ziq.all {p:Int->Bool} (h:ziq l p l.length):l.all p=true:=by
 rw[BP];intro z hz;obtain⟨i,hi,rfl⟩:=BB hz;exact h i hi hi
theorem ziq.not {p:Int->Bool} (hk:k<l.length) (h:p l[k]=false):l.all p=false:=by
 rw[DH];exact⟨_,Ay hk,by rw[h];simp⟩
theorem zaW (x:Gm.Rl) (is:List Bool) (A A2:Option Addr) (c c2 B:Nat) (w:World) (hr:RdI w B A x.r) (ad:∀z∈x.r,Gm.In z) (hs:∀z∈x.r,z<0->-1-z<(is.length:Int)) (hp:RdO w B A2 is) (hB:B<=w.heap.size) (hl:x.r.length<=1000000) :
  Calls Tryz.prog 179 #[.agg #[.int .i64 x.l,.slice A x.r.length c,.int .i64 x.p],.slice A2 is.length c2] w fun e w'=>e=.returned (.bool (Gm.allB true is x.r))/\Below w.heap.size w w':=by
 have ae:=aA (fun(y:World) (h:Below w.heap.size w y)=>zeZ x A c B y (hr.below h hB) ad (Ag hB h.size) hl);have HP:=aA hp;have aj:=aA hB;have aa:=aA (fun n (h:n∈Gm.nts x.r)=>(show 0<=n/\n<(is.length:Int) from⟨(Gm.nts_mem.1 h).2,by have:=hs _ (Gm.nts_mem.1 h).1 (by have:=(Gm.nts_mem.1 h).2;omega);omega⟩));have HE:=aA (Gm.allB_nts (is:=is) (r:=x.r));have HA:=aA (fun o=>(Aq w.heap.size w).alloc (Ad _) o);have ak:=aA (Ag (Gm.nts_len x.r) hl);rw[HE.o];generalize Gm.nts x.r=ls at *;have al:(ls.length:Int)<=9223372036854775807:=by have:=ak.o;omega
 clear hr ad hs hp hB hl HE
 go_enter Tryz.func179,Tryz.ntmps179
 go_wp2_with fail
 refine(ae.o _ (HA.o _)).mono ?_;rintro _ w2 ⟨v,rfl,af,ag⟩;have ab:=aA ((HA.o (.cells #[.int .i64 x.l,.slice A x.r.length c,.int .i64 x.p] 74)).trans (ag.mono (by simp)));obtain⟨A3,c3,rfl,am,ao,ah⟩:=af.form;have ap:=aA ah;clear af ag ah am ao ae;go_wp2
 go_loop [10] (fun vi=>∃k:Nat,k<=ls.length/\vi=.int .i64 k/\Hid (ziq ls (fun n=>is.getD n.toNat false) k)) (fun vi=>ls.length-(intOf vi).toNat)
 case atStart=>exact⟨0,AX _,rfl,aA (fun _ _ h=>absurd h (by omega))⟩
 case round =>
  obtain⟨k,hk,rfl,HK⟩:=hrel;by_cases hlt:k<ls.length
  ·obtain⟨g,o,rfl,ar,hc⟩:=ap.o (by omega);have k0:=hc k hlt;have hm:=aa.o _ (Ay hlt);rw[L.gd_lt hlt]at k0;have HY:=aA (fun h=>HK.o.next hlt h);have HN:=aA (fun h=>ziq.not (p:=fun n=>is.getD n.toNat false) hlt h);clear hc;generalize ls[k]=n at *;obtain⟨m,rfl⟩:∃m:Nat,n=(m:Int):=⟨n.toNat,by omega⟩
   have aq:m<is.length:=by omega
   obtain⟨g2,o2,rfl,ac,ai⟩:=HP.o (by omega);have k2:=(ab.o.cell (p:=⟨g2,o2+m,none⟩) (Ao ac aj.o)).trans (ai m aq);have au:(m:Int)<(is.length:Int):=by omega
   simp only[BZ]at HY HN;generalize is.getD m false=b at *;clear ai hm;cases b
   ·have HX:=aA (HN.o rfl);go_wp2;go_ret
    exact⟨aD HX.o.symm,ab.o⟩
   ·have HX:=aA (HY.o rfl);go_wp2
    go_round
    case rel=>exact⟨k+1,hlt,by go_num,HX⟩
    case measure=>simp[intOf];omega
  ·obtain rfl:k=ls.length:=by omega
   have HX:=aA (HK.o.all);go_wp2;go_ret
   exact⟨aD HX.o.symm,ab.o⟩
def Gm.ps (tm:Bool) (is:List Bool) (z:Int):Bool:=if 0<=z then tm else is.getD (-1-z).toNat false
theorem Gm.ps_non {is:List Bool} (h:z<0):∃m:Nat,-1-z=(m:Int)/\Gm.ps tm is z=is.getD m false:=by
 refine⟨(-1-z).toNat,by omega,?_⟩;unfold Gm.ps;rw[AB (by omega)]
theorem Gm.ps_term {is:List Bool} (h:¬z<0):Gm.ps tm is z=tm:=by unfold Gm.ps;rw[Ap (by omega)]
theorem zhe (z:Int) (is:List Bool) (A:Option Addr) (c B:Nat) (w:World) (hz:Gm.In z) (hs:z<0->-1-z<(is.length:Int)) (hr:RdO w B A is) :
  Calls Tryz.prog 226 #[.int .i64 z,.slice A is.length c] w fun e w'=>e=.returned (.bool (Gm.ps false is z))/\w'=w:=by
 unfold Gm.In at hz;have HI:=aA (fun w=>zbo z w);have HX:=aA (fun w=>zbH z hz.1 hz.2 w);by_cases h0:z<0
 ·obtain⟨m,he,hp⟩:=Gm.ps_non (tm:=false) (is:=is) h0;have hm:=hs h0;rw[he]at HX hm;have aa:m<is.length:=by omega
  obtain⟨g,o,rfl,ab,hc⟩:=hr (by omega);have k0:=hc m aa;rw[hp];rw[AJ h0]at HI;generalize is.getD m false=b at *;clear hz hs hr hc h0 he hp
  go_enter Tryz.func226,Tryz.ntmps226
  go_wp2_with fail
  refine(HI.o _).mono ?_;rintro _ w2 ⟨rfl,d⟩;subst d;go_wp2_with fail
  refine(HX.o _).mono ?_;rintro _ w2 ⟨rfl,d⟩;subst d;go_wp2;go_ret
  exact⟨rfl,rfl⟩
 ·rw[Gm.ps_term h0];rw[AM h0]at HI;clear hz hs hr h0 HX
  go_enter Tryz.func226,Tryz.ntmps226
  go_wp2_with fail
  refine(HI.o _).mono ?_;rintro _ w2 ⟨rfl,d⟩;subst d;go_wp2;go_ret
  exact⟨rfl,rfl⟩
theorem zhd (z:Int) (is:List Bool) (A:Option Addr) (c B:Nat) (w:World) (hz:Gm.In z) (hs:z<0->-1-z<(is.length:Int)) (hr:RdO w B A is) :
  Calls Tryz.prog 175 #[.int .i64 z,.slice A is.length c] w fun e w'=>e=.returned (.bool (Gm.ps true is z))/\w'=w:=by
 unfold Gm.In at hz;have HI:=aA (fun w=>zbo z w);have HX:=aA (fun w=>zbH z hz.1 hz.2 w);by_cases h0:z<0
 ·obtain⟨m,he,hp⟩:=Gm.ps_non (tm:=true) (is:=is) h0;have hm:=hs h0;rw[he]at HX hm;have aa:m<is.length:=by omega
  obtain⟨g,o,rfl,ab,hc⟩:=hr (by omega);have k0:=hc m aa;rw[hp];rw[AJ h0]at HI;generalize is.getD m false=b at *;clear hz hs hr hc h0 he hp
  go_enter Tryz.func175,Tryz.ntmps175
  go_wp2_with fail
  refine(HI.o _).mono ?_;rintro _ w2 ⟨rfl,d⟩;subst d;go_wp2_with fail
  refine(HX.o _).mono ?_;rintro _ w2 ⟨rfl,d⟩;subst d;go_wp2;go_ret
  exact⟨rfl,rfl⟩
 ·rw[Gm.ps_term h0];rw[AM h0]at HI;clear hz hs hr h0 HX
  go_enter Tryz.func175,Tryz.ntmps175
  go_wp2_with fail
  refine(HI.o _).mono ?_;rintro _ w2 ⟨rfl,d⟩;subst d;go_wp2;go_ret
  exact⟨rfl,rfl⟩
theorem zaI {fn:Func} (hf:Tryz.prog.funcs[f]?=some fn) (hb:fn.body.isNone=false) (hn:(fn.name == "runtime.NumGoroutine")=false) (args:Array Value) (w:World):Sem.run Tryz.prog (callFunc f args) w=.ok (.enter f args) w:=by
 have aa:¬fn.name = "runtime.NumGoroutine" := by simpa using hn
 have ab:fn.body≠none:=by intro h;rw[h]at hb;cases hb
 simp[callFunc,go_sem,hf,ab,aa]
theorem ziQ (w:World) (b:List Int) (base:Nat) (hb:base<=w.heap.size) (hm:b.length<=maxLen):aS (w.alloc (.cells (b.map (Value.int .i64)).toArray 3)) base (.slice (some ⟨w.heap.size,0,none⟩) b.length b.length) b :=
 ⟨by simp,.inr ⟨w.heap.size,b.length,_,rfl,hb,Az w _,Ad _,hm,by simp,by simp[Cb]⟩⟩
def Gm.brL (tm:Bool) (is:List Bool) (x:Gm.Rl):List Int:=if Gm.allB tm is x.r=true then [x.l] else []
theorem zfX (f:Nat) (hE:∀args w,Sem.run Tryz.prog (callFunc f args) w=.ok (.enter f args) w) (tm:Bool) (x:Gm.Rl) (is:List Bool) (A A2:Option Addr) (c c2 B gp gk:Nat) (w:World) (hf:∀z y,Below w.heap.size w y->z∈x.r->Calls Tryz.prog f #[.int .i64 z,.slice A2 is.length c2] y fun e w'=>e=.returned (.bool (Gm.ps tm is z))/\w'=y) (ac:w.cell? ⟨gp,0,none⟩=some (.func (Fn.func f) #[] #[])) (ad:w.cell? ⟨gk,0,none⟩=some (.slice A2 is.length c2)) (hr:RdI w B A x.r) (hB:B<=w.heap.size) (hl:x.r.length<=1000000) :
  Calls Tryz.prog 199 #[.agg #[.int .i64 x.l,.slice A x.r.length c,.int .i64 x.p],.pointer (some ⟨gp,0,none⟩),.pointer (some ⟨gk,0,none⟩)] w fun e w'=>∃v,e=.returned v/\aS w' w.heap.size v (Gm.brL tm is x)/\Below w.heap.size w w':=by
 have HF:=aA hf;have HR:=aA hr;have ae:=aA hB;have HA:=aA (fun o=>(Aq w.heap.size w).alloc (Ad _) o);have lp:=Bd ac;have lk:=Bd ad;have af:(x.r.length:Int)<=9223372036854775807:=by omega
 have HE:Hid (Gm.brL tm is x=if x.r.all (Gm.ps tm is)=true then [x.l] else []):=aA rfl;clear hf hr hB hl
 go_enter Tryz.func199,Tryz.ntmps199
 go_wp2
 go_loop [10] (fun vi=>∃k:Nat,k<=x.r.length/\vi=.int .i64 k/\Hid (ziq x.r (Gm.ps tm is) k)) (fun vi=>x.r.length-(intOf vi).toNat)
 case atStart=>exact⟨0,AX _,rfl,aA (fun _ _ h=>absurd h (by omega))⟩
 case round =>
  obtain⟨k,hk,rfl,HK⟩:=hrel;by_cases hlt:k<x.r.length
  ·obtain⟨g,o,rfl,ag,hc⟩:=HR.o (by omega);have k0:=hc k hlt;rw[L.gd_lt hlt]at k0;have ah:g<w.heap.size:=Ao ag ae.o;have aa:=aA (fun y h=>HF.o _ y h (Ay hlt));have HY:=aA (fun h=>HK.o.next hlt h);have HN:=aA (fun h=>ziq.not (p:=Gm.ps tm is) hlt h);clear hc;generalize x.r[k]=z at *;cases hb:Gm.ps tm is z
   ·rw[hb]at aa;have HX:=aA (HE.o.trans (AB (by rw[HN.o hb];decide)));clear hb;go_wp2_with fail
    refine(aa.o _ (HA.o _)).mono ?_;rintro _ w2 ⟨rfl,ab⟩;subst ab;go_wp2;go_ret
    exact⟨_,rfl,by rw[HX.o];exact aS.nil _ _,HA.o _⟩
   ·rw[hb]at aa;have HX:=aA (HY.o hb);clear hb;go_wp2_with fail
    refine(aa.o _ (HA.o _)).mono ?_;rintro _ w2 ⟨rfl,ab⟩;subst ab;go_wp2
    go_round
    case rel=>exact⟨k+1,hlt,by go_num,HX⟩
    case measure=>simp[intOf];omega
  ·obtain rfl:k=x.r.length:=by omega
   have HX:=aA (HE.o.trans (Ap HK.o.all));go_wp2;go_ret
   have q:=ziQ (w.alloc (.cells #[.int .i64 x.l,.slice A x.r.length c,.int .i64 x.p] 74)) [x.l] w.heap.size (by simp) (by unfold maxLen;simp);rw[show(w.alloc (.cells #[.int .i64 x.l,.slice A x.r.length c,.int .i64 x.p] 74)).heap.size=w.heap.size+1 by simp]at q;exact⟨_,rfl,by rw[HX.o];exact q,(HA.o _).alloc (HA.o _).size _⟩
def znS (w:World) (g:Nat):Nat:=match w.heap[g]? with
 | some (.cells cs _ _)=>cs.toList.countP fun v=>match v with | .bool false=>true|_=>false
 | _=>0
theorem UBO.cnt {s:List Bool} (h:UBO w g s):znS w g=s.count false:=by
 unfold znS;rw[h];clear h;simp only;induction s with
 | nil=>rfl
 | cons b s ih =>
  simp only[Bp,List.countP_cons,List.count_cons]at ih ⊢;rw[ih];cases b <;> rfl
theorem Gm.ct_false (s:List Bool):s.count false+Gm.ct s=s.length:=by
 unfold Gm.ct;induction s with
 | nil=>rfl
 | cons b s ih=>cases b <;> simp <;> omega
theorem Gm.ct_set {s:List Bool} (h:i<s.length):(s.getD i false=true->s.set i true=s)/\(s.getD i false=false->Gm.ct (s.set i true)=Gm.ct s+1):=by
 induction s generalizing i with
 | nil=>simp at h
 | cons b s ih =>
  cases i with
  | zero=>cases b <;> simp[Gm.ct]
  | succ i =>
   have:=ih (i:=i) (by simpa using h)
   simp only[List.getD_cons_succ,Dv];refine⟨fun e=>by rw[this.1 e],fun e=>?_⟩;have h2:=this.2 e;unfold Gm.ct at h2 ⊢;cases b <;> simp_all
structure Grw (w wr:World) (gk n:Nat) (D:Int->Prop) (s0 s:List Bool):Prop where
 u:UBO wr gk s
 l:s.length=n
 d:∀i:Nat,s.getD i false=true->D (i:Int)
 le:Gm.Le s0 s
 g:w.grownBy wr (some gk)
theorem Grw.alloc {w wr:World} {gk n:Nat} {D:Int->Prop} {s0 s:List Bool} (h:Grw w wr gk n D s0 s) (o:Obj):Grw w (wr.alloc o) gk n D s0 s:=⟨h.u.alloc o,h.l,h.d,h.le,aG h.g o⟩
theorem Grw.below {w wr w':World} {gk n:Nat} {D:Int->Prop} {s0 s:List Bool} (h:Grw w wr gk n D s0 s) (hb:Below wr.heap.size wr w'):Grw w w' gk n D s0 s:=⟨h.u.below hb h.u.lt,h.l,h.d,h.le,zae h.g (zab hb _)⟩
theorem Grw.set {w wr:World} {gk n:Nat} {D:Int->Prop} {s0 s:List Bool} (h:Grw w wr gk n D s0 s) {m:Nat} (hd:D (m:Int)):Grw w (wr.setCell ⟨gk,m,none⟩ (.bool true)) gk n D s0 (s.set m true) :=
 ⟨h.u.set_ m true,by rw[Dp];exact h.l,fun i hi=>by
  rcases Gm.getD_set _ _ _ hi with h1|h1
  ·exact h.d i h1
  ·rw[h1];exact hd,h.le.trans (Gm.Le.set _ _),aF h.g m _⟩
def Nw (s0 s:List Bool) (b:Bool) (C:Prop):Prop:=(b=false->s=s0/\C)/\(b=true->Gm.ct s0<Gm.ct s)
theorem Nw.start (s:List Bool) (C:Prop) (hC:C):Nw s s false C:=⟨fun _=>⟨rfl,hC⟩,fun h=>by cases h⟩
theorem Nw.mono {s:List Bool} {b:Bool} {C C':Prop} (h:Nw s0 s b C) (k:C->C'):Nw s0 s b C':=⟨fun e=>⟨(h.1 e).1,k (h.1 e).2⟩,h.2⟩
theorem Nw.next {s:List Bool} {b:Bool} {C C':Prop} (h:Nw s0 s b C) (hm:m<s.length) (hC:C->s0.getD m false=true->C'):Nw s0 (s.set m true) (b || !s.getD m false) C':=by
 obtain⟨h1,h2⟩:=Gm.ct_set hm;cases hv:s.getD m false
 ·refine⟨fun e=>by simp at e,fun _=>?_⟩;rw[h2 hv];cases b
  ·rw[(h.1 rfl).1];omega
  ·have:=h.2 rfl;omega
 ·rw[h1 hv];refine⟨fun e=>?_,fun e=>h.2 (by simpa using e)⟩;have hb:b=false:=by simpa using e
  obtain⟨e1,c⟩:=h.1 hb;refine⟨e1,hC c ?_⟩;rw[<-e1];exact hv
theorem aS.rdOf {c:Nat} {xs:List Int} (h:aS w base (.slice A n c) xs):RdI w w.heap.size A xs:=by
 obtain⟨A',c',e,_,_,hr⟩:=h.form;injection e with e1 _ _;rw[e1];exact hr
theorem aS.far {xs:List Int} (h:aS w base v xs) (hg:w.grownBy w' (some gk)) (aa:gk<base):aS w' base v xs :=
 AZ h hg (by
  cases hv:v.ownBlock with
  | none=>exact .inl rfl
  | some k=>exact .inr (fun e=>by injection e with e;have:=(Bs h k hv).1;omega))
def bN:Value->Nat
 | .bool true=>1
 | _=>0
theorem zam {o:Nat} (h:w.grownBy wr (some gk)) (hB:B<=w.heap.size) (hk:B<=gk) (hg:g<B):wr.cell? ⟨g,o,none⟩=w.cell? ⟨g,o,none⟩ :=
 Ch (h.block g (by omega) (fun e=>by injection e with e;omega))
theorem zfc (fb p1 p2:Nat) (hE:∀args w,Sem.run Tryz.prog (callFunc fb args) w=.ok (.enter fb args) w) (rs:List Gm.Rl) (AR:Option Addr) (cR ck B gk n:Nat) (w:World) (s0:List Bool) (D:Int->Prop) (br:List Bool->Gm.Rl->List Int) (hR:zd3 w B AR rs) (hB:B<=w.heap.size) (hk:B<=gk) (hu:UBO w gk s0) (hn:s0.length=n) (hd:∀i:Nat,s0.getD i false=true->D (i:Int)) (hl:rs.length<=1000000) (ah:∀(y:World) (s:List Bool) (x:Gm.Rl) (A':Option Addr) (c':Nat),w.grownBy y (some gk)->UBO y gk s->s.length=n->x∈rs->RdI y B A' x.r->Calls Tryz.prog fb #[.agg #[.int .i64 x.l,.slice A' x.r.length c',.int .i64 x.p],.pointer (some ⟨p1,0,none⟩),.pointer (some ⟨p2,0,none⟩)] y fun e w'=>∃v,e=.returned v/\aS w' y.heap.size v (br s x)/\Below y.heap.size y w') (ai:∀s x,x∈rs->s.length=n->(∀i:Nat,s.getD i false=true->D (i:Int))->∀m∈br s x,0<=m/\m<n/\D m) (aj:∀s x,x∈rs->(br s x).length<=1000000) :
  Calls Tryz.prog 198 #[.slice (some ⟨gk,0,none⟩) n ck,.slice AR rs.length cR,.func (Fn.func fb) #[] #[.pointer (some ⟨p1,0,none⟩),.pointer (some ⟨p2,0,none⟩)]] w fun e w'=>e=.returned (.tuple #[])/\∃s,Grw w w' gk n D s0 s/\∀x∈rs,∀m∈br s x,s.getD m.toNat false=true:=by
 have HR:=aA hR;have HB:=aA hB;have HK:=aA hk;have ay:=aA ah;have az:=aA ai;have a0:=aA aj;have a1:Hid (Grw w w gk n D s0 s0):=aA ⟨hu,hn,hd,Gm.Le.refl _,AI _ _⟩;have a2:(rs.length:Int)<=9223372036854775807:=by omega
 clear hR hB hk hu hn hd hl ah ai aj
 go_enter Tryz.func198,Tryz.ntmps198
 go_wp2;go_loopw [6] (fun vg wr=>∃(s:List Bool) (b:Bool),vg=.bool b/\Hid (Grw w wr gk n D s0 s)/\Hid (b=false->∀x∈rs,∀m∈br s x,s.getD m.toNat false=true)) (fun vg wr=>2*znS wr gk+bN vg)
 case atStart=>exact⟨s0,true,rfl,a1,aA (fun h=>by cases h)⟩
 case round =>
  obtain⟨s,b,rfl,HG,HC⟩:=hrel;obtain⟨wo,a3⟩:∃wo:World,wo=wr:=⟨_,rfl⟩
  subst a3;cases b
  ·go_wp2;go_end0
   exact⟨rfl,s,HG.o,HC.o (by trivial)⟩
  ·clear HC;go_wp2;go_loopw [6,14] (fun vg vi wr=>∃(s1:List Bool) (b1:Bool) (i:Nat),i<=rs.length/\vg=.bool b1/\vi=.int .i64 i/\Hid (Grw w wr gk n D s0 s1)/\Hid (Gm.Le s s1)/\Hid (Nw s s1 b1 (∀x∈rs.take i,∀m∈br s x,s.getD m.toNat false=true))) (fun _ vi _=>rs.length-(intOf vi).toNat)
   case atStart=>exact⟨s,false,0,AX _,rfl,rfl,HG,aA (Gm.Le.refl _),aA (Nw.start _ _ (by simp))⟩
   case round =>
    obtain⟨s1,b1,i,hi,rfl,rfl,f,a4,A⟩:=hrel;obtain⟨wi,a5⟩:∃wi:World,wi=wr:=⟨_,rfl⟩
    subst a5;by_cases t:i<rs.length
    ·obtain⟨g,o,rfl,ac,hc⟩:=HR.o (by omega);obtain⟨k0,⟨A',c',k1,_,_,ak⟩,k2⟩:=hc i t;have k0:=(zam f.o.g HB.o HK.o ac).trans k0;have k1:=(zam f.o.g HB.o HK.o ac).trans k1;have k2:=(zam f.o.g HB.o HK.o ac).trans k2;have a6:g<wi.heap.size:=by have:=f.o.g.size;have:=HB.o;omega
     have a9:=aA (fun(o:Obj)=>ay.o (wi.alloc o) s1 rs[i] A' c' (f.o.alloc o).g (f.o.alloc o).u f.o.l (Ay t) (ak.keep fun g o hg=>zam (f.o.alloc _).g HB.o HK.o hg));have al:=aA (az.o s1 rs[i] (Ay t) f.o.l f.o.d);have ba:=aA (a0.o s1 rs[i] (Ay t));have bb:Hid (rs.take (i+1)=rs.take i++[rs[i]]):=aA (AO t);clear hc ak;generalize rs[i]=x at *;have aa:=a4;go_wp2_with fail
     refine(a9.o _).mono ?_;rintro _ w2 ⟨v,rfl,ad,am⟩;have ao:=aA ((f.o.alloc _).below am);have bh:=f.o.u.lt;obtain⟨A3,c3,rfl,bi,bj,_⟩:=ad.form;have ae:=aA ad;have bc:((br s1 x).length:Int)<=9223372036854775807:=by have:=ba.o;omega
     obtain⟨ls,af⟩:∃ls,ls=br s1 x:=⟨_,rfl⟩
     rw[<-af]at ae al bc ⊢;have bd:=aA af;clear ad am af k0 k1 k2 a6;go_wp2;go_loopw [6,22] (fun vg vk wr=>∃(s2:List Bool) (b2:Bool) (k:Nat),k<=ls.length/\vg=.bool b2/\vk=.int .i64 k/\Hid (Grw w wr gk n D s0 s2)/\Hid (Gm.Le s1 s2)/\Hid (aS wr (wi.heap.size+1) (.slice A3 ls.length c3) ls)/\Hid (Nw s s2 b2 ((∀x∈rs.take i,∀m∈br s x,s.getD m.toNat false=true)/\∀m∈ls.take k,s.getD m.toNat false=true))) (fun _ vk _=>ls.length-(intOf vk).toNat)
     case atStart=>exact⟨s1,b1,0,AX _,rfl,rfl,ao,aA (Gm.Le.refl _),aA (by have:=ae.o;simpa using this),aA (A.o.mono fun h=>⟨h,by simp⟩)⟩
     case round =>
      clear ao ae;obtain⟨s2,b2,k,bk,rfl,rfl,z,ag,ap,C⟩:=hrel;by_cases j:k<ls.length
      ·obtain⟨g3,o3,rfl,bl,aq⟩:=ap.o.rdOf (by omega);have k3:=aq k j;rw[L.gd_lt j]at k3;obtain⟨bf,ar,au⟩:=al.o _ (Ay j);have bg:Hid (ls.take (k+1)=ls.take k++[ls[k]]):=aA (AO j);clear aq;generalize ls[k]=mz at *;obtain⟨m,rfl⟩:∃m:Nat,mz=(m:Int):=⟨mz.toNat,by omega⟩
       have hmn:m<s2.length:=by rw[z.o.l];omega
       have av:=aA (z.o.set au);have aw:=aA (ag.o.trans (Gm.Le.set s2 m));have ax:=aA (ap.o.far (aF (AI wr (some gk)) m (.bool true)) (by omega))
       have ab:=aA (C.o.next hmn (C':=(∀x∈rs.take i,∀m∈br s x,s.getD m.toNat false=true)/\∀m∈ls.take (k+1),s.getD m.toNat false=true) (fun hC hv=>⟨hC.1,fun q hq=>by
        rw[bg.o]at hq;rcases Bj.1 hq with h|h
        ·exact hC.2 q h
        ·obtain rfl:=AF.1 h
         simpa using hv⟩))
       have k4:=z.o.u.cell m hmn;have f4:=z.o.u.frozen m;have bm:=z.o.u.lt;have bn:(m:Int)<(n:Int):=ar;clear au bf ar;generalize s2.getD m false=bv at *;cases b2
       ·rw[EN]at ab;go_wp2;go_roundw
        case rel=>exact⟨s2.set m true,!bv,k+1,j,rfl,by go_num,av,aw,ax,ab⟩
        case measure=>simp[intOf];omega
       ·rw[Ds]at ab;go_wp2;go_roundw
        case rel=>exact⟨s2.set m true,true,k+1,j,rfl,by go_num,av,aw,ax,ab⟩
        case measure=>simp[intOf];omega
      ·obtain rfl:k=ls.length:=by omega
       rw[Bo]at C;go_wp2;go_roundw
       case rel =>
        refine⟨s2,b2,i+1,t,rfl,by go_num,z,aA (aa.o.trans ag.o),aA ⟨fun e=>⟨(C.o.1 e).1,?_⟩,C.o.2⟩⟩;obtain⟨e1,h1,h2⟩:=C.o.1 e;have e2:s1=s:=(by rw[<-e1];exact ag.o:Gm.Le s1 s).anti aa.o;intro y hy;rw[bb.o]at hy;rcases Bj.1 hy with h|h
        ·exact h1 y h
        ·obtain rfl:=AF.1 h;intro q hq;exact h2 q (by rw[bd.o,e2];exact hq)
       case measure=>simp[intOf];omega
    ·obtain rfl:i=rs.length:=by omega
     rw[Bo]at A;go_wp2;go_roundw
     case rel=>exact⟨s1,b1,rfl,f,aA fun e=>by
      obtain⟨e1,h1⟩:=A.o.1 e;rw[e1];exact h1⟩
     case measure =>
      have q1:=HG.o.u.cnt;have q2:=f.o.u.cnt;have q3:=Gm.ct_false s;have q4:=Gm.ct_false s1;have q5:=HG.o.l;have q6:=f.o.l;rw[q1,q2];cases b1
      ·obtain⟨e1,_⟩:=A.o.1 rfl;rw[e1];simp[bN]
      ·have:=A.o.2 rfl
       simp[bN];omega
def zlf (s:List Bool) (w:World) (e:Ending) (w':World):Prop:=∃g,e=.returned (.slice (some ⟨g,0,none⟩) s.length s.length)/\w.heap.size<=g/\UBO w' g s/\Below w.heap.size w w'
theorem zaz {o:Nat} (h:w.grownBy wr (some gk)) (hg:w.cell? ⟨g,o,none⟩=some u) (aa:g≠gk):wr.cell? ⟨g,o,none⟩=some u :=
 (Ch (h.block g (Bd hg) (fun e=>by injection e with e;exact aa e))).trans hg
theorem Gm.brL_mem {is:List Bool} {x:Gm.Rl} {m:Int} (h:m∈Gm.brL tm is x):m=x.l/\Gm.allB tm is x.r=true:=by
 unfold Gm.brL at h;split at h
 ·exact⟨AF.1 h,by assumption⟩
 ·simp at h
theorem Gm.brL_of {is:List Bool} {x:Gm.Rl} (h:Gm.allB tm is x.r=true):x.l∈Gm.brL tm is x:=by
 unfold Gm.brL;rw[Ap h];exact AF.2 rfl
theorem Gm.brL_len (tm:Bool) (is:List Bool) (x:Gm.Rl):(Gm.brL tm is x).length<=1000000:=by
 unfold Gm.brL;split <;> simp
theorem zdK (f:Nat) (hE:∀args w,Sem.run Tryz.prog (callFunc f args) w=.ok (.enter f args) w) (tm:Bool) (hf:∀(z:Int) (is:List Bool) (A:Option Addr) (c B:Nat) (y:World),Gm.In z->(z<0->-1-z<(is.length:Int))->RdO y B A is->Calls Tryz.prog f #[.int .i64 z,.slice A is.length c] y fun e w'=>e=.returned (.bool (Gm.ps tm is z))/\w'=y) (v:Value) (G:Gm.Gr) (B:Nat) (w:World) (hg:aQ w B v G) (aa:Gm.Fit G) (ac:Gm.Ok G) (hB:B<=w.heap.size) :
  Calls Tryz.prog 174 #[v,.func (Fn.func f) #[] #[]] w (zlf (Gm.gn tm G.rs G.ns.length) w):=by
 obtain⟨AT,cT,AN,cN,AR,cR,rfl,_,⟨a9,ba⟩,_,_,_,hR⟩:=hg;have ax:=aA hR;have HB:=aA hB;have af:=aA ac;have ay:=aA aa;have az:=aA hf;have HN:Hid (G.ns.length<=40):=aA (by have:=(Gm.nons_iff G).1 ac.n;omega);have ag:Hid (G.rs.length<=40):=aA ac.r40;have bb:=HN.o;obtain⟨w1,b⟩:∃y,y=(w.alloc (.cells #[.slice AT G.ts.length cT,.slice AN G.ns.length cN,.slice AR G.rs.length cR,.int .i64 G.st] 26)).alloc (.cells #[.func (Fn.func f) #[] #[]] 249):=⟨_,rfl⟩
 have al:w1.heap.size=w.heap.size+2:=by rw[b];simp
 have a0:Hid (Below w.heap.size w w1):=aA (by rw[b];exact((Aq _ w).alloc (Ad _) _).alloc (by simp) _);have x0:w1.heap[w.heap.size]?=some (.cells #[.slice AT G.ts.length cT,.slice AN G.ns.length cN,.slice AR G.rs.length cR,.int .i64 G.st] 26 (0,0)):=by rw[b,BI _ _ _ (by simp)];exact Az w _
 have x1:w1.heap[w.heap.size+1]?=some (.cells #[.func (Fn.func f) #[] #[]] 249 (0,0)):=by rw[b];have:=Az (w.alloc (.cells #[.slice AT G.ts.length cT,.slice AN G.ns.length cN,.slice AR G.rs.length cR,.int .i64 G.st] 26)) (.cells #[.func (Fn.func f) #[] #[]] 249);simpa using this
 have c1:=aR x0;have c2:=bF x0;have cf:=aM x1;have a1:=aA c2;have a2:=aA cf;have ad:=aA al;have bc:w.heap.size<w1.heap.size:=by omega
 have a3:(G.ns.length:Int)<=9223372036854775807:=by omega
 clear hR hB ac aa hf x0 x1 c2 cf al
 go_enter Tryz.func174,Tryz.ntmps174
 go_upto_region 1 with fail
 rw[<-b];clear b;go_upto_region 2 with(at_make;refine zhp rfl (.tmp 8) (.tmp 8) _ rfl Tryz.underlying188 G.ns.length _ _ rfl rfl rfl rfl (by omega) ?_;intro w2 am ah a4)
 have x3:=Az w2 (.cells #[.slice (some ⟨w1.heap.size,0,none⟩) G.ns.length G.ns.length] 188);have ai:=am.alloc (.cells #[.slice (some ⟨w1.heap.size,0,none⟩) G.ns.length G.ns.length] 188);have i:Below w1.heap.size w1 (w2.alloc (.cells #[.slice (some ⟨w1.heap.size,0,none⟩) G.ns.length G.ns.length] 188)):=ah.alloc ah.size _;obtain⟨w3,aj⟩:∃y,y=w2.alloc (.cells #[.slice (some ⟨w1.heap.size,0,none⟩) G.ns.length G.ns.length] 188):=⟨_,rfl⟩
 rw[<-aj]at x3 ai i ⊢;have ao:w2.heap.size<w3.heap.size:=by rw[aj];simp
 have c2:=(i.cell (p:=⟨w.heap.size,2,none⟩) (by simp only;omega)).trans a1.o;have cf:=(i.cell (p:=⟨w.heap.size+1,0,none⟩) (by have:=ad.o;simp only;omega)).trans a2.o;have ck:=aM x3;have bd:w.heap.size<w3.heap.size:=by omega
 have j:Below w.heap.size w w3:=a0.o.trans (i.mono (by have:=ad.o;omega));have ap:zd3 w3 B AR G.rs:=ax.o.keep fun g o hg=>j.cell (p:=⟨g,o,none⟩) (Ao hg HB.o)
 have aq:=aA (zfc 199 (w.heap.size+1) w2.heap.size (zaI Tryz.func199 (by kernel_rfl) (by kernel_rfl)) G.rs AR cR G.ns.length B w1.heap.size G.ns.length w3 (List.replicate G.ns.length false) (Gm.Gn tm G.rs) (Gm.brL tm)
  ap (Ag HB.o j.size) (by have:=HB.o;omega) ai (by simp) (Gm.Snd.none tm G.rs _) (by have:=ag.o;omega)
  (fun y s x A' c' ak hu hl hx hr=>by
   have e:=ay.o.r x hx;have q2:=zaz ak ck (by omega);rw[<-hl]at q2
   exact zfX f hE tm x s A' (some ⟨w1.heap.size,0,none⟩) c' s.length B (w.heap.size+1) w2.heap.size y
    (fun z y' hy hz=>az.o z s _ _ y'.heap.size y' (e.2.2 z hz) (fun h=>by rw[hl];exact af.o.sin x hx z hz h) ((hu.below hy hu.lt).rd0 (by have:=hy.size;have:=hu.lt;omega)))
    (zaz ak cf (by have:=ad.o;omega)) q2 hr (Ag HB.o (Ag j.size ak.size)) (by have:=(Gm.rule_in (af.o.rr x hx)).1;omega))
  (fun s x hx hl hd m hm=>by
   obtain⟨rfl,ha⟩:=Gm.brL_mem hm;have h1:=af.o.lin x hx;exact⟨h1.1,h1.2,Gm.Gn.of hx (Gm.Snd.all hd ha)⟩)
  (fun s x _=>Gm.brL_len tm s x))
 have bf:=aA ck;have ar:=aA (fun(y:World) (h:w3.grownBy y (some w1.heap.size))=>zaz h ck (by omega));have au:=aA j;have ab:Hid (∀(y:World) (s:List Bool),Grw w3 y w1.heap.size G.ns.length (Gm.Gn tm G.rs) (List.replicate G.ns.length false) s->(∀x∈G.rs,∀m∈Gm.brL tm s x,s.getD m.toNat false=true)->s=Gm.gn tm G.rs G.ns.length/\Below w.heap.size w y):=aA (fun y s hg hc=>⟨Gm.gn_row hg.l hg.d (fun x hx ha=>hc x hx _ (Gm.brL_of ha)),zaa au.o hg.g (by have:=ad.o;omega) au.o.size⟩);have bg:w2.heap.size<w3.heap.size:=ao;clear ai i x3 ap j cf c1 am ah ao aj;go_wp2_with fail
 refine aq.o.mono ?_;rintro _ w4 ⟨rfl,s,ae,av⟩;obtain⟨e4,aw⟩:=ab.o w4 s ae av;have ck4:=ar.o w4 ae.g;have a5:=aA ae.u;have a6:=aA aw;have bh:w2.heap.size<w4.heap.size:=Bd ck4;clear ae av aw aq ab ar;go_wp2;go_ret
 subst e4;exact⟨w1.heap.size,by rw[Gm.gn_len];rfl,by omega,a5.o,a6.o⟩
def zmW (b:Bool) (s:List Bool) (w:World) (e:Ending) (w':World):Prop:=(b=true->zlf s w e w')/\(b=false->e=.returned (.slice none 0 0)/\Below w.heap.size w w')
theorem zmW.rd {b:Bool} {s:List Bool} {e:Ending} (h:zmW b s w e w'):∃A c,e=.returned (.slice A (if b=true then s else []).length c)/\RdO w' w'.heap.size A (if b=true then s else [])/\Below w.heap.size w w':=by
 cases b
 ·obtain⟨h1,h2⟩:=h.2 rfl;exact⟨none,0,h1,RdO.nil _ _ _,h2⟩
 ·obtain⟨g,h1,h2,h3,h4⟩:=h.1 rfl;exact⟨some ⟨g,0,none⟩,s.length,h1,h3.rd0 h3.lt,h4⟩
theorem zdF (v:Value) (G:Gm.Gr) (B:Nat) (w:World) (hg:aQ w B v G) (hf:Gm.Fit G) (hB:B<=w.heap.size) :
  Calls Tryz.prog 213 #[v] w (zmW (Gm.right G) (Gm.gn false G.rs G.ns.length) w):=by
 have H1:=aA (fun(x:World) (h:Below w.heap.size w x)=>zaq v G B x (hg.below h hB) hf (Ag hB h.size));have H2:=aA (fun(q:Gm.right G=true) (x:World) (h:Below w.heap.size w x)=>zdK 226 (zaI Tryz.func226 (by kernel_rfl) (by kernel_rfl)) false (fun z is A c B y h1 h2 h3=>zhe z is A c B y h1 h2 h3) v G B x (hg.below h hB) hf (Gm.right_ok.1 q) (Ag hB h.size));obtain⟨AT,cT,AN,cN,AR,cR,rfl,_⟩:=hg;have aa:=aA (One.start w #[.slice AT G.ts.length cT,.slice AN G.ns.length cN,.slice AR G.rs.length cR,.int .i64 G.st]);clear hf;cases q:Gm.right G
 ·rw[q]at H1;clear q H2
  go_enter Tryz.func213,Tryz.ntmps213
  go_wp2_with fail
  refine(H1.o _ aa.o.below).mono ?_;rintro _ w2 ⟨rfl,hb⟩;have b:=aA (aa.o.on hb);clear hb;go_wp2;go_ret
  exact⟨fun h=>by simp at h,fun _=>⟨rfl,b.o.below⟩⟩
 ·have H2:=aA (H2.o q);rw[q]at H1;clear q
  go_enter Tryz.func213,Tryz.ntmps213
  go_wp2_with fail
  refine(H1.o _ aa.o.below).mono ?_;rintro _ w2 ⟨rfl,hb⟩;have b:=aA (aa.o.on hb);have q0:=b.o.c 0 _ rfl;have q1:=b.o.c 1 _ rfl;have q2:=b.o.c 2 _ rfl;have q3:=b.o.c 3 _ rfl;have af:w.heap.size<w2.heap.size:=b.o.size;clear hb;go_wp2_with fail
  refine(H2.o _ b.o.below).mono ?_;rintro _ w3 ⟨g,rfl,ab,hu,ac⟩;have HU:=aA hu;have ad:=aA ab;have ae:=aA (b.o.on ac);clear hu ac ab;go_wp2;go_ret
  exact⟨fun _=>⟨g,rfl,by have:=ad.o;omega,HU.o,ae.o.below⟩,fun h=>by simp at h⟩
theorem zaJ (v:Value) (G:Gm.Gr) (B:Nat) (w:World) (hg:aQ w B v G) (hf:Gm.Fit G) (hB:B<=w.heap.size) :
  Calls Tryz.prog 131 #[v] w (zmW (Gm.right G) (Gm.gn true G.rs G.ns.length) w):=by
 have H1:=aA (fun(x:World) (h:Below w.heap.size w x)=>zaq v G B x (hg.below h hB) hf (Ag hB h.size));have H2:=aA (fun(q:Gm.right G=true) (x:World) (h:Below w.heap.size w x)=>zdK 175 (zaI Tryz.func175 (by kernel_rfl) (by kernel_rfl)) true (fun z is A c B y h1 h2 h3=>zhd z is A c B y h1 h2 h3) v G B x (hg.below h hB) hf (Gm.right_ok.1 q) (Ag hB h.size));obtain⟨AT,cT,AN,cN,AR,cR,rfl,_⟩:=hg;have aa:=aA (One.start w #[.slice AT G.ts.length cT,.slice AN G.ns.length cN,.slice AR G.rs.length cR,.int .i64 G.st]);clear hf;cases q:Gm.right G
 ·rw[q]at H1;clear q H2
  go_enter Tryz.func131,Tryz.ntmps131
  go_wp2_with fail
  refine(H1.o _ aa.o.below).mono ?_;rintro _ w2 ⟨rfl,hb⟩;have b:=aA (aa.o.on hb);clear hb;go_wp2;go_ret
  exact⟨fun h=>by simp at h,fun _=>⟨rfl,b.o.below⟩⟩
 ·have H2:=aA (H2.o q);rw[q]at H1;clear q
  go_enter Tryz.func131,Tryz.ntmps131
  go_wp2_with fail
  refine(H1.o _ aa.o.below).mono ?_;rintro _ w2 ⟨rfl,hb⟩;have b:=aA (aa.o.on hb);have q0:=b.o.c 0 _ rfl;have q1:=b.o.c 1 _ rfl;have q2:=b.o.c 2 _ rfl;have q3:=b.o.c 3 _ rfl;have af:w.heap.size<w2.heap.size:=b.o.size;clear hb;go_wp2_with fail
  refine(H2.o _ b.o.below).mono ?_;rintro _ w3 ⟨g,rfl,ab,hu,ac⟩;have HU:=aA hu;have ad:=aA ab;have ae:=aA (b.o.on ac);clear hu ac ab;go_wp2;go_ret
  exact⟨fun _=>⟨g,rfl,by have:=ad.o;omega,HU.o,ae.o.below⟩,fun h=>by simp at h⟩
end Go.Proofs.YtjjbaehamplnaaaGreat
namespace Go.CalmN
open Go.RowKit
section
variable {P:Program} {ops:Array Oper} {Q:Exit->Act->World->Prop} {md:Region.Mode}
def plainB:Op->Bool
 | .move _ | .assign _ | .pick .. | .load .. | .convert .. | .binOp .. | .unOp .. | .slice .. | .fieldAddr .. | .field .. | .indexAddr .. | .index .. | .extract .. | .build .. | .nilCheck _ | .lookup ..=>true
 | .call c=>match c.callee with
  | .builtin .len | .builtin .cap=>true
  | _=>false
 | _=>false
theorem value_of {s:Sem Value} {n:Next} (h:((do pure (.value (<-s))):Sem Next).run P w=.ok n w'):∃u,n=.value u:=by
 rw[EF]at h;cases hs:s.run P w with
 | ok v w1=>rw[hs]at h;simp[Result.andThen,C8]at h;exact⟨v,h.1.symm⟩
 | halt x w1=>rw[hs]at h;simp[Result.andThen]at h
theorem zbL {α:Type} {n:α} (h:(runtimePanic .nilDeref:Sem α).run P w=.ok n w'):False:=by
 simp[runtimePanic,Result.andThen]at h
theorem plain_value {o:Oper} (hp:plainB o.op=true) {a:Act} {n:Next} (h:(execOp a.eval o).run P w=.ok n w'):∃u,n=.value u:=by
 obtain⟨dst,op,type,pos,after,guard⟩:=o;cases op with
 | call c =>
  obtain⟨callee,args,ats⟩:=c;cases callee with
  | builtin b =>
   cases b with
   | len=>exact value_of (s:=Builtin.len_ ats type (args.map a.eval)) h
   | cap=>exact value_of (s:=Builtin.cap_ ats type (args.map a.eval)) h
   | _=>exact absurd hp (by simp[plainB])
  | invoke recv name=>exact absurd hp (by simp[plainB])
  | value f=>exact absurd hp (by simp[plainB])
 | move x=>simp[execOp,C8]at h;exact⟨_,h.1.symm⟩
 | assign x=>simp[execOp,C8]at h;exact⟨_,h.1.symm⟩
 | pick c x y =>
  simp only[execOp,EF]at h;cases hs:(asBool (a.eval c)).run P w with
  | ok v w1=>rw[hs]at h;simp[Result.andThen,C8]at h;exact⟨_,h.1.symm⟩
  | halt x w1=>rw[hs]at h;simp[Result.andThen]at h
 | nilCheck x =>
  simp only[execOp]at h;split at h
  ·exact(zbL h).elim
  ·exact(zbL h).elim
  ·exact(zbL h).elim
  ·split at h
   ·exact(zbL h).elim
   ·simp only[EF]at h;generalize (program:Sem Program).run P w=r1 at h;cases r1 with
    | halt x w1=>simp[Result.andThen]at h
    | ok pr w1 =>
     simp only[Result.andThen_ok]at h
     revert h
     generalize (nilAhead _ _ _ _).run P w1=r2;intro h;cases r2 with
     | halt x w1=>simp[Result.andThen]at h
     | ok b w2 =>
      simp only[Result.andThen_ok]at h;split at h
      ·simp[Result.andThen]at h
      ·simp[C8]at h;exact⟨_,h.1.symm⟩
   ·simp[C8]at h;exact⟨_,h.1.symm⟩
  ·simp[C8]at h;exact⟨_,h.1.symm⟩
 | _=>first
  | (simp[plainB]at hp;done)
  | exact value_of h
theorem yieldsIf_of {S:World->Prop} {o:Oper} {a:Act} (hp:plainB o.op=true) (hw:Region.wanted o (yielded ops a.tmps)=true) (h:∀w,S w->o.quietAt P a S w v):YieldsIf P ops S o v a:=by
 refine .inl ⟨hw,fun w hS=>?_⟩;have h1:=h w hS;unfold Oper.quietAt at h1;cases hr:(execOp a.eval o).run P w with
 | ok n w' =>
  obtain⟨u,rfl⟩:=plain_value hp hr;rw[hr]at h1;simp only[Oper.quietUpon]at h1;rw[h1.1,h1.2]
 | halt x w'=>rw[hr]at h1;simp[Oper.quietUpon]at h1
def pickOps (ops:Array Oper):List Nat->List Oper
 | []=>[]
 | i::r=>match ops[i]? with
  | some o=>o::pickOps ops r
  | none=>pickOps ops r
def marked:List Nat->Array Bool->Array Bool
 | [],l=>l
 | i::r,l=>marked r (l.setIfInBounds i true)
def stillB (md:Region.Mode) (ops:Array Oper):List Nat->Array Bool->Bool
 | [],_=>true
 | i::r,l=>(match ops[i]? with|some o=>plainB o.op|none=>false)&&Region.free md ops l i&&(Region.ready md ops l).contains i&&stillB md ops r (l.setIfInBounds i true)
theorem anyH_mono {S S':World->Prop} (h:∀x,S' x->S x):∀(fuel:Nat) (listed:Array Bool) (a:Act) (w:World),wpAnyH P md ops Q S' fuel listed a w->wpAnyH P md ops Q S fuel listed a w
 | 0,_,_,_,k=>k
 | fuel+1,_,_,_,k=>⟨k.1,fun i hi=>wpOp_mono (fun a w hk=>⟨h _ hk.1,anyH_mono h fuel _ a w hk.2⟩) (k.2 i hi)⟩
theorem still_block {S:World->Prop} (hs:Region.noSelect ops=true) (hQ:∀c a d v w,Q (.panic c) (a.put d v) w->Q (.panic c) a w) {w:World} (hS:S w) (fuel:Nat) :
  ∀(p:List Nat) (listed:Array Bool) (a:Act),stillB md ops p listed=true ->
   wpQuiet P ops S (fun a'=>wpAnyH P md ops Q S fuel (marked p listed) a' w) (pickOps ops p) a->wpAnyH P md ops Q S (p.length+fuel) listed a w
 | [],_,_,_,h=>by rw[Ey,Bu];exact h
 | i::r,listed,a,hb,h=>by
  unfold stillB at hb;cases ho:ops[i]? with
  | none=>rw[ho]at hb;simp at hb
  | some o =>
   rw[ho]at hb;simp only[AQ]at hb;obtain⟨⟨⟨hp,hf⟩,hr⟩,aa⟩:=hb;have hl:pickOps ops (i::r)=o::pickOps ops r:=by simp only[pickOps,ho]
   rw[hl]at h;rw[show(i::r).length+fuel=(r.length+fuel)+1 by rw[Bt];omega];unfold wpQuiet at h;by_cases hw:Region.wanted o (yielded ops a.tmps)=true
   ·rw[Ap hw]at h;obtain⟨v,h1,h2⟩:=h;exact wpAnyH_take ho hs hf hr (fun c a w=>hQ c a o.dst v w) (yieldsIf_of hp hw h1) hS (still_block hs hQ hS fuel r _ _ aa h2)
   ·rw[AB hw]at h;exact wpAnyH_take ho hs hf hr (fun c a w=>hQ c a o.dst undef w) (.inr ⟨by simpa using hw,rfl⟩) hS (still_block hs hQ hS fuel r _ _ aa h)
end
section
variable {P:Program} {ops:Array Oper} {Q:Exit->Act->World->Prop} {md:Region.Mode}
inductive Ph where
 | fin (last:List Nat)
 | one (p:List Nat) (k:Nat) (t:Ph)
 | two (p:List Nat) (k:Nat) (t:Ph) (k2:Nat) (t2:Ph)
def wpSt (P:Program) (ops:Array Oper) (Q:Exit->Act->World->Prop) (o:Option Oper) (S:World->Prop) (T:(World->Prop)->Act->World->Prop) (a:Act) (w:World):Prop :=
 match o with
 | none=>True
 | some o=>∀K:Act->World->Prop,(∀a2 w2,S w2->∀S':World->Prop,(∀x,S' x->S x)->S' w2->T S' a2 w2->K a2 w2) ->
   if Region.wanted o (yielded ops a.tmps)=true then Oper.wp P o a w K Q else K (a.put o.dst undef) w
def wpT (P:Program) (ops:Array Oper) (Q:Exit->Act->World->Prop):Ph->(World->Prop)->Act->World->Prop
 | .fin last,S,a,w=>wpQuiet P ops S (fun a'=>Q .normal a' w) (pickOps ops last) a
 | .one p k t,S,a,w=>wpQuiet P ops S (fun a'=>wpSt P ops Q ops[k]? S (fun S' a2 w2=>wpT P ops Q t S' a2 w2) a' w) (pickOps ops p) a
 | .two p k t k2 t2,S,a,w=>wpQuiet P ops S (fun a'=>wpSt P ops Q ops[k]? S (fun S' a2 w2=>wpT P ops Q t S' a2 w2) a' w/\wpSt P ops Q ops[k2]? S (fun S' a2 w2=>wpT P ops Q t2 S' a2 w2) a' w) (pickOps ops p) a
def tB (md:Region.Mode) (ops:Array Oper):Ph->Array Bool->Nat->Bool
 | .fin last,l,n=>stillB md ops last l&&(Region.ready md ops (marked last l)).isEmpty&&(last.length==n)
 | .one p k t,l,n=>stillB md ops p l&&(match Region.ready md ops (marked p l) with | [j]=>j==k|_=>false)&&(ops[k]?).isSome&&decide (p.length+1<=n)&&tB md ops t ((marked p l).setIfInBounds k true) (n-(p.length+1))
 | .two p k t k2 t2,l,n=>stillB md ops p l&&(match Region.ready md ops (marked p l) with | [j,j2]=>j==k&&j2==k2|_=>false)&&(ops[k]?).isSome&&(ops[k2]?).isSome&&decide (p.length+1<=n)&&tB md ops t ((marked p l).setIfInBounds k true) (n-(p.length+1))&&tB md ops t2 ((marked p l).setIfInBounds k2 true) (n-(p.length+1))
theorem quiet_mono {S:World->Prop} {Q1 Q2:Act->Prop} (h:∀a,Q1 a->Q2 a):∀ {l:List Oper} {a:Act},wpQuiet P ops S Q1 l a->wpQuiet P ops S Q2 l a
 | [],_,k=>h _ k
 | o::r,a,k=>by
  unfold wpQuiet at k ⊢;split
  ·rename_i hw;rw[Ap hw]at k;obtain⟨v,h1,h2⟩:=k;exact⟨v,h1,quiet_mono h h2⟩
  ·rename_i hw;rw[AB hw]at k;exact quiet_mono h k
theorem any_of_t (hs:Region.noSelect ops=true) (hQ:∀c a d v w,Q (.panic c) (a.put d v) w->Q (.panic c) a w) :
  ∀(t:Ph) (S:World->Prop) (listed:Array Bool) (a:Act) (w:World) (n:Nat),tB md ops t listed n=true->S w->wpT P ops Q t S a w->wpAnyH P md ops Q S n listed a w
 | .fin last,S,listed,a,w,n,hb,hS,h=>by
  unfold tB at hb;simp only[AQ,EI,BH]at hb;obtain⟨⟨h1,h2⟩,rfl⟩:=hb;have e:last.length=last.length+0:=rfl;rw[e];refine still_block hs hQ hS 0 last listed a h1 ?_;exact quiet_mono (fun a' hq=>wpAnyH_done h2 hq 0) h
 | .one p k t,S,listed,a,w,n,hb,hS,h=>by
  unfold tB at hb;simp only[AQ,Ca]at hb;obtain⟨⟨⟨⟨h1,h2⟩,h3⟩,h5⟩,h4⟩:=hb;obtain⟨o,ho⟩:=CE.1 h3
  have aa:Region.ready md ops (marked p listed)=[k]:=by
   split at h2
   ·rename_i j hj;rw[hj];rw[BH]at h2;rw[h2]
   ·cases h2
  obtain⟨m,rfl⟩:∃m,n=p.length+(m+1):=⟨n-(p.length+1),by omega⟩
  rw[show p.length+(m+1)-(p.length+1)=m by omega]at h4;refine still_block hs hQ hS _ p listed a h1 ?_;unfold wpT at h;refine quiet_mono (fun a' hq=>?_) h;refine wpAnyH_all aa (by simp) fun i hi=>?_;rw[AF]at hi;subst hi;refine EK ho fun K' hK=>?_;rw[ho]at hq;refine hq K' fun a2 w2 h6 S' b f h7=>hK _ _ ⟨h6,?_⟩;exact anyH_mono b _ _ _ _ (any_of_t hs hQ t S' _ a2 w2 _ h4 f h7)
 | .two p k t k2 t2,S,listed,a,w,n,hb,hS,h=>by
  unfold tB at hb;simp only[AQ,Ca]at hb;obtain⟨⟨⟨⟨⟨⟨h1,h2⟩,h3⟩,ad⟩,h5⟩,h4⟩,ab⟩:=hb;obtain⟨o,ho⟩:=CE.1 h3;obtain⟨o2,ac⟩:=CE.1 ad
  have aa:Region.ready md ops (marked p listed)=[k,k2]:=by
   split at h2
   ·rename_i j j2 hj;rw[hj];simp only[AQ,BH]at h2;rw[h2.1,h2.2]
   ·cases h2
  obtain⟨m,rfl⟩:∃m,n=p.length+(m+1):=⟨n-(p.length+1),by omega⟩
  rw[show p.length+(m+1)-(p.length+1)=m by omega]at h4 ab;refine still_block hs hQ hS _ p listed a h1 ?_;unfold wpT at h;refine quiet_mono (fun a' hq=>?_) h;refine wpAnyH_all aa (by simp) fun i hi=>?_;rw[ho,ac]at hq;rcases Bq.1 hi with rfl|hi
  ·refine EK ho fun K' hK=>?_;refine hq.1 K' fun a2 w2 h6 S' b f h7=>hK _ _ ⟨h6,?_⟩;exact anyH_mono b _ _ _ _ (any_of_t hs hQ t S' _ a2 w2 _ h4 f h7)
  ·rw[AF]at hi;subst hi;refine EK ac fun K' hK=>?_;refine hq.2 K' fun a2 w2 h6 S' b f h7=>hK _ _ ⟨h6,?_⟩;exact anyH_mono b _ _ _ _ (any_of_t hs hQ t2 S' _ a2 w2 _ ab f h7)
theorem region_tree {id:Nat} {a:Act} {l:List Oper} (S:World->Prop) (t:Ph) (hm:P.follows .mixedOrders=true) (hB:(Region.noSelect l.toArray&&tB .any l.toArray t (Array.replicate l.toArray.size false) l.toArray.size)=true) (hQ:∀c a d v w,Q (.panic c) (a.put d v) w->Q (.panic c) a w) (hS:S w.drew) (h:wpT P l.toArray Q t S a w.drew):(Code.region id l.toArray true).wp P Q a w:=by
 simp only[AQ]at hB;refine wp_region_held (S:=S) hm ?_;exact any_of_t hB.1 hQ t S _ a w.drew _ hB.2 hS h
end
end Go.CalmN
namespace Go.CalmN
open Go.RowKit
section
variable {P:Program} {ops:Array Oper} {Q:Exit->Act->World->Prop} {md:Region.Mode}
def chB (md:Region.Mode) (ops:Array Oper) (t:Ph):Nat->List Nat->Array Bool->Nat->Bool
 | 0,todo,l,n=>todo.isEmpty&&tB md ops t l n
 | f+1,todo,l,n=>(Region.ready md ops l==todo) && !todo.isEmpty&&decide (1<=n)&&todo.all fun k=>(ops[k]?).isSome&&chB md ops t f (todo.erase k) (l.setIfInBounds k true) (n-1)
theorem zcO (hs:Region.noSelect ops=true) (hQ:∀c a d v w,Q (.panic c) (a.put d v) w->Q (.panic c) a w) {S:World->Prop} {t:Ph} {J:List Nat->Act->World->Prop}
  (aa:∀todo k a w,k∈todo->J todo a w->S w->wpSt P ops Q ops[k]? S (fun _ a2 w2=>J (todo.erase k) a2 w2) a w)
  (ab:∀a w,J [] a w->S w->wpT P ops Q t S a w) :
  ∀(f:Nat) (todo:List Nat) (listed:Array Bool) (a:Act) (w:World) (n:Nat),chB md ops t f todo listed n=true->S w->J todo a w->wpAnyH P md ops Q S n listed a w
 | 0,todo,listed,a,w,n,hb,hS,h=>by
  unfold chB at hb;simp only[AQ,EI]at hb;obtain⟨rfl,h2⟩:=hb;exact any_of_t hs hQ t S listed a w n h2 hS (ab a w h hS)
 | f+1,todo,listed,a,w,n,hb,hS,h=>by
  unfold chB at hb;simp only[AQ,Ca,BH,BP,Ec,List.isEmpty_eq_false_iff]at hb;obtain⟨⟨⟨h1,h2⟩,h3⟩,h4⟩:=hb;obtain⟨m,rfl⟩:∃m,n=m+1:=⟨n-1,by omega⟩
  refine wpAnyH_all h1 h2 fun i hi=>?_;obtain⟨h5,h6⟩:=h4 i hi;obtain⟨o,ho⟩:=CE.1 h5;have hq:=aa todo i a w hi h hS;rw[ho]at hq;refine EK ho fun K' hK=>?_;refine hq K' fun a2 w2 h7 S' ac ad h8=>hK _ _ ⟨h7,?_⟩;exact zcO hs hQ aa ab f _ _ a2 w2 _ h6 h7 h8
theorem region_all {id:Nat} {a:Act} {l:List Oper} (S:World->Prop) (p ks:List Nat) (t:Ph) (J:List Nat->Act->World->Prop) (hm:P.follows .mixedOrders=true) (hB:(Region.noSelect l.toArray&&stillB .any l.toArray p (Array.replicate l.toArray.size false)&&decide (p.length<=l.toArray.size)&&chB .any l.toArray t ks.length ks (marked p (Array.replicate l.toArray.size false)) (l.toArray.size-p.length))=true) (hQ:∀c a d v w,Q (.panic c) (a.put d v) w->Q (.panic c) a w) (hS:S w.drew) (h0:wpQuiet P l.toArray S (fun a'=>J ks a' w.drew) (pickOps l.toArray p) a) (aa:∀todo k a w,k∈todo->J todo a w->S w->wpSt P l.toArray Q l.toArray[k]? S (fun _ a2 w2=>J (todo.erase k) a2 w2) a w) (ab:∀a w,J [] a w->S w->wpT P l.toArray Q t S a w):(Code.region id l.toArray true).wp P Q a w:=by
 simp only[AQ,Ca]at hB;obtain⟨⟨⟨h1,h2⟩,h3⟩,h4⟩:=hB;refine wp_region_held (S:=S) hm ?_;have e:l.toArray.size=p.length+(l.toArray.size-p.length):=by omega
 rw[show wpAnyH P .any l.toArray Q S l.toArray.size=wpAnyH P .any l.toArray Q S (p.length+(l.toArray.size-p.length)) by rw[<-e]];refine still_block h1 hQ hS _ p _ a h2 ?_;exact quiet_mono (fun a' hj=>zcO h1 hQ aa ab _ ks _ a' _ _ h4 hS hj) h0
def chD (md:Region.Mode) (ops:Array Oper) (t:Ph) (dep:List (Nat×Nat)):Nat->List Nat->Array Bool->Nat->Bool
 | 0,todo,l,n=>todo.isEmpty&&tB md ops t l n
 | f+1,todo,l,n=>!(Region.ready md ops l).isEmpty&&decide (1<=n)&&(Region.ready md ops l).all fun k=>todo.contains k&&dep.all (fun d=>!(d.1==k) || !todo.contains d.2)&&(ops[k]?).isSome&&chD md ops t dep f (todo.erase k) (l.setIfInBounds k true) (n-1)
theorem zcN (hs:Region.noSelect ops=true) (hQ:∀c a d v w,Q (.panic c) (a.put d v) w->Q (.panic c) a w) {S:World->Prop} {t:Ph} {dep:List (Nat×Nat)} {J:List Nat->Act->World->Prop}
  (aa:∀todo k a w,k∈todo->(∀d∈dep,d.1=k->d.2 ∉ todo)->J todo a w->S w->wpSt P ops Q ops[k]? S (fun _ a2 w2=>J (todo.erase k) a2 w2) a w)
  (ab:∀a w,J [] a w->S w->wpT P ops Q t S a w) :
  ∀(f:Nat) (todo:List Nat) (listed:Array Bool) (a:Act) (w:World) (n:Nat),chD md ops t dep f todo listed n=true->S w->J todo a w->wpAnyH P md ops Q S n listed a w
 | 0,todo,listed,a,w,n,hb,hS,h=>by
  unfold chD at hb;simp only[AQ,EI]at hb;obtain⟨rfl,h2⟩:=hb;exact any_of_t hs hQ t S listed a w n h2 hS (ab a w h hS)
 | f+1,todo,listed,a,w,n,hb,hS,h=>by
  unfold chD at hb;simp only[AQ,Ca,BP,Ec,List.isEmpty_eq_false_iff]at hb;obtain⟨⟨h2,h3⟩,h4⟩:=hb;obtain⟨m,rfl⟩:∃m,n=m+1:=⟨n-1,by omega⟩
  refine wpAnyH_all rfl h2 fun i hi=>?_;obtain⟨⟨⟨h5,h6⟩,h7⟩,h8⟩:=h4 i hi;obtain⟨o,ho⟩:=CE.1 h7
  have hq:=aa todo i a w (by simpa using h5) (fun d hd e=>by
   have:=h6 d hd
   subst e
   simpa using this) h hS
  rw[ho]at hq;refine EK ho fun K' hK=>?_;refine hq K' fun a2 w2 h9 S' ad ae ac=>hK _ _ ⟨h9,?_⟩;exact zcN hs hQ aa ab f _ _ a2 w2 _ h8 h9 ac
theorem region_dep {id:Nat} {a:Act} {l:List Oper} (S:World->Prop) (p ks:List Nat) (dep:List (Nat×Nat)) (t:Ph) (J:List Nat->Act->World->Prop) (hm:P.follows .mixedOrders=true) (hB:(Region.noSelect l.toArray&&stillB .any l.toArray p (Array.replicate l.toArray.size false)&&decide (p.length<=l.toArray.size)&&chD .any l.toArray t dep ks.length ks (marked p (Array.replicate l.toArray.size false)) (l.toArray.size-p.length))=true) (hQ:∀c a d v w,Q (.panic c) (a.put d v) w->Q (.panic c) a w) (hS:S w.drew) (h0:wpQuiet P l.toArray S (fun a'=>J ks a' w.drew) (pickOps l.toArray p) a) (aa:∀todo k a w,k∈todo->(∀d∈dep,d.1=k->d.2 ∉ todo)->J todo a w->S w->wpSt P l.toArray Q l.toArray[k]? S (fun _ a2 w2=>J (todo.erase k) a2 w2) a w) (ab:∀a w,J [] a w->S w->wpT P l.toArray Q t S a w):(Code.region id l.toArray true).wp P Q a w:=by
 simp only[AQ,Ca]at hB;obtain⟨⟨⟨h1,h2⟩,h3⟩,h4⟩:=hB;refine wp_region_held (S:=S) hm ?_;have e:l.toArray.size=p.length+(l.toArray.size-p.length):=by omega
 rw[show wpAnyH P .any l.toArray Q S l.toArray.size=wpAnyH P .any l.toArray Q S (p.length+(l.toArray.size-p.length)) by rw[<-e]];refine still_block h1 hQ hS _ p _ a h2 ?_;exact quiet_mono (fun a' hj=>zcN h1 hQ aa ab _ ks _ a' _ _ h4 hS hj) h0
end
end Go.CalmN
namespace Go.Proofs.YtjjbaehamplnaaaGreat
open Go.RowKit
def Gm.brR (p is:List Bool) (x:Gm.Rl):List Int:=if is.getD x.l.toNat false=true/\Gm.allB true p x.r=true then Gm.nts x.r else []
theorem zfQ (x:Gm.Rl) (is p:List Bool) (A A1 A2:Option Addr) (c c1 c2 B B1 B2 gk gp:Nat) (w:World) (ag:w.cell? ⟨gk,0,none⟩=some (.slice A1 is.length c1)) (ac:w.cell? ⟨gp,0,none⟩=some (.slice A2 p.length c2)) (hr:RdI w B A x.r) (h1:RdO w B1 A1 is) (h2:RdO w B2 A2 p) (hB:B<=w.heap.size) (aa:B2<=w.heap.size) (ab:∀z∈x.r,Gm.In z) (hs:∀z∈x.r,z<0->-1-z<(p.length:Int)) (hx:0<=x.l/\x.l<is.length) (hl:x.r.length<=1000000) :
  Calls Tryz.prog 200 #[.agg #[.int .i64 x.l,.slice A x.r.length c,.int .i64 x.p],.pointer (some ⟨gk,0,none⟩),.pointer (some ⟨gp,0,none⟩)] w fun e w'=>∃v,e=.returned v/\aS w' w.heap.size v (Gm.brR p is x)/\Below w.heap.size w w':=by
 have HA:=aA (fun o=>(Aq w.heap.size w).alloc (Ad _) o);have ad:=aA (fun(y:World) (h:Below w.heap.size w y)=>zeZ x A c B y (hr.below h hB) ab (Ag hB h.size) hl);have i:=aA (fun(y:World) (h:Below w.heap.size w y)=>zaW x p A A2 c c2 w.heap.size y ((hr.below h hB).more hB) ab hs ((h2.below h aa).more aa) h.size hl);have HE:Hid (Gm.brR p is x=if is.getD x.l.toNat false=true/\Gm.allB true p x.r=true then Gm.nts x.r else []):=aA rfl;obtain⟨l,r,q⟩:=x;obtain⟨m,rfl⟩:∃m:Nat,l=(m:Int):=⟨l.toNat,by have:=hx.1;simp only at this;omega⟩
 simp only[BZ]at HE hx ad i ⊢;obtain⟨g,o,rfl,aj,hc⟩:=h1 (by omega);have hm:m<is.length:=by omega
 have ak:(m:Int)<(is.length:Int):=by omega
 have k0:=hc m hm;have al:=Bd ag;have am:=Bd ac;have ao:=Bd k0;have ap:=aA ac;generalize is.getD m false=b at *;clear hr h1 h2 hB aa ab hs hx hl hc;cases b
 ·have HX:=aA (HE.o.trans (AB (by simp)));clear HE
  go_enter Tryz.func200,Tryz.ntmps200
  go_wp2;go_ret
  exact⟨_,rfl,by rw[HX.o];exact aS.nil _ _,HA.o _⟩
 ·cases ha:Gm.allB true p r
  ·have HX:=aA (HE.o.trans (AB (by rw[ha];simp)));rw[ha]at i;clear HE ha
   go_enter Tryz.func200,Tryz.ntmps200
   go_wp2_with fail
   refine(i.o _ (HA.o _)).mono ?_;rintro _ w2 ⟨rfl,d⟩;have f:=aA ((HA.o (.cells #[.int .i64 m,.slice A r.length c,.int .i64 q] 74)).trans (d.mono (by simp)));clear d;go_wp2;go_ret
   exact⟨_,rfl,by rw[HX.o];exact aS.nil _ _,f.o⟩
  ·have HX:=aA (HE.o.trans (Ap ⟨rfl,ha⟩));rw[ha]at i;clear HE ha
   go_enter Tryz.func200,Tryz.ntmps200
   go_wp2_with fail
   refine(i.o _ (HA.o _)).mono ?_;rintro _ w2 ⟨rfl,d⟩;have f:=aA ((HA.o (.cells #[.int .i64 m,.slice A r.length c,.int .i64 q] 74)).trans (d.mono (by simp)));have hb:=(d.block w.heap.size (by simp)).trans (Az w _);have d0:=Aw w2 _ 0 _ _ _ hb;have d1:=Aw w2 _ 1 _ _ _ hb;have d2:=Aw w2 _ 2 _ _ _ hb;have ld:=(Ac.1 hb).1;clear d hb;go_wp2_with fail
   refine(ad.o _ f.o).mono ?_;rintro _ w3 ⟨v,rfl,ae,af⟩;have ah:=aA (ae.mono f.o.size);have ai:=aA (f.o.trans (af.mono f.o.size));clear ae af;go_wp2;go_ret
   exact⟨_,rfl,by rw[HX.o];exact ah.o,ai.o⟩
theorem zkl (w:World) (t:TypeId) (ht:Tryz.prog.underlying t=some (.slice 4)) (n:Nat) (hn:n<=35184372088832) :
  ∃w',(Instr.makeSlice t (.int .i64 n) (.int .i64 n)).run Tryz.prog w=.ok (.slice (some ⟨w.heap.size,0,none⟩) n n) w'/\UBO w' w.heap.size (List.replicate n false)/\Below w.heap.size w w':=by
 obtain⟨i,hi,ac,ad,ae⟩:=CD zmr;obtain⟨w',ab,aa,b⟩:=run_make_full (P:=Tryz.prog) w w.heap.size t 4 i (.bool false) 1 ht hi ac ad .i64 .i64 n (by rw[ae];omega) (by unfold maxLen;omega) (Ad _);refine⟨w',ab,?_,⟨b.os,b.tape,b.output,b.size,fun k hk=>b.block k hk (by simp)⟩⟩;refine zbS (base:=w.heap.size) (n:=n) ?_;rw[zbb]
 have e:(madeCells (Value.bool false).cells (n*1)).toList=List.replicate n (Value.bool false):=by
  rw[Dd];exact Eh _ _
 rw[e]at aa;exact aa
theorem zl3 {o:Oper} {a:Act} {K:Act->World->Prop} {Q:Exit->Act->World->Prop} (l c:Operand) (t:TypeId) (ab:o.op=Op.makeSlice t l c) (ht:Tryz.prog.underlying t=some (.slice 4)) (n:Nat) (hl:a.eval l=.int .i64 n) (hc:a.eval c=.int .i64 n) (hn:n<=35184372088832) (hK:∀w',UBO w' w.heap.size (List.replicate n false)->Below w.heap.size w w'->K (a.put o.dst (.slice (some ⟨w.heap.size,0,none⟩) n n)) w'):Oper.wp Tryz.prog o a w K Q:=by
 obtain⟨w',aa,h1,h2⟩:=zkl w t ht n hn;unfold Oper.wp;simp[execOp,ab,hl,hc,aa,Result.andThen];exact hK w' h1 h2
structure JR (w2:World) (n:Nat) (row:List Bool) (todo:List Nat) (wx:World) (x3 x5 x6 x7:Value) (g3 g5 c6 c7:Nat):Prop where
 t:∀k∈todo,k=3\/k=5\/k=6\/k=7
 b:Below w2.heap.size w2 wx
 h3:3 ∉ todo->x3=.slice (some ⟨g3,0,none⟩) n n/\w2.heap.size<=g3/\UBO wx g3 (List.replicate n false)
 h5:5 ∉ todo->x5=.slice (some ⟨g5,0,none⟩) n n/\w2.heap.size<=g5/\UBO wx g5 row
 h6:6 ∉ todo->x6=.pointer (some ⟨c6,0,none⟩)/\w2.heap.size<=c6/\wx.heap[c6]?=some (.cells #[.slice none 0 0] 188 (0,0))
 h7:7 ∉ todo->x7=.pointer (some ⟨c7,0,none⟩)/\w2.heap.size<=c7/\wx.heap[c7]?=some (.cells #[.slice none 0 0] 188 (0,0))
 d35:3 ∉ todo->5 ∉ todo->g3≠g5
 d67:6 ∉ todo->7 ∉ todo->c6≠c7
section
variable {w2 wx w':World} {n:Nat} {row:List Bool} {todo:List Nat} {x3 x5 x6 x7:Value} {g3 g5 c6 c7:Nat}
theorem aE {l:List Nat} {j:Nat} (h:j ∉ l.erase k) (aa:j≠k):j ∉ l:=fun hm=>h ((List.mem_erase_of_ne aa).2 hm)
theorem aC {o:Obj} (hb:Below wx.heap.size wx w') (h:wx.heap[g]?=some o):w'.heap[g]?=some o:=(hb.block g (Ac.1 h).1).trans h
theorem JR.put3 (h:JR w2 n row todo wx x3 x5 x6 x7 g3 g5 c6 c7) (hb:Below wx.heap.size wx w') (hu:UBO w' wx.heap.size (List.replicate n false)):JR w2 n row (todo.erase 3) w' (.slice (some ⟨wx.heap.size,0,none⟩) n n) x5 x6 x7 wx.heap.size g5 c6 c7 where
 t k hk:=h.t k (Bk hk)
 b:=h.b.trans (hb.mono h.b.size)
 h3 _:=⟨rfl,h.b.size,hu⟩
 h5 q:=by obtain⟨a1,a2,a3⟩:=h.h5 (aE q (by decide));exact⟨a1,a2,aC hb a3⟩
 h6 q:=by obtain⟨a1,a2,a3⟩:=h.h6 (aE q (by decide));exact⟨a1,a2,aC hb a3⟩
 h7 q:=by obtain⟨a1,a2,a3⟩:=h.h7 (aE q (by decide));exact⟨a1,a2,aC hb a3⟩
 d35 _ q:=by have:=UBO.lt (h.h5 (aE q (by decide))).2.2;omega
 d67 q1 q2:=h.d67 (aE q1 (by decide)) (aE q2 (by decide))
theorem JR.put5 (h:JR w2 n row todo wx x3 x5 x6 x7 g3 g5 c6 c7) (hb:Below wx.heap.size wx w') (hg:wx.heap.size<=g) (hu:UBO w' g row):JR w2 n row (todo.erase 5) w' x3 (.slice (some ⟨g,0,none⟩) n n) x6 x7 g3 g c6 c7 where
 t k hk:=h.t k (Bk hk)
 b:=h.b.trans (hb.mono h.b.size)
 h5 _:=⟨rfl,Ag h.b.size hg,hu⟩
 h3 q:=by obtain⟨a1,a2,a3⟩:=h.h3 (aE q (by decide));exact⟨a1,a2,aC hb a3⟩
 h6 q:=by obtain⟨a1,a2,a3⟩:=h.h6 (aE q (by decide));exact⟨a1,a2,aC hb a3⟩
 h7 q:=by obtain⟨a1,a2,a3⟩:=h.h7 (aE q (by decide));exact⟨a1,a2,aC hb a3⟩
 d35 q _:=by have:=UBO.lt (h.h3 (aE q (by decide))).2.2;omega
 d67 q1 q2:=h.d67 (aE q1 (by decide)) (aE q2 (by decide))
theorem JR.put6 (h:JR w2 n row todo wx x3 x5 x6 x7 g3 g5 c6 c7):JR w2 n row (todo.erase 6) (wx.alloc (.cells #[.slice none 0 0] 188)) x3 x5 (.pointer (some ⟨wx.heap.size,0,none⟩)) x7 g3 g5 wx.heap.size c7 where
 t k hk:=h.t k (Bk hk)
 b:=h.b.alloc h.b.size _
 h6 _:=⟨rfl,h.b.size,Az wx _⟩
 h3 q:=by obtain⟨a1,a2,a3⟩:=h.h3 (aE q (by decide));exact⟨a1,a2,a3.alloc _⟩
 h5 q:=by obtain⟨a1,a2,a3⟩:=h.h5 (aE q (by decide));exact⟨a1,a2,a3.alloc _⟩
 h7 q:=by obtain⟨a1,a2,a3⟩:=h.h7 (aE q (by decide));exact⟨a1,a2,aC ((Aq _ _).alloc (Ad _) _) a3⟩
 d35 q1 q2:=h.d35 (aE q1 (by decide)) (aE q2 (by decide))
 d67 _ q:=by have:=(Ac.1 (h.h7 (aE q (by decide))).2.2).1;omega
theorem JR.put7 (h:JR w2 n row todo wx x3 x5 x6 x7 g3 g5 c6 c7):JR w2 n row (todo.erase 7) (wx.alloc (.cells #[.slice none 0 0] 188)) x3 x5 x6 (.pointer (some ⟨wx.heap.size,0,none⟩)) g3 g5 c6 wx.heap.size where
 t k hk:=h.t k (Bk hk)
 b:=h.b.alloc h.b.size _
 h7 _:=⟨rfl,h.b.size,Az wx _⟩
 h3 q:=by obtain⟨a1,a2,a3⟩:=h.h3 (aE q (by decide));exact⟨a1,a2,a3.alloc _⟩
 h5 q:=by obtain⟨a1,a2,a3⟩:=h.h5 (aE q (by decide));exact⟨a1,a2,a3.alloc _⟩
 h6 q:=by obtain⟨a1,a2,a3⟩:=h.h6 (aE q (by decide));exact⟨a1,a2,aC ((Aq _ _).alloc (Ad _) _) a3⟩
 d35 q1 q2:=h.d35 (aE q1 (by decide)) (aE q2 (by decide))
 d67 q _:=by have:=(Ac.1 (h.h6 (aE q (by decide))).2.2).1;omega
end
theorem Gm.brR_in (aa:Gm.Ok G) {s:List Bool} {x:Gm.Rl} (hx:x∈G.rs) (hd:∀i:Nat,s.getD i false=true->Gm.Rc G (i:Int)) {m:Int} (hm:m∈Gm.brR (Gm.gn true G.rs G.ns.length) s x):0<=m/\m<G.ns.length/\Gm.Rc G m:=by
 unfold Gm.brR at hm;split at hm
 ·rename_i h
  obtain⟨h1,h2⟩:=Gm.nts_mem.1 hm;have h3:=aa.sin x hx _ h1 (by omega);have h4:=hd _ h.1;rw[Br (aa.lin x hx).1]at h4;have h5:=Gm.Rc.on x hx h4 ((Gm.allB_gn aa.lin _).1 h.2) _ h1 (by omega);rw[show -1-(-1-m)=m by omega]at h5 h3;exact⟨h2,h3,h5⟩
 ·simp at hm
theorem Gm.brR_len (p s:List Bool) (x:Gm.Rl) (h:x.r.length<=6):(Gm.brR p s x).length<=1000000:=by
 unfold Gm.brR;split
 ·have:=Gm.nts_len x.r;omega
 ·simp
theorem Gm.rc_of (aa:Gm.Ok G) {s:List Bool} (hl:s.length=G.ns.length) (hd:∀i:Nat,s.getD i false=true->Gm.Rc G (i:Int)) (ab:Gm.Le ((List.replicate G.ns.length false).set G.st.toNat true) s) (hc:∀x∈G.rs,∀m∈Gm.brR (Gm.gn true G.rs G.ns.length) s x,s.getD m.toNat false=true):s=Gm.rc G:=by
 refine Gm.rc_row hl hd ⟨ab.get _ (Gm.set_getD _ _ (by have:=aa.s0;have:=aa.s1;simp;omega)),fun x hx h1 h2 z hz hn=>?_⟩;refine hc x hx (-1-z) ?_;unfold Gm.brR;rw[Ap ⟨h1,(Gm.allB_gn aa.lin _).2 h2⟩];exact Gm.nts_mem.2 ⟨by rw[show -1-(-1-z)=z by omega];exact hz,by omega⟩
theorem Gm.st_snd (aa:Gm.Ok G) (i:Nat) (h:((List.replicate G.ns.length false).set G.st.toNat true).getD i false=true):Gm.Rc G (i:Int):=by
 rcases Gm.getD_set _ _ _ h with h1|h1
 ·rw[Ai,Cu]at h1;split at h1 <;> cases h1
 ·rw[h1,Br aa.s0];exact .st
theorem zcY (v:Value) (G:Gm.Gr) (B:Nat) (w:World) (hg:aQ w B v G) (hf:Gm.Fit G) (hB:B<=w.heap.size) :
  Calls Tryz.prog 178 #[v] w (zmW (Gm.right G) (Gm.rc G) w):=by
 have H1:=aA (fun(x:World) (h:Below w.heap.size w x)=>zaq v G B x (hg.below h hB) hf (Ag hB h.size));have H2:=aA (fun(x:World) (h:Below w.heap.size w x)=>zaJ v G B x (hg.below h hB) hf (Ag hB h.size));have bs:=aA (fun(x:World) (h:Below w.heap.size w x)=>hg.below h hB);obtain⟨AT,cT,AN,cN,AR,cR,rfl,_,⟨bu,bv⟩,_,_,_,hR⟩:=hg;have N:=aA (One.start w #[.slice AT G.ts.length cT,.slice AN G.ns.length cN,.slice AR G.rs.length cR,.int .i64 G.st]);have bl:=aA hR;have HB:=aA hB;have bm:=aA hf;clear hf hR hB;cases q:Gm.right G
 ·rw[q]at H1;clear q H2
  go_enter Tryz.func178,Tryz.ntmps178
  go_wp2_with fail
  refine(H1.o _ N.o.below).mono ?_;rintro _ w2 ⟨rfl,hb⟩;have A:=aA (N.o.on hb);clear hb;go_wp2;go_ret
  exact⟨fun h=>by simp at h,fun _=>⟨rfl,A.o.below⟩⟩
 ·have D:=aA (Gm.right_ok.1 q);have HN:Hid (G.ns.length<=40):=aA (by have:=(Gm.nons_iff G).1 D.o.n;omega);have aq:Hid (G.rs.length<=40):=aA D.o.r40;have H2:=aA (fun x h=>(show Calls _ _ _ _ (zlf _ _) from(H2.o x h).mono fun e w' k=>k.1 q));rw[q]at H1;clear q;have bw:=HN.o;have bn:(G.ns.length:Int)<=9223372036854775807:=by omega
  go_enter Tryz.func178,Tryz.ntmps178
  go_upto_region 3 with fail
  refine(H1.o _ N.o.below).mono ?_;rintro _ w2 ⟨rfl,hb⟩;have A:=aA (N.o.on hb);clear hb;go_upto_region 3 with fail
  have ax:Hid (Below w.heap.size w w2):=aA A.o.below;have bx:=aA ((Ei A.o w.heap.size (by omega)).trans (Az w _));have C:w.heap.size<w2.heap.size:=A.o.size;obtain⟨T,hT⟩:∃x,x=Gm.gn true G.rs G.ns.length:=⟨_,rfl⟩
  have ar:Hid (T.length=G.ns.length):=aA (by rw[hT,Gm.gn_len]);rw[<-hT]at H2;have HT:=aA hT;clear hT;have H3:=aA (fun(x:World) (h:Below w2.heap.size w2 x)=>H2.o x (ax.o.trans (h.mono (CB C))));have q0:=fun y:Calm.On w2.heap.size w2=>(y.2.cell (p:=⟨w.heap.size,0,none⟩) C).trans (A.o.c 0 _ rfl);have q1:=fun y:Calm.On w2.heap.size w2=>(y.2.cell (p:=⟨w.heap.size,1,none⟩) C).trans (A.o.c 1 _ rfl);have q2:=fun y:Calm.On w2.heap.size w2=>(y.2.cell (p:=⟨w.heap.size,2,none⟩) C).trans (A.o.c 2 _ rfl);have q3:=fun y:Calm.On w2.heap.size w2=>(y.2.cell (p:=⟨w.heap.size,3,none⟩) C).trans (A.o.c 3 _ rfl);clear H1 N H2
  refine CalmN.region_all (fun x=>∃y:Calm.On w2.heap.size w2,x=y.1) [0,1,2,4] [3,5,6,7] (.one [] 8 (.one [] 9 (.fin [])))
   (fun todo a wx=>∃x3 x5 x6 x7 g3 g5 c6 c7,a = {tmps:=#[.agg #[.slice AT G.ts.length cT,.slice AN G.ns.length cN,.slice AR G.rs.length cR,.int .i64 G.st],.pointer (some ⟨w.heap.size,0,none⟩),.slice none 0 0,x6,x7,.agg #[.slice AT G.ts.length cT,.slice AN G.ns.length cN,.slice AR G.rs.length cR,.int .i64 G.st],.bool true,.bool false,.pointer (some ⟨w.heap.size,1,none⟩),.slice AN G.ns.length cN,.int .i64 G.ns.length,x3,.agg #[.slice AT G.ts.length cT,.slice AN G.ns.length cN,.slice AR G.rs.length cR,.int .i64 G.st],x5,undef,undef,undef,undef,undef,undef,undef,undef,undef,undef],defers:=[]}/\JR w2 G.ns.length T todo wx x3 x5 x6 x7 g3 g5 c6 c7)
   (by kernel_rfl) (by kernel_rfl) (fun _ _ d _ _ h=>by cases d <;> exact h) ⟨⟨w2.drew,aB (Aq _ _) 1⟩,rfl⟩ ?_ ?_ ?_
  ·simp only[CalmN.pickOps,Am,Af,Ah];repeat (go_big_quiet_step (fail))
   refine Aj ?_;exact⟨undef,undef,undef,undef,0,0,0,0,rfl,⟨by simp,aB (Aq _ _) 1,fun h=>absurd (by simp) h,fun h=>absurd (by simp) h,fun h=>absurd (by simp) h,fun h=>absurd (by simp) h,fun h=>absurd (by simp) h,fun h=>absurd (by simp) h⟩⟩
  ·intro todo k a wx hk hJ hS;obtain⟨x3,x5,x6,x7,g3,g5,c6,c7,rfl,hJ⟩:=hJ;have HJ:=aA hJ;have ae:=hJ.t k hk;clear hJ hS hk q0 q1 q2 q3;rcases ae with rfl|rfl|rfl|rfl
   ·simp only[CalmN.wpSt,Am,Af,Ah];intro KK j;rw[Ap (by rfl)];refine zl3 (.tmp 10) (.tmp 10) _ rfl Tryz.underlying188 G.ns.length rfl rfl (by omega) ?_;intro w' hu hb;have hj:=HJ.o.put3 hb hu;exact j _ _ ⟨⟨w',hj.b⟩,rfl⟩ _ (fun _ h=>h) ⟨⟨w',hj.b⟩,rfl⟩ ⟨_,x5,x6,x7,_,g5,c6,c7,rfl,hj⟩
   ·simp only[CalmN.wpSt,Am,Af,Ah];intro KK j;rw[Ap (by rfl)];go_wp2_with fail
    refine(H3.o wx HJ.o.b).mono ?_;rintro _ w' ⟨g,rfl,hg,hu,hb⟩;have hj:=HJ.o.put5 hb hg hu;go_wp2_with fail
    rw[ar.o];exact j _ _ ⟨⟨w',hj.b⟩,rfl⟩ _ (fun _ h=>h) ⟨⟨w',hj.b⟩,rfl⟩ ⟨x3,_,x6,x7,g3,_,c6,c7,rfl,hj⟩
   ·simp only[CalmN.wpSt,Am,Af,Ah];intro KK j;rw[Ap (by rfl)];have hj:=HJ.o.put6;go_wp2_with fail
    exact j _ _ ⟨⟨_,hj.b⟩,rfl⟩ _ (fun _ h=>h) ⟨⟨_,hj.b⟩,rfl⟩ ⟨x3,x5,_,x7,g3,g5,_,c7,rfl,hj⟩
   ·simp only[CalmN.wpSt,Am,Af,Ah];intro KK j;rw[Ap (by rfl)];have hj:=HJ.o.put7;go_wp2_with fail
    exact j _ _ ⟨⟨_,hj.b⟩,rfl⟩ _ (fun _ h=>h) ⟨⟨_,hj.b⟩,rfl⟩ ⟨x3,x5,x6,_,g3,g5,c6,_,rfl,hj⟩
  ·intro a wx hJ hS;obtain⟨x3,x5,x6,x7,g3,g5,c6,c7,rfl,hJ⟩:=hJ;obtain⟨rfl,ai,f⟩:=hJ.h3 (by simp);obtain⟨rfl,ay,i⟩:=hJ.h5 (by simp);obtain⟨rfl,az,F⟩:=hJ.h6 (by simp);obtain⟨rfl,a0,aj⟩:=hJ.h7 (by simp);have af:=hJ.d35 (by simp) (by simp);have au:=hJ.d67 (by simp) (by simp);have a1:=hJ.b;clear hS q0 q1 q2 q3;have aa:g3≠c6:=fun e=>by subst e;unfold UBO at f;rw[F]at f;injection f with f;injection f with _ f;cases f
   have ab:g5≠c6:=fun e=>by subst e;unfold UBO at i;rw[F]at i;injection i with i;injection i with _ i;cases i
   have ac:g3≠c7:=fun e=>by subst e;unfold UBO at f;rw[aj]at f;injection f with f;injection f with _ f;cases f
   have ad:g5≠c7:=fun e=>by subst e;unfold UBO at i;rw[aj]at i;injection i with i;injection i with _ i;cases i
   have l6:=(Ac.1 F).1;have f6:=AD wx _ 0 _ _ F;have k6:=Aw wx _ 0 _ _ _ F;obtain⟨wy,H⟩:∃y,y=wx.setCell ⟨c6,0,none⟩ (.slice (some ⟨g3,0,none⟩) G.ns.length G.ns.length):=⟨_,rfl⟩
   have ak:Below w2.heap.size w2 wy:=by rw[H];exact a1.setCell (p:=⟨c6,0,none⟩) az _
   have a2:UBO wy g3 (List.replicate G.ns.length false):=by rw[H];exact UBO.far f aa _
   have a3:UBO wy g5 T:=by rw[H];exact UBO.far i ab _
   have O:wy.heap[c7]?=some (.cells #[.slice none 0 0] 188 (0,0)):=by rw[H];exact(AH wx ⟨c6,0,none⟩ _ c7 (by simp only;omega)).trans aj
   have a4:wy.heap[c6]?=some (.cells #[.slice (some ⟨g3,0,none⟩) G.ns.length G.ns.length] 188 (0,0)):=by rw[H];exact AP wx c6 0 _ _ _ F
   clear f i F aj hJ a1;simp only[CalmN.wpT,CalmN.wpSt,CalmN.pickOps,Am,Af,Ah];refine Aj ?_;intro KK j;rw[Ap (by rfl)];go_wp2_with fail
   rw[<-H];refine j _ _ ⟨⟨wy,ak⟩,rfl⟩ _ (fun _ h=>h) ⟨⟨wy,ak⟩,rfl⟩ ?_;clear j k6 f6 l6 H;have l7:=(Ac.1 O).1;have f7:=AD wy _ 0 _ _ O;have k7:=Aw wy _ 0 _ _ _ O;obtain⟨wz,I⟩:∃y,y=wy.setCell ⟨c7,0,none⟩ (.slice (some ⟨g5,0,none⟩) G.ns.length G.ns.length):=⟨_,rfl⟩
   have E:Below w2.heap.size w2 wz:=by rw[I];exact ak.setCell (p:=⟨c7,0,none⟩) a0 _
   have U:UBO wz g3 (List.replicate G.ns.length false):=by rw[I];exact UBO.far a2 ac _
   have a5:UBO wz g5 T:=by rw[I];exact UBO.far a3 ad _
   have al:wz.heap[c6]?=some (.cells #[.slice (some ⟨g3,0,none⟩) G.ns.length G.ns.length] 188 (0,0)):=by rw[I];exact(AH wy ⟨c7,0,none⟩ _ c6 (by simp only;omega)).trans a4
   have a6:wz.heap[c7]?=some (.cells #[.slice (some ⟨g5,0,none⟩) G.ns.length G.ns.length] 188 (0,0)):=by rw[I];exact AP wy c7 0 _ _ _ O
   clear a2 a3 a4 O ak;refine Aj ?_;intro KK j;rw[Ap (by rfl)];go_wp2_with fail
   rw[<-I];refine j _ _ ⟨⟨wz,E⟩,rfl⟩ _ (fun _ h=>h) ⟨⟨wz,E⟩,rfl⟩ ?_;clear j k7 f7 l7 I;refine Aj ?_;have r2:=(E.cell (p:=⟨w.heap.size,2,none⟩) C).trans (A.o.c 2 _ rfl);have r3:=(E.cell (p:=⟨w.heap.size,3,none⟩) C).trans (A.o.c 3 _ rfl);have bo:=D.o.s0;have ag:=D.o.s1;obtain⟨m,hm⟩:∃m:Nat,G.st=(m:Int):=⟨G.st.toNat,by omega⟩
   have HM:=aA hm;rw[hm]at r3 ag;have k3:=U.cell m (by simp;omega);have f3:=U.frozen m;have l3:=U.lt;have k6:=Aw wz _ 0 _ _ _ al;have l6:=(Ac.1 al).1;have ld:w.heap.size<wz.heap.size:=Ao C E.size;obtain⟨wv,J⟩:∃y,y=wz.setCell ⟨g3,m,none⟩ (.bool true):=⟨_,rfl⟩
   have am:Below w2.heap.size w2 wv:=by rw[J];exact E.setCell (p:=⟨g3,m,none⟩) ai _
   have a9:UBO wv g3 ((List.replicate G.ns.length false).set m true):=by rw[J];exact U.set_ m true
   have ba:UBO wv g5 T:=by rw[J];exact UBO.far a5 (by simp only;omega) _
   have bb:wv.heap[c6]?=some (.cells #[.slice (some ⟨g3,0,none⟩) G.ns.length G.ns.length] 188 (0,0)):=by rw[J];exact(AH wz ⟨g3,m,none⟩ _ c6 (by simp only;omega)).trans al
   have bc:wv.heap[c7]?=some (.cells #[.slice (some ⟨g5,0,none⟩) G.ns.length G.ns.length] 188 (0,0)):=by rw[J];exact(AH wz ⟨g3,m,none⟩ _ c7 (by simp only;omega)).trans a6
   have HD:=aA (BJ aa (BJ ab (BJ ac (BJ ad (BJ af (BJ ai (BJ ay E)))))));clear U a5 al a6 hm aa ab ac ad af au az a0 ay E;go_upto_region 5 with fail
   rw[<-J];have u2:=(am.cell (p:=⟨w.heap.size,2,none⟩) C).trans (A.o.c 2 _ rfl);have u6:=aM bb;have u7:=aM bc;have M:Below w.heap.size w wv:=ax.o.trans (am.mono (CB C));have av:w.heap.size<=w2.heap.size:=CB C;have bd:zd3 wv B AR G.rs:=bl.o.keep fun g o hg=>M.cell (p:=⟨g,o,none⟩) (Ao hg HB.o);have bf:G.st.toNat=m:=by rw[HM.o];simp
   have bg:B<=g3:=Ag (Ag HB.o av) ai;have aw:G.ns.length=T.length:=ar.o.symm
   have bh:=aA (zfc 200 c6 c7 (zaI Tryz.func200 (by kernel_rfl) (by kernel_rfl)) G.rs AR cR G.ns.length B g3 G.ns.length wv ((List.replicate G.ns.length false).set G.st.toNat true) (Gm.Rc G) (Gm.brR T)
    bd (Ag HB.o M.size) bg (by rw[bf];exact a9) (by simp) (Gm.st_snd D.o) (by have:=aq.o;omega)
    (fun y s x A' c' ao hu hl hx hr=>by
     have e:=bm.o.r x hx;have q2:=zaz ao u6 (fun e=>HD.o.1 e.symm);rw[<-hl]at q2;have q3:=zaz ao u7 (fun e=>HD.o.2.2.1 e.symm);have q5:UBO y g5 T:=ba.grown ao (fun e=>by injection e with e;exact HD.o.2.2.2.2.1 e.symm);rw[aw]at q3;exact zfQ x s T A' (some ⟨g3,0,none⟩) (some ⟨g5,0,none⟩) c' s.length T.length B y.heap.size y.heap.size c6 c7 y q2 q3 hr (hu.rd0 hu.lt) (q5.rd0 q5.lt) (Ag HB.o (Ag M.size ao.size)) (Ad _) e.2.2 (fun z hz h=>by rw[<-aw];exact D.o.sin x hx z hz h) (by rw[hl];exact D.o.lin x hx) (by have:=(Gm.rule_in (D.o.rr x hx)).1;omega))
    (fun s x hx hl hd m hm=>by rw[HT.o]at hm;exact Gm.brR_in D.o hx hd hm)
    (fun s x hx=>Gm.brR_len T s x (Gm.rule_in (D.o.rr x hx)).1))
   have bi:=aA (fun(y:World) (h:wv.grownBy y (some g3))=>zaz h u6 (fun e=>HD.o.1 e.symm));have ah:Hid (∀(y:World) (s:List Bool),Grw wv y g3 G.ns.length (Gm.Rc G) ((List.replicate G.ns.length false).set G.st.toNat true) s->(∀x∈G.rs,∀m∈Gm.brR T s x,s.getD m.toNat false=true)->s=Gm.rc G/\Below w.heap.size w y):=aA (fun y s hg hc=>⟨Gm.rc_of D.o hg.l hg.d hg.le (by rw[HT.o]at hc;exact hc),zaa M hg.g (Ag av HD.o.2.2.2.2.2.1) M.size⟩);have lv:w.heap.size<wv.heap.size:=Ao C am.size;have l6v:c6<wv.heap.size:=Bd u6;have bp:=aA (Ag av HD.o.2.2.2.2.2.1);clear a9 ba bb bc J am u7 bd M bf bg aw r2 r3 k3 f3 l3 k6 l6 ld bo ag ai HD HT ar H3 H2;go_wp2_with fail
   refine bh.o.mono ?_;rintro _ w4 ⟨rfl,s,ap,bj⟩;obtain⟨e4,bk⟩:=ah.o w4 s ap bj;have ck4:=bi.o w4 ap.g;have bq:=aA ap.u;have br:=aA bk;have bz:c6<w4.heap.size:=Bd ck4;clear ap bj bk bh ah bi u6 u2;go_wp2;go_ret
   subst e4;exact⟨fun _=>⟨g3,by rw[Gm.rc_len];rfl,bp.o,bq.o,br.o⟩,fun h=>by simp at h⟩
end Go.Proofs.YtjjbaehamplnaaaGreat
namespace Go.Proofs.YtjjbaehamplnaaaGreat
open Go.RowKit
def Gm.rcB (p s:List Bool) (x:Gm.Rl):Bool:=s.getD x.l.toNat false&&Gm.allB true p x.r
end Go.Proofs.YtjjbaehamplnaaaGreat
