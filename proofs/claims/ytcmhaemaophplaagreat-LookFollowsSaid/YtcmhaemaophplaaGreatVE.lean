/- Part of the proofs over this program: GramOpen, RowQ, PairOpen, PartQ, OnP, WordsO, TrimFn, TrimPass, TrimGrow, TrimTells, CalmN, CalmA. -/
import Derived.Deep.Slices
import Derived.Deep.Fields
import Derived.ChangeSame
import Derived.Lib.SmallJoins
import Derived.SliceStrings
import Derived.Deep.Cut
import Derived.Test.YtcmhaemaophplaaGreatVC
namespace Go.Proofs.YtcmhaemaophplaaGreat
set_option maxRecDepth 100000
set_option maxHeartbeats 40000000
open Go.ChangeShapes Go.WideShapes Go.Deep Go.RowKit Go.Joins
section
variable {H:Type} {enc:TypeId×Value->H} {P:Program} {w:World} {base:Nat} {spare:Nat->Bool} {held:Bool}
theorem zdH {t e:TypeId} {fs:Array Field} {fuel:Nat} {cs:List Value} {x:DataW H×List MemPlace} (ht:P.underlying t=some (.slice e)) (he:P.underlying e=some (.struct fs))
  (hone:oneCellFields P fs=true) (hC:P.cellsOf e=fs.size) (h:DataW.trod enc P w base spare held fuel t cs=some x) :
  cs=[.slice none 0 0] \/
  ∃(a:Addr) (len cap:Nat),cs=[.slice (some a) len cap]/\len<=cap/\cap<=maxLen /\
   ∀i,i<len->∀(j:Nat) (f:Field),fs[j]?=some f->∃(v:Value) (y:DataW H×List MemPlace) (n:Nat),w.cell? (a.add (i*fs.size+j))=some v/\DataW.trod enc P w base spare held n f.type [v]=some y:=by
 rcases open_slice ht h with h0|⟨a,len,cap,m,n,D,Pl,hcs,hb,hl,hm,hmm,hx,hi⟩
 ·exact .inl h0.1
 ·refine .inr ⟨a,len,cap,hcs,hl,hm,fun i him j f hj=>?_⟩;obtain⟨cs',hc,ht'⟩:=hi i (by rw[hmm];split <;> omega);rw[hC]at hc;obtain⟨ys,n',hn',hy,hlen,hyl,hf⟩:=DataW.trod_struct he ht';obtain⟨_,hcl,hat⟩:=World.cells?_some hc;obtain⟨ho,hk⟩:=hone_of hone j f hj;have hjl:j<fs.size:=(Array.getElem?_eq_some_iff.1 hj).1;have hcell:=hat j hjl;have hv:cs'[j]?=some (cs'[j]'(by omega)):=List.getElem?_eq_getElem (by omega);have h1:=hf j f hj;rw[ho,hk]at h1
  have hone':(cs'.drop j).take 1=[cs'[j]'(by omega)]:=by
   rw[List.drop_eq_getElem_cons (by omega)];rfl
  rw[hone']at h1;have hys:ys[j]?=some (ys[j]'(by omega)):=List.getElem?_eq_getElem (by omega);refine⟨_,_,n',?_,h1.trans hys⟩;rw[<-Go.Deep.add_add,hcell,hv]
theorem za4 {a:Addr} {k:Nat} {v:Value} (h:w.cell? (a.add k)=some v) (hk:k=0):a=⟨a.block,a.off,none⟩:=by
 subst hk;obtain⟨b,o,s⟩:=a;obtain rfl:s=none:=by simpa[Addr.add] using World.cell?_spot h
 rfl
theorem zir {t e:TypeId} {f0 f1 f2:Field} {fuel:Nat} {cs:List Value} {x:DataW H×List MemPlace} (ht:P.underlying t=some (.slice e)) (he:P.underlying e=some (.struct #[f0,f1,f2]))
  (hone:oneCellFields P #[f0,f1,f2]=true) (hC:P.cellsOf e=3) (h0:P.underlying f0.type=some .string) (h1:P.underlying f1.type=some (.int .i64)) (h2:P.underlying f2.type=some (.int .i64)) (h:DataW.trod enc P w base spare held fuel t cs=some x) :
  ∃A n c ts,cs=[.slice A n c]/\n=ts.length/\n<=c/\c<=9223372036854775807/\zeG w w.heap.size A ts/\∀x∈ts,K.Tx x.nm/\Gm.In x.lv/\Gm.In x.wy:=by
 rcases zdH ht he hone hC h with rfl|⟨a,len,cap,rfl,hl,hm,hi⟩
 ·exact⟨none,0,0,[],rfl,rfl,Nat.le_refl _,by omega,fun h=>absurd rfl h,fun x hx=>by simp at hx⟩
 ·have hp:∀i,i<len->∃t:Gm.Tm,(w.cell? (a.add (i*3))=some (.string (K.str t.nm))/\w.cell? (a.add (i*3+1))=some (.int .i64 t.lv)/\w.cell? (a.add (i*3+2))=some (.int .i64 t.wy))/\K.Tx t.nm/\Gm.In t.lv/\Gm.In t.wy:=fun i hil=>by
   obtain⟨v0,y0,n0,c0,t0⟩:=hi i hil 0 f0 rfl;obtain⟨v1,y1,n1,c1,t1⟩:=hi i hil 1 f1 rfl;obtain⟨v2,y2,n2,c2,t2⟩:=hi i hil 2 f2 rfl;obtain⟨s,e0,_,hs0⟩:=DataW.trod_string h0 t0;obtain⟨z1,e1,_,w1⟩:=DataW.trod_int h1 t1;obtain⟨z2,e2,_,w2⟩:=DataW.trod_int h2 t2;injection e0 with e0;injection e1 with e1;injection e2 with e2;subst e0 e1 e2;obtain⟨l,hl,rfl⟩:=K.txt s hs0;exact⟨⟨l,z1,z2⟩,⟨c0,c1,c2⟩,hl,bounds_i64 w1,bounds_i64 w2⟩
  obtain⟨ts,htl,hts⟩:=zeq len _ hp;refine⟨some a,len,cap,ts,rfl,htl.symm,hl,by unfold maxLen at hm;omega,fun hn=>?_,fun x hx=>?_⟩
  ·have ha:=za4 (hts 0 (by omega)).1.1 (Nat.zero_mul 3);refine⟨a.block,a.off,congrArg some ha,?_,fun i hi=>?_⟩
   ·have:=block_lt_of_cell (hts 0 (by omega)).1.1
    simpa[Addr.add] using this
   ·have:=(hts i hi).1
    rw[ha,add_plain,add_plain,add_plain]at this;exact this
  ·obtain⟨i,hi,rfl⟩:=List.getElem_of_mem hx;exact(hts i hi).2
theorem zis {t e u:TypeId} {f0 f1 f2:Field} {fuel:Nat} {cs:List Value} {x:DataW H×List MemPlace} (ht:P.underlying t=some (.slice e)) (he:P.underlying e=some (.struct #[f0,f1,f2]))
  (hone:oneCellFields P #[f0,f1,f2]=true) (hC:P.cellsOf e=3) (h0:P.underlying f0.type=some (.int .i64)) (h1:P.underlying f1.type=some (.slice u)) (hu:P.underlying u=some (.int .i64)) (hcu:P.cellsOf u=1) (h2:P.underlying f2.type=some (.int .i64)) (h:DataW.trod enc P w base spare held fuel t cs=some x) :
  ∃A n c rs,cs=[.slice A n c]/\n=rs.length/\n<=c/\c<=9223372036854775807/\zd8 w w.heap.size A rs/\∀x∈rs,Gm.In x.l/\Gm.In x.p/\∀z∈x.r,Gm.In z:=by
 rcases zdH ht he hone hC h with rfl|⟨a,len,cap,rfl,hl,hm,hi⟩
 ·exact⟨none,0,0,[],rfl,rfl,Nat.le_refl _,by omega,fun h=>absurd rfl h,fun x hx=>by simp at hx⟩
 ·have hp:∀i,i<len->∃t:Gm.Rl,(w.cell? (a.add (i*3))=some (.int .i64 t.l)/\(∃A' c',w.cell? (a.add (i*3+1))=some (.slice A' t.r.length c')/\t.r.length<=c'/\c'<=9223372036854775807/\RdI w w.heap.size A' t.r)/\w.cell? (a.add (i*3+2))=some (.int .i64 t.p))/\Gm.In t.l/\Gm.In t.p/\∀z∈t.r,Gm.In z:=fun i hil=>by
   obtain⟨v0,y0,n0,c0,t0⟩:=hi i hil 0 f0 rfl;obtain⟨v1,y1,n1,c1,t1⟩:=hi i hil 1 f1 rfl;obtain⟨v2,y2,n2,c2,t2⟩:=hi i hil 2 f2 rfl;obtain⟨z0,e0,_,w0⟩:=DataW.trod_int h0 t0;obtain⟨z2,e2,_,w2⟩:=DataW.trod_int h2 t2;injection e0 with e0;injection e2 with e2;subst e0 e2;rcases open_ints h1 hu hcu t1 with⟨hcs,_⟩|⟨x,l,c,zs,hcs,_,hl,hm,hz,hx,hcell,hwz⟩
   ·injection hcs with hcs;subst hcs;exact⟨⟨z0,[],z2⟩,⟨c0,⟨none,0,c1,Nat.le_refl _,by omega,RdI.nil _ _ _⟩,c2⟩,bounds_i64 w0,bounds_i64 w2,fun z hz=>by simp at hz⟩
   ·injection hcs with hcs;subst hcs;have hzl:l<=zs.length:=by rw[hz];split <;> omega
    refine⟨⟨z0,zs.take l,z2⟩,⟨c0,⟨some x,c,?_,?_,by unfold maxLen at hm;omega,fun hn=>?_⟩,c2⟩,bounds_i64 w0,bounds_i64 w2,fun z hz=>bounds_i64 (hwz z (List.mem_of_mem_take hz))⟩
    ·have hln:(zs.take l).length=l:=by rw[List.length_take];omega
     show w.cell? (a.add (i*3+1))=some (.slice (some x) (zs.take l).length c)
     rw[hln];exact c1
    ·show(zs.take l).length<=c
     rw[List.length_take];omega
    ·have hl0:0<zs.length:=by simp at hn;omega
     have ha:=za4 (hcell 0 hl0) rfl;refine⟨x.block,x.off,congrArg some ha,?_,fun j hj=>?_⟩
     ·have:=block_lt_of_cell (hcell 0 hl0)
      simpa[Addr.add] using this
     ·have hj':j<l:=by simp at hj;omega
      have h1:=hcell j (by omega);rw[ha,add_plain]at h1;rw[h1];simp only[List.getD,List.getElem?_take];rw[if_pos hj']
  obtain⟨ts,htl,hts⟩:=zeq len _ hp;refine⟨some a,len,cap,ts,rfl,htl.symm,hl,by unfold maxLen at hm;omega,fun hn=>?_,fun x hx=>?_⟩
  ·have ha:=za4 (hts 0 (by omega)).1.1 (Nat.zero_mul 3);refine⟨a.block,a.off,congrArg some ha,?_,fun i hi=>?_⟩
   ·have:=block_lt_of_cell (hts 0 (by omega)).1.1
    simpa[Addr.add] using this
   ·have:=(hts i hi).1
    rw[ha,add_plain,add_plain,add_plain]at this;exact this
  ·obtain⟨i,hi,rfl⟩:=List.getElem_of_mem hx;exact(hts i hi).2
theorem ziq {t e:TypeId} {fuel:Nat} {cs:List Value} {x:DataW H×List MemPlace} (ht:P.underlying t=some (.slice e)) (he:P.underlying e=some .string) (hC:P.cellsOf e=1) (h:DataW.trod enc P w base spare held fuel t cs=some x) :
  ∃A n c ns,cs=[.slice A n c]/\n=ns.length/\n<=c/\c<=9223372036854775807/\RdN w w.heap.size A ns/\∀x∈ns,K.Tx x:=by
 rcases open_strings ht he hC h with⟨hcs,_⟩|⟨x,l,c,ss,hcs,_,hl,hm,hz,_,hcell,hsz⟩
 ·exact⟨none,0,0,[],hcs,rfl,Nat.le_refl _,by omega,fun h=>absurd rfl h,fun x hx=>by simp at hx⟩
 ·have hzl:l<=ss.length:=by rw[hz];split <;> omega
  have hp:∀i,i<l->∃t:List Int,w.cell? (x.add i)=some (.string (K.str t))/\K.Tx t:=fun i hi=>by
   obtain⟨t,ht,he⟩:=K.txt (ss.getD i ByteArray.empty) (hsz _ (by rw[List.getD_eq_getElem?_getD,List.getElem?_eq_getElem (by omega)];exact List.getElem_mem _));exact⟨t,by rw[hcell i (by omega),he],ht⟩
  obtain⟨ns,hnl,hns⟩:=zeq l _ hp;refine⟨some x,l,c,ns,hcs,hnl.symm,hl,by unfold maxLen at hm;omega,fun hn=>?_,fun y hy=>?_⟩
  ·have ha:=za4 (hns 0 (by omega)).1 rfl;refine⟨x.block,x.off,congrArg some ha,?_,fun j hj=>?_⟩
   ·have:=block_lt_of_cell (hns 0 (by omega)).1
    simpa[Addr.add] using this
   ·have h1:=(hns j hj).1;rw[ha,add_plain]at h1;exact h1
  ·obtain⟨i,hi,rfl⟩:=List.getElem_of_mem hy;exact(hns i hi).2
theorem zgY {r:Reach} {b0:Nat} {t e1 e2 e3 u:TypeId} {f0 f1 f2 f3 x0 x1 x2 y0 y1 y2:Field} {v:Value} {d:DataW H} {p:List MemPlace} (hs:P.underlying t=some (.struct #[f0,f1,f2,f3])) (hone:oneCellFields P #[f0,f1,f2,f3]=true) (hC:P.cellsOf t=4)
  (hf0:P.underlying f0.type=some (.slice e1)) (he1:P.underlying e1=some (.struct #[x0,x1,x2])) (ho1:oneCellFields P #[x0,x1,x2]=true) (hc1:P.cellsOf e1=3) (hx0:P.underlying x0.type=some .string) (hx1:P.underlying x1.type=some (.int .i64)) (hx2:P.underlying x2.type=some (.int .i64))
  (hf1:P.underlying f1.type=some (.slice e2)) (he2:P.underlying e2=some .string) (hc2:P.cellsOf e2=1)
  (hf2:P.underlying f2.type=some (.slice e3)) (he3:P.underlying e3=some (.struct #[y0,y1,y2])) (ho3:oneCellFields P #[y0,y1,y2]=true) (hc3:P.cellsOf e3=3) (hy0:P.underlying y0.type=some (.int .i64)) (hy1:P.underlying y1.type=some (.slice u)) (hu:P.underlying u=some (.int .i64)) (hcu:P.cellsOf u=1) (hy2:P.underlying y2.type=some (.int .i64))
  (hf3:P.underlying f3.type=some (.int .i64))
  (hv:Value.okWide P w r b0 t v) (h:DataW.Trod enc P w base spare held t v d p) :
  ∃G,aT w w.heap.size v G/\Gm.Fit G:=by
 obtain⟨v0,v1,v2,v3,y0',y1',y2',y3',n,rfl,_,_,k0,k1,k2,k3⟩:=open_agg4 hs hone hC hv h;obtain⟨AT,nT,cT,ts,e0,hn0,l0,m0,r0,w0⟩:=zir hf0 he1 ho1 hc1 hx0 hx1 hx2 k0;obtain⟨AR,nR,cR,rs,e2',hn2,l2,m2,r2,w2⟩:=zis hf2 he3 ho3 hc3 hy0 hy1 hu hcu hy2 k2;obtain⟨z,e3',_,w3⟩:=DataW.trod_int hf3 k3;obtain⟨AN,nN,cN,ns,e1',hn1,l1,m1,r1,w1⟩:=ziq hf1 he2 hc2 k1;injection e0 with e0;injection e1' with e1';injection e2' with e2';injection e3' with e3';subst e0 e1' e2' e3' hn0 hn1 hn2;exact⟨⟨ts,ns,rs,z⟩,⟨AT,cT,AN,cN,AR,cR,rfl,⟨l0,m0⟩,⟨l1,m1⟩,⟨l2,m2⟩,r0,r1,r2⟩,⟨w0,w1,w2,bounds_i64 w3⟩⟩
end
end Go.Proofs.YtcmhaemaophplaaGreat
namespace Go.Proofs.YtcmhaemaophplaaGreat
set_option maxRecDepth 100000
set_option maxHeartbeats 40000000
open Go.RowKit Go.ChangeShapes Go.WideShapes Go.ChangeAt
section
variable {α:Type} {m:Nat} {f:α->List Value}
theorem zje (hf:∀x,(f x).length=m) (xs:List α):(xs.flatMap f).length=xs.length*m:=by
 induction xs with
 | nil=>simp
 | cons x r ih=>rw[List.flatMap_cons,List.length_append,ih,hf,List.length_cons,Nat.add_mul,Nat.one_mul,Nat.add_comm]
theorem qat (hf:∀x,(f x).length=m) (xs:List α) (i j:Nat) (hi:i<xs.length) (hj:j<m):(xs.flatMap f)[i*m+j]?=(f xs[i])[j]?:=by
 induction xs generalizing i with
 | nil=>simp at hi
 | cons x r ih =>
  rw[List.flatMap_cons];have hl:=hf x;cases i with
  | zero=>rw[List.getElem?_append_left (by omega)];simp
  | succ i =>
   rw[Nat.add_mul,Nat.one_mul,List.getElem?_append_right (by omega),show i*m+m+j-(f x).length=i*m+j by omega]
   simpa using ih i (by simpa using hi)
theorem zmF (hf:∀x,(f x).length=2) (xs:List α) (i:Nat) (y:α) (a b:Value) (hy:f y=[a,b]):((xs.flatMap f).set (i*2) a).set (i*2+1) b=(xs.set i y).flatMap f:=by
 induction xs generalizing i with
 | nil=>simp
 | cons x r ih =>
  obtain⟨p,q,e⟩:∃p q,f x=[p,q]:=by
   have:=hf x
   match h:f x,this with
   | [p,q],_=>exact⟨p,q,rfl⟩
  rw[List.flatMap_cons,e];cases i with
  | zero=>simp[hy]
  | succ i =>
   rw[show(i+1)*2=i*2+1+1 by omega];simp only[List.cons_append,List.nil_append,List.set_cons_succ,List.flatMap_cons,e];rw[ih i]
def RdQ (m:Nat) (f:α->List Value) (w:World) (B:Nat) (A:Option Addr) (xs:List α):Prop :=
 xs.length≠0->∃g o,A=some ⟨g,o,none⟩/\g<B/\∀i (h:i<xs.length) j u,(f xs[i])[j]?=some u->w.cell? ⟨g,o+i*m+j,none⟩=some u
theorem RdQ.keep {w w':World} {B:Nat} {A:Option Addr} {xs:List α} (h:RdQ m f w B A xs) (hk:∀g o,g<B->w'.cell? ⟨g,o,none⟩=w.cell? ⟨g,o,none⟩):RdQ m f w' B A xs:=fun hn=>by
 obtain⟨g,o,e,hg,hc⟩:=h hn;exact⟨g,o,e,hg,fun i hi j u hu=>(hk _ _ hg).trans (hc i hi j u hu)⟩
theorem RdQ.more {w:World} {B B':Nat} {A:Option Addr} {xs:List α} (h:RdQ m f w B A xs) (hB:B<=B'):RdQ m f w B' A xs:=fun hn=>by
 obtain⟨g,o,e,hg,hc⟩:=h hn;exact⟨g,o,e,by omega,hc⟩
theorem RdQ.below {w w':World} {B B':Nat} {A:Option Addr} {xs:List α} (h:RdQ m f w B A xs) (hb:Below B' w w') (hB:B<=B'):RdQ m f w' B A xs :=
 h.keep fun g o hg=>hb.cell (p:=⟨g,o,none⟩) (Nat.lt_of_lt_of_le hg hB)
def UBQ (T:TypeId) (f:α->List Value) (w:World) (g:Nat) (xs:List α):Prop:=w.heap[g]?=some (.cells (xs.flatMap f).toArray T (0,0))
variable {T:TypeId}
theorem UBQ.lt {w:World} {g:Nat} {xs:List α} (h:UBQ T f w g xs):g<w.heap.size:=(Array.getElem?_eq_some_iff.1 h).1
theorem UBQ.cell {w:World} {g:Nat} {xs:List α} (h:UBQ T f w g xs) (hf:∀x,(f x).length=m) (i j:Nat) (hi:i<xs.length) (u:Value) (hu:(f xs[i])[j]?=some u):w.cell? ⟨g,i*m+j,none⟩=some u:=by
 have hj:j<m:=by rw[<-hf xs[i]];exact(List.getElem?_eq_some_iff.1 hu).1
 rw[cell_of_row w g _ _ _ _ h];rw[List.getElem?_toArray,qat hf xs i j hi hj];exact hu
theorem UBQ.frozen {w:World} {g:Nat} {xs:List α} (h:UBQ T f w g xs) (i:Nat):w.frozen? ⟨g,i,none⟩=false:=frozen_of_row w g i _ _ h
theorem UBQ.below {w w':World} {g B:Nat} {xs:List α} (h:UBQ T f w g xs) (hb:Below B w w') (hg:g<B):UBQ T f w' g xs:=(hb.block g hg).trans h
theorem UBQ.drewN {w:World} {g:Nat} {xs:List α} (h:UBQ T f w g xs) (n:Nat):UBQ T f (w.drewN n) g xs:=h
theorem UBQ.far {w:World} {g:Nat} {xs:List α} (h:UBQ T f w g xs) {p:Addr} (hp:g≠p.block) (u:Value):UBQ T f (w.setCell p u) g xs:=(Below.heap_setCell w p u g hp).trans h
theorem UBQ.set2 {w:World} {g:Nat} {xs:List α} (h:UBQ T f w g xs) (hf:∀x,(f x).length=2) (i:Nat) (y:α) (a b:Value) (hy:f y=[a,b]):UBQ T f ((w.setCell ⟨g,i*2,none⟩ a).setCell ⟨g,i*2+1,none⟩ b) g (xs.set i y):=by
 unfold UBQ at h ⊢;rw[heap_setCell_same _ g _ _ _ _ (heap_setCell_same w g _ _ _ _ h)]
 congr 2
 apply Array.ext';rw[<-zmF hf xs i y a b hy];simp
def aQ (T:TypeId) (m:Nat) (f:α->List Value) (w:World) (base:Nat) (v:Value) (xs:List α):Prop:=w.ownsRow base T m v xs.length (xs.flatMap f)
theorem aQ.nil (w:World) (base:Nat):aQ T m f w base (.slice none 0 0) []:=World.ownsRow_nil w base _ _
theorem aQ.mono {w:World} {base base':Nat} {v:Value} {xs:List α} (h:aQ T m f w base v xs) (hb:base'<=base):aQ T m f w base' v xs:=by
 refine⟨h.1,?_⟩;rcases h.2 with h0|⟨g,cap,cur,e,hb1,hr⟩
 ·exact .inl h0
 ·exact .inr ⟨g,cap,cur,e,by omega,hr⟩
theorem aQ.alloc {w:World} {base:Nat} {v:Value} {xs:List α} (h:aQ T m f w base v xs) (o:Obj):aQ T m f (w.alloc o) base v xs:=World.ownsRow.alloc h o
theorem aQ.drewN {w:World} {base:Nat} {v:Value} {xs:List α} (h:aQ T m f w base v xs) (n:Nat):aQ T m f (w.drewN n) base v xs:=h
theorem aQ.below {w w':World} {base B:Nat} {v:Value} {xs:List α} (h:aQ T m f w base v xs) (hb:Below B w w') (hB:w.heap.size<=B):aQ T m f w' base v xs:=by
 refine⟨h.1,?_⟩;rcases h.2 with h0|⟨g,cap,cur,e,hb1,hg,hr⟩
 ·exact .inl h0
 ·exact .inr ⟨g,cap,cur,e,hb1,(hb.block g (Nat.lt_of_lt_of_le (Array.getElem?_eq_some_iff.1 hg).1 hB)).trans hg,hr⟩
theorem aQ.form {w:World} {base:Nat} {v:Value} {xs:List α} (h:aQ T m f w base v xs) (hf:∀x,(f x).length=m):∃A c,v=.slice A xs.length c/\xs.length<=c/\c<=maxLen/\RdQ m f w w.heap.size A xs:=by
 rcases h.2 with⟨rfl,h0⟩|⟨g,cap,cur,rfl,hb,hg,hn,hm,hs,ht⟩
 ·exact⟨none,0,by rw[h0],by omega,by unfold maxLen;omega,fun hc=>absurd h0 hc⟩
 ·refine⟨some ⟨g,0,none⟩,cap,rfl,hn,hm,fun _=>⟨g,0,rfl,(Array.getElem?_eq_some_iff.1 hg).1,fun i hi j u hu=>?_⟩⟩;have hj:j<m:=by rw[<-hf xs[i]];exact(List.getElem?_eq_some_iff.1 hu).1
  have hc:=World.ownsRow.cells h (g:=g) rfl (i*m+j) u (by rw[qat hf xs i j hi hj];exact hu);rw[Go.WideShapes.add_plain,Nat.zero_add]at hc;rw[Nat.zero_add];exact hc
theorem aQ.addr {w:World} {base:Nat} {v:Value} {xs:List α} (h:aQ T m f w base v xs) (h0:xs.length≠0):∃g c,v=.slice (some ⟨g,0,none⟩) xs.length c/\xs.length<=c/\c<=maxLen/\base<=g:=by
 rcases h.2 with⟨_,h1⟩|⟨g,cap,cur,rfl,hb,hg,hn,hm,hs,ht⟩
 ·exact absurd h1 h0
 ·exact⟨g,cap,rfl,hn,hm,hb⟩
theorem aQ.cellAt {w:World} {base g n c:Nat} {xs:List α} (h:aQ T m f w base (.slice (some ⟨g,0,none⟩) n c) xs) (hf:∀x,(f x).length=m) (i j:Nat) (hi:i<xs.length) (u:Value) (hu:(f xs[i])[j]?=some u):w.cell? ⟨g,i*m+j,none⟩=some u:=by
 have hj:j<m:=by rw[<-hf xs[i]];exact(List.getElem?_eq_some_iff.1 hu).1
 have hc:=World.ownsRow.cells h (g:=g) rfl (i*m+j) u (by rw[qat hf xs i j hi hj];exact hu);rw[Go.WideShapes.add_plain,Nat.zero_add]at hc;exact hc
theorem aQ.lt {w:World} {base g n c:Nat} {xs:List α} (h:aQ T m f w base (.slice (some ⟨g,0,none⟩) n c) xs):g<w.heap.size:=by
 rcases h.2 with⟨e,_⟩|⟨g',_,_,e,_,hg,_⟩
 ·cases e
 ·injection e with e;injection e with e;injection e with e;subst e;exact(Array.getElem?_eq_some_iff.1 hg).1
theorem zhS {w:World} {ops:Array Oper} {rest:List Oper} {o:Oper} {a:Act} {Q:Exit->Act->World->Prop}
  (hgd:o.guard=none) (s x:Operand) (t:TypeId) (ho:o.op=.call {callee:=.builtin .append,args:=#[s,x],argTypes:=#[t,t]}) (ht:Tryz.prog.underlying t=some (.slice T))
  (z:Value) (bytes:Nat) (hinfo:(Tryz.prog.info? T).map (fun i=>(i.zero,i.size,i.bytes))=some (some z,m,bytes)) (hzs:z.cells.size=m) (hm:0<m) (hby:bytes<=100) (hf:∀x,(f x).length=m) (h1:∀x,∀u∈f x,u.oneCell'=true)
  (base:Nat) (v:Value) (xs:List α) (hs:a.eval s=v) (hown:aQ T m f w base v xs) (g c:Nat) (y:α) (hx:a.eval x=.slice (some ⟨g,0,none⟩) 1 c) (hz:∀j u,(f y)[j]?=some u->w.cell? ⟨g,j,none⟩=some u)
  (hlen:xs.length<=1000000) (hbase:base<=w.heap.size)
  (hK:∀v' w',aQ T m f w' base v' (xs++[y])->w.grownBy w' v.ownBlock->wpList Tryz.prog ops Q rest (a.put o.dst v') w') :
  wpList Tryz.prog ops Q (o::rest) a w:=by
 obtain⟨i,hi,hz0,hz1,hz2⟩:=info_parts hinfo;refine wpList_append_own w hgd s x t ho base T i z m bytes ht hi hz0 hz1 hz2 hzs hm v xs.length (xs.flatMap f) hs hown ⟨g,0,none⟩ 1 c (f y) hx (by rw[hf,Nat.one_mul]) ?_ (h1 y) (by unfold maxLen;omega) (by have:=Nat.mul_le_mul (show xs.length+1<=1000001 by omega) hby;omega) hbase fun v' w' h2 h3 _=>hK v' w' ?_ h3
 ·intro j u hj;rw[Go.WideShapes.add_plain,Nat.zero_add];exact hz j u hj
 ·unfold aQ;rw[List.length_append,List.flatMap_append,List.flatMap_singleton];exact h2
theorem zea {w:World} {base g n:Nat} {xs:List α} (h:w.ownsRow base T m (.slice (some ⟨g,0,none⟩) n n) n (xs.flatMap f)):UBQ T f w g xs:=by
 rcases h.2 with⟨he,_⟩|⟨g',cap,cur,he,hb,hg,_,hm,hs,ht⟩
 ·cases he
 ·injection he with e1 e2 e3;injection e1 with e1;injection e1 with e1;subst e1 e3;unfold UBQ;rw[hg,<-ht,List.take_of_length_le (by simp[hs])]
theorem zg8 (z:Value) (hz:z.cells.size=m) (hm:0<m) (n:Nat):(madeCells z.cells (n*m)).toList=(List.replicate n z).flatMap fun z=>z.cells.toList:=by
 refine List.ext_getElem? fun j=>?_;have hl:∀x∈List.replicate n z,x=z:=fun x hx=>(List.mem_replicate.1 hx).2
 have hfl:((List.replicate n z).flatMap fun z=>z.cells.toList).length=n*m:=by
  rw[List.length_flatMap,List.map_replicate];simp[hz]
 rcases Nat.lt_or_ge j (n*m) with h|h
 ·have hd:j / m<n:=by
   rcases Nat.lt_or_ge (j / m) n with h1|h1
   ·exact h1
   ·have:=Nat.mul_le_mul_right m h1
    have:=Nat.div_mul_le_self j m
    omega
  have hj2:j=j / m*m+j % m:=by rw[Nat.mul_comm];exact(Nat.div_add_mod j m).symm
  have key:∀(k i r:Nat),i<k->r<m->((List.replicate k z).flatMap fun z=>z.cells.toList)[i*m+r]?=z.cells.toList[r]?:=by
   intro k;induction k with
   | zero=>intro i r hi;omega
   | succ k ih =>
    intro i r hi hr;rw[List.replicate_succ,List.flatMap_cons];have hlz:z.cells.toList.length=m:=by simpa using hz
    cases i with
    | zero=>rw[List.getElem?_append_left (by omega)];simp
    | succ i =>
     rw[Nat.add_mul,Nat.one_mul,List.getElem?_append_right (by omega),show i*m+m+r-z.cells.toList.length=i*m+r by omega];exact ih i r (by omega) hr
  have hr:=Nat.mod_lt j hm;have e2:=key n (j / m) (j % m) hd hr;rw[<-hj2]at e2;rw[e2];unfold madeCells;simp[h,hz,hr]
 ·have e1:(madeCells z.cells (n*m)).toList.length<=j:=by rw[Array.length_toList,size_madeCells];exact h
  have e2:((List.replicate n z).flatMap fun z=>z.cells.toList).length<=j:=by rw[hfl];exact h
  rw[List.getElem?_eq_none e1,List.getElem?_eq_none e2]
theorem zjU (w:World) (t:TypeId) (ht:Tryz.prog.underlying t=some (.slice T)) (z:Value) (bytes:Nat) (hinfo:(Tryz.prog.info? T).map (fun i=>(i.zero,i.size,i.bytes))=some (some z,m,bytes)) (hzs:z.cells.size=m) (hm:0<m) (hby:bytes<=100) (y:α) (hy:f y=z.cells.toList) (n:Nat) (hn:n<=1000000) :
  ∃w',(Instr.makeSlice t (.int .i64 n) (.int .i64 n)).run Tryz.prog w=.ok (.slice (some ⟨w.heap.size,0,none⟩) n n) w'/\UBQ T f w' w.heap.size (List.replicate n y)/\Below w.heap.size w w':=by
 obtain⟨i,hi,hz0,hz1,hz2⟩:=info_parts hinfo;obtain⟨w',hrun,hown,hgr⟩:=run_make_full (P:=Tryz.prog) w w.heap.size t T i z m ht hi hz0 hz1 .i64 .i64 n (by rw[hz2];have:=Nat.mul_le_mul hby hn;omega) (by unfold maxLen;omega) (Nat.le_refl _);refine⟨w',hrun,?_,⟨hgr.os,hgr.tape,hgr.output,hgr.size,fun k hk=>hgr.block k hk (by simp)⟩⟩;refine zea (m:=m) (base:=w.heap.size) (n:=n) ?_;rw[zg8 z hzs hm n]at hown
 have e:(List.replicate n z).flatMap (fun z=>z.cells.toList)=(List.replicate n y).flatMap f:=by
  clear hown hrun;induction n with
  | zero=>rfl
  | succ n ih=>rw[List.replicate_succ,List.replicate_succ,List.flatMap_cons,List.flatMap_cons,ih (by omega),hy]
 rw[e]at hown;exact hown
theorem zlp {w:World} {o:Oper} {a:Act} {K:Act->World->Prop} {Q:Exit->Act->World->Prop} (l c:Operand) (t:TypeId) (hop:o.op=Op.makeSlice t l c) (ht:Tryz.prog.underlying t=some (.slice T)) (z:Value) (bytes:Nat) (hinfo:(Tryz.prog.info? T).map (fun i=>(i.zero,i.size,i.bytes))=some (some z,m,bytes)) (hzs:z.cells.size=m) (hm:0<m) (hby:bytes<=100) (y:α) (hy:f y=z.cells.toList) (n:Nat) (hl:a.eval l=.int .i64 n) (hc:a.eval c=.int .i64 n) (hn:n<=1000000)
  (hK:∀w',UBQ T f w' w.heap.size (List.replicate n y)->Below w.heap.size w w'->K (a.put o.dst (.slice (some ⟨w.heap.size,0,none⟩) n n)) w'):Oper.wp Tryz.prog o a w K Q:=by
 obtain⟨w',hrun,h1,h2⟩:=zjU w t ht z bytes hinfo hzs hm hby y hy n hn;unfold Oper.wp;simp[execOp,hop,hl,hc,hrun,Result.andThen];exact hK w' h1 h2
theorem zeo {w:World} {ops:Array Oper} {rest:List Oper} {o:Oper} {a:Act} {Q:Exit->Act->World->Prop}
  (hg:o.guard=none) (l c:Operand) (t:TypeId) (hop:o.op=Op.makeSlice t l c) (ht:Tryz.prog.underlying t=some (.slice T)) (z:Value) (bytes:Nat) (hinfo:(Tryz.prog.info? T).map (fun i=>(i.zero,i.size,i.bytes))=some (some z,m,bytes)) (hzs:z.cells.size=m) (hm:0<m) (hby:bytes<=100) (y:α) (hy:f y=z.cells.toList) (n:Nat) (hl:a.eval l=.int .i64 n) (hc:a.eval c=.int .i64 n) (hn:n<=1000000)
  (hK:∀w',UBQ T f w' w.heap.size (List.replicate n y)->Below w.heap.size w w'->wpList Tryz.prog ops Q rest (a.put o.dst (.slice (some ⟨w.heap.size,0,none⟩) n n)) w') :
  wpList Tryz.prog ops Q (o::rest) a w :=
 wpList_plain hg fun _ hK'=>zlp l c t hop ht z bytes hinfo hzs hm hby y hy n hl hc hn fun w' h1 h2=>hK' _ _ (hK w' h1 h2)
end
end Go.Proofs.YtcmhaemaophplaaGreat
namespace Go.Proofs.YtcmhaemaophplaaGreat
set_option maxRecDepth 100000
set_option maxHeartbeats 40000000
open Go.ChangeShapes Go.WideShapes Go.Deep Go.RowKit Go.Joins
def prF (x:Int×Int):List Value:=[.int .i64 x.1,.int .i64 x.2]
theorem aN (x:Int×Int):(prF x).length=2:=rfl
abbrev StT:=List (Int×Int)×List (Int×Int)
def zdm (w:World) (B:Nat) (A:Option Addr) (ss:List StT):Prop :=
 ss.length≠0->∃g o,A=some ⟨g,o,none⟩/\g<B/\∀i (h:i<ss.length),(∃A' c',w.cell? ⟨g,o+i*2,none⟩=some (.slice A' ss[i].1.length c')/\ss[i].1.length<=c'/\c'<=9223372036854775807/\RdQ 2 prF w B A' ss[i].1)/\(∃A' c',w.cell? ⟨g,o+i*2+1,none⟩=some (.slice A' ss[i].2.length c')/\ss[i].2.length<=c'/\c'<=9223372036854775807/\RdQ 2 prF w B A' ss[i].2)
theorem zdm.nil (w:World) (B:Nat) (A:Option Addr):zdm w B A []:=fun h=>absurd rfl h
theorem zdm.keep {w w':World} {B:Nat} {A:Option Addr} {ss:List StT} (h:zdm w B A ss) (hk:∀g o,g<B->w'.cell? ⟨g,o,none⟩=w.cell? ⟨g,o,none⟩):zdm w' B A ss:=fun hn=>by
 obtain⟨g,o,e,hg,hc⟩:=h hn;refine⟨g,o,e,hg,fun i hi=>?_⟩;obtain⟨⟨A1,c1,h1,h2,h3,h4⟩,⟨A2,c2,k1,k2,k3,k4⟩⟩:=hc i hi;exact⟨⟨A1,c1,(hk _ _ hg).trans h1,h2,h3,h4.keep hk⟩,⟨A2,c2,(hk _ _ hg).trans k1,k2,k3,k4.keep hk⟩⟩
theorem zdm.below {w w':World} {B B':Nat} {A:Option Addr} {ss:List StT} (h:zdm w B A ss) (hb:Below B' w w') (hB:B<=B'):zdm w' B A ss :=
 h.keep fun g o hg=>hb.cell (p:=⟨g,o,none⟩) (Nat.lt_of_lt_of_le hg hB)
theorem zdm.more {w:World} {B B':Nat} {A:Option Addr} {ss:List StT} (h:zdm w B A ss) (hB:B<=B'):zdm w B' A ss:=fun hn=>by
 obtain⟨g,o,e,hg,hc⟩:=h hn;refine⟨g,o,e,by omega,fun i hi=>?_⟩;obtain⟨⟨A1,c1,h1,h2,h3,h4⟩,⟨A2,c2,k1,k2,k3,k4⟩⟩:=hc i hi;exact⟨⟨A1,c1,h1,h2,h3,h4.more hB⟩,⟨A2,c2,k1,k2,k3,k4.more hB⟩⟩
section
variable {H:Type} {enc:TypeId×Value->H} {P:Program} {w:World} {base:Nat} {spare:Nat->Bool} {held:Bool}
end
end Go.Proofs.YtcmhaemaophplaaGreat
namespace Go.Proofs.YtcmhaemaophplaaGreat
set_option maxRecDepth 100000
set_option maxHeartbeats 40000000
open Go.RowKit
section
variable {α:Type} {m:Nat} {f:α->List Value} {T:TypeId}
theorem RdQ.take {w:World} {B:Nat} {A:Option Addr} {l:List α} (h:RdQ m f w B A l) (k:Nat):RdQ m f w B A (l.take k):=by
 intro hn;rw[List.length_take]at hn;obtain⟨g,o,e,hg,hcl⟩:=h (by omega);refine⟨g,o,e,hg,fun i hi j u hu=>?_⟩;rw[List.length_take]at hi;rw[List.getElem_take]at hu;exact hcl i (by omega) j u hu
theorem RdQ.alloc {w:World} {B:Nat} {A:Option Addr} {l:List α} (h:RdQ m f w B A l) (hB:B<=w.heap.size) (o:Obj):RdQ m f (w.alloc o) B A l :=
 h.below ((Below.refl _ w).alloc (Nat.le_refl _) o) hB
theorem zgz (w:World) (t:TypeId) (ht:Tryz.prog.underlying t=some (.slice (Tryz.prog.elem t))) (hs:∀w:World,(sizeOf (Tryz.prog.elem t)).run Tryz.prog w=.ok m w) (A:Option Addr) (c n k:Nat) (hk:k<=c):(Instr.sliceAt t (.slice A n c) none (some (.int .i64 k)) none).run Tryz.prog w=.ok (.slice A k c) w:=by
 rw[run_sliceAt_slice _ _ _ _ _ _ ht,run_slice_h _ _ _ _ _ ht .i64 (k:Int) (by omega) (by omega),hs]
 have e:∀A:Option Addr,A.map (fun x=>x.add 0)=A:=fun A=>by
  cases A with
  | none=>rfl
  | some x=>simp[Addr.add]
 simp[Result.andThen,sliced,e]
theorem zmE (hf:∀x,(f x).length=m) (xs:List α) (k:Nat) (hk:k<=xs.length):(xs.take k).flatMap f=(xs.flatMap f).take (k*m):=by
 have h1:xs.flatMap f=(xs.take k).flatMap f++(xs.drop k).flatMap f:=by rw[<-List.flatMap_append,List.take_append_drop]
 have h2:((xs.take k).flatMap f).length=k*m:=by rw[zje hf,List.length_take,Nat.min_eq_left hk]
 rw[h1,<-h2,List.take_left]
theorem aQ.take {w:World} {base n c:Nat} {A:Option Addr} {xs:List α} (h:aQ T m f w base (.slice A n c) xs) (hf:∀x,(f x).length=m) (k:Nat) (hk:k<=xs.length):aQ T m f w base (.slice A k c) (xs.take k):=by
 rcases h.2 with⟨e,h0⟩|⟨g,cap,cur,e,hb,hg,hn,hm,hs,ht⟩
 ·injection e with e1 e2 e3;subst e1 e2 e3;obtain rfl:k=0:=by omega
  rw[List.take_zero];exact aQ.nil w base
 ·injection e with e1 e2 e3;subst e1 e2 e3;have hl:(xs.take k).length=k:=by rw[List.length_take,Nat.min_eq_left hk]
  unfold aQ;rw[hl];refine⟨by rw[zje hf,hl],.inr ⟨g,c,cur,rfl,hb,hg,by omega,hm,hs,?_⟩⟩;rw[zmE hf xs k hk,<-ht,List.take_take,Nat.min_eq_left (Nat.mul_le_mul_right m hk)]
end
end Go.Proofs.YtcmhaemaophplaaGreat
namespace Go.Proofs.YtcmhaemaophplaaGreat
set_option maxRecDepth 100000
set_option maxHeartbeats 40000000
open Go.RowKit
def OnP (ps:List Nat) (w:World):Type:={x:World // ∀g∈ps,x.heap[g]?=w.heap[g]?}
instance (ps:List Nat) (w:World):Nonempty (OnP ps w):=⟨⟨w,fun _ _=>rfl⟩⟩
theorem OnP.cell {ps:List Nat} {w:World} (y:OnP ps w) {p:Addr} (h:p.block∈ps):y.1.cell? p=w.cell? p:=World.cell?_of_block (y.2 _ h)
theorem OnP.row {ps:List Nat} {w:World} (y:OnP ps w) {g j:Nat} {cs:Array Value} {t:TypeId} {fr:Nat×Nat} {u:Value} (h:g∈ps) (hb:w.heap[g]?=some (.cells cs t fr)) (hj:cs[j]?=some u):y.1.cell? ⟨g,j,none⟩=some u :=
 (cell_of_row y.1 g j _ _ _ ((y.2 g h).trans hb)).trans hj
section
variable {t:TypeId} {w w' w2:World}
end
end Go.Proofs.YtcmhaemaophplaaGreat
namespace Go.Proofs.YtcmhaemaophplaaGreat
set_option maxRecDepth 100000
set_option maxHeartbeats 40000000
open Go.RowKit Go.ChangeShapes Go.WideShapes Go.ChangeAt
theorem LB.gd_lt {l:List Bool} {k:Nat} (h:k<l.length):l.getD k false=l[k]:=by simp[List.getD,h]
theorem LB.mid_getD (pre xs post:List Bool) (k:Nat) (h:k<xs.length):(pre++xs++post).getD (pre.length+k) false=xs.getD k false:=by
 simp only[List.getD];rw[List.getElem?_append_left (by simp;omega),List.getElem?_append_right (by omega),show pre.length+k-pre.length=k by omega]
theorem LB.mid_set (pre xs post:List Bool) (k:Nat) (z:Bool) (h:k<xs.length):(pre++xs++post).set (pre.length+k) z=pre++xs.set k z++post:=by
 rw[List.set_append_left _ _ (by simp;omega),List.set_append_right _ _ (by omega),show pre.length+k-pre.length=k by omega]
def RdO (w:World) (B:Nat) (A:Option Addr) (zs:List Bool):Prop :=
 zs.length≠0->∃g o,A=some ⟨g,o,none⟩/\g<B/\∀j,j<zs.length->w.cell? ⟨g,o+j,none⟩=some (.bool (zs.getD j false))
theorem RdO.nil (w:World) (B:Nat) (A:Option Addr):RdO w B A []:=fun h=>absurd rfl h
theorem RdO.keep {w w':World} {B:Nat} {A:Option Addr} {zs:List Bool} (h:RdO w B A zs) (hk:∀g o,g<B->w'.cell? ⟨g,o,none⟩=w.cell? ⟨g,o,none⟩):RdO w' B A zs:=fun hn=>by
 obtain⟨g,o,e,hg,hc⟩:=h hn;exact⟨g,o,e,hg,fun j hj=>(hk _ _ hg).trans (hc j hj)⟩
theorem RdO.more {w:World} {B B':Nat} {A:Option Addr} {zs:List Bool} (h:RdO w B A zs) (hB:B<=B'):RdO w B' A zs:=fun hn=>by
 obtain⟨g,o,e,hg,hc⟩:=h hn;exact⟨g,o,e,by omega,hc⟩
theorem RdO.below {w w':World} {B B':Nat} {A:Option Addr} {zs:List Bool} (h:RdO w B A zs) (hb:Below B' w w') (hB:B<=B'):RdO w' B A zs :=
 h.keep fun g o hg=>hb.cell (p:=⟨g,o,none⟩) (Nat.lt_of_lt_of_le hg hB)
theorem RdO.up {w w':World} {A:Option Addr} {zs:List Bool} (h:RdO w w.heap.size A zs) (hb:Below w.heap.size w w'):RdO w' w'.heap.size A zs:=(h.below hb (Nat.le_refl _)).more hb.size
theorem RdO.drewN {w:World} {B:Nat} {A:Option Addr} {zs:List Bool} (h:RdO w B A zs) (n:Nat):RdO (w.drewN n) B A zs:=h
theorem RdO.drew {w:World} {B:Nat} {A:Option Addr} {zs:List Bool} (h:RdO w B A zs):RdO w.drew B A zs:=h
theorem RdO.alloc {w:World} {B:Nat} {A:Option Addr} {zs:List Bool} (h:RdO w B A zs) (hB:B<=w.heap.size) (o:Obj):RdO (w.alloc o) B A zs :=
 h.keep fun g i hg=>World.cell?_alloc_lt w o ⟨g,i,none⟩ (Nat.lt_of_lt_of_le hg hB)
theorem RdO.grown {w w':World} {B:Nat} {A:Option Addr} {zs:List Bool} {g:Nat} (h:RdO w B A zs) (hg:w.grownBy w' (some g)) (hB:B<=g) (hs:B<=w.heap.size):RdO w' B A zs :=
 h.keep fun p o hp=>World.cell?_of_block (hg.block p (by omega) (fun e=>by injection e with e;omega))
theorem RdO.take {w:World} {B:Nat} {A:Option Addr} {zs:List Bool} (h:RdO w B A zs) (k:Nat):RdO w B A (zs.take k):=fun hn=>by
 have hl:(zs.take k).length<=zs.length:=by rw[List.length_take];omega
 obtain⟨g,o,e,hg,hc⟩:=h (by omega);refine⟨g,o,e,hg,fun j hj=>?_⟩;rw[hc j (by omega),LB.gd_lt hj,LB.gd_lt (by omega:j<zs.length),List.getElem_take]
theorem RdO.cell {w:World} {B:Nat} {zs:List Bool} {g o:Nat} (h:RdO w B (some ⟨g,o,none⟩) zs) (j:Nat) (hj:j<zs.length):w.cell? ⟨g,o+j,none⟩=some (.bool (zs.getD j false)):=by
 obtain⟨g',o',e,_,hc⟩:=h (by omega);injection e with e;injection e with e1 e2;subst e1 e2;exact hc j hj
def UBO (w:World) (g:Nat) (ls:List Bool):Prop:=w.heap[g]?=some (.cells (ls.map Value.bool).toArray 4 (0,0))
theorem UBO.lt {w:World} {g:Nat} {ls:List Bool} (h:UBO w g ls):g<w.heap.size:=by
 rcases Nat.lt_or_ge g w.heap.size with hlt|hge
 ·exact hlt
 ·unfold UBO at h;rw[Array.getElem?_eq_none hge]at h;cases h
theorem UBO.cell {w:World} {g:Nat} {ls:List Bool} (h:UBO w g ls) (i:Nat) (hi:i<ls.length):w.cell? ⟨g,i,none⟩=some (.bool (ls.getD i false)):=by
 rw[cell_of_row w g i _ _ _ h];simp[hi,List.getD]
theorem UBO.frozen {w:World} {g:Nat} {ls:List Bool} (h:UBO w g ls) (i:Nat):w.frozen? ⟨g,i,none⟩=false:=frozen_of_row w g i _ _ h
theorem UBO.drewN {w:World} {g:Nat} {ls:List Bool} (h:UBO w g ls) (n:Nat):UBO (w.drewN n) g ls:=h
theorem UBO.drew {w:World} {g:Nat} {ls:List Bool} (h:UBO w g ls):UBO w.drew g ls:=h
theorem UBO.alloc {w:World} {g:Nat} {ls:List Bool} (h:UBO w g ls) (o:Obj):UBO (w.alloc o) g ls:=(Below.heap_alloc w o g h.lt).trans h
theorem UBO.set_ {w:World} {g:Nat} {ls:List Bool} (h:UBO w g ls) (i:Nat) (z:Bool):UBO (w.setCell ⟨g,i,none⟩ (.bool z)) g (ls.set i z):=by
 unfold UBO at h ⊢;rw[heap_setCell_same w g i _ _ _ h]
 congr 2
 apply Array.ext';simp[List.map_set]
theorem UBO.far {w:World} {g:Nat} {ls:List Bool} (h:UBO w g ls) {p:Addr} (hp:g≠p.block) (u:Value):UBO (w.setCell p u) g ls:=(Below.heap_setCell w p u g hp).trans h
theorem UBO.below {w w':World} {g B:Nat} {ls:List Bool} (h:UBO w g ls) (hb:Below B w w') (hg:g<B):UBO w' g ls:=(hb.block g hg).trans h
theorem UBO.grown {w w':World} {g:Nat} {ls:List Bool} {row:Option Nat} (h:UBO w g ls) (hb:w.grownBy w' row) (hg:some g≠row):UBO w' g ls:=(hb.block g h.lt hg).trans h
theorem UBO.mid {w:World} {g o:Nat} {pre xs post:List Bool} (h:UBO w g (pre++xs++post)) (ho:o=pre.length) (k:Nat) (hk:k<xs.length):w.cell? ⟨g,o+k,none⟩=some (.bool (xs.getD k false)):=by
 rw[h.cell (o+k) (by simp;omega),ho,LB.mid_getD pre xs post k hk]
theorem UBO.mid_set {w:World} {g o:Nat} {pre xs post:List Bool} (h:UBO w g (pre++xs++post)) (ho:o=pre.length) (k:Nat) (z:Bool) (hk:k<xs.length):UBO (w.setCell ⟨g,o+k,none⟩ (.bool z)) g (pre++xs.set k z++post):=by
 have:=h.set_ (o+k) z;rwa [ho,LB.mid_set pre xs post k z hk,<-ho]at this
theorem UBO.rd {w:World} {g:Nat} {ls:List Bool} (h:UBO w g ls) (o n:Nat) (hn:o+n<=ls.length) {B:Nat} (hB:g<B):RdO w B (some ⟨g,o,none⟩) ((ls.drop o).take n):=fun _=>by
 refine⟨g,o,rfl,hB,fun j hj=>?_⟩;have hj':j<n:=by rw[List.length_take]at hj;omega
 rw[h.cell (o+j) (by omega),LB.gd_lt hj,LB.gd_lt (by omega:o+j<ls.length),List.getElem_take,List.getElem_drop]
theorem UBO.rd0 {w:World} {g:Nat} {ls:List Bool} (h:UBO w g ls) {B:Nat} (hB:g<B):RdO w B (some ⟨g,0,none⟩) ls:=by
 have:=h.rd 0 ls.length (by omega) hB;simpa using this
theorem zlQ:(Tryz.prog.info? 4).map (fun i=>(i.zero,i.size,i.bytes))=some (some (.bool false),1,1):=by kernel_rfl
theorem zba (n:Nat):(List.replicate n false).map Value.bool=List.replicate n (.bool false):=by simp
theorem zbU {w:World} {base g n:Nat} {ls:List Bool} (h:w.ownsRow base 4 1 (.slice (some ⟨g,0,none⟩) n n) n (ls.map Value.bool)):UBO w g ls:=by
 rcases h.2 with⟨he,_⟩|⟨g',cap,cur,he,hb,hg,hn,hm,hs,ht⟩
 ·cases he
 ·injection he with e1 e2 e3;injection e1 with e1;injection e1 with e1;subst e1 e3;unfold UBO;rw[hg,<-ht,List.take_of_length_le (by simp[hs])]
theorem zc0 {w:World} {ops:Array Oper} {rest:List Oper} {o:Oper} {a:Act} {Q:Exit->Act->World->Prop}
  (hg:o.guard=none) (l c:Operand) (t:TypeId) (hop:o.op=Op.makeSlice t l c) (ht:Tryz.prog.underlying t=some (.slice 4)) (n:Nat) (L C:Int) (hl:a.eval l=.int .i64 L) (hc:a.eval c=.int .i64 C) (hL:L=(n:Int)) (hC:C=(n:Int)) (hn:n<=35184372088832)
  (hK:∀w',UBO w' w.heap.size (List.replicate n false)->Below w.heap.size w w'->w.heap.size<w'.heap.size->wpList Tryz.prog ops Q rest (a.put o.dst (.slice (some ⟨w.heap.size,0,none⟩) n n)) w') :
  wpList Tryz.prog ops Q (o::rest) a w:=by
 obtain⟨i,hi,hz0,hz1,hz2⟩:=info_parts zlQ;refine wpList_make_full w hg l c t hop w.heap.size 4 i (.bool false) 1 ht hi hz0 hz1 .i64 .i64 L C n hl hc hL hC (by rw[hz2];omega) (by unfold maxLen;omega) (Nat.le_refl _) fun w' hown hgr=>?_
 have hub:UBO w' w.heap.size (List.replicate n false):=by
  refine zbU (base:=w.heap.size) (n:=n) ?_;rw[zba]
  have e:(madeCells (Value.bool false).cells (n*1)).toList=List.replicate n (Value.bool false):=by
   rw[Nat.mul_one];exact toList_madeCells_one _ _
  rw[e]at hown;exact hown
 exact hK w' hub ⟨hgr.os,hgr.tape,hgr.output,hgr.size,fun k hk=>hgr.block k hk (by simp)⟩ hub.lt
end Go.Proofs.YtcmhaemaophplaaGreat
namespace Go.Proofs.YtcmhaemaophplaaGreat
set_option maxRecDepth 100000
set_option maxHeartbeats 40000000
open Go.RowKit
def Gm.nts (r:List Int):List Int:=(r.filter fun z=>decide (z<0)).map fun z=>-1-z
theorem Gm.nts_next {r:List Int} {k:Nat} (h:k<r.length):Gm.nts (r.take (k+1))=if r.getD k 0<0 then Gm.nts (r.take k)++[-1-r.getD k 0] else Gm.nts (r.take k):=by
 unfold Gm.nts;rw[L.take_snoc r k h,List.filter_append,List.map_append];generalize r.getD k 0=z;by_cases hz:z<0
 ·rw[if_pos hz];simp[hz]
 ·rw[if_neg hz];simp[hz]
theorem Gm.nts_len (r:List Int):(Gm.nts r).length<=r.length:=by
 unfold Gm.nts;rw[List.length_map];exact List.length_filter_le _ _
theorem Gm.nts_mem {r:List Int} {n:Int}:n∈Gm.nts r ↔ -1-n∈r/\0<=n:=by
 unfold Gm.nts;rw[List.mem_map]
 constructor
 ·rintro⟨z,hz,rfl⟩
  have:=List.mem_filter.1 hz
  have h2:=of_decide_eq_true this.2;exact⟨by rw[show -1-(-1-z)=z by omega];exact this.1,by omega⟩
 ·rintro⟨h1,h2⟩;exact⟨-1-n,List.mem_filter.2 ⟨h1,by simp;omega⟩,by omega⟩
theorem zbl (z:Int) (w:World) :
  Calls Tryz.prog 138 #[.int .i64 z] w fun e w'=>e=.returned (.bool (decide (z<0)))/\w'=w:=by
 go_enter Tryz.func138,Tryz.ntmps138
 go_wp2;go_ret
 exact⟨rfl,rfl⟩
theorem zbG (z:Int) (hz:-9223372036854775808<=z) (hz':z<=9223372036854775807) (w:World) :
  Calls Tryz.prog 139 #[.int .i64 z] w fun e w'=>e=.returned (.int .i64 (-1-z))/\w'=w:=by
 have hs:IntKind.i64.wrap (-1-z) = -1-z:=IntWalk.i64_in _ (by omega);clear hz hz'
 go_enter Tryz.func139,Tryz.ntmps139
 go_wp2;go_ret
 exact⟨rfl,rfl⟩
theorem zeX (x:Gm.Rl) (A:Option Addr) (c B:Nat) (w:World) (hr:RdI w B A x.r) (hin:∀z∈x.r,Gm.In z) (hB:B<=w.heap.size) (hl:x.r.length<=1000000) :
  Calls Tryz.prog 164 #[.agg #[.int .i64 x.l,.slice A x.r.length c,.int .i64 x.p]] w fun e w'=>∃v,e=.returned v/\aU w' w.heap.size v (Gm.nts x.r)/\Below w.heap.size w w':=by
 have HR:=aA hr;have HIN:=aA hin;have HI:=aA (fun z w=>zbl z w);have HX:=aA (fun z h1 h2 w=>zbG z h1 h2 w);have HB0:=aA hB;have HL:=aA hl;have hlen:(x.r.length:Int)<=9223372036854775807:=by omega
 have HA:=aA (fun o=>(Below.refl w.heap.size w).alloc (Nat.le_refl _) o);clear hr hin hB hl
 go_enter Tryz.func164,Tryz.ntmps164
 go_wp2;go_loopw [3,9] (fun vl vi wr=>∃k:Nat,k<=x.r.length/\vi=.int .i64 k/\Hid (aU wr w.heap.size vl (Gm.nts (x.r.take k)))/\Hid (Below w.heap.size w wr)) (fun _ vi _=>x.r.length-(intOf vi).toNat)
 case atStart=>exact⟨0,Nat.zero_le _,rfl,aA (aU.nil _ _),HA.o _⟩
 case round =>
  obtain⟨k,hk,rfl,HO,HB⟩:=hrel;by_cases hlt:k<x.r.length
  ·obtain⟨g,o,rfl,hgb,hc⟩:=HR.o (by omega);have k0:=(HB.o.cell (p:=⟨g,o+k,none⟩) (Nat.lt_of_lt_of_le hgb HB0.o)).trans (hc k hlt);have hin:=HIN.o (x.r.getD k 0) (by rw[L.gd_lt hlt];exact List.getElem_mem _);have HN:=aA (Gm.nts_next hlt);have HLN:Hid ((Gm.nts (x.r.take k)).length<=1000000):=aA (Nat.le_trans (Gm.nts_len _) (by rw[List.length_take];have:=HL.o;omega));clear hc;unfold Gm.In at hin;generalize x.r.getD k 0=z at *;have HXz:=aA (fun w=>HX.o z hin.1 hin.2 w);have HIz:=aA (fun w=>HI.o z w);clear hin;by_cases hz:z<0
   ·have HN2:=aA (HN.o.trans (if_pos hz));rw[decide_eq_true hz]at HIz;clear hz;go_wp2_with fail
    refine(HIz.o _).mono ?_;rintro _ w2 ⟨rfl,hw2⟩;subst hw2;go_wp2_with fail
    refine(HXz.o _).mono ?_;rintro _ w2 ⟨rfl,hw2⟩;subst hw2;generalize -1-z=n at *;go_wp2_with (at_builtin;refine zaT rfl (.tmp 15) (.tmp 18) _ rfl Tryz.underlying38 w.heap.size _ _ rfl (HO.o.alloc _) _ 1 n rfl (World.cell?_alloc_new _ _ _ 0) (by have:=HLN.o;omega) (by have:=HB.o.size;simp;omega) ?_;intro v' w2 ho2 hg2)
    go_roundw
    case rel=>exact⟨k+1,hlt,by go_num,by rw[HN2.o];exact ho2,zbC (HB.o.alloc (by have:=HB.o.size;omega) _) (HO.o.alloc _) hg2 (by have:=HB.o.size;simp;omega)⟩
    case measure=>simp[intOf];omega
   ·have HN2:=aA (HN.o.trans (if_neg hz));rw[decide_eq_false hz]at HIz;clear hz;go_wp2_with fail
    refine(HIz.o _).mono ?_;rintro _ w2 ⟨rfl,hw2⟩;subst hw2;go_wp2_with fail
    go_roundw
    case rel=>exact⟨k+1,hlt,by go_num,by rw[HN2.o];exact HO,HB⟩
    case measure=>simp[intOf];omega
  ·obtain rfl:k=x.r.length:=by omega
   rw[List.take_length]at HO;go_wp2;go_ret
   exact⟨_,rfl,HO.o,HB.o⟩
theorem Gm.allB_nts {is:List Bool} {r:List Int}:Gm.allB true is r=(Gm.nts r).all fun n=>is.getD n.toNat false:=by
 unfold Gm.allB Gm.nts;rw[List.all_map,List.all_filter]
 congr 1
 funext z
 by_cases h:z<0
 ·simp[h,show ¬0<=z by omega]
 ·simp[h,show 0<=z by omega]
def zgf (l:List Int) (p:Int->Bool) (k:Nat):Prop:=∀i (h:i<l.length),i<k->p l[i]=true
theorem zgf.next {l:List Int} {p:Int->Bool} {k:Nat} (h:zgf l p k) (hk:k<l.length) (hn:p l[k]=true):zgf l p (k+1):=fun i hi hik=>by
 rcases Nat.lt_or_ge i k with q|q
 ·exact h i hi q
 ·obtain rfl:i=k:=by omega
  exact hn
theorem zgf.all {l:List Int} {p:Int->Bool} (h:zgf l p l.length):l.all p=true:=by
 rw[List.all_eq_true];intro z hz;obtain⟨i,hi,rfl⟩:=List.getElem_of_mem hz;exact h i hi hi
theorem zgf.not {l:List Int} {p:Int->Bool} {k:Nat} (hk:k<l.length) (h:p l[k]=false):l.all p=false:=by
 rw[List.all_eq_false];exact⟨_,List.getElem_mem hk,by rw[h];simp⟩
theorem zaU (x:Gm.Rl) (is:List Bool) (A A2:Option Addr) (c c2 B:Nat) (w:World) (hr:RdI w B A x.r) (hin:∀z∈x.r,Gm.In z) (hs:∀z∈x.r,z<0->-1-z<(is.length:Int)) (hp:RdO w B A2 is) (hB:B<=w.heap.size) (hl:x.r.length<=1000000) :
  Calls Tryz.prog 141 #[.agg #[.int .i64 x.l,.slice A x.r.length c,.int .i64 x.p],.slice A2 is.length c2] w fun e w'=>e=.returned (.bool (Gm.allB true is x.r))/\Below w.heap.size w w':=by
 have HNO:=aA (fun(y:World) (h:Below w.heap.size w y)=>zeX x A c B y (hr.below h hB) hin (Nat.le_trans hB h.size) hl);have HP:=aA hp;have HB0:=aA hB;have HMEM:=aA (fun n (h:n∈Gm.nts x.r)=>(show 0<=n/\n<(is.length:Int) from⟨(Gm.nts_mem.1 h).2,by have:=hs _ (Gm.nts_mem.1 h).1 (by have:=(Gm.nts_mem.1 h).2;omega);omega⟩));have HE:=aA (Gm.allB_nts (is:=is) (r:=x.r));have HA:=aA (fun o=>(Below.refl w.heap.size w).alloc (Nat.le_refl _) o);have HLN:=aA (Nat.le_trans (Gm.nts_len x.r) hl);rw[HE.o];generalize Gm.nts x.r=ls at *;have hlen:(ls.length:Int)<=9223372036854775807:=by have:=HLN.o;omega
 clear hr hin hs hp hB hl HE
 go_enter Tryz.func141,Tryz.ntmps141
 go_wp2_with fail
 refine(HNO.o _ (HA.o _)).mono ?_;rintro _ w2 ⟨v,rfl,ho2,hb2⟩;have HB2:=aA ((HA.o (.cells #[.int .i64 x.l,.slice A x.r.length c,.int .i64 x.p] 48)).trans (hb2.mono (by simp)));obtain⟨A3,c3,rfl,h31,h32,hr3⟩:=ho2.form;have HR3:=aA hr3;clear ho2 hb2 hr3 h31 h32 HNO;go_wp2
 go_loop [10] (fun vi=>∃k:Nat,k<=ls.length/\vi=.int .i64 k/\Hid (zgf ls (fun n=>is.getD n.toNat false) k)) (fun vi=>ls.length-(intOf vi).toNat)
 case atStart=>exact⟨0,Nat.zero_le _,rfl,aA (fun _ _ h=>absurd h (by omega))⟩
 case round =>
  obtain⟨k,hk,rfl,HK⟩:=hrel;by_cases hlt:k<ls.length
  ·obtain⟨g,o,rfl,hgb,hc⟩:=HR3.o (by omega);have k0:=hc k hlt;have hm:=HMEM.o _ (List.getElem_mem hlt);rw[L.gd_lt hlt]at k0;have HY:=aA (fun h=>HK.o.next hlt h);have HN:=aA (fun h=>zgf.not (p:=fun n=>is.getD n.toNat false) hlt h);clear hc;generalize ls[k]=n at *;obtain⟨m,rfl⟩:∃m:Nat,n=(m:Int):=⟨n.toNat,by omega⟩
   have hm2:m<is.length:=by omega
   obtain⟨g2,o2,rfl,hgb2,hc2⟩:=HP.o (by omega);have k2:=(HB2.o.cell (p:=⟨g2,o2+m,none⟩) (Nat.lt_of_lt_of_le hgb2 HB0.o)).trans (hc2 m hm2);have hl3:(m:Int)<(is.length:Int):=by omega
   simp only[Int.toNat_natCast]at HY HN;generalize is.getD m false=b at *;clear hc2 hm;cases b
   ·have HX:=aA (HN.o rfl);go_wp2;go_ret
    exact⟨aE HX.o.symm,HB2.o⟩
   ·have HX:=aA (HY.o rfl);go_wp2
    go_round
    case rel=>exact⟨k+1,hlt,by go_num,HX⟩
    case measure=>simp[intOf];omega
  ·obtain rfl:k=ls.length:=by omega
   have HX:=aA (HK.o.all);go_wp2;go_ret
   exact⟨aE HX.o.symm,HB2.o⟩
def Gm.ps (tm:Bool) (is:List Bool) (z:Int):Bool:=if 0<=z then tm else is.getD (-1-z).toNat false
theorem Gm.allB_ps (tm:Bool) (is:List Bool) (r:List Int):Gm.allB tm is r=r.all (Gm.ps tm is):=rfl
theorem Gm.ps_non {tm:Bool} {is:List Bool} {z:Int} (h:z<0):∃m:Nat,-1-z=(m:Int)/\Gm.ps tm is z=is.getD m false:=by
 refine⟨(-1-z).toNat,by omega,?_⟩;unfold Gm.ps;rw[if_neg (by omega)]
theorem Gm.ps_term {tm:Bool} {is:List Bool} {z:Int} (h:¬z<0):Gm.ps tm is z=tm:=by unfold Gm.ps;rw[if_pos (by omega)]
theorem zgX (z:Int) (is:List Bool) (A:Option Addr) (c B:Nat) (w:World) (hz:Gm.In z) (hs:z<0->-1-z<(is.length:Int)) (hr:RdO w B A is) :
  Calls Tryz.prog 176 #[.int .i64 z,.slice A is.length c] w fun e w'=>e=.returned (.bool (Gm.ps false is z))/\w'=w:=by
 unfold Gm.In at hz;have HI:=aA (fun w=>zbl z w);have HX:=aA (fun w=>zbG z hz.1 hz.2 w);by_cases h0:z<0
 ·obtain⟨m,he,hp⟩:=Gm.ps_non (tm:=false) (is:=is) h0;have hm:=hs h0;rw[he]at HX hm;have hm2:m<is.length:=by omega
  obtain⟨g,o,rfl,hgb,hc⟩:=hr (by omega);have k0:=hc m hm2;rw[hp];rw[decide_eq_true h0]at HI;generalize is.getD m false=b at *;clear hz hs hr hc h0 he hp
  go_enter Tryz.func176,Tryz.ntmps176
  go_wp2_with fail
  refine(HI.o _).mono ?_;rintro _ w2 ⟨rfl,hw2⟩;subst hw2;go_wp2_with fail
  refine(HX.o _).mono ?_;rintro _ w2 ⟨rfl,hw2⟩;subst hw2;go_wp2;go_ret
  exact⟨rfl,rfl⟩
 ·rw[Gm.ps_term h0];rw[decide_eq_false h0]at HI;clear hz hs hr h0 HX
  go_enter Tryz.func176,Tryz.ntmps176
  go_wp2_with fail
  refine(HI.o _).mono ?_;rintro _ w2 ⟨rfl,hw2⟩;subst hw2;go_wp2;go_ret
  exact⟨rfl,rfl⟩
theorem zgW (z:Int) (is:List Bool) (A:Option Addr) (c B:Nat) (w:World) (hz:Gm.In z) (hs:z<0->-1-z<(is.length:Int)) (hr:RdO w B A is) :
  Calls Tryz.prog 137 #[.int .i64 z,.slice A is.length c] w fun e w'=>e=.returned (.bool (Gm.ps true is z))/\w'=w:=by
 unfold Gm.In at hz;have HI:=aA (fun w=>zbl z w);have HX:=aA (fun w=>zbG z hz.1 hz.2 w);by_cases h0:z<0
 ·obtain⟨m,he,hp⟩:=Gm.ps_non (tm:=true) (is:=is) h0;have hm:=hs h0;rw[he]at HX hm;have hm2:m<is.length:=by omega
  obtain⟨g,o,rfl,hgb,hc⟩:=hr (by omega);have k0:=hc m hm2;rw[hp];rw[decide_eq_true h0]at HI;generalize is.getD m false=b at *;clear hz hs hr hc h0 he hp
  go_enter Tryz.func137,Tryz.ntmps137
  go_wp2_with fail
  refine(HI.o _).mono ?_;rintro _ w2 ⟨rfl,hw2⟩;subst hw2;go_wp2_with fail
  refine(HX.o _).mono ?_;rintro _ w2 ⟨rfl,hw2⟩;subst hw2;go_wp2;go_ret
  exact⟨rfl,rfl⟩
 ·rw[Gm.ps_term h0];rw[decide_eq_false h0]at HI;clear hz hs hr h0 HX
  go_enter Tryz.func137,Tryz.ntmps137
  go_wp2_with fail
  refine(HI.o _).mono ?_;rintro _ w2 ⟨rfl,hw2⟩;subst hw2;go_wp2;go_ret
  exact⟨rfl,rfl⟩
theorem zik (l:List Int) (is:List Bool) (tm:Bool) (A A2:Option Addr) (c c2 B B2:Nat) (w:World) (hr:RdI w B A l) (hin:∀z∈l,Gm.In z) (hs:∀z∈l,z<0->-1-z<(is.length:Int)) (hp:RdO w B2 A2 is) (hl:l.length<=1000000) :
  Calls Tryz.prog 58 #[.slice A l.length c,.slice A2 is.length c2,.bool tm] w fun e w'=>e=.returned (.bool (Gm.allB tm is l))/\w'=w:=by
 have HR:=aA hr;have HP:=aA hp;have HIN:=aA hin;have HS:=aA hs;rw[Gm.allB_ps];have hlen:(l.length:Int)<=9223372036854775807:=by omega
 clear hr hin hs hp hl
 go_enter Tryz.func58,Tryz.ntmps58
 go_wp2
 go_loop [7] (fun vi=>∃k:Nat,k<=l.length/\vi=.int .i64 k/\Hid (zgf l (Gm.ps tm is) k)) (fun vi=>l.length-(intOf vi).toNat)
 case atStart=>exact⟨0,Nat.zero_le _,rfl,aA (fun _ _ h=>absurd h (by omega))⟩
 case round =>
  obtain⟨k,hk,rfl,HK⟩:=hrel;by_cases hlt:k<l.length
  ·obtain⟨g,o,rfl,hgb,hc⟩:=HR.o (by omega);have k0:=hc k hlt;rw[L.gd_lt hlt]at k0;have hz:=HIN.o _ (List.getElem_mem hlt);have hq:=HS.o _ (List.getElem_mem hlt);have HY:=aA (fun h=>HK.o.next hlt h);have HN:=aA (fun h=>zgf.not (p:=Gm.ps tm is) hlt h);clear hc;generalize l[k]=z at *;unfold Gm.In at hz;by_cases h0:z<0
   ·obtain⟨m,he,hps⟩:=Gm.ps_non (tm:=tm) (is:=is) h0;have hm:=hq h0;rw[he]at hm;have hm2:m<is.length:=by omega
    obtain⟨g2,o2,rfl,hgb2,hc2⟩:=HP.o (by omega);have k2:=hc2 m hm2;have d0:decide (0<=z)=false:=decide_eq_false (by omega);have d1:decide (z<0)=true:=decide_eq_true h0;have d2:IntKind.i64.wrap (-1-z)=(m:Int):=by rw[IntWalk.i64_in _ (by omega)];exact he
    rw[hps]at HY HN;generalize is.getD m false=b at *;clear hz hq hc2 he hps h0;cases b
    ·have HX:=aA (HN.o rfl);go_wp2;go_ret
     exact⟨aE HX.o.symm,rfl⟩
    ·have HX:=aA (HY.o rfl);go_wp2
     go_round
     case rel=>exact⟨k+1,hlt,by go_num,HX⟩
     case measure=>simp[intOf];omega
   ·have d0:decide (0<=z)=true:=decide_eq_true (by omega);have d1:decide (z<0)=false:=decide_eq_false h0;rw[Gm.ps_term h0]at HY HN;clear hz hq h0;cases tm
    ·have HX:=aA (HN.o rfl);go_wp2;go_ret
     exact⟨aE HX.o.symm,rfl⟩
    ·have HX:=aA (HY.o rfl);go_wp2
     go_round
     case rel=>exact⟨k+1,hlt,by go_num,HX⟩
     case measure=>simp[intOf];omega
  ·obtain rfl:k=l.length:=by omega
   have HX:=aA (HK.o.all);go_wp2;go_ret
   exact⟨aE HX.o.symm,rfl⟩
theorem za7 {f:Nat} {fn:Func} (hf:Tryz.prog.funcs[f]?=some fn) (hb:fn.body.isNone=false) (hn:(fn.name == "runtime.NumGoroutine")=false) (args:Array Value) (w:World):Sem.run Tryz.prog (callFunc f args) w=.ok (.enter f args) w:=by
 have hn2:¬fn.name = "runtime.NumGoroutine" := by simpa using hn
 have hb2:fn.body≠none:=by intro h;rw[h]at hb;cases hb
 simp[callFunc,go_sem,hf,hb2,hn2]
theorem zio (w:World) (b:List Int) (base:Nat) (hb:base<=w.heap.size) (hm:b.length<=maxLen):aU (w.alloc (.cells (b.map (Value.int .i64)).toArray 3)) base (.slice (some ⟨w.heap.size,0,none⟩) b.length b.length) b :=
 ⟨by simp,.inr ⟨w.heap.size,b.length,_,rfl,hb,heap_alloc_new w _,Nat.le_refl _,hm,by simp,by simp[List.take_of_length_le]⟩⟩
def Gm.brL (tm:Bool) (is:List Bool) (x:Gm.Rl):List Int:=if Gm.allB tm is x.r=true then [x.l] else []
theorem zfO (f:Nat) (hE:∀args w,Sem.run Tryz.prog (callFunc f args) w=.ok (.enter f args) w) (tm:Bool) (x:Gm.Rl) (is:List Bool) (A A2:Option Addr) (c c2 B gp gk:Nat) (w:World)
  (hf:∀z y,Below w.heap.size w y->z∈x.r->Calls Tryz.prog f #[.int .i64 z,.slice A2 is.length c2] y fun e w'=>e=.returned (.bool (Gm.ps tm is z))/\w'=y)
  (hgp:w.cell? ⟨gp,0,none⟩=some (.func (Fn.func f) #[] #[])) (hgk:w.cell? ⟨gk,0,none⟩=some (.slice A2 is.length c2)) (hr:RdI w B A x.r) (hB:B<=w.heap.size) (hl:x.r.length<=1000000) :
  Calls Tryz.prog 162 #[.agg #[.int .i64 x.l,.slice A x.r.length c,.int .i64 x.p],.pointer (some ⟨gp,0,none⟩),.pointer (some ⟨gk,0,none⟩)] w fun e w'=>∃v,e=.returned v/\aU w' w.heap.size v (Gm.brL tm is x)/\Below w.heap.size w w':=by
 have HF:=aA hf;have HR:=aA hr;have HB0:=aA hB;have HA:=aA (fun o=>(Below.refl w.heap.size w).alloc (Nat.le_refl _) o);have lp:=block_lt_of_cell hgp;have lk:=block_lt_of_cell hgk;have hlen:(x.r.length:Int)<=9223372036854775807:=by omega
 have HE:Hid (Gm.brL tm is x=if x.r.all (Gm.ps tm is)=true then [x.l] else []):=aA rfl;clear hf hr hB hl
 go_enter Tryz.func162,Tryz.ntmps162
 go_wp2
 go_loop [10] (fun vi=>∃k:Nat,k<=x.r.length/\vi=.int .i64 k/\Hid (zgf x.r (Gm.ps tm is) k)) (fun vi=>x.r.length-(intOf vi).toNat)
 case atStart=>exact⟨0,Nat.zero_le _,rfl,aA (fun _ _ h=>absurd h (by omega))⟩
 case round =>
  obtain⟨k,hk,rfl,HK⟩:=hrel;by_cases hlt:k<x.r.length
  ·obtain⟨g,o,rfl,hgb,hc⟩:=HR.o (by omega);have k0:=hc k hlt;rw[L.gd_lt hlt]at k0;have hgs:g<w.heap.size:=Nat.lt_of_lt_of_le hgb HB0.o;have HFz:=aA (fun y h=>HF.o _ y h (List.getElem_mem hlt));have HY:=aA (fun h=>HK.o.next hlt h);have HN:=aA (fun h=>zgf.not (p:=Gm.ps tm is) hlt h);clear hc;generalize x.r[k]=z at *;cases hb:Gm.ps tm is z
   ·rw[hb]at HFz;have HX:=aA (HE.o.trans (if_neg (by rw[HN.o hb];decide)));clear hb;go_wp2_with fail
    refine(HFz.o _ (HA.o _)).mono ?_;rintro _ w2 ⟨rfl,hw2⟩;subst hw2;go_wp2;go_ret
    exact⟨_,rfl,by rw[HX.o];exact aU.nil _ _,HA.o _⟩
   ·rw[hb]at HFz;have HX:=aA (HY.o hb);clear hb;go_wp2_with fail
    refine(HFz.o _ (HA.o _)).mono ?_;rintro _ w2 ⟨rfl,hw2⟩;subst hw2;go_wp2
    go_round
    case rel=>exact⟨k+1,hlt,by go_num,HX⟩
    case measure=>simp[intOf];omega
  ·obtain rfl:k=x.r.length:=by omega
   have HX:=aA (HE.o.trans (if_pos HK.o.all));go_wp2;go_ret
   have q:=zio (w.alloc (.cells #[.int .i64 x.l,.slice A x.r.length c,.int .i64 x.p] 48)) [x.l] w.heap.size (by simp) (by unfold maxLen;simp);rw[show(w.alloc (.cells #[.int .i64 x.l,.slice A x.r.length c,.int .i64 x.p] 48)).heap.size=w.heap.size+1 by simp]at q;exact⟨_,rfl,by rw[HX.o];exact q,(HA.o _).alloc (HA.o _).size _⟩
def zm2 (w:World) (g:Nat):Nat:=match w.heap[g]? with
 | some (.cells cs _ _)=>cs.toList.countP fun v=>match v with | .bool false=>true|_=>false
 | _=>0
theorem UBO.cnt {w:World} {g:Nat} {s:List Bool} (h:UBO w g s):zm2 w g=s.count false:=by
 unfold zm2;rw[h];clear h;simp only;induction s with
 | nil=>rfl
 | cons b s ih =>
  simp only[List.map_cons,List.countP_cons,List.count_cons]at ih ⊢;rw[ih];cases b <;> rfl
theorem Gm.ct_false (s:List Bool):s.count false+Gm.ct s=s.length:=by
 unfold Gm.ct;induction s with
 | nil=>rfl
 | cons b s ih=>cases b <;> simp <;> omega
theorem Gm.ct_set {s:List Bool} {i:Nat} (h:i<s.length):(s.getD i false=true->s.set i true=s)/\(s.getD i false=false->Gm.ct (s.set i true)=Gm.ct s+1):=by
 induction s generalizing i with
 | nil=>simp at h
 | cons b s ih =>
  cases i with
  | zero=>cases b <;> simp[Gm.ct]
  | succ i =>
   have:=ih (i:=i) (by simpa using h)
   simp only[List.getD_cons_succ,List.set_cons_succ];refine⟨fun e=>by rw[this.1 e],fun e=>?_⟩;have h2:=this.2 e;unfold Gm.ct at h2 ⊢;cases b <;> simp_all
structure Grw (w wr:World) (gk n:Nat) (D:Int->Prop) (s0 s:List Bool):Prop where
 u:UBO wr gk s
 l:s.length=n
 d:∀i:Nat,s.getD i false=true->D (i:Int)
 le:Gm.Le s0 s
 g:w.grownBy wr (some gk)
theorem Grw.alloc {w wr:World} {gk n:Nat} {D:Int->Prop} {s0 s:List Bool} (h:Grw w wr gk n D s0 s) (o:Obj):Grw w (wr.alloc o) gk n D s0 s:=⟨h.u.alloc o,h.l,h.d,h.le,aG h.g o⟩
theorem Grw.below {w wr w':World} {gk n:Nat} {D:Int->Prop} {s0 s:List Bool} (h:Grw w wr gk n D s0 s) (hb:Below wr.heap.size wr w'):Grw w w' gk n D s0 s:=⟨h.u.below hb h.u.lt,h.l,h.d,h.le,zac h.g (aM hb _)⟩
theorem Grw.set {w wr:World} {gk n:Nat} {D:Int->Prop} {s0 s:List Bool} (h:Grw w wr gk n D s0 s) {m:Nat} (hd:D (m:Int)):Grw w (wr.setCell ⟨gk,m,none⟩ (.bool true)) gk n D s0 (s.set m true) :=
 ⟨h.u.set_ m true,by rw[List.length_set];exact h.l,fun i hi=>by
  rcases Gm.getD_set _ _ _ hi with h1|h1
  ·exact h.d i h1
  ·rw[h1];exact hd,h.le.trans (Gm.Le.set _ _),aF h.g m _⟩
def Nw (s0 s:List Bool) (b:Bool) (C:Prop):Prop:=(b=false->s=s0/\C)/\(b=true->Gm.ct s0<Gm.ct s)
theorem Nw.start (s:List Bool) (C:Prop) (hC:C):Nw s s false C:=⟨fun _=>⟨rfl,hC⟩,fun h=>by cases h⟩
theorem Nw.mono {s0 s:List Bool} {b:Bool} {C C':Prop} (h:Nw s0 s b C) (k:C->C'):Nw s0 s b C':=⟨fun e=>⟨(h.1 e).1,k (h.1 e).2⟩,h.2⟩
theorem Nw.next {s0 s:List Bool} {b:Bool} {C C':Prop} {m:Nat} (h:Nw s0 s b C) (hm:m<s.length) (hC:C->s0.getD m false=true->C'):Nw s0 (s.set m true) (b || !s.getD m false) C':=by
 obtain⟨h1,h2⟩:=Gm.ct_set hm;cases hv:s.getD m false
 ·refine⟨fun e=>by simp at e,fun _=>?_⟩;rw[h2 hv];cases b
  ·rw[(h.1 rfl).1];omega
  ·have:=h.2 rfl;omega
 ·rw[h1 hv];refine⟨fun e=>?_,fun e=>h.2 (by simpa using e)⟩;have hb:b=false:=by simpa using e
  obtain⟨e1,c⟩:=h.1 hb;refine⟨e1,hC c ?_⟩;rw[<-e1];exact hv
theorem aU.rdOf {w:World} {base n c:Nat} {A:Option Addr} {xs:List Int} (h:aU w base (.slice A n c) xs):RdI w w.heap.size A xs:=by
 obtain⟨A',c',e,_,_,hr⟩:=h.form;injection e with e1 _ _;rw[e1];exact hr
theorem aU.far {w w':World} {base gk:Nat} {v:Value} {xs:List Int} (h:aU w base v xs) (hg:w.grownBy w' (some gk)) (hlt:gk<base):aU w' base v xs :=
 World.ownsRow.kept h hg (by
  cases hv:v.ownBlock with
  | none=>exact .inl rfl
  | some k=>exact .inr (fun e=>by injection e with e;have:=(World.ownsRow.lt h k hv).1;omega))
def bN:Value->Nat
 | .bool true=>1
 | _=>0
theorem zal {w wr:World} {gk B g o:Nat} (h:w.grownBy wr (some gk)) (hB:B<=w.heap.size) (hk:B<=gk) (hg:g<B):wr.cell? ⟨g,o,none⟩=w.cell? ⟨g,o,none⟩ :=
 World.cell?_of_block (h.block g (by omega) (fun e=>by injection e with e;omega))
theorem ze9 (fb p1 p2:Nat) (hE:∀args w,Sem.run Tryz.prog (callFunc fb args) w=.ok (.enter fb args) w) (rs:List Gm.Rl) (AR:Option Addr) (cR ck B gk n:Nat) (w:World) (s0:List Bool) (D:Int->Prop) (br:List Bool->Gm.Rl->List Int)
  (hR:zd8 w B AR rs) (hB:B<=w.heap.size) (hk:B<=gk) (hu:UBO w gk s0) (hn:s0.length=n) (hd:∀i:Nat,s0.getD i false=true->D (i:Int)) (hl:rs.length<=1000000)
  (hbr:∀(y:World) (s:List Bool) (x:Gm.Rl) (A':Option Addr) (c':Nat),w.grownBy y (some gk)->UBO y gk s->s.length=n->x∈rs->RdI y B A' x.r->Calls Tryz.prog fb #[.agg #[.int .i64 x.l,.slice A' x.r.length c',.int .i64 x.p],.pointer (some ⟨p1,0,none⟩),.pointer (some ⟨p2,0,none⟩)] y fun e w'=>∃v,e=.returned v/\aU w' y.heap.size v (br s x)/\Below y.heap.size y w')
  (hsn:∀s x,x∈rs->s.length=n->(∀i:Nat,s.getD i false=true->D (i:Int))->∀m∈br s x,0<=m/\m<n/\D m) (hbl:∀s x,x∈rs->(br s x).length<=1000000) :
  Calls Tryz.prog 161 #[.slice (some ⟨gk,0,none⟩) n ck,.slice AR rs.length cR,.func (Fn.func fb) #[] #[.pointer (some ⟨p1,0,none⟩),.pointer (some ⟨p2,0,none⟩)]] w fun e w'=>e=.returned (.tuple #[])/\∃s,Grw w w' gk n D s0 s/\∀x∈rs,∀m∈br s x,s.getD m.toNat false=true:=by
 have HR:=aA hR;have HB:=aA hB;have HK:=aA hk;have HBR:=aA hbr;have HSN:=aA hsn;have HBL:=aA hbl;have HG0:Hid (Grw w w gk n D s0 s0):=aA ⟨hu,hn,hd,Gm.Le.refl _,World.grownBy.refl _ _⟩;have hlen:(rs.length:Int)<=9223372036854775807:=by omega
 clear hR hB hk hu hn hd hl hbr hsn hbl
 go_enter Tryz.func161,Tryz.ntmps161
 go_wp2;go_loopw [6] (fun vg wr=>∃(s:List Bool) (b:Bool),vg=.bool b/\Hid (Grw w wr gk n D s0 s)/\Hid (b=false->∀x∈rs,∀m∈br s x,s.getD m.toNat false=true)) (fun vg wr=>2*zm2 wr gk+bN vg)
 case atStart=>exact⟨s0,true,rfl,HG0,aA (fun h=>by cases h)⟩
 case round =>
  obtain⟨s,b,rfl,HG,HC⟩:=hrel;obtain⟨wo,hwo⟩:∃wo:World,wo=wr:=⟨_,rfl⟩
  subst hwo;cases b
  ·go_wp2;go_end0
   exact⟨rfl,s,HG.o,HC.o (by trivial)⟩
  ·clear HC;go_wp2;go_loopw [6,14] (fun vg vi wr=>∃(s1:List Bool) (b1:Bool) (i:Nat),i<=rs.length/\vg=.bool b1/\vi=.int .i64 i/\Hid (Grw w wr gk n D s0 s1)/\Hid (Gm.Le s s1)/\Hid (Nw s s1 b1 (∀x∈rs.take i,∀m∈br s x,s.getD m.toNat false=true))) (fun _ vi _=>rs.length-(intOf vi).toNat)
   case atStart=>exact⟨s,false,0,Nat.zero_le _,rfl,rfl,HG,aA (Gm.Le.refl _),aA (Nw.start _ _ (by simp))⟩
   case round =>
    obtain⟨s1,b1,i,hi,rfl,rfl,HG1,HLe,HN1⟩:=hrel;obtain⟨wi,hwi⟩:∃wi:World,wi=wr:=⟨_,rfl⟩
    subst hwi;by_cases hlt:i<rs.length
    ·obtain⟨g,o,rfl,hgB,hc⟩:=HR.o (by omega);obtain⟨k0,⟨A',c',k1,_,_,hri⟩,k2⟩:=hc i hlt;have k0:=(zal HG1.o.g HB.o HK.o hgB).trans k0;have k1:=(zal HG1.o.g HB.o HK.o hgB).trans k1;have k2:=(zal HG1.o.g HB.o HK.o hgB).trans k2;have hgs:g<wi.heap.size:=by have:=HG1.o.g.size;have:=HB.o;omega
     have HBi:=aA (fun(o:Obj)=>HBR.o (wi.alloc o) s1 rs[i] A' c' (HG1.o.alloc o).g (HG1.o.alloc o).u HG1.o.l (List.getElem_mem hlt) (hri.keep fun g o hg=>zal (HG1.o.alloc _).g HB.o HK.o hg));have HSi:=aA (HSN.o s1 rs[i] (List.getElem_mem hlt) HG1.o.l HG1.o.d);have HLi:=aA (HBL.o s1 rs[i] (List.getElem_mem hlt));have HTi:Hid (rs.take (i+1)=rs.take i++[rs[i]]):=aA (List.take_succ_eq_append_getElem hlt);clear hc hri;generalize rs[i]=x at *;have HLe2:=HLe;go_wp2_with fail
     refine(HBi.o _).mono ?_;rintro _ w2 ⟨v,rfl,ho2,hb2⟩;have HG2:=aA ((HG1.o.alloc _).below hb2);have hkl:=HG1.o.u.lt;obtain⟨A3,c3,rfl,h31,h32,_⟩:=ho2.form;have HO2:=aA ho2;have hll:((br s1 x).length:Int)<=9223372036854775807:=by have:=HLi.o;omega
     obtain⟨ls,hls⟩:∃ls,ls=br s1 x:=⟨_,rfl⟩
     rw[<-hls]at HO2 HSi hll ⊢;have HLS:=aA hls;clear ho2 hb2 hls k0 k1 k2 hgs;go_wp2;go_loopw [6,22] (fun vg vk wr=>∃(s2:List Bool) (b2:Bool) (k:Nat),k<=ls.length/\vg=.bool b2/\vk=.int .i64 k/\Hid (Grw w wr gk n D s0 s2)/\Hid (Gm.Le s1 s2)/\Hid (aU wr (wi.heap.size+1) (.slice A3 ls.length c3) ls)/\Hid (Nw s s2 b2 ((∀x∈rs.take i,∀m∈br s x,s.getD m.toNat false=true)/\∀m∈ls.take k,s.getD m.toNat false=true))) (fun _ vk _=>ls.length-(intOf vk).toNat)
     case atStart=>exact⟨s1,b1,0,Nat.zero_le _,rfl,rfl,HG2,aA (Gm.Le.refl _),aA (by have:=HO2.o;simpa using this),aA (HN1.o.mono fun h=>⟨h,by simp⟩)⟩
     case round =>
      clear HG2 HO2;obtain⟨s2,b2,k,hk2,rfl,rfl,HG3,HL3,HO3,HN3⟩:=hrel;by_cases hlt2:k<ls.length
      ·obtain⟨g3,o3,rfl,hg3,hc3⟩:=HO3.o.rdOf (by omega);have k3:=hc3 k hlt2;rw[L.gd_lt hlt2]at k3;obtain⟨hm0,hm1,hmD⟩:=HSi.o _ (List.getElem_mem hlt2);have HT3:Hid (ls.take (k+1)=ls.take k++[ls[k]]):=aA (List.take_succ_eq_append_getElem hlt2);clear hc3;generalize ls[k]=mz at *;obtain⟨m,rfl⟩:∃m:Nat,mz=(m:Int):=⟨mz.toNat,by omega⟩
       have hmn:m<s2.length:=by rw[HG3.o.l];omega
       have HS4:=aA (HG3.o.set hmD);have HL4:=aA (HL3.o.trans (Gm.Le.set s2 m));have HO4:=aA (HO3.o.far (aF (World.grownBy.refl wr (some gk)) m (.bool true)) (by omega))
       have HN4:=aA (HN3.o.next hmn (C':=(∀x∈rs.take i,∀m∈br s x,s.getD m.toNat false=true)/\∀m∈ls.take (k+1),s.getD m.toNat false=true) (fun hC hv=>⟨hC.1,fun q hq=>by
        rw[HT3.o]at hq;rcases List.mem_append.1 hq with h|h
        ·exact hC.2 q h
        ·obtain rfl:=List.mem_singleton.1 h
         simpa using hv⟩))
       have k4:=HG3.o.u.cell m hmn;have f4:=HG3.o.u.frozen m;have hgk:=HG3.o.u.lt;have hm2:(m:Int)<(n:Int):=hm1;clear hmD hm0 hm1;generalize s2.getD m false=bv at *;cases b2
       ·rw[Bool.false_or]at HN4;go_wp2;go_roundw
        case rel=>exact⟨s2.set m true,!bv,k+1,hlt2,rfl,by go_num,HS4,HL4,HO4,HN4⟩
        case measure=>simp[intOf];omega
       ·rw[Bool.true_or]at HN4;go_wp2;go_roundw
        case rel=>exact⟨s2.set m true,true,k+1,hlt2,rfl,by go_num,HS4,HL4,HO4,HN4⟩
        case measure=>simp[intOf];omega
      ·obtain rfl:k=ls.length:=by omega
       rw[List.take_length]at HN3;go_wp2;go_roundw
       case rel =>
        refine⟨s2,b2,i+1,hlt,rfl,by go_num,HG3,aA (HLe2.o.trans HL3.o),aA ⟨fun e=>⟨(HN3.o.1 e).1,?_⟩,HN3.o.2⟩⟩;obtain⟨e1,h1,h2⟩:=HN3.o.1 e;have e2:s1=s:=(by rw[<-e1];exact HL3.o:Gm.Le s1 s).anti HLe2.o;intro y hy;rw[HTi.o]at hy;rcases List.mem_append.1 hy with h|h
        ·exact h1 y h
        ·obtain rfl:=List.mem_singleton.1 h;intro q hq;exact h2 q (by rw[HLS.o,e2];exact hq)
       case measure=>simp[intOf];omega
    ·obtain rfl:i=rs.length:=by omega
     rw[List.take_length]at HN1;go_wp2;go_roundw
     case rel=>exact⟨s1,b1,rfl,HG1,aA fun e=>by
      obtain⟨e1,h1⟩:=HN1.o.1 e;rw[e1];exact h1⟩
     case measure =>
      have q1:=HG.o.u.cnt;have q2:=HG1.o.u.cnt;have q3:=Gm.ct_false s;have q4:=Gm.ct_false s1;have q5:=HG.o.l;have q6:=HG1.o.l;rw[q1,q2];cases b1
      ·obtain⟨e1,_⟩:=HN1.o.1 rfl;rw[e1];simp[bN]
      ·have:=HN1.o.2 rfl
       simp[bN];omega
def zh1 (s:List Bool) (w:World) (e:Ending) (w':World):Prop:=∃g,e=.returned (.slice (some ⟨g,0,none⟩) s.length s.length)/\w.heap.size<=g/\UBO w' g s/\Below w.heap.size w w'
theorem zax {w wr:World} {gk g o:Nat} {u:Value} (h:w.grownBy wr (some gk)) (hg:w.cell? ⟨g,o,none⟩=some u) (hne:g≠gk):wr.cell? ⟨g,o,none⟩=some u :=
 (World.cell?_of_block (h.block g (block_lt_of_cell hg) (fun e=>by injection e with e;exact hne e))).trans hg
theorem Gm.brL_mem {tm:Bool} {is:List Bool} {x:Gm.Rl} {m:Int} (h:m∈Gm.brL tm is x):m=x.l/\Gm.allB tm is x.r=true:=by
 unfold Gm.brL at h;split at h
 ·exact⟨List.mem_singleton.1 h,by assumption⟩
 ·simp at h
theorem Gm.brL_of {tm:Bool} {is:List Bool} {x:Gm.Rl} (h:Gm.allB tm is x.r=true):x.l∈Gm.brL tm is x:=by
 unfold Gm.brL;rw[if_pos h];exact List.mem_singleton.2 rfl
theorem Gm.brL_len (tm:Bool) (is:List Bool) (x:Gm.Rl):(Gm.brL tm is x).length<=1000000:=by
 unfold Gm.brL;split <;> simp
theorem zdQ (f:Nat) (hE:∀args w,Sem.run Tryz.prog (callFunc f args) w=.ok (.enter f args) w) (tm:Bool)
  (hf:∀(z:Int) (is:List Bool) (A:Option Addr) (c B:Nat) (y:World),Gm.In z->(z<0->-1-z<(is.length:Int))->RdO y B A is->Calls Tryz.prog f #[.int .i64 z,.slice A is.length c] y fun e w'=>e=.returned (.bool (Gm.ps tm is z))/\w'=y)
  (v:Value) (G:Gm.Gr) (B:Nat) (w:World) (hg:aT w B v G) (hfit:Gm.Fit G) (hok:Gm.Ok G) (hB:B<=w.heap.size) :
  Calls Tryz.prog 136 #[v,.func (Fn.func f) #[] #[]] w (zh1 (Gm.gn tm G.rs G.ns.length) w):=by
 obtain⟨AT,cT,AN,cN,AR,cR,rfl,_,⟨hlN,hmN⟩,_,_,_,hR⟩:=hg;have HRl:=aA hR;have HB:=aA hB;have HOK:=aA hok;have HFT:=aA hfit;have HFF:=aA hf;have HN:Hid (G.ns.length<=40):=aA (by have:=(Gm.nons_iff G).1 hok.n;omega);have HR40:Hid (G.rs.length<=40):=aA hok.r40;have hnn:=HN.o;obtain⟨w1,hw1⟩:∃y,y=(w.alloc (.cells #[.slice AT G.ts.length cT,.slice AN G.ns.length cN,.slice AR G.rs.length cR,.int .i64 G.st] 26)).alloc (.cells #[.func (Fn.func f) #[] #[]] 203):=⟨_,rfl⟩
 have hs1:w1.heap.size=w.heap.size+2:=by rw[hw1];simp
 have HB1:Hid (Below w.heap.size w w1):=aA (by rw[hw1];exact((Below.refl _ w).alloc (Nat.le_refl _) _).alloc (by simp) _);have x0:w1.heap[w.heap.size]?=some (.cells #[.slice AT G.ts.length cT,.slice AN G.ns.length cN,.slice AR G.rs.length cR,.int .i64 G.st] 26 (0,0)):=by rw[hw1,Below.heap_alloc _ _ _ (by simp)];exact heap_alloc_new w _
 have x1:w1.heap[w.heap.size+1]?=some (.cells #[.func (Fn.func f) #[] #[]] 203 (0,0)):=by rw[hw1];have:=heap_alloc_new (w.alloc (.cells #[.slice AT G.ts.length cT,.slice AN G.ns.length cN,.slice AR G.rs.length cR,.int .i64 G.st] 26)) (.cells #[.func (Fn.func f) #[] #[]] 203);simpa using this
 have c1:w1.cell? ⟨w.heap.size,1,none⟩=some (.slice AN G.ns.length cN):=by rw[cell_of_row w1 _ 1 _ _ _ x0];rfl
 have c2:w1.cell? ⟨w.heap.size,2,none⟩=some (.slice AR G.rs.length cR):=by rw[cell_of_row w1 _ 2 _ _ _ x0];rfl
 have cf:w1.cell? ⟨w.heap.size+1,0,none⟩=some (.func (Fn.func f) #[] #[]):=by rw[cell_of_row w1 _ 0 _ _ _ x1];rfl
 have HC2:=aA c2;have HCF:=aA cf;have HS1:=aA hs1;have hd0:w.heap.size<w1.heap.size:=by omega
 have hlen:(G.ns.length:Int)<=9223372036854775807:=by omega
 clear hR hB hok hfit hf x0 x1 c2 cf hs1
 go_enter Tryz.func136,Tryz.ntmps136
 go_upto_region 1 with fail
 rw[<-hw1];clear hw1;go_upto_region 2 with(at_make;refine zc0 rfl (.tmp 8) (.tmp 8) _ rfl Tryz.underlying43 G.ns.length _ _ rfl rfl rfl rfl (by omega) ?_;intro w2 hu2 hb2 hlt2)
 have x3:=heap_alloc_new w2 (.cells #[.slice (some ⟨w1.heap.size,0,none⟩) G.ns.length G.ns.length] 43);have hu3:=hu2.alloc (.cells #[.slice (some ⟨w1.heap.size,0,none⟩) G.ns.length G.ns.length] 43);have hb3:Below w1.heap.size w1 (w2.alloc (.cells #[.slice (some ⟨w1.heap.size,0,none⟩) G.ns.length G.ns.length] 43)):=hb2.alloc hb2.size _;obtain⟨w3,hw3⟩:∃y,y=w2.alloc (.cells #[.slice (some ⟨w1.heap.size,0,none⟩) G.ns.length G.ns.length] 43):=⟨_,rfl⟩
 rw[<-hw3]at x3 hu3 hb3 ⊢;have hs3:w2.heap.size<w3.heap.size:=by rw[hw3];simp
 have c2:=(hb3.cell (p:=⟨w.heap.size,2,none⟩) (by simp only;omega)).trans HC2.o;have cf:=(hb3.cell (p:=⟨w.heap.size+1,0,none⟩) (by have:=HS1.o;simp only;omega)).trans HCF.o;have ck:w3.cell? ⟨w2.heap.size,0,none⟩=some (.slice (some ⟨w1.heap.size,0,none⟩) G.ns.length G.ns.length):=by rw[cell_of_row w3 _ 0 _ _ _ x3];rfl
 have hd3:w.heap.size<w3.heap.size:=by omega
 have hW3:Below w.heap.size w w3:=HB1.o.trans (hb3.mono (by have:=HS1.o;omega));have hR3:zd8 w3 B AR G.rs:=HRl.o.keep fun g o hg=>hW3.cell (p:=⟨g,o,none⟩) (Nat.lt_of_lt_of_le hg HB.o)
 have HGR:=aA (ze9 162 (w.heap.size+1) w2.heap.size (za7 Tryz.func162 (by kernel_rfl) (by kernel_rfl)) G.rs AR cR G.ns.length B w1.heap.size G.ns.length w3 (List.replicate G.ns.length false) (Gm.Gn tm G.rs) (Gm.brL tm)
  hR3 (Nat.le_trans HB.o hW3.size) (by have:=HB.o;omega) hu3 (by simp) (Gm.Snd.none tm G.rs _) (by have:=HR40.o;omega)
  (fun y s x A' c' hgr hu hl hx hr=>by
   have e:=HFT.o.r x hx;have q2:=zax hgr ck (by omega);rw[<-hl]at q2
   exact zfO f hE tm x s A' (some ⟨w1.heap.size,0,none⟩) c' s.length B (w.heap.size+1) w2.heap.size y
    (fun z y' hy hz=>HFF.o z s _ _ y'.heap.size y' (e.2.2 z hz) (fun h=>by rw[hl];exact HOK.o.sin x hx z hz h) ((hu.below hy hu.lt).rd0 (by have:=hy.size;have:=hu.lt;omega)))
    (zax hgr cf (by have:=HS1.o;omega)) q2 hr (Nat.le_trans HB.o (Nat.le_trans hW3.size hgr.size)) (by have:=(Gm.rule_in (HOK.o.rr x hx)).1;omega))
  (fun s x hx hl hd m hm=>by
   obtain⟨rfl,ha⟩:=Gm.brL_mem hm;have h1:=HOK.o.lin x hx;exact⟨h1.1,h1.2,Gm.Gn.of hx (Gm.Snd.all hd ha)⟩)
  (fun s x _=>Gm.brL_len tm s x))
 have HCK:=aA ck;have HX3:=aA (fun(y:World) (h:w3.grownBy y (some w1.heap.size))=>zax h ck (by omega));have HW3:=aA hW3;have HFIN:Hid (∀(y:World) (s:List Bool),Grw w3 y w1.heap.size G.ns.length (Gm.Gn tm G.rs) (List.replicate G.ns.length false) s->(∀x∈G.rs,∀m∈Gm.brL tm s x,s.getD m.toNat false=true)->s=Gm.gn tm G.rs G.ns.length/\Below w.heap.size w y):=aA (fun y s hg hc=>⟨Gm.gn_row hg.l hg.d (fun x hx ha=>hc x hx _ (Gm.brL_of ha)),zaa HW3.o hg.g (by have:=HS1.o;omega) HW3.o.size⟩);have hl2:w2.heap.size<w3.heap.size:=hs3;clear hu3 hb3 x3 hR3 hW3 cf c1 hu2 hb2 hs3 hw3;go_wp2_with fail
 refine HGR.o.mono ?_;rintro _ w4 ⟨rfl,s,hg4,hc4⟩;obtain⟨e4,hb4⟩:=HFIN.o w4 s hg4 hc4;have ck4:=HX3.o w4 hg4.g;have hu4:=aA hg4.u;have HB4:=aA hb4;have hl4:w2.heap.size<w4.heap.size:=block_lt_of_cell ck4;clear hg4 hc4 hb4 HGR HFIN HX3;go_wp2;go_ret
 subst e4;exact⟨w1.heap.size,by rw[Gm.gn_len];rfl,by omega,hu4.o,HB4.o⟩
def zkE (b:Bool) (s:List Bool) (w:World) (e:Ending) (w':World):Prop:=(b=true->zh1 s w e w')/\(b=false->e=.returned (.slice none 0 0)/\Below w.heap.size w w')
theorem zkE.rd {b:Bool} {s:List Bool} {w w':World} {e:Ending} (h:zkE b s w e w'):∃A c,e=.returned (.slice A (if b=true then s else []).length c)/\RdO w' w'.heap.size A (if b=true then s else [])/\Below w.heap.size w w':=by
 cases b
 ·obtain⟨h1,h2⟩:=h.2 rfl;exact⟨none,0,h1,RdO.nil _ _ _,h2⟩
 ·obtain⟨g,h1,h2,h3,h4⟩:=h.1 rfl;exact⟨some ⟨g,0,none⟩,s.length,h1,h3.rd0 h3.lt,h4⟩
theorem zdJ (v:Value) (G:Gm.Gr) (B:Nat) (w:World) (hg:aT w B v G) (hf:Gm.Fit G) (hB:B<=w.heap.size) :
  Calls Tryz.prog 151 #[v] w (zkE (Gm.right G) (Gm.gn false G.rs G.ns.length) w):=by
 have H1:=aA (fun(x:World) (h:Below w.heap.size w x)=>zaK v G B x (hg.below h hB) hf (Nat.le_trans hB h.size));have H2:=aA (fun(q:Gm.right G=true) (x:World) (h:Below w.heap.size w x)=>zdQ 176 (za7 Tryz.func176 (by kernel_rfl) (by kernel_rfl)) false (fun z is A c B y h1 h2 h3=>zgX z is A c B y h1 h2 h3) v G B x (hg.below h hB) hf (Gm.right_ok.1 q) (Nat.le_trans hB h.size));obtain⟨AT,cT,AN,cN,AR,cR,rfl,_⟩:=hg;have HS0:=aA (One.start w #[.slice AT G.ts.length cT,.slice AN G.ns.length cN,.slice AR G.rs.length cR,.int .i64 G.st]);clear hf;cases q:Gm.right G
 ·rw[q]at H1;clear q H2
  go_enter Tryz.func151,Tryz.ntmps151
  go_wp2_with fail
  refine(H1.o _ HS0.o.below).mono ?_;rintro _ w2 ⟨rfl,hb⟩;have HB2:=aA (HS0.o.on hb);clear hb;go_wp2;go_ret
  exact⟨fun h=>by simp at h,fun _=>⟨rfl,HB2.o.below⟩⟩
 ·have H2:=aA (H2.o q);rw[q]at H1;clear q
  go_enter Tryz.func151,Tryz.ntmps151
  go_wp2_with fail
  refine(H1.o _ HS0.o.below).mono ?_;rintro _ w2 ⟨rfl,hb⟩;have HB2:=aA (HS0.o.on hb);have q0:=HB2.o.c 0 _ rfl;have q1:=HB2.o.c 1 _ rfl;have q2:=HB2.o.c 2 _ rfl;have q3:=HB2.o.c 3 _ rfl;have hz2:w.heap.size<w2.heap.size:=HB2.o.size;clear hb;go_wp2_with fail
  refine(H2.o _ HB2.o.below).mono ?_;rintro _ w3 ⟨g,rfl,hg1,hu,hb3⟩;have HU:=aA hu;have HG1:=aA hg1;have HB3:=aA (HB2.o.on hb3);clear hu hb3 hg1;go_wp2;go_ret
  exact⟨fun _=>⟨g,rfl,by have:=HG1.o;omega,HU.o,HB3.o.below⟩,fun h=>by simp at h⟩
theorem zaH (v:Value) (G:Gm.Gr) (B:Nat) (w:World) (hg:aT w B v G) (hf:Gm.Fit G) (hB:B<=w.heap.size) :
  Calls Tryz.prog 97 #[v] w (zkE (Gm.right G) (Gm.gn true G.rs G.ns.length) w):=by
 have H1:=aA (fun(x:World) (h:Below w.heap.size w x)=>zaK v G B x (hg.below h hB) hf (Nat.le_trans hB h.size));have H2:=aA (fun(q:Gm.right G=true) (x:World) (h:Below w.heap.size w x)=>zdQ 137 (za7 Tryz.func137 (by kernel_rfl) (by kernel_rfl)) true (fun z is A c B y h1 h2 h3=>zgW z is A c B y h1 h2 h3) v G B x (hg.below h hB) hf (Gm.right_ok.1 q) (Nat.le_trans hB h.size));obtain⟨AT,cT,AN,cN,AR,cR,rfl,_⟩:=hg;have HS0:=aA (One.start w #[.slice AT G.ts.length cT,.slice AN G.ns.length cN,.slice AR G.rs.length cR,.int .i64 G.st]);clear hf;cases q:Gm.right G
 ·rw[q]at H1;clear q H2
  go_enter Tryz.func97,Tryz.ntmps97
  go_wp2_with fail
  refine(H1.o _ HS0.o.below).mono ?_;rintro _ w2 ⟨rfl,hb⟩;have HB2:=aA (HS0.o.on hb);clear hb;go_wp2;go_ret
  exact⟨fun h=>by simp at h,fun _=>⟨rfl,HB2.o.below⟩⟩
 ·have H2:=aA (H2.o q);rw[q]at H1;clear q
  go_enter Tryz.func97,Tryz.ntmps97
  go_wp2_with fail
  refine(H1.o _ HS0.o.below).mono ?_;rintro _ w2 ⟨rfl,hb⟩;have HB2:=aA (HS0.o.on hb);have q0:=HB2.o.c 0 _ rfl;have q1:=HB2.o.c 1 _ rfl;have q2:=HB2.o.c 2 _ rfl;have q3:=HB2.o.c 3 _ rfl;have hz2:w.heap.size<w2.heap.size:=HB2.o.size;clear hb;go_wp2_with fail
  refine(H2.o _ HB2.o.below).mono ?_;rintro _ w3 ⟨g,rfl,hg1,hu,hb3⟩;have HU:=aA hu;have HG1:=aA hg1;have HB3:=aA (HB2.o.on hb3);clear hu hb3 hg1;go_wp2;go_ret
  exact⟨fun _=>⟨g,rfl,by have:=HG1.o;omega,HU.o,HB3.o.below⟩,fun h=>by simp at h⟩
end Go.Proofs.YtcmhaemaophplaaGreat
namespace Go.CalmN
open Go.RowKit
section
variable {P:Program} {ops:Array Oper} {Q:Exit->Act->World->Prop} {md:Region.Mode}
def plainB:Op->Bool
 | .move _ | .assign _ | .pick .. | .load .. | .convert .. | .binOp .. | .unOp .. | .slice .. | .fieldAddr .. | .field .. | .indexAddr .. | .index .. | .extract .. | .build .. | .nilCheck _ | .lookup ..=>true
 | .call c=>match c.callee with
  | .builtin .len | .builtin .cap=>true
  | _=>false
 | _=>false
theorem value_of {s:Sem Value} {w w':World} {n:Next} (h:((do pure (.value (<-s))):Sem Next).run P w=.ok n w'):∃u,n=.value u:=by
 rw[Sem.run_bind]at h;cases hs:s.run P w with
 | ok v w1=>rw[hs]at h;simp[Result.andThen,Sem.run_pure]at h;exact⟨v,h.1.symm⟩
 | halt x w1=>rw[hs]at h;simp[Result.andThen]at h
theorem zbL {α:Type} {w w':World} {n:α} (h:(runtimePanic .nilDeref:Sem α).run P w=.ok n w'):False:=by
 simp[runtimePanic,Result.andThen]at h
theorem plain_value {o:Oper} (hp:plainB o.op=true) {a:Act} {w w':World} {n:Next} (h:(execOp a.eval o).run P w=.ok n w'):∃u,n=.value u:=by
 obtain⟨dst,op,type,pos,after,guard⟩:=o;cases op with
 | call c =>
  obtain⟨callee,args,ats⟩:=c;cases callee with
  | builtin b =>
   cases b with
   | len=>exact value_of (s:=Builtin.len_ ats type (args.map a.eval)) h
   | cap=>exact value_of (s:=Builtin.cap_ ats type (args.map a.eval)) h
   | _=>exact absurd hp (by simp[plainB])
  | invoke recv name=>exact absurd hp (by simp[plainB])
  | value f=>exact absurd hp (by simp[plainB])
 | move x=>simp[execOp,Sem.run_pure]at h;exact⟨_,h.1.symm⟩
 | assign x=>simp[execOp,Sem.run_pure]at h;exact⟨_,h.1.symm⟩
 | pick c x y =>
  simp only[execOp,Sem.run_bind]at h;cases hs:(asBool (a.eval c)).run P w with
  | ok v w1=>rw[hs]at h;simp[Result.andThen,Sem.run_pure]at h;exact⟨_,h.1.symm⟩
  | halt x w1=>rw[hs]at h;simp[Result.andThen]at h
 | nilCheck x =>
  simp only[execOp]at h;split at h
  ·exact(zbL h).elim
  ·exact(zbL h).elim
  ·exact(zbL h).elim
  ·split at h
   ·exact(zbL h).elim
   ·simp only[Sem.run_bind]at h;generalize (program:Sem Program).run P w=r1 at h;cases r1 with
    | halt x w1=>simp[Result.andThen]at h
    | ok pr w1 =>
     simp only[Result.andThen_ok]at h
     revert h
     generalize (nilAhead _ _ _ _).run P w1=r2;intro h;cases r2 with
     | halt x w1=>simp[Result.andThen]at h
     | ok b w2 =>
      simp only[Result.andThen_ok]at h;split at h
      ·simp[Result.andThen]at h
      ·simp[Sem.run_pure]at h;exact⟨_,h.1.symm⟩
   ·simp[Sem.run_pure]at h;exact⟨_,h.1.symm⟩
  ·simp[Sem.run_pure]at h;exact⟨_,h.1.symm⟩
 | _=>first
  | (simp[plainB]at hp;done)
  | exact value_of h
theorem yieldsIf_of {S:World->Prop} {o:Oper} {a:Act} {v:Value} (hp:plainB o.op=true) (hw:Region.wanted o (yielded ops a.tmps)=true) (h:∀w,S w->o.quietAt P a S w v):YieldsIf P ops S o v a:=by
 refine .inl ⟨hw,fun w hS=>?_⟩;have h1:=h w hS;unfold Oper.quietAt at h1;cases hr:(execOp a.eval o).run P w with
 | ok n w' =>
  obtain⟨u,rfl⟩:=plain_value hp hr;rw[hr]at h1;simp only[Oper.quietUpon]at h1;rw[h1.1,h1.2]
 | halt x w'=>rw[hr]at h1;simp[Oper.quietUpon]at h1
def pickOps (ops:Array Oper):List Nat->List Oper
 | []=>[]
 | i::r=>match ops[i]? with
  | some o=>o::pickOps ops r
  | none=>pickOps ops r
def marked:List Nat->Array Bool->Array Bool
 | [],l=>l
 | i::r,l=>marked r (l.setIfInBounds i true)
def stillB (md:Region.Mode) (ops:Array Oper):List Nat->Array Bool->Bool
 | [],_=>true
 | i::r,l=>(match ops[i]? with|some o=>plainB o.op|none=>false)&&Region.free md ops l i&&(Region.ready md ops l).contains i&&stillB md ops r (l.setIfInBounds i true)
theorem anyH_mono {S S':World->Prop} (h:∀x,S' x->S x):∀(fuel:Nat) (listed:Array Bool) (a:Act) (w:World),wpAnyH P md ops Q S' fuel listed a w->wpAnyH P md ops Q S fuel listed a w
 | 0,_,_,_,k=>k
 | fuel+1,_,_,_,k=>⟨k.1,fun i hi=>wpOp_mono (fun a w hk=>⟨h _ hk.1,anyH_mono h fuel _ a w hk.2⟩) (k.2 i hi)⟩
theorem still_block {S:World->Prop} (hs:Region.noSelect ops=true) (hQ:∀c a d v w,Q (.panic c) (a.put d v) w->Q (.panic c) a w) {w:World} (hS:S w) (fuel:Nat) :
  ∀(p:List Nat) (listed:Array Bool) (a:Act),stillB md ops p listed=true ->
   wpQuiet P ops S (fun a'=>wpAnyH P md ops Q S fuel (marked p listed) a' w) (pickOps ops p) a->wpAnyH P md ops Q S (p.length+fuel) listed a w
 | [],_,_,_,h=>by rw[List.length_nil,Nat.zero_add];exact h
 | i::r,listed,a,hb,h=>by
  unfold stillB at hb;cases ho:ops[i]? with
  | none=>rw[ho]at hb;simp at hb
  | some o =>
   rw[ho]at hb;simp only[Bool.and_eq_true]at hb;obtain⟨⟨⟨hp,hf⟩,hr⟩,hrest⟩:=hb;have hl:pickOps ops (i::r)=o::pickOps ops r:=by simp only[pickOps,ho]
   rw[hl]at h;rw[show(i::r).length+fuel=(r.length+fuel)+1 by rw[List.length_cons];omega];unfold wpQuiet at h;by_cases hw:Region.wanted o (yielded ops a.tmps)=true
   ·rw[if_pos hw]at h;obtain⟨v,h1,h2⟩:=h;exact wpAnyH_take ho hs hf hr (fun c a w=>hQ c a o.dst v w) (yieldsIf_of hp hw h1) hS (still_block hs hQ hS fuel r _ _ hrest h2)
   ·rw[if_neg hw]at h;exact wpAnyH_take ho hs hf hr (fun c a w=>hQ c a o.dst undef w) (.inr ⟨by simpa using hw,rfl⟩) hS (still_block hs hQ hS fuel r _ _ hrest h)
end
section
variable {P:Program} {ops:Array Oper} {Q:Exit->Act->World->Prop} {md:Region.Mode}
inductive Ph where
 | fin (last:List Nat)
 | one (p:List Nat) (k:Nat) (t:Ph)
 | two (p:List Nat) (k:Nat) (t:Ph) (k2:Nat) (t2:Ph)
def wpSt (P:Program) (ops:Array Oper) (Q:Exit->Act->World->Prop) (o:Option Oper) (S:World->Prop) (T:(World->Prop)->Act->World->Prop) (a:Act) (w:World):Prop :=
 match o with
 | none=>True
 | some o=>∀K:Act->World->Prop,(∀a2 w2,S w2->∀S':World->Prop,(∀x,S' x->S x)->S' w2->T S' a2 w2->K a2 w2) ->
   if Region.wanted o (yielded ops a.tmps)=true then Oper.wp P o a w K Q else K (a.put o.dst undef) w
def wpT (P:Program) (ops:Array Oper) (Q:Exit->Act->World->Prop):Ph->(World->Prop)->Act->World->Prop
 | .fin last,S,a,w=>wpQuiet P ops S (fun a'=>Q .normal a' w) (pickOps ops last) a
 | .one p k t,S,a,w=>wpQuiet P ops S (fun a'=>wpSt P ops Q ops[k]? S (fun S' a2 w2=>wpT P ops Q t S' a2 w2) a' w) (pickOps ops p) a
 | .two p k t k2 t2,S,a,w=>wpQuiet P ops S (fun a'=>wpSt P ops Q ops[k]? S (fun S' a2 w2=>wpT P ops Q t S' a2 w2) a' w/\wpSt P ops Q ops[k2]? S (fun S' a2 w2=>wpT P ops Q t2 S' a2 w2) a' w) (pickOps ops p) a
def tB (md:Region.Mode) (ops:Array Oper):Ph->Array Bool->Nat->Bool
 | .fin last,l,n=>stillB md ops last l&&(Region.ready md ops (marked last l)).isEmpty&&(last.length==n)
 | .one p k t,l,n=>stillB md ops p l&&(match Region.ready md ops (marked p l) with | [j]=>j==k|_=>false)&&(ops[k]?).isSome&&decide (p.length+1<=n)&&tB md ops t ((marked p l).setIfInBounds k true) (n-(p.length+1))
 | .two p k t k2 t2,l,n=>stillB md ops p l&&(match Region.ready md ops (marked p l) with | [j,j2]=>j==k&&j2==k2|_=>false)&&(ops[k]?).isSome&&(ops[k2]?).isSome&&decide (p.length+1<=n)&&tB md ops t ((marked p l).setIfInBounds k true) (n-(p.length+1))&&tB md ops t2 ((marked p l).setIfInBounds k2 true) (n-(p.length+1))
theorem quiet_mono {S:World->Prop} {Q1 Q2:Act->Prop} (h:∀a,Q1 a->Q2 a):∀ {l:List Oper} {a:Act},wpQuiet P ops S Q1 l a->wpQuiet P ops S Q2 l a
 | [],_,k=>h _ k
 | o::r,a,k=>by
  unfold wpQuiet at k ⊢;split
  ·rename_i hw;rw[if_pos hw]at k;obtain⟨v,h1,h2⟩:=k;exact⟨v,h1,quiet_mono h h2⟩
  ·rename_i hw;rw[if_neg hw]at k;exact quiet_mono h k
theorem any_of_t (hs:Region.noSelect ops=true) (hQ:∀c a d v w,Q (.panic c) (a.put d v) w->Q (.panic c) a w) :
  ∀(t:Ph) (S:World->Prop) (listed:Array Bool) (a:Act) (w:World) (n:Nat),tB md ops t listed n=true->S w->wpT P ops Q t S a w->wpAnyH P md ops Q S n listed a w
 | .fin last,S,listed,a,w,n,hb,hS,h=>by
  unfold tB at hb;simp only[Bool.and_eq_true,List.isEmpty_iff,beq_iff_eq]at hb;obtain⟨⟨h1,h2⟩,rfl⟩:=hb;have e:last.length=last.length+0:=rfl;rw[e];refine still_block hs hQ hS 0 last listed a h1 ?_;exact quiet_mono (fun a' hq=>wpAnyH_done h2 hq 0) h
 | .one p k t,S,listed,a,w,n,hb,hS,h=>by
  unfold tB at hb;simp only[Bool.and_eq_true,decide_eq_true_iff]at hb;obtain⟨⟨⟨⟨h1,h2⟩,h3⟩,h5⟩,h4⟩:=hb;obtain⟨o,ho⟩:=Option.isSome_iff_exists.1 h3
  have hrd:Region.ready md ops (marked p listed)=[k]:=by
   split at h2
   ·rename_i j hj;rw[hj];rw[beq_iff_eq]at h2;rw[h2]
   ·cases h2
  obtain⟨m,rfl⟩:∃m,n=p.length+(m+1):=⟨n-(p.length+1),by omega⟩
  rw[show p.length+(m+1)-(p.length+1)=m by omega]at h4;refine still_block hs hQ hS _ p listed a h1 ?_;unfold wpT at h;refine quiet_mono (fun a' hq=>?_) h;refine wpAnyH_all hrd (by simp) fun i hi=>?_;rw[List.mem_singleton]at hi;subst hi;refine wpOp_step ho fun K' hK=>?_;rw[ho]at hq;refine hq K' fun a2 w2 h6 S' hS' hS2 h7=>hK _ _ ⟨h6,?_⟩;exact anyH_mono hS' _ _ _ _ (any_of_t hs hQ t S' _ a2 w2 _ h4 hS2 h7)
 | .two p k t k2 t2,S,listed,a,w,n,hb,hS,h=>by
  unfold tB at hb;simp only[Bool.and_eq_true,decide_eq_true_iff]at hb;obtain⟨⟨⟨⟨⟨⟨h1,h2⟩,h3⟩,h32⟩,h5⟩,h4⟩,h42⟩:=hb;obtain⟨o,ho⟩:=Option.isSome_iff_exists.1 h3;obtain⟨o2,ho2⟩:=Option.isSome_iff_exists.1 h32
  have hrd:Region.ready md ops (marked p listed)=[k,k2]:=by
   split at h2
   ·rename_i j j2 hj;rw[hj];simp only[Bool.and_eq_true,beq_iff_eq]at h2;rw[h2.1,h2.2]
   ·cases h2
  obtain⟨m,rfl⟩:∃m,n=p.length+(m+1):=⟨n-(p.length+1),by omega⟩
  rw[show p.length+(m+1)-(p.length+1)=m by omega]at h4 h42;refine still_block hs hQ hS _ p listed a h1 ?_;unfold wpT at h;refine quiet_mono (fun a' hq=>?_) h;refine wpAnyH_all hrd (by simp) fun i hi=>?_;rw[ho,ho2]at hq;rcases List.mem_cons.1 hi with rfl|hi
  ·refine wpOp_step ho fun K' hK=>?_;refine hq.1 K' fun a2 w2 h6 S' hS' hS2 h7=>hK _ _ ⟨h6,?_⟩;exact anyH_mono hS' _ _ _ _ (any_of_t hs hQ t S' _ a2 w2 _ h4 hS2 h7)
  ·rw[List.mem_singleton]at hi;subst hi;refine wpOp_step ho2 fun K' hK=>?_;refine hq.2 K' fun a2 w2 h6 S' hS' hS2 h7=>hK _ _ ⟨h6,?_⟩;exact anyH_mono hS' _ _ _ _ (any_of_t hs hQ t2 S' _ a2 w2 _ h42 hS2 h7)
theorem region_tree {id:Nat} {a:Act} {w:World} {l:List Oper} (S:World->Prop) (t:Ph) (hm:P.follows .mixedOrders=true)
  (hB:(Region.noSelect l.toArray&&tB .any l.toArray t (Array.replicate l.toArray.size false) l.toArray.size)=true)
  (hQ:∀c a d v w,Q (.panic c) (a.put d v) w->Q (.panic c) a w) (hS:S w.drew)
  (h:wpT P l.toArray Q t S a w.drew):(Code.region id l.toArray true).wp P Q a w:=by
 simp only[Bool.and_eq_true]at hB;refine wp_region_held (S:=S) hm ?_;exact any_of_t hB.1 hQ t S _ a w.drew _ hB.2 hS h
end
end Go.CalmN
namespace Go.CalmN
open Go.RowKit
section
variable {P:Program} {ops:Array Oper} {Q:Exit->Act->World->Prop} {md:Region.Mode}
def chB (md:Region.Mode) (ops:Array Oper) (t:Ph):Nat->List Nat->Array Bool->Nat->Bool
 | 0,todo,l,n=>todo.isEmpty&&tB md ops t l n
 | f+1,todo,l,n=>(Region.ready md ops l==todo) && !todo.isEmpty&&decide (1<=n)&&todo.all fun k=>(ops[k]?).isSome&&chB md ops t f (todo.erase k) (l.setIfInBounds k true) (n-1)
theorem zcJ (hs:Region.noSelect ops=true) (hQ:∀c a d v w,Q (.panic c) (a.put d v) w->Q (.panic c) a w) {S:World->Prop} {t:Ph} {J:List Nat->Act->World->Prop}
  (hstep:∀todo k a w,k∈todo->J todo a w->S w->wpSt P ops Q ops[k]? S (fun _ a2 w2=>J (todo.erase k) a2 w2) a w)
  (hend:∀a w,J [] a w->S w->wpT P ops Q t S a w) :
  ∀(f:Nat) (todo:List Nat) (listed:Array Bool) (a:Act) (w:World) (n:Nat),chB md ops t f todo listed n=true->S w->J todo a w->wpAnyH P md ops Q S n listed a w
 | 0,todo,listed,a,w,n,hb,hS,h=>by
  unfold chB at hb;simp only[Bool.and_eq_true,List.isEmpty_iff]at hb;obtain⟨rfl,h2⟩:=hb;exact any_of_t hs hQ t S listed a w n h2 hS (hend a w h hS)
 | f+1,todo,listed,a,w,n,hb,hS,h=>by
  unfold chB at hb;simp only[Bool.and_eq_true,decide_eq_true_iff,beq_iff_eq,List.all_eq_true,Bool.not_eq_true',List.isEmpty_eq_false_iff]at hb;obtain⟨⟨⟨h1,h2⟩,h3⟩,h4⟩:=hb;obtain⟨m,rfl⟩:∃m,n=m+1:=⟨n-1,by omega⟩
  refine wpAnyH_all h1 h2 fun i hi=>?_;obtain⟨h5,h6⟩:=h4 i hi;obtain⟨o,ho⟩:=Option.isSome_iff_exists.1 h5;have hq:=hstep todo i a w hi h hS;rw[ho]at hq;refine wpOp_step ho fun K' hK=>?_;refine hq K' fun a2 w2 h7 S' hS' hS2 h8=>hK _ _ ⟨h7,?_⟩;exact zcJ hs hQ hstep hend f _ _ a2 w2 _ h6 h7 h8
theorem region_all {id:Nat} {a:Act} {w:World} {l:List Oper} (S:World->Prop) (p ks:List Nat) (t:Ph) (J:List Nat->Act->World->Prop) (hm:P.follows .mixedOrders=true)
  (hB:(Region.noSelect l.toArray&&stillB .any l.toArray p (Array.replicate l.toArray.size false)&&decide (p.length<=l.toArray.size)&&chB .any l.toArray t ks.length ks (marked p (Array.replicate l.toArray.size false)) (l.toArray.size-p.length))=true)
  (hQ:∀c a d v w,Q (.panic c) (a.put d v) w->Q (.panic c) a w) (hS:S w.drew)
  (h0:wpQuiet P l.toArray S (fun a'=>J ks a' w.drew) (pickOps l.toArray p) a)
  (hstep:∀todo k a w,k∈todo->J todo a w->S w->wpSt P l.toArray Q l.toArray[k]? S (fun _ a2 w2=>J (todo.erase k) a2 w2) a w)
  (hend:∀a w,J [] a w->S w->wpT P l.toArray Q t S a w):(Code.region id l.toArray true).wp P Q a w:=by
 simp only[Bool.and_eq_true,decide_eq_true_iff]at hB;obtain⟨⟨⟨h1,h2⟩,h3⟩,h4⟩:=hB;refine wp_region_held (S:=S) hm ?_;have e:l.toArray.size=p.length+(l.toArray.size-p.length):=by omega
 rw[show wpAnyH P .any l.toArray Q S l.toArray.size=wpAnyH P .any l.toArray Q S (p.length+(l.toArray.size-p.length)) by rw[<-e]];refine still_block h1 hQ hS _ p _ a h2 ?_;exact quiet_mono (fun a' hj=>zcJ h1 hQ hstep hend _ ks _ a' _ _ h4 hS hj) h0
def chD (md:Region.Mode) (ops:Array Oper) (t:Ph) (dep:List (Nat×Nat)):Nat->List Nat->Array Bool->Nat->Bool
 | 0,todo,l,n=>todo.isEmpty&&tB md ops t l n
 | f+1,todo,l,n=>!(Region.ready md ops l).isEmpty&&decide (1<=n)&&(Region.ready md ops l).all fun k=>todo.contains k&&dep.all (fun d=>!(d.1==k) || !todo.contains d.2)&&(ops[k]?).isSome&&chD md ops t dep f (todo.erase k) (l.setIfInBounds k true) (n-1)
theorem zcI (hs:Region.noSelect ops=true) (hQ:∀c a d v w,Q (.panic c) (a.put d v) w->Q (.panic c) a w) {S:World->Prop} {t:Ph} {dep:List (Nat×Nat)} {J:List Nat->Act->World->Prop}
  (hstep:∀todo k a w,k∈todo->(∀d∈dep,d.1=k->d.2 ∉ todo)->J todo a w->S w->wpSt P ops Q ops[k]? S (fun _ a2 w2=>J (todo.erase k) a2 w2) a w)
  (hend:∀a w,J [] a w->S w->wpT P ops Q t S a w) :
  ∀(f:Nat) (todo:List Nat) (listed:Array Bool) (a:Act) (w:World) (n:Nat),chD md ops t dep f todo listed n=true->S w->J todo a w->wpAnyH P md ops Q S n listed a w
 | 0,todo,listed,a,w,n,hb,hS,h=>by
  unfold chD at hb;simp only[Bool.and_eq_true,List.isEmpty_iff]at hb;obtain⟨rfl,h2⟩:=hb;exact any_of_t hs hQ t S listed a w n h2 hS (hend a w h hS)
 | f+1,todo,listed,a,w,n,hb,hS,h=>by
  unfold chD at hb;simp only[Bool.and_eq_true,decide_eq_true_iff,List.all_eq_true,Bool.not_eq_true',List.isEmpty_eq_false_iff]at hb;obtain⟨⟨h2,h3⟩,h4⟩:=hb;obtain⟨m,rfl⟩:∃m,n=m+1:=⟨n-1,by omega⟩
  refine wpAnyH_all rfl h2 fun i hi=>?_;obtain⟨⟨⟨h5,h6⟩,h7⟩,h8⟩:=h4 i hi;obtain⟨o,ho⟩:=Option.isSome_iff_exists.1 h7
  have hq:=hstep todo i a w (by simpa using h5) (fun d hd e=>by
   have:=h6 d hd
   subst e
   simpa using this) h hS
  rw[ho]at hq;refine wpOp_step ho fun K' hK=>?_;refine hq K' fun a2 w2 h9 S' hS' hS2 h10=>hK _ _ ⟨h9,?_⟩;exact zcI hs hQ hstep hend f _ _ a2 w2 _ h8 h9 h10
theorem region_dep {id:Nat} {a:Act} {w:World} {l:List Oper} (S:World->Prop) (p ks:List Nat) (dep:List (Nat×Nat)) (t:Ph) (J:List Nat->Act->World->Prop) (hm:P.follows .mixedOrders=true)
  (hB:(Region.noSelect l.toArray&&stillB .any l.toArray p (Array.replicate l.toArray.size false)&&decide (p.length<=l.toArray.size)&&chD .any l.toArray t dep ks.length ks (marked p (Array.replicate l.toArray.size false)) (l.toArray.size-p.length))=true)
  (hQ:∀c a d v w,Q (.panic c) (a.put d v) w->Q (.panic c) a w) (hS:S w.drew)
  (h0:wpQuiet P l.toArray S (fun a'=>J ks a' w.drew) (pickOps l.toArray p) a)
  (hstep:∀todo k a w,k∈todo->(∀d∈dep,d.1=k->d.2 ∉ todo)->J todo a w->S w->wpSt P l.toArray Q l.toArray[k]? S (fun _ a2 w2=>J (todo.erase k) a2 w2) a w)
  (hend:∀a w,J [] a w->S w->wpT P l.toArray Q t S a w):(Code.region id l.toArray true).wp P Q a w:=by
 simp only[Bool.and_eq_true,decide_eq_true_iff]at hB;obtain⟨⟨⟨h1,h2⟩,h3⟩,h4⟩:=hB;refine wp_region_held (S:=S) hm ?_;have e:l.toArray.size=p.length+(l.toArray.size-p.length):=by omega
 rw[show wpAnyH P .any l.toArray Q S l.toArray.size=wpAnyH P .any l.toArray Q S (p.length+(l.toArray.size-p.length)) by rw[<-e]];refine still_block h1 hQ hS _ p _ a h2 ?_;exact quiet_mono (fun a' hj=>zcI h1 hQ hstep hend _ ks _ a' _ _ h4 hS hj) h0
end
end Go.CalmN
