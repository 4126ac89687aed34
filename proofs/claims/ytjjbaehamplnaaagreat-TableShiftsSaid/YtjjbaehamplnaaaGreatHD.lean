/- Part of the proofs over this program: LookL, FirstN, FirstP, LookR, CycleL, MapX, AutoP, AutoQ, AutoC, LookW, LookX, OneT, GramOpen. -/
import Derived.WideKeyEntry
import Derived.Deep.Slices
import Derived.Deep.Fields
import Derived.ChangeSame
import Derived.Lib.SmallJoins
import Derived.SliceStrings
import Derived.Test.YtjjbaehamplnaaaGreatHC
set_option linter.all false
namespace Go
def Cj:=@Int.toNat_natCast
def DW:=@bne_iff_ne
def CI:=@Nat.testBit_two_pow
def CU:=@Nat.testBit_or
def El:=@List.set_eq_of_length_le
def Dl:=@Nat.zero_testBit
def C9:=@Nat.eq_of_testBit_eq
def Ew:=@List.getElem?_set_self
def EW:=@List.sum_cons
def Co:=@Nat.pow_le_pow_right
def Ec:=@Nat.testBit_and
def DZ:=@Nat.testBit_lt_two_pow
def DQ:=@Bool.true_or
def CP:=@Nat.exists_testBit_of_ne_zero
def ES:=@Nat.lt_pow_two_of_testBit
def DM:=@List.set_cons_succ
def Fi:=@Nat.add_mul
def Eu:=@Nat.one_mul
def DK:=@List.take_append_drop
def Dj:=@Nat.not_lt_zero
def CM:=@List.range_succ
def Dx:=@Nat.mul_le_mul_right
def Cx:=@Nat.le_of_lt
def E7:=@Go.DataW.trod_int
def E3:=@Go.bounds_i64
def Bl:=@Go.block_lt_of_cell
end Go
open Go.RowKit
set_option maxRecDepth 100000
set_option maxHeartbeats 40000000
variable {E:List (List (Int×Int))} {G:Go.Proofs.YtjjbaehamplnaaaGreat.Gm.Gr} {b d i k n:Nat} {j s t z:Int} {r:List Int} {v:Go.Value} {w':Go.World}
namespace Go.Proofs.YtjjbaehamplnaaaGreat
namespace Au
def rest (G:Gm.Gr) (x:It):List Int:=(sy G x.1).drop (x.2.toNat+1)
def Ed (E:List (List (Int×Int))) (i:Nat) (s:Int) (j:Nat):Prop:=∃h:i<E.length,(s,(j:Int))∈E[i]
inductive La (G:Gm.Gr) (E:List (List (Int×Int))):Nat->It->Int->Prop
 | st:La G E 0 (-1,0) G.ts.length
 | bg (i:Nat) (x:It) (t s:Int) (h:La G E i x t) (hs:nx G x=some s) (h0:s<0) (k:Nat) (hk:k<G.rs.length) (hl:(G.rs[k]).l = -1-s) (u:Int) (hu:Gm.Bg G u (rest G x)):La G E i ((k:Int),0) u
 | nu (i:Nat) (x:It) (t s:Int) (h:La G E i x t) (hs:nx G x=some s) (h0:s<0) (k:Nat) (hk:k<G.rs.length) (hl:(G.rs[k]).l = -1-s) (hn:Gm.Nu G (rest G x)):La G E i ((k:Int),0) t
 | mv (i:Nat) (x:It) (t s:Int) (h:La G E i x t) (hs:nx G x=some s) (j:Nat) (he:Ed E i s j):La G E j (x.1,x.2+1) t
theorem G5 (hk:k<G.rs.length):sy G (k:Int)=(G.rs[k]).r:=by
 unfold sy;rw[AJ ω,Cj,Aw,AH hk,Bu]
section
variable {G:Gm.Gr} {K:List (List It)} {E:List (List (Int×Int))}
theorem Inv.ji (h:Inv G K E) (hE:E.length=K.length) (aa:Gm.Ok G) (hi:i<K.length) {x:It} (hx:x∈jb G (K.getD i [])) (hs:nx G x=some s):∃j:Nat,Ed E i s j/\K[j]?=some (mv G (jb G (K.getD i [])) s):=by
 obtain⟨h1,h2⟩:=h.ed i ω
 have hm:s∈E[i].map (·.1):=by
  rw[h1,Cc];refine⟨sz aa (mA hx) hs,?_⟩
  have:(x.1,x.2+1)∈mv G (jb G (K.getD i [])) s:=G4.2 ⟨x,hx,hs,rfl⟩
  simp only[DW,ne_eq];exact fun e=>by rw[e]at this;cases this
 obtain⟨e,he,rfl⟩:=Bo.1 hm;obtain⟨j,e1,e2⟩:=h2 e he;exact⟨j,⟨ω,by rw[<-e1];exact he⟩,e2⟩
theorem Inv.to (h:Inv G K E) {j:Nat} (he:Ed E i s j):K[j]?=some (mv G (jb G (K.getD i [])) s):=by
 obtain⟨hi,he⟩:=he;obtain⟨k,e1,e2⟩:=(h.ed i hi).2 _ he;simp only at e1 e2;obtain rfl:j=k:=ω
 exact e2
theorem Inv.uu (h:Inv G K E) (hi:i<K.length):∀x∈K.getD i [],ir G x=true:=by
 rw[Aw,AH hi,Bu];exact(h.it _ (AD hi)).2
theorem sn (h:Inv G K E) {x:It} (hl:La G E i x t):i<K.length/\x∈jb G (K.getD i []):=by
 induction hl with
 | st =>
  have h0:=Bk.1 h.h0;refine⟨h0.1,(vL (h.uu h0.1)).2 (.of _ ?_)⟩;rw[Aw,h.h0,Bu];exact Bn
 | bg i x t s _ hs h0 k hk hl u _ ih=>exact⟨ih.1,(vL (h.uu ih.1)).2 (.on x ((vL (h.uu ih.1)).1 ih.2) s hs h0 k hk hl)⟩
 | nu i x t s _ hs h0 k hk hl _ ih=>exact⟨ih.1,(vL (h.uu ih.1)).2 (.on x ((vL (h.uu ih.1)).1 ih.2) s hs h0 k hk hl)⟩
 | mv i x t s _ hs j he ih =>
  have h1:=h.to he;have h2:=Bk.1 h1;refine⟨h2.1,(vL (h.uu h2.1)).2 (.of _ ?_)⟩;rw[Aw,h1,Bu];exact G4.2 ⟨x,ih.2,hs,rfl⟩
theorem Vu (h:Gm.Gn true G.rs j):Gm.Gn false G.rs j \/ ∃t,Gm.Fs G t j:=by
 induction h with
 | mk x hx ht hn ih =>
  have key:∀q p:List Int,x.r=p++q->Gm.Nu G p->Gm.Nu G x.r \/ ∃t,Gm.Fs G t x.l:=by
   intro q;induction q with
   | nil=>intro p e hp;rw[e,CG];exact .inl hp
   | cons z q ihq =>
    intro p e hp;have hz:z∈x.r:=by rw[e];exact DJ _ Bn
    by_cases h0:0<=z
    ·exact .inr ⟨z,.tm x hx p q e h0 hp⟩
    ·rcases ih z hz ω with h1|⟨t,h1⟩
     ·refine ihq (p++[z]) (by rw[e];simp) ⟨fun y hy aa=>?_,fun y hy aa=>?_⟩
      ·rcases Bs.1 hy with hy|hy
       ·exact hp.1 y hy aa
       ·rw[AW.1 hy]at aa;omega
      ·rcases Bs.1 hy with hy|hy
       ·exact hp.2 y hy aa
       ·rw[AW.1 hy];exact h1
     ·exact .inr ⟨t,.nt x hx p z q e ω hp h1⟩
  rcases key x.r [] rfl (Gm.mM G) with h1|h1
  ·exact .inl (.of hx h1)
  ·exact .inr h1
theorem Kc:∀ {r:List Int},(∀z∈r,z<0->Gm.Gn true G.rs (-1-z))->Gm.Nu G r \/ ∃t,Gm.Bg G t r
 | [],_=>.inl (Gm.mM G)
 | z::r,h=>by
  by_cases h0:0<=z
  ·exact .inr ⟨z,Gm.jd.2 (.inl (.inl ⟨rfl,h0⟩))⟩
  ·rcases Vu (h z Bn ω) with h1|⟨t,h1⟩
   ·rcases Kc (r:=r) (fun y hy=>h y (Bq _ hy)) with h2|⟨t,h2⟩
    ·exact .inl (Gm.j8.2 ⟨⟨ω,h1⟩,h2⟩)
    ·exact .inr ⟨t,Gm.jd.2 (.inr ⟨⟨ω,h1⟩,h2⟩)⟩
   ·exact .inr ⟨t,Gm.jd.2 (.inl (.inr ⟨ω,h1⟩))⟩
theorem Ui (h:Inv G K E) (hE:E.length=K.length) (hp:∀x∈G.rs,Gm.Al true G.rs x.r):∀i,i<K.length->∀x∈jb G (K.getD i []),∃t,La G E i x t:=by
 have key:∀i,i<K.length->(∀x∈K.getD i [],∃t,La G E i x t)->∀x∈jb G (K.getD i []),∃t,La G E i x t:=by
  intro i hi hk x hx;have af:=(vL (h.uu hi)).1 hx;clear hx;induction af with
  | of x hx=>exact hk x hx
  | on x ag s hs h0 k ab hl ih =>
   obtain⟨t,ht⟩:=ih;have am:=gj.1 (pB (h.uu hi) ag)
   have aa:∀z∈rest G x,z<0->Gm.Gn true G.rs (-1-z):=by
    intro z hz ah;have ac:=C7 hz;by_cases e:x.1 = -1
    ·have ai:sy G x.1=[-1-G.st]:=by rw[e];rfl
     unfold rest at hz;rw[ai]at hz;rw[Cb σ]at hz;cases hz
    ·obtain⟨m,hm⟩:∃m:Nat,x.1=(m:Int):=⟨x.1.toNat,ω⟩
     have ad:m<G.rs.length:=ω
     rw[hm,G5 ad]at ac;exact(hp _ (AD ad)).2 z ac ah
   rcases Kc (G:=G) aa with hq|⟨u,hq⟩
   ·exact⟨t,.nu i x t s ht hs h0 k ab hl hq⟩
   ·exact⟨u,.bg i x t s ht hs h0 k ab hl u hq⟩
 intro i;induction i using Nat.strongRecOn with
 | _ i ih =>
  intro hi;refine key i hi fun x hx=>?_;by_cases e:i=0
  ·subst e;rw[Aw,h.h0,Bu,AW]at hx;rw[hx];exact⟨_,.st⟩
  ·obtain⟨m,hm,aj,⟨s,j⟩,he,e2⟩:=h.up i ω hi;simp only at e2;subst e2;have ae:Ed E m s i:=⟨hm,he⟩
   have ak:=h.to ae;rw[Aw,ak,Bu]at hx;obtain⟨y,hy,al,rfl⟩:=G4.1 hx;obtain⟨t,ht⟩:=ih m aj ω y hy;exact⟨t,.mv m y t s ht al i ae⟩
end
end Au
namespace Gm
def jG (nu:List Bool) (fs:List Nat) (rest:Nat):List Int->Nat
 | []=>rest
 | z::r=>if 0<=z then 2 ^ z.toNat else fs.getD (-1-z).toNat 0 ||| (if nu.getD (-1-z).toNat false=true then jG nu fs rest r else 0)
def bt (t:Nat) (s:List Nat):List Bool:=s.map fun v=>v.testBit t
theorem Vk (t:Nat) (s:List Nat):(bt t s).length=s.length:=by simp[bt]
theorem xX (t:Nat) (s:List Nat) (i:Nat):(bt t s).getD i false=(s.getD i 0).testBit t:=by
 unfold bt;rw[Aw,Aw,BO];cases s[i]? <;> simp
theorem Vj (t:Nat) (s:List Nat) (i v:Nat):bt t (s.set i v)=(bt t s).set i (v.testBit t):=by unfold bt;rw[Cy]
theorem JL (nu:List Bool) (fs:List Nat) (rest t:Nat):∀r,(jG nu fs rest r).testBit t=q9 nu t (bt t fs) (rest.testBit t) r
 | []=>rfl
 | z::r=>by
  rw[jG,q9];by_cases h0:0<=z
  ·rw[Az h0,Az h0,CI];by_cases e:z.toNat=t
   ·rw[AV e,show z=(t:Int) by omega];simp
   ·rw[AU e];exact(Bc.2 ω).symm
  ·rw[AJ h0,AJ h0,CU,xX,<-JL nu fs rest t r];by_cases e:nu.getD (-1-z).toNat false=true
   ·rw[Az e,e];rfl
   ·rw[AJ e,Bool.not_eq_true _ |>.mp e];simp
def FH (f:List Nat->List Nat):Nat->List Nat->List Nat
 | 0,s=>s
 | n+1,s=>f (FH f n s)
theorem RY {t:Nat} {f:List Nat->List Nat} {g:List Bool->List Bool} (h:∀s,bt t (f s)=g (bt t s)) (n:Nat) (s:List Nat):bt t (FH f n s)=times g n (bt t s):=by
 induction n with
 | zero=>rfl
 | succ n ih=>rw[FH,times,h,ih]
theorem Ng {α:Type} {t:Nat} {f:List Nat->α->List Nat} {g:List Bool->α->List Bool} (h:∀s x,bt t (f s x)=g (bt t s) x):∀(xs:List α) (s:List Nat),bt t (xs.foldl f s)=xs.foldl g (bt t s)
 | [],_=>rfl
 | x::xs,s=>by rw[Dt,Dt,Ng h xs,h]
def addN (s:List Nat) (i v:Nat):List Nat:=s.set i (s.getD i 0 ||| v)
theorem Q8 (s:List Bool) (i:Nat):s.set i (s.getD i false)=s:=by
 rcases BM i s.length with h|h
 ·rw[Aw,AH h];simp
 ·rw[El h]
theorem Vl (t:Nat) (s:List Nat) (i v:Nat):bt t (addN s i v)=if v.testBit t=true then(bt t s).set i true else bt t s:=by
 unfold addN;rw[Vj,CU,<-xX];cases v.testBit t
 ·rw[Bool.or_false,Q8];rfl
 ·rw[Bool.or_true];rfl
def gF (nu:List Bool) (s:List Nat) (x:Rl):List Nat:=addN s x.l.toNat (jG nu s 0 x.r)
theorem Jq (nu:List Bool) (t:Nat) (s:List Nat) (x:Rl):bt t (gF nu s x)=rJ nu t (bt t s) x:=by
 unfold gF rJ;rw[Vl,JL,Dl]
noncomputable def fst (G:Gr):List Nat:=FH (fun s=>G.rs.foldl (gF (gn false G.rs G.ns.length)) s) G.ns.length (List.replicate G.ns.length 0)
theorem Nf (t n:Nat):bt t (List.replicate n 0)=List.replicate n false:=by simp[bt]
theorem kV {G:Gr} (hl:ma G.ns.length G.rs) (i t:Nat):((fst G).getD i 0).testBit t=true↔Fs G t (i:Int):=by
 rw[<-xX];unfold fst;rw[RY (g:=fun s=>G.rs.foldl (rJ (gn false G.rs G.ns.length) t) s) (fun s=>Ng (Jq _ t) _ s),Nf];exact Rs hl ω i
theorem Pj {f:List Nat->List Nat} (h:∀s,(f s).length=s.length) (n:Nat) (s:List Nat):(FH f n s).length=s.length:=by
 induction n with
 | zero=>rfl
 | succ n ih=>rw[FH,h,ih]
theorem Mk {α:Type} {f:List Nat->α->List Nat} (h:∀s x,(f s x).length=s.length):∀(xs:List α) (s:List Nat),(xs.foldl f s).length=s.length
 | [],_=>rfl
 | x::xs,s=>by rw[Dt,Mk h xs,h]
theorem mu (s:List Nat) (i v:Nat):(addN s i v).length=s.length:=by simp[addN]
theorem mf (G:Gr):(fst G).length=G.ns.length:=by
 unfold fst
 have:∀s:List Nat,(G.rs.foldl (gF (gn false G.rs G.ns.length)) s).length=s.length:=fun s=>Mk (fun s x=>mu _ _ _) _ s
 rw[Pj this];simp
theorem Q7 {a b:List Nat} (hl:a.length=b.length) (h:∀i t:Nat,(a.getD i 0).testBit t=true↔(b.getD i 0).testBit t=true):a=b:=by
 refine Cu hl fun i h1 h2=>C9 fun t=>?_
 have:=h i t
 rw[Aw,Aw,AH h1,AH h2]at this;exact Bx.2 this
theorem yj {G:Gr} (h:Ok G) (hj:Fs G t j):t<G.ts.length:=by
 induction hj with
 | tm x hx p q e h0 hp=>exact((fT (h.rr x hx)).2.2.2 t (by rw[e];simp)).1
 | nt x hx p z q e hz hp _ ih=>exact ih
theorem G7 {G:Gr} (h:Ok G) (hr:∀z∈r,z<G.ts.length) (hj:Bg G t r):t<G.ts.length:=by
 obtain⟨p,y,q,e,_,h1|h1⟩:=hj
 ·rw[<-h1.1];exact hr y (by rw[e];simp)
 ·exact yj h h1.2
theorem vQ {G:Gr} (hl:ma G.ns.length G.rs) (rest t:Nat) (r:List Int):(jG (gn false G.rs G.ns.length) (fst G) rest r).testBit t=true↔Bg G t r\/Nu G r/\rest.testBit t=true:=by
 rw[JL];refine Ta hl (fun i hi=>?_) (fun j hj=>?_) ω
 ·rw[xX]at hi;exact(kV hl i t).1 hi
 ·rw[xX];refine(kV hl j.toNat t).2 ?_;obtain⟨x,hx,rfl,_⟩:=hj.gu;rw[BH (hl x hx).1];exact hj
def kM (a b:List Nat):Prop:=a.length=b.length/\∀i:Nat,a.getD i 0<=b.getD i 0
theorem kM.refl (a:List Nat):kM a a:=⟨rfl,fun _=>Af _⟩
theorem kM.trans {a b c:List Nat} (h:kM a b) (k:kM b c):kM a c:=⟨h.1.trans k.1,fun i=>Ah (h.2 i) (k.2 i)⟩
theorem kM.nj {a b:List Nat} (h:kM a b) (k:kM b a):b=a:=by
 refine Cu k.1 fun i h1 h2=>?_;have e1:=h.2 i;have e2:=k.2 i;rw[Aw,Aw,AH h1,AH h2]at e1 e2;simp only[Bu]at e1 e2;omega
theorem kM.addN (s:List Nat) (i v:Nat):kM s (addN s i v):=by
 refine⟨(mu s i v).symm,fun j=>?_⟩;unfold Gm.addN;by_cases e:i=j
 ·subst e;rcases BM i s.length with h|h
  ·rw[Aw,Aw,Ew h,Bu];exact Nat.left_le_or
  ·rw[El h];exact Af _
 ·rw[Aw,Aw,EO e];exact Af _
theorem kM.fold {α:Type} {f:List Nat->α->List Nat} (h:∀s x,kM s (f s x)):∀(xs:List α) (s:List Nat),kM s (xs.foldl f s)
 | [],s=>.refl s
 | x::xs,s=>(h s x).trans (kM.fold h xs _)
theorem nC {α:Type} {f:List Nat->α->List Nat} (h:∀s x,kM s (f s x)):∀(xs:List α) (s:List Nat),xs.foldl f s=s->∀x∈xs,f s x=s
 | [],_,_,_,hx=>by cases hx
 | y::ys,s,e,x,hx=>by
  rw[Dt]at e;have h1:f s y=s:=kM.nj (h s y) (by have:=kM.fold h ys (f s y);rwa [e]at this);rw[h1]at e;rcases BB.1 hx with rfl|hx
  ·exact h1
  ·exact nC h ys s e x hx
theorem Ni:∀ {a b:List Nat},kM a b->a.sum<=b.sum/\(a.sum=b.sum->a=b)
 | [],[],_=>⟨Af _,fun _=>rfl⟩
 | [],_::_,h=>by cases h.1
 | _::_,[],h=>by cases h.1
 | x::a,y::b,h=>by
  have h1:kM a b:=⟨by simpa using h.1,fun i=>by have:=h.2 (i+1);simpa using this⟩
  have h2:x<=y:=by have:=h.2 0;simpa using this
  have:=Ni h1
  simp only[EW];refine⟨ω,fun e=>?_⟩;rw[this.2 ω,show x=y by omega]
def Fo (s:List Nat):Nat:=(s.map fun v=>4294967296-v).sum
def nA (s:List Nat):Prop:=∀i:Nat,s.getD i 0<4294967296
theorem JS:∀ {s:List Nat},nA s->Fo s+s.sum=s.length*4294967296
 | [],_=>rfl
 | x::s,h=>by
  have h1:nA s:=fun i=>by have:=h (i+1);simpa using this
  have h2:x<4294967296:=by have:=h 0;simpa using this
  have:=JS h1
  unfold Fo at this ⊢;simp only[Bw,EW,Bz];omega
theorem y8 {a b:List Nat} (h:kM a b) (hb:nA b) (hn:a≠b):Fo b<Fo a:=by
 have ha:nA a:=fun i=>Nat.lt_of_le_of_lt (h.2 i) (hb i);have h1:=JS ha;have h2:=JS hb;have h3:=Ni h;have h4:a.sum≠b.sum:=fun e=>hn (h3.2 e);rw[h.1]at h1;omega
theorem s6 {a:Nat} (ha:a<4294967296) (hb:b<4294967296):a ||| b<4294967296:=by
 have:=Nat.or_lt_two_pow (n:=32) (x:=a) (y:=b) ω ω;omega
theorem nA.addN {s:List Nat} (h:nA s) (i:Nat) {v:Nat} (hv:v<4294967296):nA (addN s i v):=fun j=>by
 unfold Gm.addN;by_cases e:i=j
 ·subst e;rcases BM i s.length with hl|hl
  ·rw[Aw,Ew hl,Bu];exact s6 (h i) hv
  ·rw[El hl];exact h i
 ·rw[Aw,EO e,<-Aw];exact h j
theorem nA.jG {nu:List Bool} {fs:List Nat} {rest:Nat} (hf:nA fs) (hr:rest<4294967296):∀ {r:List Int},(∀z∈r,z<=31)->jG nu fs rest r<4294967296
 | [],_=>hr
 | z::r,h=>by
  rw[Gm.jG];split
  ·have:=Co (n:=2) δ (show z.toNat<=31 by have:=h z (Bn ..);omega)
   omega
  ·refine s6 (hf _) ?_;split
   ·exact nA.jG hf hr fun y hy=>h y (Bq _ hy)
   ·decide
theorem ox {a v:Nat} (ha:a<4294967296) (hv:v<4294967296):(v &&& (4294967295-a)=0)↔a ||| v=a:=by
 have hb:∀t,t<32->(4294967295-a).testBit t = !a.testBit t:=fun t ht=>by
  have:=Nat.testBit_two_pow_sub_succ (n:=32) (x:=a) ω t
  rw[show 2 ^ 32-(a+1)=4294967295-a by omega]at this;rw[this,AV ht,Cw]
 constructor
 ·intro h;refine C9 fun t=>?_;rw[CU];by_cases ht:t<32
  ·have h1:=congrArg (fun z=>z.testBit t) h;simp only[Ec,Dl]at h1;rw[hb t ht]at h1
   revert h1
   generalize a.testBit t=p;generalize v.testBit t=q;cases p <;> cases q <;> simp
  ·rw[DZ (x:=v) (Aj hv (by have:=Co (n:=2) δ (show 32<=t by omega);omega))];simp
 ·intro h;refine C9 fun t=>?_;rw[Ec,Dl];by_cases ht:t<32
  ·rw[hb t ht];have h1:=congrArg (fun z=>z.testBit t) h;simp only[CU]at h1
   revert h1
   generalize a.testBit t=p;generalize v.testBit t=q;cases p <;> cases q <;> simp
  ·rw[DZ (x:=v) (Aj hv (by have:=Co (n:=2) δ (show 32<=t by omega);omega))];simp
theorem sQ {s:List Nat} {v:Nat} (h:i<s.length):addN s i v=s↔s.getD i 0 ||| v=s.getD i 0:=by
 unfold addN
 constructor
 ·intro e
  have:=congrArg (fun l=>l.getD i 0) e
  simp only[Aw,Ew h,Bu]at this
  simpa[Aw] using this
 ·intro e;rw[e,Aw,AH h];simp
theorem xf {G:Gr} (hl:ma G.ns.length G.rs) {s:List Nat} (hn:s.length=G.ns.length) (hs:∀i t:Nat,(s.getD i 0).testBit t=true->Fs G t (i:Int)) (hc:∀x∈G.rs,gF (gn false G.rs G.ns.length) s x=s):s=fst G:=by
 refine Q7 (by rw[hn,mf]) fun i t=>⟨fun h=>(kV hl i t).2 (hs i t h),fun h=>?_⟩
 have h1:=NF hl (n:=G.ns.length) (is:=bt t s) (fun x hx e=>?_) ((kV hl i t).1 h)
 ·rw[xX]at h1;simpa using h1
 ·have h2:=congrArg (bt t) (hc x hx);rw[Jq,rJ,Az e]at h2;rw[<-h2]
  have:=hl x hx
  exact js _ _ (by rw[Vk];omega)
theorem ui {G:Gr} (hl:ma G.ns.length G.rs) {s:List Nat} (hs:∀i t:Nat,(s.getD i 0).testBit t=true->Fs G t (i:Int)) {x:Rl} (hx:x∈G.rs) (i t:Nat) (h:((gF (gn false G.rs G.ns.length) s x).getD i 0).testBit t=true):Fs G t (i:Int):=by
 have h1:=Jy hl (t:=t) ω [x] (bt t s) (fun y hy=>by rw[AW.1 hy];exact hx) (fun j hj=>by rw[xX]at hj;exact hs j t hj);rw[Dt,List.foldl_nil,<-Jq]at h1;exact h1 i (by rw[xX];exact h)
theorem uH (n i t:Nat):((List.replicate n 0).getD i 0).testBit t=false:=by
 have:=xX t (List.replicate n 0) i
 rw[Nf]at this;rw[<-this];by_cases h:i<n
 ·rw[Aw,CO,Az h];rfl
 ·rw[Aw,CO,AJ h];rfl
end Gm
namespace Lk
open Au Gm
abbrev SS:=List (List Nat)
def At (L:List (List It)) (S:SS) (q:Nat) (x:It) (t:Nat):Prop:=∃i:Nat,(L.getD q [])[i]?=some x/\((S.getD q []).getD i 0).testBit t=true
def lH (G:Gr) (E:List (List (Int×Int))) (L:List (List It)) (S:SS):Prop:=∀q x t,At L S q x t->La G E q x (t:Int)
structure Kr (G:Gr) (E:List (List (Int×Int))) (L:List (List It)) (S:SS) (q i:Nat):Prop where
 mv:∀x s,(L.getD q [])[i]?=some x->nx G x=some s->∀t,((S.getD q []).getD i 0).testBit t=true->∀j,Ed E q s j->At L S j (x.1,x.2+1) t
 rl:∀x s,(L.getD q [])[i]?=some x->nx G x=some s->s<0->(S.getD q []).getD i 0≠0->∀k (hk:k<G.rs.length),(G.rs[k]).l = -1-s->∀u,(jG (gn false G.rs G.ns.length) (fst G) ((S.getD q []).getD i 0) (rest G x)).testBit u=true->At L S q ((k:Int),0) u
structure Fk (G:Gr) (E:List (List (Int×Int))) (L:List (List It)) (S:SS):Prop where
 st:At L S 0 (-1,0) G.ts.length
 gv:∀q i,Kr G E L S q i
theorem T5 {G:Gr} (h:Fs G t j):0<=t:=by
 induction h with
 | tm _ _ _ _ _ h0 _=>exact h0
 | nt _ _ _ _ _ _ _ _ _ ih=>exact ih
theorem G2 {G:Gr} (h:Bg G t r):0<=t:=by
 obtain⟨_,_,_,_,_,h|h⟩:=h
 ·exact h.2
 ·exact T5 h.2
theorem yI {v t:Nat} (h:v.testBit t=true):v≠0:=fun e=>by rw[e,Dl]at h;cases h
theorem Uh {G:Gr} {L:List (List It)} {S:SS} (aa:Ok G) (h1:lH G E L S) (h2:Fk G E L S) {q:Nat} {x:It}:La G E q x t ↔ ∃n:Nat,t=n/\At L S q x n:=by
 constructor
 ·intro h;induction h with
  | st=>exact⟨_,rfl,h2.st⟩
  | bg i x t s _ hs h0 k hk hl u hu ih =>
   obtain⟨n,rfl,j,e,hb⟩:=ih;have hp:=G2 hu;refine⟨u.toNat,ω,(h2.gv i j).rl x s e hs h0 (yI hb) k hk hl u.toNat ((vQ aa.iO _ _ _).2 (.inl ?_))⟩;rw[BH hp];exact hu
  | nu i x t s _ hs h0 k hk hl hn ih =>
   obtain⟨n,rfl,j,e,hb⟩:=ih;exact⟨n,rfl,(h2.gv i j).rl x s e hs h0 (yI hb) k hk hl n ((vQ aa.iO _ _ _).2 (.inr ⟨hn,hb⟩))⟩
  | mv i x t s _ hs j he ih =>
   obtain⟨n,rfl,k,e,hb⟩:=ih;exact⟨n,rfl,(h2.gv i k).mv x s e hs n hb j he⟩
 ·rintro⟨n,rfl,h⟩;exact h1 q x n h
def yJ (l:List It) (row:List Nat) (x:It) (s:Nat):List Nat:=List.zipWith (fun y v=>if y=x then v ||| s else v) l row
def gv (L:List (List It)) (S:SS) (q:Nat) (x:It) (s:Nat):SS:=S.set q (yJ (L.getD q []) (S.getD q []) x s)
def uR (G:Gr) (L:List (List It)) (q:Nat) (sym:Int) (s:Nat) (S:SS) (k:Nat):SS:=if(G.rs.getD k ⟨0,[],0⟩).l = -1-sym then gv L S q ((k:Int),0) s else S
noncomputable def ps (G:Gr) (to:Nat->Int->Nat) (L:List (List It)) (S:SS) (p:Nat×Nat):SS :=
 match (L.getD p.1 [])[p.2]? with
 | none=>S
 | some x=>match nx G x with
  | none=>S
  | some sym=>if(S.getD p.1 []).getD p.2 0=0 then S else
   if 0<=sym then gv L S (to p.1 sym) (x.1,x.2+1) ((S.getD p.1 []).getD p.2 0)
   else(List.range G.rs.length).foldl (uR G L p.1 sym (jG (gn false G.rs G.ns.length) (fst G) ((S.getD p.1 []).getD p.2 0) (rest G x))) (gv L S (to p.1 sym) (x.1,x.2+1) ((S.getD p.1 []).getD p.2 0))
def Fit (L:List (List It)) (S:SS):Prop:=S.length=L.length/\∀q,(S.getD q []).length=(L.getD q []).length
def pe (a b:SS):Prop:=a.length=b.length/\∀q,kM (a.getD q []) (b.getD q [])
theorem pe.refl (a:SS):pe a a:=⟨rfl,fun _=>.refl _⟩
theorem pe.trans {a b c:SS} (h:pe a b) (k:pe b c):pe a c:=⟨h.1.trans k.1,fun q=>(h.2 q).trans (k.2 q)⟩
theorem pe.nj {a b:SS} (h:pe a b) (k:pe b a):b=a:=by
 refine Cu k.1 fun i h1 h2=>?_
 have:=kM.nj (h.2 i) (k.2 i)
 rw[Aw,Aw,AH h1,AH h2]at this;exact this
theorem Lf {l:List It} {row:List Nat} (h:row.length=l.length) (x:It) (s:Nat):(yJ l row x s).length=row.length:=by simp[yJ,h]
theorem Ia {l:List It} {row:List Nat} (h:row.length=l.length) (x:It) (s i:Nat):(yJ l row x s).getD i 0=if l[i]?=some x then row.getD i 0 ||| s else row.getD i 0:=by
 unfold yJ;rw[Aw,Aw,List.getElem?_zipWith];rcases BM i l.length with hi|hi
 ·rw[AH hi,AH (by omega:i<row.length)];simp only[E6,Bu]
 ·rw[Ch hi,Ch (by omega:row.length<=i)];simp
theorem RM {l:List It} {row:List Nat} (h:row.length=l.length) (x:It) (s:Nat):kM row (yJ l row x s):=by
 refine⟨(Lf h x s).symm,fun i=>?_⟩;rw[Ia h];split
 ·exact Nat.left_le_or
 ·exact Af _
theorem J5 (L:List (List It)) (S:SS) (q:Nat) (x:It) (s p:Nat):(gv L S q x s).getD p []=if p=q then yJ (L.getD q []) (S.getD q []) x s else S.getD p []:=by
 unfold gv;by_cases e:p=q
 ·subst e;rw[Az rfl];rcases BM p S.length with hp|hp
  ·rw[Aw,Ew hp,Bu]
  ·have h1:S.getD p []=[]:=by rw[Aw,Ch hp];rfl
   rw[El hp,h1];unfold yJ;rw[List.zipWith_nil_right]
 ·rw[AJ e,Aw,EO (fun k=>e k.symm),<-Aw]
theorem z7 {L:List (List It)} {S:SS} (h:Fit L S) (q:Nat) (x:It) (s:Nat):Fit L (gv L S q x s):=by
 refine⟨by unfold gv;rw[CE];exact h.1,fun p=>?_⟩;rw[J5];split
 ·rename_i e
  rw[Lf (h.2 q),e];exact h.2 q
 ·exact h.2 p
theorem IF {L:List (List It)} {S:SS} (h:Fit L S) (q:Nat) (x:It) (s:Nat):pe S (gv L S q x s):=by
 refine⟨by unfold gv;rw[CE],fun p=>?_⟩;rw[J5];split
 ·rename_i e
  rw[e];exact RM (h.2 q) x s
 ·exact .refl _
theorem FP {L:List (List It)} {S:SS} (h:Fit L S) {q:Nat} {x:It} {s p:Nat} {y:It} {t:Nat}:At L (gv L S q x s) p y t↔At L S p y t\/(p=q/\y=x/\s.testBit t=true/\∃i:Nat,(L.getD q [])[i]?=some x):=by
 unfold At;rw[J5];by_cases e:p=q
 ·subst e;rw[Az rfl]
  constructor
  ·rintro⟨i,h1,h2⟩;rw[Ia (h.2 p)]at h2;split at h2
   ·rename_i hx
    rw[CU,CR]at h2;rcases h2 with h2|h2
    ·exact .inl ⟨i,h1,h2⟩
    ·rw[hx]at h1;injection h1 with h1;exact .inr ⟨rfl,h1.symm,h2,i,hx⟩
   ·exact .inl ⟨i,h1,h2⟩
  ·rintro(⟨i,h1,h2⟩|⟨_,rfl,h2,i,h3⟩)
   ·refine⟨i,h1,?_⟩;rw[Ia (h.2 p)];split
    ·rw[CU,h2,DQ]
    ·exact h2
   ·refine⟨i,h3,?_⟩;rw[Ia (h.2 p),Az h3,CU,h2,Bool.or_true]
 ·rw[AJ e];exact⟨.inl,fun k=>k.resolve_right fun k=>e k.1⟩
theorem J4 {G:Gr} {L:List (List It)} {S:SS} (h:Fit L S) (hs:lH G E L S) {q:Nat} {x:It} {s:Nat} (hx:∀t,s.testBit t=true->La G E q x (t:Int)):lH G E L (gv L S q x s):=fun p y t k=>by
 rcases(FP h).1 k with k|⟨rfl,rfl,k,_⟩
 ·exact hs p y t k
 ·exact hx t k
theorem IE {α:Type} {f:SS->α->SS} {I:SS->Prop} (hf:∀s x,I s->I (f s x)/\pe s (f s x)):∀(xs:List α) (s:SS),I s->I (xs.foldl f s)/\pe s (xs.foldl f s)
 | [],s,h=>⟨h,.refl s⟩
 | x::xs,s,h=>by
  have h1:=hf s x h;have h2:=IE hf xs (f s x) h1.1;exact⟨h2.1,h1.2.trans h2.2⟩
theorem KT {α:Type} {f:SS->α->SS} {I:SS->Prop} (hf:∀s x,I s->I (f s x)/\pe s (f s x)):∀(xs:List α) (s:SS),I s->xs.foldl f s=s->∀x∈xs,f s x=s
 | [],_,_,_,_,hx=>by cases hx
 | y::ys,s,h,e,x,hx=>by
  rw[Dt]at e;have h1:=hf s y h;have h2:f s y=s:=pe.nj h1.2 (by have:=(IE hf ys (f s y) h1.1).2;rwa [e]at this);rw[h2]at e;rcases BB.1 hx with rfl|hx
  ·exact h2
  ·exact KT hf ys s h e x hx
theorem G3 {G:Gr} {L:List (List It)} (q:Nat) (sym:Int) (s:Nat) (S:SS) (k:Nat) (h:Fit L S):Fit L (uR G L q sym s S k)/\pe S (uR G L q sym s S k):=by
 unfold uR;split
 ·exact⟨z7 h _ _ _,IF h _ _ _⟩
 ·exact⟨h,.refl _⟩
theorem U6 {G:Gr} {to:Nat->Int->Nat} {L:List (List It)} (S:SS) (p:Nat×Nat) (h:Fit L S):Fit L (ps G to L S p)/\pe S (ps G to L S p):=by
 unfold ps;split
 ·exact⟨h,.refl _⟩
 ·rename_i x _
  split
  ·exact⟨h,.refl _⟩
  ·rename_i sym _
   split
   ·exact⟨h,.refl _⟩
   ·split
    ·exact⟨z7 h _ _ _,IF h _ _ _⟩
    ·have:=IE (I:=Fit L) (fun s k hs=>G3 (G:=G) p.1 sym (jG (gn false G.rs G.ns.length) (fst G) ((S.getD p.1 []).getD p.2 0) (rest G x)) s k hs) (List.range G.rs.length) _ (z7 h (to p.1 sym) (x.1,x.2+1) ((S.getD p.1 []).getD p.2 0))
     exact⟨this.1,(IF h _ _ _).trans this.2⟩
theorem Uz {G:Gr} {to:Nat->Int->Nat} {L:List (List It)} (ab:Ok G) (ac:∀(q:Nat) (x:It) (s:Int),x∈L.getD q []->nx G x=some s->Ed E q s (to q s)) (S:SS) (p:Nat×Nat) (h:Fit L S) (hs:lH G E L S):lH G E L (ps G to L S p):=by
 unfold ps;split
 ·exact hs
 ·rename_i x hx
  split
  ·exact hs
  ·rename_i sym hn
   split
   ·exact hs
   ·have h1:lH G E L (gv L S (to p.1 sym) (x.1,x.2+1) ((S.getD p.1 []).getD p.2 0)):=J4 h hs fun t ht=>.mv p.1 x t sym (hs _ _ _ ⟨p.2,hx,ht⟩) hn _ (ac p.1 x sym (C8 hx) hn);split
    ·exact h1
    ·rename_i ad h0
     have aa:∃t,((S.getD p.1 []).getD p.2 0).testBit t=true:=CP ad;obtain⟨t0,ae⟩:=aa
     have af:∀k,k<G.rs.length->(G.rs.getD k ⟨0,[],0⟩).l = -1-sym->∀u,(jG (gn false G.rs G.ns.length) (fst G) ((S.getD p.1 []).getD p.2 0) (rest G x)).testBit u=true->La G E p.1 ((k:Int),0) (u:Int):=fun k hk e u hu=>by
      rw[Aw,AH hk,Bu]at e;rcases(vQ ab.iO _ _ _).1 hu with hb|⟨hb,hr⟩
      ·exact .bg p.1 x t0 sym (hs _ _ _ ⟨p.2,hx,ae⟩) hn ω k hk e _ hb
      ·exact .nu p.1 x u sym (hs _ _ _ ⟨p.2,hx,hr⟩) hn ω k hk e hb
     have key:∀(ks:List Nat),(∀k∈ks,k<G.rs.length)->∀S1,Fit L S1->lH G E L S1->lH G E L (ks.foldl (uR G L p.1 sym (jG (gn false G.rs G.ns.length) (fst G) ((S.getD p.1 []).getD p.2 0) (rest G x))) S1):=by
      intro ks;induction ks with
      | nil=>exact fun _ S1 _ h=>h
      | cons k ks ih =>
       intro hk S1 hf hS;rw[Dt];refine ih (fun j hj=>hk j (Bq _ hj)) _ (G3 _ _ _ S1 k hf).1 ?_;unfold uR;split
       ·rename_i e
        exact J4 hf hS fun u hu=>af k (hk k Bn) e u hu
       ·exact hS
     exact key _ (fun k hk=>BU.1 hk) _ (z7 h _ _ _) h1
theorem M7 {L:List (List It)} {S:SS} (h:Fit L S) {q:Nat} {x:It} {s:Nat} (e:gv L S q x s=S) {t:Nat} (ht:s.testBit t=true) (hx:x∈L.getD q []):At L S q x t:=by
 obtain⟨i,hi⟩:=List.getElem?_of_mem hx
 have:=(FP (L:=L) h (q:=q) (x:=x) (s:=s) (p:=q) (y:=x) (t:=t)).2 (.inr ⟨rfl,rfl,ht,i,hi⟩)
 rwa [e]at this
theorem S3 {G:Gr} {to:Nat->Int->Nat} {L:List (List It)} (ab:∀(q:Nat) (x:It) (s:Int) (j:Nat),x∈L.getD q []->nx G x=some s->Ed E q s j->j=to q s) (ac:∀(q:Nat) (x:It) (s:Int),x∈L.getD q []->nx G x=some s->(x.1,x.2+1)∈L.getD (to q s) []) (ad:∀(q:Nat) (x:It) (s:Int) (k:Nat) (hk:k<G.rs.length),x∈L.getD q []->nx G x=some s->s<0->(G.rs[k]).l = -1-s->((k:Int),(0:Int))∈L.getD q []) {S:SS} (h:Fit L S) {q:Nat} (e:ps G to L S (q,i)=S):Kr G E L S q i:=by
 have key:∀x s,(L.getD q [])[i]?=some x->nx G x=some s->(S.getD q []).getD i 0≠0->gv L S (to q s) (x.1,x.2+1) ((S.getD q []).getD i 0)=S/\(s<0->∀k,k<G.rs.length->uR G L q s (jG (gn false G.rs G.ns.length) (fst G) ((S.getD q []).getD i 0) (rest G x)) S k=S):=by
  intro x s hx hn aa;unfold ps at e;simp only[hx,hn]at e;rw[AJ aa]at e;by_cases h0:0<=s
  ·rw[Az h0]at e;exact⟨e,fun k=>absurd h0 ω⟩
  ·rw[AJ h0]at e;have a1:=IF h (to q s) (x.1,x.2+1) ((S.getD q []).getD i 0);have a2:=IE (I:=Fit L) (fun s' k hs=>G3 (G:=G) q s (jG (gn false G.rs G.ns.length) (fst G) ((S.getD q []).getD i 0) (rest G x)) s' k hs) (List.range G.rs.length) _ (z7 h (to q s) (x.1,x.2+1) ((S.getD q []).getD i 0));rw[e]at a2;have a3:=pe.nj a1 a2.2;refine⟨a3,fun _ k hk=>?_⟩;rw[a3]at e;exact KT (I:=Fit L) (fun s' k hs=>G3 (G:=G) _ _ _ s' k hs) _ S h e k (BU.2 hk)
 refine⟨fun x s hx hn t ht j he=>?_,fun x s hx hn h0 aa k hk hl u hu=>?_⟩
 ·have hm:=C8 hx;rw[ab q x s j hm hn he];exact M7 h (key x s hx hn (yI ht)).1 ht (ac q x s hm hn)
 ·have:=(key x s hx hn aa).2 h0 k hk
  unfold uR at this;rw[Az (by rw[Aw,AH hk,Bu];exact hl)]at this;exact M7 h this hu (ad q x s k hk (C8 hx) hn h0 hl)
end Lk
namespace Gm
noncomputable def An (p:Nat->Prop):Nat->Nat
 | 0=>0
 | n+1=>An p n ||| (if tr (p n)=true then 2 ^ n else 0)
theorem Mb (p:Nat->Prop) (n j:Nat):(An p n).testBit j=true↔j<n/\p j:=by
 induction n with
 | zero=>rw[An];simp
 | succ n ih =>
  rw[An,CU,CR,ih];by_cases h:tr (p n)=true
  ·rw[Az h,CI,Bj];rw[fV]at h
   constructor
   ·rintro(⟨h1,h2⟩|rfl)
    ·exact⟨ω,h2⟩
    ·exact⟨ω,h⟩
   ·rintro⟨h1,h2⟩;by_cases e:n=j
    ·exact .inr e
    ·exact .inl ⟨ω,h2⟩
  ·rw[AJ h];rw[fV]at h
   constructor
   ·rintro(⟨h1,h2⟩|h1)
    ·exact⟨ω,h2⟩
    ·simp at h1
   ·rintro⟨h1,h2⟩;by_cases e:j=n
    ·subst e;exact absurd h2 h
    ·exact .inl ⟨ω,h2⟩
theorem SB (p:Nat->Prop) (n:Nat):An p n<2 ^ n:=by
 refine ES _ fun i hi=>?_;cases h:(An p n).testBit i
 ·rfl
 ·have:=(Mb p n i).1 h;omega
def St (G:Gr) (i j:Int):Prop:=∃x∈G.rs,x.l=i/\Al true G.rs x.r/\∃p z q,x.r=p++z::q/\z<0/\j = -1-z/\Nu G p/\Nu G q
inductive Cm (G:Gr):Int->Int->Prop
 | one {i j:Int} (h:St G i j):Cm G i j
 | on {i k j:Int} (h:St G i k) (h2:Cm G k j):Cm G i j
theorem Cm.trans {G:Gr} {i k:Int} (h:Cm G i k) (h2:Cm G k j):Cm G i j:=by
 induction h with
 | one h=>exact .on h h2
 | on h _ ih=>exact .on h (ih h2)
theorem St.iO {G:Gr} (hl:ma n G.rs) (hi:∀x∈G.rs,F6 n x.r) {i:Int} (h:St G i j):(0<=i/\i<n)/\0<=j/\j<n:=by
 obtain⟨x,hx,rfl,_,p,z,q,e,hz,rfl,_⟩:=h
 have:=hi x hx z (by rw[e];simp) hz
 exact⟨hl x hx,ω,this⟩
theorem Cm.iO {G:Gr} {n:Nat} (hl:ma n G.rs) (hi:∀x∈G.rs,F6 n x.r) {i j:Int} (h:Cm G i j):(0<=i/\i<n)/\0<=j/\j<n:=by
 induction h with
 | one h=>exact h.iO hl hi
 | on h _ ih=>exact⟨(h.iO hl hi).1,ih.2⟩
theorem St.use {G:Gr} {i:Int} (h:St G i j) (hr:Rc G i):Rc G j/\Gn true G.rs j:=by
 obtain⟨x,hx,rfl,ha,p,z,q,e,hz,rfl,_⟩:=h;have hm:z∈x.r:=by rw[e];simp
 exact⟨.on x hx hr ha z hm hz,ha.2 z hm hz⟩
end Gm
end Go.Proofs.YtjjbaehamplnaaaGreat
namespace Go.Mw
open Go.RowKit Go.Maps
section
variable {κ:Type} [DecidableEq κ] {α:Type}
def hX:List (κ×α)->κ->α->List (κ×α)
 | [],x,v=>[(x,v)]
 | (k,u)::r,x,v=>if k=x then(k,v)::r else(k,u)::hX r x v
theorem j6 {x y:κ} {v:α}:∀ {l:List (κ×α)},fH (hX l x v) y=if x=y then some v else fH l y
 | []=>by simp[hX,fH]
 | (k,u)::r=>by
  have ih:=j6 (x:=x) (y:=y) (v:=v) (l:=r);unfold hX;by_cases h:k=x
  ·rw[Az h];subst h;unfold fH;by_cases e:k=y
   ·rw[Az e,Az e]
   ·rw[AJ e,AJ e,AJ e]
  ·rw[AJ h];unfold fH;rw[ih];by_cases e:k=y
   ·subst e;rw[Az rfl,AJ (fun q=>h q.symm),Az rfl]
   ·rw[AJ e,AJ e]
theorem jr {x:κ} {v:α}:∀ {l:List (κ×α)},fH l x=none->hX l x v=l++[(x,v)]
 | [],_=>rfl
 | (k,u)::r,h=>by
  unfold fH at h;split at h
  ·cases h
  ·rename_i hk
   rw[hX,AJ hk,jr h];rfl
theorem JD {x:κ} {v:α}:∀ {l:List (κ×α)} {j:Nat} {u:α},(l.map Prod.fst).Nodup->l[j]?=some (x,u)->hX l x v=l.set j (x,v)
 | [],j,u,_,h=>by simp at h
 | (k,u0)::r,0,u,_,h=>by
  simp only[Ai,E6]at h;injection h with h1 h2;rw[hX,Az h1,h1];rfl
 | (k,u0)::r,j+1,u,hn,h=>by
  rw[Bw,EX]at hn;rw[Am]at h
  have:k≠x:=fun q=>hn.1 (by rw[q];exact Bo.2 ⟨(x,u),C8 h,rfl⟩)
  rw[hX,AJ this,JD hn.2 h,DM]
end
section
variable {P:Program} {kt:TypeId} {κ:Type} {E:qO P kt κ} {w:World} {b:Nat} {l:List (κ×Value)}
def iL (E:qO P kt κ) (w:World) (b:Nat) (l:List (κ×Value)):Prop :=
 ∃es clock,w.heap[b]?=some (.map es clock)/\es.toList.map (fun e=>(e.key,e.val))=l.map (fun p=>(E.enc p.1,p.2))/\(∀p∈l,E.ok p.1)/\(l.map Prod.fst).Nodup/\∀e∈es.toList,e.born<clock
theorem iL.is (h:iL E w b l):fw E w b l:=by
 obtain⟨es,clock,h1,h2,h3,h4,_⟩:=h;exact⟨es,clock,h1,h2,h3,h4⟩
theorem iL.made (E:qO P kt κ) (w:World):iL E (w.alloc (.map #[] 0)) w.heap.size [] :=
 ⟨#[],0,(MapKept.heap_alloc w _).1,rfl,σ,σ,σ⟩
theorem iL.lt (h:iL E w b l):b<w.heap.size:=h.is.lt
theorem iL.block (h:iL E w b l) (hg:w'.heap[b]?=w.heap[b]?):iL E w' b l:=by
 obtain⟨es,clock,hb,r⟩:=h;exact⟨es,clock,hg.trans hb,r⟩
variable [DecidableEq κ]
theorem oS {t e:TypeId} (h:fw E w b l) (K:Keyed P kt) (ht:P.underlying t=some (.map kt e)) {x:κ} (hx:E.ok x) (v:Value) :
  ∃w',(Instr.mapUpdate t (.map (some b)) (E.enc x) v).run P w=.ok () w'/\fw E w' b (hX l x v)/\w.grownBy w' (some b):=by
 obtain⟨lx,ab⟩:=E.key x hx;have h0:=h;obtain⟨es,clock,hb,he,hf⟩:=jz h K hx;obtain⟨es0,clock0,d,af,hk,hn⟩:=h0;rw[hb]at d;injection d with d;injection d with d ad;subst d ad;rcases hf with⟨h1,h2⟩|⟨j,e0,h1,h2,h3,h4,h5⟩
 ·obtain⟨w',r1,r2,r3⟩:=run_store h K ht hx v (.inl h2);rw[Az h2]at r2;rw[jr h2];exact⟨w',r1,r2,r3⟩
 ·have hj:es[j]?=some e0:=by simpa using h2
  rw[JD hn h5]
  have aa:(es.modify j (fun e=>{e with key:=E.enc x,val:=v})).toList.map (fun e=>(e.key,e.val))=(l.set j (x,v)).map (fun p=>(E.enc p.1,p.2)):=by
   rw[DX,Ek _ _ _ _ h2,Cy,Cy,he]
  refine⟨ChangeMaps.setBlock w b (.map (es.modify j (fun e=>{e with key:=E.enc x,val:=v})) clock),?_,⟨_,_,B8 hb _,aa,?_,?_⟩,⟨rfl,rfl,rfl,by simp[ChangeMaps.setBlock],fun i _ hi=>Cn hb _ (fun e=>hi (by rw[e]))⟩⟩
  ·simp[Instr.mapUpdate,Dc ht,Cs hb,K.check w false ab,h1,hj,h3,K.stays w ab,CT _ hb,Result.andThen,ChangeMaps.setBlock]
  ·intro p hp;rcases DI hp with q|q
   ·exact hk p q
   ·rw[q];exact hx
  ·have e1:(l.set j (x,v)).map Prod.fst=l.map Prod.fst:=by
    rw[Cy];refine C3 fun i=>?_;rw[Dq];by_cases ac:j=i
    ·subst ac;have ae:j<(l.map Prod.fst).length:=by rw[Bh];exact(Bk.1 h5).1
     rw[Az rfl,Az ae,BO,h5];rfl
    ·rw[AJ ac]
   rw[e1];exact hn
def zZ (E:qO P kt κ) (w:World) (b:Nat) (l:List (κ×Value)) (x:κ) (clock:Nat):Prop :=
 ∃(es:Array MapEntry) (z:Value),w.heap[b]?=some (.map (es.push ⟨E.enc x,z,clock⟩) (clock+1))/\es.toList.map (fun e=>(e.key,e.val))=l.map (fun p=>(E.enc p.1,p.2))/\(∀p∈l,E.ok p.1)/\(l.map Prod.fst).Nodup/\(∀e∈es.toList,e.born<clock)/\E.ok x/\fH l x=none
theorem zZ.block {x:κ} {c:Nat} (h:zZ E w b l x c) (hg:w'.heap[b]?=w.heap[b]?):zZ E w' b l x c:=by
 obtain⟨es,z,hb,r⟩:=h;exact⟨es,z,hg.trans hb,r⟩
theorem zZ.lt {x:κ} {c:Nat} (h:zZ E w b l x c):b<w.heap.size:=by
 obtain⟨es,z,hb,_⟩:=h;exact(Ad.1 hb).1
theorem tg {t e:TypeId} (h:iL E w b l) (K:Keyed P kt) (ht:P.underlying t=some (.map kt e)) {z:Value} (hz:(zeroValue e).run P w=.ok z w) {x:κ} (hx:E.ok x) (hn:fH l x=none) :
  ∃(c:Nat) (w':World),(Instr.mapEntry t (.map (some b)) (E.enc x)).run P w=.ok (.tuple #[z,goInt c]) w'/\zZ E w' b l x c/\w.grownBy w' (some b):=by
 obtain⟨lx,aa⟩:=E.key x hx;have h0:=h;obtain⟨es,clock,hb,he,hf⟩:=jz h.is K hx;obtain⟨es0,clock0,d,ae,hk,ab,ac⟩:=h0;rw[hb]at d;injection d with d;injection d with d ad;subst d ad;rcases hf with⟨h1,h2⟩|⟨j,e0,h1,h2,h3,h4,h5⟩
 ·refine⟨clock,ChangeMaps.setBlock w b (.map (es.push ⟨E.enc x,z,clock⟩) (clock+1)),?_,⟨es,z,B8 hb _,he,hk,ab,ac,hx,hn⟩,⟨rfl,rfl,rfl,by simp[ChangeMaps.setBlock],fun i _ hi=>Cn hb _ (fun e=>hi (by rw[e]))⟩⟩;simp[Instr.mapEntry,Dc ht,Cs hb,K.check w false aa,h1,hz,CT _ hb,Result.andThen,ChangeMaps.setBlock]
 ·rw[hn]at h4;cases h4
theorem Li {es:List MapEntry} {c:Nat} (h:∀e∈es,e.born<c) (x:MapEntry) (hx:x.born=c):(es++[x]).findIdx? (fun e=>(e.born:Int)==(c:Int))=some es.length:=by
 induction es with
 | nil=>simp[hx]
 | cons y r ih =>
  have hy:=h y Bn;have ih:=ih fun e he=>h e (Bq _ he);rw[Ct,List.findIdx?_cons,ih]
  have:((y.born:Int)==(c:Int))=false:=by
   rw[Bc];omega
  rw[this];simp
theorem rE {t:TypeId} {x:κ} {c:Nat} (h:zZ E w b l x c) (v:Value) :
  ∃w',(Instr.entryStore t (.map (some b)) (goInt c) v).run P w=.ok () w'/\iL E w' b (l++[(x,v)])/\w.grownBy w' (some b):=by
 obtain⟨es,z,hb,he,hk,hn,ab,hx,ac⟩:=h
 have ad:(es.push ⟨E.enc x,z,c⟩).findIdx? (fun e=>(e.born:Int)==(c:Int))=some es.size:=by
  rw[Go.WideElems.findIdx_arr,CK,Li ab _ rfl];simp
 have aa:(es.push ⟨E.enc x,z,c⟩).modify es.size (fun e=>{e with val:=v})=es.push ⟨E.enc x,v,c⟩:=by
  apply EI;rw[DX,CK,CK]
  have:∀(l:List MapEntry) (a:MapEntry),(l++[a]).modify l.length (fun e=>{e with val:=v})=l++[{a with val:=v}]:=fun l a=>by
   induction l with
   | nil=>rfl
   | cons y r ih=>rw[Ct,Bz,List.modify_succ_cons,ih];rfl
  exact this es.toList _
 refine⟨ChangeMaps.setBlock w b (.map (es.push ⟨E.enc x,v,c⟩) (c+1)),?_,⟨_,_,B8 hb _,?_,?_,?_,?_⟩,⟨rfl,rfl,rfl,by simp[ChangeMaps.setBlock],fun i _ hi=>Cn hb _ (fun e=>hi (by rw[e]))⟩⟩
 ·simp[Instr.entryStore,Cs hb,asInt,asIntOf,goInt,ad,aa,CT _ hb,Result.andThen,ChangeMaps.setBlock]
 ·rw[CK,Bi,Bi,he];rfl
 ·intro p hp;rcases Bs.1 hp with q|q
  ·exact hk p q
  ·rw[AW]at q;subst q;exact hx
 ·rw[Bi,Cz];refine⟨hn,σ,fun a ha d hd=>?_⟩;obtain⟨p,hp,rfl⟩:=Bo.1 ha;simp only[Bw,Dh,AW]at hd;subst hd;exact FF.1 ac p hp
 ·intro e he;rw[CK]at he;rcases Bs.1 he with q|q
  ·have:=ab e q;omega
  ·rw[AW]at q;subst q;simp
end
end Go.Mw
namespace Go.Proofs.YtjjbaehamplnaaaGreat
namespace Au
theorem M8 {α:Type} {f:Int->List α} {b:Nat}:∀ {l:List Int},(∀r∈l,(f r).length<=b)->(l.flatMap f).length<=l.length*b
 | [],_=>by simp
 | x::l,h=>by
  rw[B7,AZ,Bz,Fi,Eu];have h1:=h x (Bn ..);have h2:=M8 (l:=l) fun r hr=>h r (Bq _ hr);omega
theorem qe (h:Gm.Ok G) {r:Int} (hr:r∈tO G):(sy G r).length<=6:=by
 unfold sy;split
 ·simp
 ·rename_i hn
  have h1:=(jD.1 hr)
  have aa:r.toNat<G.rs.length:=ω
  rw[Aw,AH aa,Bu];exact(Gm.fT (h.rr _ (AD aa))).1
theorem jZ (h:Gm.Ok G) (hr:G.rs.length<=40):(vV G).length<=287:=by
 have h1:(vV G).length<=(tO G).length*7:=M8 fun r hr=>by
  rw[Bh,DV]
  have:=qe h hr
  omega
 have h2:(tO G).length=G.rs.length+1:=by simp[tO]
 omega
theorem lM (h:Gm.Ok G) (hr:G.rs.length<=40) {K:List (List It)} (hi:Inv G K E) {k:List It} (hk:k∈K):k.length<=287 :=
 Ah (Nk (hi.it k hk).1 (hi.it k hk).2) (jZ h hr)
theorem pD (ht:G.ts.length<=24) (hn:G.ns.length<=40) {K:List (List It)} (hi:Inv G K E) (h:i<E.length):E[i].length<=64:=by
 have h1:=(hi.ed i h).1;have h2:(E[i].map (·.1)).length<=(syms G).length:=by rw[h1];exact CD _ _
 rw[Bh,lE]at h2;omega
theorem Vh (l:List It):(jb G l).length<=(vV G).length:=CD _ _
theorem rZ (h:Gm.Ok G) (hr:G.rs.length<=40) (l:List It):(jb G l).length<=287:=Ah (Vh l) (jZ h hr)
structure iA (G:Gm.Gr) (l out:List It):Prop where
 s:jY out
 h:∀x∈l,x∈out
 c:∀x∈out,Cl G l x
theorem iA.is {l out:List It} (hl:∀x∈l,ir G x=true) (k:iA G l out):∀x∈out,ir G x=true:=fun x hx=>pB hl (k.c x hx)
theorem iA.le {l out:List It} (hl:∀x∈l,ir G x=true) (k:iA G l out):out.length<=(vV G).length:=Nk k.s (k.is hl)
theorem iA.put {l out:List It} (k:iA G l out) {x:It} (hx:x∈out) (hs:nx G x=some s) (h0:s<0) {j:Nat} (hj:j<G.rs.length) (he:(G.rs[j]).l = -1-s):iA G l (put out ((j:Int),0)) :=
 ⟨JX k.s,fun y hy=>GV.2 (.inr (k.h y hy)),fun y hy=>(GV.1 hy).elim (fun e=>by rw[e];exact .on x (k.c x hx) s hs h0 j hj he) (k.c y)⟩
theorem iA.start (l:List It):iA G l (im [] l) :=
 ⟨Hw List.Pairwise.nil,fun x hx=>yC.2 (.inr hx),fun x hx=>(yC.1 hx).elim (fun h=>by cases h) fun h=>.of x h⟩
theorem iA.done {l out:List It} (hl:∀x∈l,ir G x=true) (k:iA G l out) (h:∀x∈out,∀s,nx G x=some s->s<0->∀j:Nat,∀hj:j<G.rs.length,(G.rs[j]).l = -1-s->((j:Int),0)∈out):out=jb G l:=NI hl k.s k.h k.c h
theorem Sb {out:List It} {x:It} (h:(put out x).length<=out.length):x∈out:=BX fun hn=>by
 have:=Ip hn
 omega
def lead (e:List (Int×Int)) (s:Int):Int:=((e.find? fun x=>x.1==s).map (·.2)).getD (-1)
def lZ (E:List (List (Int×Int))):Int->List Int->Option Int
 | q,[]=>if 0<=q/\q<E.length then some q else none
 | q,s::r=>if 0<=q/\q<E.length then lZ E (lead (E.getD q.toNat []) s) r else none
theorem qm {E:List (List (Int×Int))} {s:Int}:∀ {a:List Int} {q:Int},lZ E q (a++[s])=(lZ E q a).bind fun q1=>lZ E (lead (E.getD q1.toNat []) s) []
 | [],q=>by
  rw[CS,lZ,lZ];split <;> rfl
 | z::a,q=>by
  rw[Ct,lZ,lZ];split
  ·exact qm
  ·rfl
theorem ql {a b:List Int} {q:Int} (h:lZ E q a=none):lZ E q (a++b)=none:=by
 induction a generalizing q with
 | nil =>
  rw[lZ]at h;split at h
  ·cases h
  ·rename_i hq
   cases b with
   | nil=>rw[CS,lZ,AJ hq]
   | cons s r=>rw[CS,lZ,AJ hq]
 | cons z a ih =>
  rw[lZ]at h;rw[Ct,lZ];split
  ·rename_i hq
   rw[Az hq]at h;exact ih h
  ·rfl
theorem JC {x:It}:∀ {l:List It} (k:Nat),k<=l.length->(∀j (_:j<k) (hl:j<l.length),lt l[j] x=true)->put l x=l.take k++put (l.drop k) x
 | l,0,_,_=>by simp
 | [],k+1,hk,_=>by simp at hk
 | y::l,k+1,hk,h=>by
  have h0:=h 0 ω σ;have h0:lt y x=true:=h0
  have ih:=JC (x:=x) (l:=l) k (by simpa using hk) fun j hj hl=>by
   have:=h (j+1) ω (by simpa using hl)
   simpa using this
  rw[List.take_succ_cons,List.drop_succ_cons,Ct,<-ih,put];simp[h0]
theorem nI {x:It} {l:List It} (hk:k<l.length) (h:∀j (_:j<k) (hl:j<l.length),lt l[j] x=true) (he:l[k]=x):put l x=l:=by
 rw[JC k ω h,BJ hk,he,put];rw[kI];simp
 have:=DK k l
 rw[BJ hk,he]at this;exact this
theorem p6 {x:It} {l:List It} (hk:k<=l.length) (h:∀j (_:j<k) (hl:j<l.length),lt l[j] x=true) (hn:∀hl:k<l.length,lt l[k] x=false/\l[k]≠x):put l x=l.take k++[x]++l.drop k:=by
 rw[JC k hk h,Cd]
 congr 1
 rcases BM k l.length with h1|h1
 ·obtain⟨h2,h3⟩:=hn h1;rw[BJ h1,put];simp[h2,h3]
 ·rw[Cb h1];rfl
theorem Uy (l:List It) (x:It):(put l x).length<=l.length+1:=by
 induction l with
 | nil=>simp[put]
 | cons y l ih =>
  rw[put];split
  ·simp;omega
  ·split <;> simp
theorem sw (G:Gm.Gr) (l:List It) (s:Int):(mv G l s).length<=l.length:=by
 unfold mv;rw[Bh];exact CD _ _
theorem ur {a b:List It} (hl:a.length=b.length) (h:∀j (h:j<a.length) (h2:j<b.length),a[j]=b[j]):a=b:=Cu hl fun j h1 h2=>h j h1 h2
theorem pF {k:List It}:∀ {l:List (List It)} {i:Nat},(∀j (_:j<i) (hl:j<l.length),l[j]≠k)->∀(h:i<l.length),l[i]=k->ig l k=(i:Int)
 | [],i,_,h,_=>by simp at h
 | y::l,0,_,_,e=>by
  have e:y=k:=e;rw[ig,Az e];rfl
 | y::l,i+1,hn,h,e=>by
  have h0:y≠k:=hn 0 ω σ;have ih:=pF (k:=k) (l:=l) (i:=i) (fun j hj hl=>by have:=hn (j+1) ω (by simpa using hl);simpa using this) (by simpa using h) (by simpa using e);rw[ig,AJ h0,ih,AJ ω];omega
def kq (G:Gm.Gr) (x:It):List It:=match nx G x with
 | some s=>if s<0 then((List.range G.rs.length).filter fun k=>decide ((G.rs.getD k ⟨0,[],0⟩).l = -1-s)).map fun k:Nat=>((k:Int),(0:Int)) else []
 | none=>[]
def sP (G:Gm.Gr) (out:List It):List It:=im out (out.flatMap (kq G))
def td (G:Gm.Gr):Nat->List It->List It
 | 0,out=>out
 | n+1,out=>td G n (sP G out)
def FX (G:Gm.Gr) (l:List It):List It:=td G 41 (im [] l)
theorem FG {x z:It}:z∈kq G x ↔ ∃s,nx G x=some s/\s<0/\∃k:Nat,∃hk:k<G.rs.length,(G.rs[k]).l = -1-s/\z=((k:Int),0):=by
 unfold kq;cases hn:nx G x with
 | none=>simp
 | some s =>
  by_cases h0:s<0
  ·simp only[Az h0]
   constructor
   ·intro h;obtain⟨k,hk,rfl⟩:=Bo.1 h;obtain⟨h1,h2⟩:=Cc.1 hk;have h1:=BU.1 h1;rw[Bj,Aw,AH h1,Bu]at h2;exact⟨s,rfl,h0,k,h1,h2,rfl⟩
   ·rintro⟨s',e,_,k,hk,hl,rfl⟩;injection e with e;subst e;refine Bo.2 ⟨k,Cc.2 ⟨BU.2 hk,?_⟩,rfl⟩;rw[Bj,Aw,AH hk,Bu];exact hl
  ·simp only[AJ h0]
   constructor
   ·intro h;cases h
   ·rintro⟨s',e,h1,_⟩;injection e with e;omega
theorem iA.sP {l out:List It} (k:iA G l out):iA G l (sP G out):=by
 refine⟨Hw k.s,fun x hx=>yC.2 (.inl (k.h x hx)),fun x hx=>?_⟩;rcases yC.1 hx with h|h
 ·exact k.c x h
 ·obtain⟨y,hy,hz⟩:=CJ.1 h;obtain⟨s,hs,h0,j,hj,hl,rfl⟩:=FG.1 hz;exact .on y (k.c y hy) s hs h0 j hj hl
theorem iA.td {G:Gm.Gr} {l:List It}:∀(n:Nat) {out:List It},iA G l out->iA G l (td G n out)
 | 0,_,k=>k
 | n+1,_,k=>iA.td n k.sP
theorem kD {l:List It} (hl:∀x∈l,ir G x=true) (h:sP G (FX G l)=FX G l):jb G l=FX G l:=by
 have k:iA G l (FX G l):=iA.td 41 (iA.start l);refine(k.done hl fun x hx s hs h0 j hj he=>?_).symm;rw[<-h];exact yC.2 (.inr (CJ.2 ⟨x,hx,FG.2 ⟨s,hs,h0,j,hj,he,rfl⟩⟩))
def IK (G:Gm.Gr):Nat->List (List It)->List (List (Int×Int))->Option (List (List It)×List (List (Int×Int)))
 | 0,_,_=>none
 | f+1,ks,es=>if es.length<ks.length then
   let c:=FX G (ks.getD es.length [])
   let o:=fZ G c (ks,[]) (syms G)
   if sP G c=c then(if 300<o.1.length then none else IK G f o.1 (es++[o.2])) else none
  else some (ks,es)
theorem NX {G:Gm.Gr}:∀(f:Nat) (ks:List (List It)) (es:List (List (Int×Int))),Inv G ks es->∀r,IK G f ks es=some r->run G f ks es=some r
 | 0,_,_,_,_,h=>by cases h
 | f+1,ks,es,hi,r,h=>by
  rw[IK]at h;rw[run];split at h
  ·rename_i b
   rw[Az b];simp only at h;split at h
   ·rename_i hc
    have hm:ks.getD es.length []∈ks:=by
     rw[Aw,AH b,Bu];exact AD b
    have e:=kD (hi.it _ hm).2 hc;have e2:one G ks es.length=fZ G (FX G (ks.getD es.length [])) (ks,[]) (syms G):=by unfold one;rw[e]
    rw[<-e2]at h;split at h
    ·cases h
    ·rename_i h3
     rw[AJ h3];exact NX f _ _ (hi.step b) r h
   ·cases h
  ·rename_i b
   rw[AJ b];exact h
theorem yi {r:List (List It)×List (List (Int×Int))} (h:IK G 302 [[(-1,0)]] []=some r):ku G=some r:=NX 302 _ _ (Inv.start G) r h
def jI (k:List It):List Int:=k.flatMap fun x=>[x.1+1,x.2]
theorem MA:∀ {a b:List It},jI a=jI b->a=b
 | [],[],_=>rfl
 | [],y::b,h=>by simp[jI]at h
 | x::a,[],h=>by simp[jI]at h
 | x::a,y::b,h=>by
  have h:(x.1+1)::x.2::jI a=(y.1+1)::y.2::jI b:=h;injection h with h1 h;injection h with h2 h;rw[MA h,show x=y from EA ω h2]
theorem sK (k:List It):(jI k).length=k.length*2:=by
 induction k with
 | nil=>rfl
 | cons x k ih =>
  have e:jI (x::k)=(x.1+1)::x.2::jI k:=rfl;rw[e,Bz,Bz,Bz,ih];omega
theorem vH (k:List It) (x:It):jI (k++[x])=jI k++[x.1+1,x.2]:=by simp[jI]
theorem zL (aa:Gm.Ok G) (hr:G.rs.length<=40) {k:List It} (h:∀x∈k,ir G x=true):∀z∈jI k,0<=z/\z<=255:=fun z hz=>by
 obtain⟨x,hx,hz⟩:=CJ.1 hz;have hi:=gj.1 (h x hx);have h6:=qe aa (jD.2 hi.1);rcases BB.1 hz with rfl|hz
 ·omega
 ·rw[AW.1 hz];omega
def lP (l:List (List Int×Value)) (ks:List (List It)):Prop:=∀k:List It,Mw.fH l (jI k)=if ig ks k<0 then none else some (.int .i64 (ig ks k))
theorem lP.nil:lP [] []:=fun k=>by simp[Mw.fH,ig]
theorem Ml {k k':List It}:∀ {ks:List (List It)},ig (ks++[k]) k'=if ig ks k'<0 then(if k=k' then(ks.length:Int) else -1) else ig ks k'
 | []=>by simp[ig]
 | y::ks=>by
  have ih:=Ml (k:=k) (k':=k') (ks:=ks);rw[Ct,ig,ig,ih];by_cases e:y=k'
  ·simp[e]
  ·simp only[AJ e];by_cases h1:ig ks k'<0
   ·simp only[Az h1];by_cases h2:k=k'
    ·simp only[Az h2,Bz];rw[AJ ω];simp
    ·simp only[AJ h2];simp
   ·simp only[AJ h1];rw[AJ ω]
theorem lP.snoc {l:List (List Int×Value)} {ks:List (List It)} {k:List It} (h:lP l ks) (hn:ig ks k<0):lP (l++[(jI k,.int .i64 ks.length)]) (ks++[k]):=fun k'=>by
 have h0:Mw.fH l (jI k)=none:=by rw[h k,Az hn]
 rw[Mw.kS h0,Ml];by_cases e:k=k'
 ·subst e;rw[Az rfl,Az hn,Az rfl,AJ ω]
 ·rw[AJ (fun q=>e (MA q)),h k'];by_cases h1:ig ks k'<0
  ·simp[h1,e]
  ·simp[h1]
theorem q8 (G:Gm.Gr) (a b:List It) (s:Int):mv G (a++b) s=mv G a s++mv G b s:=by
 unfold mv;rw[CH,Bi]
theorem nG {x:It} (h:nx G x≠some s):mv G [x] s=[]:=by
 unfold mv;rw[CA,AJ (by simpa using h)];rfl
theorem zh {x:It} (h:nx G x=some s):mv G [x] s=[(x.1,x.2+1)]:=by
 unfold mv;rw[CA,Az (by rw[h];simp)];rfl
structure PC (G:Gm.Gr) (l:List It) (i:Nat) (xs:List It):Prop where
 nd:xs.Nodup
 h:∀x∈l,x∈xs
 c:∀x∈xs,Cl G l x
 d:∀j,j<i->∀x,xs[j]?=some x->∀z∈kq G x,z∈xs
theorem Jj:∀ {a b:List It},a.Nodup->(∀x∈a,x∈b)->a.length<=b.length
 | [],_,_,_=>by simp
 | x::a,b,hn,h=>by
  obtain⟨h1,h2⟩:=EX.1 hn;have hx:=h x Bn;have hp:=List.length_erase_of_mem hx;have aa:=List.length_pos_of_mem hx
  have ih:=Jj (a:=a) (b:=b.erase x) h2 fun y hy=>by
   have:y≠x:=fun e=>h1 (e▸hy)
   exact(List.mem_erase_of_ne this).2 (h y (Bq _ hy))
  rw[Bz];omega
theorem PC.le {l xs:List It} (hl:∀x∈l,ir G x=true) (k:PC G l i xs):xs.length<=(vV G).length :=
 Jj k.nd fun x hx=>Hq.2 (pB hl (k.c x hx))
def iM (xs:List It) (z:It):List It:=if z∈xs then xs else xs++[z]
theorem R5 {xs:List It} {z y:It}:y∈iM xs z↔y=z\/y∈xs:=by
 unfold iM;split
 ·rename_i h
  exact⟨.inr,fun q=>q.elim (fun e=>e▸h) id⟩
 ·rw[Bs,AW];exact Or.comm
theorem Ts {xs:List It} {z:It} (h:xs.Nodup):(iM xs z).Nodup:=by
 unfold iM;split
 ·exact h
 ·rename_i hz
  refine Cz.2 ⟨h,σ,fun a ha b hb=>?_⟩;rw[AW.1 hb];exact fun e=>hz (e▸ha)
theorem Tt {xs:List It} {z:It} {j:Nat} (h:j<xs.length):(iM xs z)[j]?=xs[j]?:=by
 unfold iM;split
 ·rfl
 ·rw[BQ h]
theorem L0 {xs:List It} {z:It}:xs.length<=(iM xs z).length:=by
 unfold iM;split
 ·exact Af _
 ·simp
def gi (xs zs:List It):List It:=zs.foldl iM xs
theorem mw (xs zs:List It) (z:It):gi xs (zs++[z])=iM (gi xs zs) z:=by simp[gi]
theorem zO {y:It}:∀ {zs xs:List It},y∈gi xs zs↔y∈zs\/y∈xs
 | [],xs=>by simp[gi]
 | z::zs,xs=>by
  have:=zO (y:=y) (zs:=zs) (xs:=iM xs z)
  rw[show gi xs (z::zs)=gi (iM xs z) zs from rfl,this,R5,BB]
  constructor
  ·rintro(h|h|h)
   ·exact .inl (.inr h)
   ·exact .inl (.inl h)
   ·exact .inr h
  ·rintro((h|h)|h)
   ·exact .inr (.inl h)
   ·exact .inl h
   ·exact .inr (.inr h)
theorem JG:∀ {zs xs:List It},xs.Nodup->(gi xs zs).Nodup
 | [],_,h=>h
 | _::zs,_,h=>JG (zs:=zs) (Ts h)
theorem lJ:∀ {zs xs:List It},xs.length<=(gi xs zs).length
 | [],_=>Af _
 | z::zs,xs=>Ah L0 (lJ (zs:=zs) (xs:=iM xs z))
theorem LZ {j:Nat}:∀ {zs xs:List It},j<xs.length->(gi xs zs)[j]?=xs[j]?
 | [],_,_=>rfl
 | z::zs,xs,h=>(LZ (zs:=zs) (xs:=iM xs z) (Aj h L0)).trans (Tt h)
theorem PC.start (G:Gm.Gr) (l:List It):PC G l 0 (gi [] l) :=
 ⟨JG List.nodup_nil,fun x hx=>zO.2 (.inl hx),fun x hx=>(zO.1 hx).elim (fun h=>.of x h) (fun h=>by cases h),fun j hj=>absurd hj (Dj _)⟩
theorem PC.next {l xs:List It} (k:PC G l i xs) {x:It} (hx:xs[i]?=some x):PC G l (i+1) (gi xs (kq G x)):=by
 refine⟨JG k.nd,fun y hy=>zO.2 (.inr (k.h y hy)),fun y hy=>?_,fun j hj y hy z hz=>?_⟩
 ·rcases zO.1 hy with h|h
  ·obtain⟨s,hs,h0,j,hj,hl,rfl⟩:=FG.1 h;exact .on x (k.c x (C8 hx)) s hs h0 j hj hl
  ·exact k.c y h
 ·have aa:i<xs.length:=(Bk.1 hx).1;rw[LZ ω]at hy;rcases BM j i with h|h
  ·exact zO.2 (.inr (k.d j h y hy z hz))
  ·obtain rfl:j=i:=ω
   rw[hx]at hy;injection hy with hy;subst hy;exact zO.2 (.inl hz)
theorem PC.done {l xs out:List It} (hl:∀x∈l,ir G x=true) (k:PC G l xs.length xs) (hs:jY out) (hm:∀x,x∈out↔x∈xs):out=jb G l:=by
 refine NI hl hs (fun x hx=>(hm x).2 (k.h x hx)) (fun x hx=>k.c x ((hm x).1 hx)) fun x hx s hs h0 j hj he=>(hm _).2 ?_;obtain⟨q,hq,e⟩:=BG ((hm x).1 hx);exact k.d q hq x (by rw[AH hq,e]) _ (FG.2 ⟨s,hs,h0,j,hj,he,rfl⟩)
theorem zG {xs out:List It} (hn:xs.Nodup) (hp:out.Perm xs) (hs:out.Pairwise fun a b=>lt b a=false):jY out:=by
 have ab:out.Nodup:=hp.nodup_iff.2 hn;refine(Da.2 fun i j hi hj aa=>?_);have h1:=Da.1 hs i j hi hj aa;have h2:=Da.1 (BZ.1 ab) i j hi hj aa;exact uE h1 (Ne.symm h2)
end Au
namespace Lk
open Au Gm Go.Mw
abbrev MP:=List ((Int×Int)×Nat)
def gN (M:MP) (x:Int×Int):Nat:=(fH M x).getD 0
def qE (M:MP) (x:Int×Int) (v:Nat):MP:=hX M x (gN M x ||| v)
theorem T4 {M:MP} {x y:Int×Int} {v:Nat}:gN (hX M x v) y=if x=y then v else gN M y:=by
 unfold gN;rw[j6];split <;> rfl
theorem FQ {M:MP} {x y:Int×Int} {v:Nat}:gN (qE M x v) y=if x=y then gN M x ||| v else gN M y:=T4
def gY (M:MP):List ((Int×Int)×Value):=M.map fun p=>(p.1,.int .u32 (p.2:Int))
theorem od {x:Int×Int}:∀ {M:MP},fH (gY M) x=(fH M x).map fun v:Nat=>(.int .u32 (v:Int):Value)
 | []=>rfl
 | (k,u)::r=>by
  have ih:=od (x:=x) (M:=r);unfold gY at ih ⊢;rw[Bw];unfold fH;split
  ·rfl
  ·exact ih
theorem oj {x:Int×Int} {v:Nat}:∀ {M:MP},hX (gY M) x (.int .u32 (v:Int))=gY (hX M x v)
 | []=>rfl
 | (k,u)::r=>by
  have ih:=oj (x:=x) (v:=v) (M:=r);unfold gY at ih ⊢;rw[Bw];unfold hX;split
  ·rfl
  ·rw[ih,Bw]
theorem qV (M:MP) (x:Int×Int):(fH (gY M) x).getD (.int .u32 0)=.int .u32 (gN M x:Int):=by
 rw[od];unfold gN;cases fH M x <;> rfl
def pc (v:Nat):Nat:=(List.range 32).countP fun t=>v.testBit t
theorem S5:pc 0=0:=δ
theorem U9 (v:Nat):pc v<=32:=by
 unfold pc
 have:=List.countP_le_length (p:=fun t=>v.testBit t) (l:=List.range 32)
 simpa using this
theorem LP {p q:Nat->Bool}:∀ {l:List Nat},(∀x∈l,p x=true->q x=true)->(∃y∈l,q y=true/\p y=false)->l.countP p<l.countP q
 | [],_,h=>by obtain⟨y,hy,_⟩:=h;cases hy
 | x::l,h1,h2=>by
  have hl:l.countP p<=l.countP q:=List.countP_mono_left fun y hy=>h1 y (Bq _ hy);rw[List.countP_cons,List.countP_cons];obtain⟨y,hy,hq,hp⟩:=h2;rcases BB.1 hy with rfl|hy
  ·rw[hq,hp];simp;omega
  ·have:=LP (l:=l) (fun z hz=>h1 z (Bq _ hz)) ⟨y,hy,hq,hp⟩
   have h3:=h1 x Bn;cases aa:p x
   ·simp;omega
   ·rw[h3 aa];simp;omega
theorem MJ {a v:Nat} (ha:a<4294967296) (hv:v<4294967296) (h:a ||| v≠a):pc a<pc (a ||| v):=by
 have ab:a ||| v<4294967296:=s6 ha hv;obtain⟨t,ht⟩:∃t,(a ||| v).testBit t≠a.testBit t:=BX fun hn=>h (C9 fun t=>BX fun k=>hn ⟨t,k⟩);have hi:a.testBit t=true->(a ||| v).testBit t=true:=fun k=>by rw[CU,k,DQ]
 have h1:(a ||| v).testBit t=true/\a.testBit t=false:=by
  cases e1:a.testBit t
  ·rw[e1]at ht;exact⟨by cases q:(a ||| v).testBit t <;> simp_all,rfl⟩
  ·rw[hi e1,e1]at ht;exact absurd rfl ht
 have aa:t<32:=by
  rcases BM t 32 with q|q
  ·exact q
  ·have:(a ||| v)<2 ^ t:=Aj ab (by have:=Co (n:=2) δ q;omega)
   rw[DZ this]at h1;cases h1.1
 exact LP (fun x _ k=>by rw[CU,k,DQ]) ⟨t,BU.2 aa,h1.1,h1.2⟩
def jh (M:MP):Nat:=(M.map fun p=>pc p.2).sum
theorem Nb {x:Int×Int} {v:Nat}:∀ {M:MP},jh (hX M x v)+pc (gN M x)=jh M+pc v
 | []=>by simp[jh,hX,gN,fH,S5]
 | (k,u)::r=>by
  have ih:=Nb (x:=x) (v:=v) (M:=r);unfold hX gN fH;unfold jh gN at *;split
  ·simp only[Bw,EW,Bu];omega
  ·simp only[Bw,EW];omega
theorem Mh {x:Int×Int} {v:Nat}:∀ {M:MP},(hX M x v).map Prod.fst=if fH M x=none then M.map Prod.fst++[x] else M.map Prod.fst
 | []=>rfl
 | (k,u)::r=>by
  have ih:=Mh (x:=x) (v:=v) (M:=r);unfold hX fH;by_cases h:k=x
  ·rw[Az h,Az h,AJ σ];rfl
  ·rw[AJ h,AJ h,Bw,ih];split <;> rfl
theorem Qs {M:MP} {x:Int×Int} {v:Nat} (h:(M.map Prod.fst).Nodup):((hX M x v).map Prod.fst).Nodup:=by
 rw[Mh];split
 ·rename_i hn
  rw[Cz];refine⟨h,σ,fun a ha c hc=>?_⟩;obtain⟨p,hp,rfl⟩:=Bo.1 ha;rw[AW.1 hc];exact FF.1 hn p hp
 ·exact h
theorem JN {x:Int×Int} {v:Nat} {p:(Int×Int)×Nat}:∀ {M:MP},p∈hX M x v->p∈M\/p=(x,v)
 | [],h=>by simpa[hX] using h
 | (k,u)::r,h=>by
  unfold hX at h;split at h
  ·rename_i e
   rcases BB.1 h with h|h
   ·right;rw[h,e]
   ·exact .inl (Bq _ h)
  ·rcases BB.1 h with h|h
   ·exact .inl (by rw[h];exact Bn)
   ·rcases JN h with h|h
    ·exact .inl (Bq _ h)
    ·exact .inr h
theorem ID {M:MP} {x:Int×Int} (h:gN M x≠0):(x,gN M x)∈M:=by
 unfold gN at h ⊢;cases e:fH M x with
 | none=>rw[e]at h;exact absurd rfl h
 | some v=>exact og e
def Sub (a b:Nat):Prop:=∀t:Nat,a.testBit t=true->b.testBit t=true
theorem Sub.refl (a:Nat):Sub a a:=fun _ h=>h
theorem Sub.trans {a c:Nat} (h:Sub a b) (k:Sub b c):Sub a c:=fun t e=>k t (h t e)
theorem Sub.inl (a b:Nat):Sub a (a ||| b):=fun t h=>by rw[CU,h,DQ]
theorem Sub.inr (a b:Nat):Sub b (a ||| b):=fun t h=>by rw[CU,h,Bool.or_true]
theorem Sub.ne {a:Nat} (h:Sub a b) (k:a≠0):b≠0:=by
 obtain⟨t,ht⟩:=CP k;exact yI (h t ht)
theorem Sub.of {a:Nat} (h:a ||| b=a):Sub b a:=fun t k=>by rw[<-h];exact Sub.inr a b t k
def kF (M M':MP):Prop:=∀y,Sub (gN M y) (gN M' y)
theorem kF.refl (M:MP):kF M M:=fun _=>Sub.refl _
theorem kF.or (M:MP) (x:Int×Int) (v:Nat):kF M (qE M x v):=fun y=>by
 rw[FQ];split
 ·rename_i e;rw[e];exact Sub.inl _ _
 ·exact Sub.refl _
theorem rh (M:MP) (x:Int×Int) (v:Nat):Sub v (gN (qE M x v) x):=by
 rw[FQ,Az rfl];exact Sub.inr _ _
theorem GZ {s j:Int}:∀ {e:List (Int×Int)},(e.map (·.1)).Nodup->(s,j)∈e->lead e s=j
 | [],_,h=>by cases h
 | x::e,hn,h=>by
  rw[Bw,EX]at hn;unfold lead;rw[List.find?_cons];by_cases hx:x.1=s
  ·rw[show(x.1==s)=true by simpa using hx];rcases BB.1 h with e1|e1
   ·rw[<-e1];rfl
   ·exact absurd (Bo.2 ⟨(s,j),e1,hx.symm⟩) hn.1
  ·rw[show(x.1==s)=false by simpa using hx];rcases BB.1 h with e1|e1
   ·exact absurd (by rw[<-e1]) hx
   ·exact GZ hn.2 e1
def GI (E:List (List (Int×Int))) (q:Nat) (s:Int):Nat:=(lead (E.getD q []) s).toNat
def sV (E:List (List (Int×Int))):Nat->List Int->Nat
 | q,[]=>q
 | q,s::r=>sV E (GI E q s) r
theorem mG {E:List (List (Int×Int))} {s:Int}:∀ {a:List Int} {q:Nat},sV E q (a++[s])=GI E (sV E q a) s
 | [],_=>rfl
 | _::a,_=>mG (a:=a)
section
variable {G:Gr} {K:List (List It)} {E:List (List (Int×Int))}
theorem ov (h:Inv G K E) (hi:i<E.length):(E[i].map (·.1)).Nodup:=by
 rw[(h.ed i hi).1];exact(mY G).filter _
theorem NH (h:Inv G K E) {j:Nat} (he:Ed E i s j):GI E i s=j:=by
 obtain⟨hi,he⟩:=he;unfold GI;rw[Aw,AH hi,Bu,GZ (ov h hi) he];omega
theorem NP (aa:Ok G) {r:Int} (h:z∈sy G r):z<G.ts.length/\-1-z<G.ns.length:=by
 unfold sy at h;split at h
 ·rw[AW.1 h]
  have:=aa.s0;have:=aa.s1
  omega
 ·rcases BM r.toNat G.rs.length with hk|hk
  ·rw[Aw,AH hk,Bu]at h
   have:=(fT (aa.rr _ (AD hk))).2.2.2 z h
   exact⟨this.1,this.2.1⟩
  ·rw[Aw,Ch hk,Option.getD_none]at h;cases h
theorem Kd (aa:Ok G) {x:It} (hl:La G E i x t):0<=t/\t<=G.ts.length:=by
 induction hl with
 | st=>omega
 | bg i x t s _ hs h0 k hk hl u hu ih=>exact⟨G2 hu,Int.le_of_lt (G7 aa (fun z hz=>(NP aa (C7 hz)).1) hu)⟩
 | nu i x t s _ hs h0 k hk hl hn ih=>exact ih
 | mv i x t s _ hs j he ih=>exact ih
def Wk (G:Gr) (E:List (List (Int×Int))) (i:Nat) (s t:Int):Prop:=∃x,nx G x=some s/\((Bg G t (rest G x)/\∃u,La G E i x u)\/Nu G (rest G x)/\La G E i x t)
theorem Wk.la (h:Wk G E i s t) (h0:s<0) (hk:k<G.rs.length) (hl:(G.rs[k]).l = -1-s):La G E i ((k:Int),0) t:=by
 obtain⟨x,hs,⟨hb,u,hu⟩|⟨hn,hu⟩⟩:=h
 ·exact .bg i x u s hu hs h0 k hk hl t hb
 ·exact .nu i x t s hu hs h0 k hk hl hn
theorem Wk.start (G:Gr) (E:List (List (Int×Int))):Wk G E 0 (-1-G.st) G.ts.length:=⟨(-1,0),rfl,.inr ⟨by have e:rest G (-1,0)=[]:=rfl;rw[e];exact mM G,.st⟩⟩
theorem Wk.le (aa:Ok G) (h:Wk G E i s t):0<=t/\t<=G.ts.length:=by
 obtain⟨x,hs,⟨hb,_⟩|⟨_,hu⟩⟩:=h
 ·exact⟨G2 hb,Int.le_of_lt (G7 aa (fun z hz=>(NP aa (C7 hz)).1) hb)⟩
 ·exact Kd aa hu
noncomputable def sA (G:Gr) (v:Nat) (r:List Int):Nat:=jG (gn false G.rs G.ns.length) (fst G) v r
def oZ (G:Gr) (E:List (List (Int×Int))) (M:MP) (q v k d:Nat):Prop :=
 ∀hk:k<G.rs.length,∀d',d'<d->∀hd:d'<(G.rs[k]).r.length,(G.rs[k]).r[d']<0->Sub (sA G v ((G.rs[k]).r.drop (d'+1))) (gN M ((sV E q ((G.rs[k]).r.take d'):Nat),(G.rs[k]).r[d']))
def F3 (G:Gr) (E:List (List (Int×Int))) (D:MP) (q v k:Nat):Prop:=∀hk:k<G.rs.length,Sub v (gN D ((sV E q (G.rs[k]).r:Nat),(k:Int)))
def o4 (G:Gr) (E:List (List (Int×Int))) (M D:MP) (q:Nat) (s:Int) (v n:Nat):Prop :=
 ∀k,∀hk:k<G.rs.length,k<n->(G.rs[k]).l = -1-s->oZ G E M q v k (G.rs[k]).r.length/\F3 G E D q v k
def Pd (G:Gr) (E:List (List (Int×Int))) (M D:MP) (x:Int×Int):Prop:=o4 G E M D x.1.toNat x.2 (gN M x) G.rs.length
theorem oZ.mono {M M':MP} {q v:Nat} (h:oZ G E M q v k d) (hm:kF M M'):oZ G E M' q v k d:=fun hk d' hd hl h0=>(h hk d' hd hl h0).trans (hm _)
theorem F3.mono {D D':MP} {q v:Nat} (h:F3 G E D q v k) (hm:kF D D'):F3 G E D' q v k:=fun hk=>(h hk).trans (hm _)
theorem o4.mono {M M' D D':MP} {q v n:Nat} {s:Int} (h:o4 G E M D q s v n) (hm:kF M M') (hd:kF D D'):o4 G E M' D' q s v n:=fun k hk hn hl=>⟨(h k hk hn hl).1.mono hm,(h k hk hn hl).2.mono hd⟩
theorem oZ.zero (M:MP) (q v k:Nat):oZ G E M q v k 0:=fun _ _ h=>absurd h (Dj _)
theorem oZ.step {M:MP} {q v:Nat} (h:oZ G E M q v k d) (hs:∀hk:k<G.rs.length,∀hd:d<(G.rs[k]).r.length,(G.rs[k]).r[d]<0->Sub (sA G v ((G.rs[k]).r.drop (d+1))) (gN M ((sV E q ((G.rs[k]).r.take d):Nat),(G.rs[k]).r[d]))):oZ G E M q v k (d+1):=fun hk d' hd hl h0=>by
 by_cases e:d'=d
 ·subst e;exact hs hk hl h0
 ·exact h hk d' ω hl h0
theorem o4.zero (M D:MP) (q v:Nat) (s:Int):o4 G E M D q s v 0:=fun _ _ h=>absurd h (Dj _)
theorem o4.step {M D:MP} {q v:Nat} (h:o4 G E M D q s v n) (hs:∀hk:n<G.rs.length,(G.rs[n]).l = -1-s->oZ G E M q v n (G.rs[n]).r.length/\F3 G E D q v n):o4 G E M D q s v (n+1):=fun k hk hn hl=>by
 by_cases e:k=n
 ·subst e;exact hs hk hl
 ·exact h k hk ω hl
structure WB (G:Gr) (K:List (List It)) (E:List (List (Int×Int))) (M D:MP) (st:List (Int×Int)):Prop where
 mn:(M.map Prod.fst).Nodup
 mq:∀p∈M,∃i:Nat,i<K.length/\p.1.1=i/\p.1.2<0/\-1-p.1.2<G.ns.length/\p.2≠0/\p.2<4294967296
 ms:∀(i:Nat) (s:Int) (t:Nat),(gN M ((i:Int),s)).testBit t=true->Wk G E i s t
 dk:∀p∈D,p.2≠0/\p.2<4294967296
 ds:∀(i k t:Nat),(gN D ((i:Int),(k:Int))).testBit t=true->∃hk:k<G.rs.length,La G E i ((k:Int),((G.rs[k]).r.length:Int)) t
 s0:(gN M (0,-1-G.st)).testBit G.ts.length=true
 sk:∀x∈st,gN M x≠0
structure WI (G:Gr) (K:List (List It)) (E:List (List (Int×Int))) (M D:MP) (st:List (Int×Int)):Prop where
 b:WB G K E M D st
 cl:∀x,gN M x≠0->x∈st\/Pd G E M D x
structure WP (G:Gr) (K:List (List It)) (E:List (List (Int×Int))) (q:Nat) (s:Int) (v:Nat) (M D:MP) (st:List (Int×Int)):Prop where
 b:WB G K E M D st
 ot:∀x,x≠((q:Int),s)->gN M x≠0->x∈st\/Pd G E M D x
 me:((q:Int),s)∈st\/gN M ((q:Int),s)=v
 v0:v≠0
 vl:v<4294967296
 q1:q<K.length
 s1:s<0
 vs:∀t:Nat,v.testBit t=true->Wk G E q s t
theorem WB.lt {M D:MP} {st:List (Int×Int)} (h:WB G K E M D st) (x:Int×Int):gN M x<4294967296:=by
 by_cases e:gN M x=0
 ·omega
 ·obtain⟨_,_,_,_,_,_,h2⟩:=h.mq _ (ID e);exact h2
theorem WB.Ks {M D:MP} {st:List (Int×Int)} (h:WB G K E M D st) (x:Int×Int):gN D x<4294967296:=by
 by_cases e:gN D x=0
 ·omega
 ·exact(h.dk _ (ID e)).2
theorem N4 {a:Nat} (h:b≠0):a ||| b≠0:=(Sub.inr a b).ne h
theorem WB.visit {M D:MP} {st:List (Int×Int)} (h:WB G K E M D st) {more:Nat} (hi:i<K.length) (hz:z<0) (aa:-1-z<G.ns.length) (hm:more<4294967296) (h0:more≠0) (hw:∀t:Nat,more.testBit t=true->Wk G E i z t):WB G K E (qE M ((i:Int),z) more) D (st++[((i:Int),z)]):=by
 refine⟨Qs h.mn,fun p hp=>?_,fun i' s t ht=>?_,h.dk,h.ds,kF.or M _ _ _ _ h.s0,fun x hx=>?_⟩
 ·rcases JN hp with hp|rfl
  ·exact h.mq p hp
  ·exact⟨i,hi,rfl,hz,aa,N4 h0,s6 (h.lt _) hm⟩
 ·rw[FQ]at ht;split at ht
  ·rename_i e
   injection e with e1 e2;have e1:i=i':=ω
   subst e1 e2;rw[CU,CR]at ht;rcases ht with ht|ht
   ·exact h.ms _ _ _ ht
   ·exact hw t ht
  ·exact h.ms _ _ _ ht
 ·rcases Bs.1 hx with hx|hx
  ·exact(kF.or M ((i:Int),z) more x).ne (h.sk x hx)
  ·rw[AW.1 hx];exact(rh M ((i:Int),z) more).ne h0
theorem Pd.mono {M M' D D':MP} {x:Int×Int} (h:Pd G E M D x) (hm:kF M M') (hd:kF D D') (he:gN M' x=gN M x):Pd G E M' D' x:=by
 unfold Pd at h ⊢;rw[he];exact o4.mono h hm hd
theorem WP.visit {q v:Nat} {s:Int} {M D:MP} {st:List (Int×Int)} (h:WP G K E q s v M D st) {i:Nat} {z:Int} {more:Nat} (hi:i<K.length) (hz:z<0) (aa:-1-z<G.ns.length) (hm:more<4294967296) (h0:more≠0) (hw:∀t:Nat,more.testBit t=true->Wk G E i z t):WP G K E q s v (qE M ((i:Int),z) more) D (st++[((i:Int),z)]):=by
 refine⟨h.b.visit hi hz aa hm h0 hw,fun x hx hn=>?_,?_,h.v0,h.vl,h.q1,h.s1,h.vs⟩
 ·by_cases e:((i:Int),z)=x
  ·exact .inl (DJ _ (by rw[e];exact AW.2 rfl))
  ·have he:gN (qE M ((i:Int),z) more) x=gN M x:=by rw[FQ,AJ e]
   rw[he]at hn;rcases h.ot x hx hn with k|k
   ·exact .inl (Dw _ k)
   ·exact .inr (k.mono (kF.or _ _ _) (kF.refl _) he)
 ·by_cases e:((i:Int),z)=((q:Int),s)
  ·exact .inl (DJ _ (by rw[e];exact AW.2 rfl))
  ·rcases h.me with k|k
   ·exact .inl (Dw _ k)
   ·exact .inr (by rw[FQ,AJ e];exact k)
theorem WP.put {q v:Nat} {M D:MP} {st:List (Int×Int)} (h:WP G K E q s v M D st) {j:Nat} (hk:k<G.rs.length) (hw:∀t:Nat,v.testBit t=true->La G E j ((k:Int),((G.rs[k]).r.length:Int)) t):WP G K E q s v M (qE D ((j:Int),(k:Int)) v) st:=by
 refine⟨⟨h.b.mn,h.b.mq,h.b.ms,fun p hp=>?_,fun i' k' t ht=>?_,h.b.s0,h.b.sk⟩,fun x hx hn=>?_,h.me,h.v0,h.vl,h.q1,h.s1,h.vs⟩
 ·rcases JN hp with hp|rfl
  ·exact h.b.dk p hp
  ·exact⟨N4 h.v0,s6 (h.b.Ks _) h.vl⟩
 ·rw[FQ]at ht;split at ht
  ·rename_i e
   injection e with e1 e2;have e1:j=i':=ω
   have e2:k=k':=ω
   subst e1 e2;rw[CU,CR]at ht;rcases ht with ht|ht
   ·exact h.b.ds _ _ _ ht
   ·exact⟨hk,hw t ht⟩
  ·exact h.b.ds _ _ _ ht
 ·rcases h.ot x hx hn with k|k
  ·exact .inl k
  ·exact .inr (k.mono (kF.refl _) (kF.or _ _ _) rfl)
theorem WI.take {M D:MP} {st:List (Int×Int)} {x:Int×Int} (h:WI G K E M D (st++[x])):∃(q:Nat),x=((q:Int),x.2)/\WP G K E q x.2 (gN M x) M D st:=by
 have hx:gN M x≠0:=h.b.sk x (DJ _ (AW.2 rfl));obtain⟨q,h1,h2,h3,h4,h5,h6⟩:=h.b.mq _ (ID hx);have e:x=((q:Int),x.2):=EA h2 rfl;refine⟨q,e,⟨⟨h.b.mn,h.b.mq,h.b.ms,h.b.dk,h.b.ds,h.b.s0,fun y hy=>h.b.sk y (Dw _ hy)⟩,fun y hy hn=>?_,.inr (by rw[<-e]),hx,h6,h1,h3,fun t ht=>h.b.ms q x.2 t (by rw[<-e];exact ht)⟩⟩;rcases h.cl y hn with k|k
 ·rcases Bs.1 k with k|k
  ·exact .inl k
  ·exact absurd ((AW.1 k).trans e) hy
 ·exact .inr k
theorem WP.done {q v:Nat} {M D:MP} {st:List (Int×Int)} (h:WP G K E q s v M D st) (hp:o4 G E M D q s v G.rs.length):WI G K E M D st:=by
 refine⟨h.b,fun x hn=>?_⟩;by_cases e:x=((q:Int),s)
 ·subst e;rcases h.me with k|k
  ·exact .inl k
  ·refine .inr ?_;unfold Pd;rw[k];exact hp
 ·exact h.ot x e hn
theorem WI.start (h0:0<K.length) (aa:Ok G) (ht:G.ts.length<=24):WI G K E [((0,-1-G.st),2 ^ G.ts.length)] [] [(0,-1-G.st)]:=by
 have hp:0<2 ^ G.ts.length:=Nat.pow_pos δ;have ac:2 ^ G.ts.length<=2 ^ 24:=Co δ ht
 have hg:∀x,gN [((0,-1-G.st),2 ^ G.ts.length)] x=if((0:Int),-1-G.st)=x then 2 ^ G.ts.length else 0:=fun x=>by
  unfold gN fH;split <;> rfl
 refine⟨⟨σ,fun p ab=>?_,fun i s t ht=>?_,σ,fun i k t ht=>?_,?_,fun x hx=>?_⟩,fun x hn=>?_⟩
 ·rw[AW.1 ab];refine⟨0,h0,rfl,?_,?_,?_,?_⟩
  ·have:=aa.s0;simp only;omega
  ·have:=aa.s1;simp only;omega
  ·simp only;omega
  ·simp only;omega
 ·rw[hg]at ht;split at ht
  ·rename_i e
   injection e with e1 e2;have e1:0=i:=ω
   subst e1 e2;rw[CI,Bj]at ht;rw[<-ht];exact Wk.start G E
  ·simp at ht
 ·simp[gN,fH]at ht
 ·rw[hg,Az rfl,CI];simp
 ·rw[AW.1 hx,hg,Az rfl];omega
 ·rw[hg]at hn;split at hn
  ·rename_i e
   exact .inl (AW.2 e.symm)
  ·exact absurd rfl hn
theorem MX (hk:k<G.rs.length):rest G ((k:Int),(d:Int))=(G.rs[k]).r.drop (d+1):=by
 unfold rest;simp only[G5 hk,Cj]
theorem pX (hk:k<G.rs.length) (h:nx G ((k:Int),(d:Int))=some s):∃hd:d<(G.rs[k]).r.length,(G.rs[k]).r[d]=s:=by
 unfold nx at h;simp only[G5 hk,Cj]at h;exact Bk.1 h
theorem L7 {x:It} (h1:x.1 = -1) (h2:0<=x.2) (h:nx G x=some s):x=(-1,0)/\s = -1-G.st/\rest G x=[]:=by
 have aa:=N5 h2 h;have ab:sy G x.1=[-1-G.st]:=by rw[h1];rfl
 rw[ab]at aa;have e2:x.2=0:=by simp at aa;omega
 have e:x=(-1,0):=EA h1 e2;subst e;refine⟨rfl,?_,rfl⟩
 have:nx G (-1,0)=some (-1-G.st):=rfl
 rw[this]at h;injection h with h;exact h.symm
theorem WI.all {M D:MP} (h:WI G K E M D []) (hi:Inv G K E) (aa:Ok G) {q:Nat} {x:It} (hl:La G E q x t) :
  (x.1 = -1/\0<=x.2/\(x.2=0->q=0)/\t=G.ts.length) \/ ∃k,∃hk:k<G.rs.length,∃d q0 n:Nat,x=((k:Int),(d:Int))/\d<=(G.rs[k]).r.length/\t=(n:Int)/\sV E q0 ((G.rs[k]).r.take d)=q/\(gN M ((q0:Int),-1-(G.rs[k]).l)).testBit n=true:=by
 have key:∀(k:Nat) (hk:k<G.rs.length) (d q0 n:Nat) (q:Nat) (s:Int),d<=(G.rs[k]).r.length->sV E q0 ((G.rs[k]).r.take d)=q->(gN M ((q0:Int),-1-(G.rs[k]).l)).testBit n=true->nx G ((k:Int),(d:Int))=some s->s<0 ->
   Sub (sA G (gN M ((q0:Int),-1-(G.rs[k]).l)) (rest G ((k:Int),(d:Int)))) (gN M ((q:Int),s)):=by
  intro k hk d q0 n q s hd hf hb hs h0;obtain⟨g,e⟩:=pX hk hs;rcases h.cl _ (yI hb) with hc|hc
  ·cases hc
  ·have:=(hc k hk hk ω).1 hk d g g (by rw[e];exact h0)
   rw[Cj,hf,e]at this;rw[MX hk];exact this
 induction hl with
 | st=>exact .inl ⟨rfl,δ,fun _=>rfl,rfl⟩
 | bg i x t s _ hs h0 k hk hl u hu ih =>
  rcases ih with⟨h1,h2,_,_⟩|⟨k',f,d,q0,n,rfl,hd,rfl,hf,hb⟩
  ·rw[(L7 h1 h2 hs).2.2]at hu;exact absurd hu NJ
  ·have hp:=G2 hu
   have:=key k' f d q0 n i s hd hf hb hs h0 u.toNat ((vQ aa.iO _ _ _).2 (.inl (by rw[BH hp];exact hu)))
   exact .inr ⟨k,hk,0,i,u.toNat,rfl,Bb _,ω,rfl,by rw[hl,show -1-(-1-s)=s by omega];exact this⟩
 | nu i x t s _ hs h0 k hk hl hn ih =>
  rcases ih with⟨h1,h2,h3,h4⟩|⟨k',f,d,q0,n,rfl,hd,rfl,hf,hb⟩
  ·obtain⟨rfl,rfl,_⟩:=L7 h1 h2 hs;obtain rfl:=h3 rfl;exact .inr ⟨k,hk,0,0,G.ts.length,rfl,Bb _,h4,rfl,by rw[hl,show -1-(-1-(-1-G.st)) = -1-G.st by omega];exact h.b.s0⟩
  ·have:=key k' f d q0 n i s hd hf hb hs h0 n ((vQ aa.iO _ _ _).2 (.inr ⟨hn,hb⟩))
   exact .inr ⟨k,hk,0,i,n,rfl,Bb _,rfl,rfl,by rw[hl,show -1-(-1-s)=s by omega];exact this⟩
 | mv i x t s _ hs j he ih =>
  rcases ih with⟨h1,h2,h3,h4⟩|⟨k',f,d,q0,n,rfl,hd,rfl,hf,hb⟩
  ·exact .inl ⟨h1,by show 0<=x.2+1;omega,fun e=>by have e:x.2+1=0:=e;omega,h4⟩
  ·obtain⟨g,e⟩:=pX f hs;refine .inr ⟨k',f,d+1,q0,n,by rw[Int.natCast_succ],g,rfl,?_,hb⟩;rw[AP g,mG,hf,e];exact NH hi he
theorem WI.ends {M D:MP} (h:WI G K E M D []) (hi:Inv G K E) (aa:Ok G) (hk:k<G.rs.length) (t:Nat):(gN D ((i:Int),(k:Int))).testBit t=true↔La G E i ((k:Int),((G.rs[k]).r.length:Int)) t:=by
 constructor
 ·intro ht;exact(h.b.ds i k t ht).2
 ·intro hl;rcases h.all hi aa hl with⟨h1,_⟩|⟨k',ab,d,q0,n,e,hd,en,hf,hb⟩
  ·simp only at h1;omega
  ·injection e with e1 e2;have e1:k=k':=ω
   subst e1;have e2:(G.rs[k]).r.length=d:=ω
   have en:t=n:=ω
   subst e2 en;rw[Bp]at hf;rcases h.cl _ (yI hb) with hc|hc
   ·cases hc
   ·have:=(hc k hk hk ω).2 hk t hb
    rw[Cj,hf]at this;exact this
noncomputable def xj (G:Gr) (E:List (List (Int×Int))) (q:Nat) (x:It):Nat:=An (fun t=>La G E q x (t:Int)) (G.ts.length+1)
theorem MR (aa:Ok G) (q:Nat) (x:It) (t:Nat):(xj G E q x).testBit t=true↔La G E q x t:=by
 unfold xj;rw[Mb];exact⟨fun h=>h.2,fun h=>⟨by have:=(Kd aa h).2;omega,h⟩⟩
theorem uB (ht:G.ts.length<=24) (q:Nat) (x:It):xj G E q x<4294967296:=by
 have h1:=SB (fun t=>La G E q x (t:Int)) (G.ts.length+1);have h2:2 ^ (G.ts.length+1)<=2 ^ 25:=Co δ ω;unfold xj;omega
def en (G:Gr) (k:Nat):It:=((k:Int),((sy G (k:Int)).length:Int))
noncomputable def lW (G:Gr) (K:List (List It)) (E:List (List (Int×Int))) (q k:Nat):Option Nat:=if tr (en G k∈jb G (K.getD q []))=true then some (xj G E q (en G k)) else none
noncomputable def gh (G:Gr) (K:List (List It)) (E:List (List (Int×Int))) (q:Nat):List (Int×Int):=(List.range G.rs.length).filterMap fun k=>(lW G K E q k).map fun v=>((k:Int),(v:Int))
theorem Vx (hk:k<G.rs.length):en G k=((k:Int),((G.rs[k]).r.length:Int)):=by unfold en;rw[G5 hk]
theorem WI.at {M D:MP} (h:WI G K E M D []) (hi:Inv G K E) (hE:E.length=K.length) (aa:Ok G) (hp:∀x∈G.rs,Al true G.rs x.r) {i k:Nat} (ab:i<K.length) (hk:k<G.rs.length):fH D ((i:Int),(k:Int))=lW G K E i k:=by
 have hb:∀t:Nat,(gN D ((i:Int),(k:Int))).testBit t=true↔La G E i (en G k) t:=fun t=>by rw[Vx hk];exact h.ends hi aa hk t
 have hv:gN D ((i:Int),(k:Int))=xj G E i (en G k):=C9 fun t=>Bx.2 ((hb t).trans (MR aa i _ t).symm);unfold lW;cases e:fH D ((i:Int),(k:Int)) with
 | none =>
  have h0:gN D ((i:Int),(k:Int))=0:=by unfold gN;rw[e];rfl
  rw[AJ];intro hm;obtain⟨t,ht⟩:=Ui hi hE hp i ab _ (fV.1 hm);have h1:=(Kd aa ht).1
  have:=(hb t.toNat).2 (by rw[BH h1];exact ht)
  rw[h0,Dl]at this;cases this
 | some v =>
  have h0:gN D ((i:Int),(k:Int))=v:=by unfold gN;rw[e];rfl
  have ac:=(h.b.dk _ (og e)).1;obtain⟨t,ht⟩:=CP ac;simp only at ht;have hl:=(hb t).1 (by rw[h0];exact ht);rw[Az (fV.2 (sn hi hl).2),<-hv,h0]
theorem WB.xc {M D:MP} {st:List (Int×Int)} (h:WB G K E M D st):jh M<=K.length*G.ns.length*32:=by
 have h1:∀l:List ((Int×Int)×Nat),(l.map fun p=>pc p.2).sum<=l.length*32:=by
  intro l;induction l with
  | nil=>simp
  | cons p l ih =>
   have:=U9 p.2
   simp only[Bw,EW,Bz];omega
 have h2:=h1 M
 have h3:(M.map Prod.fst).length<=((List.range K.length).flatMap fun i:Nat=>(List.range G.ns.length).map fun j:Nat=>(((i:Int),-1-(j:Int)):Int×Int)).length:=Jj h.mn fun x hx=>by
  obtain⟨p,hp,rfl⟩:=Bo.1 hx;obtain⟨i,k1,k2,k3,k4,_⟩:=h.mq p hp;refine CJ.2 ⟨i,BU.2 k1,Bo.2 ⟨(-1-p.1.2).toNat,BU.2 ω,?_⟩⟩;refine EA k2.symm ?_;simp only;omega
 have h4:((List.range K.length).flatMap fun i:Nat=>(List.range G.ns.length).map fun j:Nat=>(((i:Int),-1-(j:Int)):Int×Int)).length=K.length*G.ns.length:=by
  rw[List.length_flatMap]
  have:∀(f:Nat->List (Int×Int)) (n m:Nat),(∀i,(f i).length=m)->((List.range n).map fun i=>(f i).length).sum=n*m:=fun f n m hf=>by
   induction n with
   | zero=>simp
   | succ n ih=>rw[CM,Bi,List.sum_append,ih,Nat.succ_mul];simp[hf]
  exact this _ _ _ fun i=>by simp
 rw[Bh,h4]at h3
 have:=Dx 32 h3
 unfold jh;omega
theorem LQ {M:MP} {x:Int×Int} {v:Nat} (hx:gN M x<4294967296) (hv:v<4294967296) (h:gN M x ||| v≠gN M x):jh M<jh (qE M x v):=by
 have h1:=Nb (x:=x) (v:=gN M x ||| v) (M:=M);have h2:=MJ hx hv h;unfold qE;omega
end
end Lk
def vM (MM:Lk.MP) (x:Int×Int) (more:Nat):Lk.MP:=if Lk.gN MM x ||| more=Lk.gN MM x then MM else Lk.qE MM x more
def vS (MM:Lk.MP) (st:List (Int×Int)) (x:Int×Int) (more:Nat):List (Int×Int):=if Lk.gN MM x ||| more=Lk.gN MM x then st else st++[x]
namespace Lk
open Au Gm Go.Mw
structure On (MM DD:MP) (st:List (Int×Int)) (MM' DD':MP) (st':List (Int×Int)):Prop where
 m:kF MM MM'
 d:kF DD DD'
 c:jh MM<=jh MM'
 l:st'.length+jh MM<=st.length+jh MM'
theorem kF.trans {a b c:MP} (h:kF a b) (k:kF b c):kF a c:=fun y=>(h y).trans (k y)
theorem On.refl (MM DD:MP) (st:List (Int×Int)):On MM DD st MM DD st:=⟨kF.refl _,kF.refl _,Af _,Af _⟩
theorem On.trans {M1 D1 M2 D2 M3 D3:MP} {s1 s2 s3:List (Int×Int)} (h:On M1 D1 s1 M2 D2 s2) (k:On M2 D2 s2 M3 D3 s3):On M1 D1 s1 M3 D3 s3 :=
 ⟨h.m.trans k.m,h.d.trans k.d,Ah h.c k.c,by have:=h.l;have:=k.l;omega⟩
section
variable {G:Gr} {K:List (List It)} {E:List (List (Int×Int))}
theorem WP.Od {q v:Nat} {M D:MP} {st:List (Int×Int)} (h:WP G K E q s v M D st) {more:Nat} (hi:i<K.length) (hz:z<0) (aa:-1-z<G.ns.length) (hm:more<4294967296) (h0:more≠0) (hw:∀t:Nat,more.testBit t=true->Wk G E i z t) :
  WP G K E q s v (vM M ((i:Int),z) more) D (vS M st ((i:Int),z) more)/\On M D st (vM M ((i:Int),z) more) D (vS M st ((i:Int),z) more)/\Sub more (gN (vM M ((i:Int),z) more) ((i:Int),z)):=by
 unfold vM vS;by_cases e:gN M ((i:Int),z) ||| more=gN M ((i:Int),z)
 ·rw[Az e,Az e];exact⟨h,On.refl _ _ _,Sub.of e⟩
 ·rw[AJ e,AJ e];refine⟨h.visit hi hz aa hm h0 hw,⟨kF.or _ _ _,kF.refl _,Cx (LQ (h.b.lt _) hm e),?_⟩,rh _ _ _⟩
  have:=LQ (h.b.lt ((i:Int),z)) hm e
  rw[AZ,BC];omega
theorem zy {M D:MP} {st:List (Int×Int)} (x:Int×Int) (v:Nat):On M D st M (qE D x v) st:=⟨kF.refl _,kF.or _ _ _,Af _,Af _⟩
theorem WP.wP {q v:Nat} {M D:MP} {st:List (Int×Int)} (h:WP G K E q s v M D st) (hk:k<G.rs.length) (hl:(G.rs[k]).l = -1-s):∀t:Nat,v.testBit t=true->La G E q ((k:Int),((0:Nat):Int)) t:=fun t ht=>(h.vs t ht).la h.s1 hk hl
theorem WI.xO {M D:MP} {st:List (Int×Int)} {x:Int×Int} (h:WI G K E M D (st++[x])):-1-x.2<G.ns.length:=by
 have hx:gN M x≠0:=h.b.sk x (DJ _ (AW.2 rfl));obtain⟨q,h1,h2,h3,h4,h5,h6⟩:=h.b.mq _ (ID hx);exact h4
theorem zA {P:Nat} (h:P<4294967296) (h0:P≠0) (x:Int×Int):1<=jh [(x,P)]:=by
 have:=MJ (a:=0) (v:=P) δ h (by rw[Nat.zero_or];exact h0)
 rw[Nat.zero_or]at this;unfold jh;simp only[Bw,Dh,EW,List.sum_nil];omega
theorem wR (hi:Inv G K E) (hE:E.length=K.length) (ab:Ok G) {a v:Nat} (hv:v≠0) (hk:k<G.rs.length) (hd:d<(G.rs[k]).r.length) (aa:∀t:Nat,v.testBit t=true->La G E a ((k:Int),(d:Int)) t) :
  a<K.length/\nx G ((k:Int),(d:Int))=some (G.rs[k]).r[d]/\∃j:Nat,Ed E a (G.rs[k]).r[d] j/\GI E a (G.rs[k]).r[d]=j/\∀t:Nat,v.testBit t=true->La G E j ((k:Int),((d+1:Nat):Int)) t:=by
 obtain⟨t,ht⟩:=CP hv;obtain⟨h1,h2⟩:=sn hi (aa t ht)
 have hs:nx G ((k:Int),(d:Int))=some (G.rs[k]).r[d]:=by
  unfold nx;simp only[G5 hk,Cj];exact AH hd
 obtain⟨j,he,_⟩:=hi.ji hE ab h1 h2 hs;exact⟨h1,hs,j,he,NH hi he,fun t ht=>La.mv a _ t _ (aa t ht) hs j he⟩
theorem UE (aa:Ok G) (ht:G.ts.length<=24) {v:Nat} (hv:v<4294967296) (hr:∀z∈r,z<G.ts.length):sA G v r<4294967296:=by
 have h1:∀t:Nat,(sA G v r).testBit t=true->t<32:=fun t k=>by
  rcases(vQ aa.iO _ _ _).1 k with k|k
  ·have:=G7 aa hr k;omega
  ·rcases BM t 32 with q|q
   ·exact q
   ·have:v<2 ^ t:=Aj hv (by have:=Co (n:=2) δ q;omega)
    rw[DZ this]at k;cases k.2
 have:sA G v r<2 ^ 32:=ES _ fun i hi=>by
  cases q:(sA G v r).testBit i
  ·rfl
  ·have:=h1 i q;omega
 omega
theorem wQ (b:Ok G) (ht:G.ts.length<=24) (hp:∀x∈G.rs,Al true G.rs x.r) {a v:Nat} (hv:v≠0) (ab:v<4294967296) (hk:k<G.rs.length) (hd:d<(G.rs[k]).r.length) (hs:nx G ((k:Int),(d:Int))=some (G.rs[k]).r[d]) (aa:∀t:Nat,v.testBit t=true->La G E a ((k:Int),(d:Int)) t) :
  sA G v ((G.rs[k]).r.drop (d+1))<4294967296/\sA G v ((G.rs[k]).r.drop (d+1))≠0/\∀t:Nat,(sA G v ((G.rs[k]).r.drop (d+1))).testBit t=true->Wk G E a (G.rs[k]).r[d] t:=by
 have ac:∀z∈(G.rs[k]).r.drop (d+1),z<G.ts.length:=fun z hz=>((fT (b.rr _ (AD hk))).2.2.2 z (C7 hz)).1;refine⟨UE b ht ab ac,?_,fun t k2=>⟨_,hs,?_⟩⟩
 ·rcases Kc (G:=G) (r:=(G.rs[k]).r.drop (d+1)) (fun y hy ad=>(hp _ (AD hk)).2 y (C7 hy) ad) with h|⟨u,hu⟩
  ·obtain⟨t,ht⟩:=CP hv;exact yI ((vQ b.iO _ t _).2 (.inr ⟨h,ht⟩))
  ·have h1:=G2 hu;exact yI (t:=u.toNat) ((vQ b.iO _ _ _).2 (.inl (by rw[BH h1];exact hu)))
 ·rw[MX hk];rcases(vQ b.iO _ _ _).1 k2 with h|h
  ·obtain⟨u,hu⟩:=CP hv;exact .inl ⟨h,_,aa u hu⟩
  ·exact .inr ⟨h.1,aa t h.2⟩
end
end Lk
def aZ (t:TypeId) (w:World) (a:Array Value) (wr:World):Prop:=Below (w.heap.size+1) (w.alloc (.cells a t)) wr
section
variable {t:TypeId} {w wr wt:World} {a:Array Value}
theorem aZ.start (t:TypeId) (w:World) (a:Array Value):aZ t w a (w.alloc (.cells a t)):=AB _ _
theorem aZ.size (h:aZ t w a wr):w.heap.size+1<=wr.heap.size:=by have:=Below.size h;simpa using this
theorem aZ.below (h:aZ t w a wr):β w wr:=((AB w.heap.size w).alloc (Af _) _).trans (Below.mono h ω)
theorem aZ.on (h:aZ t w a wr) (k:β wr wt):aZ t w a wt:=Fg h (k.mono h.size)
theorem aZ.drewN (h:aZ t w a wr) (n:Nat):aZ t w a (wr.drewN n):=aB h n
theorem aZ.alloc (h:aZ t w a wr) (o:Obj):aZ t w a (wr.alloc o):=Below.alloc h h.size o
theorem aZ.c (h:aZ t w a wr) (j:Nat) (u:Value) (hj:a[j]?=some u):wr.cell? ⟨w.heap.size,j,none⟩=some u:=by
 have b0:=(Ef h w.heap.size ω).trans (AI w _);exact(AF wr _ j _ _ _ b0).trans hj
end
def bA (t1 t2:TypeId) (w:World) (a b:Array Value) (wr:World):Prop:=Below (w.heap.size+2) ((w.alloc (.cells a t1)).alloc (.cells b t2)) wr
section
variable {t1 t2:TypeId} {w wr wt:World} {a b:Array Value}
theorem bA.start (t1 t2:TypeId) (w:World) (a b:Array Value):bA t1 t2 w a b ((w.alloc (.cells a t1)).alloc (.cells b t2)):=AB _ _
theorem bA.size (h:bA t1 t2 w a b wr):w.heap.size+2<=wr.heap.size:=by have:=Below.size h;simpa using this
theorem bA.below (h:bA t1 t2 w a b wr):β w wr:=(((AB w.heap.size w).alloc (Af _) _).alloc σ _).trans (Below.mono h ω)
theorem bA.on (h:bA t1 t2 w a b wr) (k:β wr wt):bA t1 t2 w a b wt:=Fg h (k.mono h.size)
theorem bA.drewN (h:bA t1 t2 w a b wr) (n:Nat):bA t1 t2 w a b (wr.drewN n):=aB h n
theorem bA.alloc (h:bA t1 t2 w a b wr) (o:Obj):bA t1 t2 w a b (wr.alloc o):=Below.alloc h h.size o
theorem bA.c1 (h:bA t1 t2 w a b wr) (j:Nat) (u:Value) (hj:a[j]?=some u):wr.cell? ⟨w.heap.size,j,none⟩=some u:=by
 have b0:=(Ef h w.heap.size ω).trans ((BD _ _ _ σ).trans (AI w (.cells a t1)));exact(AF wr _ j _ _ _ b0).trans hj
theorem bA.c2 (h:bA t1 t2 w a b wr) (j:Nat) (u:Value) (hj:b[j]?=some u):wr.cell? ⟨w.heap.size+1,j,none⟩=some u:=by
 have e:=AI (w.alloc (.cells a t1)) (.cells b t2);rw[show(w.alloc (.cells a t1)).heap.size=w.heap.size+1 by simp]at e;have b0:=(Ef h (w.heap.size+1) ω).trans e;exact(AF wr _ j _ _ _ b0).trans hj
end
open Go.ChangeShapes Go.WideShapes Go.Deep Go.RowKit Go.Joins
section
variable {H:Type} {enc:TypeId×Value->H} {P:Program} {w:World} {base:Nat} {spare:Nat->Bool} {held:Bool}
theorem Ls {t e:TypeId} {fs:Array Field} {fuel:Nat} {cs:List Value} {x:DataW H×List MemPlace} (ht:P.underlying t=some (.slice e)) (he:P.underlying e=some (.struct fs)) (ac:oneCellFields P fs=true) (hC:P.cellsOf e=fs.size) (h:DataW.trod enc P w base spare held fuel t cs=some x) :
  cs=[.slice none 0 0] \/
  ∃(a:Addr) (len cap:Nat),cs=[.slice (some a) len cap]/\len<=cap/\cap<=maxLen /\
   ∀i,i<len->∀(j:Nat) (f:Field),fs[j]?=some f->∃(v:Value) (y:DataW H×List MemPlace) (n:Nat),w.cell? (a.add (i*fs.size+j))=some v/\DataW.trod enc P w base spare held n f.type [v]=some y:=by
 rcases open_slice ht h with h0|⟨a,len,cap,m,n,D,Pl,ad,hb,hl,hm,ae,hx,hi⟩
 ·exact .inl h0.1
 ·refine .inr ⟨a,len,cap,ad,hl,hm,fun i ak j f hj=>?_⟩;obtain⟨cs',hc,af⟩:=hi i (by rw[ae];split <;> omega);rw[hC]at hc;obtain⟨ys,n',al,hy,ag,am,hf⟩:=DataW.trod_struct he af;obtain⟨_,ao,ah⟩:=World.cells?_some hc;obtain⟨ho,hk⟩:=hone_of ac j f hj;have ai:j<fs.size:=(Ad.1 hj).1;have aa:=ah j ai;have hv:cs'[j]?=some (cs'[j]'ω):=AH ω;have h1:=hf j f hj;rw[ho,hk]at h1
  have ab:(cs'.drop j).take 1=[cs'[j]'ω]:=by
   rw[BJ ω];rfl
  rw[ab]at h1;have aj:ys[j]?=some (ys[j]'ω):=AH ω;refine⟨_,_,n',?_,h1.trans aj⟩;rw[<-Go.Deep.add_add,aa,hv]
theorem Ie {a:Addr} (h:w.cell? (a.add k)=some v) (hk:k=0):a=⟨a.block,a.off,none⟩:=by
 subst hk;obtain⟨b,o,s⟩:=a;obtain rfl:s=none:=by simpa[Addr.add] using World.cell?_spot h
 rfl
theorem Sg {t e:TypeId} {f0 f1 f2:Field} {fuel:Nat} {cs:List Value} {x:DataW H×List MemPlace} (ht:P.underlying t=some (.slice e)) (he:P.underlying e=some (.struct #[f0,f1,f2])) (ab:oneCellFields P #[f0,f1,f2]=true) (hC:P.cellsOf e=3) (h0:P.underlying f0.type=some .string) (h1:P.underlying f1.type=some (.int .i64)) (h2:P.underlying f2.type=some (.int .i64)) (h:DataW.trod enc P w base spare held fuel t cs=some x) :
  ∃A n c ts,cs=[.slice A n c]/\n=ts.length/\n<=c/\c<=9223372036854775807/\rO w w.heap.size A ts/\∀x∈ts,K.Tx x.nm/\Gm.In x.lv/\Gm.In x.wy:=by
 rcases Ls ht he ab hC h with rfl|⟨a,len,cap,rfl,hl,hm,hi⟩
 ·exact⟨none,0,0,[],rfl,rfl,Af _,ω,fun h=>absurd rfl h,fun x hx=>by simp at hx⟩
 ·have hp:∀i,i<len->∃t:Gm.Tm,(w.cell? (a.add (i*3))=some (.string (K.str t.nm))/\w.cell? (a.add (i*3+1))=some (.int .i64 t.lv)/\w.cell? (a.add (i*3+2))=some (.int .i64 t.wy))/\K.Tx t.nm/\Gm.In t.lv/\Gm.In t.wy:=fun i ac=>by
   obtain⟨v0,y0,n0,c0,t0⟩:=hi i ac 0 f0 rfl;obtain⟨v1,y1,n1,c1,t1⟩:=hi i ac 1 f1 rfl;obtain⟨v2,y2,n2,c2,t2⟩:=hi i ac 2 f2 rfl;obtain⟨s,e0,_,ad⟩:=DataW.trod_string h0 t0;obtain⟨z1,e1,_,w1⟩:=E7 h1 t1;obtain⟨z2,e2,_,w2⟩:=E7 h2 t2;injection e0 with e0;injection e1 with e1;injection e2 with e2;subst e0 e1 e2;obtain⟨l,hl,rfl⟩:=K.jI s ad;exact⟨⟨l,z1,z2⟩,⟨c0,c1,c2⟩,hl,E3 w1,E3 w2⟩
  obtain⟨ts,ae,aa⟩:=JO len _ hp;refine⟨some a,len,cap,ts,rfl,ae.symm,hl,by unfold maxLen at hm;omega,fun hn=>?_,fun x hx=>?_⟩
  ·have ha:=Ie (aa 0 ω).1.1 (Nat.zero_mul 3);refine⟨a.block,a.off,congrArg some ha,?_,fun i hi=>?_⟩
   ·have:=Bl (aa 0 ω).1.1
    simpa[Addr.add] using this
   ·have:=(aa i hi).1
    rw[ha,add_plain,add_plain,add_plain]at this;exact this
  ·obtain⟨i,hi,rfl⟩:=BG hx;exact(aa i hi).2
theorem Si {t e u:TypeId} {f0 f1 f2:Field} {fuel:Nat} {cs:List Value} {x:DataW H×List MemPlace} (ht:P.underlying t=some (.slice e)) (he:P.underlying e=some (.struct #[f0,f1,f2])) (ac:oneCellFields P #[f0,f1,f2]=true) (hC:P.cellsOf e=3) (h0:P.underlying f0.type=some (.int .i64)) (h1:P.underlying f1.type=some (.slice u)) (hu:P.underlying u=some (.int .i64)) (af:P.cellsOf u=1) (h2:P.underlying f2.type=some (.int .i64)) (h:DataW.trod enc P w base spare held fuel t cs=some x) :
  ∃A n c rs,cs=[.slice A n c]/\n=rs.length/\n<=c/\c<=9223372036854775807/\qL w w.heap.size A rs/\∀x∈rs,Gm.In x.l/\Gm.In x.p/\∀z∈x.r,Gm.In z:=by
 rcases Ls ht he ac hC h with rfl|⟨a,len,cap,rfl,hl,hm,hi⟩
 ·exact⟨none,0,0,[],rfl,rfl,Af _,ω,fun h=>absurd rfl h,fun x hx=>by simp at hx⟩
 ·have hp:∀i,i<len->∃t:Gm.Rl,(w.cell? (a.add (i*3))=some (.int .i64 t.l)/\(∃A' c',w.cell? (a.add (i*3+1))=some (.slice A' t.r.length c')/\t.r.length<=c'/\c'<=9223372036854775807/\gg w w.heap.size A' t.r)/\w.cell? (a.add (i*3+2))=some (.int .i64 t.p))/\Gm.In t.l/\Gm.In t.p/\∀z∈t.r,Gm.In z:=fun i ad=>by
   obtain⟨v0,y0,n0,c0,t0⟩:=hi i ad 0 f0 rfl;obtain⟨v1,y1,n1,c1,t1⟩:=hi i ad 1 f1 rfl;obtain⟨v2,y2,n2,c2,t2⟩:=hi i ad 2 f2 rfl;obtain⟨z0,e0,_,w0⟩:=E7 h0 t0;obtain⟨z2,e2,_,w2⟩:=E7 h2 t2;injection e0 with e0;injection e2 with e2;subst e0 e2;rcases open_ints h1 hu af t1 with⟨b,_⟩|⟨x,l,c,zs,b,_,hl,hm,hz,hx,aa,ag⟩
   ·injection b with b;subst b;exact⟨⟨z0,[],z2⟩,⟨c0,⟨none,0,c1,Af _,ω,gg.nil _ _ _⟩,c2⟩,E3 w0,E3 w2,fun z hz=>by simp at hz⟩
   ·injection b with b;subst b;have ak:l<=zs.length:=by rw[hz];split <;> omega
    refine⟨⟨z0,zs.take l,z2⟩,⟨c0,⟨some x,c,?_,?_,by unfold maxLen at hm;omega,fun hn=>?_⟩,c2⟩,E3 w0,E3 w2,fun z hz=>E3 (ag z (EM hz))⟩
    ·have ah:(zs.take l).length=l:=by rw[Bm];omega
     show w.cell? (a.add (i*3+1))=some (.slice (some x) (zs.take l).length c)
     rw[ah];exact c1
    ·show(zs.take l).length<=c
     rw[Bm];omega
    ·have ae:0<zs.length:=by simp at hn;omega
     have ha:=Ie (aa 0 ae) rfl;refine⟨x.block,x.off,congrArg some ha,?_,fun j hj=>?_⟩
     ·have:=Bl (aa 0 ae)
      simpa[Addr.add] using this
     ·have ai:j<l:=by simp at hj;omega
      have h1:=aa j ω;rw[ha,add_plain]at h1;rw[h1];simp only[List.getD,List.getElem?_take];rw[Az ai]
  obtain⟨ts,aj,ab⟩:=JO len _ hp;refine⟨some a,len,cap,ts,rfl,aj.symm,hl,by unfold maxLen at hm;omega,fun hn=>?_,fun x hx=>?_⟩
  ·have ha:=Ie (ab 0 ω).1.1 (Nat.zero_mul 3);refine⟨a.block,a.off,congrArg some ha,?_,fun i hi=>?_⟩
   ·have:=Bl (ab 0 ω).1.1
    simpa[Addr.add] using this
   ·have:=(ab i hi).1
    rw[ha,add_plain,add_plain,add_plain]at this;exact this
  ·obtain⟨i,hi,rfl⟩:=BG hx;exact(ab i hi).2
theorem Sf {t e:TypeId} {fuel:Nat} {cs:List Value} {x:DataW H×List MemPlace} (ht:P.underlying t=some (.slice e)) (he:P.underlying e=some .string) (hC:P.cellsOf e=1) (h:DataW.trod enc P w base spare held fuel t cs=some x) :
  ∃A n c ns,cs=[.slice A n c]/\n=ns.length/\n<=c/\c<=9223372036854775807/\tW w w.heap.size A ns/\∀x∈ns,K.Tx x:=by
 rcases open_strings ht he hC h with⟨ac,_⟩|⟨x,l,c,ss,ac,_,hl,hm,hz,_,aa,ad⟩
 ·exact⟨none,0,0,[],ac,rfl,Af _,ω,fun h=>absurd rfl h,fun x hx=>by simp at hx⟩
 ·have af:l<=ss.length:=by rw[hz];split <;> omega
  have hp:∀i,i<l->∃t:List Int,w.cell? (x.add i)=some (.string (K.str t))/\K.Tx t:=fun i hi=>by
   obtain⟨t,ht,he⟩:=K.jI (ss.getD i ByteArray.empty) (ad _ (by rw[Aw,AH ω];exact AD _));exact⟨t,by rw[aa i ω,he],ht⟩
  obtain⟨ns,ae,ab⟩:=JO l _ hp;refine⟨some x,l,c,ns,ac,ae.symm,hl,by unfold maxLen at hm;omega,fun hn=>?_,fun y hy=>?_⟩
  ·have ha:=Ie (ab 0 ω).1 rfl;refine⟨x.block,x.off,congrArg some ha,?_,fun j hj=>?_⟩
   ·have:=Bl (ab 0 ω).1
    simpa[Addr.add] using this
   ·have h1:=(ab j hj).1;rw[ha,add_plain]at h1;exact h1
  ·obtain⟨i,hi,rfl⟩:=BG hy;exact(ab i hi).2
theorem Qq {r:Reach} {b0:Nat} {t e1 e2 e3 u:TypeId} {f0 f1 f2 f3 x0 x1 x2 y0 y1 y2:Field} {d:DataW H} {p:List MemPlace} (hs:P.underlying t=some (.struct #[f0,f1,f2,f3])) (aa:oneCellFields P #[f0,f1,f2,f3]=true) (hC:P.cellsOf t=4) (ab:P.underlying f0.type=some (.slice e1)) (ac:P.underlying e1=some (.struct #[x0,x1,x2])) (ad:oneCellFields P #[x0,x1,x2]=true) (ae:P.cellsOf e1=3) (af:P.underlying x0.type=some .string) (ag:P.underlying x1.type=some (.int .i64)) (ah:P.underlying x2.type=some (.int .i64)) (ai:P.underlying f1.type=some (.slice e2)) (aj:P.underlying e2=some .string) (ak:P.cellsOf e2=1) (al:P.underlying f2.type=some (.slice e3)) (am:P.underlying e3=some (.struct #[y0,y1,y2])) (ao:oneCellFields P #[y0,y1,y2]=true) (ap:P.cellsOf e3=3) (aq:P.underlying y0.type=some (.int .i64)) (ar:P.underlying y1.type=some (.slice u)) (hu:P.underlying u=some (.int .i64)) (au:P.cellsOf u=1) (av:P.underlying y2.type=some (.int .i64)) (aw:P.underlying f3.type=some (.int .i64)) (hv:Value.okWide P w r b0 t v) (h:DataW.Trod enc P w base spare held t v d p) :
  ∃G,aT w w.heap.size v G/\Gm.Fit G:=by
 obtain⟨v0,v1,v2,v3,y0',y1',y2',y3',n,rfl,_,_,k0,k1,k2,k3⟩:=open_agg4 hs aa hC hv h;obtain⟨AT,nT,cT,ts,e0,ax,l0,m0,r0,w0⟩:=Sg ab ac ad ae af ag ah k0;obtain⟨AR,nR,cR,rs,e2',ay,l2,m2,r2,w2⟩:=Si al am ao ap aq ar hu au av k2;obtain⟨z,e3',_,w3⟩:=E7 aw k3;obtain⟨AN,nN,cN,ns,e1',az,l1,m1,r1,w1⟩:=Sf ai aj ak k1;injection e0 with e0;injection e1' with e1';injection e2' with e2';injection e3' with e3';subst e0 e1' e2' e3' ax az ay;exact⟨⟨ts,ns,rs,z⟩,⟨AT,cT,AN,cN,AR,cR,rfl,⟨l0,m0⟩,⟨l1,m1⟩,⟨l2,m2⟩,r0,r1,r2⟩,⟨w0,w1,w2,E3 w3⟩⟩
end
end Go.Proofs.YtjjbaehamplnaaaGreat
