/- Part of the proofs over this program: LookL, FirstN, FirstP, LookR, CycleL, MapX, AutoP, AutoQ, AutoC, LookW, LookX, OneT, GramOpen. -/
import Derived.WideKeyEntry
import Derived.Deep.Slices
import Derived.Deep.Fields
import Derived.ChangeSame
import Derived.Lib.SmallJoins
import Derived.SliceStrings
import Derived.Test.YtcmhaemaophplaaGreatXC
set_option linter.all false
namespace Go
def Cq:=@Int.toNat_natCast
def D4:=@bne_iff_ne
def Cu:=@Nat.testBit_two_pow
def CM:=@Nat.testBit_or
def D5:=@List.set_eq_of_length_le
def Ev:=@Bool.or_true
def C4:=@Nat.zero_testBit
def CW:=@Nat.eq_of_testBit_eq
def DM:=@List.getElem?_set_self
def Ei:=@List.sum_cons
def BQ:=@Nat.pow_le_pow_right
def DT:=@Nat.testBit_and
def DN:=@Nat.testBit_lt_two_pow
def BX:=@List.length_set
def Dw:=@Bool.true_or
def CD:=@Nat.exists_testBit_of_ne_zero
def Ey:=@Nat.lt_pow_two_of_testBit
def Cz:=@List.set_cons_succ
def EU:=@Nat.add_mul
def Ec:=@Nat.one_mul
def Ek:=@List.take_append_drop
def De:=@Nat.not_lt_zero
def EP:=@Option.getD_none
def CH:=@List.range_succ
def Ds:=@Nat.mul_le_mul_right
def CQ:=@Nat.le_of_lt
def EK:=@Go.DataW.trod_int
def EE:=@Go.bounds_i64
def Bj:=@Go.block_lt_of_cell
end Go
open Go.RowKit
set_option maxRecDepth 100000
set_option maxHeartbeats 40000000
variable {E:List (List (Int×Int))} {G:Go.Proofs.YtcmhaemaophplaaGreat.Gm.Gr} {b d i k n q:Nat} {j s t z:Int} {r:List Int} {v:Go.Value} {w':Go.World} {x:Int×Int}
namespace Go.Proofs.YtcmhaemaophplaaGreat
namespace Au
def rest (G:Gm.Gr) (x:It):List Int:=(sy G x.1).drop (x.2.toNat+1)
def Ed (E:List (List (Int×Int))) (i:Nat) (s:Int) (j:Nat):Prop:=∃h:i<E.length,(s,(j:Int))∈E[i]
inductive La (G:Gm.Gr) (E:List (List (Int×Int))):Nat->It->Int->Prop
 | st:La G E 0 (-1,0) G.ts.length
 | bg (i:Nat) (x:It) (t s:Int) (h:La G E i x t) (hs:nx G x=some s) (h0:s<0) (k:Nat) (hk:k<G.rs.length) (hl:(G.rs[k]).l = -1-s) (u:Int) (hu:Gm.Bg G u (rest G x)):La G E i ((k:Int),0) u
 | nu (i:Nat) (x:It) (t s:Int) (h:La G E i x t) (hs:nx G x=some s) (h0:s<0) (k:Nat) (hk:k<G.rs.length) (hl:(G.rs[k]).l = -1-s) (hn:Gm.Nu G (rest G x)):La G E i ((k:Int),0) t
 | mv (i:Nat) (x:It) (t s:Int) (h:La G E i x t) (hs:nx G x=some s) (j:Nat) (he:Ed E i s j):La G E j (x.1,x.2+1) t
theorem FP (hk:k<G.rs.length):sy G (k:Int)=(G.rs[k]).r:=by
 unfold sy;rw[AI (by omega),Cq,Ag,AD hk,Bp]
section
variable {G:Gm.Gr} {K:List (List It)} {E:List (List (Int×Int))}
theorem Inv.jq (h:Inv G K E) (hE:E.length=K.length) (aa:Gm.Ok G) (hi:i<K.length) {x:It} (hx:x∈iU G (K.getD i [])) (hs:nx G x=some s):∃j:Nat,Ed E i s j/\K[j]?=some (mv G (iU G (K.getD i [])) s):=by
 obtain⟨h1,h2⟩:=h.ed i (by omega)
 have hm:s∈E[i].map (·.1):=by
  rw[h1,B7];refine⟨qc aa (jR hx) hs,?_⟩
  have:(x.1,x.2+1)∈mv G (iU G (K.getD i [])) s:=FL.2 ⟨x,hx,hs,rfl⟩
  simp only[D4,ne_eq];exact fun e=>by rw[e]at this;cases this
 obtain⟨e,he,rfl⟩:=Bm.1 hm;obtain⟨j,e1,e2⟩:=h2 e he;exact⟨j,⟨by omega,by rw[<-e1];exact he⟩,e2⟩
theorem Inv.to (h:Inv G K E) {j:Nat} (he:Ed E i s j):K[j]?=some (mv G (iU G (K.getD i [])) s):=by
 obtain⟨hi,he⟩:=he;obtain⟨k,e1,e2⟩:=(h.ed i hi).2 _ he;simp only at e1 e2;obtain rfl:j=k:=by omega
 exact e2
theorem Inv.uq (h:Inv G K E) (hi:i<K.length):∀x∈K.getD i [],gj G x=true:=by
 rw[Ag,AD hi,Bp];exact(h.it _ (AE hi)).2
theorem si (h:Inv G K E) {x:It} (hl:La G E i x t):i<K.length/\x∈iU G (K.getD i []):=by
 induction hl with
 | st =>
  have h0:=Bc.1 h.h0;refine⟨h0.1,(ig (h.uq h0.1)).2 (.of _ ?_)⟩;rw[Ag,h.h0,Bp];exact Br
 | bg i x t s _ hs h0 k hk hl u _ ih=>exact⟨ih.1,(ig (h.uq ih.1)).2 (.on x ((ig (h.uq ih.1)).1 ih.2) s hs h0 k hk hl)⟩
 | nu i x t s _ hs h0 k hk hl _ ih=>exact⟨ih.1,(ig (h.uq ih.1)).2 (.on x ((ig (h.uq ih.1)).1 ih.2) s hs h0 k hk hl)⟩
 | mv i x t s _ hs j he ih =>
  have h1:=h.to he;have h2:=Bc.1 h1;refine⟨h2.1,(ig (h.uq h2.1)).2 (.of _ ?_)⟩;rw[Ag,h1,Bp];exact FL.2 ⟨x,ih.2,hs,rfl⟩
theorem SF (h:Gm.Gn true G.rs j):Gm.Gn false G.rs j \/ ∃t,Gm.Fs G t j:=by
 induction h with
 | mk x hx ht hn ih =>
  have key:∀q p:List Int,x.r=p++q->Gm.Nu G p->Gm.Nu G x.r \/ ∃t,Gm.Fs G t x.l:=by
   intro q;induction q with
   | nil=>intro p e hp;rw[e,CF];exact .inl hp
   | cons z q ihq =>
    intro p e hp;have hz:z∈x.r:=by rw[e];exact DE _ Br
    by_cases h0:0<=z
    ·exact .inr ⟨z,.tm x hx p q e h0 hp⟩
    ·rcases ih z hz (by omega) with h1|⟨t,h1⟩
     ·refine ihq (p++[z]) (by rw[e];simp) ⟨fun y hy aa=>?_,fun y hy aa=>?_⟩
      ·rcases Bt.1 hy with hy|hy
       ·exact hp.1 y hy aa
       ·rw[AP.1 hy]at aa;omega
      ·rcases Bt.1 hy with hy|hy
       ·exact hp.2 y hy aa
       ·rw[AP.1 hy];exact h1
     ·exact .inr ⟨t,.nt x hx p z q e (by omega) hp h1⟩
  rcases key x.r [] rfl (Gm.mU G) with h1|h1
  ·exact .inl (.of hx h1)
  ·exact .inr h1
theorem I4:∀ {r:List Int},(∀z∈r,z<0->Gm.Gn true G.rs (-1-z))->Gm.Nu G r \/ ∃t,Gm.Bg G t r
 | [],_=>.inl (Gm.mU G)
 | z::r,h=>by
  by_cases h0:0<=z
  ·exact .inr ⟨z,Gm.jh.2 (.inl (.inl ⟨rfl,h0⟩))⟩
  ·rcases SF (h z Br (by omega)) with h1|⟨t,h1⟩
   ·rcases I4 (r:=r) (fun y hy=>h y (Bo _ hy)) with h2|⟨t,h2⟩
    ·exact .inl (Gm.ke.2 ⟨⟨by omega,h1⟩,h2⟩)
    ·exact .inr ⟨t,Gm.jh.2 (.inr ⟨⟨by omega,h1⟩,h2⟩)⟩
   ·exact .inr ⟨t,Gm.jh.2 (.inl (.inr ⟨by omega,h1⟩))⟩
theorem R7 (h:Inv G K E) (hE:E.length=K.length) (hp:∀x∈G.rs,Gm.Al true G.rs x.r):∀i,i<K.length->∀x∈iU G (K.getD i []),∃t,La G E i x t:=by
 have key:∀i,i<K.length->(∀x∈K.getD i [],∃t,La G E i x t)->∀x∈iU G (K.getD i []),∃t,La G E i x t:=by
  intro i hi hk x hx;have af:=(ig (h.uq hi)).1 hx;clear hx;induction af with
  | of x hx=>exact hk x hx
  | on x ag s hs h0 k ab hl ih =>
   obtain⟨t,ht⟩:=ih;have am:=fW.1 (pL (h.uq hi) ag)
   have aa:∀z∈rest G x,z<0->Gm.Gn true G.rs (-1-z):=by
    intro z hz ah;have ac:=CV hz;by_cases e:x.1 = -1
    ·have ai:sy G x.1=[-1-G.st]:=by rw[e];rfl
     unfold rest at hz;rw[ai]at hz;rw[BU (by simp)]at hz;cases hz
    ·obtain⟨m,hm⟩:∃m:Nat,x.1=(m:Int):=⟨x.1.toNat,by omega⟩
     have ad:m<G.rs.length:=by omega
     rw[hm,FP ad]at ac;exact(hp _ (AE ad)).2 z ac ah
   rcases I4 (G:=G) aa with hq|⟨u,hq⟩
   ·exact⟨t,.nu i x t s ht hs h0 k ab hl hq⟩
   ·exact⟨u,.bg i x t s ht hs h0 k ab hl u hq⟩
 intro i;induction i using Nat.strongRecOn with
 | _ i ih =>
  intro hi;refine key i hi fun x hx=>?_;by_cases e:i=0
  ·subst e;rw[Ag,h.h0,Bp,AP]at hx;rw[hx];exact⟨_,.st⟩
  ·obtain⟨m,hm,aj,⟨s,j⟩,he,e2⟩:=h.up i (by omega) hi;simp only at e2;subst e2;have ae:Ed E m s i:=⟨hm,he⟩
   have ak:=h.to ae;rw[Ag,ak,Bp]at hx;obtain⟨y,hy,al,rfl⟩:=FL.1 hx;obtain⟨t,ht⟩:=ih m aj (by omega) y hy;exact⟨t,.mv m y t s ht al i ae⟩
end
end Au
namespace Gm
def iN (nu:List Bool) (fs:List Nat) (rest:Nat):List Int->Nat
 | []=>rest
 | z::r=>if 0<=z then 2 ^ z.toNat else fs.getD (-1-z).toNat 0 ||| (if nu.getD (-1-z).toNat false=true then iN nu fs rest r else 0)
def bt (t:Nat) (s:List Nat):List Bool:=s.map fun v=>v.testBit t
theorem Ti (t:Nat) (s:List Nat):(bt t s).length=s.length:=by simp[bt]
theorem xr (t:Nat) (s:List Nat) (i:Nat):(bt t s).getD i false=(s.getD i 0).testBit t:=by
 unfold bt;rw[Ag,Ag,Bv];cases s[i]? <;> simp
theorem Th (t:Nat) (s:List Nat) (i v:Nat):bt t (s.set i v)=(bt t s).set i (v.testBit t):=by unfold bt;rw[Cv]
theorem IG (nu:List Bool) (fs:List Nat) (rest t:Nat):∀r,(iN nu fs rest r).testBit t=rq nu t (bt t fs) (rest.testBit t) r
 | []=>rfl
 | z::r=>by
  rw[iN,rq];by_cases h0:0<=z
  ·rw[AC h0,AC h0,Cu];by_cases e:z.toNat=t
   ·rw[AQ e,show z=(t:Int) by omega];simp
   ·rw[AM e];exact(Ba.2 (by omega)).symm
  ·rw[AI h0,AI h0,CM,xr,<-IG nu fs rest t r];by_cases e:nu.getD (-1-z).toNat false=true
   ·rw[AC e,e];rfl
   ·rw[AI e,Bool.not_eq_true _ |>.mp e];simp
def iH (f:List Nat->List Nat):Nat->List Nat->List Nat
 | 0,s=>s
 | n+1,s=>f (iH f n s)
theorem QH {t:Nat} {f:List Nat->List Nat} {g:List Bool->List Bool} (h:∀s,bt t (f s)=g (bt t s)) (n:Nat) (s:List Nat):bt t (iH f n s)=times g n (bt t s):=by
 induction n with
 | zero=>rfl
 | succ n ih=>rw[iH,times,h,ih]
theorem LN {α:Type} {t:Nat} {f:List Nat->α->List Nat} {g:List Bool->α->List Bool} (h:∀s x,bt t (f s x)=g (bt t s) x):∀(xs:List α) (s:List Nat),bt t (xs.foldl f s)=xs.foldl g (bt t s)
 | [],_=>rfl
 | x::xs,s=>by rw[Dn,Dn,LN h xs,h]
def iX (s:List Nat) (i v:Nat):List Nat:=s.set i (s.getD i 0 ||| v)
theorem Qo (s:List Bool) (i:Nat):s.set i (s.getD i false)=s:=by
 rcases Bx i s.length with h|h
 ·rw[Ag,AD h];simp
 ·rw[D5 h]
theorem Tj (t:Nat) (s:List Nat) (i v:Nat):bt t (iX s i v)=if v.testBit t=true then(bt t s).set i true else bt t s:=by
 unfold iX;rw[Th,CM,<-xr];cases v.testBit t
 ·rw[ER,Qo];rfl
 ·rw[Ev];rfl
def fV (nu:List Bool) (s:List Nat) (x:Rl):List Nat:=iX s x.l.toNat (iN nu s 0 x.r)
theorem Ib (nu:List Bool) (t:Nat) (s:List Nat) (x:Rl):bt t (fV nu s x)=rP nu t (bt t s) x:=by
 unfold fV rP;rw[Tj,IG,C4]
noncomputable def fst (G:Gr):List Nat:=iH (fun s=>G.rs.foldl (fV (gn false G.rs G.ns.length)) s) G.ns.length (List.replicate G.ns.length 0)
theorem Lw (t n:Nat):bt t (List.replicate n 0)=List.replicate n false:=by simp[bt]
theorem kX {G:Gr} (hl:mh G.ns.length G.rs) (i t:Nat):((fst G).getD i 0).testBit t=true↔Fs G t (i:Int):=by
 rw[<-xr];unfold fst;rw[QH (g:=fun s=>G.rs.foldl (rP (gn false G.rs G.ns.length) t) s) (fun s=>LN (Ib _ t) _ s),Lw];exact O9 hl (by omega) i
theorem Oc {f:List Nat->List Nat} (h:∀s,(f s).length=s.length) (n:Nat) (s:List Nat):(iH f n s).length=s.length:=by
 induction n with
 | zero=>rfl
 | succ n ih=>rw[iH,h,ih]
theorem KU {α:Type} {f:List Nat->α->List Nat} (h:∀s x,(f s x).length=s.length):∀(xs:List α) (s:List Nat),(xs.foldl f s).length=s.length
 | [],_=>rfl
 | x::xs,s=>by rw[Dn,KU h xs,h]
theorem mA (s:List Nat) (i v:Nat):(iX s i v).length=s.length:=by simp[iX]
theorem iR (G:Gr):(fst G).length=G.ns.length:=by
 unfold fst
 have:∀s:List Nat,(G.rs.foldl (fV (gn false G.rs G.ns.length)) s).length=s.length:=fun s=>KU (fun s x=>mA _ _ _) _ s
 rw[Oc this];simp
theorem Qn {a b:List Nat} (hl:a.length=b.length) (h:∀i t:Nat,(a.getD i 0).testBit t=true↔(b.getD i 0).testBit t=true):a=b:=by
 refine Cp hl fun i h1 h2=>CW fun t=>?_
 have:=h i t
 rw[Ag,Ag,AD h1,AD h2]at this;exact Bw.2 this
theorem xG {G:Gr} (h:Ok G) (hj:Fs G t j):t<G.ts.length:=by
 induction hj with
 | tm x hx p q e h0 hp=>exact((fJ (h.rr x hx)).2.2.2 t (by rw[e];simp)).1
 | nt x hx p z q e hz hp _ ih=>exact ih
theorem GU {G:Gr} (h:Ok G) (hr:∀z∈r,z<G.ts.length) (hj:Bg G t r):t<G.ts.length:=by
 obtain⟨p,y,q,e,_,h1|h1⟩:=hj
 ·rw[<-h1.1];exact hr y (by rw[e];simp)
 ·exact xG h h1.2
theorem ve {G:Gr} (hl:mh G.ns.length G.rs) (rest t:Nat) (r:List Int):(iN (gn false G.rs G.ns.length) (fst G) rest r).testBit t=true↔Bg G t r\/Nu G r/\rest.testBit t=true:=by
 rw[IG];refine RC hl (fun i hi=>?_) (fun j hj=>?_) (by omega)
 ·rw[xr]at hi;exact(kX hl i t).1 hi
 ·rw[xr];refine(kX hl j.toNat t).2 ?_;obtain⟨x,hx,rfl,_⟩:=hj.gD;rw[BI (hl x hx).1];exact hj
def kF (a b:List Nat):Prop:=a.length=b.length/\∀i:Nat,a.getD i 0<=b.getD i 0
theorem kF.refl (a:List Nat):kF a a:=⟨rfl,fun _=>Af _⟩
theorem kF.trans {a b c:List Nat} (h:kF a b) (k:kF b c):kF a c:=⟨h.1.trans k.1,fun i=>Aj (h.2 i) (k.2 i)⟩
theorem kF.mD {a b:List Nat} (h:kF a b) (k:kF b a):b=a:=by
 refine Cp k.1 fun i h1 h2=>?_;have e1:=h.2 i;have e2:=k.2 i;rw[Ag,Ag,AD h1,AD h2]at e1 e2;simp only[Bp]at e1 e2;omega
theorem kF.iX (s:List Nat) (i v:Nat):kF s (iX s i v):=by
 refine⟨(mA s i v).symm,fun j=>?_⟩;unfold Gm.iX;by_cases e:i=j
 ·subst e;rcases Bx i s.length with h|h
  ·rw[Ag,Ag,DM h,Bp];exact Nat.left_le_or
  ·rw[D5 h];exact Af _
 ·rw[Ag,Ag,Er e];exact Af _
theorem kF.fold {α:Type} {f:List Nat->α->List Nat} (h:∀s x,kF s (f s x)):∀(xs:List α) (s:List Nat),kF s (xs.foldl f s)
 | [],s=>.refl s
 | x::xs,s=>(h s x).trans (kF.fold h xs _)
theorem nH {α:Type} {f:List Nat->α->List Nat} (h:∀s x,kF s (f s x)):∀(xs:List α) (s:List Nat),xs.foldl f s=s->∀x∈xs,f s x=s
 | [],_,_,_,hx=>by cases hx
 | y::ys,s,e,x,hx=>by
  rw[Dn]at e;have h1:f s y=s:=kF.mD (h s y) (by have:=kF.fold h ys (f s y);rwa [e]at this);rw[h1]at e;rcases Bu.1 hx with rfl|hx
  ·exact h1
  ·exact nH h ys s e x hx
theorem Mf:∀ {a b:List Nat},kF a b->a.sum<=b.sum/\(a.sum=b.sum->a=b)
 | [],[],_=>⟨Af _,fun _=>rfl⟩
 | [],_::_,h=>by cases h.1
 | _::_,[],h=>by cases h.1
 | x::a,y::b,h=>by
  have h1:kF a b:=⟨by simpa using h.1,fun i=>by have:=h.2 (i+1);simpa using this⟩
  have h2:x<=y:=by have:=h.2 0;simpa using this
  have:=Mf h1
  simp only[Ei];refine⟨by omega,fun e=>?_⟩;rw[this.2 (by omega),show x=y by omega]
def uh (s:List Nat):Nat:=(s.map fun v=>4294967296-v).sum
def lG (s:List Nat):Prop:=∀i:Nat,s.getD i 0<4294967296
theorem IP:∀ {s:List Nat},lG s->uh s+s.sum=s.length*4294967296
 | [],_=>rfl
 | x::s,h=>by
  have h1:lG s:=fun i=>by have:=h (i+1);simpa using this
  have h2:x<4294967296:=by have:=h 0;simpa using this
  have:=IP h1
  unfold uh at this ⊢;simp only[Bz,Ei,BC];omega
theorem ui {a b:List Nat} (h:kF a b) (hb:lG b) (hn:a≠b):uh b<uh a:=by
 have ha:lG a:=fun i=>Nat.lt_of_le_of_lt (h.2 i) (hb i);have h1:=IP ha;have h2:=IP hb;have h3:=Mf h;have h4:a.sum≠b.sum:=fun e=>hn (h3.2 e);rw[h.1]at h1;omega
theorem qe {a:Nat} (ha:a<4294967296) (hb:b<4294967296):a ||| b<4294967296:=by
 have:=Nat.or_lt_two_pow (n:=32) (x:=a) (y:=b) (by omega) (by omega);omega
theorem lG.iX {s:List Nat} (h:lG s) (i:Nat) {v:Nat} (hv:v<4294967296):lG (iX s i v):=fun j=>by
 unfold Gm.iX;by_cases e:i=j
 ·subst e;rcases Bx i s.length with hl|hl
  ·rw[Ag,DM hl,Bp];exact qe (h i) hv
  ·rw[D5 hl];exact h i
 ·rw[Ag,Er e,<-Ag];exact h j
theorem lG.iN {nu:List Bool} {fs:List Nat} {rest:Nat} (hf:lG fs) (hr:rest<4294967296):∀ {r:List Int},(∀z∈r,z<=31)->iN nu fs rest r<4294967296
 | [],_=>hr
 | z::r,h=>by
  rw[Gm.iN];split
  ·have:=BQ (n:=2) (by decide) (show z.toNat<=31 by have:=h z (Br ..);omega)
   omega
  ·refine qe (hf _) ?_;split
   ·exact lG.iN hf hr fun y hy=>h y (Bo _ hy)
   ·decide
theorem lo {a v:Nat} (ha:a<4294967296) (hv:v<4294967296):(v &&& (4294967295-a)=0)↔a ||| v=a:=by
 have hb:∀t,t<32->(4294967295-a).testBit t = !a.testBit t:=fun t ht=>by
  have:=Nat.testBit_two_pow_sub_succ (n:=32) (x:=a) (by omega) t
  rw[show 2 ^ 32-(a+1)=4294967295-a by omega]at this;rw[this,AQ ht,Ck]
 constructor
 ·intro h;refine CW fun t=>?_;rw[CM];by_cases ht:t<32
  ·have h1:=congrArg (fun z=>z.testBit t) h;simp only[DT,C4]at h1;rw[hb t ht]at h1
   revert h1
   generalize a.testBit t=p;generalize v.testBit t=q;cases p <;> cases q <;> simp
  ·rw[DN (x:=v) (Ah hv (by have:=BQ (n:=2) (by decide) (show 32<=t by omega);omega))];simp
 ·intro h;refine CW fun t=>?_;rw[DT,C4];by_cases ht:t<32
  ·rw[hb t ht];have h1:=congrArg (fun z=>z.testBit t) h;simp only[CM]at h1
   revert h1
   generalize a.testBit t=p;generalize v.testBit t=q;cases p <;> cases q <;> simp
  ·rw[DN (x:=v) (Ah hv (by have:=BQ (n:=2) (by decide) (show 32<=t by omega);omega))];simp
theorem sT {s:List Nat} {v:Nat} (h:i<s.length):iX s i v=s↔s.getD i 0 ||| v=s.getD i 0:=by
 unfold iX
 constructor
 ·intro e
  have:=congrArg (fun l=>l.getD i 0) e
  simp only[Ag,DM h,Bp]at this
  simpa[Ag] using this
 ·intro e;rw[e,Ag,AD h];simp
theorem wE {G:Gr} (hl:mh G.ns.length G.rs) {s:List Nat} (hn:s.length=G.ns.length) (hs:∀i t:Nat,(s.getD i 0).testBit t=true->Fs G t (i:Int)) (hc:∀x∈G.rs,fV (gn false G.rs G.ns.length) s x=s):s=fst G:=by
 refine Qn (by rw[hn,iR]) fun i t=>⟨fun h=>(kX hl i t).2 (hs i t h),fun h=>?_⟩
 have h1:=L0 hl (n:=G.ns.length) (is:=bt t s) (fun x hx e=>?_) ((kX hl i t).1 h)
 ·rw[xr]at h1;simpa using h1
 ·have h2:=congrArg (bt t) (hc x hx);rw[Ib,rP,AC e]at h2;rw[<-h2]
  have:=hl x hx
  exact jA _ _ (by rw[Ti];omega)
theorem ug {G:Gr} (hl:mh G.ns.length G.rs) {s:List Nat} (hs:∀i t:Nat,(s.getD i 0).testBit t=true->Fs G t (i:Int)) {x:Rl} (hx:x∈G.rs) (i t:Nat) (h:((fV (gn false G.rs G.ns.length) s x).getD i 0).testBit t=true):Fs G t (i:Int):=by
 have h1:=Is hl (t:=t) (by omega) [x] (bt t s) (fun y hy=>by rw[AP.1 hy];exact hx) (fun j hj=>by rw[xr]at hj;exact hs j t hj);rw[Dn,List.foldl_nil,<-Ib]at h1;exact h1 i (by rw[xr];exact h)
theorem uD (n i t:Nat):((List.replicate n 0).getD i 0).testBit t=false:=by
 have:=xr t (List.replicate n 0) i
 rw[Lw]at this;rw[<-this];by_cases h:i<n
 ·rw[Ag,Dc,AC h];rfl
 ·rw[Ag,Dc,AI h];rfl
end Gm
namespace Lk
open Au Gm
abbrev SS:=List (List Nat)
def At (L:List (List It)) (S:SS) (q:Nat) (x:It) (t:Nat):Prop:=∃i:Nat,(L.getD q [])[i]?=some x/\((S.getD q []).getD i 0).testBit t=true
def lF (G:Gr) (E:List (List (Int×Int))) (L:List (List It)) (S:SS):Prop:=∀q x t,At L S q x t->La G E q x (t:Int)
structure Jj (G:Gr) (E:List (List (Int×Int))) (L:List (List It)) (S:SS) (q i:Nat):Prop where
 mv:∀x s,(L.getD q [])[i]?=some x->nx G x=some s->∀t,((S.getD q []).getD i 0).testBit t=true->∀j,Ed E q s j->At L S j (x.1,x.2+1) t
 rl:∀x s,(L.getD q [])[i]?=some x->nx G x=some s->s<0->(S.getD q []).getD i 0≠0->∀k (hk:k<G.rs.length),(G.rs[k]).l = -1-s->∀u,(iN (gn false G.rs G.ns.length) (fst G) ((S.getD q []).getD i 0) (rest G x)).testBit u=true->At L S q ((k:Int),0) u
structure zC (G:Gr) (E:List (List (Int×Int))) (L:List (List It)) (S:SS):Prop where
 st:At L S 0 (-1,0) G.ts.length
 gv:∀q i,Jj G E L S q i
theorem S8 {G:Gr} (h:Fs G t j):0<=t:=by
 induction h with
 | tm _ _ _ _ _ h0 _=>exact h0
 | nt _ _ _ _ _ _ _ _ _ ih=>exact ih
theorem GO {G:Gr} (h:Bg G t r):0<=t:=by
 obtain⟨_,_,_,_,_,h|h⟩:=h
 ·exact h.2
 ·exact S8 h.2
theorem xX {v t:Nat} (h:v.testBit t=true):v≠0:=fun e=>by rw[e,C4]at h;cases h
theorem R6 {G:Gr} {L:List (List It)} {S:SS} (aa:Ok G) (h1:lF G E L S) (h2:zC G E L S) {x:It}:La G E q x t ↔ ∃n:Nat,t=n/\At L S q x n:=by
 constructor
 ·intro h;induction h with
  | st=>exact⟨_,rfl,h2.st⟩
  | bg i x t s _ hs h0 k hk hl u hu ih =>
   obtain⟨n,rfl,j,e,hb⟩:=ih;have hp:=GO hu;refine⟨u.toNat,by omega,(h2.gv i j).rl x s e hs h0 (xX hb) k hk hl u.toNat ((ve aa.iT _ _ _).2 (.inl ?_))⟩;rw[BI hp];exact hu
  | nu i x t s _ hs h0 k hk hl hn ih =>
   obtain⟨n,rfl,j,e,hb⟩:=ih;exact⟨n,rfl,(h2.gv i j).rl x s e hs h0 (xX hb) k hk hl n ((ve aa.iT _ _ _).2 (.inr ⟨hn,hb⟩))⟩
  | mv i x t s _ hs j he ih =>
   obtain⟨n,rfl,k,e,hb⟩:=ih;exact⟨n,rfl,(h2.gv i k).mv x s e hs n hb j he⟩
 ·rintro⟨n,rfl,h⟩;exact h1 q x n h
def iD (l:List It) (row:List Nat) (x:It) (s:Nat):List Nat:=List.zipWith (fun y v=>if y=x then v ||| s else v) l row
def gv (L:List (List It)) (S:SS) (q:Nat) (x:It) (s:Nat):SS:=S.set q (iD (L.getD q []) (S.getD q []) x s)
def lS (G:Gr) (L:List (List It)) (q:Nat) (sym:Int) (s:Nat) (S:SS) (k:Nat):SS:=if(G.rs.getD k ⟨0,[],0⟩).l = -1-sym then gv L S q ((k:Int),0) s else S
noncomputable def ps (G:Gr) (to:Nat->Int->Nat) (L:List (List It)) (S:SS) (p:Nat×Nat):SS :=
 match (L.getD p.1 [])[p.2]? with
 | none=>S
 | some x=>match nx G x with
  | none=>S
  | some sym=>if(S.getD p.1 []).getD p.2 0=0 then S else
   if 0<=sym then gv L S (to p.1 sym) (x.1,x.2+1) ((S.getD p.1 []).getD p.2 0)
   else(List.range G.rs.length).foldl (lS G L p.1 sym (iN (gn false G.rs G.ns.length) (fst G) ((S.getD p.1 []).getD p.2 0) (rest G x))) (gv L S (to p.1 sym) (x.1,x.2+1) ((S.getD p.1 []).getD p.2 0))
def Fit (L:List (List It)) (S:SS):Prop:=S.length=L.length/\∀q,(S.getD q []).length=(L.getD q []).length
def mb (a b:SS):Prop:=a.length=b.length/\∀q,kF (a.getD q []) (b.getD q [])
theorem mb.refl (a:SS):mb a a:=⟨rfl,fun _=>.refl _⟩
theorem mb.trans {a b c:SS} (h:mb a b) (k:mb b c):mb a c:=⟨h.1.trans k.1,fun q=>(h.2 q).trans (k.2 q)⟩
theorem mb.mD {a b:SS} (h:mb a b) (k:mb b a):b=a:=by
 refine Cp k.1 fun i h1 h2=>?_
 have:=kF.mD (h.2 i) (k.2 i)
 rw[Ag,Ag,AD h1,AD h2]at this;exact this
theorem FA {l:List It} {row:List Nat} (h:row.length=l.length) (x:It) (s:Nat):(iD l row x s).length=row.length:=by simp[iD,h]
theorem jy {l:List It} {row:List Nat} (h:row.length=l.length) (x:It) (s i:Nat):(iD l row x s).getD i 0=if l[i]?=some x then row.getD i 0 ||| s else row.getD i 0:=by
 unfold iD;rw[Ag,Ag,List.getElem?_zipWith];rcases Bx i l.length with hi|hi
 ·rw[AD hi,AD (by omega:i<row.length)];simp only[EI,Bp]
 ·rw[BH hi,BH (by omega:row.length<=i)];simp
theorem PH {l:List It} {row:List Nat} (h:row.length=l.length) (x:It) (s:Nat):kF row (iD l row x s):=by
 refine⟨(FA h x s).symm,fun i=>?_⟩;rw[jy h];split
 ·exact Nat.left_le_or
 ·exact Af _
theorem GI (L:List (List It)) (S:SS) (q:Nat) (x:It) (s p:Nat):(gv L S q x s).getD p []=if p=q then iD (L.getD q []) (S.getD q []) x s else S.getD p []:=by
 unfold gv;by_cases e:p=q
 ·subst e;rw[AC rfl];rcases Bx p S.length with hp|hp
  ·rw[Ag,DM hp,Bp]
  ·have h1:S.getD p []=[]:=by rw[Ag,BH hp];rfl
   rw[D5 hp,h1];unfold iD;rw[List.zipWith_nil_right]
 ·rw[AI e,Ag,Er (fun k=>e k.symm),<-Ag]
theorem jD {L:List (List It)} {S:SS} (h:Fit L S) (q:Nat) (x:It) (s:Nat):Fit L (gv L S q x s):=by
 refine⟨by unfold gv;rw[BX];exact h.1,fun p=>?_⟩;rw[GI];split
 ·rename_i e
  rw[FA (h.2 q),e];exact h.2 q
 ·exact h.2 p
theorem nL {L:List (List It)} {S:SS} (h:Fit L S) (q:Nat) (x:It) (s:Nat):mb S (gv L S q x s):=by
 refine⟨by unfold gv;rw[BX],fun p=>?_⟩;rw[GI];split
 ·rename_i e
  rw[e];exact PH (h.2 q) x s
 ·exact .refl _
theorem zZ {L:List (List It)} {S:SS} (h:Fit L S) {x:It} {s p:Nat} {y:It} {t:Nat}:At L (gv L S q x s) p y t↔At L S p y t\/(p=q/\y=x/\s.testBit t=true/\∃i:Nat,(L.getD q [])[i]?=some x):=by
 unfold At;rw[GI];by_cases e:p=q
 ·subst e;rw[AC rfl]
  constructor
  ·rintro⟨i,h1,h2⟩;rw[jy (h.2 p)]at h2;split at h2
   ·rename_i hx
    rw[CM,Dd]at h2;rcases h2 with h2|h2
    ·exact .inl ⟨i,h1,h2⟩
    ·rw[hx]at h1;injection h1 with h1;exact .inr ⟨rfl,h1.symm,h2,i,hx⟩
   ·exact .inl ⟨i,h1,h2⟩
  ·rintro(⟨i,h1,h2⟩|⟨_,rfl,h2,i,h3⟩)
   ·refine⟨i,h1,?_⟩;rw[jy (h.2 p)];split
    ·rw[CM,h2,Dw]
    ·exact h2
   ·refine⟨i,h3,?_⟩;rw[jy (h.2 p),AC h3,CM,h2,Ev]
 ·rw[AI e];exact⟨.inl,fun k=>k.resolve_right fun k=>e k.1⟩
theorem IZ {G:Gr} {L:List (List It)} {S:SS} (h:Fit L S) (hs:lF G E L S) {x:It} {s:Nat} (hx:∀t,s.testBit t=true->La G E q x (t:Int)):lF G E L (gv L S q x s):=fun p y t k=>by
 rcases(zZ h).1 k with k|⟨rfl,rfl,k,_⟩
 ·exact hs p y t k
 ·exact hx t k
theorem FQ {α:Type} {f:SS->α->SS} {I:SS->Prop} (hf:∀s x,I s->I (f s x)/\mb s (f s x)):∀(xs:List α) (s:SS),I s->I (xs.foldl f s)/\mb s (xs.foldl f s)
 | [],s,h=>⟨h,.refl s⟩
 | x::xs,s,h=>by
  have h1:=hf s x h;have h2:=FQ hf xs (f s x) h1.1;exact⟨h2.1,h1.2.trans h2.2⟩
theorem H8 {α:Type} {f:SS->α->SS} {I:SS->Prop} (hf:∀s x,I s->I (f s x)/\mb s (f s x)):∀(xs:List α) (s:SS),I s->xs.foldl f s=s->∀x∈xs,f s x=s
 | [],_,_,_,_,hx=>by cases hx
 | y::ys,s,h,e,x,hx=>by
  rw[Dn]at e;have h1:=hf s y h;have h2:f s y=s:=mb.mD h1.2 (by have:=(FQ hf ys (f s y) h1.1).2;rwa [e]at this);rw[h2]at e;rcases Bu.1 hx with rfl|hx
  ·exact h2
  ·exact H8 hf ys s h e x hx
theorem zr {G:Gr} {L:List (List It)} (q:Nat) (sym:Int) (s:Nat) (S:SS) (k:Nat) (h:Fit L S):Fit L (lS G L q sym s S k)/\mb S (lS G L q sym s S k):=by
 unfold lS;split
 ·exact⟨jD h _ _ _,nL h _ _ _⟩
 ·exact⟨h,.refl _⟩
theorem sF {G:Gr} {to:Nat->Int->Nat} {L:List (List It)} (S:SS) (p:Nat×Nat) (h:Fit L S):Fit L (ps G to L S p)/\mb S (ps G to L S p):=by
 unfold ps;split
 ·exact⟨h,.refl _⟩
 ·rename_i x _
  split
  ·exact⟨h,.refl _⟩
  ·rename_i sym _
   split
   ·exact⟨h,.refl _⟩
   ·split
    ·exact⟨jD h _ _ _,nL h _ _ _⟩
    ·have:=FQ (I:=Fit L) (fun s k hs=>zr (G:=G) p.1 sym (iN (gn false G.rs G.ns.length) (fst G) ((S.getD p.1 []).getD p.2 0) (rest G x)) s k hs) (List.range G.rs.length) _ (jD h (to p.1 sym) (x.1,x.2+1) ((S.getD p.1 []).getD p.2 0))
     exact⟨this.1,(nL h _ _ _).trans this.2⟩
theorem Sm {G:Gr} {to:Nat->Int->Nat} {L:List (List It)} (ab:Ok G) (ac:∀(q:Nat) (x:It) (s:Int),x∈L.getD q []->nx G x=some s->Ed E q s (to q s)) (S:SS) (p:Nat×Nat) (h:Fit L S) (hs:lF G E L S):lF G E L (ps G to L S p):=by
 unfold ps;split
 ·exact hs
 ·rename_i x hx
  split
  ·exact hs
  ·rename_i sym hn
   split
   ·exact hs
   ·have h1:lF G E L (gv L S (to p.1 sym) (x.1,x.2+1) ((S.getD p.1 []).getD p.2 0)):=IZ h hs fun t ht=>.mv p.1 x t sym (hs _ _ _ ⟨p.2,hx,ht⟩) hn _ (ac p.1 x sym (Co hx) hn);split
    ·exact h1
    ·rename_i ad h0
     have aa:∃t,((S.getD p.1 []).getD p.2 0).testBit t=true:=CD ad;obtain⟨t0,ae⟩:=aa
     have af:∀k,k<G.rs.length->(G.rs.getD k ⟨0,[],0⟩).l = -1-sym->∀u,(iN (gn false G.rs G.ns.length) (fst G) ((S.getD p.1 []).getD p.2 0) (rest G x)).testBit u=true->La G E p.1 ((k:Int),0) (u:Int):=fun k hk e u hu=>by
      rw[Ag,AD hk,Bp]at e;rcases(ve ab.iT _ _ _).1 hu with hb|⟨hb,hr⟩
      ·exact .bg p.1 x t0 sym (hs _ _ _ ⟨p.2,hx,ae⟩) hn (by omega) k hk e _ hb
      ·exact .nu p.1 x u sym (hs _ _ _ ⟨p.2,hx,hr⟩) hn (by omega) k hk e hb
     have key:∀(ks:List Nat),(∀k∈ks,k<G.rs.length)->∀S1,Fit L S1->lF G E L S1->lF G E L (ks.foldl (lS G L p.1 sym (iN (gn false G.rs G.ns.length) (fst G) ((S.getD p.1 []).getD p.2 0) (rest G x))) S1):=by
      intro ks;induction ks with
      | nil=>exact fun _ S1 _ h=>h
      | cons k ks ih =>
       intro hk S1 hf hS;rw[Dn];refine ih (fun j hj=>hk j (Bo _ hj)) _ (zr _ _ _ S1 k hf).1 ?_;unfold lS;split
       ·rename_i e
        exact IZ hf hS fun u hu=>af k (hk k Br) e u hu
       ·exact hS
     exact key _ (fun k hk=>Cj.1 hk) _ (jD h _ _ _) h1
theorem LA {L:List (List It)} {S:SS} (h:Fit L S) {x:It} {s:Nat} (e:gv L S q x s=S) {t:Nat} (ht:s.testBit t=true) (hx:x∈L.getD q []):At L S q x t:=by
 obtain⟨i,hi⟩:=List.getElem?_of_mem hx
 have:=(zZ (L:=L) h (q:=q) (x:=x) (s:=s) (p:=q) (y:=x) (t:=t)).2 (.inr ⟨rfl,rfl,ht,i,hi⟩)
 rwa [e]at this
theorem Rt {G:Gr} {to:Nat->Int->Nat} {L:List (List It)} (ab:∀(q:Nat) (x:It) (s:Int) (j:Nat),x∈L.getD q []->nx G x=some s->Ed E q s j->j=to q s) (ac:∀(q:Nat) (x:It) (s:Int),x∈L.getD q []->nx G x=some s->(x.1,x.2+1)∈L.getD (to q s) []) (ad:∀(q:Nat) (x:It) (s:Int) (k:Nat) (hk:k<G.rs.length),x∈L.getD q []->nx G x=some s->s<0->(G.rs[k]).l = -1-s->((k:Int),(0:Int))∈L.getD q []) {S:SS} (h:Fit L S) (e:ps G to L S (q,i)=S):Jj G E L S q i:=by
 have key:∀x s,(L.getD q [])[i]?=some x->nx G x=some s->(S.getD q []).getD i 0≠0->gv L S (to q s) (x.1,x.2+1) ((S.getD q []).getD i 0)=S/\(s<0->∀k,k<G.rs.length->lS G L q s (iN (gn false G.rs G.ns.length) (fst G) ((S.getD q []).getD i 0) (rest G x)) S k=S):=by
  intro x s hx hn aa;unfold ps at e;simp only[hx,hn]at e;rw[AI aa]at e;by_cases h0:0<=s
  ·rw[AC h0]at e;exact⟨e,fun k=>absurd h0 (by omega)⟩
  ·rw[AI h0]at e;have a1:=nL h (to q s) (x.1,x.2+1) ((S.getD q []).getD i 0);have a2:=FQ (I:=Fit L) (fun s' k hs=>zr (G:=G) q s (iN (gn false G.rs G.ns.length) (fst G) ((S.getD q []).getD i 0) (rest G x)) s' k hs) (List.range G.rs.length) _ (jD h (to q s) (x.1,x.2+1) ((S.getD q []).getD i 0));rw[e]at a2;have a3:=mb.mD a1 a2.2;refine⟨a3,fun _ k hk=>?_⟩;rw[a3]at e;exact H8 (I:=Fit L) (fun s' k hs=>zr (G:=G) _ _ _ s' k hs) _ S h e k (Cj.2 hk)
 refine⟨fun x s hx hn t ht j he=>?_,fun x s hx hn h0 aa k hk hl u hu=>?_⟩
 ·have hm:=Co hx;rw[ab q x s j hm hn he];exact LA h (key x s hx hn (xX ht)).1 ht (ac q x s hm hn)
 ·have:=(key x s hx hn aa).2 h0 k hk
  unfold lS at this;rw[AC (by rw[Ag,AD hk,Bp];exact hl)]at this;exact LA h this hu (ad q x s k hk (Co hx) hn h0 hl)
def lO (S:SS):Nat:=(S.map uh).sum
def jP (S:SS):Prop:=∀q,lG (S.getD q [])
theorem LC:∀ {a b:SS},mb a b->jP b->lO b<=lO a/\(lO b=lO a->a=b)
 | [],[],_,_=>⟨Af _,fun _=>rfl⟩
 | [],_::_,h,_=>by cases h.1
 | _::_,[],h,_=>by cases h.1
 | x::a,y::b,h,hu=>by
  have h1:mb a b:=⟨by simpa using h.1,fun q=>by have:=h.2 (q+1);simpa using this⟩
  have u1:jP b:=fun q=>by have:=hu (q+1);simpa using this
  have h2:kF x y:=by have:=h.2 0;simpa using this
  have u2:lG y:=by have:=hu 0;simpa using this
  have ih:=LC h1 u1
  have aa:uh y<=uh x/\(uh y=uh x->x=y):=by
   by_cases e:x=y
   ·rw[e];exact⟨Af _,fun _=>rfl⟩
   ·have:=ui h2 u2 e
    exact⟨by omega,fun q=>by omega⟩
  unfold lO at ih ⊢;simp only[Bz,Ei];refine⟨by omega,fun e=>?_⟩;rw[aa.2 (by omega),ih.2 (by omega)]
theorem wF {a b:SS} (h:mb a b) (hu:jP b) (hn:a≠b):lO b<lO a:=by
 have:=LC h hu
 have h2:lO b≠lO a:=fun e=>hn (this.2 e);omega
end Lk
namespace Gm
noncomputable def zB (p:Nat->Prop):Nat->Nat
 | 0=>0
 | n+1=>zB p n ||| (if tr (p n)=true then 2 ^ n else 0)
theorem KR (p:Nat->Prop) (n j:Nat):(zB p n).testBit j=true↔j<n/\p j:=by
 induction n with
 | zero=>rw[zB];simp
 | succ n ih =>
  rw[zB,CM,Dd,ih];by_cases h:tr (p n)=true
  ·rw[AC h,Cu,Bi];rw[fP]at h
   constructor
   ·rintro(⟨h1,h2⟩|rfl)
    ·exact⟨by omega,h2⟩
    ·exact⟨by omega,h⟩
   ·rintro⟨h1,h2⟩;by_cases e:n=j
    ·exact .inr e
    ·exact .inl ⟨by omega,h2⟩
  ·rw[AI h];rw[fP]at h
   constructor
   ·rintro(⟨h1,h2⟩|h1)
    ·exact⟨by omega,h2⟩
    ·simp at h1
   ·rintro⟨h1,h2⟩;by_cases e:j=n
    ·subst e;exact absurd h2 h
    ·exact .inl ⟨by omega,h2⟩
theorem RJ (p:Nat->Prop) (n:Nat):zB p n<2 ^ n:=by
 refine Ey _ fun i hi=>?_;cases h:(zB p n).testBit i
 ·rfl
 ·have:=(KR p n i).1 h;omega
def St (G:Gr) (i j:Int):Prop:=∃x∈G.rs,x.l=i/\Al true G.rs x.r/\∃p z q,x.r=p++z::q/\z<0/\j = -1-z/\Nu G p/\Nu G q
inductive Cm (G:Gr):Int->Int->Prop
 | one {i j:Int} (h:St G i j):Cm G i j
 | on {i k j:Int} (h:St G i k) (h2:Cm G k j):Cm G i j
theorem Cm.trans {G:Gr} {i k:Int} (h:Cm G i k) (h2:Cm G k j):Cm G i j:=by
 induction h with
 | one h=>exact .on h h2
 | on h _ ih=>exact .on h (ih h2)
theorem St.iT {G:Gr} (hl:mh n G.rs) (hi:∀x∈G.rs,EZ n x.r) {i:Int} (h:St G i j):(0<=i/\i<n)/\0<=j/\j<n:=by
 obtain⟨x,hx,rfl,_,p,z,q,e,hz,rfl,_⟩:=h
 have:=hi x hx z (by rw[e];simp) hz
 exact⟨hl x hx,by omega,this⟩
theorem Cm.iT {G:Gr} {n:Nat} (hl:mh n G.rs) (hi:∀x∈G.rs,EZ n x.r) {i j:Int} (h:Cm G i j):(0<=i/\i<n)/\0<=j/\j<n:=by
 induction h with
 | one h=>exact h.iT hl hi
 | on h _ ih=>exact⟨(h.iT hl hi).1,ih.2⟩
theorem St.use {G:Gr} {i:Int} (h:St G i j) (hr:Rc G i):Rc G j/\Gn true G.rs j:=by
 obtain⟨x,hx,rfl,ha,p,z,q,e,hz,rfl,_⟩:=h;have hm:z∈x.r:=by rw[e];simp
 exact⟨.on x hx hr ha z hm hz,ha.2 z hm hz⟩
end Gm
end Go.Proofs.YtcmhaemaophplaaGreat
namespace Go.Mw
open Go.RowKit Go.Maps
section
variable {κ:Type} [DecidableEq κ] {α:Type}
def gZ:List (κ×α)->κ->α->List (κ×α)
 | [],x,v=>[(x,v)]
 | (k,u)::r,x,v=>if k=x then(k,v)::r else(k,u)::gZ r x v
theorem j9 {x y:κ} {v:α}:∀ {l:List (κ×α)},fF (gZ l x v) y=if x=y then some v else fF l y
 | []=>by simp[gZ,fF]
 | (k,u)::r=>by
  have ih:=j9 (x:=x) (y:=y) (v:=v) (l:=r);unfold gZ;by_cases h:k=x
  ·rw[AC h];subst h;unfold fF;by_cases e:k=y
   ·rw[AC e,AC e]
   ·rw[AI e,AI e,AI e]
  ·rw[AI h];unfold fF;rw[ih];by_cases e:k=y
   ·subst e;rw[AC rfl,AI (fun q=>h q.symm),AC rfl]
   ·rw[AI e,AI e]
theorem jz {x:κ} {v:α}:∀ {l:List (κ×α)},fF l x=none->gZ l x v=l++[(x,v)]
 | [],_=>rfl
 | (k,u)::r,h=>by
  unfold fF at h;split at h
  ·cases h
  ·rename_i hk
   rw[gZ,AI hk,jz h];rfl
theorem Iw {x:κ} {v:α}:∀ {l:List (κ×α)} {j:Nat} {u:α},(l.map Prod.fst).Nodup->l[j]?=some (x,u)->gZ l x v=l.set j (x,v)
 | [],j,u,_,h=>by simp at h
 | (k,u0)::r,0,u,_,h=>by
  simp only[Am,EI]at h;injection h with h1 h2;rw[gZ,AC h1,h1];rfl
 | (k,u0)::r,j+1,u,hn,h=>by
  rw[Bz,ED]at hn;rw[Ap]at h
  have:k≠x:=fun q=>hn.1 (by rw[q];exact Bm.2 ⟨(x,u),Co h,rfl⟩)
  rw[gZ,AI this,Iw hn.2 h,Cz]
end
section
variable {P:Program} {kt:TypeId} {κ:Type} {E:qU P kt κ} {w:World} {b:Nat} {l:List (κ×Value)}
def iO (E:qU P kt κ) (w:World) (b:Nat) (l:List (κ×Value)):Prop :=
 ∃es clock,w.heap[b]?=some (.map es clock)/\es.toList.map (fun e=>(e.key,e.val))=l.map (fun p=>(E.enc p.1,p.2))/\(∀p∈l,E.ok p.1)/\(l.map Prod.fst).Nodup/\∀e∈es.toList,e.born<clock
theorem iO.is (h:iO E w b l):fx E w b l:=by
 obtain⟨es,clock,h1,h2,h3,h4,_⟩:=h;exact⟨es,clock,h1,h2,h3,h4⟩
theorem iO.made (E:qU P kt κ) (w:World):iO E (w.alloc (.map #[] 0)) w.heap.size [] :=
 ⟨#[],0,(MapKept.heap_alloc w _).1,rfl,by simp,by simp,by simp⟩
theorem iO.lt (h:iO E w b l):b<w.heap.size:=h.is.lt
theorem iO.block (h:iO E w b l) (hg:w'.heap[b]?=w.heap[b]?):iO E w' b l:=by
 obtain⟨es,clock,hb,r⟩:=h;exact⟨es,clock,hg.trans hb,r⟩
variable [DecidableEq κ]
theorem pf {t e:TypeId} (h:fx E w b l) (K:Keyed P kt) (ht:P.underlying t=some (.map kt e)) {x:κ} (hx:E.ok x) (v:Value) :
  ∃w',(Instr.mapUpdate t (.map (some b)) (E.enc x) v).run P w=.ok () w'/\fx E w' b (gZ l x v)/\w.grownBy w' (some b):=by
 obtain⟨lx,ab⟩:=E.key x hx;have h0:=h;obtain⟨es,clock,hb,he,hf⟩:=jC h K hx;obtain⟨es0,clock0,d,af,hk,hn⟩:=h0;rw[hb]at d;injection d with d;injection d with d ad;subst d ad;rcases hf with⟨h1,h2⟩|⟨j,e0,h1,h2,h3,h4,h5⟩
 ·obtain⟨w',r1,r2,r3⟩:=run_store h K ht hx v (.inl h2);rw[AC h2]at r2;rw[jz h2];exact⟨w',r1,r2,r3⟩
 ·have hj:es[j]?=some e0:=by simpa using h2
  rw[Iw hn h5]
  have aa:(es.modify j (fun e=>{e with key:=E.enc x,val:=v})).toList.map (fun e=>(e.key,e.val))=(l.set j (x,v)).map (fun p=>(E.enc p.1,p.2)):=by
   rw[DJ,DZ _ _ _ _ h2,Cv,Cv,he]
  refine⟨ChangeMaps.setBlock w b (.map (es.modify j (fun e=>{e with key:=E.enc x,val:=v})) clock),?_,⟨_,_,BZ hb _,aa,?_,?_⟩,⟨rfl,rfl,rfl,by simp[ChangeMaps.setBlock],fun i _ hi=>Cb hb _ (fun e=>hi (by rw[e]))⟩⟩
  ·simp[Instr.mapUpdate,CZ ht,Ch hb,K.check w false ab,h1,hj,h3,K.stays w ab,CJ _ hb,Result.andThen,ChangeMaps.setBlock]
  ·intro p hp;rcases Dz hp with q|q
   ·exact hk p q
   ·rw[q];exact hx
  ·have e1:(l.set j (x,v)).map Prod.fst=l.map Prod.fst:=by
    rw[Cv];refine CU fun i=>?_;rw[Db];by_cases ac:j=i
    ·subst ac;have ae:j<(l.map Prod.fst).length:=by rw[Bh];exact(Bc.1 h5).1
     rw[AC rfl,AC ae,Bv,h5];rfl
    ·rw[AI ac]
   rw[e1];exact hn
def zq (E:qU P kt κ) (w:World) (b:Nat) (l:List (κ×Value)) (x:κ) (clock:Nat):Prop :=
 ∃(es:Array MapEntry) (z:Value),w.heap[b]?=some (.map (es.push ⟨E.enc x,z,clock⟩) (clock+1))/\es.toList.map (fun e=>(e.key,e.val))=l.map (fun p=>(E.enc p.1,p.2))/\(∀p∈l,E.ok p.1)/\(l.map Prod.fst).Nodup/\(∀e∈es.toList,e.born<clock)/\E.ok x/\fF l x=none
theorem zq.block {x:κ} {c:Nat} (h:zq E w b l x c) (hg:w'.heap[b]?=w.heap[b]?):zq E w' b l x c:=by
 obtain⟨es,z,hb,r⟩:=h;exact⟨es,z,hg.trans hb,r⟩
theorem zq.lt {x:κ} {c:Nat} (h:zq E w b l x c):b<w.heap.size:=by
 obtain⟨es,z,hb,_⟩:=h;exact(Ad.1 hb).1
theorem tu {t e:TypeId} (h:iO E w b l) (K:Keyed P kt) (ht:P.underlying t=some (.map kt e)) {z:Value} (hz:(zeroValue e).run P w=.ok z w) {x:κ} (hx:E.ok x) (hn:fF l x=none) :
  ∃(c:Nat) (w':World),(Instr.mapEntry t (.map (some b)) (E.enc x)).run P w=.ok (.tuple #[z,goInt c]) w'/\zq E w' b l x c/\w.grownBy w' (some b):=by
 obtain⟨lx,aa⟩:=E.key x hx;have h0:=h;obtain⟨es,clock,hb,he,hf⟩:=jC h.is K hx;obtain⟨es0,clock0,d,ae,hk,ab,ac⟩:=h0;rw[hb]at d;injection d with d;injection d with d ad;subst d ad;rcases hf with⟨h1,h2⟩|⟨j,e0,h1,h2,h3,h4,h5⟩
 ·refine⟨clock,ChangeMaps.setBlock w b (.map (es.push ⟨E.enc x,z,clock⟩) (clock+1)),?_,⟨es,z,BZ hb _,he,hk,ab,ac,hx,hn⟩,⟨rfl,rfl,rfl,by simp[ChangeMaps.setBlock],fun i _ hi=>Cb hb _ (fun e=>hi (by rw[e]))⟩⟩;simp[Instr.mapEntry,CZ ht,Ch hb,K.check w false aa,h1,hz,CJ _ hb,Result.andThen,ChangeMaps.setBlock]
 ·rw[hn]at h4;cases h4
theorem Kh {es:List MapEntry} {c:Nat} (h:∀e∈es,e.born<c) (x:MapEntry) (hx:x.born=c):(es++[x]).findIdx? (fun e=>(e.born:Int)==(c:Int))=some es.length:=by
 induction es with
 | nil=>simp[hx]
 | cons y r ih =>
  have hy:=h y Br;have ih:=ih fun e he=>h e (Bo _ he);rw[Cn,List.findIdx?_cons,ih]
  have:((y.born:Int)==(c:Int))=false:=by
   rw[Ba];omega
  rw[this];simp
theorem rL {t:TypeId} {x:κ} {c:Nat} (h:zq E w b l x c) (v:Value) :
  ∃w',(Instr.entryStore t (.map (some b)) (goInt c) v).run P w=.ok () w'/\iO E w' b (l++[(x,v)])/\w.grownBy w' (some b):=by
 obtain⟨es,z,hb,he,hk,hn,ab,hx,ac⟩:=h
 have ad:(es.push ⟨E.enc x,z,c⟩).findIdx? (fun e=>(e.born:Int)==(c:Int))=some es.size:=by
  rw[Go.WideElems.findIdx_arr,Cx,Kh ab _ rfl];simp
 have aa:(es.push ⟨E.enc x,z,c⟩).modify es.size (fun e=>{e with val:=v})=es.push ⟨E.enc x,v,c⟩:=by
  apply Ep;rw[DJ,Cx,Cx]
  have:∀(l:List MapEntry) (a:MapEntry),(l++[a]).modify l.length (fun e=>{e with val:=v})=l++[{a with val:=v}]:=fun l a=>by
   induction l with
   | nil=>rfl
   | cons y r ih=>rw[Cn,BC,List.modify_succ_cons,ih];rfl
  exact this es.toList _
 refine⟨ChangeMaps.setBlock w b (.map (es.push ⟨E.enc x,v,c⟩) (c+1)),?_,⟨_,_,BZ hb _,?_,?_,?_,?_⟩,⟨rfl,rfl,rfl,by simp[ChangeMaps.setBlock],fun i _ hi=>Cb hb _ (fun e=>hi (by rw[e]))⟩⟩
 ·simp[Instr.entryStore,Ch hb,asInt,asIntOf,goInt,ad,aa,CJ _ hb,Result.andThen,ChangeMaps.setBlock]
 ·rw[Cx,Bf,Bf,he];rfl
 ·intro p hp;rcases Bt.1 hp with q|q
  ·exact hk p q
  ·rw[AP]at q;subst q;exact hx
 ·rw[Bf,CK];refine⟨hn,by simp,fun a ha d hd=>?_⟩;obtain⟨p,hp,rfl⟩:=Bm.1 ha;simp only[Bz,Du,AP]at hd;subst hd;exact zQ.1 ac p hp
 ·intro e he;rw[Cx]at he;rcases Bt.1 he with q|q
  ·have:=ab e q;omega
  ·rw[AP]at q;subst q;simp
end
end Go.Mw
namespace Go.Proofs.YtcmhaemaophplaaGreat
namespace Au
theorem LD {α:Type} {f:Int->List α} {b:Nat}:∀ {l:List Int},(∀r∈l,(f r).length<=b)->(l.flatMap f).length<=l.length*b
 | [],_=>by simp
 | x::l,h=>by
  rw[B5,AW,BC,EU,Ec];have h1:=h x (Br ..);have h2:=LD (l:=l) fun r hr=>h r (Bo _ hr);omega
theorem nY (h:Gm.Ok G) {r:Int} (hr:r∈tN G):(sy G r).length<=6:=by
 unfold sy;split
 ·simp
 ·rename_i hn
  have h1:=(jk.1 hr)
  have aa:r.toNat<G.rs.length:=by omega
  rw[Ag,AD aa,Bp];exact(Gm.fJ (h.rr _ (AE aa))).1
theorem j7 (h:Gm.Ok G) (hr:G.rs.length<=40):(vf G).length<=287:=by
 have h1:(vf G).length<=(tN G).length*7:=LD fun r hr=>by
  rw[Bh,List.length_range]
  have:=nY h hr
  omega
 have h2:(tN G).length=G.rs.length+1:=by simp[tN]
 omega
theorem lQ (h:Gm.Ok G) (hr:G.rs.length<=40) {K:List (List It)} (hi:Inv G K E) {k:List It} (hk:k∈K):k.length<=287 :=
 Aj (Mh (hi.it k hk).1 (hi.it k hk).2) (j7 h hr)
theorem pO (ht:G.ts.length<=24) (hn:G.ns.length<=40) {K:List (List It)} (hi:Inv G K E) (h:i<E.length):E[i].length<=64:=by
 have h1:=(hi.ed i h).1;have h2:(E[i].map (·.1)).length<=(syms G).length:=by rw[h1];exact Cd _ _
 rw[Bh,ni]at h2;omega
theorem Tf (l:List It):(iU G l).length<=(vf G).length:=Cd _ _
theorem kU (h:Gm.Ok G) (hr:G.rs.length<=40) (l:List It):(iU G l).length<=287:=Aj (Tf l) (j7 h hr)
structure iB (G:Gm.Gr) (l out:List It):Prop where
 s:j6 out
 h:∀x∈l,x∈out
 c:∀x∈out,Cl G l x
theorem iB.is {l out:List It} (hl:∀x∈l,gj G x=true) (k:iB G l out):∀x∈out,gj G x=true:=fun x hx=>pL hl (k.c x hx)
theorem iB.le {l out:List It} (hl:∀x∈l,gj G x=true) (k:iB G l out):out.length<=(vf G).length:=Mh k.s (k.is hl)
theorem iB.put {l out:List It} (k:iB G l out) {x:It} (hx:x∈out) (hs:nx G x=some s) (h0:s<0) {j:Nat} (hj:j<G.rs.length) (he:(G.rs[j]).l = -1-s):iB G l (put out ((j:Int),0)) :=
 ⟨ID k.s,fun y hy=>FH.2 (.inr (k.h y hy)),fun y hy=>(FH.1 hy).elim (fun e=>by rw[e];exact .on x (k.c x hx) s hs h0 j hj he) (k.c y)⟩
theorem iB.start (l:List It):iB G l (ir [] l) :=
 ⟨Ge List.Pairwise.nil,fun x hx=>xS.2 (.inr hx),fun x hx=>(xS.1 hx).elim (fun h=>by cases h) fun h=>.of x h⟩
theorem iB.done {l out:List It} (hl:∀x∈l,gj G x=true) (k:iB G l out) (h:∀x∈out,∀s,nx G x=some s->s<0->∀j:Nat,∀hj:j<G.rs.length,(G.rs[j]).l = -1-s->((j:Int),0)∈out):out=iU G l:=L6 hl k.s k.h k.c h
theorem PU {out:List It} {x:It} (h:(put out x).length<=out.length):x∈out:=BW fun hn=>by
 have:=GB hn
 omega
def lead (e:List (Int×Int)) (s:Int):Int:=((e.find? fun x=>x.1==s).map (·.2)).getD (-1)
def nC (E:List (List (Int×Int))):Int->List Int->Option Int
 | q,[]=>if 0<=q/\q<E.length then some q else none
 | q,s::r=>if 0<=q/\q<E.length then nC E (lead (E.getD q.toNat []) s) r else none
theorem qC {E:List (List (Int×Int))} {s:Int}:∀ {a:List Int} {q:Int},nC E q (a++[s])=(nC E q a).bind fun q1=>nC E (lead (E.getD q1.toNat []) s) []
 | [],q=>by
  rw[CS,nC,nC];split <;> rfl
 | z::a,q=>by
  rw[Cn,nC,nC];split
  ·exact qC
  ·rfl
theorem qB {a b:List Int} {q:Int} (h:nC E q a=none):nC E q (a++b)=none:=by
 induction a generalizing q with
 | nil =>
  rw[nC]at h;split at h
  ·cases h
  ·rename_i hq
   cases b with
   | nil=>rw[CS,nC,AI hq]
   | cons s r=>rw[CS,nC,AI hq]
 | cons z a ih =>
  rw[nC]at h;rw[Cn,nC];split
  ·rename_i hq
   rw[AC hq]at h;exact ih h
  ·rfl
theorem Iv {x:It}:∀ {l:List It} (k:Nat),k<=l.length->(∀j (_:j<k) (hl:j<l.length),lt l[j] x=true)->put l x=l.take k++put (l.drop k) x
 | l,0,_,_=>by simp
 | [],k+1,hk,_=>by simp at hk
 | y::l,k+1,hk,h=>by
  have h0:=h 0 (by omega) (by simp);have h0:lt y x=true:=h0
  have ih:=Iv (x:=x) (l:=l) k (by simpa using hk) fun j hj hl=>by
   have:=h (j+1) (by omega) (by simpa using hl)
   simpa using this
  rw[List.take_succ_cons,List.drop_succ_cons,Cn,<-ih,put];simp[h0]
theorem nQ {x:It} {l:List It} (hk:k<l.length) (h:∀j (_:j<k) (hl:j<l.length),lt l[j] x=true) (he:l[k]=x):put l x=l:=by
 rw[Iv k (by omega) h,BV hk,he,put];rw[kK];simp
 have:=Ek k l
 rw[BV hk,he]at this;exact this
theorem qj {x:It} {l:List It} (hk:k<=l.length) (h:∀j (_:j<k) (hl:j<l.length),lt l[j] x=true) (hn:∀hl:k<l.length,lt l[k] x=false/\l[k]≠x):put l x=l.take k++[x]++l.drop k:=by
 rw[Iv k hk h,Ci]
 congr 1
 rcases Bx k l.length with h1|h1
 ·obtain⟨h2,h3⟩:=hn h1;rw[BV h1,put];simp[h2,h3]
 ·rw[BU h1];rfl
theorem Sk (l:List It) (x:It):(put l x).length<=l.length+1:=by
 induction l with
 | nil=>simp[put]
 | cons y l ih =>
  rw[put];split
  ·simp;omega
  ·split <;> simp
theorem sz (G:Gm.Gr) (l:List It) (s:Int):(mv G l s).length<=l.length:=by
 unfold mv;rw[Bh];exact Cd _ _
theorem uo {a b:List It} (hl:a.length=b.length) (h:∀j (h:j<a.length) (h2:j<b.length),a[j]=b[j]):a=b:=Cp hl fun j h1 h2=>h j h1 h2
theorem pQ {k:List It}:∀ {l:List (List It)} {i:Nat},(∀j (_:j<i) (hl:j<l.length),l[j]≠k)->∀(h:i<l.length),l[i]=k->ij l k=(i:Int)
 | [],i,_,h,_=>by simp at h
 | y::l,0,_,_,e=>by
  have e:y=k:=e;rw[ij,AC e];rfl
 | y::l,i+1,hn,h,e=>by
  have h0:y≠k:=hn 0 (by omega) (by simp);have ih:=pQ (k:=k) (l:=l) (i:=i) (fun j hj hl=>by have:=hn (j+1) (by omega) (by simpa using hl);simpa using this) (by simpa using h) (by simpa using e);rw[ij,AI h0,ih,AI (by omega)];omega
def kx (G:Gm.Gr) (x:It):List It:=match nx G x with
 | some s=>if s<0 then((List.range G.rs.length).filter fun k=>decide ((G.rs.getD k ⟨0,[],0⟩).l = -1-s)).map fun k:Nat=>((k:Int),(0:Int)) else []
 | none=>[]
def qX (G:Gm.Gr) (out:List It):List It:=ir out (out.flatMap (kx G))
def tj (G:Gm.Gr):Nat->List It->List It
 | 0,out=>out
 | n+1,out=>tj G n (qX G out)
def oF (G:Gm.Gr) (l:List It):List It:=tj G 41 (ir [] l)
theorem zR {x z:It}:z∈kx G x ↔ ∃s,nx G x=some s/\s<0/\∃k:Nat,∃hk:k<G.rs.length,(G.rs[k]).l = -1-s/\z=((k:Int),0):=by
 unfold kx;cases hn:nx G x with
 | none=>simp
 | some s =>
  by_cases h0:s<0
  ·simp only[AC h0]
   constructor
   ·intro h;obtain⟨k,hk,rfl⟩:=Bm.1 h;obtain⟨h1,h2⟩:=B7.1 hk;have h1:=Cj.1 h1;rw[Bi,Ag,AD h1,Bp]at h2;exact⟨s,rfl,h0,k,h1,h2,rfl⟩
   ·rintro⟨s',e,_,k,hk,hl,rfl⟩;injection e with e;subst e;refine Bm.2 ⟨k,B7.2 ⟨Cj.2 hk,?_⟩,rfl⟩;rw[Bi,Ag,AD hk,Bp];exact hl
  ·simp only[AI h0]
   constructor
   ·intro h;cases h
   ·rintro⟨s',e,h1,_⟩;injection e with e;omega
theorem iB.qX {l out:List It} (k:iB G l out):iB G l (qX G out):=by
 refine⟨Ge k.s,fun x hx=>xS.2 (.inl (k.h x hx)),fun x hx=>?_⟩;rcases xS.1 hx with h|h
 ·exact k.c x h
 ·obtain⟨y,hy,hz⟩:=CG.1 h;obtain⟨s,hs,h0,j,hj,hl,rfl⟩:=zR.1 hz;exact .on y (k.c y hy) s hs h0 j hj hl
theorem iB.tj {G:Gm.Gr} {l:List It}:∀(n:Nat) {out:List It},iB G l out->iB G l (tj G n out)
 | 0,_,k=>k
 | n+1,_,k=>iB.tj n k.qX
theorem nF {l:List It} (hl:∀x∈l,gj G x=true) (h:qX G (oF G l)=oF G l):iU G l=oF G l:=by
 have k:iB G l (oF G l):=iB.tj 41 (iB.start l);refine(k.done hl fun x hx s hs h0 j hj he=>?_).symm;rw[<-h];exact xS.2 (.inr (CG.2 ⟨x,hx,zR.2 ⟨s,hs,h0,j,hj,he,rfl⟩⟩))
def GW (G:Gm.Gr):Nat->List (List It)->List (List (Int×Int))->Option (List (List It)×List (List (Int×Int)))
 | 0,_,_=>none
 | f+1,ks,es=>if es.length<ks.length then
   let c:=oF G (ks.getD es.length [])
   let o:=fS G c (ks,[]) (syms G)
   if qX G c=c then(if 300<o.1.length then none else GW G f o.1 (es++[o.2])) else none
  else some (ks,es)
theorem MC {G:Gm.Gr}:∀(f:Nat) (ks:List (List It)) (es:List (List (Int×Int))),Inv G ks es->∀r,GW G f ks es=some r->run G f ks es=some r
 | 0,_,_,_,_,h=>by cases h
 | f+1,ks,es,hi,r,h=>by
  rw[GW]at h;rw[run];split at h
  ·rename_i b
   rw[AC b];simp only at h;split at h
   ·rename_i hc
    have hm:ks.getD es.length []∈ks:=by
     rw[Ag,AD b,Bp];exact AE b
    have e:=nF (hi.it _ hm).2 hc;have e2:one G ks es.length=fS G (oF G (ks.getD es.length [])) (ks,[]) (syms G):=by unfold one;rw[e]
    rw[<-e2]at h;split at h
    ·cases h
    ·rename_i h3
     rw[AI h3];exact MC f _ _ (hi.step b) r h
   ·cases h
  ·rename_i b
   rw[AI b];exact h
theorem xF {r:List (List It)×List (List (Int×Int))} (h:GW G 302 [[(-1,0)]] []=some r):lK G=some r:=MC 302 _ _ (Inv.start G) r h
def jL (k:List It):List Int:=k.flatMap fun x=>[x.1+1,x.2]
theorem Lp:∀ {a b:List It},jL a=jL b->a=b
 | [],[],_=>rfl
 | [],y::b,h=>by simp[jL]at h
 | x::a,[],h=>by simp[jL]at h
 | x::a,y::b,h=>by
  have h:(x.1+1)::x.2::jL a=(y.1+1)::y.2::jL b:=h;injection h with h1 h;injection h with h2 h;rw[Lp h,show x=y from Ea (by omega) h2]
theorem sL (k:List It):(jL k).length=k.length*2:=by
 induction k with
 | nil=>rfl
 | cons x k ih =>
  have e:jL (x::k)=(x.1+1)::x.2::jL k:=rfl;rw[e,BC,BC,BC,ih];omega
theorem uZ (k:List It) (x:It):jL (k++[x])=jL k++[x.1+1,x.2]:=by simp[jL]
theorem zb (aa:Gm.Ok G) (hr:G.rs.length<=40) {k:List It} (h:∀x∈k,gj G x=true):∀z∈jL k,0<=z/\z<=255:=fun z hz=>by
 obtain⟨x,hx,hz⟩:=CG.1 hz;have hi:=fW.1 (h x hx);have h6:=nY aa (jk.2 hi.1);rcases Bu.1 hz with rfl|hz
 ·omega
 ·rw[AP.1 hz];omega
def lW (l:List (List Int×Value)) (ks:List (List It)):Prop:=∀k:List It,Mw.fF l (jL k)=if ij ks k<0 then none else some (.int .i64 (ij ks k))
theorem lW.nil:lW [] []:=fun k=>by simp[Mw.fF,ij]
theorem KV {k k':List It}:∀ {ks:List (List It)},ij (ks++[k]) k'=if ij ks k'<0 then(if k=k' then(ks.length:Int) else -1) else ij ks k'
 | []=>by simp[ij]
 | y::ks=>by
  have ih:=KV (k:=k) (k':=k') (ks:=ks);rw[Cn,ij,ij,ih];by_cases e:y=k'
  ·simp[e]
  ·simp only[AI e];by_cases h1:ij ks k'<0
   ·simp only[AC h1];by_cases h2:k=k'
    ·simp only[AC h2,BC];rw[AI (by omega)];simp
    ·simp only[AI h2];simp
   ·simp only[AI h1];rw[AI (by omega)]
theorem lW.snoc {l:List (List Int×Value)} {ks:List (List It)} {k:List It} (h:lW l ks) (hn:ij ks k<0):lW (l++[(jL k,.int .i64 ks.length)]) (ks++[k]):=fun k'=>by
 have h0:Mw.fF l (jL k)=none:=by rw[h k,AC hn]
 rw[Mw.kS h0,KV];by_cases e:k=k'
 ·subst e;rw[AC rfl,AC hn,AC rfl,AI (by omega)]
 ·rw[AI (fun q=>e (Lp q)),h k'];by_cases h1:ij ks k'<0
  ·simp[h1,e]
  ·simp[h1]
theorem rk (G:Gm.Gr) (a b:List It) (s:Int):mv G (a++b) s=mv G a s++mv G b s:=by
 unfold mv;rw[B9,Bf]
theorem nM {x:It} (h:nx G x≠some s):mv G [x] s=[]:=by
 unfold mv;rw[Cc,AI (by simpa using h)];rfl
theorem yz {x:It} (h:nx G x=some s):mv G [x] s=[(x.1,x.2+1)]:=by
 unfold mv;rw[Cc,AC (by rw[h];simp)];rfl
structure PC (G:Gm.Gr) (l:List It) (i:Nat) (xs:List It):Prop where
 nd:xs.Nodup
 h:∀x∈l,x∈xs
 c:∀x∈xs,Cl G l x
 d:∀j,j<i->∀x,xs[j]?=some x->∀z∈kx G x,z∈xs
theorem Hs:∀ {a b:List It},a.Nodup->(∀x∈a,x∈b)->a.length<=b.length
 | [],_,_,_=>by simp
 | x::a,b,hn,h=>by
  obtain⟨h1,h2⟩:=ED.1 hn;have hx:=h x Br;have hp:=List.length_erase_of_mem hx;have aa:=List.length_pos_of_mem hx
  have ih:=Hs (a:=a) (b:=b.erase x) h2 fun y hy=>by
   have:y≠x:=fun e=>h1 (e▸hy)
   exact(List.mem_erase_of_ne this).2 (h y (Bo _ hy))
  rw[BC];omega
theorem PC.le {l xs:List It} (hl:∀x∈l,gj G x=true) (k:PC G l i xs):xs.length<=(vf G).length :=
 Hs k.nd fun x hx=>Gj.2 (pL hl (k.c x hx))
def iQ (xs:List It) (z:It):List It:=if z∈xs then xs else xs++[z]
theorem QO {xs:List It} {z y:It}:y∈iQ xs z↔y=z\/y∈xs:=by
 unfold iQ;split
 ·rename_i h
  exact⟨.inr,fun q=>q.elim (fun e=>e▸h) id⟩
 ·rw[Bt,AP];exact Or.comm
theorem Rm {xs:List It} {z:It} (h:xs.Nodup):(iQ xs z).Nodup:=by
 unfold iQ;split
 ·exact h
 ·rename_i hz
  refine CK.2 ⟨h,by simp,fun a ha b hb=>?_⟩;rw[AP.1 hb];exact fun e=>hz (e▸ha)
theorem Rn {xs:List It} {z:It} {j:Nat} (h:j<xs.length):(iQ xs z)[j]?=xs[j]?:=by
 unfold iQ;split
 ·rfl
 ·rw[BM h]
theorem Lb {xs:List It} {z:It}:xs.length<=(iQ xs z).length:=by
 unfold iQ;split
 ·exact Af _
 ·simp
def gg (xs zs:List It):List It:=zs.foldl iQ xs
theorem mB (xs zs:List It) (z:It):gg xs (zs++[z])=iQ (gg xs zs) z:=by simp[gg]
theorem zd {y:It}:∀ {zs xs:List It},y∈gg xs zs↔y∈zs\/y∈xs
 | [],xs=>by simp[gg]
 | z::zs,xs=>by
  have:=zd (y:=y) (zs:=zs) (xs:=iQ xs z)
  rw[show gg xs (z::zs)=gg (iQ xs z) zs from rfl,this,QO,Bu]
  constructor
  ·rintro(h|h|h)
   ·exact .inl (.inr h)
   ·exact .inl (.inl h)
   ·exact .inr h
  ·rintro((h|h)|h)
   ·exact .inr (.inl h)
   ·exact .inl h
   ·exact .inr (.inr h)
theorem IA:∀ {zs xs:List It},xs.Nodup->(gg xs zs).Nodup
 | [],_,h=>h
 | _::zs,_,h=>IA (zs:=zs) (Rm h)
theorem lJ:∀ {zs xs:List It},xs.length<=(gg xs zs).length
 | [],_=>Af _
 | z::zs,xs=>Aj Lb (lJ (zs:=zs) (xs:=iQ xs z))
theorem K9 {j:Nat}:∀ {zs xs:List It},j<xs.length->(gg xs zs)[j]?=xs[j]?
 | [],_,_=>rfl
 | z::zs,xs,h=>(K9 (zs:=zs) (xs:=iQ xs z) (Ah h Lb)).trans (Rn h)
theorem PC.start (G:Gm.Gr) (l:List It):PC G l 0 (gg [] l) :=
 ⟨IA List.nodup_nil,fun x hx=>zd.2 (.inl hx),fun x hx=>(zd.1 hx).elim (fun h=>.of x h) (fun h=>by cases h),fun j hj=>absurd hj (De _)⟩
theorem PC.next {l xs:List It} (k:PC G l i xs) {x:It} (hx:xs[i]?=some x):PC G l (i+1) (gg xs (kx G x)):=by
 refine⟨IA k.nd,fun y hy=>zd.2 (.inr (k.h y hy)),fun y hy=>?_,fun j hj y hy z hz=>?_⟩
 ·rcases zd.1 hy with h|h
  ·obtain⟨s,hs,h0,j,hj,hl,rfl⟩:=zR.1 h;exact .on x (k.c x (Co hx)) s hs h0 j hj hl
  ·exact k.c y h
 ·have aa:i<xs.length:=(Bc.1 hx).1;rw[K9 (by omega)]at hy;rcases Bx j i with h|h
  ·exact zd.2 (.inr (k.d j h y hy z hz))
  ·obtain rfl:j=i:=by omega
   rw[hx]at hy;injection hy with hy;subst hy;exact zd.2 (.inl hz)
theorem PC.done {l xs out:List It} (hl:∀x∈l,gj G x=true) (k:PC G l xs.length xs) (hs:j6 out) (hm:∀x,x∈out↔x∈xs):out=iU G l:=by
 refine L6 hl hs (fun x hx=>(hm x).2 (k.h x hx)) (fun x hx=>k.c x ((hm x).1 hx)) fun x hx s hs h0 j hj he=>(hm _).2 ?_;obtain⟨q,hq,e⟩:=BF ((hm x).1 hx);exact k.d q hq x (by rw[AD hq,e]) _ (zR.2 ⟨s,hs,h0,j,hj,he,rfl⟩)
theorem yY {xs out:List It} (hn:xs.Nodup) (hp:out.Perm xs) (hs:out.Pairwise fun a b=>lt b a=false):j6 out:=by
 have ab:out.Nodup:=hp.nodup_iff.2 hn;refine(CX.2 fun i j hi hj aa=>?_);have h1:=CX.1 hs i j hi hj aa;have h2:=CX.1 (BO.1 ab) i j hi hj aa;exact uC h1 (Ne.symm h2)
end Au
namespace Lk
open Au Gm Go.Mw
abbrev MP:=List ((Int×Int)×Nat)
def gN (M:MP) (x:Int×Int):Nat:=(fF M x).getD 0
def qK (M:MP) (x:Int×Int) (v:Nat):MP:=gZ M x (gN M x ||| v)
theorem S7 {M:MP} {y:Int×Int} {v:Nat}:gN (gZ M x v) y=if x=y then v else gN M y:=by
 unfold gN;rw[j9];split <;> rfl
theorem An {M:MP} {y:Int×Int} {v:Nat}:gN (qK M x v) y=if x=y then gN M x ||| v else gN M y:=S7
def gV (M:MP):List ((Int×Int)×Value):=M.map fun p=>(p.1,.int .u32 (p.2:Int))
theorem oB {x:Int×Int}:∀ {M:MP},fF (gV M) x=(fF M x).map fun v:Nat=>(.int .u32 (v:Int):Value)
 | []=>rfl
 | (k,u)::r=>by
  have ih:=oB (x:=x) (M:=r);unfold gV at ih ⊢;rw[Bz];unfold fF;split
  ·rfl
  ·exact ih
theorem oH {x:Int×Int} {v:Nat}:∀ {M:MP},gZ (gV M) x (.int .u32 (v:Int))=gV (gZ M x v)
 | []=>rfl
 | (k,u)::r=>by
  have ih:=oH (x:=x) (v:=v) (M:=r);unfold gV at ih ⊢;rw[Bz];unfold gZ;split
  ·rfl
  ·rw[ih,Bz]
theorem q9 (M:MP) (x:Int×Int):(fF (gV M) x).getD (.int .u32 0)=.int .u32 (gN M x:Int):=by
 rw[oB];unfold gN;cases fF M x <;> rfl
def pc (v:Nat):Nat:=(List.range 32).countP fun t=>v.testBit t
theorem Rw:pc 0=0:=by decide
theorem S3 (v:Nat):pc v<=32:=by
 unfold pc
 have:=List.countP_le_length (p:=fun t=>v.testBit t) (l:=List.range 32)
 simpa using this
theorem K2 {p q:Nat->Bool}:∀ {l:List Nat},(∀x∈l,p x=true->q x=true)->(∃y∈l,q y=true/\p y=false)->l.countP p<l.countP q
 | [],_,h=>by obtain⟨y,hy,_⟩:=h;cases hy
 | x::l,h1,h2=>by
  have hl:l.countP p<=l.countP q:=List.countP_mono_left fun y hy=>h1 y (Bo _ hy);rw[List.countP_cons,List.countP_cons];obtain⟨y,hy,hq,hp⟩:=h2;rcases Bu.1 hy with rfl|hy
  ·rw[hq,hp];simp;omega
  ·have:=K2 (l:=l) (fun z hz=>h1 z (Bo _ hz)) ⟨y,hy,hq,hp⟩
   have h3:=h1 x Br;cases aa:p x
   ·simp;omega
   ·rw[h3 aa];simp;omega
theorem LF {a v:Nat} (ha:a<4294967296) (hv:v<4294967296) (h:a ||| v≠a):pc a<pc (a ||| v):=by
 have ab:a ||| v<4294967296:=qe ha hv;obtain⟨t,ht⟩:∃t,(a ||| v).testBit t≠a.testBit t:=BW fun hn=>h (CW fun t=>BW fun k=>hn ⟨t,k⟩);have hi:a.testBit t=true->(a ||| v).testBit t=true:=fun k=>by rw[CM,k,Dw]
 have h1:(a ||| v).testBit t=true/\a.testBit t=false:=by
  cases e1:a.testBit t
  ·rw[e1]at ht;exact⟨by cases q:(a ||| v).testBit t <;> simp_all,rfl⟩
  ·rw[hi e1,e1]at ht;exact absurd rfl ht
 have aa:t<32:=by
  rcases Bx t 32 with q|q
  ·exact q
  ·have:(a ||| v)<2 ^ t:=Ah ab (by have:=BQ (n:=2) (by decide) q;omega)
   rw[DN this]at h1;cases h1.1
 exact K2 (fun x _ k=>by rw[CM,k,Dw]) ⟨t,Cj.2 aa,h1.1,h1.2⟩
def jo (M:MP):Nat:=(M.map fun p=>pc p.2).sum
theorem Lu {x:Int×Int} {v:Nat}:∀ {M:MP},jo (gZ M x v)+pc (gN M x)=jo M+pc v
 | []=>by simp[jo,gZ,gN,fF,Rw]
 | (k,u)::r=>by
  have ih:=Lu (x:=x) (v:=v) (M:=r);unfold gZ gN fF;unfold jo gN at *;split
  ·simp only[Bz,Ei,Bp];omega
  ·simp only[Bz,Ei];omega
theorem Kv {x:Int×Int} {v:Nat}:∀ {M:MP},(gZ M x v).map Prod.fst=if fF M x=none then M.map Prod.fst++[x] else M.map Prod.fst
 | []=>rfl
 | (k,u)::r=>by
  have ih:=Kv (x:=x) (v:=v) (M:=r);unfold gZ fF;by_cases h:k=x
  ·rw[AC h,AC h,AI (by simp)];rfl
  ·rw[AI h,AI h,Bz,ih];split <;> rfl
theorem Pq {M:MP} {v:Nat} (h:(M.map Prod.fst).Nodup):((gZ M x v).map Prod.fst).Nodup:=by
 rw[Kv];split
 ·rename_i hn
  rw[CK];refine⟨h,by simp,fun a ha c hc=>?_⟩;obtain⟨p,hp,rfl⟩:=Bm.1 ha;rw[AP.1 hc];exact zQ.1 hn p hp
 ·exact h
theorem IK {x:Int×Int} {v:Nat} {p:(Int×Int)×Nat}:∀ {M:MP},p∈gZ M x v->p∈M\/p=(x,v)
 | [],h=>by simpa[gZ] using h
 | (k,u)::r,h=>by
  unfold gZ at h;split at h
  ·rename_i e
   rcases Bu.1 h with h|h
   ·right;rw[h,e]
   ·exact .inl (Bo _ h)
  ·rcases Bu.1 h with h|h
   ·exact .inl (by rw[h];exact Br)
   ·rcases IK h with h|h
    ·exact .inl (Bo _ h)
    ·exact .inr h
theorem GJ {M:MP} (h:gN M x≠0):(x,gN M x)∈M:=by
 unfold gN at h ⊢;cases e:fF M x with
 | none=>rw[e]at h;exact absurd rfl h
 | some v=>exact oC e
def Sub (a b:Nat):Prop:=∀t:Nat,a.testBit t=true->b.testBit t=true
theorem Sub.refl (a:Nat):Sub a a:=fun _ h=>h
theorem Sub.trans {a c:Nat} (h:Sub a b) (k:Sub b c):Sub a c:=fun t e=>k t (h t e)
theorem Sub.inl (a b:Nat):Sub a (a ||| b):=fun t h=>by rw[CM,h,Dw]
theorem Sub.inr (a b:Nat):Sub b (a ||| b):=fun t h=>by rw[CM,h,Ev]
theorem Sub.ne {a:Nat} (h:Sub a b) (k:a≠0):b≠0:=by
 obtain⟨t,ht⟩:=CD k;exact xX (h t ht)
theorem Sub.of {a:Nat} (h:a ||| b=a):Sub b a:=fun t k=>by rw[<-h];exact Sub.inr a b t k
def kE (M M':MP):Prop:=∀y,Sub (gN M y) (gN M' y)
theorem kE.refl (M:MP):kE M M:=fun _=>Sub.refl _
theorem kE.or (M:MP) (x:Int×Int) (v:Nat):kE M (qK M x v):=fun y=>by
 rw[An];split
 ·rename_i e;rw[e];exact Sub.inl _ _
 ·exact Sub.refl _
theorem ru (M:MP) (x:Int×Int) (v:Nat):Sub v (gN (qK M x v) x):=by
 rw[An,AC rfl];exact Sub.inr _ _
theorem FK {s j:Int}:∀ {e:List (Int×Int)},(e.map (·.1)).Nodup->(s,j)∈e->lead e s=j
 | [],_,h=>by cases h
 | x::e,hn,h=>by
  rw[Bz,ED]at hn;unfold lead;rw[List.find?_cons];by_cases hx:x.1=s
  ·rw[show(x.1==s)=true by simpa using hx];rcases Bu.1 h with e1|e1
   ·rw[<-e1];rfl
   ·exact absurd (Bm.2 ⟨(s,j),e1,hx.symm⟩) hn.1
  ·rw[show(x.1==s)=false by simpa using hx];rcases Bu.1 h with e1|e1
   ·exact absurd (by rw[<-e1]) hx
   ·exact FK hn.2 e1
def Fv (E:List (List (Int×Int))) (q:Nat) (s:Int):Nat:=(lead (E.getD q []) s).toNat
def sW (E:List (List (Int×Int))):Nat->List Int->Nat
 | q,[]=>q
 | q,s::r=>sW E (Fv E q s) r
theorem mL {E:List (List (Int×Int))} {s:Int}:∀ {a:List Int} {q:Nat},sW E q (a++[s])=Fv E (sW E q a) s
 | [],_=>rfl
 | _::a,_=>mL (a:=a)
section
variable {G:Gr} {K:List (List It)} {E:List (List (Int×Int))}
theorem oP (h:Inv G K E) (hi:i<E.length):(E[i].map (·.1)).Nodup:=by
 rw[(h.ed i hi).1];exact(NP G).filter _
theorem L5 (h:Inv G K E) {j:Nat} (he:Ed E i s j):Fv E i s=j:=by
 obtain⟨hi,he⟩:=he;unfold Fv;rw[Ag,AD hi,Bp,FK (oP h hi) he];omega
theorem SJ (aa:Ok G) {r:Int} (h:z∈sy G r):z<G.ts.length/\-1-z<G.ns.length:=by
 unfold sy at h;split at h
 ·rw[AP.1 h]
  have:=aa.s0;have:=aa.s1
  omega
 ·rcases Bx r.toNat G.rs.length with hk|hk
  ·rw[Ag,AD hk,Bp]at h
   have:=(fJ (aa.rr _ (AE hk))).2.2.2 z h
   exact⟨this.1,this.2.1⟩
  ·rw[Ag,BH hk,EP]at h;cases h
theorem Mx (aa:Ok G) {x:It} (hl:La G E i x t):0<=t/\t<=G.ts.length:=by
 induction hl with
 | st=>omega
 | bg i x t s _ hs h0 k hk hl u hu ih=>exact⟨GO hu,Int.le_of_lt (GU aa (fun z hz=>(SJ aa (CV hz)).1) hu)⟩
 | nu i x t s _ hs h0 k hk hl hn ih=>exact ih
 | mv i x t s _ hs j he ih=>exact ih
def Wk (G:Gr) (E:List (List (Int×Int))) (i:Nat) (s t:Int):Prop:=∃x,nx G x=some s/\((Bg G t (rest G x)/\∃u,La G E i x u)\/Nu G (rest G x)/\La G E i x t)
theorem Wk.la (h:Wk G E i s t) (h0:s<0) (hk:k<G.rs.length) (hl:(G.rs[k]).l = -1-s):La G E i ((k:Int),0) t:=by
 obtain⟨x,hs,⟨hb,u,hu⟩|⟨hn,hu⟩⟩:=h
 ·exact .bg i x u s hu hs h0 k hk hl t hb
 ·exact .nu i x t s hu hs h0 k hk hl hn
theorem Wk.start (G:Gr) (E:List (List (Int×Int))):Wk G E 0 (-1-G.st) G.ts.length:=⟨(-1,0),rfl,.inr ⟨by have e:rest G (-1,0)=[]:=rfl;rw[e];exact mU G,.st⟩⟩
noncomputable def sB (G:Gr) (v:Nat) (r:List Int):Nat:=iN (gn false G.rs G.ns.length) (fst G) v r
def po (G:Gr) (E:List (List (Int×Int))) (M:MP) (q v k d:Nat):Prop :=
 ∀hk:k<G.rs.length,∀d',d'<d->∀hd:d'<(G.rs[k]).r.length,(G.rs[k]).r[d']<0->Sub (sB G v ((G.rs[k]).r.drop (d'+1))) (gN M ((sW E q ((G.rs[k]).r.take d'):Nat),(G.rs[k]).r[d']))
def EW (G:Gr) (E:List (List (Int×Int))) (D:MP) (q v k:Nat):Prop:=∀hk:k<G.rs.length,Sub v (gN D ((sW E q (G.rs[k]).r:Nat),(k:Int)))
def pw (G:Gr) (E:List (List (Int×Int))) (M D:MP) (q:Nat) (s:Int) (v n:Nat):Prop :=
 ∀k,∀hk:k<G.rs.length,k<n->(G.rs[k]).l = -1-s->po G E M q v k (G.rs[k]).r.length/\EW G E D q v k
def Pd (G:Gr) (E:List (List (Int×Int))) (M D:MP) (x:Int×Int):Prop:=pw G E M D x.1.toNat x.2 (gN M x) G.rs.length
theorem po.mono {M M':MP} {v:Nat} (h:po G E M q v k d) (hm:kE M M'):po G E M' q v k d:=fun hk d' hd hl h0=>(h hk d' hd hl h0).trans (hm _)
theorem EW.mono {D D':MP} {v:Nat} (h:EW G E D q v k) (hm:kE D D'):EW G E D' q v k:=fun hk=>(h hk).trans (hm _)
theorem pw.mono {M M' D D':MP} {q v n:Nat} {s:Int} (h:pw G E M D q s v n) (hm:kE M M') (hd:kE D D'):pw G E M' D' q s v n:=fun k hk hn hl=>⟨(h k hk hn hl).1.mono hm,(h k hk hn hl).2.mono hd⟩
theorem po.zero (M:MP) (q v k:Nat):po G E M q v k 0:=fun _ _ h=>absurd h (De _)
theorem po.step {M:MP} {v:Nat} (h:po G E M q v k d) (hs:∀hk:k<G.rs.length,∀hd:d<(G.rs[k]).r.length,(G.rs[k]).r[d]<0->Sub (sB G v ((G.rs[k]).r.drop (d+1))) (gN M ((sW E q ((G.rs[k]).r.take d):Nat),(G.rs[k]).r[d]))):po G E M q v k (d+1):=fun hk d' hd hl h0=>by
 by_cases e:d'=d
 ·subst e;exact hs hk hl h0
 ·exact h hk d' (by omega) hl h0
theorem pw.zero (M D:MP) (q v:Nat) (s:Int):pw G E M D q s v 0:=fun _ _ h=>absurd h (De _)
theorem pw.step {M D:MP} {v:Nat} (h:pw G E M D q s v n) (hs:∀hk:n<G.rs.length,(G.rs[n]).l = -1-s->po G E M q v n (G.rs[n]).r.length/\EW G E D q v n):pw G E M D q s v (n+1):=fun k hk hn hl=>by
 by_cases e:k=n
 ·subst e;exact hs hk hl
 ·exact h k hk (by omega) hl
structure WB (G:Gr) (K:List (List It)) (E:List (List (Int×Int))) (M D:MP) (st:List (Int×Int)):Prop where
 mn:(M.map Prod.fst).Nodup
 mq:∀p∈M,∃i:Nat,i<K.length/\p.1.1=i/\p.1.2<0/\-1-p.1.2<G.ns.length/\p.2≠0/\p.2<4294967296
 ms:∀(i:Nat) (s:Int) (t:Nat),(gN M ((i:Int),s)).testBit t=true->Wk G E i s t
 dk:∀p∈D,p.2≠0/\p.2<4294967296
 ds:∀(i k t:Nat),(gN D ((i:Int),(k:Int))).testBit t=true->∃hk:k<G.rs.length,La G E i ((k:Int),((G.rs[k]).r.length:Int)) t
 s0:(gN M (0,-1-G.st)).testBit G.ts.length=true
 sk:∀x∈st,gN M x≠0
structure WI (G:Gr) (K:List (List It)) (E:List (List (Int×Int))) (M D:MP) (st:List (Int×Int)):Prop where
 b:WB G K E M D st
 cl:∀x,gN M x≠0->x∈st\/Pd G E M D x
structure WP (G:Gr) (K:List (List It)) (E:List (List (Int×Int))) (q:Nat) (s:Int) (v:Nat) (M D:MP) (st:List (Int×Int)):Prop where
 b:WB G K E M D st
 ot:∀x,x≠((q:Int),s)->gN M x≠0->x∈st\/Pd G E M D x
 me:((q:Int),s)∈st\/gN M ((q:Int),s)=v
 v0:v≠0
 vl:v<4294967296
 q1:q<K.length
 s1:s<0
 vs:∀t:Nat,v.testBit t=true->Wk G E q s t
theorem WB.lt {M D:MP} {st:List (Int×Int)} (h:WB G K E M D st) (x:Int×Int):gN M x<4294967296:=by
 by_cases e:gN M x=0
 ·omega
 ·obtain⟨_,_,_,_,_,_,h2⟩:=h.mq _ (GJ e);exact h2
theorem WB.Jl {M D:MP} {st:List (Int×Int)} (h:WB G K E M D st) (x:Int×Int):gN D x<4294967296:=by
 by_cases e:gN D x=0
 ·omega
 ·exact(h.dk _ (GJ e)).2
theorem MH {a:Nat} (h:b≠0):a ||| b≠0:=(Sub.inr a b).ne h
theorem WB.visit {M D:MP} {st:List (Int×Int)} (h:WB G K E M D st) {more:Nat} (hi:i<K.length) (hz:z<0) (aa:-1-z<G.ns.length) (hm:more<4294967296) (h0:more≠0) (hw:∀t:Nat,more.testBit t=true->Wk G E i z t):WB G K E (qK M ((i:Int),z) more) D (st++[((i:Int),z)]):=by
 refine⟨Pq h.mn,fun p hp=>?_,fun i' s t ht=>?_,h.dk,h.ds,kE.or M _ _ _ _ h.s0,fun x hx=>?_⟩
 ·rcases IK hp with hp|rfl
  ·exact h.mq p hp
  ·exact⟨i,hi,rfl,hz,aa,MH h0,qe (h.lt _) hm⟩
 ·rw[An]at ht;split at ht
  ·rename_i e
   injection e with e1 e2;have e1:i=i':=by omega
   subst e1 e2;rw[CM,Dd]at ht;rcases ht with ht|ht
   ·exact h.ms _ _ _ ht
   ·exact hw t ht
  ·exact h.ms _ _ _ ht
 ·rcases Bt.1 hx with hx|hx
  ·exact(kE.or M ((i:Int),z) more x).ne (h.sk x hx)
  ·rw[AP.1 hx];exact(ru M ((i:Int),z) more).ne h0
theorem Pd.mono {M M' D D':MP} {x:Int×Int} (h:Pd G E M D x) (hm:kE M M') (hd:kE D D') (he:gN M' x=gN M x):Pd G E M' D' x:=by
 unfold Pd at h ⊢;rw[he];exact pw.mono h hm hd
theorem WP.visit {q v:Nat} {s:Int} {M D:MP} {st:List (Int×Int)} (h:WP G K E q s v M D st) {i:Nat} {z:Int} {more:Nat} (hi:i<K.length) (hz:z<0) (aa:-1-z<G.ns.length) (hm:more<4294967296) (h0:more≠0) (hw:∀t:Nat,more.testBit t=true->Wk G E i z t):WP G K E q s v (qK M ((i:Int),z) more) D (st++[((i:Int),z)]):=by
 refine⟨h.b.visit hi hz aa hm h0 hw,fun x hx hn=>?_,?_,h.v0,h.vl,h.q1,h.s1,h.vs⟩
 ·by_cases e:((i:Int),z)=x
  ·exact .inl (DE _ (by rw[e];exact AP.2 rfl))
  ·have he:gN (qK M ((i:Int),z) more) x=gN M x:=by rw[An,AI e]
   rw[he]at hn;rcases h.ot x hx hn with k|k
   ·exact .inl (Dr _ k)
   ·exact .inr (k.mono (kE.or _ _ _) (kE.refl _) he)
 ·by_cases e:((i:Int),z)=((q:Int),s)
  ·exact .inl (DE _ (by rw[e];exact AP.2 rfl))
  ·rcases h.me with k|k
   ·exact .inl (Dr _ k)
   ·exact .inr (by rw[An,AI e];exact k)
theorem WP.put {v:Nat} {M D:MP} {st:List (Int×Int)} (h:WP G K E q s v M D st) {j:Nat} (hk:k<G.rs.length) (hw:∀t:Nat,v.testBit t=true->La G E j ((k:Int),((G.rs[k]).r.length:Int)) t):WP G K E q s v M (qK D ((j:Int),(k:Int)) v) st:=by
 refine⟨⟨h.b.mn,h.b.mq,h.b.ms,fun p hp=>?_,fun i' k' t ht=>?_,h.b.s0,h.b.sk⟩,fun x hx hn=>?_,h.me,h.v0,h.vl,h.q1,h.s1,h.vs⟩
 ·rcases IK hp with hp|rfl
  ·exact h.b.dk p hp
  ·exact⟨MH h.v0,qe (h.b.Jl _) h.vl⟩
 ·rw[An]at ht;split at ht
  ·rename_i e
   injection e with e1 e2;have e1:j=i':=by omega
   have e2:k=k':=by omega
   subst e1 e2;rw[CM,Dd]at ht;rcases ht with ht|ht
   ·exact h.b.ds _ _ _ ht
   ·exact⟨hk,hw t ht⟩
  ·exact h.b.ds _ _ _ ht
 ·rcases h.ot x hx hn with k|k
  ·exact .inl k
  ·exact .inr (k.mono (kE.refl _) (kE.or _ _ _) rfl)
theorem WI.take {M D:MP} {st:List (Int×Int)} (h:WI G K E M D (st++[x])):∃(q:Nat),x=((q:Int),x.2)/\WP G K E q x.2 (gN M x) M D st:=by
 have hx:gN M x≠0:=h.b.sk x (DE _ (AP.2 rfl));obtain⟨q,h1,h2,h3,h4,h5,h6⟩:=h.b.mq _ (GJ hx);have e:x=((q:Int),x.2):=Ea h2 rfl;refine⟨q,e,⟨⟨h.b.mn,h.b.mq,h.b.ms,h.b.dk,h.b.ds,h.b.s0,fun y hy=>h.b.sk y (Dr _ hy)⟩,fun y hy hn=>?_,.inr (by rw[<-e]),hx,h6,h1,h3,fun t ht=>h.b.ms q x.2 t (by rw[<-e];exact ht)⟩⟩;rcases h.cl y hn with k|k
 ·rcases Bt.1 k with k|k
  ·exact .inl k
  ·exact absurd ((AP.1 k).trans e) hy
 ·exact .inr k
theorem WP.done {v:Nat} {M D:MP} {st:List (Int×Int)} (h:WP G K E q s v M D st) (hp:pw G E M D q s v G.rs.length):WI G K E M D st:=by
 refine⟨h.b,fun x hn=>?_⟩;by_cases e:x=((q:Int),s)
 ·subst e;rcases h.me with k|k
  ·exact .inl k
  ·refine .inr ?_;unfold Pd;rw[k];exact hp
 ·exact h.ot x e hn
theorem WI.start (h0:0<K.length) (aa:Ok G) (ht:G.ts.length<=24):WI G K E [((0,-1-G.st),2 ^ G.ts.length)] [] [(0,-1-G.st)]:=by
 have hp:0<2 ^ G.ts.length:=Nat.pow_pos (by decide);have ac:2 ^ G.ts.length<=2 ^ 24:=BQ (by decide) ht
 have hg:∀x,gN [((0,-1-G.st),2 ^ G.ts.length)] x=if((0:Int),-1-G.st)=x then 2 ^ G.ts.length else 0:=fun x=>by
  unfold gN fF;split <;> rfl
 refine⟨⟨by simp,fun p ab=>?_,fun i s t ht=>?_,by simp,fun i k t ht=>?_,?_,fun x hx=>?_⟩,fun x hn=>?_⟩
 ·rw[AP.1 ab];refine⟨0,h0,rfl,?_,?_,?_,?_⟩
  ·have:=aa.s0;simp only;omega
  ·have:=aa.s1;simp only;omega
  ·simp only;omega
  ·simp only;omega
 ·rw[hg]at ht;split at ht
  ·rename_i e
   injection e with e1 e2;have e1:0=i:=by omega
   subst e1 e2;rw[Cu,Bi]at ht;rw[<-ht];exact Wk.start G E
  ·simp at ht
 ·simp[gN,fF]at ht
 ·rw[hg,AC rfl,Cu];simp
 ·rw[AP.1 hx,hg,AC rfl];omega
 ·rw[hg]at hn;split at hn
  ·rename_i e
   exact .inl (AP.2 e.symm)
  ·exact absurd rfl hn
theorem mr (hk:k<G.rs.length):rest G ((k:Int),(d:Int))=(G.rs[k]).r.drop (d+1):=by
 unfold rest;simp only[FP hk,Cq]
theorem nO (hk:k<G.rs.length) (h:nx G ((k:Int),(d:Int))=some s):∃hd:d<(G.rs[k]).r.length,(G.rs[k]).r[d]=s:=by
 unfold nx at h;simp only[FP hk,Cq]at h;exact Bc.1 h
theorem lA {x:It} (h1:x.1 = -1) (h2:0<=x.2) (h:nx G x=some s):x=(-1,0)/\s = -1-G.st/\rest G x=[]:=by
 have aa:=Mp h2 h;have ab:sy G x.1=[-1-G.st]:=by rw[h1];rfl
 rw[ab]at aa;have e2:x.2=0:=by simp at aa;omega
 have e:x=(-1,0):=Ea h1 e2;subst e;refine⟨rfl,?_,rfl⟩
 have:nx G (-1,0)=some (-1-G.st):=rfl
 rw[this]at h;injection h with h;exact h.symm
theorem WI.all {M D:MP} (h:WI G K E M D []) (hi:Inv G K E) (aa:Ok G) {x:It} (hl:La G E q x t) :
  (x.1 = -1/\0<=x.2/\(x.2=0->q=0)/\t=G.ts.length) \/ ∃k,∃hk:k<G.rs.length,∃d q0 n:Nat,x=((k:Int),(d:Int))/\d<=(G.rs[k]).r.length/\t=(n:Int)/\sW E q0 ((G.rs[k]).r.take d)=q/\(gN M ((q0:Int),-1-(G.rs[k]).l)).testBit n=true:=by
 have key:∀(k:Nat) (hk:k<G.rs.length) (d q0 n:Nat) (q:Nat) (s:Int),d<=(G.rs[k]).r.length->sW E q0 ((G.rs[k]).r.take d)=q->(gN M ((q0:Int),-1-(G.rs[k]).l)).testBit n=true->nx G ((k:Int),(d:Int))=some s->s<0 ->
   Sub (sB G (gN M ((q0:Int),-1-(G.rs[k]).l)) (rest G ((k:Int),(d:Int)))) (gN M ((q:Int),s)):=by
  intro k hk d q0 n q s hd hf hb hs h0;obtain⟨g,e⟩:=nO hk hs;rcases h.cl _ (xX hb) with hc|hc
  ·cases hc
  ·have:=(hc k hk hk (by omega)).1 hk d g g (by rw[e];exact h0)
   rw[Cq,hf,e]at this;rw[mr hk];exact this
 induction hl with
 | st=>exact .inl ⟨rfl,by decide,fun _=>rfl,rfl⟩
 | bg i x t s _ hs h0 k hk hl u hu ih =>
  rcases ih with⟨h1,h2,_,_⟩|⟨k',f,d,q0,n,rfl,hd,rfl,hf,hb⟩
  ·rw[(lA h1 h2 hs).2.2]at hu;exact absurd hu L7
  ·have hp:=GO hu
   have:=key k' f d q0 n i s hd hf hb hs h0 u.toNat ((ve aa.iT _ _ _).2 (.inl (by rw[BI hp];exact hu)))
   exact .inr ⟨k,hk,0,i,u.toNat,rfl,AV _,by omega,rfl,by rw[hl,show -1-(-1-s)=s by omega];exact this⟩
 | nu i x t s _ hs h0 k hk hl hn ih =>
  rcases ih with⟨h1,h2,h3,h4⟩|⟨k',f,d,q0,n,rfl,hd,rfl,hf,hb⟩
  ·obtain⟨rfl,rfl,_⟩:=lA h1 h2 hs;obtain rfl:=h3 rfl;exact .inr ⟨k,hk,0,0,G.ts.length,rfl,AV _,h4,rfl,by rw[hl,show -1-(-1-(-1-G.st)) = -1-G.st by omega];exact h.b.s0⟩
  ·have:=key k' f d q0 n i s hd hf hb hs h0 n ((ve aa.iT _ _ _).2 (.inr ⟨hn,hb⟩))
   exact .inr ⟨k,hk,0,i,n,rfl,AV _,rfl,rfl,by rw[hl,show -1-(-1-s)=s by omega];exact this⟩
 | mv i x t s _ hs j he ih =>
  rcases ih with⟨h1,h2,h3,h4⟩|⟨k',f,d,q0,n,rfl,hd,rfl,hf,hb⟩
  ·exact .inl ⟨h1,by show 0<=x.2+1;omega,fun e=>by have e:x.2+1=0:=e;omega,h4⟩
  ·obtain⟨g,e⟩:=nO f hs;refine .inr ⟨k',f,d+1,q0,n,by rw[Int.natCast_succ],g,rfl,?_,hb⟩;rw[AL g,mL,hf,e];exact L5 hi he
theorem WI.ends {M D:MP} (h:WI G K E M D []) (hi:Inv G K E) (aa:Ok G) (hk:k<G.rs.length) (t:Nat):(gN D ((i:Int),(k:Int))).testBit t=true↔La G E i ((k:Int),((G.rs[k]).r.length:Int)) t:=by
 constructor
 ·intro ht;exact(h.b.ds i k t ht).2
 ·intro hl;rcases h.all hi aa hl with⟨h1,_⟩|⟨k',ab,d,q0,n,e,hd,en,hf,hb⟩
  ·simp only at h1;omega
  ·injection e with e1 e2;have e1:k=k':=by omega
   subst e1;have e2:(G.rs[k]).r.length=d:=by omega
   have en:t=n:=by omega
   subst e2 en;rw[Bn]at hf;rcases h.cl _ (xX hb) with hc|hc
   ·cases hc
   ·have:=(hc k hk hk (by omega)).2 hk t hb
    rw[Cq,hf]at this;exact this
noncomputable def wI (G:Gr) (E:List (List (Int×Int))) (q:Nat) (x:It):Nat:=zB (fun t=>La G E q x (t:Int)) (G.ts.length+1)
theorem LM (aa:Ok G) (q:Nat) (x:It) (t:Nat):(wI G E q x).testBit t=true↔La G E q x t:=by
 unfold wI;rw[KR];exact⟨fun h=>h.2,fun h=>⟨by have:=(Mx aa h).2;omega,h⟩⟩
theorem yy (ht:G.ts.length<=24) (q:Nat) (x:It):wI G E q x<4294967296:=by
 have h1:=RJ (fun t=>La G E q x (t:Int)) (G.ts.length+1);have h2:2 ^ (G.ts.length+1)<=2 ^ 25:=BQ (by decide) (by omega);unfold wI;omega
def en (G:Gr) (k:Nat):It:=((k:Int),((sy G (k:Int)).length:Int))
noncomputable def mR (G:Gr) (K:List (List It)) (E:List (List (Int×Int))) (q k:Nat):Option Nat:=if tr (en G k∈iU G (K.getD q []))=true then some (wI G E q (en G k)) else none
noncomputable def iE (G:Gr) (K:List (List It)) (E:List (List (Int×Int))) (q:Nat):List (Int×Int):=(List.range G.rs.length).filterMap fun k=>(mR G K E q k).map fun v=>((k:Int),(v:Int))
theorem Tr (hk:k<G.rs.length):en G k=((k:Int),((G.rs[k]).r.length:Int)):=by unfold en;rw[FP hk]
theorem WI.at {M D:MP} (h:WI G K E M D []) (hi:Inv G K E) (hE:E.length=K.length) (aa:Ok G) (hp:∀x∈G.rs,Al true G.rs x.r) {i k:Nat} (ab:i<K.length) (hk:k<G.rs.length):fF D ((i:Int),(k:Int))=mR G K E i k:=by
 have hb:∀t:Nat,(gN D ((i:Int),(k:Int))).testBit t=true↔La G E i (en G k) t:=fun t=>by rw[Tr hk];exact h.ends hi aa hk t
 have hv:gN D ((i:Int),(k:Int))=wI G E i (en G k):=CW fun t=>Bw.2 ((hb t).trans (LM aa i _ t).symm);unfold mR;cases e:fF D ((i:Int),(k:Int)) with
 | none =>
  have h0:gN D ((i:Int),(k:Int))=0:=by unfold gN;rw[e];rfl
  rw[AI];intro hm;obtain⟨t,ht⟩:=R7 hi hE hp i ab _ (fP.1 hm);have h1:=(Mx aa ht).1
  have:=(hb t.toNat).2 (by rw[BI h1];exact ht)
  rw[h0,C4]at this;cases this
 | some v =>
  have h0:gN D ((i:Int),(k:Int))=v:=by unfold gN;rw[e];rfl
  have ac:=(h.b.dk _ (oC e)).1;obtain⟨t,ht⟩:=CD ac;simp only at ht;have hl:=(hb t).1 (by rw[h0];exact ht);rw[AC (fP.2 (si hi hl).2),<-hv,h0]
theorem WB.wh {M D:MP} {st:List (Int×Int)} (h:WB G K E M D st):jo M<=K.length*G.ns.length*32:=by
 have h1:∀l:List ((Int×Int)×Nat),(l.map fun p=>pc p.2).sum<=l.length*32:=by
  intro l;induction l with
  | nil=>simp
  | cons p l ih =>
   have:=S3 p.2
   simp only[Bz,Ei,BC];omega
 have h2:=h1 M
 have h3:(M.map Prod.fst).length<=((List.range K.length).flatMap fun i:Nat=>(List.range G.ns.length).map fun j:Nat=>(((i:Int),-1-(j:Int)):Int×Int)).length:=Hs h.mn fun x hx=>by
  obtain⟨p,hp,rfl⟩:=Bm.1 hx;obtain⟨i,k1,k2,k3,k4,_⟩:=h.mq p hp;refine CG.2 ⟨i,Cj.2 k1,Bm.2 ⟨(-1-p.1.2).toNat,Cj.2 (by omega),?_⟩⟩;refine Ea k2.symm ?_;simp only;omega
 have h4:((List.range K.length).flatMap fun i:Nat=>(List.range G.ns.length).map fun j:Nat=>(((i:Int),-1-(j:Int)):Int×Int)).length=K.length*G.ns.length:=by
  rw[List.length_flatMap]
  have:∀(f:Nat->List (Int×Int)) (n m:Nat),(∀i,(f i).length=m)->((List.range n).map fun i=>(f i).length).sum=n*m:=fun f n m hf=>by
   induction n with
   | zero=>simp
   | succ n ih=>rw[CH,Bf,List.sum_append,ih,Nat.succ_mul];simp[hf]
  exact this _ _ _ fun i=>by simp
 rw[Bh,h4]at h3
 have:=Ds 32 h3
 unfold jo;omega
theorem K3 {M:MP} {v:Nat} (hx:gN M x<4294967296) (hv:v<4294967296) (h:gN M x ||| v≠gN M x):jo M<jo (qK M x v):=by
 have h1:=Lu (x:=x) (v:=gN M x ||| v) (M:=M);have h2:=LF hx hv h;unfold qK;omega
end
end Lk
def vM (MM:Lk.MP) (x:Int×Int) (more:Nat):Lk.MP:=if Lk.gN MM x ||| more=Lk.gN MM x then MM else Lk.qK MM x more
def vS (MM:Lk.MP) (st:List (Int×Int)) (x:Int×Int) (more:Nat):List (Int×Int):=if Lk.gN MM x ||| more=Lk.gN MM x then st else st++[x]
namespace Lk
open Au Gm Go.Mw
structure On (MM DD:MP) (st:List (Int×Int)) (MM' DD':MP) (st':List (Int×Int)):Prop where
 m:kE MM MM'
 d:kE DD DD'
 c:jo MM<=jo MM'
 l:st'.length+jo MM<=st.length+jo MM'
theorem kE.trans {a b c:MP} (h:kE a b) (k:kE b c):kE a c:=fun y=>(h y).trans (k y)
theorem On.refl (MM DD:MP) (st:List (Int×Int)):On MM DD st MM DD st:=⟨kE.refl _,kE.refl _,Af _,Af _⟩
theorem On.trans {M1 D1 M2 D2 M3 D3:MP} {s1 s2 s3:List (Int×Int)} (h:On M1 D1 s1 M2 D2 s2) (k:On M2 D2 s2 M3 D3 s3):On M1 D1 s1 M3 D3 s3 :=
 ⟨h.m.trans k.m,h.d.trans k.d,Aj h.c k.c,by have:=h.l;have:=k.l;omega⟩
section
variable {G:Gr} {K:List (List It)} {E:List (List (Int×Int))}
theorem WP.MT {v:Nat} {M D:MP} {st:List (Int×Int)} (h:WP G K E q s v M D st) {more:Nat} (hi:i<K.length) (hz:z<0) (aa:-1-z<G.ns.length) (hm:more<4294967296) (h0:more≠0) (hw:∀t:Nat,more.testBit t=true->Wk G E i z t) :
  WP G K E q s v (vM M ((i:Int),z) more) D (vS M st ((i:Int),z) more)/\On M D st (vM M ((i:Int),z) more) D (vS M st ((i:Int),z) more)/\Sub more (gN (vM M ((i:Int),z) more) ((i:Int),z)):=by
 unfold vM vS;by_cases e:gN M ((i:Int),z) ||| more=gN M ((i:Int),z)
 ·rw[AC e,AC e];exact⟨h,On.refl _ _ _,Sub.of e⟩
 ·rw[AI e,AI e];refine⟨h.visit hi hz aa hm h0 hw,⟨kE.or _ _ _,kE.refl _,CQ (K3 (h.b.lt _) hm e),?_⟩,ru _ _ _⟩
  have:=K3 (h.b.lt ((i:Int),z)) hm e
  rw[AW,BA];omega
theorem yM {M D:MP} {st:List (Int×Int)} (x:Int×Int) (v:Nat):On M D st M (qK D x v) st:=⟨kE.refl _,kE.or _ _ _,Af _,Af _⟩
theorem WP.MR {v:Nat} {M D:MP} {st:List (Int×Int)} (h:WP G K E q s v M D st) (hk:k<G.rs.length) (hl:(G.rs[k]).l = -1-s):∀t:Nat,v.testBit t=true->La G E q ((k:Int),((0:Nat):Int)) t:=fun t ht=>(h.vs t ht).la h.s1 hk hl
theorem WI.xd {M D:MP} {st:List (Int×Int)} (h:WI G K E M D (st++[x])):-1-x.2<G.ns.length:=by
 have hx:gN M x≠0:=h.b.sk x (DE _ (AP.2 rfl));obtain⟨q,h1,h2,h3,h4,h5,h6⟩:=h.b.mq _ (GJ hx);exact h4
theorem yN {P:Nat} (h:P<4294967296) (h0:P≠0) (x:Int×Int):1<=jo [(x,P)]:=by
 have:=LF (a:=0) (v:=P) (by decide) h (by rw[Nat.zero_or];exact h0)
 rw[Nat.zero_or]at this;unfold jo;simp only[Bz,Du,Ei,List.sum_nil];omega
theorem vQ (hi:Inv G K E) (hE:E.length=K.length) (ab:Ok G) {a v:Nat} (hv:v≠0) (hk:k<G.rs.length) (hd:d<(G.rs[k]).r.length) (aa:∀t:Nat,v.testBit t=true->La G E a ((k:Int),(d:Int)) t) :
  a<K.length/\nx G ((k:Int),(d:Int))=some (G.rs[k]).r[d]/\∃j:Nat,Ed E a (G.rs[k]).r[d] j/\Fv E a (G.rs[k]).r[d]=j/\∀t:Nat,v.testBit t=true->La G E j ((k:Int),((d+1:Nat):Int)) t:=by
 obtain⟨t,ht⟩:=CD hv;obtain⟨h1,h2⟩:=si hi (aa t ht)
 have hs:nx G ((k:Int),(d:Int))=some (G.rs[k]).r[d]:=by
  unfold nx;simp only[FP hk,Cq];exact AD hd
 obtain⟨j,he,_⟩:=hi.jq hE ab h1 h2 hs;exact⟨h1,hs,j,he,L5 hi he,fun t ht=>La.mv a _ t _ (aa t ht) hs j he⟩
theorem Su (aa:Ok G) (ht:G.ts.length<=24) {v:Nat} (hv:v<4294967296) (hr:∀z∈r,z<G.ts.length):sB G v r<4294967296:=by
 have h1:∀t:Nat,(sB G v r).testBit t=true->t<32:=fun t k=>by
  rcases(ve aa.iT _ _ _).1 k with k|k
  ·have:=GU aa hr k;omega
  ·rcases Bx t 32 with q|q
   ·exact q
   ·have:v<2 ^ t:=Ah hv (by have:=BQ (n:=2) (by decide) q;omega)
    rw[DN this]at k;cases k.2
 have:sB G v r<2 ^ 32:=Ey _ fun i hi=>by
  cases q:(sB G v r).testBit i
  ·rfl
  ·have:=h1 i q;omega
 omega
theorem vP (b:Ok G) (ht:G.ts.length<=24) (hp:∀x∈G.rs,Al true G.rs x.r) {a v:Nat} (hv:v≠0) (ab:v<4294967296) (hk:k<G.rs.length) (hd:d<(G.rs[k]).r.length) (hs:nx G ((k:Int),(d:Int))=some (G.rs[k]).r[d]) (aa:∀t:Nat,v.testBit t=true->La G E a ((k:Int),(d:Int)) t) :
  sB G v ((G.rs[k]).r.drop (d+1))<4294967296/\sB G v ((G.rs[k]).r.drop (d+1))≠0/\∀t:Nat,(sB G v ((G.rs[k]).r.drop (d+1))).testBit t=true->Wk G E a (G.rs[k]).r[d] t:=by
 have ac:∀z∈(G.rs[k]).r.drop (d+1),z<G.ts.length:=fun z hz=>((fJ (b.rr _ (AE hk))).2.2.2 z (CV hz)).1;refine⟨Su b ht ab ac,?_,fun t k2=>⟨_,hs,?_⟩⟩
 ·rcases I4 (G:=G) (r:=(G.rs[k]).r.drop (d+1)) (fun y hy ad=>(hp _ (AE hk)).2 y (CV hy) ad) with h|⟨u,hu⟩
  ·obtain⟨t,ht⟩:=CD hv;exact xX ((ve b.iT _ t _).2 (.inr ⟨h,ht⟩))
  ·have h1:=GO hu;exact xX (t:=u.toNat) ((ve b.iT _ _ _).2 (.inl (by rw[BI h1];exact hu)))
 ·rw[mr hk];rcases(ve b.iT _ _ _).1 k2 with h|h
  ·obtain⟨u,hu⟩:=CD hv;exact .inl ⟨h,_,aa u hu⟩
  ·exact .inr ⟨h.1,aa t h.2⟩
end
end Lk
def bE (t:TypeId) (w:World) (a:Array Value) (wr:World):Prop:=Below (w.heap.size+1) (w.alloc (.cells a t)) wr
section
variable {t:TypeId} {w wr wt:World} {a:Array Value}
theorem bE.start (t:TypeId) (w:World) (a:Array Value):bE t w a (w.alloc (.cells a t)):=AB _ _
theorem bE.size (h:bE t w a wr):w.heap.size+1<=wr.heap.size:=by have:=Below.size h;simpa using this
theorem bE.below (h:bE t w a wr):Below w.heap.size w wr:=((AB w.heap.size w).alloc (Af _) _).trans (Below.mono h (by omega))
theorem bE.on (h:bE t w a wr) (k:Below wr.heap.size wr wt):bE t w a wt:=Below.trans h (k.mono h.size)
theorem bE.drewN (h:bE t w a wr) (n:Nat):bE t w a (wr.drewN n):=aB h n
theorem bE.alloc (h:bE t w a wr) (o:Obj):bE t w a (wr.alloc o):=Below.alloc h h.size o
theorem bE.c (h:bE t w a wr) (j:Nat) (u:Value) (hj:a[j]?=some u):wr.cell? ⟨w.heap.size,j,none⟩=some u:=by
 have b0:=(Eb h w.heap.size (by omega)).trans (AG w _);exact(AF wr _ j _ _ _ b0).trans hj
end
def bQ (t1 t2:TypeId) (w:World) (a b:Array Value) (wr:World):Prop:=Below (w.heap.size+2) ((w.alloc (.cells a t1)).alloc (.cells b t2)) wr
section
variable {t1 t2:TypeId} {w wr wt:World} {a b:Array Value}
theorem bQ.start (t1 t2:TypeId) (w:World) (a b:Array Value):bQ t1 t2 w a b ((w.alloc (.cells a t1)).alloc (.cells b t2)):=AB _ _
theorem bQ.size (h:bQ t1 t2 w a b wr):w.heap.size+2<=wr.heap.size:=by have:=Below.size h;simpa using this
theorem bQ.below (h:bQ t1 t2 w a b wr):Below w.heap.size w wr:=(((AB w.heap.size w).alloc (Af _) _).alloc (by simp) _).trans (Below.mono h (by omega))
theorem bQ.on (h:bQ t1 t2 w a b wr) (k:Below wr.heap.size wr wt):bQ t1 t2 w a b wt:=Below.trans h (k.mono h.size)
theorem bQ.drewN (h:bQ t1 t2 w a b wr) (n:Nat):bQ t1 t2 w a b (wr.drewN n):=aB h n
theorem bQ.alloc (h:bQ t1 t2 w a b wr) (o:Obj):bQ t1 t2 w a b (wr.alloc o):=Below.alloc h h.size o
theorem bQ.c1 (h:bQ t1 t2 w a b wr) (j:Nat) (u:Value) (hj:a[j]?=some u):wr.cell? ⟨w.heap.size,j,none⟩=some u:=by
 have b0:=(Eb h w.heap.size (by omega)).trans ((Bs _ _ _ (by simp)).trans (AG w (.cells a t1)));exact(AF wr _ j _ _ _ b0).trans hj
theorem bQ.c2 (h:bQ t1 t2 w a b wr) (j:Nat) (u:Value) (hj:b[j]?=some u):wr.cell? ⟨w.heap.size+1,j,none⟩=some u:=by
 have e:=AG (w.alloc (.cells a t1)) (.cells b t2);rw[show(w.alloc (.cells a t1)).heap.size=w.heap.size+1 by simp]at e;have b0:=(Eb h (w.heap.size+1) (by omega)).trans e;exact(AF wr _ j _ _ _ b0).trans hj
end
open Go.ChangeShapes Go.WideShapes Go.Deep Go.RowKit Go.Joins
section
variable {H:Type} {enc:TypeId×Value->H} {P:Program} {w:World} {base:Nat} {spare:Nat->Bool} {held:Bool}
theorem Ka {t e:TypeId} {fs:Array Field} {fuel:Nat} {cs:List Value} {x:DataW H×List MemPlace} (ht:P.underlying t=some (.slice e)) (he:P.underlying e=some (.struct fs)) (ac:oneCellFields P fs=true) (hC:P.cellsOf e=fs.size) (h:DataW.trod enc P w base spare held fuel t cs=some x) :
  cs=[.slice none 0 0] \/
  ∃(a:Addr) (len cap:Nat),cs=[.slice (some a) len cap]/\len<=cap/\cap<=maxLen /\
   ∀i,i<len->∀(j:Nat) (f:Field),fs[j]?=some f->∃(v:Value) (y:DataW H×List MemPlace) (n:Nat),w.cell? (a.add (i*fs.size+j))=some v/\DataW.trod enc P w base spare held n f.type [v]=some y:=by
 rcases open_slice ht h with h0|⟨a,len,cap,m,n,D,Pl,ad,hb,hl,hm,ae,hx,hi⟩
 ·exact .inl h0.1
 ·refine .inr ⟨a,len,cap,ad,hl,hm,fun i ak j f hj=>?_⟩;obtain⟨cs',hc,af⟩:=hi i (by rw[ae];split <;> omega);rw[hC]at hc;obtain⟨ys,n',al,hy,ag,am,hf⟩:=DataW.trod_struct he af;obtain⟨_,ao,ah⟩:=World.cells?_some hc;obtain⟨ho,hk⟩:=hone_of ac j f hj;have ai:j<fs.size:=(Ad.1 hj).1;have aa:=ah j ai;have hv:cs'[j]?=some (cs'[j]'(by omega)):=AD (by omega);have h1:=hf j f hj;rw[ho,hk]at h1
  have ab:(cs'.drop j).take 1=[cs'[j]'(by omega)]:=by
   rw[BV (by omega)];rfl
  rw[ab]at h1;have aj:ys[j]?=some (ys[j]'(by omega)):=AD (by omega);refine⟨_,_,n',?_,h1.trans aj⟩;rw[<-Go.Deep.add_add,aa,hv]
theorem Gl {a:Addr} (h:w.cell? (a.add k)=some v) (hk:k=0):a=⟨a.block,a.off,none⟩:=by
 subst hk;obtain⟨b,o,s⟩:=a;obtain rfl:s=none:=by simpa[Addr.add] using World.cell?_spot h
 rfl
theorem PZ {t e:TypeId} {f0 f1 f2:Field} {fuel:Nat} {cs:List Value} {x:DataW H×List MemPlace} (ht:P.underlying t=some (.slice e)) (he:P.underlying e=some (.struct #[f0,f1,f2])) (ab:oneCellFields P #[f0,f1,f2]=true) (hC:P.cellsOf e=3) (h0:P.underlying f0.type=some .string) (h1:P.underlying f1.type=some (.int .i64)) (h2:P.underlying f2.type=some (.int .i64)) (h:DataW.trod enc P w base spare held fuel t cs=some x) :
  ∃A n c ts,cs=[.slice A n c]/\n=ts.length/\n<=c/\c<=9223372036854775807/\rV w w.heap.size A ts/\∀x∈ts,K.Tx x.nm/\Gm.In x.lv/\Gm.In x.wy:=by
 rcases Ka ht he ab hC h with rfl|⟨a,len,cap,rfl,hl,hm,hi⟩
 ·exact⟨none,0,0,[],rfl,rfl,Af _,by omega,fun h=>absurd rfl h,fun x hx=>by simp at hx⟩
 ·have hp:∀i,i<len->∃t:Gm.Tm,(w.cell? (a.add (i*3))=some (.string (K.str t.nm))/\w.cell? (a.add (i*3+1))=some (.int .i64 t.lv)/\w.cell? (a.add (i*3+2))=some (.int .i64 t.wy))/\K.Tx t.nm/\Gm.In t.lv/\Gm.In t.wy:=fun i ac=>by
   obtain⟨v0,y0,n0,c0,t0⟩:=hi i ac 0 f0 rfl;obtain⟨v1,y1,n1,c1,t1⟩:=hi i ac 1 f1 rfl;obtain⟨v2,y2,n2,c2,t2⟩:=hi i ac 2 f2 rfl;obtain⟨s,e0,_,ad⟩:=DataW.trod_string h0 t0;obtain⟨z1,e1,_,w1⟩:=EK h1 t1;obtain⟨z2,e2,_,w2⟩:=EK h2 t2;injection e0 with e0;injection e1 with e1;injection e2 with e2;subst e0 e1 e2;obtain⟨l,hl,rfl⟩:=K.jL s ad;exact⟨⟨l,z1,z2⟩,⟨c0,c1,c2⟩,hl,EE w1,EE w2⟩
  obtain⟨ts,ae,aa⟩:=IL len _ hp;refine⟨some a,len,cap,ts,rfl,ae.symm,hl,by unfold maxLen at hm;omega,fun hn=>?_,fun x hx=>?_⟩
  ·have ha:=Gl (aa 0 (by omega)).1.1 (Nat.zero_mul 3);refine⟨a.block,a.off,congrArg some ha,?_,fun i hi=>?_⟩
   ·have:=Bj (aa 0 (by omega)).1.1
    simpa[Addr.add] using this
   ·have:=(aa i hi).1
    rw[ha,add_plain,add_plain,add_plain]at this;exact this
  ·obtain⟨i,hi,rfl⟩:=BF hx;exact(aa i hi).2
theorem P0 {t e u:TypeId} {f0 f1 f2:Field} {fuel:Nat} {cs:List Value} {x:DataW H×List MemPlace} (ht:P.underlying t=some (.slice e)) (he:P.underlying e=some (.struct #[f0,f1,f2])) (ac:oneCellFields P #[f0,f1,f2]=true) (hC:P.cellsOf e=3) (h0:P.underlying f0.type=some (.int .i64)) (h1:P.underlying f1.type=some (.slice u)) (hu:P.underlying u=some (.int .i64)) (af:P.cellsOf u=1) (h2:P.underlying f2.type=some (.int .i64)) (h:DataW.trod enc P w base spare held fuel t cs=some x) :
  ∃A n c rs,cs=[.slice A n c]/\n=rs.length/\n<=c/\c<=9223372036854775807/\qR w w.heap.size A rs/\∀x∈rs,Gm.In x.l/\Gm.In x.p/\∀z∈x.r,Gm.In z:=by
 rcases Ka ht he ac hC h with rfl|⟨a,len,cap,rfl,hl,hm,hi⟩
 ·exact⟨none,0,0,[],rfl,rfl,Af _,by omega,fun h=>absurd rfl h,fun x hx=>by simp at hx⟩
 ·have hp:∀i,i<len->∃t:Gm.Rl,(w.cell? (a.add (i*3))=some (.int .i64 t.l)/\(∃A' c',w.cell? (a.add (i*3+1))=some (.slice A' t.r.length c')/\t.r.length<=c'/\c'<=9223372036854775807/\gd w w.heap.size A' t.r)/\w.cell? (a.add (i*3+2))=some (.int .i64 t.p))/\Gm.In t.l/\Gm.In t.p/\∀z∈t.r,Gm.In z:=fun i ad=>by
   obtain⟨v0,y0,n0,c0,t0⟩:=hi i ad 0 f0 rfl;obtain⟨v1,y1,n1,c1,t1⟩:=hi i ad 1 f1 rfl;obtain⟨v2,y2,n2,c2,t2⟩:=hi i ad 2 f2 rfl;obtain⟨z0,e0,_,w0⟩:=EK h0 t0;obtain⟨z2,e2,_,w2⟩:=EK h2 t2;injection e0 with e0;injection e2 with e2;subst e0 e2;rcases open_ints h1 hu af t1 with⟨b,_⟩|⟨x,l,c,zs,b,_,hl,hm,hz,hx,aa,ag⟩
   ·injection b with b;subst b;exact⟨⟨z0,[],z2⟩,⟨c0,⟨none,0,c1,Af _,by omega,gd.nil _ _ _⟩,c2⟩,EE w0,EE w2,fun z hz=>by simp at hz⟩
   ·injection b with b;subst b;have ak:l<=zs.length:=by rw[hz];split <;> omega
    refine⟨⟨z0,zs.take l,z2⟩,⟨c0,⟨some x,c,?_,?_,by unfold maxLen at hm;omega,fun hn=>?_⟩,c2⟩,EE w0,EE w2,fun z hz=>EE (ag z (DV hz))⟩
    ·have ah:(zs.take l).length=l:=by rw[Bd];omega
     show w.cell? (a.add (i*3+1))=some (.slice (some x) (zs.take l).length c)
     rw[ah];exact c1
    ·show(zs.take l).length<=c
     rw[Bd];omega
    ·have ae:0<zs.length:=by simp at hn;omega
     have ha:=Gl (aa 0 ae) rfl;refine⟨x.block,x.off,congrArg some ha,?_,fun j hj=>?_⟩
     ·have:=Bj (aa 0 ae)
      simpa[Addr.add] using this
     ·have ai:j<l:=by simp at hj;omega
      have h1:=aa j (by omega);rw[ha,add_plain]at h1;rw[h1];simp only[List.getD,List.getElem?_take];rw[AC ai]
  obtain⟨ts,aj,ab⟩:=IL len _ hp;refine⟨some a,len,cap,ts,rfl,aj.symm,hl,by unfold maxLen at hm;omega,fun hn=>?_,fun x hx=>?_⟩
  ·have ha:=Gl (ab 0 (by omega)).1.1 (Nat.zero_mul 3);refine⟨a.block,a.off,congrArg some ha,?_,fun i hi=>?_⟩
   ·have:=Bj (ab 0 (by omega)).1.1
    simpa[Addr.add] using this
   ·have:=(ab i hi).1
    rw[ha,add_plain,add_plain,add_plain]at this;exact this
  ·obtain⟨i,hi,rfl⟩:=BF hx;exact(ab i hi).2
theorem PY {t e:TypeId} {fuel:Nat} {cs:List Value} {x:DataW H×List MemPlace} (ht:P.underlying t=some (.slice e)) (he:P.underlying e=some .string) (hC:P.cellsOf e=1) (h:DataW.trod enc P w base spare held fuel t cs=some x) :
  ∃A n c ns,cs=[.slice A n c]/\n=ns.length/\n<=c/\c<=9223372036854775807/\tM w w.heap.size A ns/\∀x∈ns,K.Tx x:=by
 rcases open_strings ht he hC h with⟨ac,_⟩|⟨x,l,c,ss,ac,_,hl,hm,hz,_,aa,ad⟩
 ·exact⟨none,0,0,[],ac,rfl,Af _,by omega,fun h=>absurd rfl h,fun x hx=>by simp at hx⟩
 ·have af:l<=ss.length:=by rw[hz];split <;> omega
  have hp:∀i,i<l->∃t:List Int,w.cell? (x.add i)=some (.string (K.str t))/\K.Tx t:=fun i hi=>by
   obtain⟨t,ht,he⟩:=K.jL (ss.getD i ByteArray.empty) (ad _ (by rw[Ag,AD (by omega)];exact AE _));exact⟨t,by rw[aa i (by omega),he],ht⟩
  obtain⟨ns,ae,ab⟩:=IL l _ hp;refine⟨some x,l,c,ns,ac,ae.symm,hl,by unfold maxLen at hm;omega,fun hn=>?_,fun y hy=>?_⟩
  ·have ha:=Gl (ab 0 (by omega)).1 rfl;refine⟨x.block,x.off,congrArg some ha,?_,fun j hj=>?_⟩
   ·have:=Bj (ab 0 (by omega)).1
    simpa[Addr.add] using this
   ·have h1:=(ab j hj).1;rw[ha,add_plain]at h1;exact h1
  ·obtain⟨i,hi,rfl⟩:=BF hy;exact(ab i hi).2
theorem Po {r:Reach} {b0:Nat} {t e1 e2 e3 u:TypeId} {f0 f1 f2 f3 x0 x1 x2 y0 y1 y2:Field} {d:DataW H} {p:List MemPlace} (hs:P.underlying t=some (.struct #[f0,f1,f2,f3])) (aa:oneCellFields P #[f0,f1,f2,f3]=true) (hC:P.cellsOf t=4) (ab:P.underlying f0.type=some (.slice e1)) (ac:P.underlying e1=some (.struct #[x0,x1,x2])) (ad:oneCellFields P #[x0,x1,x2]=true) (ae:P.cellsOf e1=3) (af:P.underlying x0.type=some .string) (ag:P.underlying x1.type=some (.int .i64)) (ah:P.underlying x2.type=some (.int .i64)) (ai:P.underlying f1.type=some (.slice e2)) (aj:P.underlying e2=some .string) (ak:P.cellsOf e2=1) (al:P.underlying f2.type=some (.slice e3)) (am:P.underlying e3=some (.struct #[y0,y1,y2])) (ao:oneCellFields P #[y0,y1,y2]=true) (ap:P.cellsOf e3=3) (aq:P.underlying y0.type=some (.int .i64)) (ar:P.underlying y1.type=some (.slice u)) (hu:P.underlying u=some (.int .i64)) (au:P.cellsOf u=1) (av:P.underlying y2.type=some (.int .i64)) (aw:P.underlying f3.type=some (.int .i64)) (hv:Value.okWide P w r b0 t v) (h:DataW.Trod enc P w base spare held t v d p) :
  ∃G,aT w w.heap.size v G/\Gm.Fit G:=by
 obtain⟨v0,v1,v2,v3,y0',y1',y2',y3',n,rfl,_,_,k0,k1,k2,k3⟩:=open_agg4 hs aa hC hv h;obtain⟨AT,nT,cT,ts,e0,ax,l0,m0,r0,w0⟩:=PZ ab ac ad ae af ag ah k0;obtain⟨AR,nR,cR,rs,e2',ay,l2,m2,r2,w2⟩:=P0 al am ao ap aq ar hu au av k2;obtain⟨z,e3',_,w3⟩:=EK aw k3;obtain⟨AN,nN,cN,ns,e1',az,l1,m1,r1,w1⟩:=PY ai aj ak k1;injection e0 with e0;injection e1' with e1';injection e2' with e2';injection e3' with e3';subst e0 e1' e2' e3' ax az ay;exact⟨⟨ts,ns,rs,z⟩,⟨AT,cT,AN,cN,AR,cR,rfl,⟨l0,m0⟩,⟨l1,m1⟩,⟨l2,m2⟩,r0,r1,r2⟩,⟨w0,w1,w2,EE w3⟩⟩
end
end Go.Proofs.YtcmhaemaophplaaGreat
