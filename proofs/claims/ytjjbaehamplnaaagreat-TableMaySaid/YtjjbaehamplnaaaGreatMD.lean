/- Part of the proofs over this program: LookL, FirstN, FirstP, LookR, CycleL, MapX, AutoP, AutoQ, AutoC, LookW, LookX, OneT, GramOpen. -/
import Derived.WideKeyEntry
import Derived.Deep.Slices
import Derived.Deep.Fields
import Derived.ChangeSame
import Derived.Lib.SmallJoins
import Derived.SliceStrings
import Derived.Test.YtjjbaehamplnaaaGreatMC
set_option linter.all false
namespace Go
def BZ:=@Int.toNat_natCast
def Du:=@bne_iff_ne
def Ck:=@Nat.testBit_two_pow
def CA:=@Nat.testBit_or
def DN:=@List.set_eq_of_length_le
def EG:=@Bool.or_true
def CV:=@Nat.zero_testBit
def CM:=@Nat.eq_of_testBit_eq
def DX:=@List.getElem?_set_self
def Ex:=@List.sum_cons
def B3:=@Nat.pow_le_pow_right
def DG:=@Nat.testBit_and
def Dr:=@Nat.testBit_lt_two_pow
def Ds:=@Bool.true_or
def Cv:=@Nat.exists_testBit_of_ne_zero
def Er:=@Nat.lt_pow_two_of_testBit
def Dv:=@List.set_cons_succ
def Em:=@Nat.one_mul
def EH:=@List.length_range
def Cp:=@List.range_succ
def DK:=@Nat.mul_le_mul_right
def CB:=@Nat.le_of_lt
def Dw:=@Go.DataW.trod_int
def DY:=@Go.bounds_i64
def Bd:=@Go.block_lt_of_cell
end Go
set_option maxRecDepth 100000
set_option maxHeartbeats 40000000
variable {E:List (List (Int×Int))} {G:Go.Proofs.YtjjbaehamplnaaaGreat.Gm.Gr} {b d fuel i k n:Nat} {j s t z:Int} {r:List Int} {st:List (Int×Int)} {v:Go.Value} {w':Go.World}
namespace Go.Proofs.YtjjbaehamplnaaaGreat
open Go.RowKit
namespace Au
def rest (G:Gm.Gr) (x:It):List Int:=(sy G x.1).drop (x.2.toNat+1)
def Ed (E:List (List (Int×Int))) (i:Nat) (s:Int) (j:Nat):Prop:=∃h:i<E.length,(s,(j:Int))∈E[i]
inductive La (G:Gm.Gr) (E:List (List (Int×Int))):Nat->It->Int->Prop
 | st:La G E 0 (-1,0) G.ts.length
 | bg (i:Nat) (x:It) (t s:Int) (h:La G E i x t) (hs:nx G x=some s) (h0:s<0) (k:Nat) (hk:k<G.rs.length) (hl:(G.rs[k]).l = -1-s) (u:Int) (hu:Gm.Bg G u (rest G x)):La G E i ((k:Int),0) u
 | nu (i:Nat) (x:It) (t s:Int) (h:La G E i x t) (hs:nx G x=some s) (h0:s<0) (k:Nat) (hk:k<G.rs.length) (hl:(G.rs[k]).l = -1-s) (hn:Gm.Nu G (rest G x)):La G E i ((k:Int),0) t
 | mv (i:Nat) (x:It) (t s:Int) (h:La G E i x t) (hs:nx G x=some s) (j:Nat) (he:Ed E i s j):La G E j (x.1,x.2+1) t
theorem zgF (hk:k<G.rs.length):sy G (k:Int)=(G.rs[k]).r:=by
 unfold sy;rw[AB (by omega),BZ,Ai,Ar hk,Bm]
section
variable {G:Gm.Gr} {K:List (List It)} {E:List (List (Int×Int))}
theorem Inv.edge (h:Inv G K E) (hE:E.length=K.length) (aa:Gm.Ok G) (hi:i<K.length) {x:It} (hx:x∈clo G (K.getD i [])) (hs:nx G x=some s):∃j:Nat,Ed E i s j/\K[j]?=some (mv G (clo G (K.getD i [])) s):=by
 obtain⟨h1,h2⟩:=h.ed i (by omega)
 have hm:s∈E[i].map (·.1):=by
  rw[h1,B7];refine⟨nx_in aa (clo_is hx) hs,?_⟩
  have:(x.1,x.2+1)∈mv G (clo G (K.getD i [])) s:=zdG.2 ⟨x,hx,hs,rfl⟩
  simp only[Du,ne_eq];exact fun e=>by rw[e]at this;cases this
 obtain⟨e,he,rfl⟩:=Bi.1 hm;obtain⟨j,e1,e2⟩:=h2 e he;exact⟨j,⟨by omega,by rw[<-e1];exact he⟩,e2⟩
theorem Inv.to (h:Inv G K E) {j:Nat} (he:Ed E i s j):K[j]?=some (mv G (clo G (K.getD i [])) s):=by
 obtain⟨hi,he⟩:=he;obtain⟨k,e1,e2⟩:=(h.ed i hi).2 _ he;simp only at e1 e2;obtain rfl:j=k:=by omega
 exact e2
theorem Inv.its (h:Inv G K E) (hi:i<K.length):∀x∈K.getD i [],isI G x=true:=by
 rw[Ai,Ar hi,Bm];exact(h.it _ (Ay hi)).2
theorem la_in (h:Inv G K E) {x:It} (hl:La G E i x t):i<K.length/\x∈clo G (K.getD i []):=by
 induction hl with
 | st =>
  have h0:=Ba.1 h.h0;refine⟨h0.1,(zaE (h.its h0.1)).2 (.of _ ?_)⟩;rw[Ai,h.h0,Bm];exact Bf
 | bg i x t s _ hs h0 k hk hl u _ ih=>exact⟨ih.1,(zaE (h.its ih.1)).2 (.on x ((zaE (h.its ih.1)).1 ih.2) s hs h0 k hk hl)⟩
 | nu i x t s _ hs h0 k hk hl _ ih=>exact⟨ih.1,(zaE (h.its ih.1)).2 (.on x ((zaE (h.its ih.1)).1 ih.2) s hs h0 k hk hl)⟩
 | mv i x t s _ hs j he ih =>
  have h1:=h.to he;have h2:=Ba.1 h1;refine⟨h2.1,(zaE (h.its h2.1)).2 (.of _ ?_)⟩;rw[Ai,h1,Bm];exact zdG.2 ⟨x,ih.2,hs,rfl⟩
theorem znN (h:Gm.Gn true G.rs j):Gm.Gn false G.rs j \/ ∃t,Gm.Fs G t j:=by
 induction h with
 | mk x hx ht hn ih =>
  have key:∀q p:List Int,x.r=p++q->Gm.Nu G p->Gm.Nu G x.r \/ ∃t,Gm.Fs G t x.l:=by
   intro q;induction q with
   | nil=>intro p e hp;rw[e,Co];exact .inl hp
   | cons z q ihq =>
    intro p e hp;have hz:z∈x.r:=by rw[e];exact Dg _ Bf
    by_cases h0:0<=z
    ·exact .inr ⟨z,.tm x hx p q e h0 hp⟩
    ·rcases ih z hz (by omega) with h1|⟨t,h1⟩
     ·refine ihq (p++[z]) (by rw[e];simp) ⟨fun y hy aa=>?_,fun y hy aa=>?_⟩
      ·rcases Bj.1 hy with hy|hy
       ·exact hp.1 y hy aa
       ·rw[AF.1 hy]at aa;omega
      ·rcases Bj.1 hy with hy|hy
       ·exact hp.2 y hy aa
       ·rw[AF.1 hy];exact h1
     ·exact .inr ⟨t,.nt x hx p z q e (by omega) hp h1⟩
  rcases key x.r [] rfl (Gm.nu_nil G) with h1|h1
  ·exact .inl (.of hx h1)
  ·exact .inr h1
theorem zla:∀ {r:List Int},(∀z∈r,z<0->Gm.Gn true G.rs (-1-z))->Gm.Nu G r \/ ∃t,Gm.Bg G t r
 | [],_=>.inl (Gm.nu_nil G)
 | z::r,h=>by
  by_cases h0:0<=z
  ·exact .inr ⟨z,Gm.bg_cons.2 (.inl (.inl ⟨rfl,h0⟩))⟩
  ·rcases znN (h z Bf (by omega)) with h1|⟨t,h1⟩
   ·rcases zla (r:=r) (fun y hy=>h y (Bh _ hy)) with h2|⟨t,h2⟩
    ·exact .inl (Gm.nu_cons.2 ⟨⟨by omega,h1⟩,h2⟩)
    ·exact .inr ⟨t,Gm.bg_cons.2 (.inr ⟨⟨by omega,h1⟩,h2⟩)⟩
   ·exact .inr ⟨t,Gm.bg_cons.2 (.inl (.inr ⟨by omega,h1⟩))⟩
theorem zmf (h:Inv G K E) (hE:E.length=K.length) (hp:∀x∈G.rs,Gm.Al true G.rs x.r):∀i,i<K.length->∀x∈clo G (K.getD i []),∃t,La G E i x t:=by
 have key:∀i,i<K.length->(∀x∈K.getD i [],∃t,La G E i x t)->∀x∈clo G (K.getD i []),∃t,La G E i x t:=by
  intro i hi hk x hx;have af:=(zaE (h.its hi)).1 hx;clear hx;induction af with
  | of x hx=>exact hk x hx
  | on x ag s hs h0 k ab hl ih =>
   obtain⟨t,ht⟩:=ih;have am:=isI_iff.1 (cl_is (h.its hi) ag)
   have aa:∀z∈rest G x,z<0->Gm.Gn true G.rs (-1-z):=by
    intro z hz ah;have ac:=CS hz;by_cases e:x.1 = -1
    ·have ai:sy G x.1=[-1-G.st]:=by rw[e];rfl
     unfold rest at hz;rw[ai]at hz;rw[BV (by simp)]at hz;cases hz
    ·obtain⟨m,hm⟩:∃m:Nat,x.1=(m:Int):=⟨x.1.toNat,by omega⟩
     have ad:m<G.rs.length:=by omega
     rw[hm,zgF ad]at ac;exact(hp _ (Ay ad)).2 z ac ah
   rcases zla (G:=G) aa with hq|⟨u,hq⟩
   ·exact⟨t,.nu i x t s ht hs h0 k ab hl hq⟩
   ·exact⟨u,.bg i x t s ht hs h0 k ab hl u hq⟩
 intro i;induction i using Nat.strongRecOn with
 | _ i ih =>
  intro hi;refine key i hi fun x hx=>?_;by_cases e:i=0
  ·subst e;rw[Ai,h.h0,Bm,AF]at hx;rw[hx];exact⟨_,.st⟩
  ·obtain⟨m,hm,aj,⟨s,j⟩,he,e2⟩:=h.up i (by omega) hi;simp only at e2;subst e2;have ae:Ed E m s i:=⟨hm,he⟩
   have ak:=h.to ae;rw[Ai,ak,Bm]at hx;obtain⟨y,hy,al,rfl⟩:=zdG.1 hx;obtain⟨t,ht⟩:=ih m aj (by omega) y hy;exact⟨t,.mv m y t s ht al i ae⟩
end
end Au
end Go.Proofs.YtjjbaehamplnaaaGreat
namespace Go.Proofs.YtjjbaehamplnaaaGreat
open Go.RowKit
namespace Gm
def ofN (nu:List Bool) (fs:List Nat) (rest:Nat):List Int->Nat
 | []=>rest
 | z::r=>if 0<=z then 2 ^ z.toNat else fs.getD (-1-z).toNat 0 ||| (if nu.getD (-1-z).toNat false=true then ofN nu fs rest r else 0)
def bt (t:Nat) (s:List Nat):List Bool:=s.map fun v=>v.testBit t
theorem zmN (t:Nat) (s:List Nat):(bt t s).length=s.length:=by simp[bt]
theorem zbr (t:Nat) (s:List Nat) (i:Nat):(bt t s).getD i false=(s.getD i 0).testBit t:=by
 unfold bt;rw[Ai,Ai,BC];cases s[i]? <;> simp
theorem zmM (t:Nat) (s:List Nat) (i v:Nat):bt t (s.set i v)=(bt t s).set i (v.testBit t):=by unfold bt;rw[Cs]
theorem zek (nu:List Bool) (fs:List Nat) (rest t:Nat):∀r,(ofN nu fs rest r).testBit t=ofB nu t (bt t fs) (rest.testBit t) r
 | []=>rfl
 | z::r=>by
  rw[ofN,ofB];by_cases h0:0<=z
  ·rw[Ap h0,Ap h0,Ck];by_cases e:z.toNat=t
   ·rw[AJ e,show z=(t:Int) by omega];simp
   ·rw[AM e];exact(AY.2 (by omega)).symm
  ·rw[AB h0,AB h0,CA,zbr,<-zek nu fs rest t r];by_cases e:nu.getD (-1-z).toNat false=true
   ·rw[Ap e,e];rfl
   ·rw[AB e,Bool.not_eq_true _ |>.mp e];simp
def zcs (f:List Nat->List Nat):Nat->List Nat->List Nat
 | 0,s=>s
 | n+1,s=>f (zcs f n s)
theorem zjs {t:Nat} {f:List Nat->List Nat} {g:List Bool->List Bool} (h:∀s,bt t (f s)=g (bt t s)) (n:Nat) (s:List Nat):bt t (zcs f n s)=aV g n (bt t s):=by
 induction n with
 | zero=>rfl
 | succ n ih=>rw[zcs,aV,h,ih]
theorem zh8 {α:Type} {t:Nat} {f:List Nat->α->List Nat} {g:List Bool->α->List Bool} (h:∀s x,bt t (f s x)=g (bt t s) x):∀(xs:List α) (s:List Nat),bt t (xs.foldl f s)=xs.foldl g (bt t s)
 | [],_=>rfl
 | x::xs,s=>by rw[CZ,CZ,zh8 h xs,h]
def addN (s:List Nat) (i v:Nat):List Nat:=s.set i (s.getD i 0 ||| v)
theorem ziB (s:List Bool) (i:Nat):s.set i (s.getD i false)=s:=by
 rcases Bz i s.length with h|h
 ·rw[Ai,Ar h];simp
 ·rw[DN h]
theorem zmO (t:Nat) (s:List Nat) (i v:Nat):bt t (addN s i v)=if v.testBit t=true then(bt t s).set i true else bt t s:=by
 unfold addN;rw[zmM,CA,<-zbr];cases v.testBit t
 ·rw[Bool.or_false,ziB];rfl
 ·rw[EG];rfl
def firstN1 (nu:List Bool) (s:List Nat) (x:Rl):List Nat:=addN s x.l.toNat (ofN nu s 0 x.r)
theorem zby (nu:List Bool) (t:Nat) (s:List Nat) (x:Rl):bt t (firstN1 nu s x)=zaC nu t (bt t s) x:=by
 unfold firstN1 zaC;rw[zmO,zek,CV]
noncomputable def fst (G:Gr):List Nat:=zcs (fun s=>G.rs.foldl (firstN1 (gn false G.rs G.ns.length)) s) G.ns.length (List.replicate G.ns.length 0)
theorem zh7 (t n:Nat):bt t (List.replicate n 0)=List.replicate n false:=by simp[bt]
theorem fst_bit {G:Gr} (hl:Lin G.ns.length G.rs) (i t:Nat):((fst G).getD i 0).testBit t=true↔Fs G t (i:Int):=by
 rw[<-zbr];unfold fst;rw[zjs (g:=fun s=>G.rs.foldl (zaC (gn false G.rs G.ns.length) t) s) (fun s=>zh8 (zby _ t) _ s),zh7];exact zhP hl (by omega) i
theorem zfA {f:List Nat->List Nat} (h:∀s,(f s).length=s.length) (n:Nat) (s:List Nat):(zcs f n s).length=s.length:=by
 induction n with
 | zero=>rfl
 | succ n ih=>rw[zcs,h,ih]
theorem zff {α:Type} {f:List Nat->α->List Nat} (h:∀s x,(f s x).length=s.length):∀(xs:List α) (s:List Nat),(xs.foldl f s).length=s.length
 | [],_=>rfl
 | x::xs,s=>by rw[CZ,zff h xs,h]
theorem addN_len (s:List Nat) (i v:Nat):(addN s i v).length=s.length:=by simp[addN]
theorem fst_len (G:Gr):(fst G).length=G.ns.length:=by
 unfold fst
 have:∀s:List Nat,(G.rs.foldl (firstN1 (gn false G.rs G.ns.length)) s).length=s.length:=fun s=>zff (fun s x=>addN_len _ _ _) _ s
 rw[zfA this];simp
theorem ziA {a b:List Nat} (hl:a.length=b.length) (h:∀i t:Nat,(a.getD i 0).testBit t=true↔(b.getD i 0).testBit t=true):a=b:=by
 refine CJ hl fun i h1 h2=>CM fun t=>?_
 have:=h i t
 rw[Ai,Ai,Ar h1,Ar h2]at this;exact Bn.2 this
theorem fs_lt {G:Gr} (h:Ok G) (hj:Fs G t j):t<G.ts.length:=by
 induction hj with
 | tm x hx p q e h0 hp=>exact((rule_in (h.rr x hx)).2.2.2 t (by rw[e];simp)).1
 | nt x hx p z q e hz hp _ ih=>exact ih
theorem zjt {G:Gr} (h:Ok G) (hr:∀z∈r,z<G.ts.length) (hj:Bg G t r):t<G.ts.length:=by
 obtain⟨p,y,q,e,_,h1|h1⟩:=hj
 ·rw[<-h1.1];exact hr y (by rw[e];simp)
 ·exact fs_lt h h1.2
theorem zaw {G:Gr} (hl:Lin G.ns.length G.rs) (rest t:Nat) (r:List Int):(ofN (gn false G.rs G.ns.length) (fst G) rest r).testBit t=true↔Bg G t r\/Nu G r/\rest.testBit t=true:=by
 rw[zek];refine zky hl (fun i hi=>?_) (fun j hj=>?_) (by omega)
 ·rw[zbr]at hi;exact(fst_bit hl i t).1 hi
 ·rw[zbr];refine(fst_bit hl j.toNat t).2 ?_;obtain⟨x,hx,rfl,_⟩:=hj.rule;rw[Br (hl x hx).1];exact hj
end Gm
namespace Gm
def NLe (a b:List Nat):Prop:=a.length=b.length/\∀i:Nat,a.getD i 0<=b.getD i 0
theorem NLe.refl (a:List Nat):NLe a a:=⟨rfl,fun _=>Ad _⟩
theorem NLe.trans {a b c:List Nat} (h:NLe a b) (k:NLe b c):NLe a c:=⟨h.1.trans k.1,fun i=>Ag (h.2 i) (k.2 i)⟩
theorem NLe.anti {a b:List Nat} (h:NLe a b) (k:NLe b a):b=a:=by
 refine CJ k.1 fun i h1 h2=>?_;have e1:=h.2 i;have e2:=k.2 i;rw[Ai,Ai,Ar h1,Ar h2]at e1 e2;simp only[Bm]at e1 e2;omega
theorem NLe.addN (s:List Nat) (i v:Nat):NLe s (addN s i v):=by
 refine⟨(addN_len s i v).symm,fun j=>?_⟩;unfold Gm.addN;by_cases e:i=j
 ·subst e;rcases Bz i s.length with h|h
  ·rw[Ai,Ai,DX h,Bm];exact Nat.left_le_or
  ·rw[DN h];exact Ad _
 ·rw[Ai,Ai,Ek e];exact Ad _
theorem NLe.fold {α:Type} {f:List Nat->α->List Nat} (h:∀s x,NLe s (f s x)):∀(xs:List α) (s:List Nat),NLe s (xs.foldl f s)
 | [],s=>.refl s
 | x::xs,s=>(h s x).trans (NLe.fold h xs _)
theorem fold_rest {α:Type} {f:List Nat->α->List Nat} (h:∀s x,NLe s (f s x)):∀(xs:List α) (s:List Nat),xs.foldl f s=s->∀x∈xs,f s x=s
 | [],_,_,_,hx=>by cases hx
 | y::ys,s,e,x,hx=>by
  rw[CZ]at e;have h1:f s y=s:=NLe.anti (h s y) (by have:=NLe.fold h ys (f s y);rwa [e]at this);rw[h1]at e;rcases Bq.1 hx with rfl|hx
  ·exact h1
  ·exact fold_rest h ys s e x hx
theorem zjD:∀ {a b:List Nat},NLe a b->a.sum<=b.sum/\(a.sum=b.sum->a=b)
 | [],[],_=>⟨Ad _,fun _=>rfl⟩
 | [],_::_,h=>by cases h.1
 | _::_,[],h=>by cases h.1
 | x::a,y::b,h=>by
  have h1:NLe a b:=⟨by simpa using h.1,fun i=>by have:=h.2 (i+1);simpa using this⟩
  have h2:x<=y:=by have:=h.2 0;simpa using this
  have:=zjD h1
  simp only[Ex];refine⟨by omega,fun e=>?_⟩;rw[this.2 (by omega),show x=y by omega]
def gap (s:List Nat):Nat:=(s.map fun v=>4294967296-v).sum
def U32 (s:List Nat):Prop:=∀i:Nat,s.getD i 0<4294967296
theorem zey:∀ {s:List Nat},U32 s->gap s+s.sum=s.length*4294967296
 | [],_=>rfl
 | x::s,h=>by
  have h1:U32 s:=fun i=>by have:=h (i+1);simpa using this
  have h2:x<4294967296:=by have:=h 0;simpa using this
  have:=zey h1
  unfold gap at this ⊢;simp only[Bp,Ex,Bt];omega
theorem gap_lt {a b:List Nat} (h:NLe a b) (hb:U32 b) (hn:a≠b):gap b<gap a:=by
 have ha:U32 a:=fun i=>Nat.lt_of_le_of_lt (h.2 i) (hb i);have h1:=zey ha;have h2:=zey hb;have h3:=zjD h;have h4:a.sum≠b.sum:=fun e=>hn (h3.2 e);rw[h.1]at h1;omega
theorem or32 {a:Nat} (ha:a<4294967296) (hb:b<4294967296):a ||| b<4294967296:=by
 have:=Nat.or_lt_two_pow (n:=32) (x:=a) (y:=b) (by omega) (by omega);omega
theorem U32.addN {s:List Nat} (h:U32 s) (i:Nat) {v:Nat} (hv:v<4294967296):U32 (addN s i v):=fun j=>by
 unfold Gm.addN;by_cases e:i=j
 ·subst e;rcases Bz i s.length with hl|hl
  ·rw[Ai,DX hl,Bm];exact or32 (h i) hv
  ·rw[DN hl];exact h i
 ·rw[Ai,Ek e,<-Ai];exact h j
theorem U32.ofN {nu:List Bool} {fs:List Nat} {rest:Nat} (hf:U32 fs) (hr:rest<4294967296):∀ {r:List Int},(∀z∈r,z<=31)->ofN nu fs rest r<4294967296
 | [],_=>hr
 | z::r,h=>by
  rw[Gm.ofN];split
  ·have:=B3 (n:=2) (by decide) (show z.toNat<=31 by have:=h z (Bf ..);omega)
   omega
  ·refine or32 (hf _) ?_;split
   ·exact U32.ofN hf hr fun y hy=>h y (Bh _ hy)
   ·decide
theorem new_iff {a v:Nat} (ha:a<4294967296) (hv:v<4294967296):(v &&& (4294967295-a)=0)↔a ||| v=a:=by
 have hb:∀t,t<32->(4294967295-a).testBit t = !a.testBit t:=fun t ht=>by
  have:=Nat.testBit_two_pow_sub_succ (n:=32) (x:=a) (by omega) t
  rw[show 2 ^ 32-(a+1)=4294967295-a by omega]at this;rw[this,AJ ht,Cj]
 constructor
 ·intro h;refine CM fun t=>?_;rw[CA];by_cases ht:t<32
  ·have h1:=congrArg (fun z=>z.testBit t) h;simp only[DG,CV]at h1;rw[hb t ht]at h1
   revert h1
   generalize a.testBit t=p;generalize v.testBit t=q;cases p <;> cases q <;> simp
  ·rw[Dr (x:=v) (Ao hv (by have:=B3 (n:=2) (by decide) (show 32<=t by omega);omega))];simp
 ·intro h;refine CM fun t=>?_;rw[DG,CV];by_cases ht:t<32
  ·rw[hb t ht];have h1:=congrArg (fun z=>z.testBit t) h;simp only[CA]at h1
   revert h1
   generalize a.testBit t=p;generalize v.testBit t=q;cases p <;> cases q <;> simp
  ·rw[Dr (x:=v) (Ao hv (by have:=B3 (n:=2) (by decide) (show 32<=t by omega);omega))];simp
theorem addN_same {s:List Nat} {v:Nat} (h:i<s.length):addN s i v=s↔s.getD i 0 ||| v=s.getD i 0:=by
 unfold addN
 constructor
 ·intro e
  have:=congrArg (fun l=>l.getD i 0) e
  simp only[Ai,DX h,Bm]at this
  simpa[Ai] using this
 ·intro e;rw[e,Ai,Ar h];simp
theorem fst_row {G:Gr} (hl:Lin G.ns.length G.rs) {s:List Nat} (hn:s.length=G.ns.length) (hs:∀i t:Nat,(s.getD i 0).testBit t=true->Fs G t (i:Int)) (hc:∀x∈G.rs,firstN1 (gn false G.rs G.ns.length) s x=s):s=fst G:=by
 refine ziA (by rw[hn,fst_len]) fun i t=>⟨fun h=>(fst_bit hl i t).2 (hs i t h),fun h=>?_⟩
 have h1:=zjU hl (n:=G.ns.length) (is:=bt t s) (fun x hx e=>?_) ((fst_bit hl i t).1 h)
 ·rw[zbr]at h1;simpa using h1
 ·have h2:=congrArg (bt t) (hc x hx);rw[zby,zaC,Ap e]at h2;rw[<-h2]
  have:=hl x hx
  exact set_getD _ _ (by rw[zmN];omega)
theorem fst_step {G:Gr} (hl:Lin G.ns.length G.rs) {s:List Nat} (hs:∀i t:Nat,(s.getD i 0).testBit t=true->Fs G t (i:Int)) {x:Rl} (hx:x∈G.rs) (i t:Nat) (h:((firstN1 (gn false G.rs G.ns.length) s x).getD i 0).testBit t=true):Fs G t (i:Int):=by
 have h1:=zce hl (t:=t) (by omega) [x] (bt t s) (fun y hy=>by rw[AF.1 hy];exact hx) (fun j hj=>by rw[zbr]at hj;exact hs j t hj);rw[CZ,List.foldl_nil,<-zby]at h1;exact h1 i (by rw[zbr];exact h)
theorem none_bit (n i t:Nat):((List.replicate n 0).getD i 0).testBit t=false:=by
 have:=zbr t (List.replicate n 0) i
 rw[zh7]at this;rw[<-this];by_cases h:i<n
 ·rw[Ai,Cu,Ap h];rfl
 ·rw[Ai,Cu,AB h];rfl
end Gm
namespace Lk
open Au Gm
abbrev SS:=List (List Nat)
def At (L:List (List It)) (S:SS) (q:Nat) (x:It) (t:Nat):Prop:=∃i:Nat,(L.getD q [])[i]?=some x/\((S.getD q []).getD i 0).testBit t=true
def Snd (G:Gr) (E:List (List (Int×Int))) (L:List (List It)) (S:SS):Prop:=∀q x t,At L S q x t->La G E q x (t:Int)
structure Gvn (G:Gr) (E:List (List (Int×Int))) (L:List (List It)) (S:SS) (q i:Nat):Prop where
 mv:∀x s,(L.getD q [])[i]?=some x->nx G x=some s->∀t,((S.getD q []).getD i 0).testBit t=true->∀j,Ed E q s j->At L S j (x.1,x.2+1) t
 rl:∀x s,(L.getD q [])[i]?=some x->nx G x=some s->s<0->(S.getD q []).getD i 0≠0->∀k (hk:k<G.rs.length),(G.rs[k]).l = -1-s->∀u,(ofN (gn false G.rs G.ns.length) (fst G) ((S.getD q []).getD i 0) (rest G x)).testBit u=true->At L S q ((k:Int),0) u
structure Cls (G:Gr) (E:List (List (Int×Int))) (L:List (List It)) (S:SS):Prop where
 st:At L S 0 (-1,0) G.ts.length
 gv:∀q i,Gvn G E L S q i
theorem zmA {G:Gr} (h:Fs G t j):0<=t:=by
 induction h with
 | tm _ _ _ _ _ h0 _=>exact h0
 | nt _ _ _ _ _ _ _ _ _ ih=>exact ih
theorem zfr {G:Gr} (h:Bg G t r):0<=t:=by
 obtain⟨_,_,_,_,_,h|h⟩:=h
 ·exact h.2
 ·exact zmA h.2
theorem zbE {v t:Nat} (h:v.testBit t=true):v≠0:=fun e=>by rw[e,CV]at h;cases h
theorem zmd {G:Gr} {L:List (List It)} {S:SS} (aa:Ok G) (h1:Snd G E L S) (h2:Cls G E L S) {q:Nat} {x:It}:La G E q x t ↔ ∃n:Nat,t=n/\At L S q x n:=by
 constructor
 ·intro h;induction h with
  | st=>exact⟨_,rfl,h2.st⟩
  | bg i x t s _ hs h0 k hk hl u hu ih =>
   obtain⟨n,rfl,j,e,hb⟩:=ih;have hp:=zfr hu;refine⟨u.toNat,by omega,(h2.gv i j).rl x s e hs h0 (zbE hb) k hk hl u.toNat ((zaw aa.lin _ _ _).2 (.inl ?_))⟩;rw[Br hp];exact hu
  | nu i x t s _ hs h0 k hk hl hn ih =>
   obtain⟨n,rfl,j,e,hb⟩:=ih;exact⟨n,rfl,(h2.gv i j).rl x s e hs h0 (zbE hb) k hk hl n ((zaw aa.lin _ _ _).2 (.inr ⟨hn,hb⟩))⟩
  | mv i x t s _ hs j he ih =>
   obtain⟨n,rfl,k,e,hb⟩:=ih;exact⟨n,rfl,(h2.gv i k).mv x s e hs n hb j he⟩
 ·rintro⟨n,rfl,h⟩;exact h1 q x n h
def zdN (l:List It) (row:List Nat) (x:It) (s:Nat):List Nat:=List.zipWith (fun y v=>if y=x then v ||| s else v) l row
def gv (L:List (List It)) (S:SS) (q:Nat) (x:It) (s:Nat):SS:=S.set q (zdN (L.getD q []) (S.getD q []) x s)
def ps1 (G:Gr) (L:List (List It)) (q:Nat) (sym:Int) (s:Nat) (S:SS) (k:Nat):SS:=if(G.rs.getD k ⟨0,[],0⟩).l = -1-sym then gv L S q ((k:Int),0) s else S
noncomputable def ps (G:Gr) (to:Nat->Int->Nat) (L:List (List It)) (S:SS) (p:Nat×Nat):SS :=
 match (L.getD p.1 [])[p.2]? with
 | none=>S
 | some x=>match nx G x with
  | none=>S
  | some sym=>if(S.getD p.1 []).getD p.2 0=0 then S else
   if 0<=sym then gv L S (to p.1 sym) (x.1,x.2+1) ((S.getD p.1 []).getD p.2 0)
   else(List.range G.rs.length).foldl (ps1 G L p.1 sym (ofN (gn false G.rs G.ns.length) (fst G) ((S.getD p.1 []).getD p.2 0) (rest G x))) (gv L S (to p.1 sym) (x.1,x.2+1) ((S.getD p.1 []).getD p.2 0))
def Fit (L:List (List It)) (S:SS):Prop:=S.length=L.length/\∀q,(S.getD q []).length=(L.getD q []).length
def SLe (a b:SS):Prop:=a.length=b.length/\∀q,NLe (a.getD q []) (b.getD q [])
theorem SLe.refl (a:SS):SLe a a:=⟨rfl,fun _=>.refl _⟩
theorem SLe.trans {a b c:SS} (h:SLe a b) (k:SLe b c):SLe a c:=⟨h.1.trans k.1,fun q=>(h.2 q).trans (k.2 q)⟩
theorem SLe.anti {a b:SS} (h:SLe a b) (k:SLe b a):b=a:=by
 refine CJ k.1 fun i h1 h2=>?_
 have:=NLe.anti (h.2 i) (k.2 i)
 rw[Ai,Ai,Ar h1,Ar h2]at this;exact this
theorem zdM {l:List It} {row:List Nat} (h:row.length=l.length) (x:It) (s:Nat):(zdN l row x s).length=row.length:=by simp[zdN,h]
theorem zbN {l:List It} {row:List Nat} (h:row.length=l.length) (x:It) (s i:Nat):(zdN l row x s).getD i 0=if l[i]?=some x then row.getD i 0 ||| s else row.getD i 0:=by
 unfold zdN;rw[Ai,Ai,List.getElem?_zipWith];rcases Bz i l.length with hi|hi
 ·rw[Ar hi,Ar (by omega:i<row.length)];simp only[Option.some.injEq,Bm]
 ·rw[B6 hi,B6 (by omega:row.length<=i)];simp
theorem zji {l:List It} {row:List Nat} (h:row.length=l.length) (x:It) (s:Nat):NLe row (zdN l row x s):=by
 refine⟨(zdM h x s).symm,fun i=>?_⟩;rw[zbN h];split
 ·exact Nat.left_le_or
 ·exact Ad _
theorem zhJ (L:List (List It)) (S:SS) (q:Nat) (x:It) (s p:Nat):(gv L S q x s).getD p []=if p=q then zdN (L.getD q []) (S.getD q []) x s else S.getD p []:=by
 unfold gv;by_cases e:p=q
 ·subst e;rw[Ap rfl];rcases Bz p S.length with hp|hp
  ·rw[Ai,DX hp,Bm]
  ·have h1:S.getD p []=[]:=by rw[Ai,B6 hp];rfl
   rw[DN hp,h1];unfold zdN;rw[List.zipWith_nil_right]
 ·rw[AB e,Ai,Ek (fun k=>e k.symm),<-Ai]
theorem zcc {L:List (List It)} {S:SS} (h:Fit L S) (q:Nat) (x:It) (s:Nat):Fit L (gv L S q x s):=by
 refine⟨by unfold gv;rw[Dp];exact h.1,fun p=>?_⟩;rw[zhJ];split
 ·rename_i e
  rw[zdM (h.2 q),e];exact h.2 q
 ·exact h.2 p
theorem zjh {L:List (List It)} {S:SS} (h:Fit L S) (q:Nat) (x:It) (s:Nat):SLe S (gv L S q x s):=by
 refine⟨by unfold gv;rw[Dp],fun p=>?_⟩;rw[zhJ];split
 ·rename_i e
  rw[e];exact zji (h.2 q) x s
 ·exact .refl _
theorem zf5 {L:List (List It)} {S:SS} (h:Fit L S) {q:Nat} {x:It} {s p:Nat} {y:It} {t:Nat}:At L (gv L S q x s) p y t↔At L S p y t\/(p=q/\y=x/\s.testBit t=true/\∃i:Nat,(L.getD q [])[i]?=some x):=by
 unfold At;rw[zhJ];by_cases e:p=q
 ·subst e;rw[Ap rfl]
  constructor
  ·rintro⟨i,h1,h2⟩;rw[zbN (h.2 p)]at h2;split at h2
   ·rename_i hx
    rw[CA,CI]at h2;rcases h2 with h2|h2
    ·exact .inl ⟨i,h1,h2⟩
    ·rw[hx]at h1;injection h1 with h1;exact .inr ⟨rfl,h1.symm,h2,i,hx⟩
   ·exact .inl ⟨i,h1,h2⟩
  ·rintro(⟨i,h1,h2⟩|⟨_,rfl,h2,i,h3⟩)
   ·refine⟨i,h1,?_⟩;rw[zbN (h.2 p)];split
    ·rw[CA,h2,Ds]
    ·exact h2
   ·refine⟨i,h3,?_⟩;rw[zbN (h.2 p),Ap h3,CA,h2,EG]
 ·rw[AB e];exact⟨.inl,fun k=>k.resolve_right fun k=>e k.1⟩
theorem zhI {G:Gr} {L:List (List It)} {S:SS} (h:Fit L S) (hs:Snd G E L S) {q:Nat} {x:It} {s:Nat} (hx:∀t,s.testBit t=true->La G E q x (t:Int)):Snd G E L (gv L S q x s):=fun p y t k=>by
 rcases(zf5 h).1 k with k|⟨rfl,rfl,k,_⟩
 ·exact hs p y t k
 ·exact hx t k
theorem zix {α:Type} {f:SS->α->SS} {I:SS->Prop} (hf:∀s x,I s->I (f s x)/\SLe s (f s x)):∀(xs:List α) (s:SS),I s->I (xs.foldl f s)/\SLe s (xs.foldl f s)
 | [],s,h=>⟨h,.refl s⟩
 | x::xs,s,h=>by
  have h1:=hf s x h;have h2:=zix hf xs (f s x) h1.1;exact⟨h2.1,h1.2.trans h2.2⟩
theorem zcw {α:Type} {f:SS->α->SS} {I:SS->Prop} (hf:∀s x,I s->I (f s x)/\SLe s (f s x)):∀(xs:List α) (s:SS),I s->xs.foldl f s=s->∀x∈xs,f s x=s
 | [],_,_,_,_,hx=>by cases hx
 | y::ys,s,h,e,x,hx=>by
  rw[CZ]at e;have h1:=hf s y h;have h2:f s y=s:=SLe.anti h1.2 (by have:=(zix hf ys (f s y) h1.1).2;rwa [e]at this);rw[h2]at e;rcases Bq.1 hx with rfl|hx
  ·exact h2
  ·exact zcw hf ys s h e x hx
theorem zdz {G:Gr} {L:List (List It)} (q:Nat) (sym:Int) (s:Nat) (S:SS) (k:Nat) (h:Fit L S):Fit L (ps1 G L q sym s S k)/\SLe S (ps1 G L q sym s S k):=by
 unfold ps1;split
 ·exact⟨zcc h _ _ _,zjh h _ _ _⟩
 ·exact⟨h,.refl _⟩
theorem znt {G:Gr} {to:Nat->Int->Nat} {L:List (List It)} (S:SS) (p:Nat×Nat) (h:Fit L S):Fit L (ps G to L S p)/\SLe S (ps G to L S p):=by
 unfold ps;split
 ·exact⟨h,.refl _⟩
 ·rename_i x _
  split
  ·exact⟨h,.refl _⟩
  ·rename_i sym _
   split
   ·exact⟨h,.refl _⟩
   ·split
    ·exact⟨zcc h _ _ _,zjh h _ _ _⟩
    ·have:=zix (I:=Fit L) (fun s k hs=>zdz (G:=G) p.1 sym (ofN (gn false G.rs G.ns.length) (fst G) ((S.getD p.1 []).getD p.2 0) (rest G x)) s k hs) (List.range G.rs.length) _ (zcc h (to p.1 sym) (x.1,x.2+1) ((S.getD p.1 []).getD p.2 0))
     exact⟨this.1,(zjh h _ _ _).trans this.2⟩
theorem zlQ {G:Gr} {to:Nat->Int->Nat} {L:List (List It)} (ab:Ok G) (ac:∀(q:Nat) (x:It) (s:Int),x∈L.getD q []->nx G x=some s->Ed E q s (to q s)) (S:SS) (p:Nat×Nat) (h:Fit L S) (hs:Snd G E L S):Snd G E L (ps G to L S p):=by
 unfold ps;split
 ·exact hs
 ·rename_i x hx
  split
  ·exact hs
  ·rename_i sym hn
   split
   ·exact hs
   ·have h1:Snd G E L (gv L S (to p.1 sym) (x.1,x.2+1) ((S.getD p.1 []).getD p.2 0)):=zhI h hs fun t ht=>.mv p.1 x t sym (hs _ _ _ ⟨p.2,hx,ht⟩) hn _ (ac p.1 x sym (CL hx) hn);split
    ·exact h1
    ·rename_i ad h0
     have aa:∃t,((S.getD p.1 []).getD p.2 0).testBit t=true:=Cv ad;obtain⟨t0,ae⟩:=aa
     have af:∀k,k<G.rs.length->(G.rs.getD k ⟨0,[],0⟩).l = -1-sym->∀u,(ofN (gn false G.rs G.ns.length) (fst G) ((S.getD p.1 []).getD p.2 0) (rest G x)).testBit u=true->La G E p.1 ((k:Int),0) (u:Int):=fun k hk e u hu=>by
      rw[Ai,Ar hk,Bm]at e;rcases(zaw ab.lin _ _ _).1 hu with hb|⟨hb,hr⟩
      ·exact .bg p.1 x t0 sym (hs _ _ _ ⟨p.2,hx,ae⟩) hn (by omega) k hk e _ hb
      ·exact .nu p.1 x u sym (hs _ _ _ ⟨p.2,hx,hr⟩) hn (by omega) k hk e hb
     have key:∀(ks:List Nat),(∀k∈ks,k<G.rs.length)->∀S1,Fit L S1->Snd G E L S1->Snd G E L (ks.foldl (ps1 G L p.1 sym (ofN (gn false G.rs G.ns.length) (fst G) ((S.getD p.1 []).getD p.2 0) (rest G x))) S1):=by
      intro ks;induction ks with
      | nil=>exact fun _ S1 _ h=>h
      | cons k ks ih =>
       intro hk S1 hf hS;rw[CZ];refine ih (fun j hj=>hk j (Bh _ hj)) _ (zdz _ _ _ S1 k hf).1 ?_;unfold ps1;split
       ·rename_i e
        exact zhI hf hS fun u hu=>af k (hk k Bf) e u hu
       ·exact hS
     exact key _ (fun k hk=>BF.1 hk) _ (zcc h _ _ _) h1
theorem zhK {L:List (List It)} {S:SS} (h:Fit L S) {q:Nat} {x:It} {s:Nat} (e:gv L S q x s=S) {t:Nat} (ht:s.testBit t=true) (hx:x∈L.getD q []):At L S q x t:=by
 obtain⟨i,hi⟩:=List.getElem?_of_mem hx
 have:=(zf5 (L:=L) h (q:=q) (x:=x) (s:=s) (p:=q) (y:=x) (t:=t)).2 (.inr ⟨rfl,rfl,ht,i,hi⟩)
 rwa [e]at this
theorem zkq {G:Gr} {to:Nat->Int->Nat} {L:List (List It)} (ab:∀(q:Nat) (x:It) (s:Int) (j:Nat),x∈L.getD q []->nx G x=some s->Ed E q s j->j=to q s) (ac:∀(q:Nat) (x:It) (s:Int),x∈L.getD q []->nx G x=some s->(x.1,x.2+1)∈L.getD (to q s) []) (ad:∀(q:Nat) (x:It) (s:Int) (k:Nat) (hk:k<G.rs.length),x∈L.getD q []->nx G x=some s->s<0->(G.rs[k]).l = -1-s->((k:Int),(0:Int))∈L.getD q []) {S:SS} (h:Fit L S) {q:Nat} (e:ps G to L S (q,i)=S):Gvn G E L S q i:=by
 have key:∀x s,(L.getD q [])[i]?=some x->nx G x=some s->(S.getD q []).getD i 0≠0->gv L S (to q s) (x.1,x.2+1) ((S.getD q []).getD i 0)=S/\(s<0->∀k,k<G.rs.length->ps1 G L q s (ofN (gn false G.rs G.ns.length) (fst G) ((S.getD q []).getD i 0) (rest G x)) S k=S):=by
  intro x s hx hn aa;unfold ps at e;simp only[hx,hn]at e;rw[AB aa]at e;by_cases h0:0<=s
  ·rw[Ap h0]at e;exact⟨e,fun k=>absurd h0 (by omega)⟩
  ·rw[AB h0]at e;have a1:=zjh h (to q s) (x.1,x.2+1) ((S.getD q []).getD i 0);have a2:=zix (I:=Fit L) (fun s' k hs=>zdz (G:=G) q s (ofN (gn false G.rs G.ns.length) (fst G) ((S.getD q []).getD i 0) (rest G x)) s' k hs) (List.range G.rs.length) _ (zcc h (to q s) (x.1,x.2+1) ((S.getD q []).getD i 0));rw[e]at a2;have a3:=SLe.anti a1 a2.2;refine⟨a3,fun _ k hk=>?_⟩;rw[a3]at e;exact zcw (I:=Fit L) (fun s' k hs=>zdz (G:=G) _ _ _ s' k hs) _ S h e k (BF.2 hk)
 refine⟨fun x s hx hn t ht j he=>?_,fun x s hx hn h0 aa k hk hl u hu=>?_⟩
 ·have hm:=CL hx;rw[ab q x s j hm hn he];exact zhK h (key x s hx hn (zbE ht)).1 ht (ac q x s hm hn)
 ·have:=(key x s hx hn aa).2 h0 k hk
  unfold ps1 at this;rw[Ap (by rw[Ai,Ar hk,Bm];exact hl)]at this;exact zhK h this hu (ad q x s k hk (CL hx) hn h0 hl)
end Lk
namespace Gm
noncomputable def zkE (p:Nat->Prop):Nat->Nat
 | 0=>0
 | n+1=>zkE p n ||| (if tr (p n)=true then 2 ^ n else 0)
theorem ze2 (p:Nat->Prop) (n j:Nat):(zkE p n).testBit j=true↔j<n/\p j:=by
 induction n with
 | zero=>rw[zkE];simp
 | succ n ih =>
  rw[zkE,CA,CI,ih];by_cases h:tr (p n)=true
  ·rw[Ap h,Ck,AV];rw[tr_iff]at h
   constructor
   ·rintro(⟨h1,h2⟩|rfl)
    ·exact⟨by omega,h2⟩
    ·exact⟨by omega,h⟩
   ·rintro⟨h1,h2⟩;by_cases e:n=j
    ·exact .inr e
    ·exact .inl ⟨by omega,h2⟩
  ·rw[AB h];rw[tr_iff]at h
   constructor
   ·rintro(⟨h1,h2⟩|h1)
    ·exact⟨by omega,h2⟩
    ·simp at h1
   ·rintro⟨h1,h2⟩;by_cases e:j=n
    ·subst e;exact absurd h2 h
    ·exact .inl ⟨by omega,h2⟩
theorem zkD (p:Nat->Prop) (n:Nat):zkE p n<2 ^ n:=by
 refine Er _ fun i hi=>?_;cases h:(zkE p n).testBit i
 ·rfl
 ·have:=(ze2 p n i).1 h;omega
def St (G:Gr) (i j:Int):Prop:=∃x∈G.rs,x.l=i/\Al true G.rs x.r/\∃p z q,x.r=p++z::q/\z<0/\j = -1-z/\Nu G p/\Nu G q
inductive Cm (G:Gr):Int->Int->Prop
 | one {i j:Int} (h:St G i j):Cm G i j
 | on {i k j:Int} (h:St G i k) (h2:Cm G k j):Cm G i j
theorem Cm.trans {G:Gr} {i k:Int} (h:Cm G i k) (h2:Cm G k j):Cm G i j:=by
 induction h with
 | one h=>exact .on h h2
 | on h _ ih=>exact .on h (ih h2)
theorem St.lin {G:Gr} (hl:Lin n G.rs) (hi:∀x∈G.rs,Sin n x.r) {i:Int} (h:St G i j):(0<=i/\i<n)/\0<=j/\j<n:=by
 obtain⟨x,hx,rfl,_,p,z,q,e,hz,rfl,_⟩:=h
 have:=hi x hx z (by rw[e];simp) hz
 exact⟨hl x hx,by omega,this⟩
theorem Cm.lin {G:Gr} {n:Nat} (hl:Lin n G.rs) (hi:∀x∈G.rs,Sin n x.r) {i j:Int} (h:Cm G i j):(0<=i/\i<n)/\0<=j/\j<n:=by
 induction h with
 | one h=>exact h.lin hl hi
 | on h _ ih=>exact⟨(h.lin hl hi).1,ih.2⟩
theorem St.use {G:Gr} {i:Int} (h:St G i j) (hr:Rc G i):Rc G j/\Gn true G.rs j:=by
 obtain⟨x,hx,rfl,ha,p,z,q,e,hz,rfl,_⟩:=h;have hm:z∈x.r:=by rw[e];simp
 exact⟨.on x hx hr ha z hm hz,ha.2 z hm hz⟩
end Gm
end Go.Proofs.YtjjbaehamplnaaaGreat
namespace Go.Mw
open Go.RowKit Go.Maps
section
variable {κ:Type} [DecidableEq κ] {α:Type}
def putA:List (κ×α)->κ->α->List (κ×α)
 | [],x,v=>[(x,v)]
 | (k,u)::r,x,v=>if k=x then(k,v)::r else(k,u)::putA r x v
theorem asc_put {x y:κ} {v:α}:∀ {l:List (κ×α)},asc (putA l x v) y=if x=y then some v else asc l y
 | []=>by simp[putA,asc]
 | (k,u)::r=>by
  have ih:=asc_put (x:=x) (y:=y) (v:=v) (l:=r);unfold putA;by_cases h:k=x
  ·rw[Ap h];subst h;unfold asc;by_cases e:k=y
   ·rw[Ap e,Ap e]
   ·rw[AB e,AB e,AB e]
  ·rw[AB h];unfold asc;rw[ih];by_cases e:k=y
   ·subst e;rw[Ap rfl,AB (fun q=>h q.symm),Ap rfl]
   ·rw[AB e,AB e]
theorem putA_none {x:κ} {v:α}:∀ {l:List (κ×α)},asc l x=none->putA l x v=l++[(x,v)]
 | [],_=>rfl
 | (k,u)::r,h=>by
  unfold asc at h;split at h
  ·cases h
  ·rename_i hk
   rw[putA,AB hk,putA_none h];rfl
theorem zc0 {x:κ} {v:α}:∀ {l:List (κ×α)} {j:Nat} {u:α},(l.map Prod.fst).Nodup->l[j]?=some (x,u)->putA l x v=l.set j (x,v)
 | [],j,u,_,h=>by simp at h
 | (k,u0)::r,0,u,_,h=>by
  simp only[Af,Option.some.injEq]at h;injection h with h1 h2;rw[putA,Ap h1,h1];rfl
 | (k,u0)::r,j+1,u,hn,h=>by
  rw[Bp,EA]at hn;rw[Ah]at h
  have:k≠x:=fun q=>hn.1 (by rw[q];exact Bi.2 ⟨(x,u),CL h,rfl⟩)
  rw[putA,AB this,zc0 hn.2 h,Dv]
end
section
variable {P:Program} {kt:TypeId} {κ:Type} {E:Enc P kt κ} {w:World} {b:Nat} {l:List (κ×Value)}
def MapSt (E:Enc P kt κ) (w:World) (b:Nat) (l:List (κ×Value)):Prop :=
 ∃es clock,w.heap[b]?=some (.map es clock)/\es.toList.map (fun e=>(e.key,e.val))=l.map (fun p=>(E.enc p.1,p.2))/\(∀p∈l,E.ok p.1)/\(l.map Prod.fst).Nodup/\∀e∈es.toList,e.born<clock
theorem MapSt.is (h:MapSt E w b l):MapIs E w b l:=by
 obtain⟨es,clock,h1,h2,h3,h4,_⟩:=h;exact⟨es,clock,h1,h2,h3,h4⟩
theorem MapSt.made (E:Enc P kt κ) (w:World):MapSt E (w.alloc (.map #[] 0)) w.heap.size [] :=
 ⟨#[],0,(MapKept.heap_alloc w _).1,rfl,by simp,by simp,by simp⟩
theorem MapSt.lt (h:MapSt E w b l):b<w.heap.size:=h.is.lt
theorem MapSt.block (h:MapSt E w b l) (hg:w'.heap[b]?=w.heap[b]?):MapSt E w' b l:=by
 obtain⟨es,clock,hb,r⟩:=h;exact⟨es,clock,hg.trans hb,r⟩
variable [DecidableEq κ]
theorem run_put {t e:TypeId} (h:MapIs E w b l) (K:Keyed P kt) (ht:P.underlying t=some (.map kt e)) {x:κ} (hx:E.ok x) (v:Value) :
  ∃w',(Instr.mapUpdate t (.map (some b)) (E.enc x) v).run P w=.ok () w'/\MapIs E w' b (putA l x v)/\w.grownBy w' (some b):=by
 obtain⟨lx,ab⟩:=E.key x hx;have h0:=h;obtain⟨es,clock,hb,he,hf⟩:=find_in h K hx;obtain⟨es0,clock0,d,af,hk,hn⟩:=h0;rw[hb]at d;injection d with d;injection d with d ad;subst d ad;rcases hf with⟨h1,h2⟩|⟨j,e0,h1,h2,h3,h4,h5⟩
 ·obtain⟨w',r1,r2,r3⟩:=run_store h K ht hx v (.inl h2);rw[Ap h2]at r2;rw[putA_none h2];exact⟨w',r1,r2,r3⟩
 ·have hj:es[j]?=some e0:=by simpa using h2
  rw[zc0 hn h5]
  have aa:(es.modify j (fun e=>{e with key:=E.enc x,val:=v})).toList.map (fun e=>(e.key,e.val))=(l.set j (x,v)).map (fun p=>(E.enc p.1,p.2)):=by
   rw[Dq,DM _ _ _ _ h2,Cs,Cs,he]
  refine⟨ChangeMaps.setBlock w b (.map (es.modify j (fun e=>{e with key:=E.enc x,val:=v})) clock),?_,⟨_,_,BG hb _,aa,?_,?_⟩,⟨rfl,rfl,rfl,by simp[ChangeMaps.setBlock],fun i _ hi=>B0 hb _ (fun e=>hi (by rw[e]))⟩⟩
  ·simp[Instr.mapUpdate,CO ht,B8 hb,K.check w false ab,h1,hj,h3,K.stays w ab,Cz _ hb,Result.andThen,ChangeMaps.setBlock]
  ·intro p hp;rcases Df hp with q|q
   ·exact hk p q
   ·rw[q];exact hx
  ·have e1:(l.set j (x,v)).map Prod.fst=l.map Prod.fst:=by
    rw[Cs];refine CX fun i=>?_;rw[Dn];by_cases ac:j=i
    ·subst ac;have ae:j<(l.map Prod.fst).length:=by rw[Bb];exact(Ba.1 h5).1
     rw[Ap rfl,Ap ae,BC,h5];rfl
    ·rw[AB ac]
   rw[e1];exact hn
def zbg (E:Enc P kt κ) (w:World) (b:Nat) (l:List (κ×Value)) (x:κ) (clock:Nat):Prop :=
 ∃(es:Array MapEntry) (z:Value),w.heap[b]?=some (.map (es.push ⟨E.enc x,z,clock⟩) (clock+1))/\es.toList.map (fun e=>(e.key,e.val))=l.map (fun p=>(E.enc p.1,p.2))/\(∀p∈l,E.ok p.1)/\(l.map Prod.fst).Nodup/\(∀e∈es.toList,e.born<clock)/\E.ok x/\asc l x=none
theorem zbg.block {x:κ} {c:Nat} (h:zbg E w b l x c) (hg:w'.heap[b]?=w.heap[b]?):zbg E w' b l x c:=by
 obtain⟨es,z,hb,r⟩:=h;exact⟨es,z,hg.trans hb,r⟩
theorem zbg.lt {x:κ} {c:Nat} (h:zbg E w b l x c):b<w.heap.size:=by
 obtain⟨es,z,hb,_⟩:=h;exact(Ac.1 hb).1
theorem run_entry {t e:TypeId} (h:MapSt E w b l) (K:Keyed P kt) (ht:P.underlying t=some (.map kt e)) {z:Value} (hz:(zeroValue e).run P w=.ok z w) {x:κ} (hx:E.ok x) (hn:asc l x=none) :
  ∃(c:Nat) (w':World),(Instr.mapEntry t (.map (some b)) (E.enc x)).run P w=.ok (.tuple #[z,goInt c]) w'/\zbg E w' b l x c/\w.grownBy w' (some b):=by
 obtain⟨lx,aa⟩:=E.key x hx;have h0:=h;obtain⟨es,clock,hb,he,hf⟩:=find_in h.is K hx;obtain⟨es0,clock0,d,ae,hk,ab,ac⟩:=h0;rw[hb]at d;injection d with d;injection d with d ad;subst d ad;rcases hf with⟨h1,h2⟩|⟨j,e0,h1,h2,h3,h4,h5⟩
 ·refine⟨clock,ChangeMaps.setBlock w b (.map (es.push ⟨E.enc x,z,clock⟩) (clock+1)),?_,⟨es,z,BG hb _,he,hk,ab,ac,hx,hn⟩,⟨rfl,rfl,rfl,by simp[ChangeMaps.setBlock],fun i _ hi=>B0 hb _ (fun e=>hi (by rw[e]))⟩⟩;simp[Instr.mapEntry,CO ht,B8 hb,K.check w false aa,h1,hz,Cz _ hb,Result.andThen,ChangeMaps.setBlock]
 ·rw[hn]at h4;cases h4
theorem zdQ {es:List MapEntry} {c:Nat} (h:∀e∈es,e.born<c) (x:MapEntry) (hx:x.born=c):(es++[x]).findIdx? (fun e=>(e.born:Int)==(c:Int))=some es.length:=by
 induction es with
 | nil=>simp[hx]
 | cons y r ih =>
  have hy:=h y Bf;have ih:=ih fun e he=>h e (Bh _ he);rw[Cx,List.findIdx?_cons,ih]
  have:((y.born:Int)==(c:Int))=false:=by
   rw[AY];omega
  rw[this];simp
theorem run_estore {t:TypeId} {x:κ} {c:Nat} (h:zbg E w b l x c) (v:Value) :
  ∃w',(Instr.entryStore t (.map (some b)) (goInt c) v).run P w=.ok () w'/\MapSt E w' b (l++[(x,v)])/\w.grownBy w' (some b):=by
 obtain⟨es,z,hb,he,hk,hn,ab,hx,ac⟩:=h
 have ad:(es.push ⟨E.enc x,z,c⟩).findIdx? (fun e=>(e.born:Int)==(c:Int))=some es.size:=by
  rw[Go.WideElems.findIdx_arr,Cn,zdQ ab _ rfl];simp
 have aa:(es.push ⟨E.enc x,z,c⟩).modify es.size (fun e=>{e with val:=v})=es.push ⟨E.enc x,v,c⟩:=by
  apply Ef;rw[Dq,Cn,Cn]
  have:∀(l:List MapEntry) (a:MapEntry),(l++[a]).modify l.length (fun e=>{e with val:=v})=l++[{a with val:=v}]:=fun l a=>by
   induction l with
   | nil=>rfl
   | cons y r ih=>rw[Cx,Bt,List.modify_succ_cons,ih];rfl
  exact this es.toList _
 refine⟨ChangeMaps.setBlock w b (.map (es.push ⟨E.enc x,v,c⟩) (c+1)),?_,⟨_,_,BG hb _,?_,?_,?_,?_⟩,⟨rfl,rfl,rfl,by simp[ChangeMaps.setBlock],fun i _ hi=>B0 hb _ (fun e=>hi (by rw[e]))⟩⟩
 ·simp[Instr.entryStore,B8 hb,asInt,asIntOf,goInt,ad,aa,Cz _ hb,Result.andThen,ChangeMaps.setBlock]
 ·rw[Cn,AW,AW,he];rfl
 ·intro p hp;rcases Bj.1 hp with q|q
  ·exact hk p q
  ·rw[AF]at q;subst q;exact hx
 ·rw[AW,Ci];refine⟨hn,by simp,fun a ha d hd=>?_⟩;obtain⟨p,hp,rfl⟩:=Bi.1 ha;simp only[Bp,CU,AF]at hd;subst hd;exact zba.1 ac p hp
 ·intro e he;rw[Cn]at he;rcases Bj.1 he with q|q
  ·have:=ab e q;omega
  ·rw[AF]at q;subst q;simp
end
end Go.Mw
namespace Go.Proofs.YtjjbaehamplnaaaGreat
end Go.Proofs.YtjjbaehamplnaaaGreat
namespace Go.Proofs.YtjjbaehamplnaaaGreat
open Go.RowKit
namespace Au
theorem zhO {α:Type} {f:Int->List α} {b:Nat}:∀ {l:List Int},(∀r∈l,(f r).length<=b)->(l.flatMap f).length<=l.length*b
 | [],_=>by simp
 | x::l,h=>by
  rw[BD,AU,Bt,Nat.add_mul,Em];have h1:=h x (Bf ..);have h2:=zhO (l:=l) fun r hr=>h r (Bh _ hr);omega
theorem sy_le (h:Gm.Ok G) {r:Int} (hr:r∈rls G):(sy G r).length<=6:=by
 unfold sy;split
 ·simp
 ·rename_i hn
  have h1:=(rls_mem.1 hr)
  have aa:r.toNat<G.rs.length:=by omega
  rw[Ai,Ar aa,Bm];exact(Gm.rule_in (h.rr _ (Ay aa))).1
theorem allI_le (h:Gm.Ok G) (hr:G.rs.length<=40):(zig G).length<=287:=by
 have h1:(zig G).length<=(rls G).length*7:=zhO fun r hr=>by
  rw[Bb,EH]
  have:=sy_le h hr
  omega
 have h2:(rls G).length=G.rs.length+1:=by simp[rls]
 omega
theorem kernel_le (h:Gm.Ok G) (hr:G.rs.length<=40) {K:List (List It)} (hi:Inv G K E) {k:List It} (hk:k∈K):k.length<=287 :=
 Ag (zjF (hi.it k hk).1 (hi.it k hk).2) (allI_le h hr)
theorem edges_le (ht:G.ts.length<=24) (hn:G.ns.length<=40) {K:List (List It)} (hi:Inv G K E) (h:i<E.length):E[i].length<=64:=by
 have h1:=(hi.ed i h).1;have h2:(E[i].map (·.1)).length<=(syms G).length:=by rw[h1];exact Ct _ _
 rw[Bb,syms_len]at h2;omega
theorem zmK (l:List It):(clo G l).length<=(zig G).length:=Ct _ _
theorem clo_le2 (h:Gm.Ok G) (hr:G.rs.length<=40) (l:List It):(clo G l).length<=287:=Ag (zmK l) (allI_le h hr)
structure CInv (G:Gm.Gr) (l out:List It):Prop where
 s:Srt out
 h:∀x∈l,x∈out
 c:∀x∈out,Cl G l x
theorem CInv.is {l out:List It} (hl:∀x∈l,isI G x=true) (k:CInv G l out):∀x∈out,isI G x=true:=fun x hx=>cl_is hl (k.c x hx)
theorem CInv.le {l out:List It} (hl:∀x∈l,isI G x=true) (k:CInv G l out):out.length<=(zig G).length:=zjF k.s (k.is hl)
theorem CInv.put {l out:List It} (k:CInv G l out) {x:It} (hx:x∈out) (hs:nx G x=some s) (h0:s<0) {j:Nat} (hj:j<G.rs.length) (he:(G.rs[j]).l = -1-s):CInv G l (put out ((j:Int),0)) :=
 ⟨zeh k.s,fun y hy=>zb0.2 (.inr (k.h y hy)),fun y hy=>(zb0.1 hy).elim (fun e=>by rw[e];exact .on x (k.c x hx) s hs h0 j hj he) (k.c y)⟩
theorem CInv.start (l:List It):CInv G l (zjI [] l) :=
 ⟨zcZ List.Pairwise.nil,fun x hx=>za5.2 (.inr hx),fun x hx=>(za5.1 hx).elim (fun h=>by cases h) fun h=>.of x h⟩
theorem CInv.done {l out:List It} (hl:∀x∈l,isI G x=true) (k:CInv G l out) (h:∀x∈out,∀s,nx G x=some s->s<0->∀j:Nat,∀hj:j<G.rs.length,(G.rs[j]).l = -1-s->((j:Int),0)∈out):out=clo G l:=zjY hl k.s k.h k.c h
def zmc (e:List (Int×Int)) (s:Int):Int:=((e.find? fun x=>x.1==s).map (·.2)).getD (-1)
def wlk (E:List (List (Int×Int))):Int->List Int->Option Int
 | q,[]=>if 0<=q/\q<E.length then some q else none
 | q,s::r=>if 0<=q/\q<E.length then wlk E (zmc (E.getD q.toNat []) s) r else none
end Au
namespace Au
theorem mv_le (G:Gm.Gr) (l:List It) (s:Int):(mv G l s).length<=l.length:=by
 unfold mv;rw[Bb];exact Ct _ _
end Au
namespace Au
def addE (G:Gm.Gr) (x:It):List It:=match nx G x with
 | some s=>if s<0 then((List.range G.rs.length).filter fun k=>decide ((G.rs.getD k ⟨0,[],0⟩).l = -1-s)).map fun k:Nat=>((k:Int),(0:Int)) else []
 | none=>[]
def addA (G:Gm.Gr) (out:List It):List It:=zjI out (out.flatMap (addE G))
def rnds (G:Gm.Gr):Nat->List It->List It
 | 0,out=>out
 | n+1,out=>rnds G n (addA G out)
def zln (G:Gm.Gr) (l:List It):List It:=rnds G 41 (zjI [] l)
theorem zbQ {x z:It}:z∈addE G x ↔ ∃s,nx G x=some s/\s<0/\∃k:Nat,∃hk:k<G.rs.length,(G.rs[k]).l = -1-s/\z=((k:Int),0):=by
 unfold addE;cases hn:nx G x with
 | none=>simp
 | some s =>
  by_cases h0:s<0
  ·simp only[Ap h0]
   constructor
   ·intro h;obtain⟨k,hk,rfl⟩:=Bi.1 h;obtain⟨h1,h2⟩:=B7.1 hk;have h1:=BF.1 h1;rw[AV,Ai,Ar h1,Bm]at h2;exact⟨s,rfl,h0,k,h1,h2,rfl⟩
   ·rintro⟨s',e,_,k,hk,hl,rfl⟩;injection e with e;subst e;refine Bi.2 ⟨k,B7.2 ⟨BF.2 hk,?_⟩,rfl⟩;rw[AV,Ai,Ar hk,Bm];exact hl
  ·simp only[AB h0]
   constructor
   ·intro h;cases h
   ·rintro⟨s',e,h1,_⟩;injection e with e;omega
theorem CInv.addA {l out:List It} (k:CInv G l out):CInv G l (addA G out):=by
 refine⟨zcZ k.s,fun x hx=>za5.2 (.inl (k.h x hx)),fun x hx=>?_⟩;rcases za5.1 hx with h|h
 ·exact k.c x h
 ·obtain⟨y,hy,hz⟩:=CK.1 h;obtain⟨s,hs,h0,j,hj,hl,rfl⟩:=zbQ.1 hz;exact .on y (k.c y hy) s hs h0 j hj hl
theorem CInv.rnds {G:Gm.Gr} {l:List It}:∀(n:Nat) {out:List It},CInv G l out->CInv G l (rnds G n out)
 | 0,_,k=>k
 | n+1,_,k=>CInv.rnds n k.addA
theorem clo_c {l:List It} (hl:∀x∈l,isI G x=true) (h:addA G (zln G l)=zln G l):clo G l=zln G l:=by
 have k:CInv G l (zln G l):=CInv.rnds 41 (CInv.start l);refine(k.done hl fun x hx s hs h0 j hj he=>?_).symm;rw[<-h];exact za5.2 (.inr (CK.2 ⟨x,hx,zbQ.2 ⟨s,hs,h0,j,hj,he,rfl⟩⟩))
def zm2 (G:Gm.Gr):Nat->List (List It)->List (List (Int×Int))->Option (List (List It)×List (List (Int×Int)))
 | 0,_,_=>none
 | f+1,ks,es=>if es.length<ks.length then
   let c:=zln G (ks.getD es.length [])
   let o:=edges G c (ks,[]) (syms G)
   if addA G c=c then(if 300<o.1.length then none else zm2 G f o.1 (es++[o.2])) else none
  else some (ks,es)
theorem zlC {G:Gm.Gr}:∀(f:Nat) (ks:List (List It)) (es:List (List (Int×Int))),Inv G ks es->∀r,zm2 G f ks es=some r->run G f ks es=some r
 | 0,_,_,_,_,h=>by cases h
 | f+1,ks,es,hi,r,h=>by
  rw[zm2]at h;rw[run];split at h
  ·rename_i b
   rw[Ap b];simp only at h;split at h
   ·rename_i hc
    have hm:ks.getD es.length []∈ks:=by
     rw[Ai,Ar b,Bm];exact Ay b
    have e:=clo_c (hi.it _ hm).2 hc;have e2:one G ks es.length=edges G (zln G (ks.getD es.length [])) (ks,[]) (syms G):=by unfold one;rw[e]
    rw[<-e2]at h;split at h
    ·cases h
    ·rename_i h3
     rw[AB h3];exact zlC f _ _ (hi.step b) r h
   ·cases h
  ·rename_i b
   rw[AB b];exact h
theorem bld_c {r:List (List It)×List (List (Int×Int))} (h:zm2 G 302 [[(-1,0)]] []=some r):bld G=some r:=zlC 302 _ _ (Inv.start G) r h
def txt (k:List It):List Int:=k.flatMap fun x=>[x.1+1,x.2]
theorem zgo:∀ {a b:List It},txt a=txt b->a=b
 | [],[],_=>rfl
 | [],y::b,h=>by simp[txt]at h
 | x::a,[],h=>by simp[txt]at h
 | x::a,y::b,h=>by
  have h:(x.1+1)::x.2::txt a=(y.1+1)::y.2::txt b:=h;injection h with h1 h;injection h with h2 h;rw[zgo h,show x=y from Ew (by omega) h2]
theorem txt_len (k:List It):(txt k).length=k.length*2:=by
 induction k with
 | nil=>rfl
 | cons x k ih =>
  have e:txt (x::k)=(x.1+1)::x.2::txt k:=rfl;rw[e,Bt,Bt,Bt,ih];omega
theorem txt_snoc (k:List It) (x:It):txt (k++[x])=txt k++[x.1+1,x.2]:=by simp[txt]
theorem txt_in (aa:Gm.Ok G) (hr:G.rs.length<=40) {k:List It} (h:∀x∈k,isI G x=true):∀z∈txt k,0<=z/\z<=255:=fun z hz=>by
 obtain⟨x,hx,hz⟩:=CK.1 hz;have hi:=isI_iff.1 (h x hx);have h6:=sy_le aa (rls_mem.2 hi.1);rcases Bq.1 hz with rfl|hz
 ·omega
 ·rw[AF.1 hz];omega
def NumOk (l:List (List Int×Value)) (ks:List (List It)):Prop:=∀k:List It,Mw.asc l (txt k)=if fnd ks k<0 then none else some (.int .i64 (fnd ks k))
theorem NumOk.nil:NumOk [] []:=fun k=>by simp[Mw.asc,fnd]
theorem zfg {k k':List It}:∀ {ks:List (List It)},fnd (ks++[k]) k'=if fnd ks k'<0 then(if k=k' then(ks.length:Int) else -1) else fnd ks k'
 | []=>by simp[fnd]
 | y::ks=>by
  have ih:=zfg (k:=k) (k':=k') (ks:=ks);rw[Cx,fnd,fnd,ih];by_cases e:y=k'
  ·simp[e]
  ·simp only[AB e];by_cases h1:fnd ks k'<0
   ·simp only[Ap h1];by_cases h2:k=k'
    ·simp only[Ap h2,Bt];rw[AB (by omega)];simp
    ·simp only[AB h2];simp
   ·simp only[AB h1];rw[AB (by omega)]
theorem NumOk.snoc {l:List (List Int×Value)} {ks:List (List It)} {k:List It} (h:NumOk l ks) (hn:fnd ks k<0):NumOk (l++[(txt k,.int .i64 ks.length)]) (ks++[k]):=fun k'=>by
 have h0:Mw.asc l (txt k)=none:=by rw[h k,Ap hn]
 rw[Mw.asc_snoc h0,zfg];by_cases e:k=k'
 ·subst e;rw[Ap rfl,Ap hn,Ap rfl,AB (by omega)]
 ·rw[AB (fun q=>e (zgo q)),h k'];by_cases h1:fnd ks k'<0
  ·simp[h1,e]
  ·simp[h1]
theorem mv_app (G:Gm.Gr) (a b:List It) (s:Int):mv G (a++b) s=mv G a s++mv G b s:=by
 unfold mv;rw[CF,AW]
theorem mv_one_no {x:It} (h:nx G x≠some s):mv G [x] s=[]:=by
 unfold mv;rw[Cy,AB (by simpa using h)];rfl
theorem mv_one {x:It} (h:nx G x=some s):mv G [x] s=[(x.1,x.2+1)]:=by
 unfold mv;rw[Cy,Ap (by rw[h];simp)];rfl
structure PC (G:Gm.Gr) (l:List It) (i:Nat) (xs:List It):Prop where
 nd:xs.Nodup
 h:∀x∈l,x∈xs
 c:∀x∈xs,Cl G l x
 d:∀j,j<i->∀x,xs[j]?=some x->∀z∈addE G x,z∈xs
theorem zaZ:∀ {a b:List It},a.Nodup->(∀x∈a,x∈b)->a.length<=b.length
 | [],_,_,_=>by simp
 | x::a,b,hn,h=>by
  obtain⟨h1,h2⟩:=EA.1 hn;have hx:=h x Bf;have hp:=List.length_erase_of_mem hx;have aa:=List.length_pos_of_mem hx
  have ih:=zaZ (a:=a) (b:=b.erase x) h2 fun y hy=>by
   have:y≠x:=fun e=>h1 (e▸hy)
   exact(List.mem_erase_of_ne this).2 (h y (Bh _ hy))
  rw[Bt];omega
theorem PC.le {l xs:List It} (hl:∀x∈l,isI G x=true) (k:PC G l i xs):xs.length<=(zig G).length :=
 zaZ k.nd fun x hx=>zbP.2 (cl_is hl (k.c x hx))
def addX (xs:List It) (z:It):List It:=if z∈xs then xs else xs++[z]
theorem zjy {xs:List It} {z y:It}:y∈addX xs z↔y=z\/y∈xs:=by
 unfold addX;split
 ·rename_i h
  exact⟨.inr,fun q=>q.elim (fun e=>e▸h) id⟩
 ·rw[Bj,AF];exact Or.comm
theorem zlb {xs:List It} {z:It} (h:xs.Nodup):(addX xs z).Nodup:=by
 unfold addX;split
 ·exact h
 ·rename_i hz
  refine Ci.2 ⟨h,by simp,fun a ha b hb=>?_⟩;rw[AF.1 hb];exact fun e=>hz (e▸ha)
theorem zlc {xs:List It} {z:It} {j:Nat} (h:j<xs.length):(addX xs z)[j]?=xs[j]?:=by
 unfold addX;split
 ·rfl
 ·rw[Bw h]
theorem zfv {xs:List It} {z:It}:xs.length<=(addX xs z).length:=by
 unfold addX;split
 ·exact Ad _
 ·simp
def addsX (xs zs:List It):List It:=zs.foldl addX xs
theorem addsX_snoc (xs zs:List It) (z:It):addsX xs (zs++[z])=addX (addsX xs zs) z:=by simp[addsX]
theorem zaF {y:It}:∀ {zs xs:List It},y∈addsX xs zs↔y∈zs\/y∈xs
 | [],xs=>by simp[addsX]
 | z::zs,xs=>by
  have:=zaF (y:=y) (zs:=zs) (xs:=addX xs z)
  rw[show addsX xs (z::zs)=addsX (addX xs z) zs from rfl,this,zjy,Bq]
  constructor
  ·rintro(h|h|h)
   ·exact .inl (.inr h)
   ·exact .inl (.inl h)
   ·exact .inr h
  ·rintro((h|h)|h)
   ·exact .inr (.inl h)
   ·exact .inl h
   ·exact .inr (.inr h)
theorem zdd:∀ {zs xs:List It},xs.Nodup->(addsX xs zs).Nodup
 | [],_,h=>h
 | _::zs,_,h=>zdd (zs:=zs) (zlb h)
theorem addsX_len:∀ {zs xs:List It},xs.length<=(addsX xs zs).length
 | [],_=>Ad _
 | z::zs,xs=>Ag zfv (addsX_len (zs:=zs) (xs:=addX xs z))
theorem zfu {j:Nat}:∀ {zs xs:List It},j<xs.length->(addsX xs zs)[j]?=xs[j]?
 | [],_,_=>rfl
 | z::zs,xs,h=>(zfu (zs:=zs) (xs:=addX xs z) (Ao h zfv)).trans (zlc h)
theorem PC.start (G:Gm.Gr) (l:List It):PC G l 0 (addsX [] l) :=
 ⟨zdd List.nodup_nil,fun x hx=>zaF.2 (.inl hx),fun x hx=>(zaF.1 hx).elim (fun h=>.of x h) (fun h=>by cases h),fun j hj=>absurd hj (Nat.not_lt_zero _)⟩
theorem PC.next {l xs:List It} (k:PC G l i xs) {x:It} (hx:xs[i]?=some x):PC G l (i+1) (addsX xs (addE G x)):=by
 refine⟨zdd k.nd,fun y hy=>zaF.2 (.inr (k.h y hy)),fun y hy=>?_,fun j hj y hy z hz=>?_⟩
 ·rcases zaF.1 hy with h|h
  ·obtain⟨s,hs,h0,j,hj,hl,rfl⟩:=zbQ.1 h;exact .on x (k.c x (CL hx)) s hs h0 j hj hl
  ·exact k.c y h
 ·have aa:i<xs.length:=(Ba.1 hx).1;rw[zfu (by omega)]at hy;rcases Bz j i with h|h
  ·exact zaF.2 (.inr (k.d j h y hy z hz))
  ·obtain rfl:j=i:=by omega
   rw[hx]at hy;injection hy with hy;subst hy;exact zaF.2 (.inl hz)
theorem PC.done {l xs out:List It} (hl:∀x∈l,isI G x=true) (k:PC G l xs.length xs) (hs:Srt out) (hm:∀x,x∈out↔x∈xs):out=clo G l:=by
 refine zjY hl hs (fun x hx=>(hm x).2 (k.h x hx)) (fun x hx=>k.c x ((hm x).1 hx)) fun x hx s hs h0 j hj he=>(hm _).2 ?_;obtain⟨q,hq,e⟩:=BB ((hm x).1 hx);exact k.d q hq x (by rw[Ar hq,e]) _ (zbQ.2 ⟨s,hs,h0,j,hj,he,rfl⟩)
theorem srt_of {xs out:List It} (hn:xs.Nodup) (hp:out.Perm xs) (hs:out.Pairwise fun a b=>lt b a=false):Srt out:=by
 have ab:out.Nodup:=hp.nodup_iff.2 hn;refine(CN.2 fun i j hi hj aa=>?_);have h1:=CN.1 hs i j hi hj aa;have h2:=CN.1 (BU.1 ab) i j hi hj aa;exact lt_or h1 (Ne.symm h2)
end Au
namespace Lk
open Au Gm Go.Mw
abbrev MP:=List ((Int×Int)×Nat)
def gN (M:MP) (x:Int×Int):Nat:=(asc M x).getD 0
def orN (M:MP) (x:Int×Int) (v:Nat):MP:=putA M x (gN M x ||| v)
theorem zmz {M:MP} {x y:Int×Int} {v:Nat}:gN (putA M x v) y=if x=y then v else gN M y:=by
 unfold gN;rw[asc_put];split <;> rfl
theorem zf8 {M:MP} {x y:Int×Int} {v:Nat}:gN (orN M x v) y=if x=y then gN M x ||| v else gN M y:=zmz
def encM (M:MP):List ((Int×Int)×Value):=M.map fun p=>(p.1,.int .u32 (p.2:Int))
theorem asc_enc {x:Int×Int}:∀ {M:MP},asc (encM M) x=(asc M x).map fun v:Nat=>(.int .u32 (v:Int):Value)
 | []=>rfl
 | (k,u)::r=>by
  have ih:=asc_enc (x:=x) (M:=r);unfold encM at ih ⊢;rw[Bp];unfold asc;split
  ·rfl
  ·exact ih
theorem enc_put {x:Int×Int} {v:Nat}:∀ {M:MP},putA (encM M) x (.int .u32 (v:Int))=encM (putA M x v)
 | []=>rfl
 | (k,u)::r=>by
  have ih:=enc_put (x:=x) (v:=v) (M:=r);unfold encM at ih ⊢;rw[Bp];unfold putA;split
  ·rfl
  ·rw[ih,Bp]
theorem gN_enc (M:MP) (x:Int×Int):(asc (encM M) x).getD (.int .u32 0)=.int .u32 (gN M x:Int):=by
 rw[asc_enc];unfold gN;cases asc M x <;> rfl
def pc (v:Nat):Nat:=(List.range 32).countP fun t=>v.testBit t
theorem zku:pc 0=0:=by decide
theorem znw (v:Nat):pc v<=32:=by
 unfold pc
 have:=List.countP_le_length (p:=fun t=>v.testBit t) (l:=List.range 32)
 simpa using this
theorem zfn {p q:Nat->Bool}:∀ {l:List Nat},(∀x∈l,p x=true->q x=true)->(∃y∈l,q y=true/\p y=false)->l.countP p<l.countP q
 | [],_,h=>by obtain⟨y,hy,_⟩:=h;cases hy
 | x::l,h1,h2=>by
  have hl:l.countP p<=l.countP q:=List.countP_mono_left fun y hy=>h1 y (Bh _ hy);rw[List.countP_cons,List.countP_cons];obtain⟨y,hy,hq,hp⟩:=h2;rcases Bq.1 hy with rfl|hy
  ·rw[hq,hp];simp;omega
  ·have:=zfn (l:=l) (fun z hz=>h1 z (Bh _ hz)) ⟨y,hy,hq,hp⟩
   have h3:=h1 x Bf;cases aa:p x
   ·simp;omega
   ·rw[h3 aa];simp;omega
theorem zhc {a v:Nat} (ha:a<4294967296) (hv:v<4294967296) (h:a ||| v≠a):pc a<pc (a ||| v):=by
 have ab:a ||| v<4294967296:=or32 ha hv;obtain⟨t,ht⟩:∃t,(a ||| v).testBit t≠a.testBit t:=BO fun hn=>h (CM fun t=>BO fun k=>hn ⟨t,k⟩);have hi:a.testBit t=true->(a ||| v).testBit t=true:=fun k=>by rw[CA,k,Ds]
 have h1:(a ||| v).testBit t=true/\a.testBit t=false:=by
  cases e1:a.testBit t
  ·rw[e1]at ht;exact⟨by cases q:(a ||| v).testBit t <;> simp_all,rfl⟩
  ·rw[hi e1,e1]at ht;exact absurd rfl ht
 have aa:t<32:=by
  rcases Bz t 32 with q|q
  ·exact q
  ·have:(a ||| v)<2 ^ t:=Ao ab (by have:=B3 (n:=2) (by decide) q;omega)
   rw[Dr this]at h1;cases h1.1
 exact zfn (fun x _ k=>by rw[CA,k,Ds]) ⟨t,BF.2 aa,h1.1,h1.2⟩
def cntM (M:MP):Nat:=(M.map fun p=>pc p.2).sum
theorem zh1 {x:Int×Int} {v:Nat}:∀ {M:MP},cntM (putA M x v)+pc (gN M x)=cntM M+pc v
 | []=>by simp[cntM,putA,gN,asc,zku]
 | (k,u)::r=>by
  have ih:=zh1 (x:=x) (v:=v) (M:=r);unfold putA gN asc;unfold cntM gN at *;split
  ·simp only[Bp,Ex,Bm];omega
  ·simp only[Bp,Ex];omega
theorem ze9 {x:Int×Int} {v:Nat}:∀ {M:MP},(putA M x v).map Prod.fst=if asc M x=none then M.map Prod.fst++[x] else M.map Prod.fst
 | []=>rfl
 | (k,u)::r=>by
  have ih:=ze9 (x:=x) (v:=v) (M:=r);unfold putA asc;by_cases h:k=x
  ·rw[Ap h,Ap h,AB (by simp)];rfl
  ·rw[AB h,AB h,Bp,ih];split <;> rfl
theorem zhl {M:MP} {x:Int×Int} {v:Nat} (h:(M.map Prod.fst).Nodup):((putA M x v).map Prod.fst).Nodup:=by
 rw[ze9];split
 ·rename_i hn
  rw[Ci];refine⟨h,by simp,fun a ha c hc=>?_⟩;obtain⟨p,hp,rfl⟩:=Bi.1 ha;rw[AF.1 hc];exact zba.1 hn p hp
 ·exact h
theorem zen {x:Int×Int} {v:Nat} {p:(Int×Int)×Nat}:∀ {M:MP},p∈putA M x v->p∈M\/p=(x,v)
 | [],h=>by simpa[putA] using h
 | (k,u)::r,h=>by
  unfold putA at h;split at h
  ·rename_i e
   rcases Bq.1 h with h|h
   ·right;rw[h,e]
   ·exact .inl (Bh _ h)
  ·rcases Bq.1 h with h|h
   ·exact .inl (by rw[h];exact Bf)
   ·rcases zen h with h|h
    ·exact .inl (Bh _ h)
    ·exact .inr h
theorem zfe {M:MP} {x:Int×Int} (h:gN M x≠0):(x,gN M x)∈M:=by
 unfold gN at h ⊢;cases e:asc M x with
 | none=>rw[e]at h;exact absurd rfl h
 | some v=>exact asc_mem e
def Sub (a b:Nat):Prop:=∀t:Nat,a.testBit t=true->b.testBit t=true
theorem Sub.refl (a:Nat):Sub a a:=fun _ h=>h
theorem Sub.trans {a c:Nat} (h:Sub a b) (k:Sub b c):Sub a c:=fun t e=>k t (h t e)
theorem Sub.inl (a b:Nat):Sub a (a ||| b):=fun t h=>by rw[CA,h,Ds]
theorem Sub.inr (a b:Nat):Sub b (a ||| b):=fun t h=>by rw[CA,h,EG]
theorem Sub.ne {a:Nat} (h:Sub a b) (k:a≠0):b≠0:=by
 obtain⟨t,ht⟩:=Cv k;exact zbE (h t ht)
theorem Sub.of {a:Nat} (h:a ||| b=a):Sub b a:=fun t k=>by rw[<-h];exact Sub.inr a b t k
def MLe (M M':MP):Prop:=∀y,Sub (gN M y) (gN M' y)
theorem MLe.refl (M:MP):MLe M M:=fun _=>Sub.refl _
theorem MLe.or (M:MP) (x:Int×Int) (v:Nat):MLe M (orN M x v):=fun y=>by
 rw[zf8];split
 ·rename_i e;rw[e];exact Sub.inl _ _
 ·exact Sub.refl _
theorem or_has (M:MP) (x:Int×Int) (v:Nat):Sub v (gN (orN M x v) x):=by
 rw[zf8,Ap rfl];exact Sub.inr _ _
theorem zca {s j:Int}:∀ {e:List (Int×Int)},(e.map (·.1)).Nodup->(s,j)∈e->zmc e s=j
 | [],_,h=>by cases h
 | x::e,hn,h=>by
  rw[Bp,EA]at hn;unfold zmc;rw[List.find?_cons];by_cases hx:x.1=s
  ·rw[show(x.1==s)=true by simpa using hx];rcases Bq.1 h with e1|e1
   ·rw[<-e1];rfl
   ·exact absurd (Bi.2 ⟨(s,j),e1,hx.symm⟩) hn.1
  ·rw[show(x.1==s)=false by simpa using hx];rcases Bq.1 h with e1|e1
   ·exact absurd (by rw[<-e1]) hx
   ·exact zca hn.2 e1
def tof (E:List (List (Int×Int))) (q:Nat) (s:Int):Nat:=(zmc (E.getD q []) s).toNat
def fol (E:List (List (Int×Int))):Nat->List Int->Nat
 | q,[]=>q
 | q,s::r=>fol E (tof E q s) r
theorem fol_snoc {E:List (List (Int×Int))} {s:Int}:∀ {a:List Int} {q:Nat},fol E q (a++[s])=tof E (fol E q a) s
 | [],_=>rfl
 | _::a,_=>fol_snoc (a:=a)
section
variable {G:Gr} {K:List (List It)} {E:List (List (Int×Int))}
theorem keys_nd (h:Inv G K E) (hi:i<E.length):(E[i].map (·.1)).Nodup:=by
 rw[(h.ed i hi).1];exact(syms_nodup G).filter _
theorem zjX (h:Inv G K E) {j:Nat} (he:Ed E i s j):tof E i s=j:=by
 obtain⟨hi,he⟩:=he;unfold tof;rw[Ai,Ar hi,Bm,zca (keys_nd h hi) he];omega
theorem znh (aa:Ok G) {r:Int} (h:z∈sy G r):z<G.ts.length/\-1-z<G.ns.length:=by
 unfold sy at h;split at h
 ·rw[AF.1 h]
  have:=aa.s0;have:=aa.s1
  omega
 ·rcases Bz r.toNat G.rs.length with hk|hk
  ·rw[Ai,Ar hk,Bm]at h
   have:=(rule_in (aa.rr _ (Ay hk))).2.2.2 z h
   exact⟨this.1,this.2.1⟩
  ·rw[Ai,B6 hk,Option.getD_none]at h;cases h
theorem zme (aa:Ok G) {x:It} (hl:La G E i x t):0<=t/\t<=G.ts.length:=by
 induction hl with
 | st=>omega
 | bg i x t s _ hs h0 k hk hl u hu ih=>exact⟨zfr hu,Int.le_of_lt (zjt aa (fun z hz=>(znh aa (CS hz)).1) hu)⟩
 | nu i x t s _ hs h0 k hk hl hn ih=>exact ih
 | mv i x t s _ hs j he ih=>exact ih
def Wk (G:Gr) (E:List (List (Int×Int))) (i:Nat) (s t:Int):Prop:=∃x,nx G x=some s/\((Bg G t (rest G x)/\∃u,La G E i x u)\/Nu G (rest G x)/\La G E i x t)
theorem Wk.la (h:Wk G E i s t) (h0:s<0) (hk:k<G.rs.length) (hl:(G.rs[k]).l = -1-s):La G E i ((k:Int),0) t:=by
 obtain⟨x,hs,⟨hb,u,hu⟩|⟨hn,hu⟩⟩:=h
 ·exact .bg i x u s hu hs h0 k hk hl t hb
 ·exact .nu i x t s hu hs h0 k hk hl hn
theorem Wk.start (G:Gr) (E:List (List (Int×Int))):Wk G E 0 (-1-G.st) G.ts.length:=⟨(-1,0),rfl,.inr ⟨by have e:rest G (-1,0)=[]:=rfl;rw[e];exact nu_nil G,.st⟩⟩
noncomputable def ofV (G:Gr) (v:Nat) (r:List Int):Nat:=ofN (gn false G.rs G.ns.length) (fst G) v r
def PdD (G:Gr) (E:List (List (Int×Int))) (M:MP) (q v k d:Nat):Prop :=
 ∀hk:k<G.rs.length,∀d',d'<d->∀hd:d'<(G.rs[k]).r.length,(G.rs[k]).r[d']<0->Sub (ofV G v ((G.rs[k]).r.drop (d'+1))) (gN M ((fol E q ((G.rs[k]).r.take d'):Nat),(G.rs[k]).r[d']))
def PdE (G:Gr) (E:List (List (Int×Int))) (D:MP) (q v k:Nat):Prop:=∀hk:k<G.rs.length,Sub v (gN D ((fol E q (G.rs[k]).r:Nat),(k:Int)))
def PdK (G:Gr) (E:List (List (Int×Int))) (M D:MP) (q:Nat) (s:Int) (v n:Nat):Prop :=
 ∀k,∀hk:k<G.rs.length,k<n->(G.rs[k]).l = -1-s->PdD G E M q v k (G.rs[k]).r.length/\PdE G E D q v k
def Pd (G:Gr) (E:List (List (Int×Int))) (M D:MP) (x:Int×Int):Prop:=PdK G E M D x.1.toNat x.2 (gN M x) G.rs.length
theorem PdD.mono {M M':MP} {q v:Nat} (h:PdD G E M q v k d) (hm:MLe M M'):PdD G E M' q v k d:=fun hk d' hd hl h0=>(h hk d' hd hl h0).trans (hm _)
theorem PdE.mono {D D':MP} {q v:Nat} (h:PdE G E D q v k) (hm:MLe D D'):PdE G E D' q v k:=fun hk=>(h hk).trans (hm _)
theorem PdK.mono {M M' D D':MP} {q v n:Nat} {s:Int} (h:PdK G E M D q s v n) (hm:MLe M M') (hd:MLe D D'):PdK G E M' D' q s v n:=fun k hk hn hl=>⟨(h k hk hn hl).1.mono hm,(h k hk hn hl).2.mono hd⟩
theorem PdD.zero (M:MP) (q v k:Nat):PdD G E M q v k 0:=fun _ _ h=>absurd h (Nat.not_lt_zero _)
theorem PdD.step {M:MP} {q v:Nat} (h:PdD G E M q v k d) (hs:∀hk:k<G.rs.length,∀hd:d<(G.rs[k]).r.length,(G.rs[k]).r[d]<0->Sub (ofV G v ((G.rs[k]).r.drop (d+1))) (gN M ((fol E q ((G.rs[k]).r.take d):Nat),(G.rs[k]).r[d]))):PdD G E M q v k (d+1):=fun hk d' hd hl h0=>by
 by_cases e:d'=d
 ·subst e;exact hs hk hl h0
 ·exact h hk d' (by omega) hl h0
theorem PdK.zero (M D:MP) (q v:Nat) (s:Int):PdK G E M D q s v 0:=fun _ _ h=>absurd h (Nat.not_lt_zero _)
theorem PdK.step {M D:MP} {q v:Nat} (h:PdK G E M D q s v n) (hs:∀hk:n<G.rs.length,(G.rs[n]).l = -1-s->PdD G E M q v n (G.rs[n]).r.length/\PdE G E D q v n):PdK G E M D q s v (n+1):=fun k hk hn hl=>by
 by_cases e:k=n
 ·subst e;exact hs hk hl
 ·exact h k hk (by omega) hl
structure WB (G:Gr) (K:List (List It)) (E:List (List (Int×Int))) (M D:MP) (st:List (Int×Int)):Prop where
 mn:(M.map Prod.fst).Nodup
 mq:∀p∈M,∃i:Nat,i<K.length/\p.1.1=i/\p.1.2<0/\-1-p.1.2<G.ns.length/\p.2≠0/\p.2<4294967296
 ms:∀(i:Nat) (s:Int) (t:Nat),(gN M ((i:Int),s)).testBit t=true->Wk G E i s t
 dk:∀p∈D,p.2≠0/\p.2<4294967296
 ds:∀(i k t:Nat),(gN D ((i:Int),(k:Int))).testBit t=true->∃hk:k<G.rs.length,La G E i ((k:Int),((G.rs[k]).r.length:Int)) t
 s0:(gN M (0,-1-G.st)).testBit G.ts.length=true
 sk:∀x∈st,gN M x≠0
structure WI (G:Gr) (K:List (List It)) (E:List (List (Int×Int))) (M D:MP) (st:List (Int×Int)):Prop where
 b:WB G K E M D st
 cl:∀x,gN M x≠0->x∈st\/Pd G E M D x
structure WP (G:Gr) (K:List (List It)) (E:List (List (Int×Int))) (q:Nat) (s:Int) (v:Nat) (M D:MP) (st:List (Int×Int)):Prop where
 b:WB G K E M D st
 ot:∀x,x≠((q:Int),s)->gN M x≠0->x∈st\/Pd G E M D x
 me:((q:Int),s)∈st\/gN M ((q:Int),s)=v
 v0:v≠0
 vl:v<4294967296
 q1:q<K.length
 s1:s<0
 vs:∀t:Nat,v.testBit t=true->Wk G E q s t
theorem WB.lt {M D:MP} (h:WB G K E M D st) (x:Int×Int):gN M x<4294967296:=by
 by_cases e:gN M x=0
 ·omega
 ·obtain⟨_,_,_,_,_,_,h2⟩:=h.mq _ (zfe e);exact h2
theorem WB.dlt {M D:MP} (h:WB G K E M D st) (x:Int×Int):gN D x<4294967296:=by
 by_cases e:gN D x=0
 ·omega
 ·exact(h.dk _ (zfe e)).2
theorem zlT {a:Nat} (h:b≠0):a ||| b≠0:=(Sub.inr a b).ne h
theorem WB.visit {M D:MP} (h:WB G K E M D st) {more:Nat} (hi:i<K.length) (hz:z<0) (aa:-1-z<G.ns.length) (hm:more<4294967296) (h0:more≠0) (hw:∀t:Nat,more.testBit t=true->Wk G E i z t):WB G K E (orN M ((i:Int),z) more) D (st++[((i:Int),z)]):=by
 refine⟨zhl h.mn,fun p hp=>?_,fun i' s t ht=>?_,h.dk,h.ds,MLe.or M _ _ _ _ h.s0,fun x hx=>?_⟩
 ·rcases zen hp with hp|rfl
  ·exact h.mq p hp
  ·exact⟨i,hi,rfl,hz,aa,zlT h0,or32 (h.lt _) hm⟩
 ·rw[zf8]at ht;split at ht
  ·rename_i e
   injection e with e1 e2;have e1:i=i':=by omega
   subst e1 e2;rw[CA,CI]at ht;rcases ht with ht|ht
   ·exact h.ms _ _ _ ht
   ·exact hw t ht
  ·exact h.ms _ _ _ ht
 ·rcases Bj.1 hx with hx|hx
  ·exact(MLe.or M ((i:Int),z) more x).ne (h.sk x hx)
  ·rw[AF.1 hx];exact(or_has M ((i:Int),z) more).ne h0
theorem Pd.mono {M M' D D':MP} {x:Int×Int} (h:Pd G E M D x) (hm:MLe M M') (hd:MLe D D') (he:gN M' x=gN M x):Pd G E M' D' x:=by
 unfold Pd at h ⊢;rw[he];exact PdK.mono h hm hd
theorem WP.visit {q v:Nat} {s:Int} {M D:MP} {st:List (Int×Int)} (h:WP G K E q s v M D st) {i:Nat} {z:Int} {more:Nat} (hi:i<K.length) (hz:z<0) (aa:-1-z<G.ns.length) (hm:more<4294967296) (h0:more≠0) (hw:∀t:Nat,more.testBit t=true->Wk G E i z t):WP G K E q s v (orN M ((i:Int),z) more) D (st++[((i:Int),z)]):=by
 refine⟨h.b.visit hi hz aa hm h0 hw,fun x hx hn=>?_,?_,h.v0,h.vl,h.q1,h.s1,h.vs⟩
 ·by_cases e:((i:Int),z)=x
  ·exact .inl (Dg _ (by rw[e];exact AF.2 rfl))
  ·have he:gN (orN M ((i:Int),z) more) x=gN M x:=by rw[zf8,AB e]
   rw[he]at hn;rcases h.ot x hx hn with k|k
   ·exact .inl (C7 _ k)
   ·exact .inr (k.mono (MLe.or _ _ _) (MLe.refl _) he)
 ·by_cases e:((i:Int),z)=((q:Int),s)
  ·exact .inl (Dg _ (by rw[e];exact AF.2 rfl))
  ·rcases h.me with k|k
   ·exact .inl (C7 _ k)
   ·exact .inr (by rw[zf8,AB e];exact k)
theorem WP.put {q v:Nat} {M D:MP} (h:WP G K E q s v M D st) {j:Nat} (hk:k<G.rs.length) (hw:∀t:Nat,v.testBit t=true->La G E j ((k:Int),((G.rs[k]).r.length:Int)) t):WP G K E q s v M (orN D ((j:Int),(k:Int)) v) st:=by
 refine⟨⟨h.b.mn,h.b.mq,h.b.ms,fun p hp=>?_,fun i' k' t ht=>?_,h.b.s0,h.b.sk⟩,fun x hx hn=>?_,h.me,h.v0,h.vl,h.q1,h.s1,h.vs⟩
 ·rcases zen hp with hp|rfl
  ·exact h.b.dk p hp
  ·exact⟨zlT h.v0,or32 (h.b.dlt _) h.vl⟩
 ·rw[zf8]at ht;split at ht
  ·rename_i e
   injection e with e1 e2;have e1:j=i':=by omega
   have e2:k=k':=by omega
   subst e1 e2;rw[CA,CI]at ht;rcases ht with ht|ht
   ·exact h.b.ds _ _ _ ht
   ·exact⟨hk,hw t ht⟩
  ·exact h.b.ds _ _ _ ht
 ·rcases h.ot x hx hn with k|k
  ·exact .inl k
  ·exact .inr (k.mono (MLe.refl _) (MLe.or _ _ _) rfl)
theorem WI.take {M D:MP} {x:Int×Int} (h:WI G K E M D (st++[x])):∃(q:Nat),x=((q:Int),x.2)/\WP G K E q x.2 (gN M x) M D st:=by
 have hx:gN M x≠0:=h.b.sk x (Dg _ (AF.2 rfl));obtain⟨q,h1,h2,h3,h4,h5,h6⟩:=h.b.mq _ (zfe hx);have e:x=((q:Int),x.2):=Ew h2 rfl;refine⟨q,e,⟨⟨h.b.mn,h.b.mq,h.b.ms,h.b.dk,h.b.ds,h.b.s0,fun y hy=>h.b.sk y (C7 _ hy)⟩,fun y hy hn=>?_,.inr (by rw[<-e]),hx,h6,h1,h3,fun t ht=>h.b.ms q x.2 t (by rw[<-e];exact ht)⟩⟩;rcases h.cl y hn with k|k
 ·rcases Bj.1 k with k|k
  ·exact .inl k
  ·exact absurd ((AF.1 k).trans e) hy
 ·exact .inr k
theorem WP.done {q v:Nat} {M D:MP} (h:WP G K E q s v M D st) (hp:PdK G E M D q s v G.rs.length):WI G K E M D st:=by
 refine⟨h.b,fun x hn=>?_⟩;by_cases e:x=((q:Int),s)
 ·subst e;rcases h.me with k|k
  ·exact .inl k
  ·refine .inr ?_;unfold Pd;rw[k];exact hp
 ·exact h.ot x e hn
theorem WI.start (h0:0<K.length) (aa:Ok G) (ht:G.ts.length<=24):WI G K E [((0,-1-G.st),2 ^ G.ts.length)] [] [(0,-1-G.st)]:=by
 have hp:0<2 ^ G.ts.length:=Nat.pow_pos (by decide);have ac:2 ^ G.ts.length<=2 ^ 24:=B3 (by decide) ht
 have hg:∀x,gN [((0,-1-G.st),2 ^ G.ts.length)] x=if((0:Int),-1-G.st)=x then 2 ^ G.ts.length else 0:=fun x=>by
  unfold gN asc;split <;> rfl
 refine⟨⟨by simp,fun p ab=>?_,fun i s t ht=>?_,by simp,fun i k t ht=>?_,?_,fun x hx=>?_⟩,fun x hn=>?_⟩
 ·rw[AF.1 ab];refine⟨0,h0,rfl,?_,?_,?_,?_⟩
  ·have:=aa.s0;simp only;omega
  ·have:=aa.s1;simp only;omega
  ·simp only;omega
  ·simp only;omega
 ·rw[hg]at ht;split at ht
  ·rename_i e
   injection e with e1 e2;have e1:0=i:=by omega
   subst e1 e2;rw[Ck,AV]at ht;rw[<-ht];exact Wk.start G E
  ·simp at ht
 ·simp[gN,asc]at ht
 ·rw[hg,Ap rfl,Ck];simp
 ·rw[AF.1 hx,hg,Ap rfl];omega
 ·rw[hg]at hn;split at hn
  ·rename_i e
   exact .inl (AF.2 e.symm)
  ·exact absurd rfl hn
theorem zg1 (hk:k<G.rs.length):rest G ((k:Int),(d:Int))=(G.rs[k]).r.drop (d+1):=by
 unfold rest;simp only[zgF hk,BZ]
theorem nx_at (hk:k<G.rs.length) (h:nx G ((k:Int),(d:Int))=some s):∃hd:d<(G.rs[k]).r.length,(G.rs[k]).r[d]=s:=by
 unfold nx at h;simp only[zgF hk,BZ]at h;exact Ba.1 h
theorem zeY {x:It} (h1:x.1 = -1) (h2:0<=x.2) (h:nx G x=some s):x=(-1,0)/\s = -1-G.st/\rest G x=[]:=by
 have aa:=zlX h2 h;have ab:sy G x.1=[-1-G.st]:=by rw[h1];rfl
 rw[ab]at aa;have e2:x.2=0:=by simp at aa;omega
 have e:x=(-1,0):=Ew h1 e2;subst e;refine⟨rfl,?_,rfl⟩
 have:nx G (-1,0)=some (-1-G.st):=rfl
 rw[this]at h;injection h with h;exact h.symm
theorem WI.all {M D:MP} (h:WI G K E M D []) (hi:Inv G K E) (aa:Ok G) {q:Nat} {x:It} (hl:La G E q x t) :
  (x.1 = -1/\0<=x.2/\(x.2=0->q=0)/\t=G.ts.length) \/ ∃k,∃hk:k<G.rs.length,∃d q0 n:Nat,x=((k:Int),(d:Int))/\d<=(G.rs[k]).r.length/\t=(n:Int)/\fol E q0 ((G.rs[k]).r.take d)=q/\(gN M ((q0:Int),-1-(G.rs[k]).l)).testBit n=true:=by
 have key:∀(k:Nat) (hk:k<G.rs.length) (d q0 n:Nat) (q:Nat) (s:Int),d<=(G.rs[k]).r.length->fol E q0 ((G.rs[k]).r.take d)=q->(gN M ((q0:Int),-1-(G.rs[k]).l)).testBit n=true->nx G ((k:Int),(d:Int))=some s->s<0 ->
   Sub (ofV G (gN M ((q0:Int),-1-(G.rs[k]).l)) (rest G ((k:Int),(d:Int)))) (gN M ((q:Int),s)):=by
  intro k hk d q0 n q s hd hf hb hs h0;obtain⟨g,e⟩:=nx_at hk hs;rcases h.cl _ (zbE hb) with hc|hc
  ·cases hc
  ·have:=(hc k hk hk (by omega)).1 hk d g g (by rw[e];exact h0)
   rw[BZ,hf,e]at this;rw[zg1 hk];exact this
 induction hl with
 | st=>exact .inl ⟨rfl,by decide,fun _=>rfl,rfl⟩
 | bg i x t s _ hs h0 k hk hl u hu ih =>
  rcases ih with⟨h1,h2,_,_⟩|⟨k',f,d,q0,n,rfl,hd,rfl,hf,hb⟩
  ·rw[(zeY h1 h2 hs).2.2]at hu;exact absurd hu zjZ
  ·have hp:=zfr hu
   have:=key k' f d q0 n i s hd hf hb hs h0 u.toNat ((zaw aa.lin _ _ _).2 (.inl (by rw[Br hp];exact hu)))
   exact .inr ⟨k,hk,0,i,u.toNat,rfl,AX _,by omega,rfl,by rw[hl,show -1-(-1-s)=s by omega];exact this⟩
 | nu i x t s _ hs h0 k hk hl hn ih =>
  rcases ih with⟨h1,h2,h3,h4⟩|⟨k',f,d,q0,n,rfl,hd,rfl,hf,hb⟩
  ·obtain⟨rfl,rfl,_⟩:=zeY h1 h2 hs;obtain rfl:=h3 rfl;exact .inr ⟨k,hk,0,0,G.ts.length,rfl,AX _,h4,rfl,by rw[hl,show -1-(-1-(-1-G.st)) = -1-G.st by omega];exact h.b.s0⟩
  ·have:=key k' f d q0 n i s hd hf hb hs h0 n ((zaw aa.lin _ _ _).2 (.inr ⟨hn,hb⟩))
   exact .inr ⟨k,hk,0,i,n,rfl,AX _,rfl,rfl,by rw[hl,show -1-(-1-s)=s by omega];exact this⟩
 | mv i x t s _ hs j he ih =>
  rcases ih with⟨h1,h2,h3,h4⟩|⟨k',f,d,q0,n,rfl,hd,rfl,hf,hb⟩
  ·exact .inl ⟨h1,by show 0<=x.2+1;omega,fun e=>by have e:x.2+1=0:=e;omega,h4⟩
  ·obtain⟨g,e⟩:=nx_at f hs;refine .inr ⟨k',f,d+1,q0,n,by rw[Int.natCast_succ],g,rfl,?_,hb⟩;rw[AO g,fol_snoc,hf,e];exact zjX hi he
theorem WI.ends {M D:MP} (h:WI G K E M D []) (hi:Inv G K E) (aa:Ok G) (hk:k<G.rs.length) (t:Nat):(gN D ((i:Int),(k:Int))).testBit t=true↔La G E i ((k:Int),((G.rs[k]).r.length:Int)) t:=by
 constructor
 ·intro ht;exact(h.b.ds i k t ht).2
 ·intro hl;rcases h.all hi aa hl with⟨h1,_⟩|⟨k',ab,d,q0,n,e,hd,en,hf,hb⟩
  ·simp only at h1;omega
  ·injection e with e1 e2;have e1:k=k':=by omega
   subst e1;have e2:(G.rs[k]).r.length=d:=by omega
   have en:t=n:=by omega
   subst e2 en;rw[Bo]at hf;rcases h.cl _ (zbE hb) with hc|hc
   ·cases hc
   ·have:=(hc k hk hk (by omega)).2 hk t hb
    rw[BZ,hf]at this;exact this
noncomputable def laN (G:Gr) (E:List (List (Int×Int))) (q:Nat) (x:It):Nat:=zkE (fun t=>La G E q x (t:Int)) (G.ts.length+1)
theorem zhx (aa:Ok G) (q:Nat) (x:It) (t:Nat):(laN G E q x).testBit t=true↔La G E q x t:=by
 unfold laN;rw[ze2];exact⟨fun h=>h.2,fun h=>⟨by have:=(zme aa h).2;omega,h⟩⟩
theorem laN_lt (ht:G.ts.length<=24) (q:Nat) (x:It):laN G E q x<4294967296:=by
 have h1:=zkD (fun t=>La G E q x (t:Int)) (G.ts.length+1);have h2:2 ^ (G.ts.length+1)<=2 ^ 25:=B3 (by decide) (by omega);unfold laN;omega
def en (G:Gr) (k:Nat):It:=((k:Int),((sy G (k:Int)).length:Int))
noncomputable def lkAt (G:Gr) (K:List (List It)) (E:List (List (Int×Int))) (q k:Nat):Option Nat:=if tr (en G k∈clo G (K.getD q []))=true then some (laN G E q (en G k)) else none
noncomputable def lkRow (G:Gr) (K:List (List It)) (E:List (List (Int×Int))) (q:Nat):List (Int×Int):=(List.range G.rs.length).filterMap fun k=>(lkAt G K E q k).map fun v=>((k:Int),(v:Int))
theorem znQ (hk:k<G.rs.length):en G k=((k:Int),((G.rs[k]).r.length:Int)):=by unfold en;rw[zgF hk]
theorem WI.at {M D:MP} (h:WI G K E M D []) (hi:Inv G K E) (hE:E.length=K.length) (aa:Ok G) (hp:∀x∈G.rs,Al true G.rs x.r) {i k:Nat} (ab:i<K.length) (hk:k<G.rs.length):asc D ((i:Int),(k:Int))=lkAt G K E i k:=by
 have hb:∀t:Nat,(gN D ((i:Int),(k:Int))).testBit t=true↔La G E i (en G k) t:=fun t=>by rw[znQ hk];exact h.ends hi aa hk t
 have hv:gN D ((i:Int),(k:Int))=laN G E i (en G k):=CM fun t=>Bn.2 ((hb t).trans (zhx aa i _ t).symm);unfold lkAt;cases e:asc D ((i:Int),(k:Int)) with
 | none =>
  have h0:gN D ((i:Int),(k:Int))=0:=by unfold gN;rw[e];rfl
  rw[AB];intro hm;obtain⟨t,ht⟩:=zmf hi hE hp i ab _ (tr_iff.1 hm);have h1:=(zme aa ht).1
  have:=(hb t.toNat).2 (by rw[Br h1];exact ht)
  rw[h0,CV]at this;cases this
 | some v =>
  have h0:gN D ((i:Int),(k:Int))=v:=by unfold gN;rw[e];rfl
  have ac:=(h.b.dk _ (asc_mem e)).1;obtain⟨t,ht⟩:=Cv ac;simp only at ht;have hl:=(hb t).1 (by rw[h0];exact ht);rw[Ap (tr_iff.2 (la_in hi hl).2),<-hv,h0]
theorem WB.cnt {M D:MP} (h:WB G K E M D st):cntM M<=K.length*G.ns.length*32:=by
 have h1:∀l:List ((Int×Int)×Nat),(l.map fun p=>pc p.2).sum<=l.length*32:=by
  intro l;induction l with
  | nil=>simp
  | cons p l ih =>
   have:=znw p.2
   simp only[Bp,Ex,Bt];omega
 have h2:=h1 M
 have h3:(M.map Prod.fst).length<=((List.range K.length).flatMap fun i:Nat=>(List.range G.ns.length).map fun j:Nat=>(((i:Int),-1-(j:Int)):Int×Int)).length:=zaZ h.mn fun x hx=>by
  obtain⟨p,hp,rfl⟩:=Bi.1 hx;obtain⟨i,k1,k2,k3,k4,_⟩:=h.mq p hp;refine CK.2 ⟨i,BF.2 k1,Bi.2 ⟨(-1-p.1.2).toNat,BF.2 (by omega),?_⟩⟩;refine Ew k2.symm ?_;simp only;omega
 have h4:((List.range K.length).flatMap fun i:Nat=>(List.range G.ns.length).map fun j:Nat=>(((i:Int),-1-(j:Int)):Int×Int)).length=K.length*G.ns.length:=by
  rw[List.length_flatMap]
  have:∀(f:Nat->List (Int×Int)) (n m:Nat),(∀i,(f i).length=m)->((List.range n).map fun i=>(f i).length).sum=n*m:=fun f n m hf=>by
   induction n with
   | zero=>simp
   | succ n ih=>rw[Cp,AW,List.sum_append,ih,Nat.succ_mul];simp[hf]
  exact this _ _ _ fun i=>by simp
 rw[Bb,h4]at h3
 have:=DK 32 h3
 unfold cntM;omega
theorem zfo {M:MP} {x:Int×Int} {v:Nat} (hx:gN M x<4294967296) (hv:v<4294967296) (h:gN M x ||| v≠gN M x):cntM M<cntM (orN M x v):=by
 have h1:=zh1 (x:=x) (v:=gN M x ||| v) (M:=M);have h2:=zhc hx hv h;unfold orN;omega
end
end Lk
end Go.Proofs.YtjjbaehamplnaaaGreat
namespace Go.Proofs.YtjjbaehamplnaaaGreat
open Go.RowKit
def vM (MM:Lk.MP) (x:Int×Int) (more:Nat):Lk.MP:=if Lk.gN MM x ||| more=Lk.gN MM x then MM else Lk.orN MM x more
def vS (MM:Lk.MP) (st:List (Int×Int)) (x:Int×Int) (more:Nat):List (Int×Int):=if Lk.gN MM x ||| more=Lk.gN MM x then st else st++[x]
namespace Lk
open Au Gm Go.Mw
structure On (MM DD:MP) (st:List (Int×Int)) (MM' DD':MP) (st':List (Int×Int)):Prop where
 m:MLe MM MM'
 d:MLe DD DD'
 c:cntM MM<=cntM MM'
 l:st'.length+cntM MM<=st.length+cntM MM'
theorem MLe.trans {a b c:MP} (h:MLe a b) (k:MLe b c):MLe a c:=fun y=>(h y).trans (k y)
theorem On.refl (MM DD:MP) (st:List (Int×Int)):On MM DD st MM DD st:=⟨MLe.refl _,MLe.refl _,Ad _,Ad _⟩
theorem On.trans {M1 D1 M2 D2 M3 D3:MP} {s1 s2 s3:List (Int×Int)} (h:On M1 D1 s1 M2 D2 s2) (k:On M2 D2 s2 M3 D3 s3):On M1 D1 s1 M3 D3 s3 :=
 ⟨h.m.trans k.m,h.d.trans k.d,Ag h.c k.c,by have:=h.l;have:=k.l;omega⟩
section
variable {G:Gr} {K:List (List It)} {E:List (List (Int×Int))}
theorem WP.vis {q v:Nat} {M D:MP} (h:WP G K E q s v M D st) {more:Nat} (hi:i<K.length) (hz:z<0) (aa:-1-z<G.ns.length) (hm:more<4294967296) (h0:more≠0) (hw:∀t:Nat,more.testBit t=true->Wk G E i z t) :
  WP G K E q s v (vM M ((i:Int),z) more) D (vS M st ((i:Int),z) more)/\On M D st (vM M ((i:Int),z) more) D (vS M st ((i:Int),z) more)/\Sub more (gN (vM M ((i:Int),z) more) ((i:Int),z)):=by
 unfold vM vS;by_cases e:gN M ((i:Int),z) ||| more=gN M ((i:Int),z)
 ·rw[Ap e,Ap e];exact⟨h,On.refl _ _ _,Sub.of e⟩
 ·rw[AB e,AB e];refine⟨h.visit hi hz aa hm h0 hw,⟨MLe.or _ _ _,MLe.refl _,CB (zfo (h.b.lt _) hm e),?_⟩,or_has _ _ _⟩
  have:=zfo (h.b.lt ((i:Int),z)) hm e
  rw[AU,BQ];omega
theorem on_put {M D:MP} (x:Int×Int) (v:Nat):On M D st M (orN D x v) st:=⟨MLe.refl _,MLe.or _ _ _,Ad _,Ad _⟩
theorem WP.at0 {q v:Nat} {M D:MP} (h:WP G K E q s v M D st) (hk:k<G.rs.length) (hl:(G.rs[k]).l = -1-s):∀t:Nat,v.testBit t=true->La G E q ((k:Int),((0:Nat):Int)) t:=fun t ht=>(h.vs t ht).la h.s1 hk hl
theorem WI.take_lt {M D:MP} {x:Int×Int} (h:WI G K E M D (st++[x])):-1-x.2<G.ns.length:=by
 have hx:gN M x≠0:=h.b.sk x (Dg _ (AF.2 rfl));obtain⟨q,h1,h2,h3,h4,h5,h6⟩:=h.b.mq _ (zfe hx);exact h4
theorem pc_pos {P:Nat} (h:P<4294967296) (h0:P≠0) (x:Int×Int):1<=cntM [(x,P)]:=by
 have:=zhc (a:=0) (v:=P) (by decide) h (by rw[Nat.zero_or];exact h0)
 rw[Nat.zero_or]at this;unfold cntM;simp only[Bp,CU,Ex,List.sum_nil];omega
theorem at_next (hi:Inv G K E) (hE:E.length=K.length) (ab:Ok G) {a v:Nat} (hv:v≠0) (hk:k<G.rs.length) (hd:d<(G.rs[k]).r.length) (aa:∀t:Nat,v.testBit t=true->La G E a ((k:Int),(d:Int)) t) :
  a<K.length/\nx G ((k:Int),(d:Int))=some (G.rs[k]).r[d]/\∃j:Nat,Ed E a (G.rs[k]).r[d] j/\tof E a (G.rs[k]).r[d]=j/\∀t:Nat,v.testBit t=true->La G E j ((k:Int),((d+1:Nat):Int)) t:=by
 obtain⟨t,ht⟩:=Cv hv;obtain⟨h1,h2⟩:=la_in hi (aa t ht)
 have hs:nx G ((k:Int),(d:Int))=some (G.rs[k]).r[d]:=by
  unfold nx;simp only[zgF hk,BZ];exact Ar hd
 obtain⟨j,he,_⟩:=hi.edge hE ab h1 h2 hs;exact⟨h1,hs,j,he,zjX hi he,fun t ht=>La.mv a _ t _ (aa t ht) hs j he⟩
theorem zlW (aa:Ok G) (ht:G.ts.length<=24) {v:Nat} (hv:v<4294967296) (hr:∀z∈r,z<G.ts.length):ofV G v r<4294967296:=by
 have h1:∀t:Nat,(ofV G v r).testBit t=true->t<32:=fun t k=>by
  rcases(zaw aa.lin _ _ _).1 k with k|k
  ·have:=zjt aa hr k;omega
  ·rcases Bz t 32 with q|q
   ·exact q
   ·have:v<2 ^ t:=Ao hv (by have:=B3 (n:=2) (by decide) q;omega)
    rw[Dr this]at k;cases k.2
 have:ofV G v r<2 ^ 32:=Er _ fun i hi=>by
  cases q:(ofV G v r).testBit i
  ·rfl
  ·have:=h1 i q;omega
 omega
theorem at_more (b:Ok G) (ht:G.ts.length<=24) (hp:∀x∈G.rs,Al true G.rs x.r) {a v:Nat} (hv:v≠0) (ab:v<4294967296) (hk:k<G.rs.length) (hd:d<(G.rs[k]).r.length) (hs:nx G ((k:Int),(d:Int))=some (G.rs[k]).r[d]) (aa:∀t:Nat,v.testBit t=true->La G E a ((k:Int),(d:Int)) t) :
  ofV G v ((G.rs[k]).r.drop (d+1))<4294967296/\ofV G v ((G.rs[k]).r.drop (d+1))≠0/\∀t:Nat,(ofV G v ((G.rs[k]).r.drop (d+1))).testBit t=true->Wk G E a (G.rs[k]).r[d] t:=by
 have ac:∀z∈(G.rs[k]).r.drop (d+1),z<G.ts.length:=fun z hz=>((rule_in (b.rr _ (Ay hk))).2.2.2 z (CS hz)).1;refine⟨zlW b ht ab ac,?_,fun t k2=>⟨_,hs,?_⟩⟩
 ·rcases zla (G:=G) (r:=(G.rs[k]).r.drop (d+1)) (fun y hy ad=>(hp _ (Ay hk)).2 y (CS hy) ad) with h|⟨u,hu⟩
  ·obtain⟨t,ht⟩:=Cv hv;exact zbE ((zaw b.lin _ t _).2 (.inr ⟨h,ht⟩))
  ·have h1:=zfr hu;exact zbE (t:=u.toNat) ((zaw b.lin _ _ _).2 (.inl (by rw[Br h1];exact hu)))
 ·rw[zg1 hk];rcases(zaw b.lin _ _ _).1 k2 with h|h
  ·obtain⟨u,hu⟩:=Cv hv;exact .inl ⟨h,_,aa u hu⟩
  ·exact .inr ⟨h.1,aa t h.2⟩
end
end Lk
end Go.Proofs.YtjjbaehamplnaaaGreat
namespace Go.Proofs.YtjjbaehamplnaaaGreat
open Go.RowKit
def bA (t:TypeId) (w:World) (a:Array Value) (wr:World):Prop:=Below (w.heap.size+1) (w.alloc (.cells a t)) wr
section
variable {t:TypeId} {w wr wt:World} {a:Array Value}
theorem bA.start (t:TypeId) (w:World) (a:Array Value):bA t w a (w.alloc (.cells a t)):=Aq _ _
theorem bA.size (h:bA t w a wr):w.heap.size+1<=wr.heap.size:=by have:=Below.size h;simpa using this
theorem bA.below (h:bA t w a wr):Below w.heap.size w wr:=((Aq w.heap.size w).alloc (Ad _) _).trans (Below.mono h (by omega))
theorem bA.on (h:bA t w a wr) (k:Below wr.heap.size wr wt):bA t w a wt:=Below.trans h (k.mono h.size)
theorem bA.drewN (h:bA t w a wr) (n:Nat):bA t w a (wr.drewN n):=aB h n
theorem bA.alloc (h:bA t w a wr) (o:Obj):bA t w a (wr.alloc o):=Below.alloc h h.size o
theorem bA.c (h:bA t w a wr) (j:Nat) (u:Value) (hj:a[j]?=some u):wr.cell? ⟨w.heap.size,j,none⟩=some u:=by
 have b0:=(Ei h w.heap.size (by omega)).trans (Az w _);exact(Aw wr _ j _ _ _ b0).trans hj
end
def aW (t1 t2:TypeId) (w:World) (a b:Array Value) (wr:World):Prop:=Below (w.heap.size+2) ((w.alloc (.cells a t1)).alloc (.cells b t2)) wr
section
variable {t1 t2:TypeId} {w wr wt:World} {a b:Array Value}
theorem aW.start (t1 t2:TypeId) (w:World) (a b:Array Value):aW t1 t2 w a b ((w.alloc (.cells a t1)).alloc (.cells b t2)):=Aq _ _
theorem aW.size (h:aW t1 t2 w a b wr):w.heap.size+2<=wr.heap.size:=by have:=Below.size h;simpa using this
theorem aW.below (h:aW t1 t2 w a b wr):Below w.heap.size w wr:=(((Aq w.heap.size w).alloc (Ad _) _).alloc (by simp) _).trans (Below.mono h (by omega))
theorem aW.on (h:aW t1 t2 w a b wr) (k:Below wr.heap.size wr wt):aW t1 t2 w a b wt:=Below.trans h (k.mono h.size)
theorem aW.drewN (h:aW t1 t2 w a b wr) (n:Nat):aW t1 t2 w a b (wr.drewN n):=aB h n
theorem aW.alloc (h:aW t1 t2 w a b wr) (o:Obj):aW t1 t2 w a b (wr.alloc o):=Below.alloc h h.size o
theorem aW.c1 (h:aW t1 t2 w a b wr) (j:Nat) (u:Value) (hj:a[j]?=some u):wr.cell? ⟨w.heap.size,j,none⟩=some u:=by
 have b0:=(Ei h w.heap.size (by omega)).trans ((BI _ _ _ (by simp)).trans (Az w (.cells a t1)));exact(Aw wr _ j _ _ _ b0).trans hj
theorem aW.c2 (h:aW t1 t2 w a b wr) (j:Nat) (u:Value) (hj:b[j]?=some u):wr.cell? ⟨w.heap.size+1,j,none⟩=some u:=by
 have e:=Az (w.alloc (.cells a t1)) (.cells b t2);rw[show(w.alloc (.cells a t1)).heap.size=w.heap.size+1 by simp]at e;have b0:=(Ei h (w.heap.size+1) (by omega)).trans e;exact(Aw wr _ j _ _ _ b0).trans hj
end
end Go.Proofs.YtjjbaehamplnaaaGreat
namespace Go.Proofs.YtjjbaehamplnaaaGreat
open Go.ChangeShapes Go.WideShapes Go.Deep Go.RowKit Go.Joins
section
variable {H:Type} {enc:TypeId×Value->H} {P:Program} {w:World} {base:Nat} {spare:Nat->Bool} {held:Bool}
theorem zb6 {t e:TypeId} {fs:Array Field} {cs:List Value} {x:DataW H×List MemPlace} (ht:P.underlying t=some (.slice e)) (he:P.underlying e=some (.struct fs)) (ac:oneCellFields P fs=true) (hC:P.cellsOf e=fs.size) (h:DataW.trod enc P w base spare held fuel t cs=some x) :
  cs=[.slice none 0 0] \/
  ∃(a:Addr) (len cap:Nat),cs=[.slice (some a) len cap]/\len<=cap/\cap<=maxLen /\
   ∀i,i<len->∀(j:Nat) (f:Field),fs[j]?=some f->∃(v:Value) (y:DataW H×List MemPlace) (n:Nat),w.cell? (a.add (i*fs.size+j))=some v/\DataW.trod enc P w base spare held n f.type [v]=some y:=by
 rcases open_slice ht h with h0|⟨a,len,cap,m,n,D,Pl,ad,hb,hl,hm,ae,hx,hi⟩
 ·exact .inl h0.1
 ·refine .inr ⟨a,len,cap,ad,hl,hm,fun i ak j f hj=>?_⟩;obtain⟨cs',hc,af⟩:=hi i (by rw[ae];split <;> omega);rw[hC]at hc;obtain⟨ys,n',al,hy,ag,am,hf⟩:=DataW.trod_struct he af;obtain⟨_,ao,ah⟩:=World.cells?_some hc;obtain⟨ho,hk⟩:=hone_of ac j f hj;have ai:j<fs.size:=(Ac.1 hj).1;have aa:=ah j ai;have hv:cs'[j]?=some (cs'[j]'(by omega)):=Ar (by omega);have h1:=hf j f hj;rw[ho,hk]at h1
  have ab:(cs'.drop j).take 1=[cs'[j]'(by omega)]:=by
   rw[Bx (by omega)];rfl
  rw[ab]at h1;have aj:ys[j]?=some (ys[j]'(by omega)):=Ar (by omega);refine⟨_,_,n',?_,h1.trans aj⟩;rw[<-Go.Deep.add_add,aa,hv]
theorem zap {a:Addr} (h:w.cell? (a.add k)=some v) (hk:k=0):a=⟨a.block,a.off,none⟩:=by
 subst hk;obtain⟨b,o,s⟩:=a;obtain rfl:s=none:=by simpa[Addr.add] using World.cell?_spot h
 rfl
theorem ziS {t e:TypeId} {f0 f1 f2:Field} {cs:List Value} {x:DataW H×List MemPlace} (ht:P.underlying t=some (.slice e)) (he:P.underlying e=some (.struct #[f0,f1,f2])) (ab:oneCellFields P #[f0,f1,f2]=true) (hC:P.cellsOf e=3) (h0:P.underlying f0.type=some .string) (h1:P.underlying f1.type=some (.int .i64)) (h2:P.underlying f2.type=some (.int .i64)) (h:DataW.trod enc P w base spare held fuel t cs=some x) :
  ∃A n c ts,cs=[.slice A n c]/\n=ts.length/\n<=c/\c<=9223372036854775807/\zeE w w.heap.size A ts/\∀x∈ts,K.Tx x.nm/\Gm.In x.lv/\Gm.In x.wy:=by
 rcases zb6 ht he ab hC h with rfl|⟨a,len,cap,rfl,hl,hm,hi⟩
 ·exact⟨none,0,0,[],rfl,rfl,Ad _,by omega,fun h=>absurd rfl h,fun x hx=>by simp at hx⟩
 ·have hp:∀i,i<len->∃t:Gm.Tm,(w.cell? (a.add (i*3))=some (.string (K.str t.nm))/\w.cell? (a.add (i*3+1))=some (.int .i64 t.lv)/\w.cell? (a.add (i*3+2))=some (.int .i64 t.wy))/\K.Tx t.nm/\Gm.In t.lv/\Gm.In t.wy:=fun i ac=>by
   obtain⟨v0,y0,n0,c0,t0⟩:=hi i ac 0 f0 rfl;obtain⟨v1,y1,n1,c1,t1⟩:=hi i ac 1 f1 rfl;obtain⟨v2,y2,n2,c2,t2⟩:=hi i ac 2 f2 rfl;obtain⟨s,e0,_,ad⟩:=DataW.trod_string h0 t0;obtain⟨z1,e1,_,w1⟩:=Dw h1 t1;obtain⟨z2,e2,_,w2⟩:=Dw h2 t2;injection e0 with e0;injection e1 with e1;injection e2 with e2;subst e0 e1 e2;obtain⟨l,hl,rfl⟩:=K.txt s ad;exact⟨⟨l,z1,z2⟩,⟨c0,c1,c2⟩,hl,DY w1,DY w2⟩
  obtain⟨ts,ae,aa⟩:=zbx len _ hp;refine⟨some a,len,cap,ts,rfl,ae.symm,hl,by unfold maxLen at hm;omega,fun hn=>?_,fun x hx=>?_⟩
  ·have ha:=zap (aa 0 (by omega)).1.1 (Nat.zero_mul 3);refine⟨a.block,a.off,congrArg some ha,?_,fun i hi=>?_⟩
   ·have:=Bd (aa 0 (by omega)).1.1
    simpa[Addr.add] using this
   ·have:=(aa i hi).1
    rw[ha,add_plain,add_plain,add_plain]at this;exact this
  ·obtain⟨i,hi,rfl⟩:=BB hx;exact(aa i hi).2
theorem ziU {t e u:TypeId} {f0 f1 f2:Field} {cs:List Value} {x:DataW H×List MemPlace} (ht:P.underlying t=some (.slice e)) (he:P.underlying e=some (.struct #[f0,f1,f2])) (ac:oneCellFields P #[f0,f1,f2]=true) (hC:P.cellsOf e=3) (h0:P.underlying f0.type=some (.int .i64)) (h1:P.underlying f1.type=some (.slice u)) (hu:P.underlying u=some (.int .i64)) (af:P.cellsOf u=1) (h2:P.underlying f2.type=some (.int .i64)) (h:DataW.trod enc P w base spare held fuel t cs=some x) :
  ∃A n c rs,cs=[.slice A n c]/\n=rs.length/\n<=c/\c<=9223372036854775807/\zd3 w w.heap.size A rs/\∀x∈rs,Gm.In x.l/\Gm.In x.p/\∀z∈x.r,Gm.In z:=by
 rcases zb6 ht he ac hC h with rfl|⟨a,len,cap,rfl,hl,hm,hi⟩
 ·exact⟨none,0,0,[],rfl,rfl,Ad _,by omega,fun h=>absurd rfl h,fun x hx=>by simp at hx⟩
 ·have hp:∀i,i<len->∃t:Gm.Rl,(w.cell? (a.add (i*3))=some (.int .i64 t.l)/\(∃A' c',w.cell? (a.add (i*3+1))=some (.slice A' t.r.length c')/\t.r.length<=c'/\c'<=9223372036854775807/\RdI w w.heap.size A' t.r)/\w.cell? (a.add (i*3+2))=some (.int .i64 t.p))/\Gm.In t.l/\Gm.In t.p/\∀z∈t.r,Gm.In z:=fun i ad=>by
   obtain⟨v0,y0,n0,c0,t0⟩:=hi i ad 0 f0 rfl;obtain⟨v1,y1,n1,c1,t1⟩:=hi i ad 1 f1 rfl;obtain⟨v2,y2,n2,c2,t2⟩:=hi i ad 2 f2 rfl;obtain⟨z0,e0,_,w0⟩:=Dw h0 t0;obtain⟨z2,e2,_,w2⟩:=Dw h2 t2;injection e0 with e0;injection e2 with e2;subst e0 e2;rcases open_ints h1 hu af t1 with⟨b,_⟩|⟨x,l,c,zs,b,_,hl,hm,hz,hx,aa,ag⟩
   ·injection b with b;subst b;exact⟨⟨z0,[],z2⟩,⟨c0,⟨none,0,c1,Ad _,by omega,RdI.nil _ _ _⟩,c2⟩,DY w0,DY w2,fun z hz=>by simp at hz⟩
   ·injection b with b;subst b;have ak:l<=zs.length:=by rw[hz];split <;> omega
    refine⟨⟨z0,zs.take l,z2⟩,⟨c0,⟨some x,c,?_,?_,by unfold maxLen at hm;omega,fun hn=>?_⟩,c2⟩,DY w0,DY w2,fun z hz=>DY (ag z (List.mem_of_mem_take hz))⟩
    ·have ah:(zs.take l).length=l:=by rw[Bc];omega
     show w.cell? (a.add (i*3+1))=some (.slice (some x) (zs.take l).length c)
     rw[ah];exact c1
    ·show(zs.take l).length<=c
     rw[Bc];omega
    ·have ae:0<zs.length:=by simp at hn;omega
     have ha:=zap (aa 0 ae) rfl;refine⟨x.block,x.off,congrArg some ha,?_,fun j hj=>?_⟩
     ·have:=Bd (aa 0 ae)
      simpa[Addr.add] using this
     ·have ai:j<l:=by simp at hj;omega
      have h1:=aa j (by omega);rw[ha,add_plain]at h1;rw[h1];simp only[List.getD,List.getElem?_take];rw[Ap ai]
  obtain⟨ts,aj,ab⟩:=zbx len _ hp;refine⟨some a,len,cap,ts,rfl,aj.symm,hl,by unfold maxLen at hm;omega,fun hn=>?_,fun x hx=>?_⟩
  ·have ha:=zap (ab 0 (by omega)).1.1 (Nat.zero_mul 3);refine⟨a.block,a.off,congrArg some ha,?_,fun i hi=>?_⟩
   ·have:=Bd (ab 0 (by omega)).1.1
    simpa[Addr.add] using this
   ·have:=(ab i hi).1
    rw[ha,add_plain,add_plain,add_plain]at this;exact this
  ·obtain⟨i,hi,rfl⟩:=BB hx;exact(ab i hi).2
theorem ziR {t e:TypeId} {cs:List Value} {x:DataW H×List MemPlace} (ht:P.underlying t=some (.slice e)) (he:P.underlying e=some .string) (hC:P.cellsOf e=1) (h:DataW.trod enc P w base spare held fuel t cs=some x) :
  ∃A n c ns,cs=[.slice A n c]/\n=ns.length/\n<=c/\c<=9223372036854775807/\RdN w w.heap.size A ns/\∀x∈ns,K.Tx x:=by
 rcases open_strings ht he hC h with⟨ac,_⟩|⟨x,l,c,ss,ac,_,hl,hm,hz,_,aa,ad⟩
 ·exact⟨none,0,0,[],ac,rfl,Ad _,by omega,fun h=>absurd rfl h,fun x hx=>by simp at hx⟩
 ·have af:l<=ss.length:=by rw[hz];split <;> omega
  have hp:∀i,i<l->∃t:List Int,w.cell? (x.add i)=some (.string (K.str t))/\K.Tx t:=fun i hi=>by
   obtain⟨t,ht,he⟩:=K.txt (ss.getD i ByteArray.empty) (ad _ (by rw[Ai,Ar (by omega)];exact Ay _));exact⟨t,by rw[aa i (by omega),he],ht⟩
  obtain⟨ns,ae,ab⟩:=zbx l _ hp;refine⟨some x,l,c,ns,ac,ae.symm,hl,by unfold maxLen at hm;omega,fun hn=>?_,fun y hy=>?_⟩
  ·have ha:=zap (ab 0 (by omega)).1 rfl;refine⟨x.block,x.off,congrArg some ha,?_,fun j hj=>?_⟩
   ·have:=Bd (ab 0 (by omega)).1
    simpa[Addr.add] using this
   ·have h1:=(ab j hj).1;rw[ha,add_plain]at h1;exact h1
  ·obtain⟨i,hi,rfl⟩:=BB hy;exact(ab i hi).2
theorem zhg {r:Reach} {b0:Nat} {t e1 e2 e3 u:TypeId} {f0 f1 f2 f3 x0 x1 x2 y0 y1 y2:Field} {d:DataW H} {p:List MemPlace} (hs:P.underlying t=some (.struct #[f0,f1,f2,f3])) (aa:oneCellFields P #[f0,f1,f2,f3]=true) (hC:P.cellsOf t=4) (ab:P.underlying f0.type=some (.slice e1)) (ac:P.underlying e1=some (.struct #[x0,x1,x2])) (ad:oneCellFields P #[x0,x1,x2]=true) (ae:P.cellsOf e1=3) (af:P.underlying x0.type=some .string) (ag:P.underlying x1.type=some (.int .i64)) (ah:P.underlying x2.type=some (.int .i64)) (ai:P.underlying f1.type=some (.slice e2)) (aj:P.underlying e2=some .string) (ak:P.cellsOf e2=1) (al:P.underlying f2.type=some (.slice e3)) (am:P.underlying e3=some (.struct #[y0,y1,y2])) (ao:oneCellFields P #[y0,y1,y2]=true) (ap:P.cellsOf e3=3) (aq:P.underlying y0.type=some (.int .i64)) (ar:P.underlying y1.type=some (.slice u)) (hu:P.underlying u=some (.int .i64)) (au:P.cellsOf u=1) (av:P.underlying y2.type=some (.int .i64)) (aw:P.underlying f3.type=some (.int .i64)) (hv:Value.okWide P w r b0 t v) (h:DataW.Trod enc P w base spare held t v d p) :
  ∃G,aQ w w.heap.size v G/\Gm.Fit G:=by
 obtain⟨v0,v1,v2,v3,y0',y1',y2',y3',n,rfl,_,_,k0,k1,k2,k3⟩:=open_agg4 hs aa hC hv h;obtain⟨AT,nT,cT,ts,e0,ax,l0,m0,r0,w0⟩:=ziS ab ac ad ae af ag ah k0;obtain⟨AR,nR,cR,rs,e2',ay,l2,m2,r2,w2⟩:=ziU al am ao ap aq ar hu au av k2;obtain⟨z,e3',_,w3⟩:=Dw aw k3;obtain⟨AN,nN,cN,ns,e1',az,l1,m1,r1,w1⟩:=ziR ai aj ak k1;injection e0 with e0;injection e1' with e1';injection e2' with e2';injection e3' with e3';subst e0 e1' e2' e3' ax az ay;exact⟨⟨ts,ns,rs,z⟩,⟨AT,cT,AN,cN,AR,cR,rfl,⟨l0,m0⟩,⟨l1,m1⟩,⟨l2,m2⟩,r0,r1,r2⟩,⟨w0,w1,w2,DY w3⟩⟩
end
end Go.Proofs.YtjjbaehamplnaaaGreat
