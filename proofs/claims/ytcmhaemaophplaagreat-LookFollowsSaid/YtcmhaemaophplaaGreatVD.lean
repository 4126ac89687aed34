/- Part of the proofs over this program: LookL, FirstN, FirstP, LookR, CycleL, MapX, AutoP, AutoQ, AutoC, LookW, LookX, OneT. -/
import Derived.WideKeyEntry
import Derived.Test.YtcmhaemaophplaaGreatVC
namespace Go.Proofs.YtcmhaemaophplaaGreat
set_option maxRecDepth 100000
set_option maxHeartbeats 40000000
open Go.RowKit
namespace Au
def rest (G:Gm.Gr) (x:It):List Int:=(sy G x.1).drop (x.2.toNat+1)
def Ed (E:List (List (Int×Int))) (i:Nat) (s:Int) (j:Nat):Prop:=∃h:i<E.length,(s,(j:Int))∈E[i]
inductive La (G:Gm.Gr) (E:List (List (Int×Int))):Nat->It->Int->Prop
 | st:La G E 0 (-1,0) G.ts.length
 | bg (i:Nat) (x:It) (t s:Int) (h:La G E i x t) (hs:nx G x=some s) (h0:s<0) (k:Nat) (hk:k<G.rs.length) (hl:(G.rs[k]).l = -1-s) (u:Int) (hu:Gm.Bg G u (rest G x)):La G E i ((k:Int),0) u
 | nu (i:Nat) (x:It) (t s:Int) (h:La G E i x t) (hs:nx G x=some s) (h0:s<0) (k:Nat) (hk:k<G.rs.length) (hl:(G.rs[k]).l = -1-s) (hn:Gm.Nu G (rest G x)):La G E i ((k:Int),0) t
 | mv (i:Nat) (x:It) (t s:Int) (h:La G E i x t) (hs:nx G x=some s) (j:Nat) (he:Ed E i s j):La G E j (x.1,x.2+1) t
theorem zds {G:Gm.Gr} {k:Nat} (hk:k<G.rs.length):sy G (k:Int)=(G.rs[k]).r:=by
 unfold sy;rw[if_neg (by omega),Int.toNat_natCast,List.getD_eq_getElem?_getD,List.getElem?_eq_getElem hk,Option.getD_some]
theorem ziz {G:Gm.Gr} {x:It} {s:Int} (h:nx G x=some s):sy G x.1=(sy G x.1).take x.2.toNat++s::rest G x:=by
 unfold nx at h;unfold rest;obtain⟨h1,h2⟩:=List.getElem?_eq_some_iff.1 h;rw[<-h2,List.getElem_cons_drop h1,List.take_append_drop]
section
variable {G:Gm.Gr} {K:List (List It)} {E:List (List (Int×Int))}
theorem Inv.edge (h:Inv G K E) (hE:E.length=K.length) (hok:Gm.Ok G) {i:Nat} (hi:i<K.length) {x:It} (hx:x∈clo G (K.getD i [])) {s:Int} (hs:nx G x=some s):∃j:Nat,Ed E i s j/\K[j]?=some (mv G (clo G (K.getD i [])) s):=by
 obtain⟨h1,h2⟩:=h.ed i (by omega)
 have hm:s∈E[i].map (·.1):=by
  rw[h1,List.mem_filter];refine⟨nx_in hok (clo_is hx) hs,?_⟩
  have:(x.1,x.2+1)∈mv G (clo G (K.getD i [])) s:=zdL.2 ⟨x,hx,hs,rfl⟩
  simp only[bne_iff_ne,ne_eq];exact fun e=>by rw[e]at this;cases this
 obtain⟨e,he,rfl⟩:=List.mem_map.1 hm;obtain⟨j,e1,e2⟩:=h2 e he;exact⟨j,⟨by omega,by rw[<-e1];exact he⟩,e2⟩
theorem Inv.to (h:Inv G K E) {i j:Nat} {s:Int} (he:Ed E i s j):K[j]?=some (mv G (clo G (K.getD i [])) s):=by
 obtain⟨hi,he⟩:=he;obtain⟨k,e1,e2⟩:=(h.ed i hi).2 _ he;simp only at e1 e2;obtain rfl:j=k:=by omega
 exact e2
theorem Inv.its (h:Inv G K E) {i:Nat} (hi:i<K.length):∀x∈K.getD i [],isI G x=true:=by
 rw[List.getD_eq_getElem?_getD,List.getElem?_eq_getElem hi,Option.getD_some];exact(h.it _ (List.getElem_mem hi)).2
theorem la_in (h:Inv G K E) {i:Nat} {x:It} {t:Int} (hl:La G E i x t):i<K.length/\x∈clo G (K.getD i []):=by
 induction hl with
 | st =>
  have h0:=List.getElem?_eq_some_iff.1 h.h0;refine⟨h0.1,(zaB (h.its h0.1)).2 (.of _ ?_)⟩;rw[List.getD_eq_getElem?_getD,h.h0,Option.getD_some];exact List.mem_cons_self
 | bg i x t s _ hs h0 k hk hl u _ ih=>exact⟨ih.1,(zaB (h.its ih.1)).2 (.on x ((zaB (h.its ih.1)).1 ih.2) s hs h0 k hk hl)⟩
 | nu i x t s _ hs h0 k hk hl _ ih=>exact⟨ih.1,(zaB (h.its ih.1)).2 (.on x ((zaB (h.its ih.1)).1 ih.2) s hs h0 k hk hl)⟩
 | mv i x t s _ hs j he ih =>
  have h1:=h.to he;have h2:=List.getElem?_eq_some_iff.1 h1;refine⟨h2.1,(zaB (h.its h2.1)).2 (.of _ ?_)⟩;rw[List.getD_eq_getElem?_getD,h1,Option.getD_some];exact zdL.2 ⟨x,ih.2,hs,rfl⟩
theorem zmR (h:Inv G K E) {i:Nat} {x:It} {t:Int} (hl:La G E i x t):(x.1 = -1->t=G.ts.length)/\∀k:Nat,∀hk:k<G.rs.length,x.1=k->Gm.Fw G t (G.rs[k]).l:=by
 have key:∀(i:Nat) (x:It) (s:Int),x∈clo G (K.getD i [])->nx G x=some s->s<0->∀u,(Gm.Bg G u (rest G x)\/Gm.Nu G (rest G x)/\((x.1 = -1->u=G.ts.length)/\∀k:Nat,∀hk:k<G.rs.length,x.1=k->Gm.Fw G u (G.rs[k]).l))->Gm.Fw G u (-1-s):=by
  intro i x s hx hs h0 u hu;have hsp:=ziz hs;have hi:=isI_iff.1 (clo_is hx);by_cases e:x.1 = -1
  ·have hsy:sy G x.1=[-1-G.st]:=by rw[e];rfl
   have hr:rest G x=[]:=by
    unfold rest;rw[hsy];exact List.drop_eq_nil_of_le (by simp)
   have hlt:=zkb hi.2.1 hs;rw[hsy]at hlt;have hz:x.2.toNat=0:=by simp at hlt;omega
   have hss:s = -1-G.st:=by
    unfold nx at hs;rw[hsy,hz]at hs
    simpa using hs.symm
   rcases hu with hu|⟨_,hu⟩
   ·rw[hr]at hu;exact absurd hu Gm.bg_nil
   ·rw[hu.1 e,hss,show -1-(-1-G.st)=G.st by omega];exact .st rfl
  ·obtain⟨k,hk⟩:∃k:Nat,x.1=(k:Int):=⟨x.1.toNat,by omega⟩
   have hkl:k<G.rs.length:=by omega
   rw[hk,zds hkl]at hsp;rcases hu with hu|⟨hn,hu⟩
   ·exact .bg _ (List.getElem_mem hkl) _ s _ hsp h0 hu
   ·exact .on _ (List.getElem_mem hkl) _ s _ hsp h0 hn (hu.2 k hkl hk)
 induction hl with
 | st=>exact⟨fun _=>rfl,fun k hk e=>by simp only at e;omega⟩
 | bg i x t s hla hs h0 k hk hl u hu ih =>
  refine⟨fun e=>by simp only at e;omega,fun k' hk' e=>?_⟩;obtain rfl:k=k':=by simp only at e;omega
  rw[hl];exact key i x s (la_in h hla).2 hs h0 u (.inl hu)
 | nu i x t s hla hs h0 k hk hl hn ih =>
  refine⟨fun e=>by simp only at e;omega,fun k' hk' e=>?_⟩;obtain rfl:k=k':=by simp only at e;omega
  rw[hl];exact key i x s (la_in h hla).2 hs h0 t (.inr ⟨hn,ih⟩)
 | mv i x t s _ hs j he ih=>exact ih
theorem zes (h:Inv G K E) (hE:E.length=K.length) (hok:Gm.Ok G) {i k:Nat} {t:Int} (hk:k<G.rs.length) (hl:La G E i ((k:Int),0) t):∀d:Nat,d<=(G.rs[k]).r.length->∃j,La G E j ((k:Int),(d:Int)) t
 | 0,_=>⟨i,hl⟩
 | d+1,hd=>by
  obtain⟨j,hj⟩:=zes h hE hok hk hl d (by omega);obtain⟨h1,h2⟩:=la_in h hj
  have hs:nx G ((k:Int),(d:Int))=some ((G.rs[k]).r[d]):=by
   unfold nx;simp only[zds hk,Int.toNat_natCast];exact List.getElem?_eq_getElem (by omega)
  obtain⟨j2,he,_⟩:=h.edge hE hok h1 h2 hs;exact⟨j2,La.mv j _ t _ hj hs j2 he⟩
theorem zmY {j:Int} (h:Gm.Gn true G.rs j):Gm.Gn false G.rs j \/ ∃t,Gm.Fs G t j:=by
 induction h with
 | mk x hx ht hn ih =>
  have key:∀q p:List Int,x.r=p++q->Gm.Nu G p->Gm.Nu G x.r \/ ∃t,Gm.Fs G t x.l:=by
   intro q;induction q with
   | nil=>intro p e hp;rw[e,List.append_nil];exact .inl hp
   | cons z q ihq =>
    intro p e hp;have hz:z∈x.r:=by rw[e];exact List.mem_append_right _ List.mem_cons_self
    by_cases h0:0<=z
    ·exact .inr ⟨z,.tm x hx p q e h0 hp⟩
    ·rcases ih z hz (by omega) with h1|⟨t,h1⟩
     ·refine ihq (p++[z]) (by rw[e];simp) ⟨fun y hy hy0=>?_,fun y hy hy0=>?_⟩
      ·rcases List.mem_append.1 hy with hy|hy
       ·exact hp.1 y hy hy0
       ·rw[List.mem_singleton.1 hy]at hy0;omega
      ·rcases List.mem_append.1 hy with hy|hy
       ·exact hp.2 y hy hy0
       ·rw[List.mem_singleton.1 hy];exact h1
     ·exact .inr ⟨t,.nt x hx p z q e (by omega) hp h1⟩
  rcases key x.r [] rfl (Gm.nu_nil G) with h1|h1
  ·exact .inl (.of hx h1)
  ·exact .inr h1
theorem zi4:∀ {r:List Int},(∀z∈r,z<0->Gm.Gn true G.rs (-1-z))->Gm.Nu G r \/ ∃t,Gm.Bg G t r
 | [],_=>.inl (Gm.nu_nil G)
 | z::r,h=>by
  by_cases h0:0<=z
  ·exact .inr ⟨z,Gm.bg_cons.2 (.inl (.inl ⟨rfl,h0⟩))⟩
  ·rcases zmY (h z List.mem_cons_self (by omega)) with h1|⟨t,h1⟩
   ·rcases zi4 (r:=r) (fun y hy=>h y (List.mem_cons_of_mem _ hy)) with h2|⟨t,h2⟩
    ·exact .inl (Gm.nu_cons.2 ⟨⟨by omega,h1⟩,h2⟩)
    ·exact .inr ⟨t,Gm.bg_cons.2 (.inr ⟨⟨by omega,h1⟩,h2⟩)⟩
   ·exact .inr ⟨t,Gm.bg_cons.2 (.inl (.inr ⟨by omega,h1⟩))⟩
theorem ziJ {k:Nat} (hk:k<G.rs.length) (hl:(G.rs[k]).l=G.st) (hok:Gm.Ok G):La G E 0 ((k:Int),0) G.ts.length:=by
 refine .nu 0 (-1,0) _ (-1-G.st) .st rfl (by have:=hok.s0;omega) k hk (by rw[hl];omega) ?_;exact Gm.nu_nil G
theorem zmM {x:Gm.Rl} {k:Nat} (hk:k<G.rs.length) (e:G.rs[k]=x) {p q:List Int} {z:Int} (hr:x.r=p++z::q):nx G ((k:Int),(p.length:Int))=some z/\rest G ((k:Int),(p.length:Int))=q:=by
 unfold nx rest;simp only[zds hk,e,hr,Int.toNat_natCast];refine⟨by simp,?_⟩;rw[show p++z::q=(p++[z])++q by simp];exact List.drop_left' (by simp)
theorem zkl (h:Inv G K E) (hE:E.length=K.length) (hok:Gm.Ok G) {j:Int} (hr:Gm.Rc G j):∀k:Nat,∀hk:k<G.rs.length,(G.rs[k]).l=j->∃i t,La G E i ((k:Int),0) t:=by
 induction hr with
 | st=>exact fun k hk hl=>⟨0,_,ziJ hk hl hok⟩
 | on x hx _ hp z hz hn ih =>
  intro k hk hl;obtain⟨m,hm,rfl⟩:=List.mem_iff_getElem.1 hx;obtain⟨i,t,hi⟩:=ih m hm rfl;obtain⟨p,q,e⟩:=List.append_of_mem hz;obtain⟨n1,n2⟩:=zmM hm rfl e;obtain⟨j2,hj⟩:=zes h hE hok hm hi p.length (by rw[e];simp);rcases zi4 (G:=G) (r:=q) (fun y hy hy0=>hp.2 y (by rw[e];exact List.mem_append_right _ (List.mem_cons_of_mem _ hy)) hy0) with hq|⟨u,hq⟩
  ·exact⟨j2,t,.nu j2 _ t z hj n1 hn k hk hl (by rw[n2];exact hq)⟩
  ·exact⟨j2,u,.bg j2 _ t z hj n1 hn k hk hl u (by rw[n2];exact hq)⟩
theorem zjj (h:Inv G K E) (hE:E.length=K.length) (hp:∀x∈G.rs,Gm.Al true G.rs x.r):∀i,i<K.length->∀x∈clo G (K.getD i []),∃t,La G E i x t:=by
 have key:∀i,i<K.length->(∀x∈K.getD i [],∃t,La G E i x t)->∀x∈clo G (K.getD i []),∃t,La G E i x t:=by
  intro i hi hk x hx;have hx2:=(zaB (h.its hi)).1 hx;clear hx;induction hx2 with
  | of x hx=>exact hk x hx
  | on x hcl s hs h0 k hk2 hl ih =>
   obtain⟨t,ht⟩:=ih;have hxi:=isI_iff.1 (cl_is (h.its hi) hcl)
   have hrest:∀z∈rest G x,z<0->Gm.Gn true G.rs (-1-z):=by
    intro z hz hz0;have hz2:=List.mem_of_mem_drop hz;by_cases e:x.1 = -1
    ·have hsy:sy G x.1=[-1-G.st]:=by rw[e];rfl
     unfold rest at hz;rw[hsy]at hz;rw[List.drop_eq_nil_of_le (by simp)]at hz;cases hz
    ·obtain⟨m,hm⟩:∃m:Nat,x.1=(m:Int):=⟨x.1.toNat,by omega⟩
     have hml:m<G.rs.length:=by omega
     rw[hm,zds hml]at hz2;exact(hp _ (List.getElem_mem hml)).2 z hz2 hz0
   rcases zi4 (G:=G) hrest with hq|⟨u,hq⟩
   ·exact⟨t,.nu i x t s ht hs h0 k hk2 hl hq⟩
   ·exact⟨u,.bg i x t s ht hs h0 k hk2 hl u hq⟩
 intro i;induction i using Nat.strongRecOn with
 | _ i ih =>
  intro hi;refine key i hi fun x hx=>?_;by_cases e:i=0
  ·subst e;rw[List.getD_eq_getElem?_getD,h.h0,Option.getD_some,List.mem_singleton]at hx;rw[hx];exact⟨_,.st⟩
  ·obtain⟨m,hm,hmi,⟨s,j⟩,he,e2⟩:=h.up i (by omega) hi;simp only at e2;subst e2;have hed:Ed E m s i:=⟨hm,he⟩
   have hto:=h.to hed;rw[List.getD_eq_getElem?_getD,hto,Option.getD_some]at hx;obtain⟨y,hy,hys,rfl⟩:=zdL.1 hx;obtain⟨t,ht⟩:=ih m hmi (by omega) y hy;exact⟨t,.mv m y t s ht hys i hed⟩
end
end Au
end Go.Proofs.YtcmhaemaophplaaGreat
namespace Go.Proofs.YtcmhaemaophplaaGreat
set_option maxRecDepth 100000
set_option maxHeartbeats 40000000
open Go.RowKit
namespace Gm
def sufs:List Int->List (Int×List Int)
 | []=>[]
 | z::r=>(z,r)::sufs r
theorem mem_sufs {z:Int} {q:List Int}:∀ {r:List Int},(z,q)∈sufs r ↔ ∃p,r=p++z::q
 | []=>by simp[sufs]
 | y::r=>by
  rw[sufs,List.mem_cons,mem_sufs (r:=r)]
  constructor
  ·rintro(h|⟨p,rfl⟩)
   ·injection h with h1 h2;subst h1 h2;exact⟨[],rfl⟩
   ·exact⟨y::p,rfl⟩
  ·rintro⟨p,e⟩;cases p with
   | nil=>rw[List.nil_append]at e;injection e with e1 e2;subst e1 e2;exact .inl rfl
   | cons u p=>rw[List.cons_append]at e;injection e with e1 e2;subst e1;exact .inr ⟨p,e2⟩
def fw1 (nu:List Bool) (t:Int) (F:List Bool) (l:Int) (is:List Bool) (s:Int×List Int):List Bool:=if s.1<0/\ofB nu t F (is.getD l.toNat false) s.2=true then is.set (-1-s.1).toNat true else is
def fwX (nu:List Bool) (t:Int) (F:List Bool) (is:List Bool) (x:Rl):List Bool:=(sufs x.r).foldl (fw1 nu t F x.l) is
theorem zjs (nu:List Bool) (t:Int) (F:List Bool) (l:Int) (is:List Bool) (s:Int×List Int):Le is (fw1 nu t F l is s):=by
 unfold fw1;split
 ·exact Le.set _ _
 ·exact Le.refl _
theorem zjr (nu:List Bool) (t:Int) (F is:List Bool) (x:Rl):Le is (fwX nu t F is x):=foldl_le _ (zjs nu t F x.l) _ is
theorem zez {G:Gr} {n:Nat} {t:Int} {F:List Bool} (hl:Lin n G.rs) (ht:0<=t) (hF:zdl (Fs G t) F) {x:Rl} (hx:x∈G.rs):∀(ss:List (Int×List Int)) (is:List Bool),(∀s∈ss,s∈sufs x.r)->zdl (Fw G t) is->zdl (Fw G t) (ss.foldl (fw1 (gn false G.rs n) t F x.l) is)
 | [],_,_,h=>h
 | s::ss,is,hs,h=>by
  refine zez hl ht hF hx ss _ (fun y hy=>hs y (List.mem_cons_of_mem _ hy)) ?_;unfold fw1;split
  ·rename_i e
   intro i hi;rcases getD_set _ _ _ hi with h1|h1
   ·exact h i h1
   ·rw[h1,Int.toNat_of_nonneg (by omega)];obtain⟨p,hp⟩:=mem_sufs.1 (hs s (List.mem_cons_self ..));rcases zel hl hF ht e.2 with h2|⟨h2,h3⟩
    ·exact .bg x hx p s.1 s.2 hp e.1 h2
    ·have:=h _ h3
     rw[Int.toNat_of_nonneg (hl x hx).1]at this;exact .on x hx p s.1 s.2 hp e.1 h2 this
  ·exact h
theorem zjq {G:Gr} {n:Nat} {t:Int} {F:List Bool} (hl:Lin n G.rs) (ht:0<=t) (hF:zdl (Fs G t) F):∀(xs:List Rl) (is:List Bool),(∀x∈xs,x∈G.rs)->zdl (Fw G t) is->zdl (Fw G t) (xs.foldl (fwX (gn false G.rs n) t F) is)
 | [],_,_,h=>h
 | x::xs,is,hx,h=>zjq hl ht hF xs _ (fun y hy=>hx y (List.mem_cons_of_mem _ hy)) (zez hl ht hF (hx x (List.mem_cons_self ..)) _ is (fun _ h=>h) h)
def ClsW (G:Gr) (n:Nat) (t:Int) (F is:List Bool):Prop:=(t=G.ts.length->is.getD G.st.toNat false=true)/\∀x∈G.rs,∀p z q,x.r=p++z::q->z<0->ofB (gn false G.rs n) t F (is.getD x.l.toNat false) q=true->is.getD (-1-z).toNat false=true
theorem zl0 {G:Gr} {n:Nat} {t:Int} {F is:List Bool} (hl:Lin n G.rs) (hF:∀j,Fs G t j->F.getD j.toNat false=true) (h:ClsW G n t F is) {j:Int} (hj:Fw G t j):is.getD j.toNat false=true:=by
 induction hj with
 | st e=>exact h.1 e
 | bg x hx p z q e hz hb=>exact h.2 x hx p z q e hz (zem hl hF (.inl hb))
 | on x hx p z q e hz hq _ ih=>exact h.2 x hx p z q e hz (zem hl hF (.inr ⟨hq,ih⟩))
theorem zf1 {G:Gr} {t:Int} {F:List Bool} (hl:Lin G.ns.length G.rs) (hi:∀x∈G.rs,Sin G.ns.length x.r) (ht:0<=t) (hF:zdl (Fs G t) F) (hF2:∀j,Fs G t j->F.getD j.toNat false=true)
  (is:List Bool) (hlen:is.length=G.ns.length) (hs:zdl (Fw G t) is) (he:t=G.ts.length->is.getD G.st.toNat false=true) (i:Nat) :
  (times (fun s=>G.rs.foldl (fwX (gn false G.rs G.ns.length) t F) s) G.ns.length is).getD i false=true↔Fw G t (i:Int):=by
 have hle:∀s,Le s (G.rs.foldl (fwX (gn false G.rs G.ns.length) t F) s):=fun s=>foldl_le _ (zjr _ _ _) G.rs s;have hfix:=zbf hle is;rw[hlen]at hfix;have hl2:(times (fun s=>G.rs.foldl (fwX (gn false G.rs G.ns.length) t F) s) G.ns.length is).length=G.ns.length:=by rw[<-(times_le hle _ is).len,hlen]
 constructor
 ·have:∀k,zdl (Fw G t) (times (fun s=>G.rs.foldl (fwX (gn false G.rs G.ns.length) t F) s) k is):=by
   intro k;induction k with
   | zero=>exact hs
   | succ k ih=>exact zjq hl ht hF G.rs _ (fun _ h=>h) ih
  exact this _ i
 ·intro h;have hst:=fun e=>(times_le hle G.ns.length is).get _ (he e)
  have:=zl0 hl (n:=G.ns.length) (is:=times (fun s=>G.rs.foldl (fwX (gn false G.rs G.ns.length) t F) s) G.ns.length is) hF2 ⟨hst,?_⟩ h
  ·simpa using this
  ·intro x hx p z q e hz ho;have h2:=zaL _ (zjr _ _ _) G.rs _ hfix x hx;generalize times (fun s=>G.rs.foldl (fwX (gn false G.rs G.ns.length) t F) s) G.ns.length is=S at *;have h3:=zaL _ (zjs (gn false G.rs G.ns.length) t F x.l) (sufs x.r) S h2 (z,q) (mem_sufs.2 ⟨p,e⟩);rw[fw1,if_pos ⟨hz,ho⟩]at h3;rw[<-h3]
   have:=hi x hx z (by rw[e];simp) hz
   exact set_getD _ _ (by omega)
def ofN (nu:List Bool) (fs:List Nat) (rest:Nat):List Int->Nat
 | []=>rest
 | z::r=>if 0<=z then 2 ^ z.toNat else fs.getD (-1-z).toNat 0 ||| (if nu.getD (-1-z).toNat false=true then ofN nu fs rest r else 0)
def bt (t:Nat) (s:List Nat):List Bool:=s.map fun v=>v.testBit t
theorem zme (t:Nat) (s:List Nat):(bt t s).length=s.length:=by simp[bt]
theorem zar (t:Nat) (s:List Nat) (i:Nat):(bt t s).getD i false=(s.getD i 0).testBit t:=by
 unfold bt;rw[List.getD_eq_getElem?_getD,List.getD_eq_getElem?_getD,List.getElem?_map];cases s[i]? <;> simp
theorem zjy (t:Nat) (s:List Nat) (i v:Nat):bt t (s.set i v)=(bt t s).set i (v.testBit t):=by unfold bt;rw[List.map_set]
theorem zcZ (nu:List Bool) (fs:List Nat) (rest t:Nat):∀r,(ofN nu fs rest r).testBit t=ofB nu t (bt t fs) (rest.testBit t) r
 | []=>rfl
 | z::r=>by
  rw[ofN,ofB];by_cases h0:0<=z
  ·rw[if_pos h0,if_pos h0,Nat.testBit_two_pow];by_cases e:z.toNat=t
   ·rw[decide_eq_true e,show z=(t:Int) by omega];simp
   ·rw[decide_eq_false e];exact(beq_eq_false_iff_ne.2 (by omega)).symm
  ·rw[if_neg h0,if_neg h0,Nat.testBit_or,zar,<-zcZ nu fs rest t r];by_cases e:nu.getD (-1-z).toNat false=true
   ·rw[if_pos e,e];rfl
   ·rw[if_neg e,Bool.not_eq_true _ |>.mp e];simp
def timesN (f:List Nat->List Nat):Nat->List Nat->List Nat
 | 0,s=>s
 | n+1,s=>f (timesN f n s)
theorem zfl {t:Nat} {f:List Nat->List Nat} {g:List Bool->List Bool} (h:∀s,bt t (f s)=g (bt t s)) (n:Nat) (s:List Nat):bt t (timesN f n s)=times g n (bt t s):=by
 induction n with
 | zero=>rfl
 | succ n ih=>rw[timesN,times,h,ih]
theorem zdd {α:Type} {t:Nat} {f:List Nat->α->List Nat} {g:List Bool->α->List Bool} (h:∀s x,bt t (f s x)=g (bt t s) x):∀(xs:List α) (s:List Nat),bt t (xs.foldl f s)=xs.foldl g (bt t s)
 | [],_=>rfl
 | x::xs,s=>by rw[List.foldl_cons,List.foldl_cons,zdd h xs,h]
def addN (s:List Nat) (i v:Nat):List Nat:=s.set i (s.getD i 0 ||| v)
theorem zic (s:List Bool) (i:Nat):s.set i (s.getD i false)=s:=by
 rcases Nat.lt_or_ge i s.length with h|h
 ·rw[List.getD_eq_getElem?_getD,List.getElem?_eq_getElem h];simp
 ·rw[List.set_eq_of_length_le h]
theorem zjz (t:Nat) (s:List Nat) (i v:Nat):bt t (addN s i v)=if v.testBit t=true then(bt t s).set i true else bt t s:=by
 unfold addN;rw[zjy,Nat.testBit_or,<-zar];cases v.testBit t
 ·rw[Bool.or_false,zic];rfl
 ·rw[Bool.or_true];rfl
def firstN1 (nu:List Bool) (s:List Nat) (x:Rl):List Nat:=addN s x.l.toNat (ofN nu s 0 x.r)
theorem zbv (nu:List Bool) (t:Nat) (s:List Nat) (x:Rl):bt t (firstN1 nu s x)=zaz nu t (bt t s) x:=by
 unfold firstN1 zaz;rw[zjz,zcZ,Nat.zero_testBit]
noncomputable def fst (G:Gr):List Nat:=timesN (fun s=>G.rs.foldl (firstN1 (gn false G.rs G.ns.length)) s) G.ns.length (List.replicate G.ns.length 0)
theorem zeC (t n:Nat):bt t (List.replicate n 0)=List.replicate n false:=by simp[bt]
theorem fst_bit {G:Gr} (hl:Lin G.ns.length G.rs) (i t:Nat):((fst G).getD i 0).testBit t=true↔Fs G t (i:Int):=by
 rw[<-zar];unfold fst;rw[zfl (g:=fun s=>G.rs.foldl (zaz (gn false G.rs G.ns.length) t) s) (fun s=>zdd (zbv _ t) _ s),zeC];exact zhx hl (by omega) i
def fwN1 (nu:List Bool) (F:List Nat) (l:Int) (s:List Nat) (y:Int×List Int):List Nat:=if y.1<0 then addN s (-1-y.1).toNat (ofN nu F (s.getD l.toNat 0) y.2) else s
def fwNX (nu:List Bool) (F:List Nat) (s:List Nat) (x:Rl):List Nat:=(sufs x.r).foldl (fwN1 nu F x.l) s
theorem zfb (nu:List Bool) (F:List Nat) (t:Nat) (l:Int) (s:List Nat) (y:Int×List Int):bt t (fwN1 nu F l s y)=fw1 nu t (bt t F) l (bt t s) y:=by
 unfold fwN1 fw1;by_cases h:y.1<0
 ·rw[if_pos h,zjz,zcZ,<-zar];simp only[h,true_and]
 ·rw[if_neg h,if_neg (fun e=>h e.1)]
theorem ziT (nu:List Bool) (F:List Nat) (t:Nat) (s:List Nat) (x:Rl):bt t (fwNX nu F s x)=fwX nu t (bt t F) (bt t s) x:=zdd (zfb nu F t x.l) _ s
noncomputable def flw (G:Gr):List Nat:=timesN (fun s=>G.rs.foldl (fwNX (gn false G.rs G.ns.length) (fst G)) s) G.ns.length ((List.replicate G.ns.length 0).set G.st.toNat (2 ^ G.ts.length))
theorem flw_bit {G:Gr} (h:Ok G) (i t:Nat):((flw G).getD i 0).testBit t=true↔Fw G t (i:Int):=by
 have hl:=h.lin;rw[<-zar];unfold flw;rw[zfl (g:=fun s=>G.rs.foldl (fwX (gn false G.rs G.ns.length) t (bt t (fst G))) s) (fun s=>zdd (ziT _ _ t) _ s),zjy,zeC,Nat.testBit_two_pow];have hs1:=h.s1;have hs0:=h.s0;refine zf1 hl h.sin (by omega) (fun i hi=>?_) (fun j hj=>?_) _ (by simp) (fun i hi=>?_) (fun e=>?_) i
 ·rw[zar]at hi;exact(fst_bit hl i t).1 hi
 ·rw[zar];refine(fst_bit hl j.toNat t).2 ?_;obtain⟨x,hx,rfl,_⟩:=hj.rule;rw[Int.toNat_of_nonneg (hl x hx).1];exact hj
 ·by_cases e:G.ts.length=t
  ·rw[decide_eq_true e]at hi;rcases getD_set _ _ _ hi with h2|h2
   ·exact(zdl.none _ _) i h2
   ·rw[h2,Int.toNat_of_nonneg hs0];exact .st (by omega)
  ·rw[decide_eq_false e]at hi
   exfalso
   rcases Nat.lt_or_ge i G.ns.length with h3|h3
   ·rw[List.getD_eq_getElem?_getD,List.getElem?_set,List.getElem?_replicate]at hi;split at hi
    ·split at hi <;> cases hi
    ·cases hi
   ·rw[List.getD_eq_getElem?_getD,List.getElem?_eq_none (by simpa using h3)]at hi;cases hi
 ·rw[decide_eq_true (by omega)];exact set_getD _ _ (by simp;omega)
theorem zcp {f:List Nat->List Nat} (h:∀s,(f s).length=s.length) (n:Nat) (s:List Nat):(timesN f n s).length=s.length:=by
 induction n with
 | zero=>rfl
 | succ n ih=>rw[timesN,h,ih]
theorem zbO {α:Type} {f:List Nat->α->List Nat} (h:∀s x,(f s x).length=s.length):∀(xs:List α) (s:List Nat),(xs.foldl f s).length=s.length
 | [],_=>rfl
 | x::xs,s=>by rw[List.foldl_cons,zbO h xs,h]
theorem addN_len (s:List Nat) (i v:Nat):(addN s i v).length=s.length:=by simp[addN]
theorem fst_len (G:Gr):(fst G).length=G.ns.length:=by
 unfold fst
 have:∀s:List Nat,(G.rs.foldl (firstN1 (gn false G.rs G.ns.length)) s).length=s.length:=fun s=>zbO (fun s x=>addN_len _ _ _) _ s
 rw[zcp this];simp
theorem fwN1_len (nu:List Bool) (F:List Nat) (l:Int) (s:List Nat) (y:Int×List Int):(fwN1 nu F l s y).length=s.length:=by
 unfold fwN1;split
 ·exact addN_len _ _ _
 ·rfl
theorem flw_len (G:Gr):(flw G).length=G.ns.length:=by
 unfold flw
 have:∀s:List Nat,(G.rs.foldl (fwNX (gn false G.rs G.ns.length) (fst G)) s).length=s.length:=fun s=>zbO (fun s x=>zbO (fwN1_len _ _ _) _ s) _ s
 rw[zcp this];simp
theorem zia {a b:List Nat} (hl:a.length=b.length) (h:∀i t:Nat,(a.getD i 0).testBit t=true↔(b.getD i 0).testBit t=true):a=b:=by
 refine List.ext_getElem hl fun i h1 h2=>Nat.eq_of_testBit_eq fun t=>?_
 have:=h i t
 rw[List.getD_eq_getElem?_getD,List.getD_eq_getElem?_getD,List.getElem?_eq_getElem h1,List.getElem?_eq_getElem h2]at this;exact Bool.eq_iff_iff.2 this
theorem fs_lt {G:Gr} (h:Ok G) {t:Int} {j:Int} (hj:Fs G t j):t<G.ts.length:=by
 induction hj with
 | tm x hx p q e h0 hp=>exact((rule_in (h.rr x hx)).2.2.2 t (by rw[e];simp)).1
 | nt x hx p z q e hz hp _ ih=>exact ih
theorem zf9 {G:Gr} (h:Ok G) {t:Int} {r:List Int} (hr:∀z∈r,z<G.ts.length) (hj:Bg G t r):t<G.ts.length:=by
 obtain⟨p,y,q,e,_,h1|h1⟩:=hj
 ·rw[<-h1.1];exact hr y (by rw[e];simp)
 ·exact fs_lt h h1.2
theorem fw_le {G:Gr} (h:Ok G) {t:Int} {j:Int} (hj:Fw G t j):t<=G.ts.length:=by
 induction hj with
 | st e=>omega
 | bg x hx p z q e hz hb=>exact Int.le_of_lt (zf9 h (fun y hy=>((rule_in (h.rr x hx)).2.2.2 y (by rw[e];simp[hy])).1) hb)
 | on x hx p z q e hz hq _ ih=>exact ih
theorem zau {G:Gr} (hl:Lin G.ns.length G.rs) (rest t:Nat) (r:List Int):(ofN (gn false G.rs G.ns.length) (fst G) rest r).testBit t=true↔Bg G t r\/Nu G r/\rest.testBit t=true:=by
 rw[zcZ];refine zka hl (fun i hi=>?_) (fun j hj=>?_) (by omega)
 ·rw[zar]at hi;exact(fst_bit hl i t).1 hi
 ·rw[zar];refine(fst_bit hl j.toNat t).2 ?_;obtain⟨x,hx,rfl,_⟩:=hj.rule;rw[Int.toNat_of_nonneg (hl x hx).1];exact hj
theorem addN_bit (s:List Nat) (i v j t:Nat):((addN s i v).getD j 0).testBit t=true↔(s.getD j 0).testBit t=true\/j=i/\i<s.length/\v.testBit t=true:=by
 unfold addN;by_cases e:i=j
 ·subst e;rcases Nat.lt_or_ge i s.length with h|h
  ·rw[List.getD_eq_getElem?_getD,List.getElem?_set_self h,Option.getD_some,Nat.testBit_or,Bool.or_eq_true];simp[h]
  ·rw[List.set_eq_of_length_le h]
   constructor
   ·exact .inl
   ·rintro(h1|h1)
    ·exact h1
    ·omega
 ·rw[List.getD_eq_getElem?_getD,List.getElem?_set_ne e,<-List.getD_eq_getElem?_getD]
  constructor
  ·exact .inl
  ·rintro(h1|h1)
   ·exact h1
   ·exact absurd h1.1.symm e
end Gm
namespace Gm
def NLe (a b:List Nat):Prop:=a.length=b.length/\∀i:Nat,a.getD i 0<=b.getD i 0
theorem NLe.refl (a:List Nat):NLe a a:=⟨rfl,fun _=>Nat.le_refl _⟩
theorem NLe.trans {a b c:List Nat} (h:NLe a b) (k:NLe b c):NLe a c:=⟨h.1.trans k.1,fun i=>Nat.le_trans (h.2 i) (k.2 i)⟩
theorem NLe.anti {a b:List Nat} (h:NLe a b) (k:NLe b a):b=a:=by
 refine List.ext_getElem k.1 fun i h1 h2=>?_;have e1:=h.2 i;have e2:=k.2 i;rw[List.getD_eq_getElem?_getD,List.getD_eq_getElem?_getD,List.getElem?_eq_getElem h1,List.getElem?_eq_getElem h2]at e1 e2;simp only[Option.getD_some]at e1 e2;omega
theorem NLe.addN (s:List Nat) (i v:Nat):NLe s (addN s i v):=by
 refine⟨(addN_len s i v).symm,fun j=>?_⟩;unfold Gm.addN;by_cases e:i=j
 ·subst e;rcases Nat.lt_or_ge i s.length with h|h
  ·rw[List.getD_eq_getElem?_getD,List.getD_eq_getElem?_getD,List.getElem?_set_self h,Option.getD_some];exact Nat.left_le_or
  ·rw[List.set_eq_of_length_le h];exact Nat.le_refl _
 ·rw[List.getD_eq_getElem?_getD,List.getD_eq_getElem?_getD,List.getElem?_set_ne e];exact Nat.le_refl _
theorem NLe.fold {α:Type} {f:List Nat->α->List Nat} (h:∀s x,NLe s (f s x)):∀(xs:List α) (s:List Nat),NLe s (xs.foldl f s)
 | [],s=>.refl s
 | x::xs,s=>(h s x).trans (NLe.fold h xs _)
theorem fold_rest {α:Type} {f:List Nat->α->List Nat} (h:∀s x,NLe s (f s x)):∀(xs:List α) (s:List Nat),xs.foldl f s=s->∀x∈xs,f s x=s
 | [],_,_,_,hx=>by cases hx
 | y::ys,s,e,x,hx=>by
  rw[List.foldl_cons]at e;have h1:f s y=s:=NLe.anti (h s y) (by have:=NLe.fold h ys (f s y);rwa [e]at this);rw[h1]at e;rcases List.mem_cons.1 hx with rfl|hx
  ·exact h1
  ·exact fold_rest h ys s e x hx
theorem zjb:∀ {a b:List Nat},NLe a b->a.sum<=b.sum/\(a.sum=b.sum->a=b)
 | [],[],_=>⟨Nat.le_refl _,fun _=>rfl⟩
 | [],_::_,h=>by cases h.1
 | _::_,[],h=>by cases h.1
 | x::a,y::b,h=>by
  have h1:NLe a b:=⟨by simpa using h.1,fun i=>by have:=h.2 (i+1);simpa using this⟩
  have h2:x<=y:=by have:=h.2 0;simpa using this
  have:=zjb h1
  simp only[List.sum_cons];refine⟨by omega,fun e=>?_⟩;rw[this.2 (by omega),show x=y by omega]
def gap (s:List Nat):Nat:=(s.map fun v=>4294967296-v).sum
def U32 (s:List Nat):Prop:=∀i:Nat,s.getD i 0<4294967296
theorem zey:∀ {s:List Nat},U32 s->gap s+s.sum=s.length*4294967296
 | [],_=>rfl
 | x::s,h=>by
  have h1:U32 s:=fun i=>by have:=h (i+1);simpa using this
  have h2:x<4294967296:=by have:=h 0;simpa using this
  have:=zey h1
  unfold gap at this ⊢;simp only[List.map_cons,List.sum_cons,List.length_cons];omega
theorem gap_lt {a b:List Nat} (h:NLe a b) (hb:U32 b) (hn:a≠b):gap b<gap a:=by
 have ha:U32 a:=fun i=>Nat.lt_of_le_of_lt (h.2 i) (hb i);have h1:=zey ha;have h2:=zey hb;have h3:=zjb h;have h4:a.sum≠b.sum:=fun e=>hn (h3.2 e);rw[h.1]at h1;omega
theorem or32 {a b:Nat} (ha:a<4294967296) (hb:b<4294967296):a ||| b<4294967296:=by
 have:=Nat.or_lt_two_pow (n:=32) (x:=a) (y:=b) (by omega) (by omega);omega
theorem U32.addN {s:List Nat} (h:U32 s) (i:Nat) {v:Nat} (hv:v<4294967296):U32 (addN s i v):=fun j=>by
 unfold Gm.addN;by_cases e:i=j
 ·subst e;rcases Nat.lt_or_ge i s.length with hl|hl
  ·rw[List.getD_eq_getElem?_getD,List.getElem?_set_self hl,Option.getD_some];exact or32 (h i) hv
  ·rw[List.set_eq_of_length_le hl];exact h i
 ·rw[List.getD_eq_getElem?_getD,List.getElem?_set_ne e,<-List.getD_eq_getElem?_getD];exact h j
theorem U32.ofN {nu:List Bool} {fs:List Nat} {rest:Nat} (hf:U32 fs) (hr:rest<4294967296):∀ {r:List Int},(∀z∈r,z<=31)->ofN nu fs rest r<4294967296
 | [],_=>hr
 | z::r,h=>by
  rw[Gm.ofN];split
  ·have:=Nat.pow_le_pow_right (n:=2) (by decide) (show z.toNat<=31 by have:=h z (List.mem_cons_self ..);omega)
   omega
  ·refine or32 (hf _) ?_;split
   ·exact U32.ofN hf hr fun y hy=>h y (List.mem_cons_of_mem _ hy)
   ·decide
theorem new_iff {a v:Nat} (ha:a<4294967296) (hv:v<4294967296):(v &&& (4294967295-a)=0)↔a ||| v=a:=by
 have hb:∀t,t<32->(4294967295-a).testBit t = !a.testBit t:=fun t ht=>by
  have:=Nat.testBit_two_pow_sub_succ (n:=32) (x:=a) (by omega) t
  rw[show 2 ^ 32-(a+1)=4294967295-a by omega]at this;rw[this,decide_eq_true ht,Bool.true_and]
 constructor
 ·intro h;refine Nat.eq_of_testBit_eq fun t=>?_;rw[Nat.testBit_or];by_cases ht:t<32
  ·have h1:=congrArg (fun z=>z.testBit t) h;simp only[Nat.testBit_and,Nat.zero_testBit]at h1;rw[hb t ht]at h1
   revert h1
   generalize a.testBit t=p;generalize v.testBit t=q;cases p <;> cases q <;> simp
  ·rw[Nat.testBit_lt_two_pow (x:=v) (Nat.lt_of_lt_of_le hv (by have:=Nat.pow_le_pow_right (n:=2) (by decide) (show 32<=t by omega);omega))];simp
 ·intro h;refine Nat.eq_of_testBit_eq fun t=>?_;rw[Nat.testBit_and,Nat.zero_testBit];by_cases ht:t<32
  ·rw[hb t ht];have h1:=congrArg (fun z=>z.testBit t) h;simp only[Nat.testBit_or]at h1
   revert h1
   generalize a.testBit t=p;generalize v.testBit t=q;cases p <;> cases q <;> simp
  ·rw[Nat.testBit_lt_two_pow (x:=v) (Nat.lt_of_lt_of_le hv (by have:=Nat.pow_le_pow_right (n:=2) (by decide) (show 32<=t by omega);omega))];simp
theorem addN_same {s:List Nat} {i v:Nat} (h:i<s.length):addN s i v=s↔s.getD i 0 ||| v=s.getD i 0:=by
 unfold addN
 constructor
 ·intro e
  have:=congrArg (fun l=>l.getD i 0) e
  simp only[List.getD_eq_getElem?_getD,List.getElem?_set_self h,Option.getD_some]at this
  simpa[List.getD_eq_getElem?_getD] using this
 ·intro e;rw[e,List.getD_eq_getElem?_getD,List.getElem?_eq_getElem h];simp
theorem fst_row {G:Gr} (hl:Lin G.ns.length G.rs) {s:List Nat} (hn:s.length=G.ns.length) (hs:∀i t:Nat,(s.getD i 0).testBit t=true->Fs G t (i:Int)) (hc:∀x∈G.rs,firstN1 (gn false G.rs G.ns.length) s x=s):s=fst G:=by
 refine zia (by rw[hn,fst_len]) fun i t=>⟨fun h=>(fst_bit hl i t).2 (hs i t h),fun h=>?_⟩
 have h1:=zjt hl (n:=G.ns.length) (is:=bt t s) (fun x hx e=>?_) ((fst_bit hl i t).1 h)
 ·rw[zar]at h1;simpa using h1
 ·have h2:=congrArg (bt t) (hc x hx);rw[zbv,zaz,if_pos e]at h2;rw[<-h2]
  have:=hl x hx
  exact set_getD _ _ (by rw[zme];omega)
theorem fst_step {G:Gr} (hl:Lin G.ns.length G.rs) {s:List Nat} (hs:∀i t:Nat,(s.getD i 0).testBit t=true->Fs G t (i:Int)) {x:Rl} (hx:x∈G.rs) (i t:Nat) (h:((firstN1 (gn false G.rs G.ns.length) s x).getD i 0).testBit t=true):Fs G t (i:Int):=by
 have h1:=zcf hl (t:=t) (by omega) [x] (bt t s) (fun y hy=>by rw[List.mem_singleton.1 hy];exact hx) (fun j hj=>by rw[zar]at hj;exact hs j t hj);rw[List.foldl_cons,List.foldl_nil,<-zbv]at h1;exact h1 i (by rw[zar];exact h)
theorem flw_step {G:Gr} (h:Ok G) {s:List Nat} (hs:∀i t:Nat,(s.getD i 0).testBit t=true->Fw G t (i:Int)) {x:Rl} (hx:x∈G.rs) {y:Int×List Int} (hy:y∈sufs x.r) (i t:Nat) (h1:((fwN1 (gn false G.rs G.ns.length) (fst G) x.l s y).getD i 0).testBit t=true):Fw G t (i:Int):=by
 have hl:=h.lin;have h2:=zez hl (t:=t) (F:=bt t (fst G)) (by omega) (fun j hj=>by rw[zar]at hj;exact(fst_bit hl j t).1 hj) hx [y] (bt t s) (fun z hz=>by rw[List.mem_singleton.1 hz];exact hy) (fun j hj=>by rw[zar]at hj;exact hs j t hj);rw[List.foldl_cons,List.foldl_nil,<-zfb]at h2;exact h2 i (by rw[zar];exact h1)
noncomputable def flw0 (G:Gr):List Nat:=(List.replicate G.ns.length 0).set G.st.toNat (2 ^ G.ts.length)
theorem none_bit (n i t:Nat):((List.replicate n 0).getD i 0).testBit t=false:=by
 have:=zar t (List.replicate n 0) i
 rw[zeC]at this;rw[<-this];by_cases h:i<n
 ·rw[List.getD_eq_getElem?_getD,List.getElem?_replicate,if_pos h];rfl
 ·rw[List.getD_eq_getElem?_getD,List.getElem?_replicate,if_neg h];rfl
theorem flw0_snd {G:Gr} (h:Ok G) (i t:Nat) (h1:((flw0 G).getD i 0).testBit t=true):Fw G t (i:Int):=by
 unfold flw0 at h1;have hs0:=h.s0;have hs1:=h.s1;by_cases e:G.st.toNat=i
 ·subst e;rw[List.getD_eq_getElem?_getD,List.getElem?_set_self (by simp;omega),Option.getD_some,Nat.testBit_two_pow]at h1;rw[Int.toNat_of_nonneg hs0,<-of_decide_eq_true h1];exact .st rfl
 ·rw[List.getD_eq_getElem?_getD,List.getElem?_set_ne e,<-List.getD_eq_getElem?_getD,none_bit]at h1;cases h1
theorem flw0_st {G:Gr} (h:Ok G):((flw0 G).getD G.st.toNat 0).testBit G.ts.length=true:=by
 have hs0:=h.s0;have hs1:=h.s1;unfold flw0;rw[List.getD_eq_getElem?_getD,List.getElem?_set_self (by simp;omega),Option.getD_some,Nat.testBit_two_pow];simp
end Gm
namespace Lk
open Au Gm
abbrev SS:=List (List Nat)
def At (L:List (List It)) (S:SS) (q:Nat) (x:It) (t:Nat):Prop:=∃i:Nat,(L.getD q [])[i]?=some x/\((S.getD q []).getD i 0).testBit t=true
def Snd (G:Gr) (E:List (List (Int×Int))) (L:List (List It)) (S:SS):Prop:=∀q x t,At L S q x t->La G E q x (t:Int)
structure Gvn (G:Gr) (E:List (List (Int×Int))) (L:List (List It)) (S:SS) (q i:Nat):Prop where
 mv:∀x s,(L.getD q [])[i]?=some x->nx G x=some s->∀t,((S.getD q []).getD i 0).testBit t=true->∀j,Ed E q s j->At L S j (x.1,x.2+1) t
 rl:∀x s,(L.getD q [])[i]?=some x->nx G x=some s->s<0->(S.getD q []).getD i 0≠0->∀k (hk:k<G.rs.length),(G.rs[k]).l = -1-s->∀u,(ofN (gn false G.rs G.ns.length) (fst G) ((S.getD q []).getD i 0) (rest G x)).testBit u=true->At L S q ((k:Int),0) u
structure Cls (G:Gr) (E:List (List (Int×Int))) (L:List (List It)) (S:SS):Prop where
 st:At L S 0 (-1,0) G.ts.length
 gv:∀q i,Gvn G E L S q i
theorem zl1 {G:Gr} {t j:Int} (h:Fs G t j):0<=t:=by
 induction h with
 | tm _ _ _ _ _ h0 _=>exact h0
 | nt _ _ _ _ _ _ _ _ _ ih=>exact ih
theorem zd0 {G:Gr} {t:Int} {r:List Int} (h:Bg G t r):0<=t:=by
 obtain⟨_,_,_,_,_,h|h⟩:=h
 ·exact h.2
 ·exact zl1 h.2
theorem zbo {v t:Nat} (h:v.testBit t=true):v≠0:=fun e=>by rw[e,Nat.zero_testBit]at h;cases h
theorem zlB {G:Gr} {E:List (List (Int×Int))} {L:List (List It)} {S:SS} (hok:Ok G) (h1:Snd G E L S) (h2:Cls G E L S) {q:Nat} {x:It} {t:Int}:La G E q x t ↔ ∃n:Nat,t=n/\At L S q x n:=by
 constructor
 ·intro h;induction h with
  | st=>exact⟨_,rfl,h2.st⟩
  | bg i x t s _ hs h0 k hk hl u hu ih =>
   obtain⟨n,rfl,j,e,hb⟩:=ih;have hp:=zd0 hu;refine⟨u.toNat,by omega,(h2.gv i j).rl x s e hs h0 (zbo hb) k hk hl u.toNat ((zau hok.lin _ _ _).2 (.inl ?_))⟩;rw[Int.toNat_of_nonneg hp];exact hu
  | nu i x t s _ hs h0 k hk hl hn ih =>
   obtain⟨n,rfl,j,e,hb⟩:=ih;exact⟨n,rfl,(h2.gv i j).rl x s e hs h0 (zbo hb) k hk hl n ((zau hok.lin _ _ _).2 (.inr ⟨hn,hb⟩))⟩
  | mv i x t s _ hs j he ih =>
   obtain⟨n,rfl,k,e,hb⟩:=ih;exact⟨n,rfl,(h2.gv i k).mv x s e hs n hb j he⟩
 ·rintro⟨n,rfl,h⟩;exact h1 q x n h
def zdT (l:List It) (row:List Nat) (x:It) (s:Nat):List Nat:=List.zipWith (fun y v=>if y=x then v ||| s else v) l row
def gv (L:List (List It)) (S:SS) (q:Nat) (x:It) (s:Nat):SS:=S.set q (zdT (L.getD q []) (S.getD q []) x s)
def ps1 (G:Gr) (L:List (List It)) (q:Nat) (sym:Int) (s:Nat) (S:SS) (k:Nat):SS:=if(G.rs.getD k ⟨0,[],0⟩).l = -1-sym then gv L S q ((k:Int),0) s else S
noncomputable def ps (G:Gr) (to:Nat->Int->Nat) (L:List (List It)) (S:SS) (p:Nat×Nat):SS :=
 match (L.getD p.1 [])[p.2]? with
 | none=>S
 | some x=>match nx G x with
  | none=>S
  | some sym=>if(S.getD p.1 []).getD p.2 0=0 then S else
   if 0<=sym then gv L S (to p.1 sym) (x.1,x.2+1) ((S.getD p.1 []).getD p.2 0)
   else(List.range G.rs.length).foldl (ps1 G L p.1 sym (ofN (gn false G.rs G.ns.length) (fst G) ((S.getD p.1 []).getD p.2 0) (rest G x))) (gv L S (to p.1 sym) (x.1,x.2+1) ((S.getD p.1 []).getD p.2 0))
def Fit (L:List (List It)) (S:SS):Prop:=S.length=L.length/\∀q,(S.getD q []).length=(L.getD q []).length
def SLe (a b:SS):Prop:=a.length=b.length/\∀q,NLe (a.getD q []) (b.getD q [])
theorem SLe.refl (a:SS):SLe a a:=⟨rfl,fun _=>.refl _⟩
theorem SLe.trans {a b c:SS} (h:SLe a b) (k:SLe b c):SLe a c:=⟨h.1.trans k.1,fun q=>(h.2 q).trans (k.2 q)⟩
theorem SLe.anti {a b:SS} (h:SLe a b) (k:SLe b a):b=a:=by
 refine List.ext_getElem k.1 fun i h1 h2=>?_
 have:=NLe.anti (h.2 i) (k.2 i)
 rw[List.getD_eq_getElem?_getD,List.getD_eq_getElem?_getD,List.getElem?_eq_getElem h1,List.getElem?_eq_getElem h2]at this;exact this
theorem zdS {l:List It} {row:List Nat} (h:row.length=l.length) (x:It) (s:Nat):(zdT l row x s).length=row.length:=by simp[zdT,h]
theorem zbN {l:List It} {row:List Nat} (h:row.length=l.length) (x:It) (s i:Nat):(zdT l row x s).getD i 0=if l[i]?=some x then row.getD i 0 ||| s else row.getD i 0:=by
 unfold zdT;rw[List.getD_eq_getElem?_getD,List.getD_eq_getElem?_getD,List.getElem?_zipWith];rcases Nat.lt_or_ge i l.length with hi|hi
 ·rw[List.getElem?_eq_getElem hi,List.getElem?_eq_getElem (by omega:i<row.length)];simp only[Option.some.injEq,Option.getD_some]
 ·rw[List.getElem?_eq_none hi,List.getElem?_eq_none (by omega:row.length<=i)];simp
theorem ziR {l:List It} {row:List Nat} (h:row.length=l.length) (x:It) (s:Nat):NLe row (zdT l row x s):=by
 refine⟨(zdS h x s).symm,fun i=>?_⟩;rw[zbN h];split
 ·exact Nat.left_le_or
 ·exact Nat.le_refl _
theorem zhs (L:List (List It)) (S:SS) (q:Nat) (x:It) (s p:Nat):(gv L S q x s).getD p []=if p=q then zdT (L.getD q []) (S.getD q []) x s else S.getD p []:=by
 unfold gv;by_cases e:p=q
 ·subst e;rw[if_pos rfl];rcases Nat.lt_or_ge p S.length with hp|hp
  ·rw[List.getD_eq_getElem?_getD,List.getElem?_set_self hp,Option.getD_some]
  ·have h1:S.getD p []=[]:=by rw[List.getD_eq_getElem?_getD,List.getElem?_eq_none hp];rfl
   rw[List.set_eq_of_length_le hp,h1];unfold zdT;rw[List.zipWith_nil_right]
 ·rw[if_neg e,List.getD_eq_getElem?_getD,List.getElem?_set_ne (fun k=>e k.symm),<-List.getD_eq_getElem?_getD]
theorem zcd {L:List (List It)} {S:SS} (h:Fit L S) (q:Nat) (x:It) (s:Nat):Fit L (gv L S q x s):=by
 refine⟨by unfold gv;rw[List.length_set];exact h.1,fun p=>?_⟩;rw[zhs];split
 ·rename_i e
  rw[zdS (h.2 q),e];exact h.2 q
 ·exact h.2 p
theorem ziQ {L:List (List It)} {S:SS} (h:Fit L S) (q:Nat) (x:It) (s:Nat):SLe S (gv L S q x s):=by
 refine⟨by unfold gv;rw[List.length_set],fun p=>?_⟩;rw[zhs];split
 ·rename_i e
  rw[e];exact ziR (h.2 q) x s
 ·exact .refl _
theorem zfX {L:List (List It)} {S:SS} (h:Fit L S) {q:Nat} {x:It} {s p:Nat} {y:It} {t:Nat}:At L (gv L S q x s) p y t↔At L S p y t\/(p=q/\y=x/\s.testBit t=true/\∃i:Nat,(L.getD q [])[i]?=some x):=by
 unfold At;rw[zhs];by_cases e:p=q
 ·subst e;rw[if_pos rfl]
  constructor
  ·rintro⟨i,h1,h2⟩;rw[zbN (h.2 p)]at h2;split at h2
   ·rename_i hx
    rw[Nat.testBit_or,Bool.or_eq_true]at h2;rcases h2 with h2|h2
    ·exact .inl ⟨i,h1,h2⟩
    ·rw[hx]at h1;injection h1 with h1;exact .inr ⟨rfl,h1.symm,h2,i,hx⟩
   ·exact .inl ⟨i,h1,h2⟩
  ·rintro(⟨i,h1,h2⟩|⟨_,rfl,h2,i,h3⟩)
   ·refine⟨i,h1,?_⟩;rw[zbN (h.2 p)];split
    ·rw[Nat.testBit_or,h2,Bool.true_or]
    ·exact h2
   ·refine⟨i,h3,?_⟩;rw[zbN (h.2 p),if_pos h3,Nat.testBit_or,h2,Bool.or_true]
 ·rw[if_neg e];exact⟨.inl,fun k=>k.resolve_right fun k=>e k.1⟩
theorem zhr {G:Gr} {E:List (List (Int×Int))} {L:List (List It)} {S:SS} (h:Fit L S) (hs:Snd G E L S) {q:Nat} {x:It} {s:Nat} (hx:∀t,s.testBit t=true->La G E q x (t:Int)):Snd G E L (gv L S q x s):=fun p y t k=>by
 rcases(zfX h).1 k with k|⟨rfl,rfl,k,_⟩
 ·exact hs p y t k
 ·exact hx t k
theorem zh8 {α:Type} {f:SS->α->SS} {I:SS->Prop} (hf:∀s x,I s->I (f s x)/\SLe s (f s x)):∀(xs:List α) (s:SS),I s->I (xs.foldl f s)/\SLe s (xs.foldl f s)
 | [],s,h=>⟨h,.refl s⟩
 | x::xs,s,h=>by
  have h1:=hf s x h;have h2:=zh8 hf xs (f s x) h1.1;exact⟨h2.1,h1.2.trans h2.2⟩
theorem zcr {α:Type} {f:SS->α->SS} {I:SS->Prop} (hf:∀s x,I s->I (f s x)/\SLe s (f s x)):∀(xs:List α) (s:SS),I s->xs.foldl f s=s->∀x∈xs,f s x=s
 | [],_,_,_,_,hx=>by cases hx
 | y::ys,s,h,e,x,hx=>by
  rw[List.foldl_cons]at e;have h1:=hf s y h;have h2:f s y=s:=SLe.anti h1.2 (by have:=(zh8 hf ys (f s y) h1.1).2;rwa [e]at this);rw[h2]at e;rcases List.mem_cons.1 hx with rfl|hx
  ·exact h2
  ·exact zcr hf ys s h e x hx
theorem zdE {G:Gr} {L:List (List It)} (q:Nat) (sym:Int) (s:Nat) (S:SS) (k:Nat) (h:Fit L S):Fit L (ps1 G L q sym s S k)/\SLe S (ps1 G L q sym s S k):=by
 unfold ps1;split
 ·exact⟨zcd h _ _ _,ziQ h _ _ _⟩
 ·exact⟨h,.refl _⟩
theorem zmH {G:Gr} {to:Nat->Int->Nat} {L:List (List It)} (S:SS) (p:Nat×Nat) (h:Fit L S):Fit L (ps G to L S p)/\SLe S (ps G to L S p):=by
 unfold ps;split
 ·exact⟨h,.refl _⟩
 ·rename_i x _
  split
  ·exact⟨h,.refl _⟩
  ·rename_i sym _
   split
   ·exact⟨h,.refl _⟩
   ·split
    ·exact⟨zcd h _ _ _,ziQ h _ _ _⟩
    ·have:=zh8 (I:=Fit L) (fun s k hs=>zdE (G:=G) p.1 sym (ofN (gn false G.rs G.ns.length) (fst G) ((S.getD p.1 []).getD p.2 0) (rest G x)) s k hs) (List.range G.rs.length) _ (zcd h (to p.1 sym) (x.1,x.2+1) ((S.getD p.1 []).getD p.2 0))
     exact⟨this.1,(ziQ h _ _ _).trans this.2⟩
theorem zla {G:Gr} {E:List (List (Int×Int))} {to:Nat->Int->Nat} {L:List (List It)} (hok:Ok G) (hto:∀(q:Nat) (x:It) (s:Int),x∈L.getD q []->nx G x=some s->Ed E q s (to q s)) (S:SS) (p:Nat×Nat) (h:Fit L S) (hs:Snd G E L S):Snd G E L (ps G to L S p):=by
 unfold ps;split
 ·exact hs
 ·rename_i x hx
  split
  ·exact hs
  ·rename_i sym hn
   split
   ·exact hs
   ·have h1:Snd G E L (gv L S (to p.1 sym) (x.1,x.2+1) ((S.getD p.1 []).getD p.2 0)):=zhr h hs fun t ht=>.mv p.1 x t sym (hs _ _ _ ⟨p.2,hx,ht⟩) hn _ (hto p.1 x sym (List.mem_of_getElem? hx) hn);split
    ·exact h1
    ·rename_i hne h0
     have hbit:∃t,((S.getD p.1 []).getD p.2 0).testBit t=true:=Nat.exists_testBit_of_ne_zero hne;obtain⟨t0,ht0⟩:=hbit
     have hla:∀k,k<G.rs.length->(G.rs.getD k ⟨0,[],0⟩).l = -1-sym->∀u,(ofN (gn false G.rs G.ns.length) (fst G) ((S.getD p.1 []).getD p.2 0) (rest G x)).testBit u=true->La G E p.1 ((k:Int),0) (u:Int):=fun k hk e u hu=>by
      rw[List.getD_eq_getElem?_getD,List.getElem?_eq_getElem hk,Option.getD_some]at e;rcases(zau hok.lin _ _ _).1 hu with hb|⟨hb,hr⟩
      ·exact .bg p.1 x t0 sym (hs _ _ _ ⟨p.2,hx,ht0⟩) hn (by omega) k hk e _ hb
      ·exact .nu p.1 x u sym (hs _ _ _ ⟨p.2,hx,hr⟩) hn (by omega) k hk e hb
     have key:∀(ks:List Nat),(∀k∈ks,k<G.rs.length)->∀S1,Fit L S1->Snd G E L S1->Snd G E L (ks.foldl (ps1 G L p.1 sym (ofN (gn false G.rs G.ns.length) (fst G) ((S.getD p.1 []).getD p.2 0) (rest G x))) S1):=by
      intro ks;induction ks with
      | nil=>exact fun _ S1 _ h=>h
      | cons k ks ih =>
       intro hk S1 hf hS;rw[List.foldl_cons];refine ih (fun j hj=>hk j (List.mem_cons_of_mem _ hj)) _ (zdE _ _ _ S1 k hf).1 ?_;unfold ps1;split
       ·rename_i e
        exact zhr hf hS fun u hu=>hla k (hk k List.mem_cons_self) e u hu
       ·exact hS
     exact key _ (fun k hk=>List.mem_range.1 hk) _ (zcd h _ _ _) h1
theorem zht {L:List (List It)} {S:SS} (h:Fit L S) {q:Nat} {x:It} {s:Nat} (e:gv L S q x s=S) {t:Nat} (ht:s.testBit t=true) (hx:x∈L.getD q []):At L S q x t:=by
 obtain⟨i,hi⟩:=List.getElem?_of_mem hx
 have:=(zfX (L:=L) h (q:=q) (x:=x) (s:=s) (p:=q) (y:=x) (t:=t)).2 (.inr ⟨rfl,rfl,ht,i,hi⟩)
 rwa [e]at this
theorem zj1 {G:Gr} {E:List (List (Int×Int))} {to:Nat->Int->Nat} {L:List (List It)} (hto:∀(q:Nat) (x:It) (s:Int) (j:Nat),x∈L.getD q []->nx G x=some s->Ed E q s j->j=to q s) (hmv:∀(q:Nat) (x:It) (s:Int),x∈L.getD q []->nx G x=some s->(x.1,x.2+1)∈L.getD (to q s) [])
  (hrl:∀(q:Nat) (x:It) (s:Int) (k:Nat) (hk:k<G.rs.length),x∈L.getD q []->nx G x=some s->s<0->(G.rs[k]).l = -1-s->((k:Int),(0:Int))∈L.getD q []) {S:SS} (h:Fit L S) {q i:Nat} (e:ps G to L S (q,i)=S):Gvn G E L S q i:=by
 have key:∀x s,(L.getD q [])[i]?=some x->nx G x=some s->(S.getD q []).getD i 0≠0->gv L S (to q s) (x.1,x.2+1) ((S.getD q []).getD i 0)=S/\(s<0->∀k,k<G.rs.length->ps1 G L q s (ofN (gn false G.rs G.ns.length) (fst G) ((S.getD q []).getD i 0) (rest G x)) S k=S):=by
  intro x s hx hn hne;unfold ps at e;simp only[hx,hn]at e;rw[if_neg hne]at e;by_cases h0:0<=s
  ·rw[if_pos h0]at e;exact⟨e,fun k=>absurd h0 (by omega)⟩
  ·rw[if_neg h0]at e;have a1:=ziQ h (to q s) (x.1,x.2+1) ((S.getD q []).getD i 0);have a2:=zh8 (I:=Fit L) (fun s' k hs=>zdE (G:=G) q s (ofN (gn false G.rs G.ns.length) (fst G) ((S.getD q []).getD i 0) (rest G x)) s' k hs) (List.range G.rs.length) _ (zcd h (to q s) (x.1,x.2+1) ((S.getD q []).getD i 0));rw[e]at a2;have a3:=SLe.anti a1 a2.2;refine⟨a3,fun _ k hk=>?_⟩;rw[a3]at e;exact zcr (I:=Fit L) (fun s' k hs=>zdE (G:=G) _ _ _ s' k hs) _ S h e k (List.mem_range.2 hk)
 refine⟨fun x s hx hn t ht j he=>?_,fun x s hx hn h0 hne k hk hl u hu=>?_⟩
 ·have hm:=List.mem_of_getElem? hx;rw[hto q x s j hm hn he];exact zht h (key x s hx hn (zbo ht)).1 ht (hmv q x s hm hn)
 ·have:=(key x s hx hn hne).2 h0 k hk
  unfold ps1 at this;rw[if_pos (by rw[List.getD_eq_getElem?_getD,List.getElem?_eq_getElem hk,Option.getD_some];exact hl)]at this;exact zht h this hu (hrl q x s k hk (List.mem_of_getElem? hx) hn h0 hl)
end Lk
namespace Gm
noncomputable def zkg (p:Nat->Prop):Nat->Nat
 | 0=>0
 | n+1=>zkg p n ||| (if tr (p n)=true then 2 ^ n else 0)
theorem ze0 (p:Nat->Prop) (n j:Nat):(zkg p n).testBit j=true↔j<n/\p j:=by
 induction n with
 | zero=>rw[zkg];simp
 | succ n ih =>
  rw[zkg,Nat.testBit_or,Bool.or_eq_true,ih];by_cases h:tr (p n)=true
  ·rw[if_pos h,Nat.testBit_two_pow,decide_eq_true_eq];rw[tr_iff]at h
   constructor
   ·rintro(⟨h1,h2⟩|rfl)
    ·exact⟨by omega,h2⟩
    ·exact⟨by omega,h⟩
   ·rintro⟨h1,h2⟩;by_cases e:n=j
    ·exact .inr e
    ·exact .inl ⟨by omega,h2⟩
  ·rw[if_neg h];rw[tr_iff]at h
   constructor
   ·rintro(⟨h1,h2⟩|h1)
    ·exact⟨by omega,h2⟩
    ·simp at h1
   ·rintro⟨h1,h2⟩;by_cases e:j=n
    ·subst e;exact absurd h2 h
    ·exact .inl ⟨by omega,h2⟩
theorem zkf (p:Nat->Prop) (n:Nat):zkg p n<2 ^ n:=by
 refine Nat.lt_pow_two_of_testBit _ fun i hi=>?_;cases h:(zkg p n).testBit i
 ·rfl
 ·have:=(ze0 p n i).1 h;omega
def St (G:Gr) (i j:Int):Prop:=∃x∈G.rs,x.l=i/\Al true G.rs x.r/\∃p z q,x.r=p++z::q/\z<0/\j = -1-z/\Nu G p/\Nu G q
inductive Cm (G:Gr):Int->Int->Prop
 | one {i j:Int} (h:St G i j):Cm G i j
 | on {i k j:Int} (h:St G i k) (h2:Cm G k j):Cm G i j
theorem Cm.trans {G:Gr} {i k j:Int} (h:Cm G i k) (h2:Cm G k j):Cm G i j:=by
 induction h with
 | one h=>exact .on h h2
 | on h _ ih=>exact .on h (ih h2)
theorem St.lin {G:Gr} {n:Nat} (hl:Lin n G.rs) (hi:∀x∈G.rs,Sin n x.r) {i j:Int} (h:St G i j):(0<=i/\i<n)/\0<=j/\j<n:=by
 obtain⟨x,hx,rfl,_,p,z,q,e,hz,rfl,_⟩:=h
 have:=hi x hx z (by rw[e];simp) hz
 exact⟨hl x hx,by omega,this⟩
theorem Cm.lin {G:Gr} {n:Nat} (hl:Lin n G.rs) (hi:∀x∈G.rs,Sin n x.r) {i j:Int} (h:Cm G i j):(0<=i/\i<n)/\0<=j/\j<n:=by
 induction h with
 | one h=>exact h.lin hl hi
 | on h _ ih=>exact⟨(h.lin hl hi).1,ih.2⟩
theorem St.use {G:Gr} {i j:Int} (h:St G i j) (hr:Rc G i):Rc G j/\Gn true G.rs j:=by
 obtain⟨x,hx,rfl,ha,p,z,q,e,hz,rfl,_⟩:=h;have hm:z∈x.r:=by rw[e];simp
 exact⟨.on x hx hr ha z hm hz,ha.2 z hm hz⟩
end Gm
end Go.Proofs.YtcmhaemaophplaaGreat
namespace Go.Mw
open Go.RowKit Go.Maps
section
variable {κ:Type} [DecidableEq κ] {α:Type}
def putA:List (κ×α)->κ->α->List (κ×α)
 | [],x,v=>[(x,v)]
 | (k,u)::r,x,v=>if k=x then(k,v)::r else(k,u)::putA r x v
theorem asc_put {x y:κ} {v:α}:∀ {l:List (κ×α)},asc (putA l x v) y=if x=y then some v else asc l y
 | []=>by simp[putA,asc]
 | (k,u)::r=>by
  have ih:=asc_put (x:=x) (y:=y) (v:=v) (l:=r);unfold putA;by_cases h:k=x
  ·rw[if_pos h];subst h;unfold asc;by_cases e:k=y
   ·rw[if_pos e,if_pos e]
   ·rw[if_neg e,if_neg e,if_neg e]
  ·rw[if_neg h];unfold asc;rw[ih];by_cases e:k=y
   ·subst e;rw[if_pos rfl,if_neg (fun q=>h q.symm),if_pos rfl]
   ·rw[if_neg e,if_neg e]
theorem putA_none {x:κ} {v:α}:∀ {l:List (κ×α)},asc l x=none->putA l x v=l++[(x,v)]
 | [],_=>rfl
 | (k,u)::r,h=>by
  unfold asc at h;split at h
  ·cases h
  ·rename_i hk
   rw[putA,if_neg hk,putA_none h];rfl
theorem zcX {x:κ} {v:α}:∀ {l:List (κ×α)} {j:Nat} {u:α},(l.map Prod.fst).Nodup->l[j]?=some (x,u)->putA l x v=l.set j (x,v)
 | [],j,u,_,h=>by simp at h
 | (k,u0)::r,0,u,_,h=>by
  simp only[List.getElem?_cons_zero,Option.some.injEq]at h;injection h with h1 h2;rw[putA,if_pos h1,h1];rfl
 | (k,u0)::r,j+1,u,hn,h=>by
  rw[List.map_cons,List.nodup_cons]at hn;rw[List.getElem?_cons_succ]at h
  have:k≠x:=fun q=>hn.1 (by rw[q];exact List.mem_map.2 ⟨(x,u),List.mem_of_getElem? h,rfl⟩)
  rw[putA,if_neg this,zcX hn.2 h,List.set_cons_succ]
end
section
variable {P:Program} {kt:TypeId} {κ:Type} {E:Enc P kt κ} {w:World} {b:Nat} {l:List (κ×Value)}
def MapSt (E:Enc P kt κ) (w:World) (b:Nat) (l:List (κ×Value)):Prop :=
 ∃es clock,w.heap[b]?=some (.map es clock)/\es.toList.map (fun e=>(e.key,e.val))=l.map (fun p=>(E.enc p.1,p.2))/\(∀p∈l,E.ok p.1)/\(l.map Prod.fst).Nodup/\∀e∈es.toList,e.born<clock
theorem MapSt.is (h:MapSt E w b l):MapIs E w b l:=by
 obtain⟨es,clock,h1,h2,h3,h4,_⟩:=h;exact⟨es,clock,h1,h2,h3,h4⟩
theorem MapSt.made (E:Enc P kt κ) (w:World):MapSt E (w.alloc (.map #[] 0)) w.heap.size [] :=
 ⟨#[],0,(MapKept.heap_alloc w _).1,rfl,by simp,by simp,by simp⟩
theorem MapSt.lt (h:MapSt E w b l):b<w.heap.size:=h.is.lt
theorem MapSt.block {w':World} (h:MapSt E w b l) (hg:w'.heap[b]?=w.heap[b]?):MapSt E w' b l:=by
 obtain⟨es,clock,hb,r⟩:=h;exact⟨es,clock,hg.trans hb,r⟩
variable [DecidableEq κ]
theorem run_put {t e:TypeId} (h:MapIs E w b l) (K:Keyed P kt) (ht:P.underlying t=some (.map kt e)) {x:κ} (hx:E.ok x) (v:Value) :
  ∃w',(Instr.mapUpdate t (.map (some b)) (E.enc x) v).run P w=.ok () w'/\MapIs E w' b (putA l x v)/\w.grownBy w' (some b):=by
 obtain⟨lx,hlx⟩:=E.key x hx;have h0:=h;obtain⟨es,clock,hb,he,hf⟩:=find_in h K hx;obtain⟨es0,clock0,hb0,he0,hk,hn⟩:=h0;rw[hb]at hb0;injection hb0 with hb0;injection hb0 with hb0 hb1;subst hb0 hb1;rcases hf with⟨h1,h2⟩|⟨j,e0,h1,h2,h3,h4,h5⟩
 ·obtain⟨w',r1,r2,r3⟩:=run_store h K ht hx v (.inl h2);rw[if_pos h2]at r2;rw[putA_none h2];exact⟨w',r1,r2,r3⟩
 ·have hj:es[j]?=some e0:=by simpa using h2
  rw[zcX hn h5]
  have hmod:(es.modify j (fun e=>{e with key:=E.enc x,val:=v})).toList.map (fun e=>(e.key,e.val))=(l.set j (x,v)).map (fun p=>(E.enc p.1,p.2)):=by
   rw[Array.toList_modify,ChangeMaps.modify_eq_set _ _ _ _ h2,List.map_set,List.map_set,he]
  refine⟨ChangeMaps.setBlock w b (.map (es.modify j (fun e=>{e with key:=E.enc x,val:=v})) clock),?_,⟨_,_,ChangeMaps.heap_setBlock_same hb _,hmod,?_,?_⟩,⟨rfl,rfl,rfl,by simp[ChangeMaps.setBlock],fun i _ hi=>ChangeMaps.heap_setBlock_other hb _ (fun e=>hi (by rw[e]))⟩⟩
  ·simp[Instr.mapUpdate,run_underlying ht,MapKept.run_getObj_map hb,K.check w false hlx,h1,hj,h3,K.stays w hlx,MapKept.run_setObj_map _ hb,Result.andThen,ChangeMaps.setBlock]
  ·intro p hp;rcases List.mem_or_eq_of_mem_set hp with q|q
   ·exact hk p q
   ·rw[q];exact hx
  ·have e1:(l.set j (x,v)).map Prod.fst=l.map Prod.fst:=by
    rw[List.map_set];refine List.ext_getElem? fun i=>?_;rw[List.getElem?_set];by_cases hij:j=i
    ·subst hij;have hjl:j<(l.map Prod.fst).length:=by rw[List.length_map];exact(List.getElem?_eq_some_iff.1 h5).1
     rw[if_pos rfl,if_pos hjl,List.getElem?_map,h5];rfl
    ·rw[if_neg hij]
   rw[e1];exact hn
def zbd (E:Enc P kt κ) (w:World) (b:Nat) (l:List (κ×Value)) (x:κ) (clock:Nat):Prop :=
 ∃(es:Array MapEntry) (z:Value),w.heap[b]?=some (.map (es.push ⟨E.enc x,z,clock⟩) (clock+1))/\es.toList.map (fun e=>(e.key,e.val))=l.map (fun p=>(E.enc p.1,p.2))/\(∀p∈l,E.ok p.1)/\(l.map Prod.fst).Nodup/\(∀e∈es.toList,e.born<clock)/\E.ok x/\asc l x=none
theorem zbd.block {w':World} {x:κ} {c:Nat} (h:zbd E w b l x c) (hg:w'.heap[b]?=w.heap[b]?):zbd E w' b l x c:=by
 obtain⟨es,z,hb,r⟩:=h;exact⟨es,z,hg.trans hb,r⟩
theorem zbd.lt {x:κ} {c:Nat} (h:zbd E w b l x c):b<w.heap.size:=by
 obtain⟨es,z,hb,_⟩:=h;exact(Array.getElem?_eq_some_iff.1 hb).1
theorem run_entry {t e:TypeId} (h:MapSt E w b l) (K:Keyed P kt) (ht:P.underlying t=some (.map kt e)) {z:Value} (hz:(zeroValue e).run P w=.ok z w) {x:κ} (hx:E.ok x) (hn:asc l x=none) :
  ∃(c:Nat) (w':World),(Instr.mapEntry t (.map (some b)) (E.enc x)).run P w=.ok (.tuple #[z,goInt c]) w'/\zbd E w' b l x c/\w.grownBy w' (some b):=by
 obtain⟨lx,hlx⟩:=E.key x hx;have h0:=h;obtain⟨es,clock,hb,he,hf⟩:=find_in h.is K hx;obtain⟨es0,clock0,hb0,he0,hk,hnd,hst⟩:=h0;rw[hb]at hb0;injection hb0 with hb0;injection hb0 with hb0 hb1;subst hb0 hb1;rcases hf with⟨h1,h2⟩|⟨j,e0,h1,h2,h3,h4,h5⟩
 ·refine⟨clock,ChangeMaps.setBlock w b (.map (es.push ⟨E.enc x,z,clock⟩) (clock+1)),?_,⟨es,z,ChangeMaps.heap_setBlock_same hb _,he,hk,hnd,hst,hx,hn⟩,⟨rfl,rfl,rfl,by simp[ChangeMaps.setBlock],fun i _ hi=>ChangeMaps.heap_setBlock_other hb _ (fun e=>hi (by rw[e]))⟩⟩;simp[Instr.mapEntry,run_underlying ht,MapKept.run_getObj_map hb,K.check w false hlx,h1,hz,MapKept.run_setObj_map _ hb,Result.andThen,ChangeMaps.setBlock]
 ·rw[hn]at h4;cases h4
theorem zdW {es:List MapEntry} {c:Nat} (h:∀e∈es,e.born<c) (x:MapEntry) (hx:x.born=c):(es++[x]).findIdx? (fun e=>(e.born:Int)==(c:Int))=some es.length:=by
 induction es with
 | nil=>simp[hx]
 | cons y r ih =>
  have hy:=h y List.mem_cons_self;have ih:=ih fun e he=>h e (List.mem_cons_of_mem _ he);rw[List.cons_append,List.findIdx?_cons,ih]
  have:((y.born:Int)==(c:Int))=false:=by
   rw[beq_eq_false_iff_ne];omega
  rw[this];simp
theorem run_estore {t:TypeId} {x:κ} {c:Nat} (h:zbd E w b l x c) (v:Value) :
  ∃w',(Instr.entryStore t (.map (some b)) (goInt c) v).run P w=.ok () w'/\MapSt E w' b (l++[(x,v)])/\w.grownBy w' (some b):=by
 obtain⟨es,z,hb,he,hk,hn,hst,hx,hna⟩:=h
 have hfi:(es.push ⟨E.enc x,z,c⟩).findIdx? (fun e=>(e.born:Int)==(c:Int))=some es.size:=by
  rw[Go.WideElems.findIdx_arr,Array.toList_push,zdW hst _ rfl];simp
 have hmod:(es.push ⟨E.enc x,z,c⟩).modify es.size (fun e=>{e with val:=v})=es.push ⟨E.enc x,v,c⟩:=by
  apply Array.ext';rw[Array.toList_modify,Array.toList_push,Array.toList_push]
  have:∀(l:List MapEntry) (a:MapEntry),(l++[a]).modify l.length (fun e=>{e with val:=v})=l++[{a with val:=v}]:=fun l a=>by
   induction l with
   | nil=>rfl
   | cons y r ih=>rw[List.cons_append,List.length_cons,List.modify_succ_cons,ih];rfl
  exact this es.toList _
 refine⟨ChangeMaps.setBlock w b (.map (es.push ⟨E.enc x,v,c⟩) (c+1)),?_,⟨_,_,ChangeMaps.heap_setBlock_same hb _,?_,?_,?_,?_⟩,⟨rfl,rfl,rfl,by simp[ChangeMaps.setBlock],fun i _ hi=>ChangeMaps.heap_setBlock_other hb _ (fun e=>hi (by rw[e]))⟩⟩
 ·simp[Instr.entryStore,MapKept.run_getObj_map hb,asInt,asIntOf,goInt,hfi,hmod,MapKept.run_setObj_map _ hb,Result.andThen,ChangeMaps.setBlock]
 ·rw[Array.toList_push,List.map_append,List.map_append,he];rfl
 ·intro p hp;rcases List.mem_append.1 hp with q|q
  ·exact hk p q
  ·rw[List.mem_singleton]at q;subst q;exact hx
 ·rw[List.map_append,List.nodup_append];refine⟨hn,by simp,fun a ha d hd=>?_⟩;obtain⟨p,hp,rfl⟩:=List.mem_map.1 ha;simp only[List.map_cons,List.map_nil,List.mem_singleton]at hd;subst hd;exact za8.1 hna p hp
 ·intro e he;rw[Array.toList_push]at he;rcases List.mem_append.1 he with q|q
  ·have:=hst e q;omega
  ·rw[List.mem_singleton]at q;subst q;simp
end
end Go.Mw
namespace Go.Proofs.YtcmhaemaophplaaGreat
end Go.Proofs.YtcmhaemaophplaaGreat
namespace Go.Proofs.YtcmhaemaophplaaGreat
set_option maxRecDepth 100000
set_option maxHeartbeats 40000000
open Go.RowKit
namespace Au
theorem zhw {α:Type} {f:Int->List α} {b:Nat}:∀ {l:List Int},(∀r∈l,(f r).length<=b)->(l.flatMap f).length<=l.length*b
 | [],_=>by simp
 | x::l,h=>by
  rw[List.flatMap_cons,List.length_append,List.length_cons,Nat.add_mul,Nat.one_mul];have h1:=h x (List.mem_cons_self ..);have h2:=zhw (l:=l) fun r hr=>h r (List.mem_cons_of_mem _ hr);omega
theorem sy_le {G:Gm.Gr} (h:Gm.Ok G) {r:Int} (hr:r∈rls G):(sy G r).length<=6:=by
 unfold sy;split
 ·simp
 ·rename_i hn
  have h1:=(rls_mem.1 hr)
  have hlt:r.toNat<G.rs.length:=by omega
  rw[List.getD_eq_getElem?_getD,List.getElem?_eq_getElem hlt,Option.getD_some];exact(Gm.rule_in (h.rr _ (List.getElem_mem hlt))).1
theorem allI_le {G:Gm.Gr} (h:Gm.Ok G) (hr:G.rs.length<=40):(zhT G).length<=287:=by
 have h1:(zhT G).length<=(rls G).length*7:=zhw fun r hr=>by
  rw[List.length_map,List.length_range]
  have:=sy_le h hr
  omega
 have h2:(rls G).length=G.rs.length+1:=by simp[rls]
 omega
theorem kernel_le {G:Gm.Gr} (h:Gm.Ok G) (hr:G.rs.length<=40) {K:List (List It)} {E:List (List (Int×Int))} (hi:Inv G K E) {k:List It} (hk:k∈K):k.length<=287 :=
 Nat.le_trans (zjd (hi.it k hk).1 (hi.it k hk).2) (allI_le h hr)
theorem edges_le {G:Gm.Gr} (ht:G.ts.length<=24) (hn:G.ns.length<=40) {K:List (List It)} {E:List (List (Int×Int))} (hi:Inv G K E) {i:Nat} (h:i<E.length):E[i].length<=64:=by
 have h1:=(hi.ed i h).1;have h2:(E[i].map (·.1)).length<=(syms G).length:=by rw[h1];exact List.length_filter_le _ _
 rw[List.length_map,syms_len]at h2;omega
theorem zmc {G:Gm.Gr} (l:List It):(clo G l).length<=(zhT G).length:=List.length_filter_le _ _
theorem clo_le2 {G:Gm.Gr} (h:Gm.Ok G) (hr:G.rs.length<=40) (l:List It):(clo G l).length<=287:=Nat.le_trans (zmc l) (allI_le h hr)
structure CInv (G:Gm.Gr) (l out:List It):Prop where
 s:Srt out
 h:∀x∈l,x∈out
 c:∀x∈out,Cl G l x
theorem CInv.is {G:Gm.Gr} {l out:List It} (hl:∀x∈l,isI G x=true) (k:CInv G l out):∀x∈out,isI G x=true:=fun x hx=>cl_is hl (k.c x hx)
theorem CInv.le {G:Gm.Gr} {l out:List It} (hl:∀x∈l,isI G x=true) (k:CInv G l out):out.length<=(zhT G).length:=zjd k.s (k.is hl)
theorem CInv.put {G:Gm.Gr} {l out:List It} (k:CInv G l out) {x:It} (hx:x∈out) {s:Int} (hs:nx G x=some s) (h0:s<0) {j:Nat} (hj:j<G.rs.length) (he:(G.rs[j]).l = -1-s):CInv G l (put out ((j:Int),0)) :=
 ⟨zei k.s,fun y hy=>zb3.2 (.inr (k.h y hy)),fun y hy=>(zb3.1 hy).elim (fun e=>by rw[e];exact .on x (k.c x hx) s hs h0 j hj he) (k.c y)⟩
theorem CInv.start {G:Gm.Gr} (l:List It):CInv G l (zjf [] l) :=
 ⟨zcW List.Pairwise.nil,fun x hx=>za2.2 (.inr hx),fun x hx=>(za2.1 hx).elim (fun h=>by cases h) fun h=>.of x h⟩
theorem CInv.done {G:Gm.Gr} {l out:List It} (hl:∀x∈l,isI G x=true) (k:CInv G l out) (h:∀x∈out,∀s,nx G x=some s->s<0->∀j:Nat,∀hj:j<G.rs.length,(G.rs[j]).l = -1-s->((j:Int),0)∈out):out=clo G l:=zjx hl k.s k.h k.c h
def zlA (e:List (Int×Int)) (s:Int):Int:=((e.find? fun x=>x.1==s).map (·.2)).getD (-1)
def wlk (E:List (List (Int×Int))):Int->List Int->Option Int
 | q,[]=>if 0<=q/\q<E.length then some q else none
 | q,s::r=>if 0<=q/\q<E.length then wlk E (zlA (E.getD q.toNat []) s) r else none
end Au
namespace Au
theorem mv_le (G:Gm.Gr) (l:List It) (s:Int):(mv G l s).length<=l.length:=by
 unfold mv;rw[List.length_map];exact List.length_filter_le _ _
end Au
namespace Au
def addE (G:Gm.Gr) (x:It):List It:=match nx G x with
 | some s=>if s<0 then((List.range G.rs.length).filter fun k=>decide ((G.rs.getD k ⟨0,[],0⟩).l = -1-s)).map fun k:Nat=>((k:Int),(0:Int)) else []
 | none=>[]
def addA (G:Gm.Gr) (out:List It):List It:=zjf out (out.flatMap (addE G))
def rnds (G:Gm.Gr):Nat->List It->List It
 | 0,out=>out
 | n+1,out=>rnds G n (addA G out)
def cloC (G:Gm.Gr) (l:List It):List It:=rnds G 41 (zjf [] l)
theorem zbR {G:Gm.Gr} {x z:It}:z∈addE G x ↔ ∃s,nx G x=some s/\s<0/\∃k:Nat,∃hk:k<G.rs.length,(G.rs[k]).l = -1-s/\z=((k:Int),0):=by
 unfold addE;cases hn:nx G x with
 | none=>simp
 | some s =>
  by_cases h0:s<0
  ·simp only[if_pos h0]
   constructor
   ·intro h;obtain⟨k,hk,rfl⟩:=List.mem_map.1 h;obtain⟨h1,h2⟩:=List.mem_filter.1 hk;have h1:=List.mem_range.1 h1;rw[decide_eq_true_eq,List.getD_eq_getElem?_getD,List.getElem?_eq_getElem h1,Option.getD_some]at h2;exact⟨s,rfl,h0,k,h1,h2,rfl⟩
   ·rintro⟨s',e,_,k,hk,hl,rfl⟩;injection e with e;subst e;refine List.mem_map.2 ⟨k,List.mem_filter.2 ⟨List.mem_range.2 hk,?_⟩,rfl⟩;rw[decide_eq_true_eq,List.getD_eq_getElem?_getD,List.getElem?_eq_getElem hk,Option.getD_some];exact hl
  ·simp only[if_neg h0]
   constructor
   ·intro h;cases h
   ·rintro⟨s',e,h1,_⟩;injection e with e;omega
theorem CInv.addA {G:Gm.Gr} {l out:List It} (k:CInv G l out):CInv G l (addA G out):=by
 refine⟨zcW k.s,fun x hx=>za2.2 (.inl (k.h x hx)),fun x hx=>?_⟩;rcases za2.1 hx with h|h
 ·exact k.c x h
 ·obtain⟨y,hy,hz⟩:=List.mem_flatMap.1 h;obtain⟨s,hs,h0,j,hj,hl,rfl⟩:=zbR.1 hz;exact .on y (k.c y hy) s hs h0 j hj hl
theorem CInv.rnds {G:Gm.Gr} {l:List It}:∀(n:Nat) {out:List It},CInv G l out->CInv G l (rnds G n out)
 | 0,_,k=>k
 | n+1,_,k=>CInv.rnds n k.addA
theorem clo_c {G:Gm.Gr} {l:List It} (hl:∀x∈l,isI G x=true) (h:addA G (cloC G l)=cloC G l):clo G l=cloC G l:=by
 have k:CInv G l (cloC G l):=CInv.rnds 41 (CInv.start l);refine(k.done hl fun x hx s hs h0 j hj he=>?_).symm;rw[<-h];exact za2.2 (.inr (List.mem_flatMap.2 ⟨x,hx,zbR.2 ⟨s,hs,h0,j,hj,he,rfl⟩⟩))
def zmq (G:Gm.Gr):Nat->List (List It)->List (List (Int×Int))->Option (List (List It)×List (List (Int×Int)))
 | 0,_,_=>none
 | f+1,ks,es=>if es.length<ks.length then
   let c:=cloC G (ks.getD es.length [])
   let o:=edges G c (ks,[]) (syms G)
   if addA G c=c then(if 300<o.1.length then none else zmq G f o.1 (es++[o.2])) else none
  else some (ks,es)
theorem zkY {G:Gm.Gr}:∀(f:Nat) (ks:List (List It)) (es:List (List (Int×Int))),Inv G ks es->∀r,zmq G f ks es=some r->run G f ks es=some r
 | 0,_,_,_,_,h=>by cases h
 | f+1,ks,es,hi,r,h=>by
  rw[zmq]at h;rw[run];split at h
  ·rename_i hlt
   rw[if_pos hlt];simp only at h;split at h
   ·rename_i hc
    have hm:ks.getD es.length []∈ks:=by
     rw[List.getD_eq_getElem?_getD,List.getElem?_eq_getElem hlt,Option.getD_some];exact List.getElem_mem hlt
    have e:=clo_c (hi.it _ hm).2 hc;have e2:one G ks es.length=edges G (cloC G (ks.getD es.length [])) (ks,[]) (syms G):=by unfold one;rw[e]
    rw[<-e2]at h;split at h
    ·cases h
    ·rename_i h3
     rw[if_neg h3];exact zkY f _ _ (hi.step hlt) r h
   ·cases h
  ·rename_i hlt
   rw[if_neg hlt];exact h
theorem bld_c {G:Gm.Gr} {r:List (List It)×List (List (Int×Int))} (h:zmq G 302 [[(-1,0)]] []=some r):bld G=some r:=zkY 302 _ _ (Inv.start G) r h
def txt (k:List It):List Int:=k.flatMap fun x=>[x.1+1,x.2]
theorem zgl:∀ {a b:List It},txt a=txt b->a=b
 | [],[],_=>rfl
 | [],y::b,h=>by simp[txt]at h
 | x::a,[],h=>by simp[txt]at h
 | x::a,y::b,h=>by
  have h:(x.1+1)::x.2::txt a=(y.1+1)::y.2::txt b:=h;injection h with h1 h;injection h with h2 h;rw[zgl h,show x=y from Prod.ext (by omega) h2]
theorem txt_len (k:List It):(txt k).length=k.length*2:=by
 induction k with
 | nil=>rfl
 | cons x k ih =>
  have e:txt (x::k)=(x.1+1)::x.2::txt k:=rfl;rw[e,List.length_cons,List.length_cons,List.length_cons,ih];omega
theorem txt_snoc (k:List It) (x:It):txt (k++[x])=txt k++[x.1+1,x.2]:=by simp[txt]
theorem txt_in {G:Gm.Gr} (hok:Gm.Ok G) (hr:G.rs.length<=40) {k:List It} (h:∀x∈k,isI G x=true):∀z∈txt k,0<=z/\z<=255:=fun z hz=>by
 obtain⟨x,hx,hz⟩:=List.mem_flatMap.1 hz;have hi:=isI_iff.1 (h x hx);have h6:=sy_le hok (rls_mem.2 hi.1);rcases List.mem_cons.1 hz with rfl|hz
 ·omega
 ·rw[List.mem_singleton.1 hz];omega
def NumOk (l:List (List Int×Value)) (ks:List (List It)):Prop:=∀k:List It,Mw.asc l (txt k)=if fnd ks k<0 then none else some (.int .i64 (fnd ks k))
theorem NumOk.nil:NumOk [] []:=fun k=>by simp[Mw.asc,fnd]
theorem zfc {k k':List It}:∀ {ks:List (List It)},fnd (ks++[k]) k'=if fnd ks k'<0 then(if k=k' then(ks.length:Int) else -1) else fnd ks k'
 | []=>by simp[fnd]
 | y::ks=>by
  have ih:=zfc (k:=k) (k':=k') (ks:=ks);rw[List.cons_append,fnd,fnd,ih];by_cases e:y=k'
  ·simp[e]
  ·simp only[if_neg e];by_cases h1:fnd ks k'<0
   ·simp only[if_pos h1];by_cases h2:k=k'
    ·simp only[if_pos h2,List.length_cons];rw[if_neg (by omega)];simp
    ·simp only[if_neg h2];simp
   ·simp only[if_neg h1];rw[if_neg (by omega)]
theorem NumOk.snoc {l:List (List Int×Value)} {ks:List (List It)} {k:List It} (h:NumOk l ks) (hn:fnd ks k<0):NumOk (l++[(txt k,.int .i64 ks.length)]) (ks++[k]):=fun k'=>by
 have h0:Mw.asc l (txt k)=none:=by rw[h k,if_pos hn]
 rw[Mw.asc_snoc h0,zfc];by_cases e:k=k'
 ·subst e;rw[if_pos rfl,if_pos hn,if_pos rfl,if_neg (by omega)]
 ·rw[if_neg (fun q=>e (zgl q)),h k'];by_cases h1:fnd ks k'<0
  ·simp[h1,e]
  ·simp[h1]
theorem mv_app (G:Gm.Gr) (a b:List It) (s:Int):mv G (a++b) s=mv G a s++mv G b s:=by
 unfold mv;rw[List.filter_append,List.map_append]
theorem mv_one_no {G:Gm.Gr} {x:It} {s:Int} (h:nx G x≠some s):mv G [x] s=[]:=by
 unfold mv;rw[List.filter_cons,if_neg (by simpa using h)];rfl
theorem mv_one {G:Gm.Gr} {x:It} {s:Int} (h:nx G x=some s):mv G [x] s=[(x.1,x.2+1)]:=by
 unfold mv;rw[List.filter_cons,if_pos (by rw[h];simp)];rfl
structure PC (G:Gm.Gr) (l:List It) (i:Nat) (xs:List It):Prop where
 nd:xs.Nodup
 h:∀x∈l,x∈xs
 c:∀x∈xs,Cl G l x
 d:∀j,j<i->∀x,xs[j]?=some x->∀z∈addE G x,z∈xs
theorem zaX:∀ {a b:List It},a.Nodup->(∀x∈a,x∈b)->a.length<=b.length
 | [],_,_,_=>by simp
 | x::a,b,hn,h=>by
  obtain⟨h1,h2⟩:=List.nodup_cons.1 hn;have hx:=h x List.mem_cons_self;have hp:=List.length_erase_of_mem hx;have hpos:=List.length_pos_of_mem hx
  have ih:=zaX (a:=a) (b:=b.erase x) h2 fun y hy=>by
   have:y≠x:=fun e=>h1 (e▸hy)
   exact(List.mem_erase_of_ne this).2 (h y (List.mem_cons_of_mem _ hy))
  rw[List.length_cons];omega
theorem PC.le {G:Gm.Gr} {l xs:List It} {i:Nat} (hl:∀x∈l,isI G x=true) (k:PC G l i xs):xs.length<=(zhT G).length :=
 zaX k.nd fun x hx=>zbQ.2 (cl_is hl (k.c x hx))
def addX (xs:List It) (z:It):List It:=if z∈xs then xs else xs++[z]
theorem zi5 {xs:List It} {z y:It}:y∈addX xs z↔y=z\/y∈xs:=by
 unfold addX;split
 ·rename_i h
  exact⟨.inr,fun q=>q.elim (fun e=>e▸h) id⟩
 ·rw[List.mem_append,List.mem_singleton];exact Or.comm
theorem zkA {xs:List It} {z:It} (h:xs.Nodup):(addX xs z).Nodup:=by
 unfold addX;split
 ·exact h
 ·rename_i hz
  refine List.nodup_append.2 ⟨h,by simp,fun a ha b hb=>?_⟩;rw[List.mem_singleton.1 hb];exact fun e=>hz (e▸ha)
theorem zkB {xs:List It} {z:It} {j:Nat} (h:j<xs.length):(addX xs z)[j]?=xs[j]?:=by
 unfold addX;split
 ·rfl
 ·rw[List.getElem?_append_left h]
theorem zfr {xs:List It} {z:It}:xs.length<=(addX xs z).length:=by
 unfold addX;split
 ·exact Nat.le_refl _
 ·simp
def addsX (xs zs:List It):List It:=zs.foldl addX xs
theorem addsX_snoc (xs zs:List It) (z:It):addsX xs (zs++[z])=addX (addsX xs zs) z:=by simp[addsX]
theorem zaD {y:It}:∀ {zs xs:List It},y∈addsX xs zs↔y∈zs\/y∈xs
 | [],xs=>by simp[addsX]
 | z::zs,xs=>by
  have:=zaD (y:=y) (zs:=zs) (xs:=addX xs z)
  rw[show addsX xs (z::zs)=addsX (addX xs z) zs from rfl,this,zi5,List.mem_cons]
  constructor
  ·rintro(h|h|h)
   ·exact .inl (.inr h)
   ·exact .inl (.inl h)
   ·exact .inr h
  ·rintro((h|h)|h)
   ·exact .inr (.inl h)
   ·exact .inl h
   ·exact .inr (.inr h)
theorem zdh:∀ {zs xs:List It},xs.Nodup->(addsX xs zs).Nodup
 | [],_,h=>h
 | _::zs,_,h=>zdh (zs:=zs) (zkA h)
theorem addsX_len:∀ {zs xs:List It},xs.length<=(addsX xs zs).length
 | [],_=>Nat.le_refl _
 | z::zs,xs=>Nat.le_trans zfr (addsX_len (zs:=zs) (xs:=addX xs z))
theorem zfq {j:Nat}:∀ {zs xs:List It},j<xs.length->(addsX xs zs)[j]?=xs[j]?
 | [],_,_=>rfl
 | z::zs,xs,h=>(zfq (zs:=zs) (xs:=addX xs z) (Nat.lt_of_lt_of_le h zfr)).trans (zkB h)
theorem PC.start (G:Gm.Gr) (l:List It):PC G l 0 (addsX [] l) :=
 ⟨zdh List.nodup_nil,fun x hx=>zaD.2 (.inl hx),fun x hx=>(zaD.1 hx).elim (fun h=>.of x h) (fun h=>by cases h),fun j hj=>absurd hj (Nat.not_lt_zero _)⟩
theorem PC.next {G:Gm.Gr} {l xs:List It} {i:Nat} (k:PC G l i xs) {x:It} (hx:xs[i]?=some x):PC G l (i+1) (addsX xs (addE G x)):=by
 refine⟨zdh k.nd,fun y hy=>zaD.2 (.inr (k.h y hy)),fun y hy=>?_,fun j hj y hy z hz=>?_⟩
 ·rcases zaD.1 hy with h|h
  ·obtain⟨s,hs,h0,j,hj,hl,rfl⟩:=zbR.1 h;exact .on x (k.c x (List.mem_of_getElem? hx)) s hs h0 j hj hl
  ·exact k.c y h
 ·have hlt:i<xs.length:=(List.getElem?_eq_some_iff.1 hx).1;rw[zfq (by omega)]at hy;rcases Nat.lt_or_ge j i with h|h
  ·exact zaD.2 (.inr (k.d j h y hy z hz))
  ·obtain rfl:j=i:=by omega
   rw[hx]at hy;injection hy with hy;subst hy;exact zaD.2 (.inl hz)
theorem PC.done {G:Gm.Gr} {l xs out:List It} (hl:∀x∈l,isI G x=true) (k:PC G l xs.length xs) (hs:Srt out) (hm:∀x,x∈out↔x∈xs):out=clo G l:=by
 refine zjx hl hs (fun x hx=>(hm x).2 (k.h x hx)) (fun x hx=>k.c x ((hm x).1 hx)) fun x hx s hs h0 j hj he=>(hm _).2 ?_;obtain⟨q,hq,e⟩:=List.getElem_of_mem ((hm x).1 hx);exact k.d q hq x (by rw[List.getElem?_eq_getElem hq,e]) _ (zbR.2 ⟨s,hs,h0,j,hj,he,rfl⟩)
theorem srt_of {xs out:List It} (hn:xs.Nodup) (hp:out.Perm xs) (hs:out.Pairwise fun a b=>lt b a=false):Srt out:=by
 have hn2:out.Nodup:=hp.nodup_iff.2 hn;refine(List.pairwise_iff_getElem.2 fun i j hi hj hij=>?_);have h1:=List.pairwise_iff_getElem.1 hs i j hi hj hij;have h2:=List.pairwise_iff_getElem.1 (List.nodup_iff_pairwise_ne.1 hn2) i j hi hj hij;exact lt_or h1 (Ne.symm h2)
end Au
namespace Lk
open Au Gm Go.Mw
abbrev MP:=List ((Int×Int)×Nat)
def gN (M:MP) (x:Int×Int):Nat:=(asc M x).getD 0
def orN (M:MP) (x:Int×Int) (v:Nat):MP:=putA M x (gN M x ||| v)
theorem zlZ {M:MP} {x y:Int×Int} {v:Nat}:gN (putA M x v) y=if x=y then v else gN M y:=by
 unfold gN;rw[asc_put];split <;> rfl
theorem zf0 {M:MP} {x y:Int×Int} {v:Nat}:gN (orN M x v) y=if x=y then gN M x ||| v else gN M y:=zlZ
def encM (M:MP):List ((Int×Int)×Value):=M.map fun p=>(p.1,.int .u32 (p.2:Int))
theorem asc_enc {x:Int×Int}:∀ {M:MP},asc (encM M) x=(asc M x).map fun v:Nat=>(.int .u32 (v:Int):Value)
 | []=>rfl
 | (k,u)::r=>by
  have ih:=asc_enc (x:=x) (M:=r);unfold encM at ih ⊢;rw[List.map_cons];unfold asc;split
  ·rfl
  ·exact ih
theorem enc_put {x:Int×Int} {v:Nat}:∀ {M:MP},putA (encM M) x (.int .u32 (v:Int))=encM (putA M x v)
 | []=>rfl
 | (k,u)::r=>by
  have ih:=enc_put (x:=x) (v:=v) (M:=r);unfold encM at ih ⊢;rw[List.map_cons];unfold putA;split
  ·rfl
  ·rw[ih,List.map_cons]
theorem gN_enc (M:MP) (x:Int×Int):(asc (encM M) x).getD (.int .u32 0)=.int .u32 (gN M x:Int):=by
 rw[asc_enc];unfold gN;cases asc M x <;> rfl
def pc (v:Nat):Nat:=(List.range 32).countP fun t=>v.testBit t
theorem zj5:pc 0=0:=by decide
theorem zmK (v:Nat):pc v<=32:=by
 unfold pc
 have:=List.countP_le_length (p:=fun t=>v.testBit t) (l:=List.range 32)
 simpa using this
theorem zfj {p q:Nat->Bool}:∀ {l:List Nat},(∀x∈l,p x=true->q x=true)->(∃y∈l,q y=true/\p y=false)->l.countP p<l.countP q
 | [],_,h=>by obtain⟨y,hy,_⟩:=h;cases hy
 | x::l,h1,h2=>by
  have hl:l.countP p<=l.countP q:=List.countP_mono_left fun y hy=>h1 y (List.mem_cons_of_mem _ hy);rw[List.countP_cons,List.countP_cons];obtain⟨y,hy,hq,hp⟩:=h2;rcases List.mem_cons.1 hy with rfl|hy
  ·rw[hq,hp];simp;omega
  ·have:=zfj (l:=l) (fun z hz=>h1 z (List.mem_cons_of_mem _ hz)) ⟨y,hy,hq,hp⟩
   have h3:=h1 x List.mem_cons_self;cases hpx:p x
   ·simp;omega
   ·rw[h3 hpx];simp;omega
theorem zgV {a v:Nat} (ha:a<4294967296) (hv:v<4294967296) (h:a ||| v≠a):pc a<pc (a ||| v):=by
 have hor:a ||| v<4294967296:=or32 ha hv;obtain⟨t,ht⟩:∃t,(a ||| v).testBit t≠a.testBit t:=Classical.byContradiction fun hn=>h (Nat.eq_of_testBit_eq fun t=>Classical.byContradiction fun k=>hn ⟨t,k⟩);have hi:a.testBit t=true->(a ||| v).testBit t=true:=fun k=>by rw[Nat.testBit_or,k,Bool.true_or]
 have h1:(a ||| v).testBit t=true/\a.testBit t=false:=by
  cases e1:a.testBit t
  ·rw[e1]at ht;exact⟨by cases q:(a ||| v).testBit t <;> simp_all,rfl⟩
  ·rw[hi e1,e1]at ht;exact absurd rfl ht
 have ht32:t<32:=by
  rcases Nat.lt_or_ge t 32 with q|q
  ·exact q
  ·have:(a ||| v)<2 ^ t:=Nat.lt_of_lt_of_le hor (by have:=Nat.pow_le_pow_right (n:=2) (by decide) q;omega)
   rw[Nat.testBit_lt_two_pow this]at h1;cases h1.1
 exact zfj (fun x _ k=>by rw[Nat.testBit_or,k,Bool.true_or]) ⟨t,List.mem_range.2 ht32,h1.1,h1.2⟩
def cntM (M:MP):Nat:=(M.map fun p=>pc p.2).sum
theorem zhI {x:Int×Int} {v:Nat}:∀ {M:MP},cntM (putA M x v)+pc (gN M x)=cntM M+pc v
 | []=>by simp[cntM,putA,gN,asc,zj5]
 | (k,u)::r=>by
  have ih:=zhI (x:=x) (v:=v) (M:=r);unfold putA gN asc;unfold cntM gN at *;split
  ·simp only[List.map_cons,List.sum_cons,Option.getD_some];omega
  ·simp only[List.map_cons,List.sum_cons];omega
theorem ze7 {x:Int×Int} {v:Nat}:∀ {M:MP},(putA M x v).map Prod.fst=if asc M x=none then M.map Prod.fst++[x] else M.map Prod.fst
 | []=>rfl
 | (k,u)::r=>by
  have ih:=ze7 (x:=x) (v:=v) (M:=r);unfold putA asc;by_cases h:k=x
  ·rw[if_pos h,if_pos h,if_neg (by simp)];rfl
  ·rw[if_neg h,if_neg h,List.map_cons,ih];split <;> rfl
theorem zg2 {M:MP} {x:Int×Int} {v:Nat} (h:(M.map Prod.fst).Nodup):((putA M x v).map Prod.fst).Nodup:=by
 rw[ze7];split
 ·rename_i hn
  rw[List.nodup_append];refine⟨h,by simp,fun a ha c hc=>?_⟩;obtain⟨p,hp,rfl⟩:=List.mem_map.1 ha;rw[List.mem_singleton.1 hc];exact za8.1 hn p hp
 ·exact h
theorem zep {x:Int×Int} {v:Nat} {p:(Int×Int)×Nat}:∀ {M:MP},p∈putA M x v->p∈M\/p=(x,v)
 | [],h=>by simpa[putA] using h
 | (k,u)::r,h=>by
  unfold putA at h;split at h
  ·rename_i e
   rcases List.mem_cons.1 h with h|h
   ·right;rw[h,e]
   ·exact .inl (List.mem_cons_of_mem _ h)
  ·rcases List.mem_cons.1 h with h|h
   ·exact .inl (by rw[h];exact List.mem_cons_self)
   ·rcases zep h with h|h
    ·exact .inl (List.mem_cons_of_mem _ h)
    ·exact .inr h
theorem zfa {M:MP} {x:Int×Int} (h:gN M x≠0):(x,gN M x)∈M:=by
 unfold gN at h ⊢;cases e:asc M x with
 | none=>rw[e]at h;exact absurd rfl h
 | some v=>exact asc_mem e
def Sub (a b:Nat):Prop:=∀t:Nat,a.testBit t=true->b.testBit t=true
theorem Sub.refl (a:Nat):Sub a a:=fun _ h=>h
theorem Sub.trans {a b c:Nat} (h:Sub a b) (k:Sub b c):Sub a c:=fun t e=>k t (h t e)
theorem Sub.inl (a b:Nat):Sub a (a ||| b):=fun t h=>by rw[Nat.testBit_or,h,Bool.true_or]
theorem Sub.inr (a b:Nat):Sub b (a ||| b):=fun t h=>by rw[Nat.testBit_or,h,Bool.or_true]
theorem Sub.ne {a b:Nat} (h:Sub a b) (k:a≠0):b≠0:=by
 obtain⟨t,ht⟩:=Nat.exists_testBit_of_ne_zero k;exact zbo (h t ht)
theorem Sub.of {a b:Nat} (h:a ||| b=a):Sub b a:=fun t k=>by rw[<-h];exact Sub.inr a b t k
def MLe (M M':MP):Prop:=∀y,Sub (gN M y) (gN M' y)
theorem MLe.refl (M:MP):MLe M M:=fun _=>Sub.refl _
theorem MLe.or (M:MP) (x:Int×Int) (v:Nat):MLe M (orN M x v):=fun y=>by
 rw[zf0];split
 ·rename_i e;rw[e];exact Sub.inl _ _
 ·exact Sub.refl _
theorem or_has (M:MP) (x:Int×Int) (v:Nat):Sub v (gN (orN M x v) x):=by
 rw[zf0,if_pos rfl];exact Sub.inr _ _
theorem zcb {s j:Int}:∀ {e:List (Int×Int)},(e.map (·.1)).Nodup->(s,j)∈e->zlA e s=j
 | [],_,h=>by cases h
 | x::e,hn,h=>by
  rw[List.map_cons,List.nodup_cons]at hn;unfold zlA;rw[List.find?_cons];by_cases hx:x.1=s
  ·rw[show(x.1==s)=true by simpa using hx];rcases List.mem_cons.1 h with e1|e1
   ·rw[<-e1];rfl
   ·exact absurd (List.mem_map.2 ⟨(s,j),e1,hx.symm⟩) hn.1
  ·rw[show(x.1==s)=false by simpa using hx];rcases List.mem_cons.1 h with e1|e1
   ·exact absurd (by rw[<-e1]) hx
   ·exact zcb hn.2 e1
def tof (E:List (List (Int×Int))) (q:Nat) (s:Int):Nat:=(zlA (E.getD q []) s).toNat
def fol (E:List (List (Int×Int))):Nat->List Int->Nat
 | q,[]=>q
 | q,s::r=>fol E (tof E q s) r
theorem fol_snoc {E:List (List (Int×Int))} {s:Int}:∀ {a:List Int} {q:Nat},fol E q (a++[s])=tof E (fol E q a) s
 | [],_=>rfl
 | _::a,_=>fol_snoc (a:=a)
section
variable {G:Gr} {K:List (List It)} {E:List (List (Int×Int))}
theorem keys_nd (h:Inv G K E) {i:Nat} (hi:i<E.length):(E[i].map (·.1)).Nodup:=by
 rw[(h.ed i hi).1];exact(zfx G).filter _
theorem zjw (h:Inv G K E) {i j:Nat} {s:Int} (he:Ed E i s j):tof E i s=j:=by
 obtain⟨hi,he⟩:=he;unfold tof;rw[List.getD_eq_getElem?_getD,List.getElem?_eq_getElem hi,Option.getD_some,zcb (keys_nd h hi) he];omega
theorem zkV (hok:Ok G) {r z:Int} (h:z∈sy G r):z<G.ts.length/\-1-z<G.ns.length:=by
 unfold sy at h;split at h
 ·rw[List.mem_singleton.1 h]
  have:=hok.s0;have:=hok.s1
  omega
 ·rcases Nat.lt_or_ge r.toNat G.rs.length with hk|hk
  ·rw[List.getD_eq_getElem?_getD,List.getElem?_eq_getElem hk,Option.getD_some]at h
   have:=(rule_in (hok.rr _ (List.getElem_mem hk))).2.2.2 z h
   exact⟨this.1,this.2.1⟩
  ·rw[List.getD_eq_getElem?_getD,List.getElem?_eq_none hk,Option.getD_none]at h;cases h
theorem ziK (hok:Ok G) {i:Nat} {x:It} {t:Int} (hl:La G E i x t):0<=t/\t<=G.ts.length:=by
 induction hl with
 | st=>omega
 | bg i x t s _ hs h0 k hk hl u hu ih=>exact⟨zd0 hu,Int.le_of_lt (zf9 hok (fun z hz=>(zkV hok (List.mem_of_mem_drop hz)).1) hu)⟩
 | nu i x t s _ hs h0 k hk hl hn ih=>exact ih
 | mv i x t s _ hs j he ih=>exact ih
def Wk (G:Gr) (E:List (List (Int×Int))) (i:Nat) (s t:Int):Prop:=∃x,nx G x=some s/\((Bg G t (rest G x)/\∃u,La G E i x u)\/Nu G (rest G x)/\La G E i x t)
theorem Wk.la {i:Nat} {s t:Int} (h:Wk G E i s t) (h0:s<0) {k:Nat} (hk:k<G.rs.length) (hl:(G.rs[k]).l = -1-s):La G E i ((k:Int),0) t:=by
 obtain⟨x,hs,⟨hb,u,hu⟩|⟨hn,hu⟩⟩:=h
 ·exact .bg i x u s hu hs h0 k hk hl t hb
 ·exact .nu i x t s hu hs h0 k hk hl hn
theorem Wk.start (G:Gr) (E:List (List (Int×Int))):Wk G E 0 (-1-G.st) G.ts.length:=⟨(-1,0),rfl,.inr ⟨by have e:rest G (-1,0)=[]:=rfl;rw[e];exact nu_nil G,.st⟩⟩
theorem Wk.le (hok:Ok G) {i:Nat} {s t:Int} (h:Wk G E i s t):0<=t/\t<=G.ts.length:=by
 obtain⟨x,hs,⟨hb,_⟩|⟨_,hu⟩⟩:=h
 ·exact⟨zd0 hb,Int.le_of_lt (zf9 hok (fun z hz=>(zkV hok (List.mem_of_mem_drop hz)).1) hb)⟩
 ·exact ziK hok hu
noncomputable def ofV (G:Gr) (v:Nat) (r:List Int):Nat:=ofN (gn false G.rs G.ns.length) (fst G) v r
def PdD (G:Gr) (E:List (List (Int×Int))) (M:MP) (q v k d:Nat):Prop :=
 ∀hk:k<G.rs.length,∀d',d'<d->∀hd:d'<(G.rs[k]).r.length,(G.rs[k]).r[d']<0->Sub (ofV G v ((G.rs[k]).r.drop (d'+1))) (gN M ((fol E q ((G.rs[k]).r.take d'):Nat),(G.rs[k]).r[d']))
def PdE (G:Gr) (E:List (List (Int×Int))) (D:MP) (q v k:Nat):Prop:=∀hk:k<G.rs.length,Sub v (gN D ((fol E q (G.rs[k]).r:Nat),(k:Int)))
def PdK (G:Gr) (E:List (List (Int×Int))) (M D:MP) (q:Nat) (s:Int) (v n:Nat):Prop :=
 ∀k,∀hk:k<G.rs.length,k<n->(G.rs[k]).l = -1-s->PdD G E M q v k (G.rs[k]).r.length/\PdE G E D q v k
def Pd (G:Gr) (E:List (List (Int×Int))) (M D:MP) (x:Int×Int):Prop:=PdK G E M D x.1.toNat x.2 (gN M x) G.rs.length
theorem PdD.mono {M M':MP} {q v k d:Nat} (h:PdD G E M q v k d) (hm:MLe M M'):PdD G E M' q v k d:=fun hk d' hd hl h0=>(h hk d' hd hl h0).trans (hm _)
theorem PdE.mono {D D':MP} {q v k:Nat} (h:PdE G E D q v k) (hm:MLe D D'):PdE G E D' q v k:=fun hk=>(h hk).trans (hm _)
theorem PdK.mono {M M' D D':MP} {q v n:Nat} {s:Int} (h:PdK G E M D q s v n) (hm:MLe M M') (hd:MLe D D'):PdK G E M' D' q s v n:=fun k hk hn hl=>⟨(h k hk hn hl).1.mono hm,(h k hk hn hl).2.mono hd⟩
theorem PdD.zero (M:MP) (q v k:Nat):PdD G E M q v k 0:=fun _ _ h=>absurd h (Nat.not_lt_zero _)
theorem PdD.step {M:MP} {q v k d:Nat} (h:PdD G E M q v k d) (hs:∀hk:k<G.rs.length,∀hd:d<(G.rs[k]).r.length,(G.rs[k]).r[d]<0->Sub (ofV G v ((G.rs[k]).r.drop (d+1))) (gN M ((fol E q ((G.rs[k]).r.take d):Nat),(G.rs[k]).r[d]))):PdD G E M q v k (d+1):=fun hk d' hd hl h0=>by
 by_cases e:d'=d
 ·subst e;exact hs hk hl h0
 ·exact h hk d' (by omega) hl h0
theorem PdK.zero (M D:MP) (q v:Nat) (s:Int):PdK G E M D q s v 0:=fun _ _ h=>absurd h (Nat.not_lt_zero _)
theorem PdK.step {M D:MP} {q v n:Nat} {s:Int} (h:PdK G E M D q s v n) (hs:∀hk:n<G.rs.length,(G.rs[n]).l = -1-s->PdD G E M q v n (G.rs[n]).r.length/\PdE G E D q v n):PdK G E M D q s v (n+1):=fun k hk hn hl=>by
 by_cases e:k=n
 ·subst e;exact hs hk hl
 ·exact h k hk (by omega) hl
structure WB (G:Gr) (K:List (List It)) (E:List (List (Int×Int))) (M D:MP) (st:List (Int×Int)):Prop where
 mn:(M.map Prod.fst).Nodup
 mq:∀p∈M,∃i:Nat,i<K.length/\p.1.1=i/\p.1.2<0/\-1-p.1.2<G.ns.length/\p.2≠0/\p.2<4294967296
 ms:∀(i:Nat) (s:Int) (t:Nat),(gN M ((i:Int),s)).testBit t=true->Wk G E i s t
 dk:∀p∈D,p.2≠0/\p.2<4294967296
 ds:∀(i k t:Nat),(gN D ((i:Int),(k:Int))).testBit t=true->∃hk:k<G.rs.length,La G E i ((k:Int),((G.rs[k]).r.length:Int)) t
 s0:(gN M (0,-1-G.st)).testBit G.ts.length=true
 sk:∀x∈st,gN M x≠0
structure WI (G:Gr) (K:List (List It)) (E:List (List (Int×Int))) (M D:MP) (st:List (Int×Int)):Prop where
 b:WB G K E M D st
 cl:∀x,gN M x≠0->x∈st\/Pd G E M D x
structure WP (G:Gr) (K:List (List It)) (E:List (List (Int×Int))) (q:Nat) (s:Int) (v:Nat) (M D:MP) (st:List (Int×Int)):Prop where
 b:WB G K E M D st
 ot:∀x,x≠((q:Int),s)->gN M x≠0->x∈st\/Pd G E M D x
 me:((q:Int),s)∈st\/gN M ((q:Int),s)=v
 v0:v≠0
 vl:v<4294967296
 q1:q<K.length
 s1:s<0
 vs:∀t:Nat,v.testBit t=true->Wk G E q s t
theorem WB.lt {M D:MP} {st:List (Int×Int)} (h:WB G K E M D st) (x:Int×Int):gN M x<4294967296:=by
 by_cases e:gN M x=0
 ·omega
 ·obtain⟨_,_,_,_,_,_,h2⟩:=h.mq _ (zfa e);exact h2
theorem WB.dlt {M D:MP} {st:List (Int×Int)} (h:WB G K E M D st) (x:Int×Int):gN D x<4294967296:=by
 by_cases e:gN D x=0
 ·omega
 ·exact(h.dk _ (zfa e)).2
theorem zld {a b:Nat} (h:b≠0):a ||| b≠0:=(Sub.inr a b).ne h
theorem WB.visit {M D:MP} {st:List (Int×Int)} (h:WB G K E M D st) {i:Nat} {z:Int} {more:Nat} (hi:i<K.length) (hz:z<0) (hz2:-1-z<G.ns.length) (hm:more<4294967296) (h0:more≠0) (hw:∀t:Nat,more.testBit t=true->Wk G E i z t):WB G K E (orN M ((i:Int),z) more) D (st++[((i:Int),z)]):=by
 refine⟨zg2 h.mn,fun p hp=>?_,fun i' s t ht=>?_,h.dk,h.ds,MLe.or M _ _ _ _ h.s0,fun x hx=>?_⟩
 ·rcases zep hp with hp|rfl
  ·exact h.mq p hp
  ·exact⟨i,hi,rfl,hz,hz2,zld h0,or32 (h.lt _) hm⟩
 ·rw[zf0]at ht;split at ht
  ·rename_i e
   injection e with e1 e2;have e1:i=i':=by omega
   subst e1 e2;rw[Nat.testBit_or,Bool.or_eq_true]at ht;rcases ht with ht|ht
   ·exact h.ms _ _ _ ht
   ·exact hw t ht
  ·exact h.ms _ _ _ ht
 ·rcases List.mem_append.1 hx with hx|hx
  ·exact(MLe.or M ((i:Int),z) more x).ne (h.sk x hx)
  ·rw[List.mem_singleton.1 hx];exact(or_has M ((i:Int),z) more).ne h0
theorem Pd.mono {M M' D D':MP} {x:Int×Int} (h:Pd G E M D x) (hm:MLe M M') (hd:MLe D D') (he:gN M' x=gN M x):Pd G E M' D' x:=by
 unfold Pd at h ⊢;rw[he];exact PdK.mono h hm hd
theorem WP.visit {q v:Nat} {s:Int} {M D:MP} {st:List (Int×Int)} (h:WP G K E q s v M D st) {i:Nat} {z:Int} {more:Nat} (hi:i<K.length) (hz:z<0) (hz2:-1-z<G.ns.length) (hm:more<4294967296) (h0:more≠0) (hw:∀t:Nat,more.testBit t=true->Wk G E i z t):WP G K E q s v (orN M ((i:Int),z) more) D (st++[((i:Int),z)]):=by
 refine⟨h.b.visit hi hz hz2 hm h0 hw,fun x hx hn=>?_,?_,h.v0,h.vl,h.q1,h.s1,h.vs⟩
 ·by_cases e:((i:Int),z)=x
  ·exact .inl (List.mem_append_right _ (by rw[e];exact List.mem_singleton.2 rfl))
  ·have he:gN (orN M ((i:Int),z) more) x=gN M x:=by rw[zf0,if_neg e]
   rw[he]at hn;rcases h.ot x hx hn with k|k
   ·exact .inl (List.mem_append_left _ k)
   ·exact .inr (k.mono (MLe.or _ _ _) (MLe.refl _) he)
 ·by_cases e:((i:Int),z)=((q:Int),s)
  ·exact .inl (List.mem_append_right _ (by rw[e];exact List.mem_singleton.2 rfl))
  ·rcases h.me with k|k
   ·exact .inl (List.mem_append_left _ k)
   ·exact .inr (by rw[zf0,if_neg e];exact k)
theorem WP.put {q v:Nat} {s:Int} {M D:MP} {st:List (Int×Int)} (h:WP G K E q s v M D st) {j k:Nat} (hk:k<G.rs.length) (hw:∀t:Nat,v.testBit t=true->La G E j ((k:Int),((G.rs[k]).r.length:Int)) t):WP G K E q s v M (orN D ((j:Int),(k:Int)) v) st:=by
 refine⟨⟨h.b.mn,h.b.mq,h.b.ms,fun p hp=>?_,fun i' k' t ht=>?_,h.b.s0,h.b.sk⟩,fun x hx hn=>?_,h.me,h.v0,h.vl,h.q1,h.s1,h.vs⟩
 ·rcases zep hp with hp|rfl
  ·exact h.b.dk p hp
  ·exact⟨zld h.v0,or32 (h.b.dlt _) h.vl⟩
 ·rw[zf0]at ht;split at ht
  ·rename_i e
   injection e with e1 e2;have e1:j=i':=by omega
   have e2:k=k':=by omega
   subst e1 e2;rw[Nat.testBit_or,Bool.or_eq_true]at ht;rcases ht with ht|ht
   ·exact h.b.ds _ _ _ ht
   ·exact⟨hk,hw t ht⟩
  ·exact h.b.ds _ _ _ ht
 ·rcases h.ot x hx hn with k|k
  ·exact .inl k
  ·exact .inr (k.mono (MLe.refl _) (MLe.or _ _ _) rfl)
theorem WI.take {M D:MP} {st:List (Int×Int)} {x:Int×Int} (h:WI G K E M D (st++[x])):∃(q:Nat),x=((q:Int),x.2)/\WP G K E q x.2 (gN M x) M D st:=by
 have hx:gN M x≠0:=h.b.sk x (List.mem_append_right _ (List.mem_singleton.2 rfl));obtain⟨q,h1,h2,h3,h4,h5,h6⟩:=h.b.mq _ (zfa hx);have e:x=((q:Int),x.2):=Prod.ext h2 rfl;refine⟨q,e,⟨⟨h.b.mn,h.b.mq,h.b.ms,h.b.dk,h.b.ds,h.b.s0,fun y hy=>h.b.sk y (List.mem_append_left _ hy)⟩,fun y hy hn=>?_,.inr (by rw[<-e]),hx,h6,h1,h3,fun t ht=>h.b.ms q x.2 t (by rw[<-e];exact ht)⟩⟩;rcases h.cl y hn with k|k
 ·rcases List.mem_append.1 k with k|k
  ·exact .inl k
  ·exact absurd ((List.mem_singleton.1 k).trans e) hy
 ·exact .inr k
theorem WP.done {q v:Nat} {s:Int} {M D:MP} {st:List (Int×Int)} (h:WP G K E q s v M D st) (hp:PdK G E M D q s v G.rs.length):WI G K E M D st:=by
 refine⟨h.b,fun x hn=>?_⟩;by_cases e:x=((q:Int),s)
 ·subst e;rcases h.me with k|k
  ·exact .inl k
  ·refine .inr ?_;unfold Pd;rw[k];exact hp
 ·exact h.ot x e hn
theorem WI.start (h0:0<K.length) (hok:Ok G) (ht:G.ts.length<=24):WI G K E [((0,-1-G.st),2 ^ G.ts.length)] [] [(0,-1-G.st)]:=by
 have hp:0<2 ^ G.ts.length:=Nat.pow_pos (by decide);have hp2:2 ^ G.ts.length<=2 ^ 24:=Nat.pow_le_pow_right (by decide) ht
 have hg:∀x,gN [((0,-1-G.st),2 ^ G.ts.length)] x=if((0:Int),-1-G.st)=x then 2 ^ G.ts.length else 0:=fun x=>by
  unfold gN asc;split <;> rfl
 refine⟨⟨by simp,fun p hp'=>?_,fun i s t ht=>?_,by simp,fun i k t ht=>?_,?_,fun x hx=>?_⟩,fun x hn=>?_⟩
 ·rw[List.mem_singleton.1 hp'];refine⟨0,h0,rfl,?_,?_,?_,?_⟩
  ·have:=hok.s0;simp only;omega
  ·have:=hok.s1;simp only;omega
  ·simp only;omega
  ·simp only;omega
 ·rw[hg]at ht;split at ht
  ·rename_i e
   injection e with e1 e2;have e1:0=i:=by omega
   subst e1 e2;rw[Nat.testBit_two_pow,decide_eq_true_eq]at ht;rw[<-ht];exact Wk.start G E
  ·simp at ht
 ·simp[gN,asc]at ht
 ·rw[hg,if_pos rfl,Nat.testBit_two_pow];simp
 ·rw[List.mem_singleton.1 hx,hg,if_pos rfl];omega
 ·rw[hg]at hn;split at hn
  ·rename_i e
   exact .inl (List.mem_singleton.2 e.symm)
  ·exact absurd rfl hn
theorem zgM {k d:Nat} (hk:k<G.rs.length):rest G ((k:Int),(d:Int))=(G.rs[k]).r.drop (d+1):=by
 unfold rest;simp only[zds hk,Int.toNat_natCast]
theorem nx_at {k d:Nat} {s:Int} (hk:k<G.rs.length) (h:nx G ((k:Int),(d:Int))=some s):∃hd:d<(G.rs[k]).r.length,(G.rs[k]).r[d]=s:=by
 unfold nx at h;simp only[zds hk,Int.toNat_natCast]at h;exact List.getElem?_eq_some_iff.1 h
theorem zeW {x:It} {s:Int} (h1:x.1 = -1) (h2:0<=x.2) (h:nx G x=some s):x=(-1,0)/\s = -1-G.st/\rest G x=[]:=by
 have hlt:=zkb h2 h;have hsy:sy G x.1=[-1-G.st]:=by rw[h1];rfl
 rw[hsy]at hlt;have e2:x.2=0:=by simp at hlt;omega
 have e:x=(-1,0):=Prod.ext h1 e2;subst e;refine⟨rfl,?_,rfl⟩
 have:nx G (-1,0)=some (-1-G.st):=rfl
 rw[this]at h;injection h with h;exact h.symm
theorem WI.all {M D:MP} (h:WI G K E M D []) (hi:Inv G K E) (hok:Ok G) {q:Nat} {x:It} {t:Int} (hl:La G E q x t) :
  (x.1 = -1/\0<=x.2/\(x.2=0->q=0)/\t=G.ts.length) \/ ∃k,∃hk:k<G.rs.length,∃d q0 n:Nat,x=((k:Int),(d:Int))/\d<=(G.rs[k]).r.length/\t=(n:Int)/\fol E q0 ((G.rs[k]).r.take d)=q/\(gN M ((q0:Int),-1-(G.rs[k]).l)).testBit n=true:=by
 have key:∀(k:Nat) (hk:k<G.rs.length) (d q0 n:Nat) (q:Nat) (s:Int),d<=(G.rs[k]).r.length->fol E q0 ((G.rs[k]).r.take d)=q->(gN M ((q0:Int),-1-(G.rs[k]).l)).testBit n=true->nx G ((k:Int),(d:Int))=some s->s<0 ->
   Sub (ofV G (gN M ((q0:Int),-1-(G.rs[k]).l)) (rest G ((k:Int),(d:Int)))) (gN M ((q:Int),s)):=by
  intro k hk d q0 n q s hd hf hb hs h0;obtain⟨hd2,e⟩:=nx_at hk hs;rcases h.cl _ (zbo hb) with hc|hc
  ·cases hc
  ·have:=(hc k hk hk (by omega)).1 hk d hd2 hd2 (by rw[e];exact h0)
   rw[Int.toNat_natCast,hf,e]at this;rw[zgM hk];exact this
 induction hl with
 | st=>exact .inl ⟨rfl,by decide,fun _=>rfl,rfl⟩
 | bg i x t s _ hs h0 k hk hl u hu ih =>
  rcases ih with⟨h1,h2,_,_⟩|⟨k',hk',d,q0,n,rfl,hd,rfl,hf,hb⟩
  ·rw[(zeW h1 h2 hs).2.2]at hu;exact absurd hu bg_nil
  ·have hp:=zd0 hu
   have:=key k' hk' d q0 n i s hd hf hb hs h0 u.toNat ((zau hok.lin _ _ _).2 (.inl (by rw[Int.toNat_of_nonneg hp];exact hu)))
   exact .inr ⟨k,hk,0,i,u.toNat,rfl,Nat.zero_le _,by omega,rfl,by rw[hl,show -1-(-1-s)=s by omega];exact this⟩
 | nu i x t s _ hs h0 k hk hl hn ih =>
  rcases ih with⟨h1,h2,h3,h4⟩|⟨k',hk',d,q0,n,rfl,hd,rfl,hf,hb⟩
  ·obtain⟨rfl,rfl,_⟩:=zeW h1 h2 hs;obtain rfl:=h3 rfl;exact .inr ⟨k,hk,0,0,G.ts.length,rfl,Nat.zero_le _,h4,rfl,by rw[hl,show -1-(-1-(-1-G.st)) = -1-G.st by omega];exact h.b.s0⟩
  ·have:=key k' hk' d q0 n i s hd hf hb hs h0 n ((zau hok.lin _ _ _).2 (.inr ⟨hn,hb⟩))
   exact .inr ⟨k,hk,0,i,n,rfl,Nat.zero_le _,rfl,rfl,by rw[hl,show -1-(-1-s)=s by omega];exact this⟩
 | mv i x t s _ hs j he ih =>
  rcases ih with⟨h1,h2,h3,h4⟩|⟨k',hk',d,q0,n,rfl,hd,rfl,hf,hb⟩
  ·exact .inl ⟨h1,by show 0<=x.2+1;omega,fun e=>by have e:x.2+1=0:=e;omega,h4⟩
  ·obtain⟨hd2,e⟩:=nx_at hk' hs;refine .inr ⟨k',hk',d+1,q0,n,by rw[Int.natCast_succ],hd2,rfl,?_,hb⟩;rw[List.take_succ_eq_append_getElem hd2,fol_snoc,hf,e];exact zjw hi he
theorem WI.ends {M D:MP} (h:WI G K E M D []) (hi:Inv G K E) (hok:Ok G) {i k:Nat} (hk:k<G.rs.length) (t:Nat):(gN D ((i:Int),(k:Int))).testBit t=true↔La G E i ((k:Int),((G.rs[k]).r.length:Int)) t:=by
 constructor
 ·intro ht;exact(h.b.ds i k t ht).2
 ·intro hl;rcases h.all hi hok hl with⟨h1,_⟩|⟨k',hk',d,q0,n,e,hd,en,hf,hb⟩
  ·simp only at h1;omega
  ·injection e with e1 e2;have e1:k=k':=by omega
   subst e1;have e2:(G.rs[k]).r.length=d:=by omega
   have en:t=n:=by omega
   subst e2 en;rw[List.take_length]at hf;rcases h.cl _ (zbo hb) with hc|hc
   ·cases hc
   ·have:=(hc k hk hk (by omega)).2 hk t hb
    rw[Int.toNat_natCast,hf]at this;exact this
noncomputable def laN (G:Gr) (E:List (List (Int×Int))) (q:Nat) (x:It):Nat:=zkg (fun t=>La G E q x (t:Int)) (G.ts.length+1)
theorem zc5 (hok:Ok G) (q:Nat) (x:It) (t:Nat):(laN G E q x).testBit t=true↔La G E q x t:=by
 unfold laN;rw[ze0];exact⟨fun h=>h.2,fun h=>⟨by have:=(ziK hok h).2;omega,h⟩⟩
theorem laN_lt (ht:G.ts.length<=24) (q:Nat) (x:It):laN G E q x<4294967296:=by
 have h1:=zkf (fun t=>La G E q x (t:Int)) (G.ts.length+1);have h2:2 ^ (G.ts.length+1)<=2 ^ 25:=Nat.pow_le_pow_right (by decide) (by omega);unfold laN;omega
def en (G:Gr) (k:Nat):It:=((k:Int),((sy G (k:Int)).length:Int))
noncomputable def lkAt (G:Gr) (K:List (List It)) (E:List (List (Int×Int))) (q k:Nat):Option Nat:=if tr (en G k∈clo G (K.getD q []))=true then some (laN G E q (en G k)) else none
noncomputable def lkRow (G:Gr) (K:List (List It)) (E:List (List (Int×Int))) (q:Nat):List (Int×Int):=(List.range G.rs.length).filterMap fun k=>(lkAt G K E q k).map fun v=>((k:Int),(v:Int))
theorem zl7 {k:Nat} (hk:k<G.rs.length):en G k=((k:Int),((G.rs[k]).r.length:Int)):=by unfold en;rw[zds hk]
theorem WI.at {M D:MP} (h:WI G K E M D []) (hi:Inv G K E) (hE:E.length=K.length) (hok:Ok G) (hp:∀x∈G.rs,Al true G.rs x.r) {i k:Nat} (hik:i<K.length) (hk:k<G.rs.length):asc D ((i:Int),(k:Int))=lkAt G K E i k:=by
 have hb:∀t:Nat,(gN D ((i:Int),(k:Int))).testBit t=true↔La G E i (en G k) t:=fun t=>by rw[zl7 hk];exact h.ends hi hok hk t
 have hv:gN D ((i:Int),(k:Int))=laN G E i (en G k):=Nat.eq_of_testBit_eq fun t=>Bool.eq_iff_iff.2 ((hb t).trans (zc5 hok i _ t).symm);unfold lkAt;cases e:asc D ((i:Int),(k:Int)) with
 | none =>
  have h0:gN D ((i:Int),(k:Int))=0:=by unfold gN;rw[e];rfl
  rw[if_neg];intro hm;obtain⟨t,ht⟩:=zjj hi hE hp i hik _ (tr_iff.1 hm);have h1:=(ziK hok ht).1
  have:=(hb t.toNat).2 (by rw[Int.toNat_of_nonneg h1];exact ht)
  rw[h0,Nat.zero_testBit]at this;cases this
 | some v =>
  have h0:gN D ((i:Int),(k:Int))=v:=by unfold gN;rw[e];rfl
  have hne:=(h.b.dk _ (asc_mem e)).1;obtain⟨t,ht⟩:=Nat.exists_testBit_of_ne_zero hne;simp only at ht;have hl:=(hb t).1 (by rw[h0];exact ht);rw[if_pos (tr_iff.2 (la_in hi hl).2),<-hv,h0]
theorem WB.cnt {M D:MP} {st:List (Int×Int)} (h:WB G K E M D st):cntM M<=K.length*G.ns.length*32:=by
 have h1:∀l:List ((Int×Int)×Nat),(l.map fun p=>pc p.2).sum<=l.length*32:=by
  intro l;induction l with
  | nil=>simp
  | cons p l ih =>
   have:=zmK p.2
   simp only[List.map_cons,List.sum_cons,List.length_cons];omega
 have h2:=h1 M
 have h3:(M.map Prod.fst).length<=((List.range K.length).flatMap fun i:Nat=>(List.range G.ns.length).map fun j:Nat=>(((i:Int),-1-(j:Int)):Int×Int)).length:=zaX h.mn fun x hx=>by
  obtain⟨p,hp,rfl⟩:=List.mem_map.1 hx;obtain⟨i,k1,k2,k3,k4,_⟩:=h.mq p hp;refine List.mem_flatMap.2 ⟨i,List.mem_range.2 k1,List.mem_map.2 ⟨(-1-p.1.2).toNat,List.mem_range.2 (by omega),?_⟩⟩;refine Prod.ext k2.symm ?_;simp only;omega
 have h4:((List.range K.length).flatMap fun i:Nat=>(List.range G.ns.length).map fun j:Nat=>(((i:Int),-1-(j:Int)):Int×Int)).length=K.length*G.ns.length:=by
  rw[List.length_flatMap]
  have:∀(f:Nat->List (Int×Int)) (n m:Nat),(∀i,(f i).length=m)->((List.range n).map fun i=>(f i).length).sum=n*m:=fun f n m hf=>by
   induction n with
   | zero=>simp
   | succ n ih=>rw[List.range_succ,List.map_append,List.sum_append,ih,Nat.succ_mul];simp[hf]
  exact this _ _ _ fun i=>by simp
 rw[List.length_map,h4]at h3
 have:=Nat.mul_le_mul_right 32 h3
 unfold cntM;omega
theorem zfk {M:MP} {x:Int×Int} {v:Nat} (hx:gN M x<4294967296) (hv:v<4294967296) (h:gN M x ||| v≠gN M x):cntM M<cntM (orN M x v):=by
 have h1:=zhI (x:=x) (v:=gN M x ||| v) (M:=M);have h2:=zgV hx hv h;unfold orN;omega
end
end Lk
end Go.Proofs.YtcmhaemaophplaaGreat
namespace Go.Proofs.YtcmhaemaophplaaGreat
set_option maxRecDepth 100000
set_option maxHeartbeats 40000000
open Go.RowKit
def vM (MM:Lk.MP) (x:Int×Int) (more:Nat):Lk.MP:=if Lk.gN MM x ||| more=Lk.gN MM x then MM else Lk.orN MM x more
def vS (MM:Lk.MP) (st:List (Int×Int)) (x:Int×Int) (more:Nat):List (Int×Int):=if Lk.gN MM x ||| more=Lk.gN MM x then st else st++[x]
namespace Lk
open Au Gm Go.Mw
structure On (MM DD:MP) (st:List (Int×Int)) (MM' DD':MP) (st':List (Int×Int)):Prop where
 m:MLe MM MM'
 d:MLe DD DD'
 c:cntM MM<=cntM MM'
 l:st'.length+cntM MM<=st.length+cntM MM'
theorem MLe.trans {a b c:MP} (h:MLe a b) (k:MLe b c):MLe a c:=fun y=>(h y).trans (k y)
theorem On.refl (MM DD:MP) (st:List (Int×Int)):On MM DD st MM DD st:=⟨MLe.refl _,MLe.refl _,Nat.le_refl _,Nat.le_refl _⟩
theorem On.trans {M1 D1 M2 D2 M3 D3:MP} {s1 s2 s3:List (Int×Int)} (h:On M1 D1 s1 M2 D2 s2) (k:On M2 D2 s2 M3 D3 s3):On M1 D1 s1 M3 D3 s3 :=
 ⟨h.m.trans k.m,h.d.trans k.d,Nat.le_trans h.c k.c,by have:=h.l;have:=k.l;omega⟩
section
variable {G:Gr} {K:List (List It)} {E:List (List (Int×Int))}
theorem WP.vis {q v:Nat} {s:Int} {M D:MP} {st:List (Int×Int)} (h:WP G K E q s v M D st) {i:Nat} {z:Int} {more:Nat} (hi:i<K.length) (hz:z<0) (hz2:-1-z<G.ns.length) (hm:more<4294967296) (h0:more≠0) (hw:∀t:Nat,more.testBit t=true->Wk G E i z t) :
  WP G K E q s v (vM M ((i:Int),z) more) D (vS M st ((i:Int),z) more)/\On M D st (vM M ((i:Int),z) more) D (vS M st ((i:Int),z) more)/\Sub more (gN (vM M ((i:Int),z) more) ((i:Int),z)):=by
 unfold vM vS;by_cases e:gN M ((i:Int),z) ||| more=gN M ((i:Int),z)
 ·rw[if_pos e,if_pos e];exact⟨h,On.refl _ _ _,Sub.of e⟩
 ·rw[if_neg e,if_neg e];refine⟨h.visit hi hz hz2 hm h0 hw,⟨MLe.or _ _ _,MLe.refl _,Nat.le_of_lt (zfk (h.b.lt _) hm e),?_⟩,or_has _ _ _⟩
  have:=zfk (h.b.lt ((i:Int),z)) hm e
  rw[List.length_append,List.length_singleton];omega
theorem on_put {M D:MP} {st:List (Int×Int)} (x:Int×Int) (v:Nat):On M D st M (orN D x v) st:=⟨MLe.refl _,MLe.or _ _ _,Nat.le_refl _,Nat.le_refl _⟩
theorem WP.at0 {q v:Nat} {s:Int} {M D:MP} {st:List (Int×Int)} (h:WP G K E q s v M D st) {k:Nat} (hk:k<G.rs.length) (hl:(G.rs[k]).l = -1-s):∀t:Nat,v.testBit t=true->La G E q ((k:Int),((0:Nat):Int)) t:=fun t ht=>(h.vs t ht).la h.s1 hk hl
theorem WI.take_lt {M D:MP} {st:List (Int×Int)} {x:Int×Int} (h:WI G K E M D (st++[x])):-1-x.2<G.ns.length:=by
 have hx:gN M x≠0:=h.b.sk x (List.mem_append_right _ (List.mem_singleton.2 rfl));obtain⟨q,h1,h2,h3,h4,h5,h6⟩:=h.b.mq _ (zfa hx);exact h4
theorem pc_pos {P:Nat} (h:P<4294967296) (h0:P≠0) (x:Int×Int):1<=cntM [(x,P)]:=by
 have:=zgV (a:=0) (v:=P) (by decide) h (by rw[Nat.zero_or];exact h0)
 rw[Nat.zero_or]at this;unfold cntM;simp only[List.map_cons,List.map_nil,List.sum_cons,List.sum_nil];omega
theorem at_next (hi:Inv G K E) (hE:E.length=K.length) (hok:Ok G) {a v k d:Nat} (hv:v≠0) (hk:k<G.rs.length) (hd:d<(G.rs[k]).r.length) (hla:∀t:Nat,v.testBit t=true->La G E a ((k:Int),(d:Int)) t) :
  a<K.length/\nx G ((k:Int),(d:Int))=some (G.rs[k]).r[d]/\∃j:Nat,Ed E a (G.rs[k]).r[d] j/\tof E a (G.rs[k]).r[d]=j/\∀t:Nat,v.testBit t=true->La G E j ((k:Int),((d+1:Nat):Int)) t:=by
 obtain⟨t,ht⟩:=Nat.exists_testBit_of_ne_zero hv;obtain⟨h1,h2⟩:=la_in hi (hla t ht)
 have hs:nx G ((k:Int),(d:Int))=some (G.rs[k]).r[d]:=by
  unfold nx;simp only[zds hk,Int.toNat_natCast];exact List.getElem?_eq_getElem hd
 obtain⟨j,he,_⟩:=hi.edge hE hok h1 h2 hs;exact⟨h1,hs,j,he,zjw hi he,fun t ht=>La.mv a _ t _ (hla t ht) hs j he⟩
theorem zlh (hok:Ok G) (ht:G.ts.length<=24) {v:Nat} (hv:v<4294967296) {r:List Int} (hr:∀z∈r,z<G.ts.length):ofV G v r<4294967296:=by
 have h1:∀t:Nat,(ofV G v r).testBit t=true->t<32:=fun t k=>by
  rcases(zau hok.lin _ _ _).1 k with k|k
  ·have:=zf9 hok hr k;omega
  ·rcases Nat.lt_or_ge t 32 with q|q
   ·exact q
   ·have:v<2 ^ t:=Nat.lt_of_lt_of_le hv (by have:=Nat.pow_le_pow_right (n:=2) (by decide) q;omega)
    rw[Nat.testBit_lt_two_pow this]at k;cases k.2
 have:ofV G v r<2 ^ 32:=Nat.lt_pow_two_of_testBit _ fun i hi=>by
  cases q:(ofV G v r).testBit i
  ·rfl
  ·have:=h1 i q;omega
 omega
theorem at_more (hok:Ok G) (ht:G.ts.length<=24) (hp:∀x∈G.rs,Al true G.rs x.r) {a v k d:Nat} (hv:v≠0) (hvl:v<4294967296) (hk:k<G.rs.length) (hd:d<(G.rs[k]).r.length) (hs:nx G ((k:Int),(d:Int))=some (G.rs[k]).r[d]) (hla:∀t:Nat,v.testBit t=true->La G E a ((k:Int),(d:Int)) t) :
  ofV G v ((G.rs[k]).r.drop (d+1))<4294967296/\ofV G v ((G.rs[k]).r.drop (d+1))≠0/\∀t:Nat,(ofV G v ((G.rs[k]).r.drop (d+1))).testBit t=true->Wk G E a (G.rs[k]).r[d] t:=by
 have hin:∀z∈(G.rs[k]).r.drop (d+1),z<G.ts.length:=fun z hz=>((rule_in (hok.rr _ (List.getElem_mem hk))).2.2.2 z (List.mem_of_mem_drop hz)).1;refine⟨zlh hok ht hvl hin,?_,fun t k2=>⟨_,hs,?_⟩⟩
 ·rcases zi4 (G:=G) (r:=(G.rs[k]).r.drop (d+1)) (fun y hy hy0=>(hp _ (List.getElem_mem hk)).2 y (List.mem_of_mem_drop hy) hy0) with h|⟨u,hu⟩
  ·obtain⟨t,ht⟩:=Nat.exists_testBit_of_ne_zero hv;exact zbo ((zau hok.lin _ t _).2 (.inr ⟨h,ht⟩))
  ·have h1:=zd0 hu;exact zbo (t:=u.toNat) ((zau hok.lin _ _ _).2 (.inl (by rw[Int.toNat_of_nonneg h1];exact hu)))
 ·rw[zgM hk];rcases(zau hok.lin _ _ _).1 k2 with h|h
  ·obtain⟨u,hu⟩:=Nat.exists_testBit_of_ne_zero hv;exact .inl ⟨h,_,hla u hu⟩
  ·exact .inr ⟨h.1,hla t h.2⟩
end
end Lk
end Go.Proofs.YtcmhaemaophplaaGreat
namespace Go.Proofs.YtcmhaemaophplaaGreat
set_option maxRecDepth 100000
set_option maxHeartbeats 40000000
open Go.RowKit
def bK (t:TypeId) (w:World) (a:Array Value) (wr:World):Prop:=Below (w.heap.size+1) (w.alloc (.cells a t)) wr
section
variable {t:TypeId} {w wr wt:World} {a:Array Value}
theorem bK.start (t:TypeId) (w:World) (a:Array Value):bK t w a (w.alloc (.cells a t)):=Below.refl _ _
theorem bK.size (h:bK t w a wr):w.heap.size+1<=wr.heap.size:=by have:=Below.size h;simpa using this
theorem bK.below (h:bK t w a wr):Below w.heap.size w wr:=((Below.refl w.heap.size w).alloc (Nat.le_refl _) _).trans (Below.mono h (by omega))
theorem bK.on (h:bK t w a wr) (k:Below wr.heap.size wr wt):bK t w a wt:=Below.trans h (k.mono h.size)
theorem bK.drewN (h:bK t w a wr) (n:Nat):bK t w a (wr.drewN n):=aB h n
theorem bK.alloc (h:bK t w a wr) (o:Obj):bK t w a (wr.alloc o):=Below.alloc h h.size o
theorem bK.c (h:bK t w a wr) (j:Nat) (u:Value) (hj:a[j]?=some u):wr.cell? ⟨w.heap.size,j,none⟩=some u:=by
 have b0:=(Below.block h w.heap.size (by omega)).trans (heap_alloc_new w _);exact(cell_of_row wr _ j _ _ _ b0).trans hj
end
def bP (t1 t2:TypeId) (w:World) (a b:Array Value) (wr:World):Prop:=Below (w.heap.size+2) ((w.alloc (.cells a t1)).alloc (.cells b t2)) wr
section
variable {t1 t2:TypeId} {w wr wt:World} {a b:Array Value}
theorem bP.start (t1 t2:TypeId) (w:World) (a b:Array Value):bP t1 t2 w a b ((w.alloc (.cells a t1)).alloc (.cells b t2)):=Below.refl _ _
theorem bP.size (h:bP t1 t2 w a b wr):w.heap.size+2<=wr.heap.size:=by have:=Below.size h;simpa using this
theorem bP.below (h:bP t1 t2 w a b wr):Below w.heap.size w wr:=(((Below.refl w.heap.size w).alloc (Nat.le_refl _) _).alloc (by simp) _).trans (Below.mono h (by omega))
theorem bP.on (h:bP t1 t2 w a b wr) (k:Below wr.heap.size wr wt):bP t1 t2 w a b wt:=Below.trans h (k.mono h.size)
theorem bP.drewN (h:bP t1 t2 w a b wr) (n:Nat):bP t1 t2 w a b (wr.drewN n):=aB h n
theorem bP.alloc (h:bP t1 t2 w a b wr) (o:Obj):bP t1 t2 w a b (wr.alloc o):=Below.alloc h h.size o
theorem bP.c1 (h:bP t1 t2 w a b wr) (j:Nat) (u:Value) (hj:a[j]?=some u):wr.cell? ⟨w.heap.size,j,none⟩=some u:=by
 have b0:=(Below.block h w.heap.size (by omega)).trans ((Below.heap_alloc _ _ _ (by simp)).trans (heap_alloc_new w (.cells a t1)));exact(cell_of_row wr _ j _ _ _ b0).trans hj
theorem bP.c2 (h:bP t1 t2 w a b wr) (j:Nat) (u:Value) (hj:b[j]?=some u):wr.cell? ⟨w.heap.size+1,j,none⟩=some u:=by
 have e:=heap_alloc_new (w.alloc (.cells a t1)) (.cells b t2);rw[show(w.alloc (.cells a t1)).heap.size=w.heap.size+1 by simp]at e;have b0:=(Below.block h (w.heap.size+1) (by omega)).trans e;exact(cell_of_row wr _ j _ _ _ b0).trans hj
end
end Go.Proofs.YtcmhaemaophplaaGreat
