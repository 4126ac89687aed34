/- Part of the proofs over this program: RfBW. -/
import Derived.Test.YtabmfpgpkbndeaaGreatKAL
namespace Go.Proofs.YtabmfpgpkbndeaaGreat
set_option maxRecDepth 100000
set_option maxHeartbeats 40000000
open Go.RowKit
structure OwnSa (w:World) (base NE n:Nat) (vo:Value) (qs:List QS) (es:List (Int×Int)):Prop where
 o:aI 50 2 stC w base vo qs
 k:∀j (h:j<qs.length),zgM 33 w base w.heap.size (qs[j]).1
 e:∀j (h:j<qs.length),j≠n→zgM 52 w base NE (qs[j]).2
 a:∃h:n<qs.length,(qs[n]).2.1=es∧aI 52 2 prF w NE (qpC (qs[n]).2) es
section
variable {w w':World} {base NE n:Nat} {vo:Value} {qs:List QS} {es:List (Int×Int)}
theorem zgM.keep {T:TypeId} {N N':Nat} {q:QP} (h:zgM T w base N q) (hk:∀g cur,g<N→w.heap[g]?=some (.cells cur T (0,0))→w'.heap[g]?=some (.cells cur T (0,0))) (hN:N≤N'):zgM T w' base N' q:=⟨h.1,h.2.1,(h.2.2.keep hk).more hN⟩
theorem OwnSa.below (h:OwnSa w base NE n vo qs es) (hb:Below w.heap.size w w'):OwnSa w' base NE n vo qs es:=by
 obtain⟨h1,h2,h3,ha,h4,h5⟩:=h
 have hk:∀(T:TypeId) (g:Nat) (cur:Array Value),w.heap[g]?=some (.cells cur T (0,0))→w'.heap[g]?=some (.cells cur T (0,0)):=fun T g cur hc=>(hb.block g (Array.getElem?_eq_some_iff.1 hc).1).trans hc
 exact⟨h1.below hb (Nat.le_refl _),fun j h=>(h2 j h).keep (fun g cur _ hc=>hk _ g cur hc) hb.size,fun j h hn=>(h3 j h hn).keep (fun g cur _ hc=>hk _ g cur hc) (Nat.le_refl _),ha,h4,h5.below hb (Nat.le_refl _)⟩
theorem OwnSa.rd {A:Option Addr} {m c:Nat} (h:OwnSa w base NE n (.slice A m c) qs es) (hNE:NE≤w.heap.size):bI w w.heap.size A (qs.map zhJ):=fun hn=>by
 have hn:qs.length≠0:=by simpa using hn
 obtain⟨A',c',e,_,_,hrd⟩:=aI.form h.o zae
 injection e with e1 e2 e3
 subst e1
 obtain⟨g,o,e,hg,hc⟩:=hrd hn
 refine⟨g,o,e,hg,fun i hi=>?_⟩
 have hi':i<qs.length:=by simpa using hi
 have hq:=h.k i hi'
 rw[List.getElem_map]
 refine⟨⟨_,_,hc i hi' 0 _ rfl,hq.1,hq.2.1,hq.2.2.rd⟩,?_⟩
 by_cases hin:i=n
 ·obtain⟨ha,h4,h5⟩:=h.a
  subst hin
  obtain⟨Ae,ce,ee,q1,q2,q3⟩:=aI.form h5 aG
  rw[←h4]at ee q1 q3
  unfold qpC at ee
  injection ee with ee1 ee2 ee3
  refine⟨_,_,hc i hi' 1 _ rfl,?_,?_,?_⟩
  ·show(qs[i]).2.1.length≤(qs[i]).2.2.2
   rw[ee3];exact q1
  ·show(qs[i]).2.2.2≤_
   rw[ee3];unfold maxLen at q2;omega
  ·show RdQ 2 prF w w.heap.size (qs[i]).2.2.1 (qs[i]).2.1
   rw[ee1];exact q3
 ·have he:=h.e i hi' hin
  exact⟨_,_,hc i hi' 1 _ rfl,he.1,he.2.1,he.2.2.rd.more hNE⟩
theorem OwnSa.st (h:OwnSa w base NE n vo qs es) (hNE:NE≤w.heap.size) (hb:base≤NE):za1 w base w.heap.size w.heap.size vo qs:=by
 refine⟨h.o,fun q hq=>?_⟩
 obtain⟨i,hi,rfl⟩:=List.getElem_of_mem hq
 refine⟨h.k i hi,?_⟩
 by_cases hin:i=n
 ·obtain⟨ha,h4,h5⟩:=h.a
  subst hin
  have h6:=h5
  obtain⟨Ae,ce,ee,q1,q2,q3⟩:=aI.form h5 aG
  rw[ee]at h6
  have hr:=aI.rowP h6
  unfold qpC at ee
  injection ee with ee1 ee2 ee3
  rw[←h4]at q1 hr
  exact⟨by rw[ee3];exact q1,by rw[ee3];unfold maxLen at q2;omega,by rw[ee1];exact hr.less hb⟩
 ·have he:=h.e i hi hin
  exact⟨he.1,he.2.1,he.2.2.more hNE⟩
theorem OwnSa.of (h:za1 w base w.heap.size NE vo qs) (hn:n<qs.length) (he:(qs[n]).2=([],none,0)):OwnSa w base NE n vo qs [] :=
 ⟨h.1,fun j hj=>(h.2 _ (List.getElem_mem hj)).1,fun j hj _=>(h.2 _ (List.getElem_mem hj)).2,hn,by rw[he],by rw[he];exact aI.nil _ _⟩
theorem OwnSa.snoc {v':Value} {k:List Au.It} {A:Option Addr} {c:Nat} (h:OwnSa w base NE n vo qs es) (ho:aI 50 2 stC w' base v' (qs++[bC k A c])) (hg:w.grownBy w' vo.ownBlock) (hk:zgM 33 w base w.heap.size (k,A,c)):OwnSa w' base NE n v' (qs++[bC k A c]) es:=by
 have hc:∀(T:TypeId),T≠50→∀(g:Nat) (cur:Array Value),w.heap[g]?=some (.cells cur T (0,0))→w'.heap[g]?=some (.cells cur T (0,0)):=fun T hT g cur h1=>aQ h.o hg h1 fun cur=>aO hT
 obtain⟨h1,h2,h3,ha,h4,h5⟩:=h
 refine⟨ho,fun j hj=>?_,fun j hj hjn=>?_,by rw[List.length_append];omega,?_,?_⟩
 ·by_cases hjl:j<qs.length
  ·rw[List.getElem_append_left hjl]
   exact(h2 j hjl).keep (fun g cur _ hcc=>hc _ (by decide) g cur hcc) hg.size
  ·obtain rfl:j=qs.length:=by rw[List.length_append,List.length_singleton]at hj;omega
   rw[List.getElem_append_right (Nat.le_refl _)]
   simp only[Nat.sub_self,List.getElem_singleton]
   exact hk.keep (fun g cur _ hcc=>hc _ (by decide) g cur hcc) hg.size
 ·by_cases hjl:j<qs.length
  ·rw[List.getElem_append_left hjl]
   exact(h3 j hjl hjn).keep (fun g cur _ hcc=>hc _ (by decide) g cur hcc) (Nat.le_refl _)
  ·obtain rfl:j=qs.length:=by rw[List.length_append,List.length_singleton]at hj;omega
   rw[List.getElem_append_right (Nat.le_refl _)]
   simp only[Nat.sub_self,List.getElem_singleton]
   exact⟨Nat.zero_le _,Nat.zero_le _,bF.nil _ _ _ _ _⟩
 ·rw[List.getElem_append_left ha];exact h4
 ·rw[List.getElem_append_left ha]
  refine⟨h5.1,?_⟩
  rcases h5.2 with h0|⟨g,cap,cur,e,hb1,hgg,hr⟩
  ·exact .inl h0
  ·exact .inr ⟨g,cap,cur,e,hb1,hc _ (by decide) g cur hgg,hr⟩
theorem OwnSa.edge {v':Value} {gS m c:Nat} {x:Int×Int} {A:Option Addr} {c':Nat} (h:OwnSa w base NE n (.slice (some ⟨gS,0,none⟩) m c) qs es) (hn:n<qs.length) (ho:aI 52 2 prF w' NE v' (es++[x])) (hv:v'=.slice A (es++[x]).length c') (hg:w.grownBy w' (qpC (qs[n]).2).ownBlock) :
  OwnSa (w'.setCell ⟨gS,n*2+1,none⟩ v') base NE n (.slice (some ⟨gS,0,none⟩) m c) (qs.set n ((qs[n]).1,(es++[x],A,c'))) (es++[x]):=by
 obtain⟨h1,h2,h3,ha,h4,h5⟩:=h
 have hc:∀(T:TypeId),T≠52→∀(g:Nat) (cur:Array Value),w.heap[g]?=some (.cells cur T (0,0))→w'.heap[g]?=some (.cells cur T (0,0)):=fun T hT g cur hh=>aQ h5 hg hh fun cur=>aO hT
 have ho1:aI 50 2 stC w' base (.slice (some ⟨gS,0,none⟩) m c) qs:=by
  refine⟨h1.1,?_⟩
  rcases h1.2 with h0|⟨g,cap,cur,e,hb1,hgg,hr⟩
  ·exact .inl h0
  ·exact .inr ⟨g,cap,cur,e,hb1,hc _ (by decide) g cur hgg,hr⟩
 obtain⟨cur,hcur⟩:∃cur,w'.heap[gS]?=some (.cells cur 50 (0,0)):=by
  rcases ho1.2 with⟨e,_⟩|⟨g2,cap,cur,e,_,hgg,_⟩
  ·cases e
  ·injection e with e _ _
   injection e with e
   injection e with e
   subst e
   exact⟨cur,hgg⟩
 have hs:∀(T:TypeId),T≠50→∀(g:Nat) (cu:Array Value),w'.heap[g]?=some (.cells cu T (0,0))→(w'.setCell ⟨gS,n*2+1,none⟩ v').heap[g]?=some (.cells cu T (0,0)):=fun T hT g cu hh=>(Below.heap_setCell w' ⟨gS,n*2+1,none⟩ _ g (fun e=>by
  have e:g=gS:=e
  rw[e,hcur]at hh
  injection hh with hh
  exact aO (fun q=>hT q.symm) hh)).trans hh
 have hsz:(w'.setCell ⟨gS,n*2+1,none⟩ v').heap.size=w'.heap.size:=by simp
 refine⟨?_,fun j hj=>?_,fun j hj hjn=>?_,by rw[List.length_set];exact hn,?_,?_⟩
 ·rcases ho1.2 with⟨e,_⟩|⟨g2,cap,cur2,e,hb,hgg,q1,hm,hcs,ht⟩
  ·cases e
  ·injection e with e1 e2 e3
   injection e1 with e1
   injection e1 with e1
   subst e1 e3
   have hl:(qs.set n ((qs[n]).1,(es++[x],A,c'))).length=qs.length:=List.length_set
   unfold aI
   rw[hl]
   refine⟨by rw[zfa zae,hl],.inr ⟨gS,c,cur2.setIfInBounds (n*2+1) v',by rw[e2],hb,heap_setCell_same w' gS _ _ _ _ hgg,q1,hm,by simp[hcs],?_⟩⟩
   have e9:qpC (es++[x],A,c')=v':=by rw[hv];rfl
   rw[←zi3 qs n ((qs[n]).1,(es++[x],A,c')) (fun _=>rfl),←ht]
   simp only[Array.toList_setIfInBounds]
   rw[List.take_set,e9]
 ·have hjl:j<qs.length:=by rw[List.length_set]at hj;exact hj
  rw[hsz]
  have hq:=(h2 j hjl).keep (fun g cu _ hcc=>hs _ (by decide) g cu (hc _ (by decide) g cu hcc)) hg.size
  by_cases hjn:n=j
  ·subst hjn
   rw[List.getElem_set_self];exact hq
  ·rw[List.getElem_set_ne hjn];exact hq
 ·have hjl:j<qs.length:=by rw[List.length_set]at hj;exact hj
  rw[List.getElem_set_ne (fun e=>hjn e.symm)]
  refine(h3 j hjl hjn).keep (fun g cu hgN hcc=>hs _ (by decide) g cu ((hg.block g (Array.getElem?_eq_some_iff.1 hcc).1 (fun e=>?_)).trans hcc)) (Nat.le_refl _)
  have:=(World.ownsRow.lt h5 g e.symm).1
  omega
 ·rw[List.getElem_set_self]
 ·rw[List.getElem_set_self]
  have e9:qpC (es++[x],A,c')=v':=by rw[hv];rfl
  rw[e9]
  refine⟨ho.1,?_⟩
  rcases ho.2 with h0|⟨g,cap,cu,e,hb1,hgg,hr⟩
  ·exact .inl h0
  ·exact .inr ⟨g,cap,cu,e,hb1,hs _ (by decide) g cu hgg,hr⟩
end
end Go.Proofs.YtabmfpgpkbndeaaGreat
