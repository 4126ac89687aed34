/- Part of the proofs over this program: AuAdd, LkSt, AuAdd2, AuBegin, Sort, AuSort, AuClos, AuAsk, AuText, AuSt, AuNum, LkVisit, SetR. -/
import Derived.Shelf.SlGeneric
import Derived.Shelf.SlSortCmp.NoneTotal
import Derived.Ground.SlsfProg
import Derived.Ground.NamesProg
import Derived.Test.YtcmhaemaophplaaGreatXJ
set_option linter.all false
namespace Go
def D6:=@List.length_reverse
end Go
open Go.RowKit Go.Proofs.Tryz
set_option maxRecDepth 100000
set_option maxHeartbeats 40000000
variable {A:Option Go.Addr} {B D M N N' NE base base' g i n:Nat} {G:Go.Proofs.YtcmhaemaophplaaGreat.Gm.Gr} {P:Go.Program} {cs:Array Go.Value} {fr:Nat×Nat} {s:Int} {u v:Go.Value} {w w':Go.World} {xs:List Go.Value}
namespace Go.Proofs.YtcmhaemaophplaaGreat
theorem Qa {o:Oper} {a:Act} {Q:Exit->Act->World->Prop} {K:Act->World->Prop} (m x v:Operand) (t:TypeId) (ab:o.op=Op.mapUpdate t m x v) {mv xv vv:Value} {R:World->Prop} (h:∃w',(Instr.mapUpdate t mv xv vv).run P w=.ok () w'/\R w') (hm:a.eval m=mv) (hx:a.eval x=xv) (hv:a.eval v=vv) (hK:∀w',R w'->K (a.put o.dst undef) w'):o.wp P a w K Q:=by
 obtain⟨w',aa,hR⟩:=h;unfold Oper.wp;simp[execOp,ab,hm,hx,hv,aa,Result.andThen];exact hK w' hR
theorem aR {e:TypeId} {size:Nat} (h:w.ownsRow base e size v n xs) {o:Obj} (hg:w.heap[g]?=some o) (ho:∀cur,o ≠ .cells cur e (0,0)):v.ownBlock=none\/v.ownBlock≠some g:=by
 rcases h.2 with⟨rfl,_⟩|⟨g',cap,cur,rfl,_,aa,_⟩
 ·exact .inl rfl
 ·refine .inr fun e1=>?_;injection e1 with e1;have e1:g'=g:=e1;subst e1;rw[hg]at aa;injection aa with aa;exact ho _ aa
theorem aH {e:TypeId} {size:Nat} (h:w.ownsRow base e size v n xs) (hg:w.grownBy w' v.ownBlock) {o:Obj} (hb:w.heap[g]?=some o) (ho:∀cur,o ≠ .cells cur e (0,0)):w'.heap[g]?=some o:=by
 refine(hg.block g (Ad.1 hb).1 fun e1=>?_).trans hb;rcases aR h hb ho with q|q
 ·rw[q]at e1;cases e1
 ·exact q e1.symm
structure gh (w w':World):Prop where
 size:w.heap.size<=w'.heap.size
 fp:∀(g:Nat) (cs:Array Value) (T:TypeId) (fr:Nat×Nat),w.heap[g]?=some (.cells cs T fr)->T≠60->T≠52->w'.heap[g]?=some (.cells cs T fr)
section
variable {w w' w2:World}
theorem gh.refl (w:World):gh w w:=⟨Af _,fun _ _ _ _ h _ _=>h⟩
theorem gh.trans (h:gh w w') (k:gh w' w2):gh w w2:=⟨Aj h.size k.size,fun g cs T fr h1 h2 h3=>k.fp g cs T fr (h.fp g cs T fr h1 h2 h3) h2 h3⟩
theorem gh.below (h:Below w.heap.size w w'):gh w w':=⟨h.size,fun g _ _ _ h1 _ _=>(h.block g (Ad.1 h1).1).trans h1⟩
theorem gh.own (h:w.ownsRow base 60 2 v n xs) (hg:w.grownBy w' v.ownBlock):gh w w':=⟨hg.size,fun g cs T fr h1 h2 _=>aH h hg h1 fun cur e=>by injection e with _ e _;exact h2 e⟩
theorem gh.map {es:Array MapEntry} {ck:Nat} (h:w.heap[M]?=some (.map es ck)) (hg:w.grownBy w' (some M)):gh w w':=⟨hg.size,fun g cs T fr h1 _ _=>(hg.block g (Ad.1 h1).1 (fun e=>by injection e with e;rw[e,h]at h1;cases h1)).trans h1⟩
theorem gh.set {pA:Nat} (h:w.heap[pA]?=some (.cells cs 52 fr)) (u:Value):gh w (w.setCell ⟨pA,i,none⟩ u):=⟨by simp,fun g cs' T fr' h1 _ h3=>(AU w ⟨pA,i,none⟩ u g (fun e=>by
 have e:g=pA:=e;rw[e,h]at h1;injection h1 with h1;injection h1 with _ h1 _;exact h3 h1.symm)).trans h1⟩
end
structure kv (w:World) (base pA pT M:Nat) (xs:List Au.It):Prop where
 v:∃v,w.heap[pA]?=some (.cells #[v] 52 (0,0))/\aJ 60 2 fO w base v xs
 t:w.heap[pT]?=some (.cells #[.map (some M)] 176 (0,0))
 l:∃l,Mw.fx vy w M l/\∀x,Mw.fF l x=if x∈xs then some (.bool true) else none
 hA:base<=pA
 hT:base<=pT
 hM:base<=M
section
variable {w w':World} {base pA pT M:Nat} {xs:List Au.It}
theorem kv.below (h:kv w base pA pT M xs) (hb:Below w.heap.size w w'):kv w' base pA pT M xs:=by
 obtain⟨⟨v,h1,h2⟩,h3,⟨l,h4,h5⟩,h6,h7,h8⟩:=h;exact⟨⟨v,aC hb h1,h2.below hb (Af _)⟩,aC hb h3,⟨l,h4.block (hb.block _ h4.lt),h5⟩,h6,h7,h8⟩
theorem kv.fC (h:kv w base pA pT M xs):base<=w.heap.size:=by
 have:=(Ad.1 h.t).1
 have:=h.hT
 omega
end
theorem aG {cur:Array Value} {T T':TypeId} (h:T≠T'):(Obj.cells cs T (0,0)) ≠ .cells cur T' (0,0):=fun e=>by
 injection e with _ e _;exact h e
theorem FG (x:Int×Int) (w:World) (g:Nat) (hb:w.heap[g]?=some (.cells #[.int .i64 x.1,.int .i64 x.2] 60 (0,0))):∀j u,(fO x)[j]?=some u->w.cell? ⟨g,j,none⟩=some u:=fun j u hu=>by
 refine(AF w g j _ _ _ hb).trans ?_
 match j,hu with
 | 0,hu=>exact hu
 | 1,hu=>exact hu
 | j+2,hu=>simp[fO]at hu
theorem kv.put {w5 w6:World} {pA pT:Nat} {xs:List Au.It} {x:Au.It} {v5:Value} {l:List (Au.It×Value)} (hn:x ∉ xs) (h1:w.heap[pA]?=some (.cells #[v] 52 (0,0))) (h2:aJ 60 2 fO w base v xs) (h3:w.heap[pT]?=some (.cells #[.map (some M)] 176 (0,0))) (h5:∀x,Mw.fF l x=if x∈xs then some (.bool true) else none) (hA:base<=pA) (hT:base<=pT) (hM:base<=M) (ho:aJ 60 2 fO w5 base v5 (xs++[x])) (hg:w.grownBy w5 v.ownBlock) (hm:Mw.fx vy w6 M (l++[(x,.bool true)])) (ab:w5.grownBy w6 (some M)) (ac:Mw.fx vy w5 M l) :
  kv (w6.setCell ⟨pA,0,none⟩ v5) base pA pT M (Au.iQ xs x)/\(Below base w w6->Below base w (w6.setCell ⟨pA,0,none⟩ v5)):=by
 have aa:M≠pA:=fun e=>by
  have:=aH h2 hg h1 fun cur=>aG (by decide)
  rw[<-e]at this;exact ac.fB this
 have ad:M≠pT:=fun e=>by
  have:=aH h2 hg h3 fun cur=>aG (by decide)
  rw[<-e]at this;exact ac.fB this
 have ae:pA≠pT:=fun e=>by
  rw[e,h3]at h1;injection h1 with h1;exact aG (by decide) h1
 have a5:=aH h2 hg h1 fun cur=>aG (by decide);have t5:=aH h2 hg h3 fun cur=>aG (by decide);have a6:w6.heap[pA]?=some (.cells #[v] 52 (0,0)):=(ab.block pA (Ad.1 a5).1 (fun e=>by injection e with e;exact aa e.symm)).trans a5;have t6:w6.heap[pT]?=some (.cells #[.map (some M)] 176 (0,0)):=(ab.block pT (Ad.1 t5).1 (fun e=>by injection e with e;exact ad e.symm)).trans t5;obtain⟨es,ck,af,_⟩:=ac;have o6:aJ 60 2 fO w6 base v5 (xs++[x]):=AO ho ab (aR ho af fun cur e=>by cases e);have o7:aJ 60 2 fO (w6.setCell ⟨pA,0,none⟩ v5) base v5 (xs++[x]):=AO o6 (aF (AJ _ _) 0 v5) (aR o6 a6 fun cur=>aG (by decide));have e:Au.iQ xs x=xs++[x]:=by unfold Au.iQ;rw[AI hn]
 rw[e];refine⟨⟨⟨v5,AZ w6 pA 0 _ _ _ a6,o7⟩,(AU w6 ⟨pA,0,none⟩ v5 pT (fun e=>ae e.symm)).trans t6,⟨_,hm.block (AU w6 ⟨pA,0,none⟩ v5 M aa),fun y=>?_⟩,hA,hT,hM⟩,fun hb=>hb.setCell hA _⟩;have ag:Mw.fF l x=none:=by rw[h5,AI hn]
 rw[Mw.kS ag,h5];by_cases e1:x=y
 ·subst e1;simp
 ·rw[AI e1];by_cases e2:y∈xs
  ·rw[AC e2,AC (Dr _ e2)]
  ·rw[AI e2,AI];intro q;rcases Bt.1 q with q|q
   ·exact e2 q
   ·exact e1 (AP.1 q).symm
def bY (w:World) (gc:Nat):Option Nat:=match w.cell? ⟨gc,0,none⟩ with
 | some v=>v.ownBlock
 | none=>none
theorem zL {gc:Nat} (h:w.cell? ⟨gc,0,none⟩=some v):bY w gc=v.ownBlock:=by unfold bY;rw[h]
structure fE (gc M D:Nat) (w w':World):Prop where
 size:w.heap.size<=w'.heap.size
 fp:∀g,g<w.heap.size->g≠gc->g≠M->g≠D->bY w gc≠some g->w'.heap[g]?=w.heap[g]?
 own:bY w' gc=bY w gc \/ ∃k,bY w' gc=some k/\w.heap.size<=k
section
variable {gc M D:Nat} {w w' w2:World}
theorem fE.refl (w:World):fE gc M D w w:=⟨Af _,fun _ _ _ _ _ _=>rfl,.inl rfl⟩
theorem fE.trans (h:fE gc M D w w') (k:fE gc M D w' w2):fE gc M D w w2:=by
 refine⟨Aj h.size k.size,fun g h1 h2 h3 h4 h5=>(k.fp g (Ah h1 h.size) h2 h3 h4 fun e=>?_).trans (h.fp g h1 h2 h3 h4 h5),?_⟩
 ·rcases h.own with q|⟨j,q,hj⟩
  ·rw[q]at e;exact h5 e
  ·rw[q]at e;injection e with e;omega
 ·rcases k.own with q|⟨j,q,hj⟩
  ·rw[q];exact h.own
  ·exact .inr ⟨j,q,Aj h.size hj⟩
theorem fE.below (h:Below w.heap.size w w') (hg:gc<w.heap.size):fE gc M D w w' :=
 ⟨h.size,fun g h1 _ _ _ _=>h.block g h1,.inl (by unfold bY;rw[h.cell (p:=⟨gc,0,none⟩) hg])⟩
theorem fE.off (h:fE gc M D w w') (hg:g<w.heap.size) (hn:bY w gc≠some g):bY w' gc≠some g:=by
 rcases h.own with q|⟨j,q,hj⟩
 ·rw[q];exact hn
 ·rw[q];intro e;injection e with e;omega
theorem fE.row (h:fE gc M D w w') {t:TypeId} {f:Nat×Nat} (hb:w.heap[g]?=some (.cells cs t f)) (h1:g≠gc) (h2:g≠M) (h3:g≠D) (h4:bY w gc≠some g):w'.heap[g]?=some (.cells cs t f):=(h.fp g (Ad.1 hb).1 h1 h2 h3 h4).trans hb
theorem fE.map (hg:w.grownBy w' (some M)) (h1:gc<w.heap.size) (h2:gc≠M):fE gc M D w w' :=
 ⟨hg.size,fun g k1 _ k3 _ _=>hg.block g k1 (fun e=>by injection e with e;exact k3 e),.inl (by
  unfold bY;rw[show w'.cell? ⟨gc,0,none⟩=w.cell? ⟨gc,0,none⟩ from Ca (hg.block gc h1 (fun e=>by injection e with e;exact h2 e))])⟩
theorem fE.Hc (hg:w.grownBy w' (some D)) (h1:gc<w.heap.size) (h2:gc≠D):fE gc M D w w' :=
 ⟨hg.size,fun g k1 _ _ k4 _=>hg.block g k1 (fun e=>by injection e with e;exact k4 e),.inl (by
  unfold bY;rw[show w'.cell? ⟨gc,0,none⟩=w.cell? ⟨gc,0,none⟩ from Ca (hg.block gc h1 (fun e=>by injection e with e;exact h2 e))])⟩
end
def qN (g0 g1 g2 g3 tv:Value) (T M D:Nat):Array Value:=#[g0,g1,g2,g3,tv,.map (some T),.map (some M),.map (some D)]
structure iG (w:World) (base R gc T M D:Nat) (g0 g1 g2 g3 tv:Value) (tl:List ((Int×Int)×Value)) (MM DD:Lk.MP) (st:List (Int×Int)):Prop where
 r:w.heap[R]?=some (.cells (qN g0 g1 g2 g3 tv T M D) 110 (0,0))
 v:∃v,w.heap[gc]?=some (.cells #[v] 147 (0,0))/\aJ 112 2 fO w base v st
 t:Mw.fx qL w T tl
 m:Mw.jM qL w M (Lk.gV MM)
 d:Mw.jM qZ w D (Lk.gV DD)
 hR:base<=R
 hg:base<=gc
 hT:base<=T
 hM:base<=M
 hD:base<=D
 ne:T≠M/\T≠D/\M≠D
section
variable {w w':World} {base R gc T M D:Nat} {g0 g1 g2 g3 tv:Value} {tl:List ((Int×Int)×Value)} {MM DD:Lk.MP} {st:List (Int×Int)}
theorem iG.below (h:iG w base R gc T M D g0 g1 g2 g3 tv tl MM DD st) (hb:Below w.heap.size w w'):iG w' base R gc T M D g0 g1 g2 g3 tv tl MM DD st:=by
 obtain⟨h1,⟨v,h2,h3⟩,h4,h5,h6,a1,a2,a3,a4,a5,h7⟩:=h;exact⟨aC hb h1,⟨v,aC hb h2,h3.below hb (Af _)⟩,h4.block (hb.block _ h4.lt),h5.block (hb.block _ h5.lt),h6.block (hb.block _ h6.lt),a1,a2,a3,a4,a5,h7⟩
theorem iG.own (h:iG w base R gc T M D g0 g1 g2 g3 tv tl MM DD st) (k:Nat) (hk:bY w gc=some k):k<w.heap.size:=by
 obtain⟨v,h2,h3⟩:=h.v;rw[zL (AF w gc 0 _ _ _ h2)]at hk;exact(Bk h3 k hk).2
theorem iG.fC (h:iG w base R gc T M D g0 g1 g2 g3 tv tl MM DD st):base<=w.heap.size:=by
 have:=h.m.lt
 have:=h.hM
 omega
theorem iG.nI (h:iG w base R gc T M D g0 g1 g2 g3 tv tl MM DD st):gc<w.heap.size:=by
 obtain⟨v,h2,_⟩:=h.v;exact(Ad.1 h2).1
theorem iG.E8 (h:iG w base R gc T M D g0 g1 g2 g3 tv tl MM DD st):gc≠M/\gc≠D/\gc≠T/\R≠M/\R≠D/\R≠gc:=by
 obtain⟨v,h2,_⟩:=h.v;refine⟨fun e=>?_,fun e=>?_,fun e=>?_,fun e=>?_,fun e=>?_,fun e=>?_⟩
 ·rw[e]at h2;exact h.m.is.fB h2
 ·rw[e]at h2;exact h.d.is.fB h2
 ·rw[e]at h2;exact h.t.fB h2
 ·have:=h.r;rw[e]at this;exact h.m.is.fB this
 ·have:=h.r;rw[e]at this;exact h.d.is.fB this
 ·have:=h.r
  rw[e,h2]at this;injection this with this;exact aG (by decide) this
theorem iG.Hd (h:iG w base R gc T M D g0 g1 g2 g3 tv tl MM DD st) {MM':Lk.MP} (hg:w.grownBy w' (some M)) (hm:Mw.jM qL w' M (Lk.gV MM')):iG w' base R gc T M D g0 g1 g2 g3 tv tl MM' DD st:=by
 obtain⟨n1,n2,n3,n4,n5,n6⟩:=h.E8;obtain⟨h1,⟨v,h2,h3⟩,h4,h5,h6,a1,a2,a3,a4,a5,h7⟩:=h;obtain⟨es,ck,aa,_⟩:=h5
 exact⟨(hg.block R (Ad.1 h1).1 (fun e=>by injection e with e;exact n4 e)).trans h1,
  ⟨v,(hg.block gc (Ad.1 h2).1 (fun e=>by injection e with e;exact n1 e)).trans h2,AO h3 hg (aR h3 aa fun cur e=>by cases e)⟩,
  h4.block (hg.block T h4.lt (fun e=>by injection e with e;exact h7.1 e)),hm,h6.block (hg.block D h6.lt (fun e=>by injection e with e;exact h7.2.2 e.symm)),a1,a2,a3,a4,a5,h7⟩
theorem iG.G4 (h:iG w base R gc T M D g0 g1 g2 g3 tv tl MM DD st) {DD':Lk.MP} (hg:w.grownBy w' (some D)) (hm:Mw.jM qZ w' D (Lk.gV DD')):iG w' base R gc T M D g0 g1 g2 g3 tv tl MM DD' st:=by
 obtain⟨n1,n2,n3,n4,n5,n6⟩:=h.E8;obtain⟨h1,⟨v,h2,h3⟩,h4,h5,h6,a1,a2,a3,a4,a5,h7⟩:=h;obtain⟨es,ck,aa,_⟩:=h6
 exact⟨(hg.block R (Ad.1 h1).1 (fun e=>by injection e with e;exact n5 e)).trans h1,
  ⟨v,(hg.block gc (Ad.1 h2).1 (fun e=>by injection e with e;exact n2 e)).trans h2,AO h3 hg (aR h3 aa fun cur e=>by cases e)⟩,
  h4.block (hg.block T h4.lt (fun e=>by injection e with e;exact h7.2.1 e)),h5.block (hg.block M h5.lt (fun e=>by injection e with e;exact h7.2.2 e)),hm,a1,a2,a3,a4,a5,h7⟩
end
section
variable {w w5:World} {base R gc T M D:Nat} {g0 g1 g2 g3 tv:Value} {tl:List ((Int×Int)×Value)} {MM DD:Lk.MP} {st st':List (Int×Int)} {v v5:Value}
theorem iG.push (h:iG w base R gc T M D g0 g1 g2 g3 tv tl MM DD st) (hv:w.heap[gc]?=some (.cells #[v] 147 (0,0))) (ho:aJ 112 2 fO w base v st) (ae:aJ 112 2 fO w5 base v5 st') (hg:w.grownBy w5 v.ownBlock):iG (w5.setCell ⟨gc,0,none⟩ v5) base R gc T M D g0 g1 g2 g3 tv tl MM DD st':=by
 obtain⟨n1,n2,n3,n4,n5,n6⟩:=h.E8;obtain⟨h1,_,h4,h5,h6,a1,a2,a3,a4,a5,h7⟩:=h;have r5:=aH ho hg h1 fun cur=>aG (by decide);have v5':=aH ho hg hv fun cur=>aG (by decide);obtain⟨es,ck,af,ag⟩:=h4;have t5:=aH ho hg af fun cur e=>by cases e
 obtain⟨es2,ck2,aa,ab⟩:=h5;have m5:=aH ho hg aa fun cur e=>by cases e
 obtain⟨es3,ck3,ac,ad⟩:=h6;have d5:=aH ho hg ac fun cur e=>by cases e
 have o7:aJ 112 2 fO (w5.setCell ⟨gc,0,none⟩ v5) base v5 st':=AO ae (aF (AJ _ _) 0 v5) (aR ae v5' fun cur=>aG (by decide))
 exact⟨(AU w5 ⟨gc,0,none⟩ v5 R n6).trans r5,⟨v5,AZ w5 gc 0 _ _ _ v5',o7⟩,
  ⟨es,ck,(AU w5 ⟨gc,0,none⟩ v5 T (fun e=>n3 e.symm)).trans t5,ag⟩,⟨es2,ck2,(AU w5 ⟨gc,0,none⟩ v5 M (fun e=>n1 e.symm)).trans m5,ab⟩,⟨es3,ck3,(AU w5 ⟨gc,0,none⟩ v5 D (fun e=>n2 e.symm)).trans d5,ad⟩,a1,a2,a3,a4,a5,h7⟩
theorem fE.push {wA:World} (h:fE gc M D w wA) (hv:wA.cell? ⟨gc,0,none⟩=some v) (hg:wA.grownBy w5 v.ownBlock) (aa:v5.ownBlock=v.ownBlock\/v5.ownBlock=some wA.heap.size) {ty:TypeId} (hc:w5.heap[gc]?=some (.cells #[u] ty (0,0))):fE gc M D w (w5.setCell ⟨gc,0,none⟩ v5):=by
 have e:=zL hv;have hs:=hg.size;have hn:bY (w5.setCell ⟨gc,0,none⟩ v5) gc=v5.ownBlock:=zL (AF _ gc 0 _ _ _ (AZ w5 gc 0 _ _ _ hc));refine⟨by have:=h.size;simp;omega,fun g k1 k2 k3 k4 k5=>(AU w5 ⟨gc,0,none⟩ v5 g k2).trans ((hg.block g (Ah k1 h.size) (fun q=>?_)).trans (h.fp g k1 k2 k3 k4 k5)),?_⟩
 ·exact h.off k1 k5 (by rw[e,<-q])
 ·rw[hn];rcases aa with q|q
  ·rw[q,<-e];exact h.own
  ·exact .inr ⟨_,q,h.size⟩
end
theorem Qi (x:Int×Int) (w:World) (g:Nat) (hb:w.heap[g]?=some (.cells #[.int .i64 x.1,.int .i64 x.2] 112 (0,0))):∀j u,(fO x)[j]?=some u->w.cell? ⟨g,j,none⟩=some u:=fun j u hu=>by
 refine(AF w g j _ _ _ hb).trans ?_
 match j,hu with
 | 0,hu=>exact hu
 | 1,hu=>exact hu
 | j+2,hu=>simp[fO]at hu
theorem Lc (w:World) (base pA pT M:Nat) (xs:List Au.It) (x:Au.It) (h:kv w base pA pT M xs) (hx:Gm.In x.1/\Gm.In x.2) (aa:xs.length<=100000) :
  Calls prog 104 #[lI x,.pointer (some ⟨pT,0,none⟩),.pointer (some ⟨pA,0,none⟩)] w fun e w'=>e=.returned (.tuple #[])/\kv w' base pA pT M (Au.iQ xs x)/\Below base w w'/\gh w w':=by
 obtain⟨wb,s⟩:∃y,y=w.alloc (.cells #[.int .i64 x.1,.int .i64 x.2] 60):=⟨_,rfl⟩
 have j:Hid (Below w.heap.size w wb):=aA (by rw[s];exact(AB _ _).alloc (Af _) _);have n:wb.heap[w.heap.size]?=some (.cells #[.int .i64 x.1,.int .i64 x.2] 60 (0,0)):=by rw[s];exact AG w _
 have m:=aA n;have a3:w.heap.size<wb.heap.size:=(Ad.1 n).1;have HH:=aA (h.below j.o);have u:=aA h.fC;have a4:=aA hx;obtain⟨⟨v,h1,h2⟩,h3,⟨l,h4,h5⟩,hA,hT,hM⟩:=h;have a9:=aA (fun k (e:v.ownBlock=some k)=>(Bk h2 k e).2);have ap:=h4.lt;have h1:=aC j.o h1;have h2:=h2.below j.o (Af _);have h3:=aC j.o h3;have h4:=h4.block (j.o.block _ h4.lt);have ba:=aA (show M≠w.heap.size by omega);have H1:=aA h1;have H2:=aA h2;have H3:=aA h3;have H5:=aA h5;have H4:=aA h4;have cT:=aS h3;have x0:=aS n;have x1:=aX n;have hE:=h5 x;have ah:vy.enc x=.agg #[.int .i64 x.1,.int .i64 x.2]:=rfl;have lk:=Mw.gH (E:=vy) h4 Jm (t:=176) underlying176 (z:=.bool false) (by kernel_rfl) (x:=x) hx false;rw[hE,ah]at lk;by_cases hn:x∈xs
 ·rw[AC hn]at lk;have e:Au.iQ xs x=xs:=by unfold Au.iQ;rw[AC hn]
  simp at lk;clear h1 h2 h3 h4 h5 hE hx n hA hT hM hn ap
  go_enter func104,ntmps104
  go_upto_region 1 with fail
  rw[<-s];clear s;go_wp2;go_end0
  exact⟨rfl,by rw[e];exact HH.o,j.o.mono u.o,.below j.o⟩
 ·rw[AI hn]at lk;simp at lk;have HN:=aA hn;obtain⟨A,c,rfl,bj,bk,_⟩:=aJ.form h2 aI;have aq:=aA (fun(y:World) (hy:Mw.fx vy y M l)=>Mw.pf (x:=x) hy Jm underlying176 a4.o (.bool true));have ab:Mw.fF l x=none:=by rw[hE,AI hn]
  rw[Mw.jz ab]at aq;have cA:=aS h1;have ai:=aA aa
  have aj:pA≠w.heap.size:=fun e=>by
   rw[e]at h1;rw[n]at h1;injection h1 with h1;exact aG (by decide) h1
  have HT:=aA hT;have HA:=aA hA;have HM:=aA hM;clear h1 h2 h3 h4 h5 hE hx n hA hT hM hn ab aa ap
  go_enter func104,ntmps104
  go_upto_region 1 with fail
  rw[<-s];clear s;go_upto_region 2 with fail
  have qT:∀y:jg [pT,w.heap.size] wb,y.1.cell? ⟨pT,0,none⟩=some (.map (some M)):=fun y=>y.row (by simp) H3.o rfl;have q0:∀y:jg [pT,w.heap.size] wb,y.1.cell? ⟨w.heap.size,0,none⟩=some (.int .i64 x.1):=fun y=>y.row (by simp) m.o rfl;have q1:∀y:jg [pT,w.heap.size] wb,y.1.cell? ⟨w.heap.size,1,none⟩=some (.int .i64 x.2):=fun y=>y.row (by simp) m.o rfl;clear x0 x1 cT lk;have S0:∃y:jg [pT,w.heap.size] wb,wb.drew=y.1:=⟨⟨wb.drew,fun _ _=>rfl⟩,rfl⟩
  refine CalmN.fk (fun x=>∃y:jg [pT,w.heap.size] wb,x=y.1) (.two [0,1,3] 2 (.one [] 4 (.one [] 5 (.one [] 6 (.one [] 7 (.fin []))))) 4 (.one [] 2 (.one [] 5 (.one [] 6 (.one [] 7 (.fin [])))))) (by kernel_rfl) (by kernel_rfl) (fun _ _ d _ _ h=>by cases d <;> exact h) S0 ?_;rw[CalmN.fN];simp only[CalmN.fo,Az,Am,Ap];repeat (go_big_quiet_step (fail))
  have ar:=aA S0;have C:Hid (Below w.heap.size w wb.drew):=aA (aB j.o 1);have H1:Hid (wb.drew.heap[pA]?=some (.cells #[.slice A xs.length c] 52 (0,0))):=H1;have H2:Hid (aJ 60 2 fO wb.drew base (.slice A xs.length c) xs):=H2;have H3:Hid (wb.drew.heap[pT]?=some (.cells #[.map (some M)] 176 (0,0))):=H3;have H4:Hid (Mw.fx vy wb.drew M l):=aA (H4.o.block rfl);have m:Hid (wb.drew.heap[w.heap.size]?=some (.cells #[.int .i64 x.1,.int .i64 x.2] 60 (0,0))):=m;have cA:wb.drew.cell? ⟨pA,0,none⟩=some (.slice A xs.length c):=cA
  have ag:Hid (∀y:World,y.heap[pT]?=wb.drew.heap[pT]?->y.heap[w.heap.size]?=wb.drew.heap[w.heap.size]?->∃z:jg [pT,w.heap.size] wb,y=z.1):=aA (fun y e1 e2=>⟨⟨y,fun g hg=>by
   rcases Bu.1 hg with rfl|hg
   ·exact e1
   ·rw[AP.1 hg];exact e2⟩,rfl⟩)
  have ak:w.heap.size<wb.drew.heap.size:=a3;clear qT q0 q1;generalize wb.drew=wd at *;have i:Hid (Below wd.heap.size wd (wd.alloc (.cells #[.int .i64 x.1,.int .i64 x.2] 60))):=aA ((AB _ _).alloc (Af _) _);have bb:=(Ad.1 H3.o).1;have bl:=(Ad.1 H1.o).1;have cA2:=aS (aC i.o H1.o);have B:=aA (ag.o (wd.alloc (.cells #[.int .i64 x.1,.int .i64 x.2] 60)) (i.o.block _ bb) (i.o.block _ ak));refine Aw ⟨?_,?_⟩
  case' refine_1 =>
   simp only[CalmN.fN,CalmN.fv,CalmN.fo,Az,Am,Ap];intro KK b;rw[AC (by rfl)];go_wp2_with fail
   refine b _ _ ar.o _ (fun _ h=>h) ar.o ?_;clear b;refine Aw ?_;intro KK b;rw[AC (by rfl)];go_wp2_with fail
   refine b _ _ B.o _ (fun _ h=>h) B.o ?_;clear b;refine Aw ?_
  case' refine_2 =>
   simp only[CalmN.fN,CalmN.fv,CalmN.fo,Az,Am,Ap];intro KK b;rw[AC (by rfl)];go_wp2_with fail
   refine b _ _ B.o _ (fun _ h=>h) B.o ?_;clear b;refine Aw ?_;intro KK b;rw[AC (by rfl)];go_wp2_with fail
   refine b _ _ B.o _ (fun _ h=>h) B.o ?_;clear b;refine Aw ?_
  all_goals
   intro KK b;rw[AC (by rfl)];have o1:=H2.o.alloc (.cells #[.int .i64 x.1,.int .i64 x.2] 60);have p:=aA o1;have b1:=aC i.o H1.o;have b3:=aC i.o H3.o;have bX:=aC i.o m.o;obtain⟨es,ck,au,av⟩:=H4.o;have bM:=aC i.o au;have ac:=AG wd (.cells #[.int .i64 x.1,.int .i64 x.2] 60);clear o1 cA cA2;refine GQ (f:=fO) (.tmp 10) (.tmp 12) _ rfl underlying52 _ 16 xu (by decide) (by decide) (by decide) aI sM base _ xs rfl p.o _ _ x rfl (FG x _ _ ac) (by have:=ai.o;omega) (Aj u.o (by have:=C.o.size;simp;omega)) ?_;intro v5 w5 al q;obtain⟨A5,c5,rfl,_,_,_⟩:=aJ.form al aI;have m5:=aH p.o q bM fun cur e=>by cases e
   have t5:=aH p.o q b3 fun cur=>aG (by decide);have a5:=aH p.o q b1 fun cur=>aG (by decide);have x5:w5.heap[w.heap.size]?=some (.cells #[.int .i64 x.1,.int .i64 x.2] 60 (0,0)):=(q.block _ (Ad.1 bX).1 (fun e=>by have:=a9.o _ e.symm;omega)).trans bX;have D:Hid (Mw.fx vy w5 M l):=aA ⟨es,ck,m5,av⟩;have aw:=aA (ag.o w5 (t5.trans H3.o.symm) (x5.trans m.o.symm));have ax:Hid (Below base w w5):=aA (((C.o.mono u.o).trans (i.o.mono (Aj u.o C.o.size))).grown q (Aj u.o (by have:=C.o.size;simp;omega)) (fun k e=>(Bk p.o k e).1));have am:=aA t5;have ao:=aA a5;have ay:=aA x5;have bc:=aA al;have az:=aA q;have bd:=aA b1;have bf:=aA b3;clear m5 t5 a5 x5 al q b1 b3 bX bM au av ac;refine b _ _ aw.o _ (fun _ h=>h) aw.o ?_;clear b;refine Aw ?_;intro KK b;rw[AC (by rfl)];refine Qa _ _ _ _ rfl (aq.o w5 D.o) rfl rfl rfl ?_;rintro w6 ⟨a0,r⟩;have ad:M≠pT:=fun e=>by have:=am.o;rw[<-e]at this;exact D.o.fB this
   have ae:M≠pA:=fun e=>by have:=ao.o;rw[<-e]at this;exact D.o.fB this
   have t6:=(r.block pT (Ad.1 am.o).1 (fun e=>by injection e with e;exact ad e.symm)).trans am.o;have a6:=(r.block pA (Ad.1 ao.o).1 (fun e=>by injection e with e;exact ae e.symm)).trans ao.o;have x6:=(r.block w.heap.size (Ad.1 ay.o).1 (fun e=>by injection e with e;exact ba.o e.symm)).trans ay.o;have a1:=aA (ag.o w6 (t6.trans H3.o.symm) (x6.trans m.o.symm));have bg:Hid (Below base w w6):=aA (pF ax.o r HM.o (Aj u.o (by have:=ax.o.size;omega)));have HP:=aA (kv.put HN.o bd.o p.o bf.o H5.o HA.o HT.o HM.o bc.o az.o a0 r D.o).1;have cA6:=aS a6;have fA6:=AH w6 pA 0 _ _ a6;have lA6:=(Ad.1 a6).1;have a2:=aA (ag.o (w6.setCell ⟨pA,0,none⟩ (.slice A5 (xs++[x]).length c5)) ((HP.o.t).trans H3.o.symm) ((AU w6 ⟨pA,0,none⟩ _ w.heap.size (fun e=>aj e.symm)).trans (x6.trans m.o.symm)));have bh:Hid (Below base w (w6.setCell ⟨pA,0,none⟩ (.slice A5 (xs++[x]).length c5))):=aA (bg.o.setCell HA.o _);obtain⟨es5,ck5,af,_⟩:=D.o;have bi:Hid (gh w (w6.setCell ⟨pA,0,none⟩ (.slice A5 (xs++[x]).length c5))):=aA (((((gh.below C.o).trans (.below i.o)).trans (.own p.o az.o)).trans (.map af r)).trans (.set a6 _));clear a0 r ad ae t6 a6 x6 af;generalize (xs++[x]).length=ln at *;refine b _ _ a1.o _ (fun _ h=>h) a1.o ?_;clear b;refine Aw ?_;intro KK b;rw[AC (by rfl)];go_wp2_with fail
   refine b _ _ a2.o _ (fun _ h=>h) a2.o ?_;clear b cA6 fA6 lA6;refine Aw ?_;go_wp2;go_end0
   exact⟨rfl,HP.o,bh.o,bi.o⟩
namespace Au
def jn (G:Gm.Gr) (left:Int) (i:Nat):List It:=((List.range i).filter fun k=>decide ((G.rs.getD k ⟨0,[],0⟩).l=left)).map fun k:Nat=>((k:Int),(0:Int))
theorem pK {left:Int} (hi:i<G.rs.length) (h:(G.rs[i]).l=left):jn G left (i+1)=jn G left i++[((i:Int),0)]:=by
 unfold jn;rw[CH,B9,Bf,Cc,AC (by rw[Bi,Ag,AD hi,Bp];exact h)];rfl
theorem rZ {left:Int} (hi:i<G.rs.length) (h:(G.rs[i]).l≠left):jn G left (i+1)=jn G left i:=by
 unfold jn;rw[CH,B9,Bf,Cc,AI (by rw[Bi,Ag,AD hi,Bp];exact h)];simp
theorem pJ (G:Gm.Gr) (left:Int) (i:Nat):(jn G left i).length<=i:=by
 unfold jn;rw[Bh]
 have:=Cd (fun k=>decide ((G.rs.getD k ⟨0,[],0⟩).l=left)) (List.range i)
 rw[List.length_range]at this;exact this
theorem pH {x:It} (h:nx G x=some s) (h0:s<0):kx G x=jn G (-1-s) G.rs.length:=by
 unfold kx jn;rw[h];simp only[AC h0]
theorem mi {x:It} (h:∀s,nx G x=some s->0<=s):kx G x=[]:=by
 unfold kx;cases hn:nx G x with
 | none=>rfl
 | some s =>
  have:=h s hn
  simp only;rw[AI (by omega)]
theorem mC:∀ {zs xs:List It},(gg xs zs).length<=xs.length+zs.length
 | [],_=>Af _
 | z::zs,xs=>by
  have h:=mC (zs:=zs) (xs:=iQ xs z)
  have h1:(iQ xs z).length<=xs.length+1:=by
   unfold iQ;split
   ·omega
   ·simp
  have e:gg xs (z::zs)=gg (iQ xs z) zs:=rfl;rw[e,BC];omega
end Au
theorem OV (v:Value) (G:Gm.Gr) (B:Nat) (left:Int) (w:World) (base pA pT M:Nat) (xs:List Au.It) (hg:aT w B v G) (hB:B<=base) (hr:G.rs.length<=1000) (h:kv w base pA pT M xs) (aa:xs.length<=50000) :
  Calls prog 107 #[v,.int .i64 left,.func (Fn.func 104) #[] #[.pointer (some ⟨pT,0,none⟩),.pointer (some ⟨pA,0,none⟩)]] w fun e w'=>e=.returned (.tuple #[])/\kv w' base pA pT M (Au.gg xs (Au.jn G left G.rs.length))/\Below base w w'/\gh w w':=by
 obtain⟨AT,cT,AN,cN,AR,cR,rfl,_,_,⟨a5,a6⟩,_,_,hR⟩:=hg;obtain⟨wb,ab⟩:∃y,y=w.alloc (.cells #[.slice AT G.ts.length cT,.slice AN G.ns.length cN,.slice AR G.rs.length cR,.int .i64 G.st] 26):=⟨_,rfl⟩
 have ad:Hid (Below w.heap.size w wb):=aA (by rw[ab];exact(AB _ _).alloc (Af _) _);have ag:wb.heap[w.heap.size]?=some (.cells #[.slice AT G.ts.length cT,.slice AN G.ns.length cN,.slice AR G.rs.length cR,.int .i64 G.st] 26 (0,0)):=by rw[ab];exact AG w _
 have HR:=aA hR;have ah:=aA h.fC;have HB:=aA hB;have HH:=aA (h.below ad.o);have x2:=aY ag;have av:Hid (Below base w wb):=aA (ad.o.mono ah.o);have aw:Hid (gh w wb):=aA (.below ad.o);have ai:(G.rs.length:Int)<=1000:=by omega
 have HL:=aA aa;clear hR hB h ag aa
 go_enter func107,ntmps107
 go_upto_region 1 with fail
 rw[<-ab];clear ab;go_wp2;go_loopw [11] (fun vi wr=>∃i:Nat,i<=G.rs.length/\vi=.int .i64 i/\Hid (kv wr base pA pT M (Au.gg xs (Au.jn G left i)))/\Hid (Below base w wr)/\Hid (gh w wr)) (fun vi _=>G.rs.length-(intOf vi).toNat)
 case atStart=>exact⟨0,AV _,rfl,HH,av,aw⟩
 case round =>
  obtain⟨i,hi,rfl,HA,HW,HK⟩:=hrel;by_cases b:i<G.rs.length
  ·obtain⟨g,o,rfl,ax,hc⟩:=HR.o (by omega);obtain⟨k0,⟨A',c',k1,ay,_,az⟩,k2⟩:=hc i b;have ae:g<base:=Ah ax HB.o;have k0:=(HW.o.cell (p:=⟨g,o+i*3,none⟩) ae).trans k0;have k1:=(HW.o.cell (p:=⟨g,o+i*3+1,none⟩) ae).trans k1;have k2:=(HW.o.cell (p:=⟨g,o+i*3+2,none⟩) ae).trans k2;have aj:=aA (show(Au.gg xs (Au.jn G left i)).length<=100000 by have:=Au.mC (xs:=xs) (zs:=Au.jn G left i);have:=Au.pJ G left i;have:=HL.o;omega);obtain⟨wi,ac⟩:∃y,y=wr.alloc (.cells #[.int .i64 (G.rs[i]).l,.slice A' (G.rs[i]).r.length c',.int .i64 (G.rs[i]).p] 48):=⟨_,rfl⟩
   have af:Hid (Below wr.heap.size wr wi):=aA (by rw[ac];exact(AB _ _).alloc (Af _) _);have ak:wi.heap[wr.heap.size]?=some (.cells #[.int .i64 (G.rs[i]).l,.slice A' (G.rs[i]).r.length c',.int .i64 (G.rs[i]).p] 48 (0,0)):=by rw[ac];exact AG wr _
   have y0:=aS ak;have al:=aA (HW.o.trans (af.o.mono (Aj ah.o HK.o.size)));have am:=aA (HK.o.trans (.below af.o));have ao:=aA (HA.o.below af.o);have ap:=aA (Lc wi base pA pT M _ ((i:Int),0) ao.o (by unfold Gm.In;simp only;omega) aj.o);have hY:=Au.pK (left:=left) b;have hN:=Au.rZ (left:=left) b;clear hc az ay ak aj;generalize (G.rs[i]).l=lf at *;generalize (G.rs[i]).r.length=rn at *;generalize (G.rs[i]).p=rp at *;go_upto_region 4 with fail
   rw[<-ac];clear ac k0 k1 k2;by_cases he:lf=left
   ·have a0:=aA (hY he);have hq:(lf==left)=true:=by rw[BJ];exact he
    clear hY hN he;go_wp2_with fail
    refine ap.o.mono ?_;rintro _ w2 ⟨rfl,aq,ar,au⟩;have a1:=aA aq;have a2:=aA (al.o.trans ar);have a3:=aA (am.o.trans au);clear aq ar au y0;go_wp2;go_roundw
    case rel=>exact⟨i+1,b,by go_num,aA (by rw[a0.o,Au.mB];exact a1.o),a2,a3⟩
    case measure=>simp[intOf];omega
   ·have a4:=aA (hN he);have hq:(lf==left)=false:=by rw[Ba];exact he
    clear hY hN he ap;go_wp2;go_roundw
    case rel=>exact⟨i+1,b,by go_num,aA (by rw[a4.o];exact ao.o),al,am⟩
    case measure=>simp[intOf];omega
  ·obtain rfl:i=G.rs.length:=by omega
   go_wp2;go_end0
   exact⟨rfl,HA.o,HW.o,HK.o⟩
end Go.Proofs.YtcmhaemaophplaaGreat
namespace Go.Proofs
open Go.Shelf
def Tryz.rN:Go.Shelf.Ren:=⟨fun|6=>109|15=>146|14=>145|28=>173|29=>174|20=>165|21=>166|22=>167|23=>168|24=>169|25=>170|26=>171|27=>172|46=>185|47=>186|48=>187|49=>188|50=>189|57=>196|n=>n,fun|22=>52|24=>60|25=>180|3=>3|39=>209|0=>0|53=>44|55=>231|4=>4|46=>224|45=>223|50=>57|5=>5|9=>9|66=>233|70=>237|76=>242|77=>243|n=>n,fun|n=>n⟩
theorem Tryz.uV:Go.Proofs.SlLaysF0.n6 prog Tryz.rN:={
 mixed:=by kernel_rfl
 f6:=⟨Tryz.f109.name,by decide,Tryz.func109.trans (congrArg some (by kernel_rfl))⟩
 f14:=⟨Tryz.f145.name,by decide,Tryz.func145.trans (congrArg some (by kernel_rfl))⟩
 f15:=Tryz.func146.trans (congrArg some (by kernel_rfl))
 f20:=⟨Tryz.f165.name,by decide,Tryz.func165.trans (congrArg some (by kernel_rfl))⟩
 f21:=⟨Tryz.f166.name,by decide,Tryz.func166.trans (congrArg some (by kernel_rfl))⟩
 f22:=⟨Tryz.f167.name,by decide,Tryz.func167.trans (congrArg some (by kernel_rfl))⟩
 f23:=⟨Tryz.f168.name,by decide,Tryz.func168.trans (congrArg some (by kernel_rfl))⟩
 f24:=⟨Tryz.f169.name,by decide,Tryz.func169.trans (congrArg some (by kernel_rfl))⟩
 f25:=⟨Tryz.f170.name,by decide,Tryz.func170.trans (congrArg some (by kernel_rfl))⟩
 f26:=⟨Tryz.f171.name,by decide,Tryz.func171.trans (congrArg some (by kernel_rfl))⟩
 f27:=⟨Tryz.f172.name,by decide,Tryz.func172.trans (congrArg some (by kernel_rfl))⟩
 f28:=Tryz.func173.trans (congrArg some (by kernel_rfl))
 f29:=Tryz.func174.trans (congrArg some (by kernel_rfl))
 f46:=⟨Tryz.f185.name,by decide,Tryz.func185.trans (congrArg some (by kernel_rfl))⟩
 f47:=Tryz.func186.trans (congrArg some (by kernel_rfl))
 f48:=Tryz.func187.trans (congrArg some (by kernel_rfl))
 f49:=⟨Tryz.f188.name,by decide,Tryz.func188.trans (congrArg some (by kernel_rfl))⟩
 f50:=⟨Tryz.f189.name,by decide,Tryz.func189.trans (congrArg some (by kernel_rfl))⟩
 f57:=⟨Tryz.f196.name,by decide,Tryz.func196.trans (congrArg some (by kernel_rfl))⟩
 t0:=underlying0
 a0:=isAgg0
 z0:=sizeOf0
 v0:=zeroValue0
 t3:=underlying3
 a3:=isAgg3
 z3:=sizeOf3
 v3:=zeroValue3
 t4:=underlying4
 a4:=isAgg4
 z4:=sizeOf4
 v4:=zeroValue4
 t5:=underlying5
 a5:=isAgg5
 z5:=sizeOf5
 v5:=zeroValue5
 t9:=underlying9
 a9:=isAgg9
 z9:=sizeOf9
 v9:=zeroValue9
 t22:=underlying52
 a22:=isAgg52
 z22:=sizeOf52
 v22:=zeroValue52
 t25:=underlying180
 a25:=isAgg180
 z25:=sizeOf180
 v25:=zeroValue180
 t39:=underlying209
 a39:=isAgg209
 z39:=sizeOf209
 v39:=zeroValue209
 t45:=underlying223
 a45:=isAgg223
 z45:=sizeOf223
 v45:=zeroValue223
 t46:=underlying224
 a46:=isAgg224
 z46:=sizeOf224
 v46:=zeroValue224
 t50:=underlying57
 a50:=isAgg57
 z50:=sizeOf57
 v50:=zeroValue57
 t53:=underlying44
 a53:=isAgg44
 z53:=sizeOf44
 v53:=zeroValue44
 t55:=underlying231
 a55:=isAgg231
 z55:=sizeOf231
 v55:=zeroValue231
 t66:=underlying233
 a66:=isAgg233
 z66:=sizeOf233
 v66:=zeroValue233
 t70:=underlying237
 a70:=isAgg237
 z70:=sizeOf237
 v70:=zeroValue237
 t76:=underlying242
 a76:=isAgg242
 z76:=sizeOf242
 v76:=zeroValue242
 t77:=underlying243
 a77:=isAgg243
 z77:=sizeOf243
 v77:=zeroValue243}
end Go.Proofs
namespace Go.Proofs.YtcmhaemaophplaaGreat
theorem Rf (a b r:Int) (hr:(if a=0 then b else a)=r) (g:Nat) (w:World) (h0:w.cell? ⟨g,0,none⟩=some (.int .i64 a)) (h1:w.cell? ⟨g,1,none⟩=some (.int .i64 b)) :
  Calls prog 147 #[.slice (some ⟨g,0,none⟩) 2 2] w fun e w'=>e=.returned (.int .i64 r)/\w'=w:=by
 by_cases ha:a=0
 ·rw[AC ha]at hr;subst ha hr;by_cases hb:b=0
  ·subst hb
   go_enter func147,ntmps147
   go_wp2;go_loopw [8] (fun vi wr=>∃k:Nat,k<=2/\vi=.int .i64 k/\wr=w) (fun vi _=>2-(intOf vi).toNat)
   case atStart=>exact⟨0,by omega,rfl,by trivial⟩
   case round =>
    obtain⟨k,hk,rfl,rfl⟩:=hrel;by_cases aa:k<2
    ·have hc:wr.cell? ⟨g,k,none⟩=some (.int .i64 0):=by
      match k,aa with
      | 0,_=>exact h0
      | 1,_=>exact h1
     clear h0 h1;go_wp2;go_roundw
     case rel=>exact⟨k+1,aa,by go_num,by trivial⟩
     case measure=>simp[intOf];omega
    ·have:¬(k:Int)<2:=by omega
     go_wp2;go_ret
     exact⟨rfl,rfl⟩
  ·have hq:(b != 0)=true:=by rw[D4];exact hb
   clear hb
   go_enter func147,ntmps147
   go_wp2;go_loopw [8] (fun vi wr=>∃k:Nat,k<=1/\vi=.int .i64 k/\wr=w) (fun vi _=>2-(intOf vi).toNat)
   case atStart=>exact⟨0,by omega,rfl,by trivial⟩
   case round =>
    obtain⟨k,hk,rfl,rfl⟩:=hrel;by_cases aa:k=0
    ·subst aa;clear h1;go_wp2;go_roundw
     case rel=>exact⟨1,by omega,by go_num,by trivial⟩
     case measure=>simp[intOf]
    ·obtain rfl:k=1:=by omega
     clear h0;go_wp2;go_ret
     exact⟨rfl,rfl⟩
 ·rw[AI ha]at hr;subst hr;have hq:(a != 0)=true:=by rw[D4];exact ha
  clear h1 ha
  go_enter func147,ntmps147
  go_wp2;go_loopw [8] (fun vi wr=>vi=.int .i64 0/\wr=w) (fun _ _=>0)
  case atStart=>exact⟨rfl,by trivial⟩
  case round =>
   obtain⟨rfl,rfl⟩:=hrel;go_wp2;go_ret
   exact⟨rfl,rfl⟩
namespace Au
def oG (x y:It):Int:=if Lib.compareInt x.1 y.1=0 then Lib.compareInt x.2 y.2 else Lib.compareInt x.1 y.1
theorem kW (x y:It):ltOf oG x y=lt x y:=by
 unfold ltOf oG Lib.compareInt lt;rw[Bw];simp only[Bi,Dd,Bb];split <;> split <;> (try split) <;> (try split) <;> omega
end Au
theorem NC (x y:Au.It) (W:World) :
  Calls prog 110 #[lI x,lI y] W fun e w'=>e=.returned (.int .i64 (Au.oG x y))/\∃q os',w'=Go.Sort.grow (W.drewN q) os':=by
 have ad:=aA (fun(w:World)=>Tryz.cmp_Compare_int x.1 y.1 w);have ae:=aA (fun(w:World)=>Tryz.cmp_Compare_int x.2 y.2 w);have HE:Hid (Au.oG x y=if Lib.compareInt x.1 y.1=0 then Lib.compareInt x.2 y.2 else Lib.compareInt x.1 y.1):=aA rfl;obtain⟨wb,ab⟩:∃z,z=(W.alloc (.cells #[.int .i64 x.1,.int .i64 x.2] 60)).alloc (.cells #[.int .i64 y.1,.int .i64 y.2] 60):=⟨_,rfl⟩
 have HT:Hid (bQ 60 60 W #[.int .i64 x.1,.int .i64 x.2] #[.int .i64 y.1,.int .i64 y.2] wb):=aA (by rw[ab];exact bQ.start _ _ _ _ _);have HG:Hid (∃os',wb=Go.Sort.grow W os'):=aA ⟨_,by rw[ab,Go.Sort.alloc_eq_grow,Go.Sort.alloc_eq_grow,Go.Sort.grow_grow]⟩;have hz:W.heap.size+2<=wb.heap.size:=HT.o.size;have HO:=aA (fun(g:Nat) (w:World)=>Rf (Lib.compareInt x.1 y.1) (Lib.compareInt x.2 y.2) (Au.oG x y) HE.o.symm g w);generalize Au.oG x y=r at *;generalize Lib.compareInt x.1 y.1=c1 at *;generalize Lib.compareInt x.2 y.2=c2 at *;clear HE
 go_enter func110,ntmps110
 go_upto_region 1 with fail
 rw[<-ab];clear ab;have q0:∀z:Calm.On wb.heap.size wb,z.1.cell? ⟨W.heap.size,0,none⟩=some (.int .i64 x.1):=fun z=>(HT.o.on z.2).c1 0 _ rfl;have q1:∀z:Calm.On wb.heap.size wb,z.1.cell? ⟨W.heap.size,1,none⟩=some (.int .i64 x.2):=fun z=>(HT.o.on z.2).c1 1 _ rfl;have q2:∀z:Calm.On wb.heap.size wb,z.1.cell? ⟨W.heap.size+1,0,none⟩=some (.int .i64 y.1):=fun z=>(HT.o.on z.2).c2 0 _ rfl;have q3:∀z:Calm.On wb.heap.size wb,z.1.cell? ⟨W.heap.size+1,1,none⟩=some (.int .i64 y.2):=fun z=>(HT.o.on z.2).c2 1 _ rfl;have f:=aW wb;have ac:Hid (∀o:Obj,∃z:Calm.On wb.heap.size wb,wb.drew.alloc o=z.1):=aA (fun o=>⟨⟨wb.drew.alloc o,(aB (AB _ _) 1).alloc (Af _) o⟩,rfl⟩);refine CalmN.fk (fun x=>∃z:Calm.On wb.heap.size wb,x=z.1) (.one [0,1,2,3,5,6,7,8] 4 (.one [] 9 (.one [] 10 (.one [] 11 (.fin [12]))))) (by kernel_rfl) (by kernel_rfl) (fun _ _ d _ _ h=>by cases d <;> exact h) f.o ?_;simp only[CalmN.fN,CalmN.fv,CalmN.fo,Az,Am,Ap];repeat (go_big_quiet_step (fail))
 refine Aw ?_;have HD:Hid (∃os',wb.drew=Go.Sort.grow (W.drewN 1) os'):=aA (by obtain⟨os',e⟩:=HG.o;exact⟨os',by rw[e];rfl⟩);clear q0 q1 q2 q3 HG;generalize wb.drew=wd at *;intro KK b;rw[AC (by rfl)];go_wp2_with fail
 refine(ad.o _).mono ?_;rintro _ wd ⟨rfl,rfl⟩;go_wp2_with fail
 refine b _ _ f.o _ (fun _ h=>h) f.o ?_;clear b;refine Aw ?_;intro KK b;rw[AC (by rfl)];go_wp2_with fail
 refine(ae.o _).mono ?_;rintro _ wd ⟨rfl,rfl⟩;go_wp2_with fail
 refine b _ _ f.o _ (fun _ h=>h) f.o ?_;clear b;refine Aw ?_;intro KK b;rw[AC (by rfl)];go_wp2_with fail
 refine b _ _ (ac.o _) _ (fun _ h=>h) (ac.o _) ?_;clear b;refine Aw ?_;intro KK b;rw[AC (by rfl)];have aa:=AG wd (.cells #[.int .i64 c1,.int .i64 c2] 3);have af:=aA (HO.o wd.heap.size _ (AF _ _ 0 _ _ _ aa) (AF _ _ 1 _ _ _ aa));clear aa;go_wp2_with fail
 refine af.o.mono ?_;rintro _ wz ⟨rfl,ag⟩;subst ag;go_wp2_with fail
 refine b _ _ (ac.o _) _ (fun _ h=>h) (ac.o _) ?_;clear b;repeat (go_big_quiet_step (fail))
 refine Aw ?_;obtain⟨os',e⟩:=HD.o;have HF:Hid (∃q os',wd.alloc (.cells #[.int .i64 c1,.int .i64 c2] 3)=Go.Sort.grow (W.drewN q) os'):=aA ⟨1,_,by rw[Go.Sort.alloc_eq_grow,e,Go.Sort.grow_grow]⟩;clear e;go_wp2;go_ret
 exact⟨rfl,HF.o⟩
theorem KX (ts:List Au.It):Go.Sort.flatK fO 2 ts.toArray=(ts.flatMap fO).toArray:=by
 refine Go.Sort.ext_get! (by simp[tH aI]) fun t ht=>?_;rw[Go.Sort.size_flatK]at ht;rw[Go.Sort.get_flatK _ _ _ _ ht];have aa:t / 2<ts.length:=by simpa[Nat.div_lt_iff_lt_mul] using ht
 have h:=wU aI ts (t / 2) (t % 2) aa (Nat.mod_lt _ (by decide));rw[show t / 2*2+t % 2=t by omega]at h;have e1:ts.toArray[t / 2]! = ts[t / 2]:=by simp[aa]
 rw[e1];have hl:t<(ts.flatMap fO).length:=by rw[tH aI];omega
 have hm:t % 2<(fO ts[t / 2]).length:=by rw[aI];omega
 rw[AD hl,AD hm]at h;injection h with h;rw[getElem!_pos (fO ts[t / 2]) (t % 2) hm,getElem!_pos (ts.flatMap fO).toArray t (by simpa using hl)]
 simpa using h.symm
theorem Qk:Go.Sort.SWO (ltOf Au.oG) where
 irrefl x:=by rw[Au.kW];exact Au.kK x
 trans x y z h1 h2:=by rw[Au.kW]at *;exact Au.lt_trans h1 h2
 ntrans x y z h1 h2:=by
  rw[Au.kW]at *;cases h:Au.lt x z
  ·rfl
  ·have a:¬Au.lt x y=true:=by rw[h1];decide
   have b:¬Au.lt y z=true:=by rw[h2];decide
   rw[Au.lt_iff]at h a b;omega
def Au.xb (xs:List Au.It):List Au.It:=xs.mergeSort fun x y=>!Au.lt y x
theorem Au.yZ {xs:List Au.It} (h:xs.Nodup):Au.j6 (Au.xb xs)/\∀x,x∈Au.xb xs↔x∈xs:=by
 have hp:(Au.xb xs).Perm xs:=List.mergeSort_perm _ _;refine⟨Au.yY h hp ?_,fun x=>hp.mem_iff⟩
 have hs:=List.pairwise_mergeSort (le:=fun x y=>!Au.lt y x) (fun a b c h1 h2=>by
  simp only[En]at *;have a1:¬Au.lt b a=true:=by rw[h1];decide
  have b1:¬Au.lt c b=true:=by rw[h2];decide
  cases q:Au.lt c a
  ·rfl
  ·rw[Au.lt_iff]at q a1 b1
   omega) (fun a b=>by
  cases q:Au.lt b a
  ·rfl
  ·have:Au.lt a b=false:=by
    cases k:Au.lt a b
    ·rfl
    ·rw[Au.lt_iff]at q k;omega
   rw[this];rfl) xs
 exact hs.imp fun {a b} h=>by simpa using h
theorem N7 {cap:Nat} {xs ts:List Au.It} (h:aJ 60 2 fO w base (.slice (some ⟨g,0,none⟩) xs.length cap) xs) (hl:ts.length=xs.length) (n:Nat) (os:Array Obj) :
  aJ 60 2 fO (sortWorldK fO 2 w g 0 n ts.toArray os) base (.slice (some ⟨g,0,none⟩) xs.length cap) ts/\w.grownBy (sortWorldK fO 2 w g 0 n ts.toArray os) (some g):=by
 have hF:(ts.flatMap fO).length=xs.length*2:=by rw[tH aI,hl]
 rcases h.2 with⟨e,h0⟩|⟨g',cap',cur,e,hb,hg,hn,hm,hs,ht⟩
 ·cases e
 ·injection e with e1 e2 e3;injection e1 with e1;injection e1 with e1;subst e1 e3;unfold sortWorldK Go.Sort.putRowK aJ;rw[KX];have hq:(ts.flatMap fO).length=ts.length*2:=tH aI ts;generalize ts.flatMap fO=F at *;have aa:g<w.heap.size:=(Ad.1 hg).1;refine⟨?_,⟨rfl,rfl,rfl,by simp,fun k hk ab=>?_⟩⟩
  ·refine⟨hq,.inr ⟨g,cap,Go.Sort.putCells id 0 F.toArray cur,by rw[hl],hb,?_,by omega,hm,by simp[Go.Sort.putCells,hs],?_⟩⟩
   ·rw[Go.Sort.heap_grow_old _ _ (by simpa using aa)];simp[Go.Sort.putRow,Go.Sort.mapBlock,Go.Sort.ahead,Array.getElem?_modify,hg,Go.Sort.onCells]
   ·rw[hl,<-hF];have ac:F.length<=cur.size:=by rw[hF,hs];exact Ds 2 hn
    apply CU;intro j;by_cases hj:j<F.length
    ·rw[CO hj,El];simp[Go.Sort.putCells,hj,show j<cur.size by omega]
    ·rw[List.getElem?_take_eq_none (by omega),BH (by omega)]
  ·rw[Go.Sort.heap_grow_old _ _ (by simpa using hk)]
   have:g≠k:=fun e=>ab (by rw[e])
   simp[Go.Sort.putRow,Go.Sort.mapBlock,Go.Sort.ahead,Array.getElem?_modify,this]
theorem O6 {cap:Nat} {xs:List Au.It} (h:aJ 60 2 fO w base (.slice (some ⟨g,0,none⟩) xs.length cap) xs):Go.Sort.HoldsK fO 2 w g 0 xs.toArray:=by
 rcases h.2 with⟨e,h0⟩|⟨g',cap',cur,e,hb,hg,hn,hm,hs,ht⟩
 ·cases e
 ·injection e with e1 e2 e3;injection e1 with e1;injection e1 with e1;subst e1 e3;unfold Go.Sort.HoldsK;rw[KX];intro j hj;have hj:j<(xs.flatMap fO).length:=by simpa using hj
  have aa:j<xs.length*2:=by rw[<-tH aI];exact hj
  refine⟨?_,AH w g _ _ _ hg⟩;rw[BG,AF w g j _ _ _ hg];have h2:(cur.toList.take (xs.length*2))[j]?=(xs.flatMap fO)[j]?:=by rw[ht]
  rw[CO aa,El]at h2;rw[h2,getElem!_pos (xs.flatMap fO).toArray j (by simpa using hj),AD hj];simp
theorem Qf {xs:List Au.It} (h:aJ 60 2 fO w base v xs) (hl:xs.length<=1000000) :
  Calls prog 109 #[v,.func (Fn.func 110) #[] #[]] w fun e w'=>e=.returned (.tuple #[])/\aJ 60 2 fO w' base v (Au.xb xs)/\w.grownBy w' v.ownBlock:=by
 have ab:(Au.xb xs).length=xs.length:=List.length_mergeSort _;rcases CY xs.length with h0|h0
 ·have hx:xs=[]:=BB h0;subst hx;obtain⟨A,c,rfl,_⟩:=aJ.form h aI;refine(AnyF.slices_SortFunc_none Tryz.uV A c _ w).mono ?_;rintro e w' ⟨rfl,rfl⟩;exact⟨rfl,by rw[show Au.xb []=[] by simp[Au.xb]];exact h,AJ _ _⟩
 ·obtain⟨g,c,rfl,ac,_,ad⟩:=aJ.addr h (by omega);have eg:∀args w,(callFunc 110 args).run prog w=.ok (.enter 110 args) w:=enters_of func110 (by kernel_rfl) rfl
  have aa:=AnyQ.slices_SortFunc_total Tryz.uV 2 (fun _=>by kernel_rfl) (fun _=>by kernel_rfl) fO aI sM Au.oG Qk 110 #[] g 0 c xs.toArray w eg (fun _ _ _ _ x y=>NC x y _) (O6 h) (aJ.lt h) (by simp;omega) (fun x y h1 h2=>by
   rw[Au.kW]at h1 h2;exact BW fun hn=>by rw[Au.uC h1 hn]at h2;cases h2)
  have e1:xs.toArray.size=xs.length:=by simp
  rw[e1]at aa;refine Calls.mono aa ?_;rintro e w' ⟨rfl,n,os,rfl⟩
  have e2:(xs.toArray.toList.mergeSort fun x y=>!(ltOf Au.oG) y x)=Au.xb xs:=by
   unfold Au.xb
   congr 1
   funext x y
   rw[Au.kW]
  rw[e2];obtain⟨h1,h2⟩:=N7 h ab n os;exact⟨rfl,h1,h2⟩
theorem OT (v:Value) (G:Gm.Gr) (B:Nat) (l:List Au.It) (A:Option Addr) (c BL:Nat) (w:World) (hg:aT w B v G) (hf:Gm.Fit G) (a4:Gm.Ok G) (hB:B<=w.heap.size) (hl:jm 2 fO w BL A l) (a5:BL<=w.heap.size) (a6:∀x∈l,Gm.In x.1/\Gm.In x.2) (am:l.length<=1000) :
  Calls prog 72 #[v,.slice A l.length c] w fun e w'=>∃v',e=.returned v'/\aJ 60 2 fO w' w.heap.size v' (Au.iU G (l.filter (Au.gj G)))/\Below w.heap.size w w':=by
 have HG:=aA hg;have HF:=aA hf;have F:=aA a4;have J:=aA hB;have HL:=aA hl;have br:=aA a5;have a9:=aA a6;obtain⟨AT,cT,AN,cN,AR,cR,rfl,_⟩:=hg;have cl:∀(fn:Fn) (first cap:Array Value) (w:World),(Instr.makeFunc fn first cap).run prog w=.ok (.func fn first cap) w:=fun _ _ _ _=>rfl;have bs:=fun t w=>ET (P:=prog) t w;obtain⟨w1,V⟩:∃y,y=w.alloc (.cells #[.slice AT G.ts.length cT,.slice AN G.ns.length cN,.slice AR G.rs.length cR,.int .i64 G.st] 26):=⟨_,rfl⟩
 have ao:w1.heap.size=w.heap.size+1:=by rw[V];simp
 have b1:Below w.heap.size w w1:=by rw[V];exact(AB _ _).alloc (Af _) _
 have g1:w1.heap[w.heap.size]?=some (.cells #[.slice AT G.ts.length cT,.slice AN G.ns.length cN,.slice AR G.rs.length cR,.int .i64 G.st] 26 (0,0)):=by rw[V];exact AG w _
 obtain⟨w2,X⟩:∃y,y=w1.alloc (.cells #[.slice none 0 0] 52):=⟨_,rfl⟩
 have ap:w2.heap.size=w.heap.size+2:=by rw[X];simp[ao]
 have b2:Below w1.heap.size w1 w2:=by rw[X];exact(AB _ _).alloc (Af _) _
 have g2:w2.heap[w.heap.size+1]?=some (.cells #[.slice none 0 0] 52 (0,0)):=by rw[X,<-ao];exact AG w1 _
 obtain⟨w3,E⟩:∃y,y=w2.alloc (.map #[] 0):=⟨_,rfl⟩
 have ba:w3.heap.size=w.heap.size+3:=by rw[E];simp[ap]
 have b3:Below w2.heap.size w2 w3:=by rw[E];exact(AB _ _).alloc (Af _) _
 have g3:Mw.fx vy w3 (w.heap.size+2) []:=by rw[E,<-ap];exact Mw.fx.made vy w2
 obtain⟨w4,N⟩:∃y,y=w3.alloc (.cells #[.map (some (w.heap.size+2))] 176):=⟨_,rfl⟩
 have b4:Below w3.heap.size w3 w4:=by rw[N];exact(AB _ _).alloc (Af _) _
 have g4:w4.heap[w.heap.size+3]?=some (.cells #[.map (some (w.heap.size+2))] 176 (0,0)):=by rw[N,<-ba];exact AG w3 _
 have bu:Hid (Below w.heap.size w w4):=aA (((b1.trans (b2.mono (by omega))).trans (b3.mono (by omega))).trans (b4.mono (by omega)));have bb:=aC b4 (aC b3 (aC b2 g1));have bc:=aA bb;have bd:Hid (kv w4 w.heap.size (w.heap.size+1) (w.heap.size+3) (w.heap.size+2) (Au.gg [] ([].filter (Au.gj G)))):=aA ⟨⟨_,aC b4 (aC b3 g2),aJ.nil _ _⟩,g4,⟨[],g3.block (b4.block _ g3.lt),fun x=>by simp[Mw.fF,Au.gg]⟩,by omega,by omega,by omega⟩;have cm:Hid (w.heap.size+4<=w4.heap.size):=aA (by have:=(Ad.1 g4).1;omega);clear hf a4 hB hl a5 a6 b1 b2 b3 b4 g1 g2 g3 g4 bb;have ab:(l.length:Int)<=1000:=by omega
 go_enter func72,ntmps72
 go_upto_region 1 with fail
 rw[<-V];clear V;go_upto_region 2 with fail
 rw[<-X];clear X;go_upto_region 3 with fail
 rw[<-E];rw[<-N];clear E N ao ap ba bs;rw[show w.heap.size+2+1=w.heap.size+3 from rfl];obtain⟨pT,aq⟩:∃p,p=w.heap.size+3:=⟨_,rfl⟩
 obtain⟨pA,ar⟩:∃p,p=w.heap.size+1:=⟨_,rfl⟩
 obtain⟨M,hM⟩:∃p,p=w.heap.size+2:=⟨_,rfl⟩
 rw[<-aq,<-ar,<-hM]at bd;rw[<-aq,<-ar,<-hM];clear aq ar hM;go_wp2;go_loopw [17] (fun vi wr=>∃i:Nat,i<=l.length/\vi=.int .i64 i/\Hid (kv wr w.heap.size pA pT M (Au.gg [] ((l.take i).filter (Au.gj G))))/\Hid (Below w.heap.size w wr)/\Hid (gh w4 wr)) (fun vi _=>l.length-(intOf vi).toNat)
 case atStart=>exact⟨0,AV _,rfl,by simpa using bd,bu,aA (gh.refl _)⟩
 case round =>
  obtain⟨i,hi,rfl,HA,HW,HK⟩:=hrel;by_cases q:i<l.length
  ·obtain⟨g,o,rfl,bf,hc⟩:=HL.o (by omega);have au:g<w.heap.size:=Ah bf br.o;have k0:wr.cell? ⟨g,o+i*2,none⟩=some (.int .i64 (l[i]).1):=(HW.o.cell (p:=⟨g,o+i*2,none⟩) au).trans (hc i q 0 _ rfl);have k1:wr.cell? ⟨g,o+i*2+1,none⟩=some (.int .i64 (l[i]).2):=(HW.o.cell (p:=⟨g,o+i*2+1,none⟩) au).trans (hc i q 1 _ rfl);have bv:=aA (a9.o _ (AE q));have ae:Hid (l.take (i+1)=l.take i++[l[i]]):=aA (AL q)
   have bg:=aA (show(Au.gg [] ((l.take i).filter (Au.gj G))).length<=100000 by
    have h1:=Au.mC (xs:=[]) (zs:=(l.take i).filter (Au.gj G));have h2:=Cd (Au.gj G) (l.take i);rw[Bd]at h2;simp only[Eg]at h1
    omega)
   obtain⟨wi,af⟩:∃y,y=wr.alloc (.cells #[.int .i64 (l[i]).1,.int .i64 (l[i]).2] 60):=⟨_,rfl⟩
   have av:Hid (Below wr.heap.size wr wi):=aA (by rw[af];exact(AB _ _).alloc (Af _) _);have ag:wi.heap[wr.heap.size]?=some (.cells #[.int .i64 (l[i]).1,.int .i64 (l[i]).2] 60 (0,0)):=by rw[af];exact AG wr _
   have aw:=aA ag;have y0:=aS ag;have y1:=aX ag;have f:w.heap.size<=wr.heap.size:=HW.o.size;have O:=aA (HW.o.trans (av.o.mono f));have ax:=aA (HK.o.trans (.below av.o));have bh:=aA (HA.o.below av.o);have u:=ax.o.fp _ _ _ _ bc.o (by decide) (by decide);have z0:=aS u;have z1:=aX u;have z2:=aY u;have z3:=bI u;have ah:=aA (Qg _ G B l[i] wi (HG.o.below O.o J.o) HF.o (Aj J.o O.o.size));clear hc ag u au bf;generalize l[i]=x at *;go_upto_region 7 with fail
   rw[<-af];clear af k0 k1;cases hI:Au.gj G x
   ·have HE:Hid ((l.take (i+1)).filter (Au.gj G)=(l.take i).filter (Au.gj G)):=aA (by rw[ae.o,B9,Cc,AI (by rw[hI];decide)];simp);rw[hI]at ah;clear hI ae;go_wp2_with fail
    refine ah.o.mono ?_;rintro _ w2 ⟨rfl,b⟩;have H:=aA (bh.o.below b);have C:=aA (O.o.trans (b.mono O.o.size));have I:=aA (ax.o.trans (.below b));clear b y0 y1 z0 z1 z2 z3;go_wp2;go_roundw
    case rel=>exact⟨i+1,q,by go_num,aA (by rw[HE.o];exact H.o),C,I⟩
    case measure=>simp[intOf];omega
   ·have HE:Hid ((l.take (i+1)).filter (Au.gj G)=(l.take i).filter (Au.gj G)++[x]):=aA (by rw[ae.o,B9,Cc,AC hI];simp);rw[hI]at ah;clear hI ae;go_wp2_with fail
    refine ah.o.mono ?_;rintro _ w2 ⟨rfl,b⟩;have H:=aA (bh.o.below b);have C:=aA (O.o.trans (b.mono O.o.size));have I:=aA (ax.o.trans (.below b));have aa:=aC b aw.o;have y0:=aS aa;have y1:=aX aa;have bw:=aA (Lc w2 w.heap.size pA pT M _ x H.o bv.o bg.o);clear b aa z0 z1 z2 z3;go_wp2_with fail
    refine bw.o.mono ?_;rintro _ w3 ⟨rfl,bi,bj,bk⟩;have bx:=aA bi;have bz:=aA (C.o.trans bj);have bD:=aA (I.o.trans bk);clear bi bj bk y0 y1;go_wp2;go_roundw
    case rel=>exact⟨i+1,q,by go_num,aA (by rw[HE.o,Au.mB];exact bx.o),bz,bD⟩
    case measure=>simp[intOf];omega
  ·obtain rfl:i=l.length:=by omega
   rw[Bn]at HA;have ai:Hid (∀x∈l.filter (Au.gj G),Au.gj G x=true):=aA (fun x hx=>(B7.1 hx).2);generalize ay:l.filter (Au.gj G)=lf at *;have bM:=aA ay;clear ay;obtain⟨wo,bT⟩:∃wo:World,wo=wr:=⟨_,rfl⟩
   subst bT;clear a9 HL am ab;have bX:=aA (Au.PC.start G lf);generalize Au.gg [] lf=xs0 at *;go_wp2;go_loopw [10] (fun vi wr=>∃(i:Nat) (xs:List Au.It),i<=xs.length/\vi=.int .i64 i/\Hid (Au.PC G lf i xs)/\Hid (kv wr w.heap.size pA pT M xs)/\Hid (Below w.heap.size w wr)/\Hid (gh w4 wr)) (fun vi _=>300-(intOf vi).toNat)
   case atStart=>exact⟨0,xs0,AV _,rfl,bX,HA,HW,HK⟩
   case round =>
    obtain⟨i,xs,hi,rfl,HP,HA,HW,HK⟩:=hrel;have ay:xs.length<=287:=Aj (HP.o.le ai.o) (Au.j7 F.o F.o.kz);obtain⟨v,h1,h2⟩:=HA.o.v;have H1:=aA h1;have H2:=aA h2;have f:w.heap.size<=wr.heap.size:=HW.o.size;have u:=HK.o.fp _ _ _ _ bc.o (by decide) (by decide);have Z:=aA u;by_cases q:i<xs.length
    ·obtain⟨g,c1,rfl,b0,b5,_⟩:=aJ.addr h2 (by omega);have cA:=aS h1;have k0:wr.cell? ⟨g,i*2,none⟩=some (.int .i64 (xs[i]).1):=aJ.cellAt h2 aI i 0 q _ rfl;have k1:wr.cell? ⟨g,i*2+1,none⟩=some (.int .i64 (xs[i]).2):=aJ.cellAt h2 aI i 1 q _ rfl;have az:=aJ.lt h2;have bl:=(Ad.1 h1).1;have b6:=(Ad.1 u).1;have b7:(i:Int)<(xs.length:Int):=by omega
     have D:Hid (Au.PC G lf (i+1) (Au.gg xs (Au.kx G xs[i]))):=aA (HP.o.next (AD q));have bm:Hid (Au.gj G xs[i]=true):=aA (Au.pL ai.o (HP.o.c _ (AE q)));have b9:Hid (xs.length<=(Au.gg xs (Au.kx G xs[i])).length):=aA Au.lJ;have ca:=aA (fun(y:World) (h:Below wr.heap.size wr y)=>JZ _ G B xs[i] y (HG.o.below (HW.o.trans (h.mono f)) J.o) HF.o (Aj J.o (Aj f h.size)));have bg:=aA (show xs.length<=50000 by omega);have aj:Hid (∃m,xs.drop m=[]/\i+1<=xs.reverse.length):=aA ⟨_,Ew,by rw[D6];exact q⟩;generalize xs[i]=x at *;generalize xs.length=n at *;clear h1 h2 u;go_upto_region 13 with fail
     have qA:∀z:Calm.On wr.heap.size wr,z.1.cell? ⟨pA,0,none⟩=some (.slice (some ⟨g,0,none⟩) n c1):=fun z=>(z.2.cell (p:=⟨pA,0,none⟩) bl).trans cA;have q0:∀z:Calm.On wr.heap.size wr,z.1.cell? ⟨g,i*2,none⟩=some (.int .i64 x.1):=fun z=>(z.2.cell (p:=⟨g,i*2,none⟩) az).trans k0;have q1:∀z:Calm.On wr.heap.size wr,z.1.cell? ⟨g,i*2+1,none⟩=some (.int .i64 x.2):=fun z=>(z.2.cell (p:=⟨g,i*2+1,none⟩) az).trans k1;have z0:=fun z:Calm.On wr.heap.size wr=>aS (aC z.2 Z.o);have z1:=fun z:Calm.On wr.heap.size wr=>aX (aC z.2 Z.o);have z2:=fun z:Calm.On wr.heap.size wr=>aY (aC z.2 Z.o);have z3:=fun z:Calm.On wr.heap.size wr=>bI (aC z.2 Z.o);have cb:=aW wr;clear k0 k1 cA;refine CalmN.fk (fun x=>∃z:Calm.On wr.heap.size wr,x=z.1) (.one [0,1,2,3,4] 5 (.fin [6,7,8,9,10])) (by kernel_rfl) (by kernel_rfl) (fun _ _ d _ _ h=>by cases d <;> exact h) cb.o ?_;simp only[CalmN.fN,CalmN.fv,CalmN.fo,Az,Am,Ap];repeat (go_big_quiet_step (fail))
     refine Aw ?_;intro KK r;rw[AC (by rfl)];go_wp2_with fail
     refine(ca.o wr.drew (aB (AB _ _) 1)).mono ?_;rintro _ w2 ⟨rfl,b⟩;have b:Below wr.heap.size wr w2:=(aB (AB _ wr) 1).trans b;have U:=qP b;have cn:=aA b;have ak:=aA (Au.oT bm.o);have H:=aA (HA.o.below b);have C:=aA (HW.o.trans (b.mono f));have I:=aA (HK.o.trans (.below b));have j:=aA (aC b Z.o);clear b qA q0 q1 z0 z1 z2 z3 bl az b6 f;cases hq:Au.rm G x with
     | none =>
      have hE:=Au.mi (G:=G) (x:=x) (fun s hs=>by rw[<-ak.o,hq]at hs;cases hs);rw[hE]at D;have D:Hid (Au.PC G lf (i+1) xs):=D;clear hE hq;go_wp2_with fail
      refine r _ _ U.o _ (fun _ h=>h) U.o ?_;clear r;repeat (go_big_quiet_step (fail))
      refine Aw ?_;go_wp2;go_roundw
      case rel=>exact⟨i+1,xs,by obtain⟨m,e,h⟩:=aj.o;rw[D6]at h;exact h,by go_num,D,H,C,I⟩
      case measure=>simp[intOf];omega
     | some s =>
      by_cases h0:s<0
      ·have hE:=Au.pH (ak.o.symm.trans hq) h0;rw[hE]at D b9;have cc:=Gm.iS.1 (Au.iZ.1 (Au.qc F.o bm.o (ak.o.symm.trans hq)));have cd:=(Gm.fG G).1 F.o.n;have ac:=aA (fun w=>J0 s w);rw[AQ h0]at ac;have ce:=aA (fun w=>IB s (by omega) (by omega) w);have a0:Hid (i+1<=(Au.gg xs (Au.jn G (-1-s) G.rs.length)).length):=aA (by obtain⟨m,e,h⟩:=aj.o;rw[D6]at h;exact Aj h Au.lJ);have a1:=aA (OV _ G B (-1-s) w2.drew w.heap.size pA pT M xs (HG.o.below (aB C.o 1) J.o) J.o (Aj F.o.kz (by omega)) (H.o.below (aB (AB _ _) 1)) (by obtain⟨m,e,h⟩:=aj.o;rw[D6]at h;have:=HP.o.le ai.o;have:=Au.j7 F.o F.o.kz;omega));have z0:=fun z:Calm.kO w.heap.size w2=>aS (z.2.trans j.o);have z1:=fun z:Calm.kO w.heap.size w2=>aX (z.2.trans j.o);have z2:=fun z:Calm.kO w.heap.size w2=>aY (z.2.trans j.o);have z3:=fun z:Calm.kO w.heap.size w2=>bI (z.2.trans j.o);have a2:Hid (∃z:Calm.kO w.heap.size w2,w2.drew=z.1):=aA ⟨⟨w2.drew,rfl⟩,rfl⟩;clear hE hq cc cd h0;go_wp2_with fail
       refine r _ _ U.o _ (fun _ h=>h) U.o ?_;clear r;repeat (go_big_quiet_step (fail))
       refine Aw ?_;go_wp2_with fail
       refine(ac.o _).mono ?_;rintro _ w3 ⟨rfl,E⟩;subst E;go_wp2_with fail
       refine CalmN.fk (fun x=>∃z:Calm.kO w.heap.size w3,x=z.1) (.one [0,1,3] 2 (.one [] 4 (.fin []))) (by kernel_rfl) (by kernel_rfl) (fun _ _ d _ _ h=>by cases d <;> exact h) a2.o ?_;simp only[CalmN.fN,CalmN.fv,CalmN.fo,Az,Am,Ap];repeat (go_big_quiet_step (fail))
       refine Aw ?_;clear z0 z1 z2 z3;intro KK r;rw[AC (by rfl)];go_wp2_with fail
       refine(ce.o _).mono ?_;rintro _ w4' ⟨rfl,N⟩;subst N;go_wp2_with fail
       refine r _ _ a2.o _ (fun _ h=>h) a2.o ?_;clear r;refine Aw ?_;intro KK r;rw[AC (by rfl)];go_wp2_with fail
       refine a1.o.mono ?_;rintro _ w5 ⟨rfl,bo,al,ad⟩;have al:Below w.heap.size w3 w5:=(aB (AB _ w3) 1).trans al;have ad:gh w3 w5:=(gh.below (aB (AB _ w3) 1)).trans ad;have cf:=aA bo;have cg:=aA (C.o.trans al);have ch:=aA (I.o.trans ad);have bp:Hid (∃z:Calm.kO w.heap.size w3,w5=z.1):=aA ⟨⟨w5,(ad.fp _ _ _ _ j.o (by decide) (by decide)).trans j.o.symm⟩,rfl⟩;clear bo al ad;go_wp2_with fail
       refine r _ _ bp.o _ (fun _ h=>h) bp.o ?_;clear r;refine Aw ?_;go_wp2;go_roundw
       case rel=>exact⟨i+1,_,a0.o,by go_num,D,cf,cg,ch⟩
       case measure=>simp[intOf];omega
      ·have hE:=Au.mi (G:=G) (x:=x) (fun s' hs=>by rw[<-ak.o,hq]at hs;injection hs with hs;omega);rw[hE]at D;have D:Hid (Au.PC G lf (i+1) xs):=D;have ac:=aA (fun w=>J0 s w);rw[AM h0]at ac;clear hE hq h0;go_wp2_with fail
       refine r _ _ U.o _ (fun _ h=>h) U.o ?_;clear r;repeat (go_big_quiet_step (fail))
       refine Aw ?_;go_wp2_with fail
       refine(ac.o _).mono ?_;rintro _ w3 ⟨rfl,E⟩;subst E;go_wp2;go_roundw
       case rel=>exact⟨i+1,xs,by obtain⟨m,e,h⟩:=aj.o;rw[D6]at h;exact h,by go_num,D,H,C,I⟩
       case measure=>simp[intOf];omega
    ·obtain rfl:i=xs.length:=by omega
     obtain⟨A1,c1,rfl,b0,b5,_⟩:=aJ.form h2 aI;have cA:=aS h1;have ci:=aA (Qf h2 (by omega));have hD:=HP.o;obtain⟨hs,hm⟩:=Au.yZ hD.nd;have HD:=aA (Au.PC.done ai.o hD hs hm);have cj:=aA (fun k (e:(Value.slice A1 xs.length c1).ownBlock=some k)=>(Bk h2 k e).1);generalize xs.length=n at *;clear hD hs hm h1 h2 u;go_wp2_with fail
     refine ci.o.mono ?_;rintro _ w2 ⟨rfl,bq,a3⟩;have h3:=aH H2.o a3 H1.o fun cur=>aG (by decide);have cA:=aS h3;have ck:=aA bq;have C:=aA (HW.o.grown a3 f (fun k e=>cj.o k e));clear bq a3 h3;go_wp2;go_ret
     exact⟨_,rfl,by rw[bM.o,<-HD.o];exact ck.o,C.o⟩
namespace Au
def hasB (G:Gm.Gr) (x:It):Bool:=Gm.right G&&gj G x
def kD (G:Gm.Gr) (x:It):Option Int:=if Gm.right G=true then rm G x else none
noncomputable def mF (G:Gm.Gr) (l:List It):List It:=if Gm.right G=true then iU G (l.filter (gj G)) else []
end Au
theorem Od (k:List Au.It) (A:Option Addr) (c B:Nat) (w:World) (hk:jm 2 fO w B A k) (hB:B<=w.heap.size) (hb:∀z∈Au.jL k,0<=z/\z<=255) (hl:k.length<=1000) :
  Calls prog 71 #[.slice A k.length c] w fun e w'=>e=.returned (.string (K.str (Au.jL k)))/\Below w.heap.size w w':=by
 have HK:=aA hk;have HB:=aA hB;have aa:=aA hb;have aq:(k.length:Int)<=1000:=by omega
 clear hk hB hb
 go_enter func71,ntmps71
 go_wp2;go_loopw [3,8] (fun vb vi wr=>∃i:Nat,i<=k.length/\vi=.int .i64 i/\Hid (bS wr w.heap.size vb (Au.jL (k.take i)))/\Hid (Below w.heap.size w wr)) (fun _ vi _=>k.length-(intOf vi).toNat)
 case atStart=>exact⟨0,AV _,rfl,aA (bS.nil _ _),aA (AB _ _)⟩
 case round =>
  obtain⟨i,hi,rfl,HO,HW⟩:=hrel;obtain⟨A1,c1,rfl,ar,au,ab⟩:=bS.form HO.o;by_cases b:i<k.length
  ·obtain⟨g,o,rfl,ai,hc⟩:=HK.o (by omega);have ae:g<w.heap.size:=Ah ai HB.o;have k0:wr.cell? ⟨g,o+i*2,none⟩=some (.int .i64 (k[i]).1):=(HW.o.cell (p:=⟨g,o+i*2,none⟩) ae).trans (hc i b 0 _ rfl);have k1:wr.cell? ⟨g,o+i*2+1,none⟩=some (.int .i64 (k[i]).2):=(HW.o.cell (p:=⟨g,o+i*2+1,none⟩) ae).trans (hc i b 1 _ rfl);have aj:Hid (Au.jL (k.take (i+1))=Au.jL (k.take i)++[(k[i]).1+1,(k[i]).2]):=aA (by rw[AL b,Au.uZ]);have h1:=aa.o ((k[i]).1+1) (CG.2 ⟨k[i],AE b,by simp⟩);have h2:=aa.o (k[i]).2 (CG.2 ⟨k[i],AE b,by simp⟩);have ak:Hid ((Au.jL (k.take i)).length<=2000):=aA (by rw[Au.sL,Bd];omega);clear hc ab;generalize k[i]=x at *;generalize Au.jL (k.take i)=t at *;have av:IntKind.i64.wrap (x.1 - -1)=x.1+1:=by rw[B3 _ (by omega)];omega
   have aw:IntKind.u8.wrap (x.1+1)=x.1+1:=IntWalk.u8_in _ (by omega);have ax:IntKind.u8.wrap x.2=x.2:=IntWalk.u8_in _ (by omega);have af:=aA ((HO.o.alloc (.cells #[.int .i64 x.1,.int .i64 x.2] 60)).alloc (FM [x.1+1,x.2]));have ac:=(Sy (wr.alloc (.cells #[.int .i64 x.1,.int .i64 x.2] 60)) [x.1+1,x.2]).1;rw[show(wr.alloc (.cells #[.int .i64 x.1,.int .i64 x.2] 60)).heap.size=wr.heap.size+1 by simp]at ac;have al:=aA ac;clear ac;have ad:Hid (Below w.heap.size w ((wr.alloc (.cells #[.int .i64 x.1,.int .i64 x.2] 60)).alloc (FM [x.1+1,x.2]))):=aA ((HW.o.alloc HW.o.size _).alloc (by have:=HW.o.size;simp;omega) _);have HZ:=aA HW.o.size;go_wp2_with (at_builtin;refine QJ rfl (.tmp 12) (.tmp 20) _ rfl underlying65 w.heap.size _ t rfl af.o _ 2 2 _ [x.1+1,x.2] rfl rfl al.o (by have:=ak.o;simp;omega) ad.o.size ?_;intro v2 w2 ag ah)
   have am:=aA ag;have ao:=aA (ad.o.grown ah ad.o.size (fun k e=>(Bk af.o k e).1));clear ag ah;go_roundw
   case rel=>exact⟨i+1,b,by go_num,aA (by rw[aj.o];exact am.o),ao⟩
   case measure=>simp[intOf];omega
  ·obtain rfl:i=k.length:=by omega
   rw[Bn]at *;have ap:Hid (K.Bytes (Au.jL k)):=aA (fun z hz=>by have:=aa.o z hz;omega);have cv:=FE ab ap.o c1;generalize he:Au.jL k=t at *;have HE:=aA he;clear ab he;go_wp2;go_ret
   exact⟨by rw[HE.o];rfl,HW.o⟩
def bP (T:TypeId) (w:World) (base N:Nat) (A:Option Addr) (xs:List (Int×Int)):Prop :=
 xs.length≠0->∃(g:Nat) (cur:Array Value),A=some ⟨g,0,none⟩/\base<=g/\g<N/\w.heap[g]?=some (.cells cur T (0,0))/\∀i (h:i<xs.length) j u,(fO xs[i])[j]?=some u->cur[i*2+j]?=some u
theorem bP.nil (T:TypeId) (w:World) (base N:Nat) (A:Option Addr):bP T w base N A []:=fun h=>absurd rfl h
theorem bP.fp {T:TypeId} {xs:List (Int×Int)} (h:bP T w base N A xs) (hk:∀g cur,g<N->w.heap[g]?=some (.cells cur T (0,0))->w'.heap[g]?=some (.cells cur T (0,0))):bP T w' base N A xs:=fun hn=>by
 obtain⟨g,cur,e,hb,hN,hh,hc⟩:=h hn;exact⟨g,cur,e,hb,hN,hk g cur hN hh,hc⟩
theorem bP.uv {T:TypeId} {xs:List (Int×Int)} (h:bP T w base N A xs) (hk:∀g cur,base<=g->g<N->w.heap[g]?=some (.cells cur T (0,0))->w'.heap[g]?=some (.cells cur T (0,0))):bP T w' base N A xs:=fun hn=>by
 obtain⟨g,cur,e,hb,hN,hh,hc⟩:=h hn;exact⟨g,cur,e,hb,hN,hk g cur hb hN hh,hc⟩
theorem bP.more {T:TypeId} {xs:List (Int×Int)} (h:bP T w base N A xs) (hN:N<=N'):bP T w base N' A xs:=fun hn=>by
 obtain⟨g,cur,e,hb,h1,hh⟩:=h hn;exact⟨g,cur,e,hb,by omega,hh⟩
theorem bP.less {T:TypeId} {xs:List (Int×Int)} (h:bP T w base N A xs) (hb:base'<=base):bP T w base' N A xs:=fun hn=>by
 obtain⟨g,cur,e,h1,hN,hh⟩:=h hn;exact⟨g,cur,e,by omega,hN,hh⟩
theorem bP.rd {T:TypeId} {xs:List (Int×Int)} (h:bP T w base N A xs):jm 2 fO w N A xs:=fun hn=>by
 obtain⟨g,cur,e,hb,hN,hh,hc⟩:=h hn;refine⟨g,0,e,hN,fun i hi j u hu=>?_⟩;rw[AF w g _ _ _ _ hh,BG];exact hc i hi j u hu
theorem aJ.rK {T:TypeId} {c:Nat} {xs:List (Int×Int)} (h:aJ T 2 fO w base (.slice A n c) xs):bP T w base w.heap.size A xs:=fun hn=>by
 rcases h.2 with⟨e,h0⟩|⟨g,cap,cur,e,hb,hg,h1,hm,hs,ht⟩
 ·exact absurd h0 hn
 ·injection e with e1 e2 e3;refine⟨g,cur,e1,hb,(Ad.1 hg).1,hg,fun i hi j u hu=>?_⟩;have hj:j<2:=by rw[<-aI xs[i]];exact(Bc.1 hu).1
  have h2:(cur.toList.take (xs.length*2))[i*2+j]?=(xs.flatMap fO)[i*2+j]?:=by rw[ht]
  rw[CO (by omega),El,wU aI xs i j hi hj]at h2;rw[h2];exact hu
abbrev QP:=List (Int×Int)×Option Addr×Nat
abbrev QS:=QP×QP
def rG (q:QP):Value:=.slice q.2.1 q.1.length q.2.2
def nX (q:QS):List Value:=[rG q.1,rG q.2]
theorem pj (q:QS):(nX q).length=2:=rfl
theorem Lg (q:QS):∀u∈nX q,u.oneCell'=true:=fun u hu=>by
 simp[nX]at hu;rcases hu with rfl|rfl <;> rfl
def yf (q:QS):qV:=(q.1.1,q.2.1)
def vp (T:TypeId) (w:World) (base N:Nat) (q:QP):Prop:=q.1.length<=q.2.2/\q.2.2<=9223372036854775807/\bP T w base N q.2.1 q.1
def xC (w:World) (base N NE:Nat) (q:QS):Prop:=vp 60 w base N q.1/\vp 91 w base NE q.2
def pD (w:World) (base N NE:Nat) (v:Value) (qs:List QS):Prop:=aJ 56 2 nX w base v qs/\∀q∈qs,xC w base N NE q
theorem LU:(prog.info? 56).map (fun i=>(i.zero,i.size,i.bytes))=some (some (.agg #[.slice none 0 0,.slice none 0 0]),2,48):=by kernel_rfl
theorem IY:(prog.info? 91).map (fun i=>(i.zero,i.size,i.bytes))=some (some (.agg #[.int .i64 0,.int .i64 0]),2,16):=by kernel_rfl
theorem xC.fp {w w':World} {base N NE:Nat} {q:QS} (h:xC w base N NE q) (hk:∀g cur T,((T=60/\g<N)\/(T=91/\g<NE))->w.heap[g]?=some (.cells cur T (0,0))->w'.heap[g]?=some (.cells cur T (0,0))):xC w' base N NE q :=
 ⟨⟨h.1.1,h.1.2.1,h.1.2.2.fp fun g cur hg hc=>hk g cur _ (.inl ⟨rfl,hg⟩) hc⟩,⟨h.2.1,h.2.2.1,h.2.2.2.fp fun g cur hg hc=>hk g cur _ (.inr ⟨rfl,hg⟩) hc⟩⟩
theorem xC.more {w:World} {base N N' NE NE':Nat} {q:QS} (h:xC w base N NE q) (hN:N<=N') (hE:NE<=NE'):xC w base N' NE' q:=⟨⟨h.1.1,h.1.2.1,h.1.2.2.more hN⟩,⟨h.2.1,h.2.2.1,h.2.2.2.more hE⟩⟩
theorem pD.nil (w:World) (base N NE:Nat):pD w base N NE (.slice none 0 0) []:=⟨aJ.nil w base,by simp⟩
theorem pD.below {w w':World} {base N NE:Nat} {v:Value} {qs:List QS} (h:pD w base N NE v qs) (hb:Below w.heap.size w w'):pD w' base N NE v qs :=
 ⟨h.1.below hb (Af _),fun q hq=>(h.2 q hq).fp fun g _ _ _ hc=>(hb.block g (Ad.1 hc).1).trans hc⟩
theorem pD.rd {w:World} {base N NE n c:Nat} {A:Option Addr} {qs:List QS} (h:pD w base N NE (.slice A n c) qs) (hN:N<=w.heap.size) (hE:NE<=w.heap.size):bW w w.heap.size A (qs.map yf):=fun hn=>by
 have hn:qs.length≠0:=by simpa using hn
 obtain⟨A',c',e,_,_,ab⟩:=aJ.form h.1 pj;injection e with e1 e2 e3;subst e1;obtain⟨g,o,e,hg,hc⟩:=ab hn;refine⟨g,o,e,hg,fun i hi=>?_⟩;have aa:i<qs.length:=by simpa using hi
 have hq:=h.2 _ (AE aa);rw[C3];exact⟨⟨_,_,hc i aa 0 _ rfl,hq.1.1,hq.1.2.1,hq.1.2.2.rd.more hN⟩,⟨_,_,hc i aa 1 _ rfl,hq.2.1,hq.2.2.1,hq.2.2.2.rd.more hE⟩⟩
theorem MG (qs:List QS) (i:Nat) (y:QS) (hy:∀h:i<qs.length,y.1=(qs[i]).1):(qs.flatMap nX).set (i*2+1) (rG y.2)=(qs.set i y).flatMap nX:=by
 induction qs generalizing i with
 | nil=>simp
 | cons x r ih =>
  cases i with
  | zero =>
   have this:y.1=x.1:=hy (by simp);simp[nX,this]
  | succ i =>
   have ih:=ih i fun h=>hy (Nat.succ_lt_succ h);rw[show(i+1)*2+1=(i*2+1)+1+1 by omega];simp only[B5,nX,Cn,CS,Cz];rw[ih]
theorem pD.xa {c:Nat} {qs:List QS} (h:pD w base N NE (.slice (some ⟨g,0,none⟩) n c) qs) (i:Nat) (y:QS) (hi:i<qs.length) (hy:y.1=(qs[i]).1) (hq:xC w base N NE y):pD (w.setCell ⟨g,i*2+1,none⟩ (rG y.2)) base N NE (.slice (some ⟨g,0,none⟩) n c) (qs.set i y):=by
 have hk:∀g' cur T,((T=60/\g'<N)\/(T=91/\g'<NE))->w.heap[g']?=some (.cells cur T (0,0))->(w.setCell ⟨g,i*2+1,none⟩ (rG y.2)).heap[g']?=some (.cells cur T (0,0))   := fun g' cur T hT hc=>by
  refine(AU w ⟨g,i*2+1,none⟩ _ g' (fun e=>?_)).trans hc;have e:g'=g:=e;subst e;rcases h.1.2 with⟨e,_⟩|⟨g2,cap,cur2,e,hb,hg,_⟩
  ·cases e
  ·injection e with e _ _;injection e with e;injection e with e;subst e;rw[hg]at hc;injection hc with hc;injection hc with _ hc _;rcases hT with⟨rfl,_⟩|⟨rfl,_⟩ <;> exact absurd hc (by decide)
 refine⟨?_,fun q aa=>?_⟩
 ·rcases h.1.2 with⟨e,_⟩|⟨g2,cap,cur,e,hb,hg,h1,hm,hs,ht⟩
  ·cases e
  ·injection e with e1 e2 e3;injection e1 with e1;injection e1 with e1;subst e1 e3;have hl:(qs.set i y).length=qs.length:=BX;unfold aJ;rw[hl];refine⟨by rw[tH pj,hl],.inr ⟨g,c,cur.setIfInBounds (i*2+1) (rG y.2),by rw[e2],hb,AZ w g _ _ _ _ hg,h1,hm,by simp[hs],?_⟩⟩;rw[<-MG qs i y (fun _=>hy),<-ht];simp only[Array.toList_setIfInBounds];rw[List.take_set]
 ·rcases Dz aa with q'|q'
  ·exact(h.2 q q').fp hk
  ·rw[q'];exact hq.fp hk
def GS (p:Addr) (w:World):Type:={x:World // x.cell? p=w.cell? p}
instance (p:Addr) (w:World):Nonempty (GS p w):=⟨⟨w,rfl⟩⟩
theorem FD {o:Oper} {a:Act} {Q:Exit->Act->World->Prop} {K:Act->World->Prop} (m x:Operand) (t:TypeId) (aa:o.op=Op.mapEntry t m x) {mv xv r:Value} (h:(Instr.mapEntry t mv xv).run P w=.ok r w') (hm:a.eval m=mv) (hx:a.eval x=xv) (hK:K (a.put o.dst r) w'):o.wp P a w K Q:=by
 unfold Oper.wp;simp[execOp,aa,hm,hx,h,Result.andThen];exact hK
theorem Ic {o:Oper} {a:Act} {Q:Exit->Act->World->Prop} {K:Act->World->Prop} (m x v:Operand) (t:TypeId) (aa:o.op=Op.entryStore t m x v) {mv xv vv:Value} (h:(Instr.entryStore t mv xv vv).run P w=.ok () w') (hm:a.eval m=mv) (hx:a.eval x=xv) (hv:a.eval v=vv) (hK:K (a.put o.dst undef) w'):o.wp P a w K Q:=by
 unfold Oper.wp;simp[execOp,aa,hm,hx,hv,h,Result.andThen];exact hK
structure fQ (R M:Nat) (w w':World):Prop where
 size:w.heap.size<=w'.heap.size
 fp:∀(g:Nat) (o:Obj),w.heap[g]?=some o->g≠R->g≠M->(∀cur fr,o ≠ .cells cur 56 fr)->w'.heap[g]?=some o
section
variable {R M:Nat} {w w' w2:World}
theorem fQ.refl (R M:Nat) (w:World):fQ R M w w:=⟨Af _,fun _ _ h _ _ _=>h⟩
theorem fQ.trans (h:fQ R M w w') (k:fQ R M w' w2):fQ R M w w2:=⟨Aj h.size k.size,fun g o h1 h2 h3 h4=>k.fp g o (h.fp g o h1 h2 h3 h4) h2 h3 h4⟩
theorem fQ.below (h:Below w.heap.size w w'):fQ R M w w':=⟨h.size,fun g _ h1 _ _ _=>(h.block g (Ad.1 h1).1).trans h1⟩
theorem fQ.own (h:w.ownsRow base 56 2 v n xs) (hg:w.grownBy w' v.ownBlock):fQ R M w w':=⟨hg.size,fun _ _ h1 _ _ h4=>aH h hg h1 fun cur=>h4 cur _⟩
theorem fQ.map (hg:w.grownBy w' (some M)):fQ R M w w':=⟨hg.size,fun g _ h1 _ h3 _=>(hg.block g (Ad.1 h1).1 (fun e=>by injection e with e;exact h3 e)).trans h1⟩
theorem fQ.set (i:Nat) (u:Value):fQ R M w (w.setCell ⟨R,i,none⟩ u):=⟨by simp,fun g _ h1 h2 _ _=>(AU w ⟨R,i,none⟩ u g h2).trans h1⟩
theorem fQ.uT (h:w.heap[g]?=some (.cells cs 56 fr)) (u:Value):fQ R M w (w.setCell ⟨g,i,none⟩ u):=⟨by simp,fun g' _ h1 _ _ h4=>(AU w ⟨g,i,none⟩ u g' (fun e=>by
 have e:g'=g:=e;rw[e,h]at h1;injection h1 with h1;exact h4 _ _ h1.symm)).trans h1⟩
end
def E3 (g0 g1 g2 g3 vS:Value) (M:Nat):Array Value:=#[g0,g1,g2,g3,vS,.map (some M)]
def aZ (qs:List QS):List (List Au.It):=qs.map fun q=>q.1.1
structure lE (w:World) (base R M NE:Nat) (g0 g1 g2 g3:Value) (qs:List QS):Prop where
 b:∃vS,w.heap[R]?=some (.cells (E3 g0 g1 g2 g3 vS M) 102 (0,0))/\pD w base w.heap.size NE vS qs
 m:∃l,Mw.iO sP w M l/\Au.lW l (aZ qs)
 hR:base<=R
 hM:base<=M
def bJ (k:List Au.It) (A:Option Addr) (c:Nat):QS:=((k,A,c),([],none,0))
def vE (qs:List QS) (k:List Au.It) (A:Option Addr) (c:Nat):List QS:=if Au.ij (aZ qs) k<0 then qs++[bJ k A c] else qs
def xy (qs:List QS) (k:List Au.It):Int:=if Au.ij (aZ qs) k<0 then(qs.length:Int) else Au.ij (aZ qs) k
section
variable {w w':World} {base R M NE:Nat} {g0 g1 g2 g3:Value} {qs:List QS}
theorem lE.below (h:lE w base R M NE g0 g1 g2 g3 qs) (hb:Below w.heap.size w w'):lE w' base R M NE g0 g1 g2 g3 qs:=by
 obtain⟨⟨vS,h1,h2⟩,⟨l,h3,h4⟩,h5,h6⟩:=h;have h7:=h2.below hb;exact⟨⟨vS,aC hb h1,h7.1,fun q hq=>(h7.2 q hq).more hb.size (Af _)⟩,⟨l,h3.block (hb.block _ h3.lt),h4⟩,h5,h6⟩
theorem lE.more {NE':Nat} (h:lE w base R M NE g0 g1 g2 g3 qs) (hE:NE<=NE'):lE w base R M NE' g0 g1 g2 g3 qs:=by
 obtain⟨⟨vS,h1,h2⟩,h3,h5,h6⟩:=h;exact⟨⟨vS,h1,h2.1,fun q hq=>(h2.2 q hq).more (Af _) hE⟩,h3,h5,h6⟩
theorem lE.fC (h:lE w base R M NE g0 g1 g2 g3 qs):base<=w.heap.size:=by
 obtain⟨⟨vS,h1,_⟩,_,h5,_⟩:=h
 have:=(Ad.1 h1).1
 omega
end
theorem O4 {R:Nat} (h:fQ R M w w') (hR:w.heap[R]?=some (.cells cs 102 (0,0))) (hM:∀(cur:Array Value) (T:TypeId),w.heap[M]? ≠ some (.cells cur T (0,0))):∀(g:Nat) (cur:Array Value) (T:TypeId),(T=60\/T=91)->w.heap[g]?=some (.cells cur T (0,0))->w'.heap[g]?=some (.cells cur T (0,0)):=fun g cur T hT hc=>by
 refine h.fp g _ hc (fun e=>?_) (fun e=>hM cur T (by rw[<-e];exact hc)) fun cur' fr e=>?_
 ·rw[e,hR]at hc;injection hc with hc;injection hc with _ hc _;rcases hT with rfl|rfl <;> exact absurd hc (by decide)
 ·injection e with _ e _;rcases hT with rfl|rfl <;> exact absurd e (by decide)
theorem J4 (w:World) (base R M NE:Nat) (g0 g1 g2 g3:Value) (qs:List QS) (k:List Au.It) (A:Option Addr) (c:Nat) (h:lE w base R M NE g0 g1 g2 g3 qs) (hk:vp 60 w base w.heap.size (k,A,c)) (hb:∀z∈Au.jL k,0<=z/\z<=255) (hl:k.length<=1000) (hq:qs.length<=100000) :
  Calls prog 46 #[.pointer (some ⟨R,0,none⟩),.slice A k.length c] w fun e w'=>e=.returned (.int .i64 (xy qs k))/\lE w' base R M NE g0 g1 g2 g3 (vE qs k A c)/\Below base w w'/\fQ R M w w':=by
 have HT:=aA (Od k A c w.heap.size w hk.2.2.rd (Af _) hb hl);have m:=aA h.fC;have HH:=aA h;have HK:=aA hk;have HQ:=aA hq;have aw:Hid (K.Tx (Au.jL k)):=aA ⟨fun z hz=>by have:=hb z hz;omega,by rw[Au.sL];omega⟩;by_cases hf:Au.ij (aZ qs) k<0
 focus
  have HF:=aA hf;have HI:Hid (xy qs k=(qs.length:Int)):=aA (by unfold xy;rw[AC hf]);have ax:Hid (vE qs k A c=qs++[bJ k A c]):=aA (by unfold vE;rw[AC hf])
 rotate_left
 focus
  have HI:Hid (xy qs k=Au.ij (aZ qs) k):=aA (by unfold xy;rw[AI hf]);have ax:Hid (vE qs k A c=qs):=aA (by unfold vE;rw[AI hf]);have HF:=aA hf
 rotate_left
 all_goals
  clear h hk hb hl hf hq;rw[HI.o,ax.o]
  go_enter func46,ntmps46
  go_wp2_with fail
  refine HT.o.mono ?_;rintro _ w1 ⟨rfl,aj⟩;have n:=aA aj;have ay:=aA (HH.o.below aj);obtain⟨⟨vS,h1,h2⟩,⟨l,h3,h4⟩,h5,h6⟩:=ay.o
 focus
  obtain⟨AS,cq,rfl,ba,bb,_⟩:=aJ.form h2.1 pj;have cM:=rT h1;have cS:=rU h1;have i:Mw.fF l (Au.jL k)=none:=by rw[h4 k,AC HF.o]
 rotate_left
 focus
  have cM:=rT h1;have i:Mw.fF l (Au.jL k)=some (.int .i64 (Au.ij (aZ qs) k)):=by rw[h4 k,AI (by have:=HF.o;omega)]
 rotate_left
 all_goals
  have ad:sP.enc (Au.jL k)=.string (K.str (Au.jL k)):=rfl;have lk:=Mw.gH (E:=sP) h3.is GV (t:=100) underlying100 (z:=.int .i64 0) (by kernel_rfl) (x:=Au.jL k) aw.o true;rw[i,ad]at lk;simp at lk
 focus
  have H1:=aA h1;have bc:=aA h1;have H2:=aA h2;have H3:=aA h3;have H4:=aA h4;have H5:=aA h5;have H6:=aA h6;have am:=aA i;have bp:=aA (fun k (e:(Value.slice AS qs.length cq).ownBlock=some k)=>(Bk h2.1 k e).1);have ao:Hid (M≠R):=aA (fun e=>by rw[<-e]at h1;exact h3.is.fB h1);have bq:(qs.length:Int)<=100000:=by have:=HQ.o;omega
  have bd:=(Ad.1 h1).1;have fR:=AH w1 R 4 _ _ h1;clear h1 h2 h3 h4 h5 h6 aj i;generalize K.str (Au.jL k)=str at *;go_upto_region 5 with fail
  have qM:∀y:GS ⟨R,5,none⟩ w1,y.1.cell? ⟨R,5,none⟩=some (.map (some M)):=fun y=>y.2.trans cM;have p:Hid (∀y:World,y.cell? ⟨R,5,none⟩=w1.cell? ⟨R,5,none⟩->∃z:GS ⟨R,5,none⟩ w1,y=z.1):=aA (fun y e=>⟨⟨y,e⟩,rfl⟩);have ap:=aA (p.o w1.drew rfl);clear lk fR ba bb;refine CalmN.fk (fun x=>∃y:GS ⟨R,5,none⟩ w1,x=y.1) (.two [0,1,2,3,4,5,6,7,8,9,11,12] 10 (.one [] 13 (.one [] 14 (.one [] 15 (.one [16] 17 (.one [18,19] 20 (.fin [])))))) 13 (.one [] 10 (.one [] 14 (.one [] 15 (.one [16] 17 (.one [18,19] 20 (.fin []))))))) (by kernel_rfl) (by kernel_rfl) (fun _ _ d _ _ h=>by cases d <;> exact h) ap.o ?_;rw[CalmN.fN];simp only[CalmN.fo,Az,Am,Ap];repeat (go_big_quiet_step (fail))
  have aq:Hid (Below w1.heap.size w1 w1.drew):=aA (aB (AB _ _) 1);have H1:Hid (w1.drew.heap[R]?=some (.cells (E3 g0 g1 g2 g3 (.slice AS qs.length cq) M) 102 (0,0))):=H1;have bf:Hid (aJ 56 2 nX w1.drew base (.slice AS qs.length cq) qs):=aA H2.o.1;have bg:Hid (Mw.iO sP w1.drew M l):=aA (H3.o.block rfl);have c4:w1.drew.cell? ⟨R,4,none⟩=some (.slice AS qs.length cq):=cS;have B:Hid (w1.cell? ⟨R,5,none⟩=some (.map (some M))):=aA cM;have bh:R<w1.drew.heap.size:=bd;clear qM cS cM;generalize w1.drew=wd at *;have r:Hid (Below wd.heap.size wd (wd.alloc (.cells #[.slice A k.length c,.slice none 0 0] 56))):=aA ((AB _ _).alloc (Af _) _);have c4a:=rU (aC r.o H1.o);have s:=aA (p.o (wd.alloc (.cells #[.slice A k.length c,.slice none 0 0] 56)) ((AF _ R 5 _ _ _ (aC r.o H1.o)).trans B.o.symm));refine Aw ⟨?_,?_⟩
  case' refine_1 =>
   simp only[CalmN.fN,CalmN.fv,CalmN.fo,Az,Am,Ap];intro KK b;rw[AC (by rfl)];go_wp2_with fail
   refine b _ _ ap.o _ (fun _ h=>h) ap.o ?_;clear b;refine Aw ?_;intro KK b;rw[AC (by rfl)];go_wp2_with fail
   refine b _ _ s.o _ (fun _ h=>h) s.o ?_;clear b;refine Aw ?_
  case' refine_2 =>
   simp only[CalmN.fN,CalmN.fv,CalmN.fo,Az,Am,Ap];intro KK b;rw[AC (by rfl)];go_wp2_with fail
   refine b _ _ s.o _ (fun _ h=>h) s.o ?_;clear b;refine Aw ?_;intro KK b;rw[AC (by rfl)];go_wp2_with fail
   refine b _ _ s.o _ (fun _ h=>h) s.o ?_;clear b;refine Aw ?_
  all_goals
   intro KK b;rw[AC (by rfl)];have C:=aA (bf.o.alloc (.cells #[.slice A k.length c,.slice none 0 0] 56));have b1:=aC r.o H1.o;obtain⟨es,ck,az,a0⟩:=bg.o;have bM:=aC r.o az;have ae:=AG wd (.cells #[.slice A k.length c,.slice none 0 0] 56);have ac:Hid (Below base w (wd.alloc (.cells #[.slice A k.length c,.slice none 0 0] 56))):=aA (((n.o.mono m.o).trans (aq.o.mono (Aj m.o n.o.size))).trans (r.o.mono (Aj m.o (Aj n.o.size aq.o.size))));clear c4 c4a;refine GQ (f:=nX) (.tmp 36) (.tmp 39) _ rfl underlying49 _ 48 LU (by decide) (by decide) (by decide) pj Lg base _ qs rfl C.o _ _ (bJ k A c) rfl (fun j u hu=>?_) (by have:=HQ.o;omega) (Aj m.o ac.o.size) ?_
   ·refine(AF _ wd.heap.size j _ _ _ ae).trans ?_
    match j,hu with
    | 0,hu=>exact hu
    | 1,hu=>exact hu
    | j+2,hu=>simp[nX]at hu
   intro v5 w5 ar D;obtain⟨A5,c5,rfl,_,_,_⟩:=aJ.form ar pj;have r5:=aH C.o D b1 fun cur=>aG (by decide);have m5:=aH C.o D bM fun cur e=>by cases e
   have bi:Hid (Mw.iO sP w5 M l):=aA ⟨es,ck,m5,a0⟩;have a1:=aA (p.o w5 ((AF w5 R 5 _ _ _ r5).trans B.o.symm));have ak:Hid (Below base w w5):=aA (ac.o.grown D (Aj m.o ac.o.size) (fun k e=>(Bk C.o k e).1));have bj:Hid (fQ R M w1 w5):=aA (((fQ.below aq.o).trans (.below r.o)).trans (.own C.o D));have br:=aA r5;have a2:=aA ar;obtain⟨c0,w6,aa,a3,v⟩:=Mw.tu bi.o GV underlying100 (z:=.int .i64 0) (by kernel_rfl) aw.o am.o;rw[ad]at aa;obtain⟨w7,ab,a4,F⟩:=Mw.rL (t:=100) a3 (.int .i64 (qs.length:Int));have r6:=(v.block R (Ad.1 r5).1 (fun e=>by injection e with e;exact ao.o e.symm)).trans r5;have r7:=(F.block R (Ad.1 r6).1 (fun e=>by injection e with e;exact ao.o e.symm)).trans r6;have a5:=aA (p.o w6 ((AF w6 R 5 _ _ _ r6).trans B.o.symm));have a6:=aA (p.o w7 ((AF w7 R 5 _ _ _ r7).trans B.o.symm));have bk:=Aj m.o ak.o.size;have bl:Hid (Below base w w7):=aA (pF (pF ak.o v H6.o (Aj m.o ak.o.size)) F H6.o (Aj (Aj m.o ak.o.size) v.size));have af:=aA aa;have ag:=aA ab;have c47:=rU r7;have f47:=AH w7 R 4 _ _ r7;have l47:=(Ad.1 r7).1;obtain⟨es6,z6,ah,_⟩:=a3;have ai:=a4;obtain⟨es7,ck7,au,_⟩:=a4;have o6:=AO a2.o v (aR a2.o m5 fun cur e=>by cases e);have o7:=AO o6 F (aR o6 ah fun cur e=>by cases e);have o8:aJ 56 2 nX (w7.setCell ⟨R,4,none⟩ (.slice A5 (qs++[bJ k A c]).length c5)) base (.slice A5 (qs++[bJ k A c]).length c5) (qs++[bJ k A c]):=AO o7 (aF (AJ _ _) 4 _) (aR o7 r7 fun cur=>aG (by decide));have al:Hid (fQ R M w1 (w7.setCell ⟨R,4,none⟩ (.slice A5 (qs++[bJ k A c]).length c5))):=aA (((bj.o.trans (.map v)).trans (.map F)).trans (.set 4 _));have av:=O4 al.o bc.o (fun cur T=>H3.o.is.fB)
   have HP:Hid (lE (w7.setCell ⟨R,4,none⟩ (.slice A5 (qs++[bJ k A c]).length c5)) base R M NE g0 g1 g2 g3 (qs++[bJ k A c])):=aA (by
    refine⟨⟨_,AZ w7 R 4 _ _ _ r7,o8,fun q hq=>?_⟩,⟨_,ai.block (AU w7 ⟨R,4,none⟩ _ M ao.o),?_⟩,H5.o,H6.o⟩
    ·rcases Bt.1 hq with hq|hq
     ·exact((H2.o.2 q hq).fp fun g cur T hT hc=>av g cur T (hT.imp (·.1) (·.1)) hc).more al.o.size (Af _)
     ·rw[AP.1 hq];exact⟨⟨HK.o.1,HK.o.2.1,((HK.o.2.2.fp fun g cur hg hc=>(n.o.block g hg).trans hc).fp fun g cur _ hc=>av g cur _ (.inl rfl) hc).more (Aj n.o.size al.o.size)⟩,⟨AV _,AV _,bP.nil _ _ _ _ _⟩⟩
    ·have:=Au.lW.snoc H4.o HF.o
     have e1:(aZ qs).length=qs.length:=by unfold aZ;rw[Bh]
     have e2:aZ (qs++[bJ k A c])=aZ qs++[k]:=by unfold aZ;rw[Bf];rfl
     rw[e1]at this;rw[e2];exact this)
   have bm:Hid (Below base w (w7.setCell ⟨R,4,none⟩ (.slice A5 (qs++[bJ k A c]).length c5))):=aA (bl.o.setCell H5.o _);have bo:Hid (fQ R M w (w7.setCell ⟨R,4,none⟩ (.slice A5 (qs++[bJ k A c]).length c5))):=aA ((fQ.below n.o).trans al.o);have a9:=aA (p.o (w7.setCell ⟨R,4,none⟩ (.slice A5 (qs++[bJ k A c]).length c5)) ((AF _ R 5 _ _ _ (AZ w7 R 4 _ _ _ r7)).trans B.o.symm));clear r5 m5 ar D aa v ab F r6 r7 ah au o6 o7 o8 av b1 bM az a0 ae ai bk;generalize (qs++[bJ k A c]).length=ln at *;refine b _ _ a1.o _ (fun _ h=>h) a1.o ?_;clear b;refine Aw ?_;intro KK b;rw[AC (by rfl)];refine FD _ _ _ rfl af.o rfl rfl ?_;refine b _ _ a5.o _ (fun _ h=>h) a5.o ?_;clear b
   go_frame
   repeat (go_big_quiet_step (fail))
   refine Aw ?_;intro KK b;rw[AC (by rfl)];refine Ic _ _ _ _ rfl ag.o rfl rfl rfl ?_;refine b _ _ a6.o _ (fun _ h=>h) a6.o ?_;clear b
   go_frame
   repeat (go_big_quiet_step (fail))
   refine Aw ?_;intro KK b;rw[AC (by rfl)];go_wp2_with fail
   refine b _ _ a9.o _ (fun _ h=>h) a9.o ?_;clear b c47 f47 l47;refine Aw ?_;go_wp2;go_ret
   exact⟨rfl,HP.o,bm.o,bo.o⟩
 focus
  clear h1 h2 h3 h4 h5 h6 aj i;generalize K.str (Au.jL k)=str at *;go_wp2;go_ret
  exact⟨rfl,ay.o,n.o.mono m.o,.below n.o⟩
theorem I8 {y:World} {MM:Lk.MP} (h:Mw.fx qL y M (Lk.gV MM)) (x:Int×Int) (hx:Gm.In x.1/\Gm.In x.2) :
  (Instr.lookup 108 (.map (some M)) (.agg #[.int .i64 x.1,.int .i64 x.2]) false).run prog y=.ok (.int .u32 (Lk.gN MM x:Int)) y:=by
 have:=Mw.gH (E:=qL) h Fx (t:=108) underlying108 (z:=.int .u32 0) (by kernel_rfl) (x:=x) hx false
 rw[Lk.q9]at this;exact this
theorem S6 {y:World} {DD:Lk.MP} (h:Mw.fx qZ y D (Lk.gV DD)) (x:Int×Int) (hx:Gm.In x.1/\Gm.In x.2) :
  (Instr.lookup 67 (.map (some D)) (.agg #[.int .i64 x.1,.int .i64 x.2]) false).run prog y=.ok (.int .u32 (Lk.gN DD x:Int)) y:=by
 have:=Mw.gH (E:=qZ) h F1 (t:=67) underlying67 (z:=.int .u32 0) (by kernel_rfl) (x:=x) hx false
 rw[Lk.q9]at this;exact this
theorem Lk.pP (MM:Lk.MP) (x:Int×Int):Mw.fF (Mw.gZ (Lk.gV MM) x ((Mw.fF (Lk.gV MM) x).getD (.int .u32 0))) x=some (.int .u32 (Lk.gN MM x:Int)):=by
 rw[Lk.q9,Mw.j9,AC rfl]
theorem JQ (w:World) (base R gc T M D:Nat) (g0 g1 g2 g3 tv:Value) (tl:List ((Int×Int)×Value)) (MM DD:Lk.MP) (st:List (Int×Int)) (x:Int×Int) (more:Nat) (h:iG w base R gc T M D g0 g1 g2 g3 tv tl MM DD st) (hx:Gm.In x.1/\Gm.In x.2) (hm:more<4294967296) (hM:Lk.gN MM x<4294967296) (ad:st.length<=900000) :
  Calls prog 77 #[lI x,.int .u32 (more:Int),.pointer (some ⟨R,0,none⟩),.pointer (some ⟨gc,0,none⟩)] w fun e w'=>e=.returned (.tuple #[])/\iG w' base R gc T M D g0 g1 g2 g3 tv tl (vM MM x more) DD (vS MM st x more)/\Below base w w'/\fE gc M D w w':=by
 obtain⟨wb,n⟩:∃y,y=w.alloc (.cells #[.int .i64 x.1,.int .i64 x.2] 112):=⟨_,rfl⟩
 have C:Hid (Below w.heap.size w wb):=aA (by rw[n];exact(AB _ _).alloc (Af _) _);have p:wb.heap[w.heap.size]?=some (.cells #[.int .i64 x.1,.int .i64 x.2] 112 (0,0)):=by rw[n];exact AG w _
 have am:=aA p;have HH:=aA (h.below C.o);have q:=aA h.fC;have bq:=aA h.nI;have bf:=aA h.m.lt;have br:=aA h.d.lt
 have bs:=aA (show ∀v,w.cell? ⟨gc,0,none⟩=some v->∀k,v.ownBlock=some k->k<w.heap.size from fun v hv k hk=>by
  obtain⟨v',h2,h3⟩:=h.v
  have:=AF w gc 0 _ _ _ h2
  rw[hv]at this;injection this with this;subst this;exact(Bk h3 k hk).2)
 have bu:=aA hx;have a0:Hid (fE gc M D w wb):=aA (.below C.o h.nI);have cM:=xw HH.o.r;have x0:=aS p;have x1:=aX p;have lk:=I8 HH.o.m.is x hx;have bv:=u32_andNot_nat more (Lk.gN MM x) hm hM;by_cases hn:Lk.gN MM x ||| more=Lk.gN MM x
 ·have e1:vM MM x more=MM:=by unfold vM;rw[AC hn]
  have e2:vS MM st x more=st:=by unfold vS;rw[AC hn]
  have hz:(((more &&& (4294967295-Lk.gN MM x):Nat):Int) != 0)=false:=by rw[(Gm.lo hM hm).2 hn];rfl
  rw[e1,e2];clear e1 e2 hn h hx p hm hM ad;generalize Lk.gN MM x=a at *;generalize more &&& (4294967295-a)=d at *
  go_enter func77,ntmps77
  go_upto_region 1 with fail
  rw[<-n];clear n;go_wp2;go_end0
  exact⟨rfl,HH.o,C.o.mono q.o,a0.o⟩
 ·have e1:vM MM x more=Lk.qK MM x more:=by unfold vM;rw[AI hn]
  have e2:vS MM st x more=st++[x]:=by unfold vS;rw[AI hn]
  have hz:(((more &&& (4294967295-Lk.gN MM x):Nat):Int) != 0)=true:=by
   have:(more &&& (4294967295-Lk.gN MM x))≠0:=fun e=>hn ((Gm.lo hM hm).1 e)
   rw[D4];omega
  have bw:=DS (Lk.gN MM x) more hM hm;rw[e1,e2];have a1:Hid (Mw.gZ (Lk.gV MM) x (.int .u32 ((Lk.gN MM x ||| more:Nat):Int))=Lk.gV (Lk.qK MM x more)):=aA Lk.oH;have ao:=aA ad
  have ap:Hid (∀y:World,y.heap[R]?=wb.heap[R]?->y.heap[w.heap.size]?=wb.heap[w.heap.size]?->∃z:jg [R,w.heap.size] wb,y=z.1):=aA (fun y e1 e2=>⟨⟨y,fun g hg=>by
   rcases Bu.1 hg with rfl|hg
   ·exact e1
   ·rw[AP.1 hg];exact e2⟩,rfl⟩)
  have aj:=HH.o.E8;have a2:Hid (M≠w.heap.size):=aA (by have:=bf.o;omega);have a3:Hid (R≠M):=aA aj.2.2.2.1;have bg:Hid (gc≠M):=aA aj.1;have bx:Hid (gc≠D):=aA aj.2.1;have a4:Hid (w.heap.size<wb.heap.size):=aA (Ad.1 p).1;have HD:Hid (iG wb.drew base R gc T M D g0 g1 g2 g3 tv tl MM DD st):=aA (HH.o.below (aB (AB _ _) 1));have lkd:=I8 HD.o.m.is x hx;obtain⟨u,cc,w6,aa,ae,af,ak⟩:=Mw.sK HD.o.m Fx underlying108 (z:=.int .u32 0) (by kernel_rfl) (x:=x) hx
  have lk6:(Instr.lookup 108 (.map (some M)) (.agg #[.int .i64 x.1,.int .i64 x.2]) false).run prog w6=.ok (.int .u32 (Lk.gN MM x:Int)) w6:=by
   have:=Mw.gH (E:=qL) af Fx (t:=108) underlying108 (z:=.int .u32 0) (by kernel_rfl) (x:=x) hx false
   rw[Lk.pP]at this;exact this
  obtain⟨w7,ab,aq,a5⟩:=ae.2 w6 rfl (.int .u32 ((Lk.gN MM x ||| more:Nat):Int));have ag:qL.enc x=.agg #[.int .i64 x.1,.int .i64 x.2]:=rfl;rw[ag]at aa;rw[a1.o]at aq;have i:=aA (qO ak a5);have H7:=aA (HD.o.Hd i.o aq);have r6:=(ak.block R (Ad.1 HD.o.r).1 (fun e=>by injection e with e;exact a3.o e))
  have xb6:=(ak.block w.heap.size (show w.heap.size<wb.drew.heap.size from a4.o) (fun e=>by injection e with e;exact a2.o e.symm))
  have xb7:=(i.o.block w.heap.size (show w.heap.size<wb.drew.heap.size from a4.o) (fun e=>by injection e with e;exact a2.o e.symm))
  have r7:=(i.o.block R (Ad.1 HD.o.r).1 (fun e=>by injection e with e;exact a3.o e))
  have ar:=aA (ap.o wb.drew rfl rfl);have s:=aA (ap.o w6 r6 xb6);have a6:=aA (ap.o w7 r7 xb7);have a9:Hid (w7.heap[w.heap.size]?=some (.cells #[.int .i64 x.1,.int .i64 x.2] 112 (0,0))):=aA (xb7.trans am.o);have ac:=aA aa;have ah:=aA ab;have au:=aA lk6;have av:=aA lkd;have ba:Hid (Below base w w7):=aA (pF ((C.o.trans (aB (AB _ _) 1)).mono q.o) i.o h.hM (Aj q.o C.o.size));have bh:Hid (wb.heap[R]?=some (.cells (qN g0 g1 g2 g3 tv T M D) 110 (0,0))):=aA HH.o.r;have bi:Hid (base<=gc):=aA h.hg;have bj:Hid (fE gc M D w w7):=aA ((a0.o.trans (.below (aB (AB _ _) 1) HH.o.nI)).trans (.map i.o HD.o.nI bg.o));clear e1 e2 hn h hx p hm hM ad aj aa ab ae af ak aq a5 r6 r7 xb6 xb7 lk6 lkd ag a1;generalize Lk.gN MM x=a at *;generalize more &&& (4294967295-a)=d at *;generalize bb:wb.drew=wd at *
  go_enter func77,ntmps77
  go_upto_region 1 with fail
  rw[<-n];clear n;go_upto_region 2 with fail
  have qM:∀y:jg [R,w.heap.size] wb,y.1.cell? ⟨R,6,none⟩=some (.map (some M)):=fun y=>y.row (by simp) bh.o rfl;have q0:∀y:jg [R,w.heap.size] wb,y.1.cell? ⟨w.heap.size,0,none⟩=some (.int .i64 x.1):=fun y=>y.row (by simp) am.o rfl;have q1:∀y:jg [R,w.heap.size] wb,y.1.cell? ⟨w.heap.size,1,none⟩=some (.int .i64 x.2):=fun y=>y.row (by simp) am.o rfl;clear x0 x1 cM lk;have S0:∃y:jg [R,w.heap.size] wb,wb.drew=y.1:=by rw[bb];exact ar.o
  refine CalmN.fk (fun x=>∃y:jg [R,w.heap.size] wb,x=y.1) (.two [0,1,2,4] 3 (.one [5] 6 (.one [7] 8 (.fin []))) 6 (.one [7] 3 (.one [5] 8 (.fin [])))) (by kernel_rfl) (by kernel_rfl) (fun _ _ d _ _ h=>by cases d <;> exact h) S0 ?_;rw[CalmN.fN];simp only[CalmN.fo,Az,Am,Ap];repeat (go_big_quiet_step (fail))
  rw[bb];clear S0;refine Aw ⟨?_,?_⟩
  case' refine_1 =>
   simp only[CalmN.fN,CalmN.fv,CalmN.fo,Az,Am,Ap];intro KK b;rw[AC (by rfl)];have lkd:=av.o;go_wp2_with fail
   refine b _ _ ar.o _ (fun _ h=>h) ar.o ?_;clear b lkd;repeat (go_big_quiet_step (fail))
   refine Aw ?_;intro KK b;rw[AC (by rfl)];refine FD _ _ _ rfl ac.o rfl rfl ?_;refine b _ _ s.o _ (fun _ h=>h) s.o ?_;clear b
   go_frame
   repeat (go_big_quiet_step (fail))
   refine Aw ?_
  case' refine_2 =>
   simp only[CalmN.fN,CalmN.fv,CalmN.fo,Az,Am,Ap];intro KK b;rw[AC (by rfl)];refine FD _ _ _ rfl ac.o rfl rfl ?_;refine b _ _ s.o _ (fun _ h=>h) s.o ?_;clear b
   go_frame
   repeat (go_big_quiet_step (fail))
   refine Aw ?_;intro KK b;rw[AC (by rfl)];have lk6:=au.o;go_wp2_with fail
   refine b _ _ s.o _ (fun _ h=>h) s.o ?_;clear b lk6;repeat (go_big_quiet_step (fail))
   refine Aw ?_
  all_goals
   intro KK b;rw[AC (by rfl)];refine Ic _ _ _ _ rfl ah.o rfl rfl rfl ?_;refine b _ _ a6.o _ (fun _ h=>h) a6.o ?_;clear b qM q0 q1
   go_frame
   refine Aw ?_;obtain⟨v,aw,ax⟩:=H7.o.v;obtain⟨A,c,rfl,bk,bl,_⟩:=aJ.form ax aI;have c0:=aS aw;have x0:=aS a9.o;have x1:=aX a9.o;have al:Hid (Below w7.heap.size w7 (w7.alloc (.cells #[.int .i64 x.1,.int .i64 x.2] 112))):=aA ((AB _ _).alloc (Af _) _);have l:=aA (ax.alloc (.cells #[.int .i64 x.1,.int .i64 x.2] 112));have B:=aA (aC al.o aw);have ay:=aA (AG w7 (.cells #[.int .i64 x.1,.int .i64 x.2] 112));have az:Hid (Below base w (w7.alloc (.cells #[.int .i64 x.1,.int .i64 x.2] 112))):=aA (ba.o.trans (al.o.mono (Aj q.o ba.o.size)));have bm:Hid (fE gc M D w (w7.alloc (.cells #[.int .i64 x.1,.int .i64 x.2] 112))):=aA (bj.o.trans (.below al.o H7.o.nI));have bo:=aA (H7.o.below al.o);have bp:Hid (bY w7 gc=(Value.slice A st.length c).ownBlock):=aA (zL c0);clear aw ax bk bl;go_wp2_with (at_builtin;refine Ki (f:=fO) rfl (.tmp 21) (.tmp 23) _ rfl underlying147 _ 16 RN (by decide) (by decide) (by decide) aI sM base _ st rfl l.o _ _ x rfl (Qi x _ _ ay.o) (by have:=ao.o;omega) (Aj q.o az.o.size) ?_;intro v5 w5 bc bd ai;have j:=aA (BD bc (BD bd ai));clear bc bd ai;have c5:=AF w5 gc 0 _ _ _ (aH l.o j.o.2.1 B.o fun cur=>aG (by decide));have f5:=AH w5 gc 0 _ _ (aH l.o j.o.2.1 B.o fun cur=>aG (by decide));have l5:=(Ad.1 (aH l.o j.o.2.1 B.o fun cur=>aG (by decide))).1;obtain⟨A5,c5',rfl,_,_,_⟩:=aJ.form j.o.1 aI;generalize (st++[x]).length=ln at *)
   go_end0
   exact⟨rfl,bo.o.push B.o l.o j.o.1 j.o.2.1,(az.o.grown j.o.2.1 (Aj q.o az.o.size) (fun k e=>(Bk l.o k e).1)).setCell bi.o _,bm.o.push (AF _ gc 0 _ _ _ B.o) j.o.2.1 j.o.2.2 (aH l.o j.o.2.1 B.o fun cur=>aG (by decide))⟩
def zi (s:List Nat):List Int:=s.map Int.ofNat
theorem GK (s:List Nat):(zi s).length=s.length:=by simp[zi]
theorem IT (s:List Nat) (i:Nat):(zi s).getD i 0=((s.getD i 0:Nat):Int):=by
 unfold zi;rw[Ag,Ag,Bv];cases s[i]? <;> rfl
theorem QR (s:List Nat) (i v:Nat):(zi s).set i (v:Int)=zi (s.set i v):=by unfold zi;rw[Cv];rfl
theorem Mb (n:Nat):zi (List.replicate n 0)=List.replicate n 0:=by simp[zi]
def pB (w:World) (B:Nat) (A:Option Addr) (s:List Nat):Prop:=jN w B A (zi s)
def gK (w:World) (g:Nat) (s:List Nat):Prop:=iA w g (zi s)
theorem gK.lt {w:World} {g:Nat} {s:List Nat} (h:gK w g s):g<w.heap.size:=iA.lt h
theorem gK.cell {w:World} {g:Nat} {s:List Nat} (h:gK w g s) (i:Nat) (hi:i<s.length):w.cell? ⟨g,i,none⟩=some (.int .u32 ((s.getD i 0:Nat):Int)):=by
 have:=iA.cell h i (by rw[GK];exact hi)
 rwa [IT]at this
theorem gK.frozen {w:World} {g:Nat} {s:List Nat} (h:gK w g s) (i:Nat):w.frozen? ⟨g,i,none⟩=false:=iA.frozen h i
theorem gK.jY {w:World} {g:Nat} {s:List Nat} (h:gK w g s) (i v:Nat):gK (w.setCell ⟨g,i,none⟩ (.int .u32 (v:Int))) g (s.set i v):=by
 have:=iA.jY h i (v:Int)
 rwa [QR]at this
theorem gK.alloc {w:World} {g:Nat} {s:List Nat} (h:gK w g s) (o:Obj):gK (w.alloc o) g s:=iA.alloc h o
theorem gK.below {w w':World} {g B:Nat} {s:List Nat} (h:gK w g s) (hb:Below B w w') (hg:g<B):gK w' g s:=iA.below h hb hg
theorem gK.jr {w:World} {g:Nat} {s:List Nat} (h:gK w g s) {p:Addr} (hp:g≠p.block) (u:Value):gK (w.setCell p u) g s:=iA.jr h hp u
theorem gK.drewN {s:List Nat} (h:gK w g s) (n:Nat):gK (w.drewN n) g s:=h
theorem gK.rd {s:List Nat} (h:gK w g s) (hB:g<B):pB w B (some ⟨g,0,none⟩) s:=iA.o4 h hB
theorem pB.cell {w:World} {B g o:Nat} {s:List Nat} (h:pB w B (some ⟨g,o,none⟩) s) (i:Nat) (hi:i<s.length):w.cell? ⟨g,o+i,none⟩=some (.int .u32 ((s.getD i 0:Nat):Int)):=by
 have:=jN.cell h i (by rw[GK];exact hi)
 rwa [IT]at this
theorem pB.addr {s:List Nat} (h:pB w B A s) (h0:s.length≠0):∃g o,A=some ⟨g,o,none⟩/\g<B/\∀i,i<s.length->w.cell? ⟨g,o+i,none⟩=some (.int .u32 ((s.getD i 0:Nat):Int)):=by
 obtain⟨g,o,e,hg,hc⟩:=h (by rw[GK];exact h0);refine⟨g,o,e,hg,fun i hi=>?_⟩
 have:=hc i (by rw[GK];exact hi)
 rwa [IT]at this
theorem pB.fp {w w':World} {B:Nat} {A:Option Addr} {s:List Nat} (h:pB w B A s) (hk:∀g o,g<B->w'.cell? ⟨g,o,none⟩=w.cell? ⟨g,o,none⟩):pB w' B A s:=jN.fp h hk
theorem pB.below {w w':World} {B B':Nat} {A:Option Addr} {s:List Nat} (h:pB w B A s) (hb:Below B' w w') (hB:B<=B'):pB w' B A s:=jN.below h hb hB
theorem pB.more {w:World} {B B':Nat} {A:Option Addr} {s:List Nat} (h:pB w B A s) (hB:B<=B'):pB w B' A s:=jN.more h hB
def Jf (w:World) (g:Nat):Nat:=match w.heap[g]? with
 | some (.cells cs _ _)=>(cs.toList.map fun v=>match v with | .int _ z=>4294967296-z.toNat|_=>0).sum
 | _=>0
theorem gK.wh {s:List Nat} (h:gK w g s):Jf w g=Gm.uh s:=by
 unfold Jf Gm.uh;rw[show w.heap[g]?=_ from h];clear h;simp only[zi,Ef]
 congr 1
def FU (s:List Nat) (w:World) (e:Ending) (w':World):Prop:=∃g,e=.returned (.slice (some ⟨g,0,none⟩) s.length s.length)/\w.heap.size<=g/\gK w' g s/\Below w.heap.size w w'
def I5 (b:Bool) (s:List Nat) (w:World) (e:Ending) (w':World):Prop:=(b=true->FU s w e w')/\(b=false->e=.returned (.slice none 0 0)/\Below w.heap.size w w')
def MO (s:List Nat) (w:World) (e:Ending) (w':World):Prop:=∃A c,e=.returned (.slice A s.length c)/\pB w' w'.heap.size A s/\Below w.heap.size w w'
theorem I5.rd {b:Bool} {s:List Nat} {w w':World} {e:Ending} (h:I5 b s w e w'):MO (if b=true then s else []) w e w':=by
 cases b
 ·obtain⟨h1,h2⟩:=h.2 rfl;exact⟨none,0,h1,jN.nil _ _ _,h2⟩
 ·obtain⟨g,h1,h2,h3,h4⟩:=h.1 rfl;exact⟨some ⟨g,0,none⟩,s.length,h1,h3.rd h3.lt,h4⟩
theorem FU.rd {s:List Nat} {w w':World} {e:Ending} (h:FU s w e w'):MO s w e w':=by
 obtain⟨g,h1,h2,h3,h4⟩:=h;exact⟨some ⟨g,0,none⟩,s.length,h1,h3.rd h3.lt,h4⟩
end Go.Proofs.YtcmhaemaophplaaGreat
