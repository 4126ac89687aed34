/- Part of the proofs over this program: Rcopy2, TrimKept, TrimRed, TrimReduced, Ints, CfgSame. -/
import Derived.Test.YtcmhaemaophplaaGreatXH
set_option linter.all false
namespace Go
def EF:=@List.map_singleton
def Dx:=@Go.World.drewN_drewN
end Go
open Go.RowKit Go.Proofs.Tryz
set_option maxRecDepth 100000
set_option maxHeartbeats 40000000
namespace Go.Proofs.YtcmhaemaophplaaGreat
variable {D base base' g i k n:Nat} {G:Gm.Gr} {cs:Array Go.Value} {j:Int} {ns ns':List (List Int)} {r zs:List Int} {rs rs':List Gm.Rl} {ts:List Gm.Tm} {u v v' vN vT:Go.Value} {w w' wr:Go.World} {xs:List Go.Value}
structure pG (w0 wr:World) (n:Nat) (cs:Array Value) (vT vN v:Value) (ts:List Gm.Tm) (ns:List (List Int)) (rs:List Gm.Rl):Prop where
 b:wr.heap[n]?=some (.cells cs 26 (0,0))
 z:wr.heap[n+1]?=some (.cells #[.slice none 0 0,.slice none 0 0,.slice none 0 0,.int .i64 0] 26 (0,0))
 t:bB wr n vT ts
 nn:bK wr n vN ns
 r:bA wr n wr.heap.size v rs
 w:Below n w0 wr
 s:n+2<=wr.heap.size
section
variable {w0 wr w':World} {n:Nat} {cs:Array Value} {vT vN v:Value} {ts:List Gm.Tm} {ns:List (List Int)} {rs:List Gm.Rl}
theorem pG.grown (h:pG w0 wr n cs vT vN v ts ns rs) {row:Option Nat} (hg:wr.grownBy w' row) (ho:∀g,row=some g->n+1<g/\∃cs T,wr.heap[g]?=some (.cells cs T (0,0))/\T≠81/\T≠9/\T≠3/\T≠48):pG w0 w' n cs vT vN v ts ns rs:=by
 refine⟨(hg.block n (Ad.1 h.b).1 (fun e=>by have:=(ho n e.symm).1;omega)).trans h.b,(hg.block (n+1) (Ad.1 h.z).1 (fun e=>by have:=(ho (n+1) e.symm).1;omega)).trans h.z,AO h.t hg ?_,AO h.nn hg ?_,(h.r.grown hg ?_).more hg.size,h.w.grown hg (by have:=h.s;omega) (fun k e=>by have:=(ho k e).1;omega),by have:=h.s;have:=hg.size;omega⟩
 ·rcases row with _|g
  ·exact vB _
  ·obtain⟨_,cs,T,h1,h2,_⟩:=ho g rfl;exact aO h.t h1 (fun cur e=>by injection e with _ e;exact h2 e)
 ·rcases row with _|g
  ·exact vB _
  ·obtain⟨_,cs,T,h1,_,h2,_⟩:=ho g rfl;exact aO h.nn h1 (fun cur e=>by injection e with _ e;exact h2 e)
 ·intro g e;obtain⟨_,cs,T,h1,_,_,h2,h3⟩:=ho g e;exact .inl ⟨aQ h1 h2,aQ h1 h3⟩
theorem pG.alloc (h:pG w0 wr n cs vT vN v ts ns rs) (o:Obj):pG w0 (wr.alloc o) n cs vT vN v ts ns rs:=h.grown (Dh wr o .none) (fun g e=>by cases e)
theorem pG.below (h:pG w0 wr n cs vT vN v ts ns rs) (hb:Below wr.heap.size wr w'):pG w0 w' n cs vT vN v ts ns rs:=h.grown (aK hb .none) (fun g e=>by cases e)
theorem pG.Fy (h:pG w0 wr n cs vT vN v ts ns rs) {w2:World} {j:Nat} (hD:wr.heap.size<=D) (hb:Below wr.heap.size wr w2):pG w0 (w2.setCell ⟨D,j,none⟩ u) n cs vT vN v ts ns rs:=by
 have hs:=h.s;exact h.below (hb.setCell (p:=⟨D,j,none⟩) (by simp only;omega) u)
end
theorem xT {e:TypeId} {size:Nat} (h:w.ownsRow base e size v n xs) (hb:base'<=base):w.ownsRow base' e size v n xs:=by
 refine⟨h.1,?_⟩;rcases h.2 with h0|⟨g,cap,cur,e,aa,hr⟩
 ·exact .inl h0
 ·exact .inr ⟨g,cap,cur,e,by omega,hr⟩
theorem pG.put {w0:World} (h:pG w0 wr n cs vT vN v ts ns rs) (ho:bA w' n w'.heap.size v' rs') (hg:wr.grownBy w' v.ownBlock):pG w0 w' n cs vT vN v' ts ns rs':=by
 obtain⟨qs,_,h2,_⟩:=id h.r;exact⟨qE h.b h2 (by decide) hg,qE h.z h2 (by decide) hg,AO h.t hg (aP h.t h2 (by decide)),AO h.nn hg (aP h.nn h2 (by decide)),ho,h.w.grown hg (by have:=h.s;omega) (fun k e=>(aM h2 e).1),Aj h.s hg.size⟩
structure Gx (w:World) (n:Nat) (vT vN v:Value) (ts:List Gm.Tm) (ns:List (List Int)) (rs:List Gm.Rl):Prop where
 a:∃cs,w.heap[n]?=some (.cells cs 26 (0,0))
 b:∃cs,w.heap[n+1]?=some (.cells cs 26 (0,0))
 t:bB w n vT ts
 nn:bK w n vN ns
 r:bA w n w.heap.size v rs
theorem Gx.set (h:Gx w n vT vN v ts ns rs) (g j:Nat) (u:Value) (hg:g=n\/g=n+1):Gx (w.setCell ⟨g,j,none⟩ u) n vT vN v ts ns rs:=by
 have hc:∃cs,w.heap[g]?=some (.cells cs 26 (0,0)):=by rcases hg with rfl|rfl;exact h.a;exact h.b
 obtain⟨cs,hc⟩:=hc;have hs:w.grownBy (w.setCell ⟨g,j,none⟩ u) (some g):=aF (AJ _ _) j u
 have key:∀m:Nat,(∃cs,w.heap[m]?=some (.cells cs 26 (0,0)))->∃cs,(w.setCell ⟨g,j,none⟩ u).heap[m]?=some (.cells cs 26 (0,0)):=fun m ⟨c2,h2⟩=>by
  by_cases e:m=g
  ·subst e;exact⟨_,AZ w m j _ _ u h2⟩
  ·exact⟨c2,(AU w ⟨g,j,none⟩ u m (by simp only;omega)).trans h2⟩
 refine⟨key n h.a,key (n+1) h.b,AO h.t hs (aO h.t hc (fun cur e=>by injection e with _ e;cases e)),AO h.nn hs (aO h.nn hc (fun cur e=>by injection e with _ e;cases e)),(h.r.grown hs (fun g' e=>?_)).more hs.size⟩;injection e with e;subst e;exact .inl ⟨aQ hc (by decide),aQ hc (by decide)⟩
theorem Gx.rd (h:Gx w n vT vN v ts ns rs) (z:Int):aT w w.heap.size (.agg #[vT,vN,v,.int .i64 z]) ⟨ts,ns,rs,z⟩:=by
 obtain⟨AT,cT,rfl,h1,h2⟩:=Gs h.t;obtain⟨AN,cN,rfl,h3,h4⟩:=Gh h.nn;obtain⟨AR,cR,rfl,h5,h6⟩:=Gt h.r (Af _);exact⟨AT,cT,AN,cN,AR,cR,rfl,h1,h3,h5,h2,h4,h6⟩
theorem Gz {e:TypeId} {size:Nat} (ho:w.ownsRow base e size v n xs) (hg:w.grownBy w' v.ownBlock) (hb:g<base) (hs:g<w.heap.size):w'.heap[g]?=w.heap[g]? :=
 hg.block g hs (fun e=>by have:=(aM ho e.symm).1;omega)
theorem NZ (v:Value) (G:Gm.Gr) (B:Nat) (w:World) (hg:aT w B v G) (hB:B<=w.heap.size) (ht:G.ts.length<=1000) (hn:G.ns.length<=1000) (hr:G.rs.length<=1000) (a2:∀r∈G.rs,r.r.length<=1000) :
  Calls prog 9 #[v] w fun e w'=>∃g,e=.returned g/\aT w' w'.heap.size g G/\Below w.heap.size w w':=by
 obtain⟨AT,cT,AN,cN,AR,cR,rfl,_,_,_,hT,hN,hR⟩:=hg;have HR:=aA hR;have bv:=aA (fun(i:Nat) (hi:i<G.rs.length)=>a2 _ (AE hi));have ai:=aA (BD ht (BD hn hr));obtain⟨w1,q⟩:∃y,y=(w.alloc (.cells #[.slice AT G.ts.length cT,.slice AN G.ns.length cN,.slice AR G.rs.length cR,.int .i64 G.st] 26)).alloc (.cells #[.slice none 0 0,.slice none 0 0,.slice none 0 0,.int .i64 0] 26):=⟨_,rfl⟩
 have a3:w1.heap.size=w.heap.size+2:=by rw[q];simp
 have d:Hid (Below w.heap.size w w1):=aA (by rw[q];exact((AB _ w).alloc (Af _) _).alloc (by simp) _);have ad:Hid (w1.heap[w.heap.size]?=some (.cells #[.slice AT G.ts.length cT,.slice AN G.ns.length cN,.slice AR G.rs.length cR,.int .i64 G.st] 26 (0,0))):=aA (by rw[q,Bs _ _ _ (by simp)];exact AG w _);have a4:Hid (w1.heap[w.heap.size+1]?=some (.cells #[.slice none 0 0,.slice none 0 0,.slice none 0 0,.int .i64 0] 26 (0,0))):=aA (by rw[q];have:=AG (w.alloc (.cells #[.slice AT G.ts.length cT,.slice AN G.ns.length cN,.slice AR G.rs.length cR,.int .i64 G.st] 26)) (.cells #[.slice none 0 0,.slice none 0 0,.slice none 0 0,.int .i64 0] 26);simpa using this);have a5:=aA (fun(x:World) (h:Below w.heap.size w x)=>hT.fp (fun g o hg=>h.cell (p:=⟨g,o,none⟩) (Ah hg hB)));have a6:=aA (fun(x:World) (h:Below w.heap.size w x)=>hN.fp (fun g o hg=>h.cell (p:=⟨g,o,none⟩) (Ah hg hB)));have x0:=aS ad.o;have f0:=AH w1 _ 0 _ _ ad.o;have ae:=aA hB;have bw:=aA a3;have aj:w.heap.size+1<w1.heap.size:=by omega
 have ak:w.heap.size<w1.heap.size:=by omega
 clear hT hN hR ht hn hr a2 hB a3
 go_enter func9,ntmps9
 go_upto_region 1 with fail
 rw[<-q];clear q;go_upto_region 2 with(at_builtin;refine Iz rfl (.tmp 6) (.tmp 8) _ rfl underlying22 w1.heap.size _ [] rfl (xV w1) B G.ts.length cT AT G.ts rfl rfl (a5.o _ (d.o.alloc d.o.size _)) (by have:=ai.o;simp;omega) (by simp) ?_;intro v2 w2 al am;obtain⟨A2,c2,rfl,_,_⟩:=aN al;have f:=(Gz (xV w1) am ak (by simp;omega)).trans ((Bs w1 _ _ ak).trans ad.o);have s0:=AF w2 _ 0 _ _ _ f;have s1:=AF w2 _ 1 _ _ _ f;have z0:=AH w2 _ 0 _ _ f;have z1:=AH w2 _ 1 _ _ f;have l2:=(Ad.1 f).1;have a9:=aA f;have ba:=aA al;have ao:=aA am;clear f al am)
 have C:Hid ((w2.setCell ⟨w.heap.size,0,none⟩ (.slice A2 G.ts.length c2)).heap[w.heap.size]?=some (.cells #[.slice A2 G.ts.length c2,.slice AN G.ns.length cN,.slice AR G.rs.length cR,.int .i64 G.st] 26 (0,0))):=aA (AZ w2 _ 0 _ _ _ a9.o);have ap:Hid ((w2.setCell ⟨w.heap.size,0,none⟩ (.slice A2 G.ts.length c2)).heap[w.heap.size+1]?=some (.cells #[.slice none 0 0,.slice none 0 0,.slice none 0 0,.int .i64 0] 26 (0,0))):=aA ((AU w2 _ _ _ (by simp only;omega)).trans ((Gz (xV w1) ao.o aj (by simp;omega)).trans ((Bs w1 _ _ aj).trans a4.o)));have aq:Hid (bB (w2.setCell ⟨w.heap.size,0,none⟩ (.slice A2 G.ts.length c2)) w1.heap.size (.slice A2 G.ts.length c2) G.ts):=aA (AO ba.o (aF (AJ _ _) 0 _) (aO ba.o a9.o (fun cur e=>by injection e with _ e;cases e)));have A:Hid (Below w.heap.size w (w2.setCell ⟨w.heap.size,0,none⟩ (.slice A2 G.ts.length c2))):=aA (((d.o.alloc d.o.size _).grown ao.o (by have:=d.o.size;simp;omega) (fun k e=>by have:=(aM (xV w1) e).1;have:=d.o.size;omega)).setCell (p:=⟨w.heap.size,0,none⟩) (Af _) _);have ar:Hid (w1.heap.size<=w2.heap.size):=aA (by have:=ao.o.size;simp at this;omega);obtain⟨wa,au⟩:∃x,x=w2.setCell ⟨w.heap.size,0,none⟩ (.slice A2 G.ts.length c2):=⟨_,rfl⟩
 have bb:wa.heap.size=w2.heap.size:=by rw[au];simp
 rw[<-au]at C ap aq A ⊢;have av:=aA bb;clear au bb x0 f0 s0 s1 z0 z1 l2;have s1:=aX C.o;have la:w.heap.size<wa.heap.size:=(Ad.1 C.o).1;go_upto_region 3 with(at_builtin;refine QK rfl (.tmp 11) (.tmp 13) _ rfl underlying23 wa.heap.size _ [] rfl (FB wa) B G.ns.length cN AN G.ns rfl rfl (a6.o _ (A.o.alloc A.o.size _)) (by have:=ai.o;simp;omega) (by simp) ?_;intro v3 w3 aw ax;obtain⟨A3,c3,rfl,_,_⟩:=aN aw;have E:=(Gz (FB wa) ax la (by simp;omega)).trans ((Bs wa _ _ la).trans C.o);have s1:=AF w3 _ 1 _ _ _ E;have z1:=AH w3 _ 1 _ _ E;have l3:=(Ad.1 E).1;have af:=aA E;have ay:=aA aw;have ag:=aA ax;clear E aw ax)
 have F:Hid (pG w (w3.setCell ⟨w.heap.size,1,none⟩ (.slice A3 G.ns.length c3)) w.heap.size #[.slice A2 G.ts.length c2,.slice A3 G.ns.length c3,.slice AR G.rs.length cR,.int .i64 G.st] (.slice A2 G.ts.length c2) (.slice A3 G.ns.length c3) (.slice none 0 0) G.ts G.ns []):=aA (by
  have bx:w.heap.size<=w1.heap.size:=d.o.size;have bz:w.heap.size<=wa.heap.size:=by have:=ar.o;have:=av.o;omega
  have bc:bB (wa.alloc (.cells #[] 9)) w1.heap.size (.slice A2 G.ts.length c2) G.ts:=C5 aq.o _;have bd:bB w3 w1.heap.size (.slice A2 G.ts.length c2) G.ts:=AO bc ag.o (aP bc (FB wa) (by decide));have bD:Below w.heap.size w w3:=(A.o.alloc A.o.size _).grown ag.o (by simp;omega) (fun k e=>by have:=(aM (FB wa) e).1;omega);have bf:w.heap.size+1<wa.heap.size:=by have:=ar.o;have:=av.o;omega
  have bg:=(Gz (FB wa) ag.o bf (by simp;omega)).trans ((Bs wa _ _ bf).trans ap.o);have aa:w3.grownBy (w3.setCell ⟨w.heap.size,1,none⟩ (.slice A3 G.ns.length c3)) (some w.heap.size):=aF (AJ _ _) 1 _;refine⟨AZ w3 _ 1 _ _ _ af.o,(AU w3 _ _ _ (by simp only;omega)).trans bg,xT (AO bd aa (aO bd af.o (fun cur e=>by injection e with _ e;cases e))) bx,xT (AO ay.o aa (aO ay.o af.o (fun cur e=>by injection e with _ e;cases e))) bz,bA.nil _ _ _,bD.setCell (p:=⟨w.heap.size,1,none⟩) (Af _) _,?_⟩
  have:=(Ad.1 bg).1
  simp
  omega)
 obtain⟨wb,bh⟩:∃x,x=w3.setCell ⟨w.heap.size,1,none⟩ (.slice A3 G.ns.length c3):=⟨_,rfl⟩
 rw[<-bh]at F ⊢;obtain⟨n,hn⟩:∃n,n=w.heap.size:=⟨_,rfl⟩
 have bi:=aA hn;rw[<-hn]at F ae ⊢;clear bh hn s1 z1 l3 la ak aj af ay ag C ap aq A ar av ad a4 a5 a6 bw d;obtain⟨vT,bj⟩:∃v,v=Value.slice A2 G.ts.length c2:=⟨_,rfl⟩
 obtain⟨vN,bk⟩:∃v,v=Value.slice A3 G.ns.length c3:=⟨_,rfl⟩
 rw[<-bj,<-bk]at F ⊢;clear bj bk;go_wp2;go_loopw [3,4] (fun vl vi wr=>∃(i:Nat),i<=G.rs.length/\vi=.int .i64 i/\Hid (pG w wr n #[vT,vN,.slice AR G.rs.length cR,.int .i64 G.st] vT vN vl G.ts G.ns (G.rs.take i))) (fun _ vi _=>G.rs.length-(intOf vi).toNat)
 case atStart=>exact⟨0,AV _,rfl,F⟩
 case round =>
  clear F;obtain⟨i,hi,rfl,HC⟩:=hrel;obtain⟨A4,c4,bl,_,_⟩:=xi HC.o.r;rw[show(G.rs.take i).length=i by rw[Bd];omega]at bl;subst bl;have c2:=aY HC.o.b;have ln:=(Ad.1 HC.o.b).1;by_cases ah:i<G.rs.length
  ·obtain⟨g,o,rfl,ca,hc⟩:=HR.o (by omega);obtain⟨k0,⟨A',c',k1,q1,q2,bm⟩,k2⟩:=hc i ah;have az:g<n:=by have:=ae.o;omega
   have k0:=(HC.o.w.cell (p:=⟨g,o+i*3,none⟩) az).trans k0;have k1:=(HC.o.w.cell (p:=⟨g,o+i*3+1,none⟩) az).trans k1;have k2:=(HC.o.w.cell (p:=⟨g,o+i*3+2,none⟩) az).trans k2;have cb:g<wr.heap.size:=by omega
   have bM:=bv.o i ah;have bT:=aA (AL ah)
   have bo:=aA (fun(x:World) (h:Below n w x)=>N3 A' c' B G.rs[i].r x (fun hn=>by
    obtain⟨g,o',e,hg,hc⟩:=bm hn;exact⟨g,o',e,hg,fun j hj=>(h.cell (p:=⟨g,o'+j,none⟩) (Ah hg ae.o)).trans (hc j hj)⟩) (Aj ae.o (by have:=h.size;have:=bi.o;omega)) (by omega))
   clear hc bm q1 q2;generalize G.rs[i]=r at *;rcases r with⟨l,zs,p⟩
   simp only at k0 k1 k2 bM bo;have bX:=aA (HC.o.alloc (.cells #[.int .i64 l,.slice A' zs.length c',.int .i64 p] 48));have b0:=aA (AG wr (.cells #[.int .i64 l,.slice A' zs.length c',.int .i64 p] 48));have b1:=aA (bo.o _ bX.o.w);go_wp2_with fail
   refine b1.o.mono ?_;rintro _ w2 ⟨vi,rfl,bp,a0⟩;have m:=(a0.block wr.heap.size (by simp)).trans b0.o;have bq:Below wr.heap.size wr w2:=((AB _ wr).alloc (Af _) _).trans (a0.mono (by simp));obtain⟨Ai,ci,rfl,r1,r2,ab⟩:=bp.row (B:=n) (by have:=HC.o.s;simp;omega);have d1:=AF w2 _ 1 _ _ _ m;have d0:=aS m;have d2:=aY m;have f1:=AH w2 _ 1 _ _ m;have ld:=(Ad.1 m).1;have b2:=aA (HC.o.Fy (D:=wr.heap.size) (j:=1) (u:=.slice Ai zs.length ci) (Af _) bq);have b3:Hid (sS (w2.setCell ⟨wr.heap.size,1,none⟩ (.slice Ai zs.length ci)) n (w2.setCell ⟨wr.heap.size,1,none⟩ (.slice Ai zs.length ci)).heap.size Ai zs):=aA ((ab.grown (aF (AJ w2 (some wr.heap.size)) 1 (.slice Ai zs.length ci)) (fun g e=>by injection e with e;subst e;exact .inl (aQ m (by decide)))).more (by simp));have a1:=aA (b2.o.alloc (.cells #[.int .i64 l,.slice Ai zs.length ci,.int .i64 p] 48));have b4:=aA ((b3.o.grown (Dh _ (.cells #[.int .i64 l,.slice Ai zs.length ci,.int .i64 p] 48) none) (fun g e=>by cases e)).more (show(w2.setCell ⟨wr.heap.size,1,none⟩ (.slice Ai zs.length ci)).heap.size<=((w2.setCell ⟨wr.heap.size,1,none⟩ (.slice Ai zs.length ci)).alloc (.cells #[.int .i64 l,.slice Ai zs.length ci,.int .i64 p] 48)).heap.size by simp))
   have b5:Hid (∀j u,(pC (⟨l,zs,p⟩,Ai,ci))[j]?=some u->((w2.setCell ⟨wr.heap.size,1,none⟩ (.slice Ai zs.length ci)).alloc (.cells #[.int .i64 l,.slice Ai zs.length ci,.int .i64 p] 48)).cell? ⟨w2.heap.size,j,none⟩=some u):=aA (fun j u hj=>by
    have h:=tS (w2.setCell ⟨wr.heap.size,1,none⟩ (.slice Ai zs.length ci)) (pC (⟨l,zs,p⟩,Ai,ci)) 48 j;rw[show(w2.setCell ⟨wr.heap.size,1,none⟩ (.slice Ai zs.length ci)).heap.size=w2.heap.size by simp]at h;exact h.trans hj)
   have ac:=aA (BD r1 r2);clear bp a0 bq ab m;go_wp2_with (at_builtin;(go_loud (refine K5 rfl (.tmp 32) (.tmp 34) _ rfl underlying24 n _ (.slice A4 i c4) (G.rs.take i) rfl a1.o.r _ _ (⟨l,zs,p⟩,Ai,ci) rfl b5.o ⟨ac.o.1,ac.o.2,b4.o⟩ (by have:=ai.o;rw[Bd];omega) (by have:=a1.o.s;omega) (Af _) ?_));intro v5 w5 br bs;have b6:=aA (a1.o.put br bs);clear br bs)
   go_roundw
   case rel=>exact⟨i+1,ah,by go_num,by rw[bT.o];exact b6⟩
   case measure=>simp[intOf];omega
  ·obtain rfl:i=G.rs.length:=by omega
   rw[Bn]at HC;obtain⟨AT5,cT5,rfl,_,_⟩:=aN HC.o.t;obtain⟨AN5,cN5,rfl,_,_⟩:=aN HC.o.nn;have c0:=aS HC.o.b;have c1:=aX HC.o.b;have c3:=bI HC.o.b;have f2:=AH wr _ 2 _ _ HC.o.b;have g0:=aS HC.o.z;have g1:=aX HC.o.z;have g2:=aY HC.o.z;have g3:=bI HC.o.z;have e0:=AH wr _ 0 _ _ HC.o.z;have e1:=AH wr _ 1 _ _ HC.o.z;have e2:=AH wr _ 2 _ _ HC.o.z;have e3:=AH wr _ 3 _ _ HC.o.z;have lz:=(Ad.1 HC.o.z).1;have bu:Hid (Gx wr n (.slice AT5 G.ts.length cT5) (.slice AN5 G.ns.length cN5) (.slice A4 G.rs.length c4) G.ts G.ns G.rs):=aA ⟨⟨_,HC.o.b⟩,⟨_,HC.o.z⟩,HC.o.t,HC.o.nn,HC.o.r⟩;have b7:=aA (fun u0 u1 u2 u3 u4=>((((bu.o.set n 2 u0 (.inl rfl)).set (n+1) 0 u1 (.inr rfl)).set (n+1) 1 u2 (.inr rfl)).set (n+1) 2 u3 (.inr rfl)).set (n+1) 3 u4 (.inr rfl));have b9:=aA (fun u0 u1 u2 u3 u4=>((((HC.o.w.setCell (p:=⟨n,2,none⟩) (Af _) u0).setCell (p:=⟨n+1,0,none⟩) (by simp only;omega) u1).setCell (p:=⟨n+1,1,none⟩) (by simp only;omega) u2).setCell (p:=⟨n+1,2,none⟩) (by simp only;omega) u3).setCell (p:=⟨n+1,3,none⟩) (by simp only;omega) u4);clear bu;go_wp2;refine B8 (v:=.agg #[.slice AT5 G.ts.length cT5,.slice AN5 G.ns.length cN5,.slice A4 G.rs.length c4,.int .i64 G.st]) (by simp[results,results9,go_sem,g0,g1,g2,g3]) rfl ?_;exact⟨_,rfl,(b7.o _ _ _ _ _).rd G.st,by rw[<-bi.o];exact b9.o _ _ _ _ _⟩
theorem Gm.mw (h:Gm.Ok G) {x:Gm.Rl} (hx:x∈G.rs):Gm.oZ (Gm.gn true G.rs G.ns.length) (Gm.rc G) x=Gm.use G x:=by
 unfold Gm.oZ Gm.use;rw[Bw,Bb,Gm.fP,Gm.kR h.iT];have hl:=h.iT x hx;rw[Gm.xK G x.l.toNat (by omega),Gm.fP,BI hl.1]
noncomputable def Gm.kl (G:Gm.Gr) (i:Nat):List Int:=((List.range i).filter fun j=>(G.rs[j]?).any (Gm.use G)).map fun j:Nat=>(j:Int)
theorem Gm.sh (h:i<G.rs.length):Gm.kl G (i+1)=if Gm.use G G.rs[i]=true then Gm.kl G i++[(i:Int)] else Gm.kl G i:=by
 unfold Gm.kl;rw[CH,B9,Bf];have e:(G.rs[i]?).any (Gm.use G)=Gm.use G G.rs[i]:=by rw[AD h];rfl
 cases hu:Gm.use G G.rs[i]
 ·simp[e,hu]
 ·simp[e,hu]
theorem Gm.uy (G:Gm.Gr) (i:Nat):(Gm.kl G i).length<=i:=by
 unfold Gm.kl;rw[Bh]
 have:=Cd (fun j=>(G.rs[j]?).any (Gm.use G)) (List.range i)
 simpa using this
theorem Gm.yx (G:Gm.Gr):Gm.kl G G.rs.length=(Gm.kept G).map fun j:Nat=>(j:Int):=rfl
theorem RV (c:Nat) (w:World):(binOp .eql 22 (.slice none 0 c) (.slice none 0 0)).run prog w=.ok (.bool true) w:=by kernel_rfl
theorem Qr (ad:Addr) (n c:Nat) (w:World):(binOp .eql 22 (.slice (some ad) n c) (.slice none 0 0)).run prog w=.ok (.bool false) w:=by kernel_rfl
theorem OZ (A:Option Addr) (c B:Nat) (ts:List Gm.Tm) (w:World) (hr:rV w B A ts) (hB:B<=w.heap.size) (hl:ts.length<=1000) :
  Calls prog 142 #[.slice A ts.length c] w fun e w'=>∃v,e=.returned v/\bB w' w.heap.size v ts/\Below w.heap.size w w':=by
 have HR:=aA (fun o=>(show rV (w.alloc o) w.heap.size A ts from(hr.fp fun g o' hg=>(Below.cell ((AB w.heap.size w).alloc (Af _) o) (p:=⟨g,o',none⟩) (by simp only;omega))).more hB));have HL:=aA hl;cases A with
 | none =>
  have h0:ts=[]:=by
   rcases CY ts.length with h|h
   ·exact BB h
   ·obtain⟨g,o,e,_⟩:=hr (by omega);cases e
  subst h0;have hq:=fun w=>RV c w;clear hr hl HR HL hB
  go_enter func142,ntmps142
  go_wp2;go_ret
  exact⟨_,rfl,bB.nil _ _,AB _ _⟩
 | some ad =>
  have hq:=fun w=>Qr ad ts.length c w;clear hr hl hB
  go_enter func142,ntmps142
  go_wp2_with (at_builtin;refine Iz rfl (.tmp 5) (.tmp 6) _ rfl underlying22 w.heap.size _ [] rfl (xV w) w.heap.size ts.length c (some ad) ts rfl rfl (HR.o _) (by have:=HL.o;simp;omega) (by simp) ?_;intro v2 w2 aa ab)
  go_ret
  exact⟨_,rfl,aa,((AB w.heap.size w).alloc (Af _) _).grown ab (by simp) (fun k e=>(aM (xV w) e).1)⟩
def Gm.rY (an:List Int) (z:Int):Int:=if z<0 then -1-an.getD (-1-z).toNat 0 else z
theorem Gm.ud (f:Int->Int) (h:k<r.length):((r.take k).map f++List.replicate (r.length-k) 0).set k (f r[k])=(r.take (k+1)).map f++List.replicate (r.length-(k+1)) 0:=by
 rw[DB _ _ (by simp;omega)];rw[AL h,Bf,Ci]
 congr 1
 rw[show k-((r.take k).map f).length=0 by simp;omega,show r.length-k=(r.length-(k+1))+1 by omega,CR];rfl
theorem M6 (x:Gm.Rl) (an:List Int) (A A2:Option Addr) (c c2 B B2:Nat) (w:World) (hr:gd w B A x.r) (h2:gd w B2 A2 an) (hB:B<=w.heap.size) (ae:B2<=w.heap.size) (f:∀z∈x.r,Gm.In z) (hs:∀z∈x.r,z<0->-1-z<(an.length:Int)) (hx:0<=x.l/\x.l<an.length) (hl:x.r.length<=1000) (ao:∀i:Nat,i<an.length->0<=an.getD i 0/\an.getD i 0<=1000) :
  Calls prog 143 #[.agg #[.int .i64 x.l,.slice A x.r.length c,.int .i64 x.p],.slice A2 an.length c2] w fun e w'=>∃g,e=.returned (.agg #[.int .i64 (an.getD x.l.toNat 0),.slice (some ⟨g,0,none⟩) x.r.length x.r.length,.int .i64 x.p])/\w.heap.size<=g/\iF w' g (x.r.map (Gm.rY an))/\Below w.heap.size w w':=by
 obtain⟨l,r,pz⟩:=x;simp only at hr f hs hx hl ⊢;obtain⟨ml,rfl⟩:∃m:Nat,l=(m:Int):=⟨l.toNat,by omega⟩
 rw[Cq];obtain⟨w1,C⟩:∃y,y=(w.alloc (.cells #[.int .i64 ml,.slice A r.length c,.int .i64 pz] 48)).alloc (.cells #[.int .i64 0,.slice none 0 0,.int .i64 0] 48):=⟨_,rfl⟩
 have ap:w1.heap.size=w.heap.size+2:=by rw[C];simp
 have az:Hid (Below w.heap.size w w1):=aA (by rw[C];exact((AB _ w).alloc (Af _) _).alloc (by simp) _);have x0:w1.heap[w.heap.size]?=some (.cells #[.int .i64 ml,.slice A r.length c,.int .i64 pz] 48 (0,0)):=by rw[C,Bs _ _ _ (by simp)];exact AG w _
 have x1:w1.heap[w.heap.size+1]?=some (.cells #[.int .i64 0,.slice none 0 0,.int .i64 0] 48 (0,0)):=by rw[C];have:=AG (w.alloc (.cells #[.int .i64 ml,.slice A r.length c,.int .i64 pz] 48)) (.cells #[.int .i64 0,.slice none 0 0,.int .i64 0] 48);simpa using this
 have c1:=aX x0;have af:=aA x0;have ag:=aA x1;have n:=aA ap;have a0:w.heap.size<w1.heap.size:=by omega
 have HR:=aA (fun(y:World) (h:Below w.heap.size w y)=>hr.below h hB);have H2:=aA (fun(y:World) (h:Below w.heap.size w y)=>h2.below h ae);have HI:=aA (fun z w=>Gu z w);have HN:=aA (fun z h1 h2 w=>Gb z h1 h2 w);have a1:=aA f;have a2:=aA hs;have a3:=aA ao;have a4:ml<an.length:=by omega
 have bi:(ml:Int)<(an.length:Int):=by omega
 have a5:=aA (BD hB ae);have a6:(r.length:Int)<=9223372036854775807:=by omega
 clear hr h2 f hs hx hB ae ao x0 x1 ap
 go_enter func143,ntmps143
 go_upto_region 1 with fail
 rw[<-C];clear C;go_upto_region 2 with(at_make;refine IJ rfl (.tmp 10) (.tmp 10) _ rfl underlying38 r.length _ _ rfl rfl rfl rfl (by omega) ?_;intro w2 aq D a9)
 have ah:=aA aq;have c1:=(D.cell (p:=⟨w.heap.size,1,none⟩) (by simp only;omega)).trans c1;have ba:w.heap.size<w2.heap.size:=by omega
 have ar:=aA (az.o.trans (D.mono (by have:=n.o;omega)));have af:=aA ((D.block w.heap.size a0).trans af.o);have ag:=aA ((D.block (w.heap.size+1) (by have:=n.o;omega)).trans ag.o);clear aq D;go_wp2;go_loopw [15] (fun vk wr=>∃k:Nat,k<=r.length/\vk=.int .i64 k/\Hid (iF wr w1.heap.size ((r.take k).map (Gm.rY an)++List.replicate (r.length-k) 0))/\Hid (w2.grownBy wr (some w1.heap.size))) (fun vk _=>r.length-(intOf vk).toNat)
 case atStart=>exact⟨0,AV _,rfl,by simpa using ah,aA (AJ _ _)⟩
 case round =>
  obtain⟨k,hk,rfl,HU,HW⟩:=hrel;have E:=aA (pF ar.o HW.o (by have:=n.o;omega) ar.o.size);by_cases s:k<r.length
  ·obtain⟨g,o,rfl,bj,hc⟩:=HR.o wr E.o (by omega);have k0:=hc k s;rw[L.fy s]at k0;have bl:=Bj k0;have f:=a1.o _ (AE s);have ai:=a2.o _ (AE s);have aa:=aA (Gm.ud (Gm.rY an) s);have bm:=HU.o.lt;have bo:=HU.o.frozen k;have bp:=HU.o.cell k (by simp;omega);have bq:=HU;generalize r[k]=z at *;unfold Gm.In at f;have ab:=aA (fun w=>HI.o z w);have aj:=aA (fun w=>HN.o z f.1 f.2 w);have au:=aA (fun u=>HU.o.jY k u);have av:=aA (fun u=>aF HW.o k (Value.int .i64 u));clear hc;by_cases hz:z<0
   ·have bb:=ai hz;obtain⟨j,hj⟩:∃j:Nat,-1-z=(j:Int):=⟨(-1-z).toNat,by omega⟩
    rw[hj]at bb;have ak:Hid (Gm.rY an z = -1-an.getD j 0):=aA (by unfold Gm.rY;rw[AC hz,hj];simp);obtain⟨g2,o2,rfl,bc,F⟩:=H2.o wr E.o (by omega);have k2:=F j (by omega);have hq:=a3.o j (by omega);have br:j<an.length:=by omega
    have bd:=aA (fun w=>HN.o (an.getD j 0) (by omega) (by omega) w);rw[hj]at aj;rw[AQ hz]at ab;rw[ak.o]at aa;generalize an.getD j 0=qv at *;have l2:=Bj k2;clear hz hj ai F f hq;go_wp2_with fail
    refine(ab.o _).mono ?_;rintro _ w3 ⟨rfl,t⟩;subst t;go_wp2_with fail
    refine(aj.o _).mono ?_;rintro _ w3 ⟨rfl,t⟩;subst t;go_wp2_with fail
    refine(bd.o _).mono ?_;rintro _ w3 ⟨rfl,t⟩;subst t;generalize -1-qv=nv at *;go_wp2;go_roundw
    case rel=>exact⟨k+1,s,by go_num,by rw[<-aa.o];exact au.o nv,av.o nv⟩
    case measure=>simp[intOf];omega
   ·have ak:Hid (Gm.rY an z=z):=aA (by unfold Gm.rY;rw[AI hz]);rw[AM hz]at ab;rw[ak.o]at aa;clear hz ai f aj;go_wp2_with fail
    refine(ab.o _).mono ?_;rintro _ w3 ⟨rfl,t⟩;subst t;go_wp2;go_roundw
    case rel=>exact⟨k+1,s,by go_num,by rw[<-aa.o];exact au.o z,av.o z⟩
    case measure=>simp[intOf];omega
  ·obtain rfl:k=r.length:=by omega
   have ah:Hid (iF wr w1.heap.size (r.map (Gm.rY an))):=aA (by have:=HU.o;simpa using this);have ac:=aA ((HW.o.block w.heap.size ba (fun e=>by injection e with e;omega)).trans af.o);have bf:=aA ((HW.o.block (w.heap.size+1) (by have:=n.o;omega) (fun e=>by injection e with e;have:=n.o;omega)).trans ag.o);obtain⟨g2,o2,rfl,bc,F⟩:=H2.o wr E.o (by omega);have k2:=F ml a4;obtain⟨qv,al⟩:∃q,q=an.getD ml 0:=⟨_,rfl⟩
   rw[<-al]at k2;have HQ:=aA al;clear F HU al;go_upto_region 9 with fail
   have bs:w.heap.size≠w.heap.size+1:=by omega
   have lg2:g2<w.heap.size:=by have:=a5.o;omega
   have b0:=fun y:Calm.vG (w.heap.size+1) wr=>aS ((y.2.block w.heap.size (Ad.1 ac.o).1 (fun e=>by injection e with e;omega)).trans ac.o);have b2:=fun y:Calm.vG (w.heap.size+1) wr=>aY ((y.2.block w.heap.size (Ad.1 ac.o).1 (fun e=>by injection e with e;omega)).trans ac.o);have bk:=fun y:Calm.vG (w.heap.size+1) wr=>xm y.2 k2 (by omega);have ad:wr.grownBy wr.drew (some (w.heap.size+1)):=xW wr _;have bg:Hid (w.heap.size+1≠w1.heap.size):=aA (by have:=n.o;omega);refine CalmN.fk (fun x=>∃y:Calm.vG (w.heap.size+1) wr,x=y.1) (.one [0,1,2,3,4,5,6,7,8] 9 (.fin [])) (by kernel_rfl) (by kernel_rfl) (fun _ _ d _ _ h=>by cases d <;> exact h) ⟨⟨wr.drew,ad⟩,rfl⟩ ?_;simp only[CalmN.fN,CalmN.fv,CalmN.fo,Az,Am,Ap];repeat (go_big_quiet_step (fail))
   refine Aw ?_;intro KK aw;rw[AC (by rfl)];clear b0 b2 bk;have b:=show wr.drew.heap[w.heap.size+1]?=_ from bf.o;obtain⟨wd,ax⟩:∃y,y=wr.drew:=⟨_,rfl⟩
   rw[<-ax]at ad b ⊢;have e0:=AF wd _ 0 _ _ _ b;have e1:=AF wd _ 1 _ _ _ b;have e2:=AF wd _ 2 _ _ _ b;have f0:=AH wd _ 0 _ _ b;have f1:=AH wd _ 1 _ _ b;have f2:=AH wd _ 2 _ _ b;have ld1:=(Ad.1 b).1;have bh:=aA ad;have HY:=aA b;clear ad b ax;go_wp2_with fail
   have H:=bh.o.trans (aF (aF (aF (AJ wd (some (w.heap.size+1))) 0 (.int .i64 qv)) 1 (.slice (some ⟨w1.heap.size,0,none⟩) r.length r.length)) 2 (.int .i64 pz));have am:=aA H;have h0:=AZ _ _ 2 _ _ (.int .i64 pz) (AZ _ _ 1 _ _ (.slice (some ⟨w1.heap.size,0,none⟩) r.length r.length) (AZ wd _ 0 _ _ (.int .i64 qv) HY.o));obtain⟨wf,ay⟩:∃y,y=((wd.setCell ⟨w.heap.size+1,0,none⟩ (.int .i64 qv)).setCell ⟨w.heap.size+1,1,none⟩ (.slice (some ⟨w1.heap.size,0,none⟩) r.length r.length)).setCell ⟨w.heap.size+1,2,none⟩ (.int .i64 pz):=⟨_,rfl⟩
   rw[<-ay]at H h0 am ⊢;refine aw _ _ ⟨⟨wf,H⟩,rfl⟩ (fun x=>∃y:Calm.vG (w.heap.size+1) wr,x=y.1) (fun _ h=>h) ⟨⟨wf,H⟩,rfl⟩ ?_;have j0:=aS h0;have j1:=aX h0;have j2:=aY h0;have lf:=(Ad.1 h0).1;clear H e0 e1 e2 f0 f1 f2 ay aw h0 ld1;refine Aw ?_;go_wp2;refine B8 (v:=.agg #[.int .i64 qv,.slice (some ⟨w1.heap.size,0,none⟩) r.length r.length,.int .i64 pz]) (by simp[results,results143,go_sem,j0,j1,j2]) rfl ?_;exact⟨w1.heap.size,by rw[HQ.o],by have:=n.o;omega,ah.o.grown am.o (fun e=>by injection e with e;exact bg.o e.symm),pF E.o am.o (by omega) E.o.size⟩
theorem Qd (v:Value) (G:Gm.Gr) (B:Nat) (w:World) (hg:aT w B v G) (hf:Gm.Fit G) (t:Gm.Ok G) (hB:B<=w.heap.size) :
  Calls prog 98 #[v] w fun e w'=>∃u,e=.returned u/\aV w' w.heap.size u (Gm.kl G G.rs.length)/\Below w.heap.size w w':=by
 have q:=Gm.ft.2 t;have ai:=aA (fun(x:World) (h:Below w.heap.size w x)=>(show Calls _ _ _ _ (tK _ _) from(Hu v G B x (hg.below h hB) hf (Aj hB h.size)).mono fun e w' k=>k.1 q));have aj:=aA (fun(x:World) (h:Below w.heap.size w x)=>(show Calls _ _ _ _ (tK _ _) from(MW v G B x (hg.below h hB) hf (Aj hB h.size)).mono fun e w' k=>k.1 q));clear q;obtain⟨AT,cT,AN,cN,AR,cR,rfl,_,⟨bm,bo⟩,_,_,_,hR⟩:=hg;have bb:=aA (One.start w #[.slice AT G.ts.length cT,.slice AN G.ns.length cN,.slice AR G.rs.length cR,.int .i64 G.st]);have bc:=aA hR;have HB:=aA hB;have bd:=aA hf;have ak:=aA t;have al:Hid (G.rs.length<=40):=aA t.kz;have ad:=aA (fun x hx=>Gm.mw t (x:=x) hx);obtain⟨T,hT⟩:∃x,x=Gm.gn true G.rs G.ns.length:=⟨_,rfl⟩
 have am:Hid (T.length=G.ns.length):=aA (by rw[hT,Gm.gW]);rw[<-hT]at ai ad;obtain⟨R,ao⟩:∃x,x=Gm.rc G:=⟨_,rfl⟩
 have ax:Hid (R.length=G.ns.length):=aA (by rw[ao,Gm.mZ]);rw[<-ao]at aj ad;have ay:(G.rs.length:Int)<=9223372036854775807:=by have:=t.kz;omega
 clear hf t hR hB hT ao
 go_enter func98,ntmps98
 go_upto_region 1 with fail
 obtain⟨w1,ap⟩:∃y,y=w.alloc (.cells #[.slice AT G.ts.length cT,.slice AN G.ns.length cN,.slice AR G.rs.length cR,.int .i64 G.st] 26):=⟨_,rfl⟩
 have b:Hid (One w #[.slice AT G.ts.length cT,.slice AN G.ns.length cN,.slice AR G.rs.length cR,.int .i64 G.st] w1):=aA (by rw[ap];exact One.start _ _);rw[<-ap];clear ap bb
 go_cut [3,4] (fun v3 v4 wx=>∃gp gr,v3=.slice (some ⟨gp,0,none⟩) G.ns.length G.ns.length/\v4=.slice (some ⟨gr,0,none⟩) G.ns.length G.ns.length/\fL wx gp T/\fL wx gr R/\One w #[.slice AT G.ts.length cT,.slice AN G.ns.length cN,.slice AR G.rs.length cR,.int .i64 G.st] wx)
 case first =>
  have q0:=fun y:Calm.On w1.heap.size w1=>(b.o.on y.2).c 0 _ rfl;have q1:=fun y:Calm.On w1.heap.size w1=>(b.o.on y.2).c 1 _ rfl;have q2:=fun y:Calm.On w1.heap.size w1=>(b.o.on y.2).c 2 _ rfl;have q3:=fun y:Calm.On w1.heap.size w1=>(b.o.on y.2).c 3 _ rfl;have E:Hid (Below w1.heap.size w1 w1.drew):=aA (aB (AB _ _) 1);refine CalmN.fk (fun x=>∃y:Calm.On w1.heap.size w1,x=y.1) (.one [0,2] 1 (.one [] 3 (.fin [4,5]))) (by kernel_rfl) (by kernel_rfl) (fun _ _ d _ _ h=>by cases d <;> exact h) ⟨⟨w1.drew,E.o⟩,rfl⟩ ?_;simp only[CalmN.fN,CalmN.fv,CalmN.fo,Az,Am,Ap];repeat (go_big_quiet_step (fail))
  refine Aw ?_;clear q0 q1 q2 q3;have af:=aA (b.o.below.trans (E.o.mono b.o.below.size));obtain⟨wd,az⟩:∃y,y=w1.drew:=⟨_,rfl⟩
  rw[<-az]at E af ⊢;clear az;intro KK aq;rw[AC (by rfl)];go_wp2_with fail
  refine(ai.o wd af.o).mono ?_;rintro _ w3 ⟨ga,rfl,bp,a0,a1⟩;rw[am.o];have aa:Below w1.heap.size w1 w3:=E.o.trans (a1.mono E.o.size);have bf:=aA (af.o.trans (a1.mono af.o.size));go_wp2_with fail
  refine aq _ _ ⟨⟨w3,aa⟩,rfl⟩ _ (fun _ h=>h) ⟨⟨w3,aa⟩,rfl⟩ ?_;refine Aw ?_;intro KK aq;rw[AC (by rfl)];go_wp2_with fail
  refine(aj.o w3 bf.o).mono ?_;rintro _ w4 ⟨gb,rfl,bq,bg,a2⟩;rw[ax.o];have ae:Below w1.heap.size w1 w4:=aa.trans (a2.mono aa.size);go_wp2_with fail
  refine aq _ _ ⟨⟨w4,ae⟩,rfl⟩ _ (fun _ h=>h) ⟨⟨w4,ae⟩,rfl⟩ ?_;repeat (go_big_quiet_step (fail))
  refine Aw ?_;go_wp2_with fail
  go_meet
  case rel=>exact⟨ga,gb,rfl,rfl,a0.below a2 a0.lt,bg,b.o.on ae⟩
 case rest =>
  obtain⟨gp,gr,rfl,rfl,a3,a4,ac⟩:=hcut;have ag:=aA a3;have a5:=aA a4;have HW:=aA ac;have q2:=ac.c 2 _ rfl;have ld:w.heap.size<wc.heap.size:=ac.size;clear a3 a4 ac ai aj b;go_wp2;go_loopw [5,15] (fun vl vi wr=>∃i:Nat,i<=G.rs.length/\vi=.int .i64 i/\Hid (aV wr wc.heap.size vl (Gm.kl G i))/\Hid (Below wc.heap.size wc wr)) (fun _ vi _=>G.rs.length-(intOf vi).toNat)
  case atStart=>exact⟨0,AV _,rfl,aA (aV.nil _ _),aA (AB _ _)⟩
  case round =>
   obtain⟨i,hi,rfl,HO,f⟩:=hrel;by_cases hlt:i<G.rs.length
   ·obtain⟨g,o,rfl,ar,hc⟩:=bc.o (by omega);obtain⟨k0,⟨A',c',k1,_,_,a6⟩,k2⟩:=hc i hlt;have j:=aA (HW.o.below.trans (f.o.mono HW.o.below.size));have k0:=(j.o.cell (p:=⟨g,o+i*3,none⟩) (Ah ar HB.o)).trans k0;have k1:=(j.o.cell (p:=⟨g,o+i*3+1,none⟩) (Ah ar HB.o)).trans k1;have k2:=(j.o.cell (p:=⟨g,o+i*3+2,none⟩) (Ah ar HB.o)).trans k2;have br:g<wr.heap.size:=Bj k0;have A:G.rs[i]∈G.rs:=AE hlt;have e:=bd.o.r _ A;have au:=ak.o.iT _ A;have bh:=(Gm.fJ (ak.o.rr _ A)).1;have n:=aA (Gm.sh hlt);have av:=aA (ad.o _ A);have F:=aA (fun(y:World) (h:Below wr.heap.size wr y)=>Jr G.rs[i] T A' (some ⟨gp,0,none⟩) c' G.ns.length y.heap.size y ((a6.fp fun g o hg=>(j.o.trans (h.mono j.o.size)).cell (p:=⟨g,o,none⟩) (Ah hg HB.o)).more (Aj HB.o (j.o.trans (h.mono j.o.size)).size)) e.2.2 (fun z hz h=>by rw[am.o];exact ak.o.sin _ A z hz h) ((((ag.o.below f.o ag.o.lt).below h (Ah ag.o.lt f.o.size))).o4 (Ah ag.o.lt (Aj f.o.size h.size))) (Af _) (by omega));rw[am.o]at F;have bi:=aA (Aj (Gm.uy G i) hi);generalize G.rs[i]=x at *;obtain⟨l,r,pz⟩:=x;simp only at k0 k1 k2 F au bh;obtain⟨m,rfl⟩:∃m:Nat,l=(m:Int):=⟨l.toNat,by omega⟩
    have bs:=au.2;have a9:Hid (Gm.oZ T R ⟨m,r,pz⟩=(R.getD m false&&Gm.iw true T r)):=aA (by simp[Gm.oZ]);have bj:=aA ((AB wr.heap.size wr).alloc (Af _) (.cells #[.int .i64 m,.slice A' r.length c',.int .i64 pz] 48));have km:=((f.o.cell (p:=⟨gr,m,none⟩) a5.o.lt).trans (a5.o.cell m (by rw[ax.o];omega)))
    have lgr:gr<wr.heap.size:=Bj km;clear hc a6 e A au;unfold Gm.use at n av;have C:=aA (av.o.symm.trans a9.o);generalize Gm.tr (Gm.Rc G _/\Gm.Al true G.rs _)=ub at *;clear av a9;have H:=aA (f.o.alloc f.o.size (.cells #[.int .i64 m,.slice A' r.length c',.int .i64 pz] 48));have aw:=aA (HO.o.alloc (.cells #[.int .i64 m,.slice A' r.length c',.int .i64 pz] 48));generalize R.getD m false=rb at *;cases rb
    ·obtain rfl:ub=false:=C.o;have HX:Hid (Gm.kl G (i+1)=Gm.kl G i):=aA (n.o.trans (AI (by simp)));clear n C;go_wp2;go_roundw
     case rel=>exact⟨i+1,hlt,by go_num,by rw[HX.o];exact aw,H⟩
     case measure=>simp[intOf];omega
    ·have ba:=aA (F.o _ bj.o);generalize Gm.iw true T r=ab at *;cases ab
     ·obtain rfl:ub=false:=C.o;have HX:Hid (Gm.kl G (i+1)=Gm.kl G i):=aA (n.o.trans (AI (by simp)));clear n C F;go_wp2_with fail
      refine ba.o.mono ?_;rintro _ w2 ⟨rfl,s⟩;have D:=aA (H.o.trans (s.mono H.o.size));have ah:=aA (aw.o.below s (Af _));clear s;go_wp2;go_roundw
      case rel=>exact⟨i+1,hlt,by go_num,by rw[HX.o];exact ah,D⟩
      case measure=>simp[intOf];omega
     ·obtain rfl:ub=true:=C.o;have HX:Hid (Gm.kl G (i+1)=Gm.kl G i++[(i:Int)]):=aA (n.o.trans (AC rfl));clear n C F;go_wp2_with fail
      refine ba.o.mono ?_;rintro _ w2 ⟨rfl,s⟩;have D:=aA (H.o.trans (s.mono H.o.size));have ah:=aA (aw.o.below s (Af _));clear s;go_wp2_with (at_builtin;refine xQ rfl (.tmp 30) (.tmp 32) _ rfl underlying38 wc.heap.size _ _ rfl (ah.o.alloc _) _ 1 i rfl (C8 _ _ _ 0) (by have:=bi.o;have:=al.o;omega) (by have:=D.o.size;simp;omega) ?_;intro v' w3 bk bl)
      go_roundw
      case rel=>exact⟨i+1,hlt,by go_num,by rw[HX.o];exact bk,Ht (D.o.alloc D.o.size _) (ah.o.alloc _) bl (by have:=D.o.size;simp;omega)⟩
      case measure=>simp[intOf];omega
   ·obtain rfl:i=G.rs.length:=by omega
    go_wp2;go_ret
    exact⟨_,rfl,HO.o.mono HW.o.below.size,HW.o.below.trans (f.o.mono HW.o.below.size)⟩
theorem Gm.mV:∀(ls acc:List Int) (l:Int),Gm.ord acc (ls++[l])=if l∈Gm.ord acc ls then Gm.ord acc ls else Gm.ord acc ls++[l]
 | [],acc,l=>by rw[CS,Gm.ord,Gm.ord,Gm.ord]
 | x::r,acc,l=>by rw[Cn,Gm.ord,Gm.ord,Gm.mV r]
noncomputable def Gm.oK (G:Gm.Gr) (k:Nat):List Int:=Gm.ord [] (((Gm.iC G).take k).map Gm.Rl.l)
theorem Gm.wP (h:k<(Gm.iC G).length):Gm.oK G (k+1)=if((Gm.iC G)[k]).l∈Gm.oK G k then Gm.oK G k else Gm.oK G k++[((Gm.iC G)[k]).l]:=by
 unfold Gm.oK;rw[AL h,Bf,EF,Gm.mV]
theorem Gm.yE (G:Gm.Gr):Gm.oK G (Gm.iC G).length=Gm.fu G:=by unfold Gm.oK Gm.fu;rw[Bn]
theorem Gm.yG (h:Gm.Ok G) (hj:j∈Gm.oK G k):0<=j/\j<G.ns.length:=by
 unfold Gm.oK at hj;rw[Gm.mo]at hj;rcases hj with hj|hj
 ·simp at hj
 ·obtain⟨x,hx,rfl⟩:=Bm.1 hj;exact h.iT x (Gm.iJ.1 (DV hx)).1
theorem Gm.yF (h:Gm.Ok G) (k:Nat):(Gm.oK G k).length<=G.ns.length:=by
 have h1:=Gm.kg G.ns.length ((Gm.oK G k).map (· + 1)) ?_ ?_
 ·simpa using h1.1
 ·refine BO.2 ?_;rw[Dk]
  have:(Gm.oK G k).Nodup:=Gm.kf _ _ (by simp)
  exact(BO.1 this).imp fun h e=>h (by omega)
 ·intro x hx;obtain⟨y,hy,rfl⟩:=Bm.1 hx
  have:=Gm.yG h hy
  omega
def Gm.lH (n:Nat) (o:List Int):List Int:=(List.range n).map fun j:Nat=>if(j:Int)∈o then Gm.pos o j else 0
def Gm.od (n:Nat) (o:List Int):List Int:=(List.range n).map fun j:Nat=>Gm.pos o j
def Gm.qJ (n:Nat) (o:List Int):List Bool:=(List.range n).map fun j:Nat=>decide ((j:Int)∈o)
theorem Gm.j8 (n:Nat) (o:List Int):(Gm.lH n o).length=n:=by simp[Gm.lH]
theorem Gm.mu (n:Nat) (o:List Int):(Gm.od n o).length=n:=by simp[Gm.od]
theorem Gm.sb (n:Nat) (o:List Int):(Gm.qJ n o).length=n:=by simp[Gm.qJ]
theorem Gm.ow {j:Nat} (h:j<n) (o:List Int):(Gm.lH n o).getD j 0=if(j:Int)∈o then Gm.pos o j else 0:=by simp[Gm.lH,h]
theorem Gm.nj {j:Nat} (h:j<n) (o:List Int):(Gm.od n o).getD j 0=Gm.pos o j:=by simp[Gm.od,h]
theorem Gm.yq {j:Nat} (h:j<n) (o:List Int):(Gm.qJ n o).getD j false=decide ((j:Int)∈o):=by simp[Gm.qJ,h]
theorem Gm.vO (n:Nat):Gm.lH n []=List.replicate n 0:=by
 refine Cp (by simp[Gm.lH]) fun i h1 h2=>?_;simp[Gm.lH]
theorem Gm.xg (n:Nat):Gm.od n []=List.replicate n (-1):=by
 refine Cp (by simp[Gm.od]) fun i h1 h2=>?_;simp[Gm.od,Gm.pos]
theorem Gm.wg (n:Nat):Gm.qJ n []=List.replicate n false:=by
 refine Cp (by simp[Gm.qJ]) fun i h1 h2=>?_;simp[Gm.qJ]
theorem Gm.oW {o:List Int} {l:Int} (h:l ∉ o):Gm.pos o l = -1:=by unfold Gm.pos;rw[AI h]
theorem Gm.lB {o:List Int} {l:Int} (hj:j≠l):Gm.pos (o++[l]) j=Gm.pos o j:=by
 by_cases h:j∈o
 ·exact Gm.wS h
 ·rw[Gm.oW h,Gm.oW (by simp[h,hj])]
theorem Gm.sD {o:List Int} {l:Int} (hn:l ∉ o):Gm.pos (o++[l]) l=o.length:=Gm.wT (t:=[]) hn
theorem Gm.tX {l:Nat} {o:List Int} (hn:(l:Int) ∉ o):(Gm.lH n o).set l o.length=Gm.lH n (o++[(l:Int)]):=by
 refine Cp (by simp[Gm.lH]) fun i h1 h2=>?_;rw[List.getElem_set];by_cases e:l=i
 ·subst e;rw[AC rfl];simp[Gm.lH,Gm.sD hn]
 ·rw[AI e];have e2:¬(i:Int)=(l:Int):=by omega
  simp only[Gm.lH,C3,List.getElem_range,Bt,AP,e2,or_false];rw[Gm.lB e2]
theorem Gm.uY {l:Nat} {o:List Int} (hn:(l:Int) ∉ o):(Gm.od n o).set l o.length=Gm.od n (o++[(l:Int)]):=by
 refine Cp (by simp[Gm.od]) fun i h1 h2=>?_;rw[List.getElem_set];by_cases e:l=i
 ·subst e;rw[AC rfl];simp[Gm.od,Gm.sD hn]
 ·rw[AI e];have e2:¬(i:Int)=(l:Int):=by omega
  simp only[Gm.od,C3,List.getElem_range];rw[Gm.lB e2]
theorem Gm.tY {l:Nat} {o:List Int}:(Gm.qJ n o).set l true=Gm.qJ n (o++[(l:Int)]):=by
 refine Cp (by simp[Gm.qJ]) fun i h1 h2=>?_;rw[List.getElem_set];by_cases e:l=i
 ·subst e;simp[Gm.qJ]
 ·rw[AI e];have e2:¬(i:Int)=(l:Int):=by omega
  simp[Gm.qJ,e2]
def Gm.gY (G:Gm.Gr) (o:List Int):List (List Int):=o.map fun l=>G.ns.getD l.toNat []
structure ju (w1 wr:World) (H gA:Nat) (cs:Array Value) (vT vN vR:Value) (ts:List Gm.Tm) (ns:List (List Int)) (rs:List Gm.Rl) (an:List Int):Prop where
 h:wr.heap[H]?=some (.cells cs 26 (0,0))
 t:bB wr w1.heap.size vT ts
 nn:bK wr w1.heap.size vN ns
 r:bA wr w1.heap.size wr.heap.size vR rs
 a:iF wr gA an
 w:Below w1.heap.size w1 wr
 hH:w1.heap.size<=H
 hA:w1.heap.size<=gA
section
variable {w1 wr w':World} {H gA:Nat} {cs:Array Value} {vT vN vR:Value} {ts:List Gm.Tm} {ns:List (List Int)} {rs:List Gm.Rl} {an:List Int}
theorem ju.grown (h:ju w1 wr H gA cs vT vN vR ts ns rs an) {row:Option Nat} (hg:wr.grownBy w' row) (ho:∀g,row=some g->g≠H/\w1.heap.size<=g/\∃cs T,wr.heap[g]?=some (.cells cs T (0,0))/\T≠81/\T≠9/\T≠3/\T≠48):ju w1 w' H gA cs vT vN vR ts ns rs an:=by
 refine⟨(hg.block H (Ad.1 h.h).1 (fun e=>(ho H e.symm).1 rfl)).trans h.h,AO h.t hg ?_,AO h.nn hg ?_,(h.r.grown hg ?_).more hg.size,?_,h.w.grown hg h.w.size (fun k e=>(ho k e).2.1),h.hH,h.hA⟩
 ·rcases row with _|g
  ·exact vB _
  ·obtain⟨_,_,cs,T,h1,h2,_⟩:=ho g rfl;exact aO h.t h1 (fun cur e=>by injection e with _ e;exact h2 e)
 ·rcases row with _|g
  ·exact vB _
  ·obtain⟨_,_,cs,T,h1,_,h2,_⟩:=ho g rfl;exact aO h.nn h1 (fun cur e=>by injection e with _ e;exact h2 e)
 ·intro g e;obtain⟨_,_,cs,T,h1,_,_,h2,h3⟩:=ho g e;exact .inl ⟨aQ h1 h2,aQ h1 h3⟩
 ·refine h.a.grown hg fun e=>?_;obtain⟨_,_,cs,T,h1,_,_,h2,_⟩:=ho gA e.symm;exact aQ h1 h2 _ h.a
theorem ju.alloc (h:ju w1 wr H gA cs vT vN vR ts ns rs an) (o:Obj):ju w1 (wr.alloc o) H gA cs vT vN vR ts ns rs an:=h.grown (Dh wr o .none) (fun g e=>by cases e)
theorem ju.below (h:ju w1 wr H gA cs vT vN vR ts ns rs an) (hb:Below wr.heap.size wr w'):ju w1 w' H gA cs vT vN vR ts ns rs an:=h.grown (aK hb .none) (fun g e=>by cases e)
theorem ju.drew (h:ju w1 wr H gA cs vT vN vR ts ns rs an):ju w1 wr.drew H gA cs vT vN vR ts ns rs an:=h.grown (xW wr .none) (fun g e=>by cases e)
theorem ju.set (h:ju w1 wr H gA cs vT vN vR ts ns rs an) {cs':Array Value} {T:TypeId} (hT:wr.heap[g]?=some (.cells cs' T (0,0))) (h1:T≠81) (h2:T≠9) (h3:T≠3) (h4:T≠48) (hH:g≠H) (hb:w1.heap.size<=g) (j:Nat) (u:Value):ju w1 (wr.setCell ⟨g,j,none⟩ u) H gA cs vT vN vR ts ns rs an :=
 h.grown (aF (AJ wr (some g)) j u) (fun g' e=>by injection e with e;subst e;exact⟨hH,hb,cs',T,hT,h1,h2,h3,h4⟩)
theorem ju.rM (h:ju w1 wr H gA cs vT vN vR ts ns rs an) (j:Nat) (u:Value):ju w1 (wr.setCell ⟨H,j,none⟩ u) H gA (cs.setIfInBounds j u) vT vN vR ts ns rs an:=by
 have hs:wr.grownBy (wr.setCell ⟨H,j,none⟩ u) (some H):=aF (AJ wr (some H)) j u;refine⟨AZ wr H j _ _ u h.h,AO h.t hs (aO h.t h.h (fun cur e=>by injection e with _ e;cases e)),AO h.nn hs (aO h.nn h.h (fun cur e=>by injection e with _ e;cases e)),(h.r.grown hs ?_).more hs.size,h.a.grown hs ?_,h.w.grown hs h.w.size (fun k e=>by injection e with e;rw[<-e];exact h.hH),h.hH,h.hA⟩
 ·intro g e;injection e with e;subst e;exact .inl ⟨aQ h.h (by decide),aQ h.h (by decide)⟩
 ·intro e;injection e with e
  have:=h.a
  unfold iF at this;rw[e,h.h]at this;injection this with this;injection this with _ this;cases this
theorem ju.yU (h:ju w1 wr H gA cs vT vN (.slice none 0 0) ts ns [] an) (j:Nat) (z:Int):ju w1 (wr.setCell ⟨gA,j,none⟩ (.int .i64 z)) H gA cs vT vN (.slice none 0 0) ts ns [] (an.set j z):=by
 have hs:wr.grownBy (wr.setCell ⟨gA,j,none⟩ (.int .i64 z)) (some gA):=aF (AJ wr (some gA)) j _;have ha:=h.a;unfold iF at ha;refine⟨(hs.block H (Ad.1 h.h).1 (fun e=>?_)).trans h.h,AO h.t hs (aO h.t ha (fun cur e=>by injection e with _ e;cases e)),AO h.nn hs (aO h.nn ha (fun cur e=>by injection e with _ e;cases e)),bA.nil _ _ _,h.a.jY j z,h.w.grown hs h.w.size (fun k e=>by injection e with e;rw[<-e];exact h.hA),h.hH,h.hA⟩;injection e with e;rw[<-e,h.h]at ha;injection ha with ha;injection ha with _ ha;cases ha
theorem ju.Fm (h:ju w1 wr H gA cs vT vN vR ts ns rs an) (ho:bK w' w1.heap.size v' ns') (hg:wr.grownBy w' vN.ownBlock):ju w1 w' H gA cs vT v' vR ts ns' rs an:=by
 have hn:=h.nn;have hh:=h.h;have ha:=h.a;unfold iF at ha;refine⟨qE hh hn (by decide) hg,AO h.t hg (aP h.t hn (by decide)),ho,(h.r.grown hg fun g e=>?_).more hg.size,?_,h.w.grown hg h.w.size (fun k e=>(aM hn e).1),h.hH,h.hA⟩
 ·obtain⟨_,cur,hc⟩:=aM hn e;exact .inl ⟨aQ hc (by decide),aQ hc (by decide)⟩
 ·exact qE ha hn (by decide) hg
theorem ju.yQ (h:ju w1 wr H gA cs vT vN vR ts ns rs an) (ho:bA w' w1.heap.size w'.heap.size v' rs') (hg:wr.grownBy w' vR.ownBlock):ju w1 w' H gA cs vT vN v' ts ns rs' an:=by
 obtain⟨qs,_,h2,_⟩:=id h.r;have hh:=h.h;have ha:=h.a;unfold iF at ha;exact⟨qE hh h2 (by decide) hg,AO h.t hg (aP h.t h2 (by decide)),AO h.nn hg (aP h.nn h2 (by decide)),ho,qE ha h2 (by decide) hg,h.w.grown hg h.w.size (fun k e=>(aM h2 e).1),h.hH,h.hA⟩
theorem ju.rd (h:ju w1 wr H gA cs vT vN vR ts ns rs an) (z:Int):aT wr wr.heap.size (.agg #[vT,vN,vR,.int .i64 z]) ⟨ts,ns,rs,z⟩:=by
 obtain⟨AT,cT,rfl,h1,h2⟩:=Gs h.t;obtain⟨AN,cN,rfl,h3,h4⟩:=Gh h.nn;obtain⟨AR,cR,rfl,h5,h6⟩:=Gt h.r (Af _);exact⟨AT,cT,AN,cN,AR,cR,rfl,h1,h3,h5,h2,h4,h6⟩
end
theorem L9 {o:Oper} {a:Act} {KK:Act->World->Prop} {Q:Exit->Act->World->Prop} (s x:Operand) (t:TypeId) (ho:o.op=.call {callee:=.builtin .append,args:=#[s,x],argTypes:=#[t,t]}) (ht:prog.underlying t=some (.slice 9)) (base:Nat) (v:Value) (ts:List (List Int)) (hs:a.eval s=v) (ab:bK w base v ts) (g c:Nat) (y:List Int) (hx:a.eval x=.slice (some ⟨g,0,none⟩) 1 c) (hz:w.cell? ⟨g,0,none⟩=some (.string (K.str y))) (ac:ts.length<=1000000) (aa:base<=w.heap.size) (hK:∀v' w',bK w' base v' (ts++[y])->w.grownBy w' v.ownBlock->KK (a.put o.dst v') w') :
  o.wp prog a w KK Q:=by
 obtain⟨i,hi,ad,ae,af⟩:=Cs IX;refine EC w s x t ho base 9 i _ 1 16 ht hi ad ae af rfl (by decide) v ts.length (tI ts) hs ab ⟨g,0,none⟩ 1 c [.string (K.str y)] hx rfl ?_ ?_ (by unfold maxLen;omega) (by omega) aa fun v' w' h1 h2 _=>hK v' w' ?_ h2
 ·intro j u hj;rw[rX,BG];rcases j with _|j
  ·simp at hj;rw[<-hj];exact hz
  ·simp at hj
 ·intro u hu;simp at hu;rcases hu with rfl;rfl
 ·unfold bK tI;rw[AW,Bf];exact h1
theorem Gm.yi (h:Gm.Ok G) {x:Gm.Rl} (hx:x∈Gm.iC G):(⟨(Gm.lH G.ns.length (Gm.fu G)).getD x.l.toNat 0,x.r.map (Gm.rY (Gm.lH G.ns.length (Gm.fu G))),x.p⟩:Gm.Rl)=Gm.re (Gm.fu G) x:=by
 have aa:=(Gm.iJ.1 hx).1;have hl:=h.iT x aa;unfold Gm.re
 congr 1
 ·rw[Gm.ow (by omega),BI hl.1,AC (Gm.qw hx)]
 ·refine List.map_congr_left fun z hz=>?_;unfold Gm.rY Gm.mc;by_cases h0:z<0
  ·have:=h.sin x aa z hz h0
   rw[AC h0,AC h0,Gm.ow (by omega),BI (by omega),AC (Gm.ph hx hz h0)]
  ·rw[AI h0,AI h0]
theorem Gm.uw (h:k<(Gm.kl G G.rs.length).length):∃i:Nat,(Gm.kl G G.rs.length)[k]=(i:Int)/\∃hi:i<G.rs.length,∃hk:k<(Gm.iC G).length,(Gm.iC G)[k]=G.rs[i]:=by
 have e:Gm.kl G G.rs.length=(Gm.kept G).map fun j:Nat=>(j:Int):=rfl;have h2:k<(Gm.kept G).length:=by rw[e,Bh]at h;exact h
 have h3:=Gm.wH (AE h2);refine⟨(Gm.kept G)[k],by simp[e],h3,by rw[<-Gm.k9];exact h2,Gm.wG k h2 h3⟩
theorem Gm.ux (G:Gm.Gr):(Gm.kl G G.rs.length).length=(Gm.iC G).length:=by rw[<-Gm.k9,Gm.yx,Bh]
theorem Gm.mm (G:Gm.Gr):(Gm.iC G).length<=G.rs.length:=Cd _ _
def vD (w:World) (base:Nat) (v:Value) (G:Gm.Gr):Prop:=∃vT vN vR,v=.agg #[vT,vN,vR,.int .i64 G.st]/\bB w base vT G.ts/\bK w base vN G.ns/\bA w base w.heap.size vR G.rs
theorem vD.rd (h:vD w base v G):aT w w.heap.size v G:=by
 obtain⟨vT,vN,vR,rfl,h1,h2,h3⟩:=h;obtain⟨AT,cT,rfl,a1,a2⟩:=Gs h1;obtain⟨AN,cN,rfl,a3,a4⟩:=Gh h2;obtain⟨AR,cR,rfl,a5,a6⟩:=Gt h3 (Af _);exact⟨AT,cT,AN,cN,AR,cR,rfl,a1,a3,a5,a2,a4,a6⟩
theorem IF {e:TypeId} {size:Nat} {row:Option Nat} (h:w.ownsRow base e size v n xs) (hg:w.grownBy w' row) (hr:∀g,row=some g->g<base):w'.ownsRow base e size v n xs :=
 AO h hg (by
  cases hv:v.ownBlock with
  | none=>exact .inl rfl
  | some k=>exact .inr (fun e=>by have:=(aM h hv).1;have:=hr k e.symm;omega))
theorem vD.grown {row:Option Nat} (h:vD w base v G) (hg:w.grownBy w' row) (hr:∀g,row=some g->g<base):vD w' base v G:=by
 obtain⟨vT,vN,vR,rfl,h1,h2,qs,a1,a2,a3,a4⟩:=h;refine⟨vT,vN,vR,rfl,IF h1 hg hr,IF h2 hg hr,qs,a1,IF a2 hg hr,fun k hk=>Ah (a3 k hk) hg.size,fun q hq=>⟨(a4 q hq).1,(a4 q hq).2.1,fun hn=>?_⟩⟩;obtain⟨g,cur,e,hb,hN,hh,hc⟩:=(a4 q hq).2.2 hn;exact⟨g,cur,e,hb,Ah hN hg.size,(hg.block g (Ad.1 hh).1 (fun e=>by have:=hr g e.symm;omega)).trans hh,hc⟩
theorem vD.less (h:vD w base v G) (hb:base'<=base):vD w base' v G:=by
 obtain⟨vT,vN,vR,rfl,h1,h2,qs,a1,a2,a3,a4⟩:=h;refine⟨vT,vN,vR,rfl,xT h1 hb,xT h2 hb,qs,a1,xT a2 hb,a3,fun q hq=>⟨(a4 q hq).1,(a4 q hq).2.1,fun hn=>?_⟩⟩;obtain⟨g,cur,e,aa,hN,hh⟩:=(a4 q hq).2.2 hn;exact⟨g,cur,e,Aj hb aa,hN,hh⟩
theorem iF.row (h:iF w g zs) (hb:base<=g):sS w base w.heap.size (some ⟨g,0,none⟩) zs:=fun _ =>
 ⟨g,_,rfl,hb,h.lt,h,fun j hj=>by simp[hj]⟩
theorem Gm.yj (h:Gm.Ok G) (n i:Nat) (hi:i<n):0<=(Gm.lH n (Gm.fu G)).getD i 0/\(Gm.lH n (Gm.fu G)).getD i 0<=1000:=by
 rw[Gm.ow hi];split
 ·rename_i hm
  have h1:=Gm.kL hm;have h2:=Gm.oV h;have h3:=(Gm.fG G).1 h.n;omega
 ·omega
theorem Gm.pR (h:k<(Gm.iC G).length):((Gm.iC G).take (k+1)).map (Gm.re (Gm.fu G))=((Gm.iC G).take k).map (Gm.re (Gm.fu G))++[Gm.re (Gm.fu G) (Gm.iC G)[k]]:=by
 rw[AL h,Bf,EF]
theorem Nc (v:Value) (G:Gm.Gr) (B BK:Nat) (AK:Option Addr) (cK:Nat) (w:World) (hg:aT w B v G) (hf:Gm.Fit G) (ab:Gm.Ok G) (hp:Gm.Gn true G.rs G.st) (hB:B<=w.heap.size) (hk:gd w BK AK (Gm.kl G G.rs.length)) (b9:BK<=w.heap.size) :
  Calls prog 99 #[v,.slice AK (Gm.kl G G.rs.length).length cK] w fun e w'=>∃g,e=.returned g/\vD w' w.heap.size g (Gm.reduce G)/\Below w.heap.size w w':=by
 obtain⟨AT,cT,AN,cN,AR,cR,rfl,_,⟨c5,c6⟩,_,hT,hN,hR⟩:=hg;obtain⟨w1,ac⟩:∃y,y=(w.alloc (.cells #[.slice AT G.ts.length cT,.slice AN G.ns.length cN,.slice AR G.rs.length cR,.int .i64 G.st] 26)).alloc (.cells #[.slice none 0 0,.slice none 0 0,.slice none 0 0,.int .i64 0] 26):=⟨_,rfl⟩
 have ca:w1.heap.size=w.heap.size+2:=by rw[ac];simp
 have bc:Hid (Below w.heap.size w w1):=aA (by rw[ac];exact((AB _ w).alloc (Af _) _).alloc (by simp) _);have cb:Hid (w1.heap[w.heap.size]?=some (.cells #[.slice AT G.ts.length cT,.slice AN G.ns.length cN,.slice AR G.rs.length cR,.int .i64 G.st] 26 (0,0))):=aA (by rw[ac,Bs _ _ _ (by simp)];exact AG w _);have cH:Hid (w1.heap[w.heap.size+1]?=some (.cells #[.slice none 0 0,.slice none 0 0,.slice none 0 0,.int .i64 0] 26 (0,0))):=aA (by rw[ac];have:=AG (w.alloc (.cells #[.slice AT G.ts.length cT,.slice AN G.ns.length cN,.slice AR G.rs.length cR,.int .i64 G.st] 26)) (.cells #[.slice none 0 0,.slice none 0 0,.slice none 0 0,.int .i64 0] 26);simpa using this);have ag:=aA ca;have V:=aA ab;have cI:=aA hf;have cJ:=aA hp;have ah:Hid (G.ns.length<=40):=aA (by have:=(Gm.fG G).1 ab.n;omega);have bd:Hid (G.ts.length<=24):=aA (by have:=ab.t;unfold Gm.gU at this;rw[Bb]at this;exact Cy this.1);have bf:Hid (G.rs.length<=40):=aA ab.kz;have a3:Hid ((Gm.kl G G.rs.length).length=(Gm.iC G).length):=aA (Gm.ux G);have HB:=aA hB;have cc:=aA (fun(y:World) (h:Below w.heap.size w y)=>hR.fp fun g o hg=>h.cell (p:=⟨g,o,none⟩) (Ah hg hB));have cL:=aA (fun(y:World) (h:Below w.heap.size w y)=>hN.fp fun g o hg=>h.cell (p:=⟨g,o,none⟩) (Ah hg hB));have bg:=aA (fun(y:World) (h:Below w.heap.size w y)=>hk.below h b9);have ad:=aA (fun(y:World) (h:Below w1.heap.size w1 y)=>bc.o.trans (h.mono (by omega)));have cd:=aA (OZ AT cT w.heap.size G.ts w1 ((hT.fp fun g o hg=>bc.o.cell (p:=⟨g,o,none⟩) (Ah hg hB)).more hB) (by omega) (by have:=bd.o;omega));have HQ:=aA (fun(y:World) (h:Below w1.heap.size w1 y)=>(h.block w.heap.size (by omega)).trans cb.o);have c0:=aS cb.o;have c7:w.heap.size<w1.heap.size:=by omega
 have cM:(G.ns.length:Int)<=9223372036854775807:=by omega
 have ai:((Gm.kl G G.rs.length).length:Int)<=9223372036854775807:=by have:=a3.o;have:=Gm.mm G;have:=ab.kz;omega
 have c8:=ah.o;clear hT hN hR ca ab hf hp hB hk b9;obtain⟨ks,hL⟩:∃ks,ks=Gm.kl G G.rs.length:=⟨_,rfl⟩
 rw[<-hL]at bg a3 ai ⊢;have HL:=aA hL;clear hL
 go_enter func99,ntmps99
 go_upto_region 1 with fail
 rw[<-ac];clear ac;go_upto_region 2 with fail
 refine cd.o.mono ?_;rintro _ w2 ⟨v2,rfl,bi,ce⟩;obtain⟨A2,c2,rfl,_,_⟩:=aN bi;have cf:=aA bi;have a4:=aA ce;clear bi ce cd c0;go_upto_region 2 with fail
 obtain⟨w3,aj⟩:∃y,y=w2.alloc (.cells #[.slice A2 G.ts.length c2,.slice none 0 0,.slice none 0 0,.int .i64 0] 26):=⟨_,rfl⟩
 have ak:Hid (Below w1.heap.size w1 w3):=aA (by rw[aj];exact a4.o.alloc a4.o.size _);have cg:Hid (bB w3 w1.heap.size (.slice A2 G.ts.length c2) G.ts):=aA (by rw[aj];exact C5 cf.o _);have bj:Hid (w3.heap[w2.heap.size]?=some (.cells #[.slice A2 G.ts.length c2,.slice none 0 0,.slice none 0 0,.int .i64 0] 26 (0,0))):=aA (by rw[aj];exact AG w2 _);rw[<-aj];clear aj cf;have c1:=aX (HQ.o w3 ak.o);have l3:=Bj c1;go_upto_region 3 with(at_make;refine IJ rfl (.tmp 19) (.tmp 19) _ rfl underlying38 G.ns.length _ _ rfl rfl rfl rfl (by omega) ?_;intro w4 ch a5 bk)
 have al:=aA (ak.o.trans (a5.mono ak.o.size));have bl:=aA ch;have ci:Hid (bB w4 w1.heap.size (.slice A2 G.ts.length c2) G.ts):=aA (AO cg.o (aK a5 .none) (vB _));have cj:=aA (aC a5 bj.o);have ck:Hid (w1.heap.size<=w3.heap.size):=aA ak.o.size;have cl:Hid (w2.heap.size<w3.heap.size):=aA (Ad.1 bj.o).1;clear ch a5 c1 l3 cg bj ak;have c1:=aX (HQ.o w4 al.o);have l4:=Bj c1;go_upto_region 4 with(at_make;refine GC rfl (.tmp 23) (.tmp 23) _ rfl underlying43 G.ns.length _ _ rfl rfl rfl rfl (by omega) ?_;intro w5 cm am bm)
 have bo:Hid (ju w1 w5 w2.heap.size w3.heap.size #[.slice A2 G.ts.length c2,.slice none 0 0,.slice none 0 0,.int .i64 0] (.slice A2 G.ts.length c2) (.slice none 0 0) (.slice none 0 0) G.ts (Gm.gY G (Gm.oK G 0)) [] (Gm.lH G.ns.length (Gm.oK G 0))):=aA
  ⟨aC am cj.o,AO ci.o (aK am .none) (vB _),bK.nil _ _,bA.nil _ _ _,by rw[show Gm.oK G 0=[] from rfl,Gm.vO];exact bl.o.below am bl.o.lt,al.o.trans (am.mono al.o.size),a4.o.size,ck.o⟩
 have bp:Hid (fL w5 w4.heap.size (Gm.qJ G.ns.length (Gm.oK G 0))):=aA (by rw[show Gm.oK G 0=[] from rfl,Gm.wg];exact cm);have br:Hid (w1.heap.size<=w4.heap.size):=aA al.o.size;have ao:Hid (w2.heap.size≠w4.heap.size):=aA (by have:=cl.o;omega);obtain⟨vT,bs⟩:∃v,v=Value.slice A2 G.ts.length c2:=⟨_,rfl⟩
 obtain⟨H,hH⟩:∃x,x=w2.heap.size:=⟨_,rfl⟩
 obtain⟨gA,bu⟩:∃x,x=w3.heap.size:=⟨_,rfl⟩
 obtain⟨gC,a6⟩:∃x,x=w4.heap.size:=⟨_,rfl⟩
 rw[<-bs,<-hH,<-bu]at bo;rw[<-a6]at bp br;rw[<-hH,<-a6]at ao;rw[<-bs,<-hH,<-bu,<-a6];clear bs hH bu a6 cm am c1 l4 bk bm bl ci cj al a4 ck cl;go_wp2;go_loopw [27] (fun vk wr=>∃(k:Nat) (vN:Value),k<=ks.length/\vk=.int .i64 k/\Hid (ju w1 wr H gA #[vT,vN,.slice none 0 0,.int .i64 0] vT vN (.slice none 0 0) G.ts (Gm.gY G (Gm.oK G k)) [] (Gm.lH G.ns.length (Gm.oK G k)))/\Hid (fL wr gC (Gm.qJ G.ns.length (Gm.oK G k)))) (fun vk _=>ks.length-(intOf vk).toNat)
 case atStart=>exact⟨0,_,AV _,rfl,bo,bp⟩
 case round =>
  clear bo bp;obtain⟨k,vN,hk,rfl,HS,HC⟩:=hrel;by_cases N:k<ks.length
  ·obtain⟨gk,ok,rfl,cO,ap⟩:=bg.o wr (ad.o wr HS.o.w) (by omega);have kk:=ap k N;rw[L.fy N]at kk;have lk:=Bj kk;obtain⟨i,aq,hi,hkk,ar⟩:=Gm.uw (G:=G) (k:=k) (by rw[<-HL.o];exact N);have O:ks[k]=(i:Int):=by simp only[HL.o];exact aq
   rw[O]at kk;have au:=aA (Gm.wP hkk);rw[ar]at au;obtain⟨g,o,rfl,cP,hc⟩:=cc.o wr (ad.o wr HS.o.w) (by omega);have k0:=(hc i hi).1;have lg:=Bj k0;have aw:=V.o.iT _ (AE hi);have q1:=aX (HQ.o wr HS.o.w);have q2:=aY (HQ.o wr HS.o.w);have lq:=Bj q2;have cQ:=aA (Gm.yF V.o k);generalize (G.rs[i]).l=l at *;obtain⟨m,rfl⟩:∃m:Nat,l=(m:Int):=⟨l.toNat,by omega⟩
   have c9:=aw.2;have ae:m<G.ns.length:=by omega
   have cn:(i:Int)<(G.rs.length:Int):=by omega
   have km:=HC.o.cell m (by rw[Gm.sb];exact ae);rw[Gm.yq ae]at km;have lc:=HC.o.lt;clear ap hc ar hkk aq O aw;by_cases Z:(m:Int)∈Gm.oK G k
   ·rw[AQ Z]at km;have HX:=aA (au.o.trans (AC Z));clear au Z;go_wp2;go_roundw
    case rel=>exact⟨k+1,vN,N,by go_num,by rw[HX.o];exact HS,by rw[HX.o];exact HC⟩
    case measure=>simp[intOf];omega
   ·rw[AM Z]at km;have HX:=aA (au.o.trans (AI Z));have cS:=aA Z;clear au Z;have co:Hid (Gm.gY G (Gm.oK G (k+1))=Gm.gY G (Gm.oK G k)++[G.ns.getD m []]):=aA (by rw[HX.o];simp[Gm.gY]);obtain⟨A',c',rfl,_,_⟩:=aN HS.o.nn;go_upto_region 9 with fail
    clear kk lk k0 lg q1 q2 lq km lc cn;have bh:=fun y:Calm.kO H wr=>aX (y.2.trans HS.o.h);refine CalmN.fk (fun x=>∃y:Calm.kO H wr,x=y.1) (.one [0,1,2,3,4,5,6,7] 8 (.one [9] 10 (.fin []))) (by kernel_rfl) (by kernel_rfl) (fun _ _ d _ _ h=>by cases d <;> exact h) ⟨⟨wr.drew,rfl⟩,rfl⟩ ?_;simp only[CalmN.fN,CalmN.fv,CalmN.fo,Az,Am,Ap];repeat (go_big_quiet_step (fail))
    refine Aw ?_;clear bh;have bv:=aA HS.o.drew;have aa:=aA (HC.o.drew);have bw:wr.drew.heap[H]?=wr.heap[H]?:=rfl;obtain⟨wd,cp⟩:∃y,y=wr.drew:=⟨_,rfl⟩
    rw[<-cp]at bv aa bw ⊢;clear cp;have kc:=aa.o.cell m (by rw[Gm.sb];exact ae);have fc:=aa.o.frozen m;have lc:=aa.o.lt;have ax:(wd.setCell ⟨gC,m,none⟩ (.bool true)).heap[H]?=wr.heap[H]?:=(AU wd ⟨gC,m,none⟩ (.bool true) H ao.o).trans bw;have X:=aA (bv.o.set aa.o (by decide) (by decide) (by decide) (by decide) (fun e=>ao.o e.symm) br.o m (.bool true));have a9:Hid (fL (wd.setCell ⟨gC,m,none⟩ (.bool true)) gC (Gm.qJ G.ns.length (Gm.oK G (k+1)))):=aA (by rw[HX.o,<-Gm.tY];exact aa.o.jY m true);intro KK f;rw[AC (by rfl)];go_wp2_with fail
    refine f _ _ ⟨⟨_,ax⟩,rfl⟩ _ (fun _ h=>h) ⟨⟨_,ax⟩,rfl⟩ ?_;obtain⟨w6,cq⟩:∃y,y=wd.setCell ⟨gC,m,none⟩ (.bool true):=⟨_,rfl⟩
    rw[<-cq]at X a9 ax ⊢;clear cq kc fc lc bv aa bw f;repeat (go_big_quiet_step (fail))
    refine Aw ?_;have ka:=X.o.a.cell m (by rw[Gm.j8];exact ae);have fa:=X.o.a.frozen m;have la:=X.o.a.lt;have cr:H≠gA:=fun e=>by have h1:=X.o.h;have h2:=X.o.a;unfold iF at h2;rw[<-e,h1]at h2;injection h2 with h2;injection h2 with _ h2;cases h2
    have cs:gC≠gA:=fun e=>by have h1:=a9.o;have h2:=X.o.a;unfold fL at h1;unfold iF at h2;rw[<-e,h1]at h2;injection h2 with h2;injection h2 with _ h2;cases h2
    have bx:(Gm.gY G (Gm.oK G k)).length=(Gm.oK G k).length:=by simp[Gm.gY]
    have bz:(w6.setCell ⟨gA,m,none⟩ (.int .i64 (Gm.gY G (Gm.oK G k)).length)).heap[H]?=wr.heap[H]?:=(AU w6 ⟨gA,m,none⟩ _ H cr).trans ax
    have ay:Hid (ju w1 (w6.setCell ⟨gA,m,none⟩ (.int .i64 (Gm.gY G (Gm.oK G k)).length)) H gA #[vT,.slice A' (Gm.gY G (Gm.oK G k)).length c',.slice none 0 0,.int .i64 0] vT (.slice A' (Gm.gY G (Gm.oK G k)).length c') (.slice none 0 0) G.ts (Gm.gY G (Gm.oK G k)) [] (Gm.lH G.ns.length (Gm.oK G (k+1)))):=aA (by
     have q:=X.o.yU m ((Gm.gY G (Gm.oK G k)).length:Int);rw[bx]at q;rw[HX.o,<-Gm.tX cS.o];rw[bx];exact q)
    have bD:=aA (a9.o.jr (p:=⟨gA,m,none⟩) cs (.int .i64 (Gm.gY G (Gm.oK G k)).length));clear bx cr cs;intro KK f;rw[AC (by rfl)];go_wp2_with fail
    refine f _ _ ⟨⟨_,bz⟩,rfl⟩ _ (fun _ h=>h) ⟨⟨_,bz⟩,rfl⟩ ?_;obtain⟨w7,cu⟩:∃y,y=w6.setCell ⟨gA,m,none⟩ (.int .i64 (Gm.gY G (Gm.oK G k)).length):=⟨_,rfl⟩
    rw[<-cu]at ay bD ⊢;clear cu ka fa la X a9 ax bz f;refine Aw ?_;go_upto_region 10 with fail
    obtain⟨gN,oN,rfl,da,cv⟩:=cL.o w7 (ad.o w7 ay.o.w) (by omega);have kN:=cv m ae;rw[show G.ns[m]=G.ns.getD m [] by rw[Ag,AD ae];rfl]at kN;obtain⟨nm,cw⟩:∃s,s=G.ns.getD m []:=⟨_,rfl⟩
    rw[<-cw]at kN co;clear cw;have af:gN<w1.heap.size:=by have:=HB.o;have:=ag.o;omega
    have bN:=fun y:Calm.On w1.heap.size w1=>(y.2.cell (p:=⟨gN,oN+m,none⟩) af).trans ((ay.o.w.cell (p:=⟨gN,oN+m,none⟩) af).symm.trans kN);have bq:=fun y:Calm.On w1.heap.size w1=>aX (HQ.o y.1 y.2);have E:=aA ay.o.drew;have cx:=aA bD.o.drew;refine CalmN.fk (fun x=>∃y:Calm.On w1.heap.size w1,x=y.1) (.two [0,2,3,4,5,6] 1 (.one [] 7 (.one [] 8 (.one [9] 10 (.fin [])))) 7 (.one [] 1 (.one [] 8 (.one [9] 10 (.fin []))))) (by kernel_rfl) (by kernel_rfl) (fun _ _ d _ _ h=>by cases d <;> exact h) ⟨⟨w7.drew,E.o.w⟩,rfl⟩ ?_;simp only[CalmN.fN,CalmN.fv,CalmN.fo,Az,Am,Ap];repeat (go_big_quiet_step (fail))
    refine Aw ?_;clear bN bq kN cv;obtain⟨w8,az⟩:∃y,y=w7.drew:=⟨_,rfl⟩
    rw[<-az]at E cx ⊢;clear az ay bD;have F:=aA (E.o.alloc (.cells #[.string (K.str nm)] 9));have cU:=aA (cx.o.alloc (.cells #[.string (K.str nm)] 9));have cV:Hid ((w8.alloc (.cells #[.string (K.str nm)] 9)).cell? ⟨w8.heap.size,0,none⟩=some (.string (K.str nm))):=aA (C8 _ _ _ 0);have n8:=AF w8 _ 1 _ _ _ E.o.h;have n9:=AF _ _ 1 _ _ _ F.o.h;have lh8:=(Ad.1 E.o.h).1;have lh9:=(Ad.1 F.o.h).1;refine⟨?_,?_⟩
    focus
     intro KK f;rw[AC (by rfl)];go_wp2_with fail
     refine f _ _ ⟨⟨_,E.o.w⟩,rfl⟩ _ (fun _ h=>h) ⟨⟨_,E.o.w⟩,rfl⟩ ?_
    rotate_left
    focus
     intro KK f;rw[AC (by rfl)];go_wp2_with fail
     refine f _ _ ⟨⟨_,F.o.w⟩,rfl⟩ _ (fun _ h=>h) ⟨⟨_,F.o.w⟩,rfl⟩ ?_
    all_goals
     refine Aw ?_;intro KK f;rw[AC (by rfl)];go_wp2_with fail
     refine f _ _ ⟨⟨_,F.o.w⟩,rfl⟩ _ (fun _ h=>h) ⟨⟨_,F.o.w⟩,rfl⟩ ?_;refine Aw ?_;intro KK f;rw[AC (by rfl)];refine L9 (.tmp 52) (.tmp 58) _ rfl underlying23 w1.heap.size _ _ rfl F.o.nn w8.heap.size 1 _ rfl cV.o (by have:=cQ.o;have:=ah.o;unfold Gm.gY;rw[Bh];omega) F.o.w.size ?_;intro v' w10 A D;have b:=aA (F.o.Fm A D);have bM:Hid (fL w10 gC (Gm.qJ G.ns.length (Gm.oK G (k+1)))):=aA (qE cU.o F.o.nn (by decide) D);obtain⟨A10,c10,rfl,_,_⟩:=aN A;clear A D;obtain⟨n10,I⟩:∃n,n=(Gm.gY G (Gm.oK G k)++[nm]).length:=⟨_,rfl⟩
     rw[<-I]at b ⊢;clear I;refine f _ _ ⟨⟨w10,b.o.w⟩,rfl⟩ _ (fun _ h=>h) ⟨⟨w10,b.o.w⟩,rfl⟩ ?_
     go_frame
     repeat (go_big_quiet_step (fail))
     refine Aw ?_;intro KK f;rw[AC (by rfl)];have j1:=AF w10 _ 1 _ _ _ b.o.h;have f1:=AH w10 _ 1 _ _ b.o.h;have lh:=(Ad.1 b.o.h).1;have C:=aA (b.o.rM 1 (.slice A10 n10 c10));have bT:=aA (fL.jr bM.o (p:=⟨H,1,none⟩) (fun e=>ao.o e.symm) (.slice A10 n10 c10));go_wp2_with fail
     refine f _ _ ⟨⟨_,C.o.w⟩,rfl⟩ _ (fun _ h=>h) ⟨⟨_,C.o.w⟩,rfl⟩ ?_;clear j1 f1 lh;refine Aw ?_;go_wp2;go_roundw
     case rel=>exact⟨k+1,_,N,by go_num,by rw[<-co.o,HX.o]at C;rw[HX.o];exact C,bT⟩
     case measure=>simp[intOf];omega
  ·obtain rfl:k=ks.length:=by omega
   have cW:Hid (Gm.oK G ks.length=Gm.fu G):=aA (by rw[a3.o];exact Gm.yE G);rw[cW.o]at HS;clear HC br ao;go_wp2;go_loopw [64] (fun vk wr=>∃(k:Nat) (vR:Value),k<=ks.length/\vk=.int .i64 k/\Hid (ju w1 wr H gA #[vT,vN,vR,.int .i64 0] vT vN vR G.ts (Gm.gY G (Gm.fu G)) (((Gm.iC G).take k).map (Gm.re (Gm.fu G))) (Gm.lH G.ns.length (Gm.fu G)))) (fun vk _=>ks.length-(intOf vk).toNat)
   case atStart=>exact⟨0,_,AV _,rfl,HS⟩
   case round =>
    clear HS N;obtain⟨k,vR,hk,rfl,HS⟩:=hrel;by_cases N:k<ks.length
    ·obtain⟨gk,ok,rfl,cO,ap⟩:=bg.o wr (ad.o wr HS.o.w) (by omega);have kk:=ap k N;rw[L.fy N]at kk;have lk:=Bj kk;obtain⟨i,aq,hi,hkk,ar⟩:=Gm.uw (G:=G) (k:=k) (by rw[<-HL.o];exact N);have O:ks[k]=(i:Int):=by simp only[HL.o];exact aq
     rw[O]at kk;have bX:=aA (Gm.pR hkk);have b3:(Gm.iC G)[k]∈Gm.iC G:=AE hkk;rw[ar]at bX b3;have ba:=aA (Gm.yi V.o b3);have a0:G.rs[i]∈G.rs:=AE hi;have e:=cI.o.r _ a0;have aw:=V.o.iT _ a0;have cX:=(Gm.fJ (V.o.rr _ a0)).1;obtain⟨g,o,rfl,cP,hc⟩:=cc.o w1 bc.o (by omega);obtain⟨k0,⟨A',c',k1,_,_,cy⟩,k2⟩:=hc i hi;have bb:=aA (fun(y:World) (h:Below w1.heap.size w1 y) (hu:iF y gA (Gm.lH G.ns.length (Gm.fu G)))=>M6 G.rs[i] (Gm.lH G.ns.length (Gm.fu G)) A' (some ⟨gA,0,none⟩) c' G.ns.length B y.heap.size y (cy.fp fun g o hg=>h.cell (p:=⟨g,o,none⟩) (by have:=HB.o;have:=ag.o;simp only;omega)) (hu.o4 hu.lt) (Aj HB.o (ad.o y h).size) (Af _) e.2.2 (fun z hz h0=>by rw[Gm.j8];exact V.o.sin _ a0 z hz h0) (by rw[Gm.j8];exact aw) (by omega) (fun i hi=>Gm.yj V.o _ i (by rwa [Gm.j8]at hi)));rw[Gm.j8]at bb;have af:g<w1.heap.size:=by have:=HB.o;have:=ag.o;omega
     have cz:Hid (((Gm.iC G).take k).length<=40):=aA (by rw[Bd];have:=Gm.mm G;have:=bf.o;omega);generalize G.rs[i]=x at *;obtain⟨l,r,pz⟩:=x;simp only at k0 k1 k2 bb ba cX;have cn:(i:Int)<(G.rs.length:Int):=by omega
     go_upto_region 15 with fail
     have b0:=fun y:Calm.On w1.heap.size w1=>(y.2.cell (p:=⟨g,o+i*3,none⟩) af).trans k0;have b1:=fun y:Calm.On w1.heap.size w1=>(y.2.cell (p:=⟨g,o+i*3+1,none⟩) af).trans k1;have b2:=fun y:Calm.On w1.heap.size w1=>(y.2.cell (p:=⟨g,o+i*3+2,none⟩) af).trans k2;have bq:=fun y:Calm.On w1.heap.size w1=>aY (HQ.o y.1 y.2);have E:=aA HS.o.drew;clear kk lk ap hc cy hkk ar aq O b3 a0 e aw k0 k1 k2;refine CalmN.fk (fun x=>∃y:Calm.On w1.heap.size w1,x=y.1) (.two [0,2,3,4,5,6,7] 1 (.one [] 8 (.one [] 9 (.one [] 10 (.one [11] 12 (.fin []))))) 8 (.two [] 1 (.one [] 9 (.one [] 10 (.one [11] 12 (.fin [])))) 9 (.one [] 1 (.one [] 10 (.one [11] 12 (.fin [])))))) (by kernel_rfl) (by kernel_rfl) (fun _ _ d _ _ h=>by cases d <;> exact h) ⟨⟨wr.drew,E.o.w⟩,rfl⟩ ?_;simp only[CalmN.fN,CalmN.fv,CalmN.fo,Az,Am,Ap];repeat (go_big_quiet_step (fail))
     refine Aw ?_;clear b0 b1 b2 bq;obtain⟨w8,az⟩:∃y,y=wr.drew:=⟨_,rfl⟩
     rw[<-az]at E ⊢;clear az HS;have n8:=AF w8 _ 2 _ _ _ E.o.h;have lh8:=(Ad.1 E.o.h).1;obtain⟨av,cA⟩:∃a,a=(Gm.lH G.ns.length (Gm.fu G)).getD l.toNat 0:=⟨_,rfl⟩
     rw[<-cA]at bb ba;clear cA;refine⟨?_,?_⟩
     focus
      intro KK f;rw[AC (by rfl)];go_wp2_with fail
      refine f _ _ ⟨⟨_,E.o.w⟩,rfl⟩ _ (fun _ h=>h) ⟨⟨_,E.o.w⟩,rfl⟩ ?_;refine Aw ?_
     rotate_left
     rotate_left
     all_goals
      intro KK f;rw[AC (by rfl)];go_wp2_with fail
      refine(bb.o w8 E.o.w E.o.a).mono ?_;rintro _ w9 ⟨g9,rfl,cB,cC,cD⟩;have F:=aA (E.o.below cD);have cE:=aA cC;have cF:=aA (Aj E.o.w.size cB);have n9:=AF w9 _ 2 _ _ _ F.o.h;have lh9:=(Ad.1 F.o.h).1;have J:=aA (F.o.alloc (.cells #[.int .i64 av,.slice (some ⟨g9,0,none⟩) r.length r.length,.int .i64 pz] 48));have na:=AF _ _ 2 _ _ _ J.o.h;have lha:=(Ad.1 J.o.h).1;clear cD cC cB;go_wp2_with fail
      refine f _ _ ⟨⟨w9,F.o.w⟩,rfl⟩ _ (fun _ h=>h) ⟨⟨w9,F.o.w⟩,rfl⟩ ?_;refine Aw ?_
     focus
      intro KK f;rw[AC (by rfl)];go_wp2_with fail
      refine f _ _ ⟨⟨_,J.o.w⟩,rfl⟩ _ (fun _ h=>h) ⟨⟨_,J.o.w⟩,rfl⟩ ?_;refine Aw ?_;intro KK f;rw[AC (by rfl)];have U:=(cE.o.alloc (.cells #[.int .i64 av,.slice (some ⟨g9,0,none⟩) r.length r.length,.int .i64 pz] 48)).row cF.o
      have a1:∀j u,(pC (⟨av,r.map (Gm.rY (Gm.lH G.ns.length (Gm.fu G))),pz⟩,some ⟨g9,0,none⟩,r.length))[j]?=some u->(w9.alloc (.cells #[.int .i64 av,.slice (some ⟨g9,0,none⟩) r.length r.length,.int .i64 pz] 48)).cell? ⟨w9.heap.size,j,none⟩=some u:=fun j u hj=>by
       have h:=tS w9 [.int .i64 av,.slice (some ⟨g9,0,none⟩) r.length r.length,.int .i64 pz] 48 j;refine h.trans ?_
       simpa[pC] using hj
      refine IS (.tmp 69) (.tmp 77) _ rfl underlying24 w1.heap.size _ _ _ rfl J.o.r w9.heap.size 1 (⟨av,r.map (Gm.rY (Gm.lH G.ns.length (Gm.fu G))),pz⟩,some ⟨g9,0,none⟩,r.length) rfl a1 ⟨by simp,by simp only;omega,U⟩ (by have:=cz.o;rw[Bh];omega) J.o.w.size (Af _) ?_;intro v' w10 A D;rw[ba.o,<-bX.o]at A;have b:=aA (J.o.yQ A D);obtain⟨A10,c10,rfl,_,_⟩:=xi A;clear A D;obtain⟨n10,I⟩:∃n,n=(((Gm.iC G).take (k+1)).map (Gm.re (Gm.fu G))).length:=⟨_,rfl⟩
      rw[<-I]at b ⊢;clear I a1 U;refine f _ _ ⟨⟨w10,b.o.w⟩,rfl⟩ _ (fun _ h=>h) ⟨⟨w10,b.o.w⟩,rfl⟩ ?_
      go_frame
      repeat (go_big_quiet_step (fail))
      refine Aw ?_;intro KK f;rw[AC (by rfl)];have j2:=AF w10 _ 2 _ _ _ b.o.h;have f2:=AH w10 _ 2 _ _ b.o.h;have lh:=(Ad.1 b.o.h).1;have C:=aA (b.o.rM 2 (.slice A10 n10 c10));go_wp2_with fail
      refine f _ _ ⟨⟨_,C.o.w⟩,rfl⟩ _ (fun _ h=>h) ⟨⟨_,C.o.w⟩,rfl⟩ ?_;clear j2 f2 lh;refine Aw ?_;go_wp2;go_roundw
      case rel=>exact⟨k+1,_,N,by go_num,C⟩
      case measure=>simp[intOf];omega
     focus
      refine⟨?_,?_⟩
      focus
       intro KK f;rw[AC (by rfl)];go_wp2_with fail
       refine f _ _ ⟨⟨_,F.o.w⟩,rfl⟩ _ (fun _ h=>h) ⟨⟨_,F.o.w⟩,rfl⟩ ?_
      rotate_left
      focus
       intro KK f;rw[AC (by rfl)];go_wp2_with fail
       refine f _ _ ⟨⟨_,J.o.w⟩,rfl⟩ _ (fun _ h=>h) ⟨⟨_,J.o.w⟩,rfl⟩ ?_
      all_goals
       refine Aw ?_;intro KK f;rw[AC (by rfl)];go_wp2_with fail
       refine f _ _ ⟨⟨_,J.o.w⟩,rfl⟩ _ (fun _ h=>h) ⟨⟨_,J.o.w⟩,rfl⟩ ?_;refine Aw ?_;intro KK f;rw[AC (by rfl)];have U:=(cE.o.alloc (.cells #[.int .i64 av,.slice (some ⟨g9,0,none⟩) r.length r.length,.int .i64 pz] 48)).row cF.o
       have a1:∀j u,(pC (⟨av,r.map (Gm.rY (Gm.lH G.ns.length (Gm.fu G))),pz⟩,some ⟨g9,0,none⟩,r.length))[j]?=some u->(w9.alloc (.cells #[.int .i64 av,.slice (some ⟨g9,0,none⟩) r.length r.length,.int .i64 pz] 48)).cell? ⟨w9.heap.size,j,none⟩=some u:=fun j u hj=>by
        have h:=tS w9 [.int .i64 av,.slice (some ⟨g9,0,none⟩) r.length r.length,.int .i64 pz] 48 j;refine h.trans ?_
        simpa[pC] using hj
       refine IS (.tmp 69) (.tmp 77) _ rfl underlying24 w1.heap.size _ _ _ rfl J.o.r w9.heap.size 1 (⟨av,r.map (Gm.rY (Gm.lH G.ns.length (Gm.fu G))),pz⟩,some ⟨g9,0,none⟩,r.length) rfl a1 ⟨by simp,by simp only;omega,U⟩ (by have:=cz.o;rw[Bh];omega) J.o.w.size (Af _) ?_;intro v' w10 A D;rw[ba.o,<-bX.o]at A;have b:=aA (J.o.yQ A D);obtain⟨A10,c10,rfl,_,_⟩:=xi A;clear A D;obtain⟨n10,I⟩:∃n,n=(((Gm.iC G).take (k+1)).map (Gm.re (Gm.fu G))).length:=⟨_,rfl⟩
       rw[<-I]at b ⊢;clear I a1 U;refine f _ _ ⟨⟨w10,b.o.w⟩,rfl⟩ _ (fun _ h=>h) ⟨⟨w10,b.o.w⟩,rfl⟩ ?_
       go_frame
       repeat (go_big_quiet_step (fail))
       refine Aw ?_;intro KK f;rw[AC (by rfl)];have j2:=AF w10 _ 2 _ _ _ b.o.h;have f2:=AH w10 _ 2 _ _ b.o.h;have lh:=(Ad.1 b.o.h).1;have C:=aA (b.o.rM 2 (.slice A10 n10 c10));go_wp2_with fail
       refine f _ _ ⟨⟨_,C.o.w⟩,rfl⟩ _ (fun _ h=>h) ⟨⟨_,C.o.w⟩,rfl⟩ ?_;clear j2 f2 lh;refine Aw ?_;go_wp2;go_roundw
       case rel=>exact⟨k+1,_,N,by go_num,C⟩
       case measure=>simp[intOf];omega
    ·obtain rfl:k=ks.length:=by omega
     rw[a3.o,Bn]at HS;obtain⟨AT5,cT5,rfl,_,_⟩:=aN HS.o.t;obtain⟨AN5,cN5,rfl,_,_⟩:=aN HS.o.nn;obtain⟨AR5,cR5,rfl,_,_⟩:=xi HS.o.r;have cY:=V.o.s0;have b4:=V.o.s1;obtain⟨m,hm⟩:∃m:Nat,G.st=(m:Int):=⟨G.st.toNat,by omega⟩
     have HP:Hid ((Gm.lH G.ns.length (Gm.fu G)).getD m 0=Gm.pos (Gm.fu G) G.st):=aA (by rw[Gm.ow (by omega),<-hm,AC (Gm.xM cJ.o)]);have q3:=bI (HQ.o wr HS.o.w);rw[hm]at q3;rw[hm]at b4;have km:=HS.o.a.cell m (by rw[Gm.j8];omega);rw[HP.o]at km;have la:=HS.o.a.lt;have lq:=Bj q3;have j3:=AF wr _ 3 _ _ _ HS.o.h;have f3:=AH wr _ 3 _ _ HS.o.h;have lh:=(Ad.1 HS.o.h).1;obtain⟨pp,b5⟩:∃z,z=Gm.pos (Gm.fu G) G.st:=⟨_,rfl⟩
     rw[<-b5]at km;have cZ:=aA b5;have M:=aA (HS.o.rM 3 (.int .i64 pp));obtain⟨wy,b6⟩:∃y,y=wr.setCell ⟨H,3,none⟩ (.int .i64 pp):=⟨_,rfl⟩
     rw[<-b6]at M;clear b5 hm cY HP;go_upto_region 18 with fail
     rw[<-b6];clear b6 q3 km la lq j3 f3 lh;have j0:=aS M.o.h;have j1:=aX M.o.h;have j2:=aY M.o.h;have j3:=bI M.o.h;have lh:=(Ad.1 M.o.h).1;have hz:=(M.o.w.block (w.heap.size+1) (by have:=ag.o;omega)).trans cH.o;have g0:=aS hz;have g1:=aX hz;have g2:=aY hz;have g3:=bI hz;have e0:=AH wy _ 0 _ _ hz;have e1:=AH wy _ 1 _ _ hz;have e2:=AH wy _ 2 _ _ hz;have e3:=AH wy _ 3 _ _ hz;have lz:=(Ad.1 hz).1;have a2:w.heap.size<=w1.heap.size:=by have:=ag.o;omega
     have cG:Hid (Gx wy w.heap.size (.slice AT5 G.ts.length cT5) (.slice AN5 (Gm.gY G (Gm.fu G)).length cN5) (.slice AR5 ((Gm.iC G).map (Gm.re (Gm.fu G))).length cR5) G.ts (Gm.gY G (Gm.fu G)) ((Gm.iC G).map (Gm.re (Gm.fu G)))):=aA ⟨⟨_,HQ.o wy M.o.w⟩,⟨_,hz⟩,xT M.o.t a2,xT M.o.nn a2,by
      obtain⟨qs,h1,h2,h3,h4⟩:=M.o.r
      exact⟨qs,h1,xT h2 a2,h3,fun q hq=>⟨(h4 q hq).1,(h4 q hq).2.1,fun hn=>by
       obtain⟨g,cur,e,hb,hN,hh⟩:=(h4 q hq).2.2 hn;exact⟨g,cur,e,Aj a2 hb,hN,hh⟩⟩⟩⟩
     have b7:=aA (fun u1 u2 u3 u4=>(((cG.o.set (w.heap.size+1) 0 u1 (.inr rfl)).set (w.heap.size+1) 1 u2 (.inr rfl)).set (w.heap.size+1) 2 u3 (.inr rfl)).set (w.heap.size+1) 3 u4 (.inr rfl));have c3:=aA (fun u1 u2 u3 u4=>((((ad.o wy M.o.w).setCell (p:=⟨w.heap.size+1,0,none⟩) (by simp only;omega) u1).setCell (p:=⟨w.heap.size+1,1,none⟩) (by simp only;omega) u2).setCell (p:=⟨w.heap.size+1,2,none⟩) (by simp only;omega) u3).setCell (p:=⟨w.heap.size+1,3,none⟩) (by simp only;omega) u4);have c4:Hid (Gm.reduce G=⟨G.ts,Gm.gY G (Gm.fu G),(Gm.iC G).map (Gm.re (Gm.fu G)),pp⟩):=aA (by rw[cZ.o];rfl);generalize Gm.gY G (Gm.fu G)=nms at *;generalize (Gm.iC G).map (Gm.re (Gm.fu G))=tN at *;clear cG hz a2 HS M;go_wp2;refine B8 (v:=.agg #[.slice AT5 G.ts.length cT5,.slice AN5 nms.length cN5,.slice AR5 tN.length cR5,.int .i64 pp]) (by simp[results,results99,go_sem,g0,g1,g2,g3]) rfl ?_;exact⟨_,rfl,by rw[c4.o];exact⟨_,_,_,rfl,(b7.o _ _ _ _).t,(b7.o _ _ _ _).nn,(b7.o _ _ _ _).r⟩,c3.o _ _ _ _⟩
theorem Kw (A A':Option Addr) (ca cb:Nat) (xs ys:List Int) (w:World) (ab:gd w w.heap.size A xs) (ac:gd w w.heap.size A' ys) (ag:xs.length<=9223372036854775807) (ad:ys.length<=9223372036854775807) :
  Calls prog 14 #[.slice A xs.length ca,.slice A' ys.length cb] w fun e w'=>e=.returned (.bool (decide (xs=ys)))/\∃n,w'=w.drewN n:=by
 by_cases hl:xs.length=ys.length
 ·have HL:=aA hl;rw[<-hl];have ae:((xs.length:Int) != (xs.length:Int))=false:=by simp
  clear hl ad
  go_enter func14,ntmps14
  go_wp2;go_loopw [5] (fun vi wr=>∃(k q:Nat),k<=xs.length/\vi=.int .i64 k/\xs.take k=ys.take k/\wr=w.drewN q) (fun vi _=>xs.length-(intOf vi).toNat)
  case atStart=>exact⟨0,0,AV _,rfl,rfl,rfl⟩
  case round =>
   obtain⟨k,q,hk,rfl,ht,d⟩:=hrel;have HT:=aA ht;have HW:=aA d;by_cases aa:k<xs.length
   ·obtain⟨ga,oa,rfl,_,ha⟩:=ab (by omega);obtain⟨gb,ob,rfl,_,hb⟩:=ac (by have:=HL.o;omega);have ca':wr.cell? ⟨ga,oa+k,none⟩=some (.int .i64 (xs.getD k 0)):=by rw[d];exact ha k aa
    have cb':wr.cell? ⟨gb,ob+k,none⟩=some (.int .i64 (ys.getD k 0)):=by rw[d];exact hb k (by have:=HL.o;omega)
    have k0:(0:Int)<=(k:Int):=by omega
    have k1:(k:Int)<(xs.length:Int):=by omega
    clear ha hb ht d ab ac;by_cases b:xs.getD k 0=ys.getD k 0
    ·have HN:Hid (xs.take (k+1)=ys.take (k+1)):=by
      show xs.take (k+1)=ys.take (k+1)
      rw[L.jB xs k aa,L.jB ys k (by have:=HL.o;omega),HT.o,b]
     rw[<-b]at cb';generalize xs.getD k 0=x at *;have af:(x != x)=false:=by simp
     clear b;go_wp2_with fail
     go_quiet (fail)
     go_wp2;go_roundw
     case rel=>exact⟨k+1,_,aa,by go_num,HN.o,by rw[HW.o];exact Dx _ _ _⟩
     case measure=>simp[intOf];omega
    ·have HN:Hid (decide (xs=ys)=false):=by
      show decide (xs=ys)=false
      rw[D9];rintro rfl;exact b rfl
     generalize xs.getD k 0=x at *;generalize ys.getD k 0=y at *;have af:(x != y)=true:=by simpa using b
     clear b;go_wp2_with fail
     go_quiet (fail)
     go_wp2;go_ret
     exact⟨aE HN.o.symm,_,by rw[HW.o,Dx]⟩
   ·obtain rfl:k=xs.length:=by omega
    have HE:Hid (decide (xs=ys)=true):=by
     show decide (xs=ys)=true
     rw[Cg];have h:=HT.o
     rwa [Bn,HL.o,Bn]at h
    clear ht;subst d;go_wp2;go_ret
    exact⟨aE HE.o.symm,_,rfl⟩
 ·have HE:Hid (decide (xs=ys)=false):=by
   show decide (xs=ys)=false
   rw[D9];rintro rfl;exact hl rfl
  have ae:((xs.length:Int) != (ys.length:Int))=true:=by simp;omega
  go_enter func14,ntmps14
  go_wp2;go_ret
  exact⟨aE HE.o.symm,0,rfl⟩
noncomputable def jj {α:Type} (a b:α):Bool:=@decide (a=b) (Classical.propDecidable _)
theorem pk {α:Type} {a b:α} (h:a=b):jj a b=true:=by unfold jj;exact @AQ _ (Classical.propDecidable _) h
theorem qF {α:Type} {a b:α} (h:¬a=b):jj a b=false:=by unfold jj;exact @AM _ (Classical.propDecidable _) h
theorem Lf (s s':ByteArray) (a a' b b':Int) (w:World):(Op.equalIn 10000 81 (.agg #[.string s,.int .i64 a,.int .i64 b]) (.agg #[.string s',.int .i64 a',.int .i64 b'])).run prog w=.ok ((s.toList==s'.toList)&&(a==a')&&(b==b')) w:=by
 have u3:=underlying3;have a3:=isAgg3;have z3:=sizeOf3;have u9:=underlying9;have a9:=isAgg9;have z9:=sizeOf9;have hS:prog.underlying 81=some (.struct (prog.fieldsOf 81)):=by kernel_rfl
 rw[show(10000:Nat)=9999+1 from rfl,run_equalIn_agg w 9999 81 _ _ hS (by kernel_rfl)];simp only[Program.fieldsOf,underlying81]
 go_simp
 by_cases h0:s.toList=s'.toList <;> by_cases h1:a=a' <;> by_cases h2:b=b' <;> simp[h0,h1,h2]
theorem Lr {x y:Gm.Tm} (hx:K.Tx x.nm) (hy:K.Tx y.nm):(((K.str x.nm).toList==(K.str y.nm).toList)&&(x.lv==y.lv)&&(x.wy==y.wy))=jj x y:=by
 rw[K.E7 hx hy];by_cases h:x=y
 ·subst h;rw[pk rfl];simp
 ·rw[qF h];rw[C7,C7];by_cases h1:x.nm=y.nm
  ·by_cases h2:x.lv=y.lv
   ·by_cases h3:x.wy=y.wy
    ·exact absurd (by cases x;cases y;simp_all) h
    ·exact .inr (by simpa using h3)
   ·exact .inl (.inr (by simpa using h2))
  ·exact .inl (.inl (by simpa using h1))
def a8 {α:Type} (xs ys:List α) (k:Nat):Prop:=xs.take k=ys.take k
theorem a8.zero {α:Type} (xs ys:List α):a8 xs ys 0:=rfl
theorem a8.next {α:Type} {xs ys:List α} (h:a8 xs ys k) (h1:k<xs.length) (h2:k<ys.length) (e:xs[k]=ys[k]):a8 xs ys (k+1):=by
 unfold a8 at *;rw[AL h1,AL h2,h,e]
theorem a8.all {α:Type} {xs ys:List α} (h:a8 xs ys k) (hk:k=xs.length) (hl:xs.length=ys.length):jj xs ys=true:=by
 unfold a8 at h;rw[hk,Bn,hl,Bn]at h;exact pk h
theorem xt {α:Type} {xs ys:List α} (h1:k<xs.length) (h2:k<ys.length) (e:¬xs[k]=ys[k]):jj xs ys=false:=qF fun h=>e (by subst h;rfl)
theorem zh {α:Type} {xs ys:List α} (h:¬xs.length=ys.length):jj xs ys=false:=qF fun e=>h (by rw[e])
theorem Pf (A A':Option Addr) (ca cb B B':Nat) (xs ys:List (List Int)) (w:World) (ab:tM w B A xs) (ac:tM w B' A' ys) (hx:∀x∈xs,K.Tx x) (hy:∀y∈ys,K.Tx y) (af:xs.length<=9223372036854775807) :
  Calls prog 101 #[.slice A xs.length ca,.slice A' ys.length cb] w fun e w'=>e=.returned (.bool (jj xs ys))/\∃n,w'=w.drewN n:=by
 by_cases hl:xs.length=ys.length
 ·have HL:=aA hl;rw[<-hl];have ae:((xs.length:Int) != (xs.length:Int))=false:=by simp
  have HA:=aA ab;have ad:=aA ac;have HX:=aA hx;have HY:=aA hy;clear hx hy;clear hl ab ac
  go_enter func101,ntmps101
  go_wp2;go_loopw [13] (fun vi wr=>∃(k q:Nat),k<=xs.length/\vi=.int .i64 k/\a8 xs ys k/\wr=w.drewN q) (fun vi _=>xs.length-(intOf vi).toNat)
  case atStart=>exact⟨0,0,AV _,rfl,a8.zero _ _,rfl⟩
  case round =>
   obtain⟨k,q,hk,rfl,ht,d⟩:=hrel;have HT:=aA ht;have HW:=aA d;clear ht;by_cases hlt:k<xs.length
   ·have aa:k<ys.length:=by have:=HL.o;omega
    obtain⟨ga,oa,rfl,_,ha⟩:=HA.o (by omega);obtain⟨gb,ob,rfl,_,hb⟩:=ad.o (by omega);have ca':wr.cell? ⟨ga,oa+k,none⟩=some (.string (K.str xs[k])):=by rw[d];exact ha k hlt
    have cb':wr.cell? ⟨gb,ob+k,none⟩=some (.string (K.str ys[k])):=by rw[d];exact hb k aa
    have E:((K.str xs[k]).toList==(K.str ys[k]).toList)=jj xs[k] ys[k]:=by
     rw[K.E7 (HX.o _ (AE hlt)) (HY.o _ (AE aa))];by_cases h:xs[k]=ys[k]
     ·rw[pk h];simpa using h
     ·rw[qF h];simpa using h
    have E':((K.str xs[k]).toList != (K.str ys[k]).toList) = !jj xs[k] ys[k]:=by rw[bne,E]
    have k0:(0:Int)<=(k:Int):=by omega
    have k1:(k:Int)<(xs.length:Int):=by omega
    clear ha hb d HA ad;by_cases b:xs[k]=ys[k]
    ·have HN:Hid (a8 xs ys (k+1)):=aA (HT.o.next hlt aa b);rw[pk b]at E E';clear b;generalize K.str xs[k]=x at *;generalize K.str ys[k]=y at *;rw[Bool.not_true]at E';go_wp2_with fail
     go_quiet (fail)
     go_wp2;go_roundw
     case rel=>exact⟨k+1,_,hlt,by go_num,HN.o,by rw[HW.o];exact Dx _ _ _⟩
     case measure=>simp[intOf];omega
    ·have HN:Hid (jj xs ys=false):=aA (xt hlt aa b);rw[qF b]at E E';clear b;generalize K.str xs[k]=x at *;generalize K.str ys[k]=y at *;rw[Bool.not_false]at E';go_wp2_with fail
     go_quiet (fail)
     go_wp2;go_ret
     exact⟨aE HN.o.symm,_,by rw[HW.o,Dx]⟩
   ·obtain rfl:k=xs.length:=by omega
    have HE:=aA (HT.o.all rfl HL.o);subst d;go_wp2;go_ret
    exact⟨aE HE.o.symm,_,rfl⟩
 ·have HE:=aA (zh hl);have ae:((xs.length:Int) != (ys.length:Int))=true:=by simp;omega
  clear hl
  go_enter func101,ntmps101
  go_wp2;go_ret
  exact⟨aE HE.o.symm,0,rfl⟩
theorem OM (A A':Option Addr) (ca cb B B':Nat) (xs ys:List Int) (w:World) (ab:gd w B A xs) (ac:gd w B' A' ys) (af:xs.length<=9223372036854775807) :
  Calls prog 144 #[.slice A xs.length ca,.slice A' ys.length cb] w fun e w'=>e=.returned (.bool (jj xs ys))/\∃n,w'=w.drewN n:=by
 by_cases hl:xs.length=ys.length
 ·have HL:=aA hl;rw[<-hl];have ae:((xs.length:Int) != (xs.length:Int))=false:=by simp
  have HA:=aA ab;have ad:=aA ac;clear hl ab ac
  go_enter func144,ntmps144
  go_wp2;go_loopw [13] (fun vi wr=>∃(k q:Nat),k<=xs.length/\vi=.int .i64 k/\a8 xs ys k/\wr=w.drewN q) (fun vi _=>xs.length-(intOf vi).toNat)
  case atStart=>exact⟨0,0,AV _,rfl,a8.zero _ _,rfl⟩
  case round =>
   obtain⟨k,q,hk,rfl,ht,d⟩:=hrel;have HT:=aA ht;have HW:=aA d;clear ht;by_cases hlt:k<xs.length
   ·have aa:k<ys.length:=by have:=HL.o;omega
    obtain⟨ga,oa,rfl,_,ha⟩:=HA.o (by omega);obtain⟨gb,ob,rfl,_,hb⟩:=ad.o (by omega);have ca':wr.cell? ⟨ga,oa+k,none⟩=some (.int .i64 xs[k]):=by rw[d,<-L.fy hlt];exact ha k hlt
    have cb':wr.cell? ⟨gb,ob+k,none⟩=some (.int .i64 ys[k]):=by rw[d,<-L.fy aa];exact hb k aa
    have E:(xs[k]==ys[k])=jj xs[k] ys[k]:=by
     by_cases h:xs[k]=ys[k]
     ·rw[pk h];simpa using h
     ·rw[qF h];simpa using h
    have E':(xs[k] != ys[k]) = !jj xs[k] ys[k]:=by rw[bne,E]
    have k0:(0:Int)<=(k:Int):=by omega
    have k1:(k:Int)<(xs.length:Int):=by omega
    clear ha hb d HA ad;by_cases b:xs[k]=ys[k]
    ·have HN:Hid (a8 xs ys (k+1)):=aA (HT.o.next hlt aa b);rw[pk b]at E E';clear b;generalize xs[k]=x at *;generalize ys[k]=y at *;rw[Bool.not_true]at E';go_wp2_with fail
     go_quiet (fail)
     go_wp2;go_roundw
     case rel=>exact⟨k+1,_,hlt,by go_num,HN.o,by rw[HW.o];exact Dx _ _ _⟩
     case measure=>simp[intOf];omega
    ·have HN:Hid (jj xs ys=false):=aA (xt hlt aa b);rw[qF b]at E E';clear b;generalize xs[k]=x at *;generalize ys[k]=y at *;rw[Bool.not_false]at E';go_wp2_with fail
     go_quiet (fail)
     go_wp2;go_ret
     exact⟨aE HN.o.symm,_,by rw[HW.o,Dx]⟩
   ·obtain rfl:k=xs.length:=by omega
    have HE:=aA (HT.o.all rfl HL.o);subst d;go_wp2;go_ret
    exact⟨aE HE.o.symm,_,rfl⟩
 ·have HE:=aA (zh hl);have ae:((xs.length:Int) != (ys.length:Int))=true:=by simp;omega
  clear hl
  go_enter func144,ntmps144
  go_wp2;go_ret
  exact⟨aE HE.o.symm,0,rfl⟩
theorem Pe (A A':Option Addr) (ca cb B B':Nat) (xs ys:List Gm.Tm) (w:World) (aa:rV w B A xs) (ab:rV w B' A' ys) (hx:∀x∈xs,K.Tx x.nm) (hy:∀y∈ys,K.Tx y.nm) (ae:xs.length<=9223372036854775807) :
  Calls prog 100 #[.slice A xs.length ca,.slice A' ys.length cb] w fun e w'=>e=.returned (.bool (jj xs ys))/\∃n,w'=w.drewN n:=by
 by_cases hl:xs.length=ys.length
 ·have HL:=aA hl;rw[<-hl];have ad:((xs.length:Int) != (xs.length:Int))=false:=by simp
  have HA:=aA aa;have ac:=aA ab;have HX:=aA hx;have HY:=aA hy;clear hx hy;clear hl aa ab
  go_enter func100,ntmps100
  go_wp2;go_loopw [13] (fun vi wr=>∃(k q:Nat),k<=xs.length/\vi=.int .i64 k/\a8 xs ys k/\wr=w.drewN q) (fun vi _=>xs.length-(intOf vi).toNat)
  case atStart=>exact⟨0,0,AV _,rfl,a8.zero _ _,rfl⟩
  case round =>
   obtain⟨k,q,hk,rfl,ht,d⟩:=hrel;have HT:=aA ht;have HW:=aA d;clear ht;by_cases hlt:k<xs.length
   ·have b:k<ys.length:=by have:=HL.o;omega
    obtain⟨ga,oa,rfl,_,ha⟩:=HA.o (by omega);obtain⟨gb,ob,rfl,_,hb⟩:=ac.o (by omega);have ca0:wr.cell? ⟨ga,oa+k*3,none⟩=some (.string (K.str xs[k].nm)):=by rw[d];exact(ha k hlt).1
    have ca1:wr.cell? ⟨ga,oa+k*3+1,none⟩=some (.int .i64 xs[k].lv):=by rw[d];exact(ha k hlt).2.1
    have ca2:wr.cell? ⟨ga,oa+k*3+2,none⟩=some (.int .i64 xs[k].wy):=by rw[d];exact(ha k hlt).2.2
    have cb0:wr.cell? ⟨gb,ob+k*3,none⟩=some (.string (K.str ys[k].nm)):=by rw[d];exact(hb k b).1
    have cb1:wr.cell? ⟨gb,ob+k*3+1,none⟩=some (.int .i64 ys[k].lv):=by rw[d];exact(hb k b).2.1
    have cb2:wr.cell? ⟨gb,ob+k*3+2,none⟩=some (.int .i64 ys[k].wy):=by rw[d];exact(hb k b).2.2
    have E0:=Lr (HX.o _ (AE hlt)) (HY.o _ (AE b));have E:=fun w=>Lf (K.str xs[k].nm) (K.str ys[k].nm) xs[k].lv ys[k].lv xs[k].wy ys[k].wy w;rw[E0]at E;clear E0;have k0:(0:Int)<=(k:Int):=by omega
    have k1:(k:Int)<(xs.length:Int):=by omega
    clear ha hb d HA ac;by_cases f:xs[k]=ys[k]
    ·have HN:Hid (a8 xs ys (k+1)):=aA (HT.o.next hlt b f);rw[pk f]at E;clear f;generalize K.str xs[k].nm=x0 at *;generalize K.str ys[k].nm=y0 at *;generalize xs[k].lv=x1 at *;generalize ys[k].lv=y1 at *;generalize xs[k].wy=x2 at *;generalize ys[k].wy=y2 at *;go_wp2_with fail
     go_quiet (fail)
     go_wp2;go_roundw
     case rel=>exact⟨k+1,_,hlt,by go_num,HN.o,by rw[HW.o];exact Dx _ _ _⟩
     case measure=>simp[intOf];omega
    ·have HN:Hid (jj xs ys=false):=aA (xt hlt b f);rw[qF f]at E;clear f;generalize K.str xs[k].nm=x0 at *;generalize K.str ys[k].nm=y0 at *;generalize xs[k].lv=x1 at *;generalize ys[k].lv=y1 at *;generalize xs[k].wy=x2 at *;generalize ys[k].wy=y2 at *;go_wp2_with fail
     go_quiet (fail)
     go_wp2;go_ret
     exact⟨aE HN.o.symm,_,by rw[HW.o,Dx]⟩
   ·obtain rfl:k=xs.length:=by omega
    have HE:=aA (HT.o.all rfl HL.o);subst d;go_wp2;go_ret
    exact⟨aE HE.o.symm,_,rfl⟩
 ·have HE:=aA (zh hl);have ad:((xs.length:Int) != (ys.length:Int))=true:=by simp;omega
  clear hl
  go_enter func100,ntmps100
  go_wp2;go_ret
  exact⟨aE HE.o.symm,0,rfl⟩
def F4 (x:Gm.Rl) (A:Option Addr) (c:Nat):Value:=.agg #[.int .i64 x.l,.slice A x.r.length c,.int .i64 x.p]
theorem Qy (x y:Gm.Rl):(jj x.l y.l&&jj x.r y.r&&jj x.p y.p)=jj x y:=by
 by_cases h:x=y
 ·subst h;rw[pk rfl,pk rfl,pk rfl,pk rfl];rfl
 ·rw[qF h];rw[C7,C7];by_cases h1:x.l=y.l
  ·by_cases h2:x.r=y.r
   ·by_cases h3:x.p=y.p
    ·exact absurd (by cases x;cases y;simp_all) h
    ·exact .inr (qF h3)
   ·exact .inl (.inr (qF h2))
  ·exact .inl (.inl (qF h1))
theorem IM (a b:Int):(a==b)=jj a b:=by
 by_cases h:a=b
 ·rw[pk h];simpa using h
 ·rw[qF h];simpa using h
theorem Jx (h:∃n,w'=w.drewN n):Below w.heap.size w w':=by
 obtain⟨n,rfl⟩:=h;exact aB (AB _ _) n
theorem Np (x y:Gm.Rl) (A A':Option Addr) (c c' B B':Nat) (w:World) (aa:gd w B A x.r) (ab:gd w B' A' y.r) (hB:B<=w.heap.size) (ad:B'<=w.heap.size) (ac:x.r.length<=9223372036854775807) :
  Calls prog 103 #[F4 x A c,F4 y A' c'] w fun e w'=>e=.returned (.bool (jj x y))/\Below w.heap.size w w':=by
 have b:=aA (fun o=>((AB w.heap.size w).alloc (Af _) o));have HE:=aA (fun(z:World) (h:Below w.heap.size w z)=>OM A A' c c' B B' x.r y.r z (aa.fp fun g o hg=>h.cell (p:=⟨g,o,none⟩) (Ah hg hB)) (ab.fp fun g o hg=>h.cell (p:=⟨g,o,none⟩) (Ah hg ad)) ac);rw[<-Qy];have e1:=IM x.l y.l;have e2:=IM x.p y.p;unfold F4;clear aa ab ac;generalize x.l=xl at *;generalize y.l=yl at *;generalize x.p=xp at *;generalize y.p=yp at *;cases q1:jj xl yl
 ·rw[q1]at e1;clear q1 e2
  go_enter func103,ntmps103
  go_wp2;go_ret
  exact⟨rfl,(b.o _).alloc (by simp) _⟩
 ·rw[q1]at e1;clear q1;cases q2:jj x.r y.r
  ·rw[q2]at HE;clear q2 e2
   go_enter func103,ntmps103
   go_wp2_with fail
   refine(HE.o _ ((b.o _).alloc (by simp) _)).mono ?_;rintro _ w2 ⟨rfl,hd⟩;have HD:=aA ((((b.o _).alloc (by simp) _)).trans ((Jx hd).mono (by simp;omega)));clear hd;go_wp2;go_ret
   exact⟨rfl,HD.o⟩
  ·rw[q2]at HE;clear q2;generalize jj xp yp=b2 at *
   go_enter func103,ntmps103
   go_wp2_with fail
   refine(HE.o _ ((b.o _).alloc (by simp) _)).mono ?_;rintro _ w2 ⟨rfl,n,rfl⟩;go_wp2;go_ret
   exact⟨aE (by simp),aB ((b.o _).alloc (by simp) _) _⟩
theorem PJ (A A':Option Addr) (ca cb B B':Nat) (xs ys:List Gm.Rl) (w:World) (af:qR w B A xs) (ag:qR w B' A' ys) (hB:B<=w.heap.size) (ah:B'<=w.heap.size) (ar:xs.length<=9223372036854775807) :
  Calls prog 102 #[.slice A xs.length ca,.slice A' ys.length cb,.func (Fn.func 103) #[] #[]] w fun e w'=>e=.returned (.bool (jj xs ys))/\Below w.heap.size w w':=by
 have ai:=aA (AB w.heap.size w);by_cases hl:xs.length=ys.length
 ·have HL:=aA hl;rw[<-hl];have am:((xs.length:Int) != (xs.length:Int))=false:=by simp
  have HA:=aA af;have aj:=aA ag;clear hl af ag
  go_enter func102,ntmps102
  go_wp2;go_loopw [17] (fun vi wr=>∃(k:Nat),k<=xs.length/\vi=.int .i64 k/\a8 xs ys k/\Below w.heap.size w wr) (fun vi _=>xs.length-(intOf vi).toNat)
  case atStart=>exact⟨0,AV _,rfl,a8.zero _ _,ai.o⟩
  case round =>
   obtain⟨k,hk,rfl,ht,hb⟩:=hrel;have HT:=aA ht;have HB:=aA hb;clear ht;by_cases hlt:k<xs.length
   ·have aa:k<ys.length:=by have:=HL.o;omega
    obtain⟨ga,oa,rfl,au,ha⟩:=HA.o (by omega);obtain⟨gb,ob,rfl,av,ak⟩:=aj.o (by omega);obtain⟨a0,⟨Aa,cca,a1,_,_,ra⟩,a2⟩:=ha k hlt;obtain⟨b0,⟨Ab,ccb,b1,_,_,rb⟩,b2⟩:=ak k aa;have ad:xs[k].r.length<=9223372036854775807:=by omega
    have HS:=aA (fun(z:World) (h:Below w.heap.size w z)=>Np xs[k] ys[k] Aa Ab cca ccb B B' z (ra.fp fun g o hg=>h.cell (p:=⟨g,o,none⟩) (Ah hg hB)) (rb.fp fun g o hg=>h.cell (p:=⟨g,o,none⟩) (Ah hg ah)) (Aj hB h.size) (Aj ah h.size) ad);have ab:ga<w.heap.size:=by omega
    have ac:gb<w.heap.size:=by omega
    have aw:=hb.size;have a0:=(hb.cell (p:=⟨ga,oa+k*3,none⟩) ab).trans a0;have a1:=(hb.cell (p:=⟨ga,oa+k*3+1,none⟩) ab).trans a1;have a2:=(hb.cell (p:=⟨ga,oa+k*3+2,none⟩) ab).trans a2;have b0:=(hb.cell (p:=⟨gb,ob+k*3,none⟩) ac).trans b0;have b1:=(hb.cell (p:=⟨gb,ob+k*3+1,none⟩) ac).trans b1;have b2:=(hb.cell (p:=⟨gb,ob+k*3+2,none⟩) ac).trans b2;have ao:ga<wr.heap.size:=by omega
    have ap:gb<wr.heap.size:=by omega
    have b:=aA (fun(o1 o2:Obj)=>(hb.alloc hb.size o1).alloc (by have:=hb.size;simp;omega) o2);have al:=aA hlt;have aq:=aA aa;unfold F4 at HS;clear ha ak hb HA aj ra rb;generalize qx:xs[k]=x at *;generalize qy:ys[k]=y at *;have QX:=aA qx;have QY:=aA qy;clear qx qy;by_cases d:x=y
    ·have HN:Hid (a8 xs ys (k+1)):=aA (HT.o.next hlt aa (QX.o.trans (d.trans QY.o.symm)));rw[pk d]at HS;clear d ad;go_wp2_with fail
     refine(HS.o _ (b.o _ _)).mono ?_;rintro _ w2 ⟨rfl,f⟩;have ae:=aA ((b.o _ _).trans (f.mono (b.o _ _).size));clear f;go_wp2;go_roundw
     case rel=>exact⟨k+1,al.o,by go_num,HN.o,ae.o⟩
     case measure=>have:=al.o;simp[intOf];omega
    ·have HN:Hid (jj xs ys=false):=aA (xt hlt aa (fun e=>d (QX.o.symm.trans (e.trans QY.o))));rw[qF d]at HS;clear d ad;go_wp2_with fail
     refine(HS.o _ (b.o _ _)).mono ?_;rintro _ w2 ⟨rfl,f⟩;have ae:=aA ((b.o _ _).trans (f.mono (b.o _ _).size));clear f;go_wp2;go_ret
     exact⟨aE HN.o.symm,ae.o⟩
   ·obtain rfl:k=xs.length:=by omega
    have HE:=aA (HT.o.all rfl HL.o);clear hb;go_wp2;go_ret
    exact⟨aE HE.o.symm,HB.o⟩
 ·have HE:=aA (zh hl);have am:((xs.length:Int) != (ys.length:Int))=true:=by simp;omega
  clear hl
  go_enter func102,ntmps102
  go_wp2;go_ret
  exact⟨aE HE.o.symm,ai.o⟩
end Go.Proofs.YtcmhaemaophplaaGreat
