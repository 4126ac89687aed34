/- Part of the proofs over this program: AuEdge, AuBuild, LkEnds, LkEnds2, LkOf, LookC, CfgRead. -/
import Derived.Test.YtcmhaemaophplaaGreatW2L
set_option linter.all false
set_option maxRecDepth 100000
set_option maxHeartbeats 40000000
variable {A:Option Go.Addr} {B D M NE b base g i m n q:Nat} {E es:List (List (Int×Int))} {G:Go.Proofs.YtcmhaemaophplaaGreat.Gm.Gr} {nu:List Bool} {p:Go.Addr} {s:Int} {u v:Go.Value} {w w':Go.World} {xs:List Go.Value}
namespace Go.Proofs.YtcmhaemaophplaaGreat
open Go.RowKit
theorem zg5 {R:Nat} {T:TypeId} (h:w.ownsRow base T m v n xs) (hk:∀(g:Nat) (o:Obj),w.heap[g]?=some o->g≠R->g≠M->(∀cur fr,o ≠ .cells cur 56 fr)->(∀cur fr,o ≠ .cells cur 91 fr)->w'.heap[g]?=some o) (hR:∀cur,w.heap[R]? ≠ some (.cells cur T (0,0))) (hM:∀cur,w.heap[M]? ≠ some (.cells cur T (0,0))) (hT:T≠56) (hE:T≠91):w'.ownsRow base T m v n xs:=by
 refine⟨h.1,?_⟩;rcases h.2 with h0|⟨g,cap,cur,e,aa,hg,hr⟩
 ·exact .inl h0
 ·exact .inr ⟨g,cap,cur,e,aa,hk g _ hg (fun q=>hR cur (by rw[<-q];exact hg)) (fun q=>hM cur (by rw[<-q];exact hg)) (fun cur' fr q=>by injection q with _ q _;exact hT q) (fun cur' fr q=>by injection q with _ q _;exact hE q),hr⟩
theorem zgn {R:Nat} {xs:List (Int×Int)} (h:aJ 91 2 prF w base v xs) (hk:KeepN R M w w') (hR:∀cur,w.heap[R]? ≠ some (.cells cur 91 (0,0))) (hM:∀cur,w.heap[M]? ≠ some (.cells cur 91 (0,0))):aJ 91 2 prF w' base v xs:=by
 refine⟨h.1,?_⟩;rcases h.2 with h0|⟨g,cap,cur,e,aa,hg,hr⟩
 ·exact .inl h0
 ·exact .inr ⟨g,cap,cur,e,aa,hk.keep g _ hg (fun q=>hR cur (by rw[<-q];exact hg)) (fun q=>hM cur (by rw[<-q];exact hg)) (fun cur' fr q=>by injection q with _ q _;exact absurd q (by decide)),hr⟩
structure KeepM (R M:Nat) (w w':World):Prop where
 size:w.heap.size<=w'.heap.size
 keep:∀(g:Nat) (o:Obj),w.heap[g]?=some o->g≠R->g≠M->(∀cur fr,o ≠ .cells cur 56 fr)->(∀cur fr,o ≠ .cells cur 91 fr)->w'.heap[g]?=some o
theorem KeepM.refl (R M:Nat) (w:World):KeepM R M w w:=⟨Af _,fun _ _ h _ _ _ _=>h⟩
theorem KeepM.trans {R:Nat} {w2:World} (h:KeepM R M w w') (k:KeepM R M w' w2):KeepM R M w w2:=⟨Am h.size k.size,fun g o h1 h2 h3 h4 h5=>k.keep g o (h.keep g o h1 h2 h3 h4 h5) h2 h3 h4 h5⟩
theorem KeepM.of {R:Nat} (h:KeepN R M w w'):KeepM R M w w':=⟨h.size,fun g o h1 h2 h3 h4 _=>h.keep g o h1 h2 h3 h4⟩
theorem KeepM.own {R:Nat} (h:w.ownsRow base 91 2 v n xs) (hg:w.grownBy w' v.ownBlock):KeepM R M w w':=⟨hg.size,fun _ _ h1 _ _ _ h5=>aI h hg h1 fun cur=>h5 cur _⟩
theorem KeepN.ownAt {R:Nat} {a:World} {T:TypeId} (h:KeepN R M a w) (ho:w.ownsRow base T m v n xs) (hg:w.grownBy w' v.ownBlock) (hb:a.heap.size<=base):KeepN R M a w' :=
 ⟨Am h.size hg.size,fun g o h1 h2 h3 h4=>(hg.block g (Ag (Ad.1 h1).1 h.size) (fun e=>by have:=(Bn ho g e.symm).1;have:=(Ad.1 h1).1;omega)).trans (h.keep g o h1 h2 h3 h4)⟩
theorem ABd.apart {R:Nat} {g0 g1 g2 g3:Value} {qs:List QS} (h:ABd w base R M NE g0 g1 g2 g3 qs):(∀cur T,T≠102->w.heap[R]? ≠ some (.cells cur T (0,0)))/\∀cur T,w.heap[M]? ≠ some (.cells cur T (0,0)):=by
 obtain⟨⟨vS,h1,_⟩,⟨l,h3,_⟩,_,_⟩:=h;refine⟨fun cur T hT e=>?_,fun cur T=>h3.is.not_cells⟩;rw[h1]at e;injection e with e;injection e with _ e _;exact hT e.symm
theorem ABd.only {R:Nat} {g0 g1 g2 g3:Value} {qs:List QS} (h:ABd w base R M NE g0 g1 g2 g3 qs) (hg:w.grownBy w' (some D)) (hD:∃es ck,w.heap[D]?=some (.map es ck)) (hM:D≠M):ABd w' base R M NE g0 g1 g2 g3 qs:=by
 obtain⟨es,ck,hD⟩:=hD;obtain⟨⟨vS,h1,h2⟩,⟨l,h3,h4⟩,h5,h6⟩:=h;have hb:∀(g:Nat) (o:Obj),w.heap[g]?=some o->g≠D->w'.heap[g]?=some o:=fun g o h hn=>(hg.block g (Ad.1 h).1 (fun e=>by injection e with e;exact hn e)).trans h;have hc:∀(g:Nat) (cur:Array Value) (T:TypeId),w.heap[g]?=some (.cells cur T (0,0))->w'.heap[g]?=some (.cells cur T (0,0)):=fun g cur T h=>hb g _ h fun e=>by rw[e,hD]at h;cases h
 refine⟨⟨vS,hc _ _ _ h1,?_,fun q hq=>((h2.2 q hq).keep fun g cur T _ h=>hc g cur T h).more hg.size (Af _)⟩,⟨l,h3.block ?_,h4⟩,h5,h6⟩
 ·exact Ba h2.1 hg (zah h2.1 hD fun cur e=>by cases e)
 ·exact hg.block _ h3.lt (fun e=>by injection e with e;exact hM e.symm)
theorem ABd.ownE {R:Nat} {g0 g1 g2 g3:Value} {qs:List QS} {xs:List (Int×Int)} (h:ABd w base R M NE g0 g1 g2 g3 qs) (ho:aJ 91 2 prF w b v xs) (hg:w.grownBy w' v.ownBlock) (hb:NE<=b):ABd w' base R M NE g0 g1 g2 g3 qs:=by
 obtain⟨⟨vS,h1,h2⟩,⟨l,h3,h4⟩,h5,h6⟩:=h;have hc:∀(g:Nat) (cur:Array Value) (T:TypeId),T≠91->w.heap[g]?=some (.cells cur T (0,0))->w'.heap[g]?=some (.cells cur T (0,0)):=fun g cur T hT h=>aI ho hg h fun cur=>aH hT;refine⟨⟨vS,hc _ _ _ (by decide) h1,?_,fun q hq=>((h2.2 q hq).keep fun g cur T hT h=>?_).more hg.size (Af _)⟩,⟨l,h3.block ?_,h4⟩,h5,h6⟩
 ·rcases h2.1.2 with h0|⟨g,cap,cur,e,aa,ab,hr⟩
  ·exact⟨h2.1.1,.inl h0⟩
  ·exact⟨h2.1.1,.inr ⟨g,cap,cur,e,aa,hc _ _ _ (by decide) ab,hr⟩⟩
 ·rcases hT with⟨rfl,_⟩|⟨rfl,ac⟩
  ·exact hc _ _ _ (by decide) h
  ·exact(hg.block g (Ad.1 h).1 (fun e=>by have:=(Bn ho g e.symm).1;omega)).trans h
 ·obtain⟨es,ck,hm,_⟩:=h3;exact(aI ho hg hm fun cur e=>by cases e).trans hm.symm
open Go.ChangeShapes Go.WideShapes Go.Deep Go.RowKit Go.Joins in
theorem zdT {a:World} (h:a.grownBy w (some D)) (hD:∃es ck,a.heap[D]?=some (.map es ck)) (hc:a.cell? p=some u):w.cell? p=some u:=by
 obtain⟨es,ck,hD⟩:=hD
 have aa:some p.block≠some D:=fun e=>by
  injection e with e;unfold World.cell? at hc;rw[e,hD]at hc;cases hc
 rw[Cb (h.block p.block (Bi hc) aa)];exact hc
theorem zjo {cl:List Au.It} {p:List (List Au.It)×List (Int×Int)} {qs:List QS} (A:Option Addr) (c:Nat) (hp:aV qs=p.1) (aa:Au.mv G cl s≠[]):Au.edge G cl p s=(aV (ziw qs (Au.mv G cl s) A c),p.2++[(s,zi6 qs (Au.mv G cl s))]):=by
 unfold Au.edge ziw zi6;rw[AG aa,hp];by_cases h:Au.fnd p.1 (Au.mv G cl s)<0
 ·rw[AG (by omega),Az h,Az h];have e:p.1.length=qs.length:=by rw[<-hp];unfold aV;rw[Bd]
  rw[e,<-hp];unfold aV bF;rw[Bf];rfl
 ·rw[Az (by omega),AG h,AG h,hp]
theorem zkH (qs new:List QS) (k:List Au.It) (A:Option Addr) (c:Nat) (h:∀q∈new,q.2.1=[]):∃new',ziw (qs++new) k A c=qs++new'/\(∀q∈new',q.2.1=[])/\new'.length<=new.length+1:=by
 unfold ziw;split
 ·refine⟨new++[bF k A c],by rw[Ch],fun q hq=>?_,by simp⟩;rcases Bs.1 hq with hq|hq
  ·exact h q hq
  ·rw[AJ.1 hq];rfl
 ·exact⟨new,rfl,h,by omega⟩
theorem zci {T:TypeId} (x:Int×Int) (w:World) (g:Nat) (hb:w.heap[g]?=some (.cells #[.int .i64 x.1,.int .i64 x.2] T (0,0))):∀j u,(prF x)[j]?=some u->w.cell? ⟨g,j,none⟩=some u:=fun j u hu=>by
 refine(AD w g j _ _ _ hb).trans ?_
 match j,hu with
 | 0,hu=>exact hu
 | 1,hu=>exact hu
 | j+2,hu=>simp[prF]at hu
def zeQ (G:Gm.Gr) (w:World) (base R M NE:Nat) (g0 g1 g2 g3:Value) (qs:List QS) (k:List Au.It) (e:Ending) (w':World):Prop :=
 ∃v new,e=.returned v/\aJ 91 2 prF w' w.heap.size v (Au.edges G (Au.clo G k) (aV qs,[]) (Au.syms G)).2/\aV (qs++new)=(Au.edges G (Au.clo G k) (aV qs,[]) (Au.syms G)).1/\(∀q∈new,q.2.1=[])/\ABd w' base R M NE g0 g1 g2 g3 (qs++new)/\Below base w w'/\KeepN R M w w'
theorem zgu (G:Gm.Gr) (w:World) (base R M NE B:Nat) (AT AN AR:Option Addr) (cT cN cR:Nat) (qs:List QS) (k:List Au.It) (A:Option Addr) (c:Nat) (hg:aR w B (.agg #[.slice AT G.ts.length cT,.slice AN G.ns.length cN,.slice AR G.rs.length cR,.int .i64 G.st]) G) (hf:Gm.Fit G) (U:Gm.Ok G) (hB:B<=base) (h:ABd w base R M NE (.slice AT G.ts.length cT) (.slice AN G.ns.length cN) (.slice AR G.rs.length cR) (.int .i64 G.st) qs) (hk:ziv 60 w base w.heap.size (k,A,c)) (hi:∀x∈k,Au.isI G x=true) (hl:k.length<=1000) (hq:qs.length<=1000) (hE:NE<=w.heap.size) :
  Calls Tryz.prog 47 #[.pointer (some ⟨R,0,none⟩),.slice A k.length c] w (zeQ G w base R M NE (.slice AT G.ts.length cT) (.slice AN G.ns.length cN) (.slice AR G.rs.length cR) (.int .i64 G.st) qs k):=by
 have HG:=aA hg;have HF:=aA hf;have J:=aA U;have ba:=aA hB;have HH:=aA h;have HK:=aA hk;have HI:=aA hi;have HQ:=aA hq;have N:=aA h.base_le;have cA:=aA hE;have O:=fun t w=>EP (P:=Tryz.prog) t w;obtain⟨w1,aj⟩:∃y,y=w.alloc (.map #[] 0):=⟨_,rfl⟩
 have cB:w1.heap.size=w.heap.size+1:=by rw[aj];simp
 have C:Hid (Below w.heap.size w w1):=aA (by rw[aj];exact(AB _ _).alloc (Af _) _);have bz:Hid (Mw.MapIs zgd w1 w.heap.size []):=aA (by rw[aj];exact Mw.MapIs.made zgd w);have bD:=aA (h.below C.o)
 have bM:=aA (zgv _ G B k A c w.heap.size w1 (hg.below C.o (Am hB h.base_le)) hf U (Am hB (Am h.base_le C.o.size)) (hk.2.2.rd.below C.o (Af _)) C.o.size (fun x hx=>by
  have hx:=Au.isI_iff.1 (hi x hx)
  have:=Au.sy_le U (Au.rls_mem.2 hx.1)
  have:=U.r40
  unfold Gm.In
  omega) hl)
 rw[List.filter_eq_self.2 hi]at bM;have bT:Hid (∀x∈Au.clo G k,Au.isI G x=true):=aA (fun x hx=>Au.clo_is hx);have bb:Hid ((Au.clo G k).length<=287):=aA (Au.clo_le2 U U.r40 k);obtain⟨⟨vS,h1,h2⟩,_⟩:=bD.o;have r0:=aT h1;have r1:=aU h1;have r2:=aZ h1;have r3:=bG h1;unfold zeQ;generalize cC:Au.clo G k=cl at *;clear hg hf U hB h hk hi hq h1 h2 cC hE
 go_enter Tryz.func47,Tryz.ntmps47
 go_upto_region 2 with fail
 rw[<-aj];clear aj;go_wp2_with fail
 refine bM.o.mono ?_;rintro _ w2 ⟨v2,rfl,bX,ax⟩;obtain⟨A2,c2,rfl,bc,bd,ak⟩:=aJ.form bX aG;have cD:=aA ak;have bY:=aA ax;have bZ:=aA (bD.o.below ax);have ay:Hid (Mw.MapIs zgd w2 w.heap.size []):=aA (bz.o.block (ax.block _ bz.o.lt));have cE:Hid (MvSt G w2 w2.heap.size w.heap.size (cl.take 0)):=aA (MvSt.start G w2 _ ay.o);have ds:Hid (w.heap.size<w2.heap.size):=aA ay.o.lt;have cF:(cl.length:Int)<=287:=by have:=bb.o;omega
 clear bX ax ak r0 r1 r2 r3 bc bd cB O;obtain⟨D,cG⟩:∃D,D=w.heap.size:=⟨_,rfl⟩
 have dt:=aA cG;go_wp2;go_loopw [23] (fun vi wr=>∃i:Nat,i<=cl.length/\vi=.int .i64 i/\Hid (MvSt G wr w2.heap.size w.heap.size (cl.take i))/\Hid (w2.grownBy wr (some w.heap.size))) (fun vi _=>cl.length-(intOf vi).toNat)
 case atStart=>exact⟨0,AU _,rfl,cE,aA (AM _ _)⟩
 case round =>
  obtain⟨i,hi,rfl,HM,HW⟩:=hrel;by_cases b:i<cl.length
  ·obtain⟨g,o,rfl,bf,hc⟩:=cD.o (by omega);obtain⟨es2,ck2,X,_⟩:=ay.o;have bg:∃es ck,w2.heap[w.heap.size]?=some (.map es ck):=⟨es2,ck2,X⟩
   have k0:wr.cell? ⟨g,o+i*2,none⟩=some (.int .i64 (cl[i]).1):=zdT HW.o bg (hc i b 0 _ rfl);have k1:wr.cell? ⟨g,o+i*2+1,none⟩=some (.int .i64 (cl[i]).2):=zdT HW.o bg (hc i b 1 _ rfl);have az:Hid (Au.isI G cl[i]=true):=aA (bT.o _ (AC b));have F:Hid (cl.take (i+1)=cl.take i++[cl[i]]):=aA (AI b);have r:Hid (Below w.heap.size w w2):=aA (C.o.trans (bY.o.mono C.o.size));have V:Hid (Below w.heap.size w wr):=aA (zaa r.o HW.o (Af _) r.o.size);obtain⟨⟨vS,h1,h2⟩,_⟩:=bZ.o;have cH:R≠w.heap.size:=fun e=>by rw[e,X]at h1;cases h1
   have b0:=(HW.o.block R (Ad.1 h1).1 (fun e=>by injection e with e;exact cH e)).trans h1;obtain⟨wi,a0⟩:∃y,y=wr.alloc (.cells #[.int .i64 (cl[i]).1,.int .i64 (cl[i]).2] 60):=⟨_,rfl⟩
   have Z:Hid (Below wr.heap.size wr wi):=aA (by rw[a0];exact(AB _ _).alloc (Af _) _);have b1:wi.heap[wr.heap.size]?=some (.cells #[.int .i64 (cl[i]).1,.int .i64 (cl[i]).2] 60 (0,0)):=by rw[a0];exact AE wr _
   have ac:=aA b1;have a1:=aA (aC Z.o b0);have b2:=aA (fun(y:World) (h:Below wi.heap.size wi y)=>zc3 _ G B cl[i] y (HG.o.below (V.o.trans ((Z.o.trans (h.mono Z.o.size)).mono V.o.size)) (Am ba.o N.o)) HF.o (Am (Am ba.o N.o) (Am V.o.size (Am Z.o.size h.size))));have b3:=aA (Au.nxP_is az.o);have cI:=aA (fun s (h:Au.nx G cl[i]=some s)=>Au.nx_in J.o az.o h);have b4:=aA (Au.isI_iff.1 az.o);have cJ:=aA (Au.sy_le J.o (Au.rls_mem.2 b4.o.1));have cK:=aA (fun s=>Au.mv_le G (cl.take i) s);clear hc bf bg X h1 h2 b0 b1 az;generalize cl[i]=x at *;go_upto_region 5 with fail
   rw[<-a0];clear a0 k0 k1;have z0:=fun z:Calm.On wi.heap.size wi=>aT (aC z.2 a1.o);have z1:=fun z:Calm.On wi.heap.size wi=>aU (aC z.2 a1.o);have z2:=fun z:Calm.On wi.heap.size wi=>aZ (aC z.2 a1.o);have z3:=fun z:Calm.On wi.heap.size wi=>bG (aC z.2 a1.o);have q0:=fun z:Calm.On wi.heap.size wi=>aT (aC z.2 ac.o);have q1:=fun z:Calm.On wi.heap.size wi=>aU (aC z.2 ac.o);have b5:=zam wi;refine CalmN.region_tree (fun x=>∃z:Calm.On wi.heap.size wi,x=z.1) (.one [0,1,2,3,4] 5 (.fin [6,7,8,9,10])) (by kernel_rfl) (by kernel_rfl) (fun _ _ d _ _ h=>by cases d <;> exact h) b5.o ?_;simp only[CalmN.wpT,CalmN.wpSt,CalmN.pickOps,Aw,Ah,Aj];repeat (go_big_quiet_step (fail))
   refine Aq ?_;intro KK a2;rw[Az (by rfl)];go_wp2_with fail
   refine(b2.o wi.drew (aB (AB _ _) 1)).mono ?_;rintro _ w3 ⟨rfl,ag⟩;have ag:Below wi.heap.size wi w3:=(aB (AB _ wi) 1).trans ag;have a3:=zbk ag;have b6:Hid (Below wr.heap.size wr w3):=aA (Z.o.trans (ag.mono Z.o.size));have b7:=aA (HM.o.below b6.o);have bh:Hid (w2.grownBy w3 (some w.heap.size)):=aA (zab HW.o (aL b6.o _));have al:=aA (aC ag ac.o);rw[b3.o];clear ag z0 z1 z2 z3 q0 q1 b2 b5 b3;cases hq:Au.nx G x with
   | none =>
    have HX:=aA (b7.o.skip hq);clear hq;go_wp2_with fail
    refine a2 _ _ a3.o _ (fun _ h=>h) a3.o ?_;clear a2;repeat (go_big_quiet_step (fail))
    refine Aq ?_;go_wp2;go_roundw
    case rel=>exact⟨i+1,b,by go_num,aA (by rw[F.o];exact HX.o),bh⟩
    case measure=>simp[intOf];omega
   | some s =>
    have b8:=cI.o s hq;have cL:=Gm.has_iff.1 (Au.syms_mem.1 b8);have cM:=(Gm.nons_iff G).1 J.o.n;have aa:Hid (Gm.In s):=aA (by unfold Gm.In;have:=(Gm.terms_iff G.ts).1 J.o.t;omega);have du:IntKind.i64.wrap (x.2+1)=x.2+1:=B5 _ (by have:=b4.o;have:=cJ.o;omega);obtain⟨ml,O,ah,b9⟩:=b7.o.m;have ab:zgd.enc s=.int .i64 s:=rfl;have lk:=Mw.run_look (E:=zgd) O zml (t:=140) Tryz.underlying140 (z:=.slice none 0 0) (by kernel_rfl) (x:=s) aa.o false;rw[ab]at lk;simp only[Dy,if_false]at lk;have cO:=aA (fun(y:World) (hy:Mw.MapIs zgd y w.heap.size ml) (u:Value)=>Mw.run_put (x:=s) hy zml Tryz.underlying140 aa.o u)
    have ad:aJ 60 2 prF w3 w2.heap.size ((Mw.asc ml s).getD (.slice none 0 0)) (Au.mv G (cl.take i) s):=by
     rcases ah s with q|⟨v,p1,p2,p3⟩
     ·rw[q.1,q.2];exact aJ.nil _ _
     ·rw[p1];exact p3
    have bi:=aA ad;have dv:Hid ((Mw.asc ml s).getD (.slice none 0 0)=(Mw.asc ml s).getD (.slice none 0 0)):=aA rfl;generalize hv:(Mw.asc ml s).getD (.slice none 0 0)=v at *;have HV:=aA hv;have cP:=aA O;have cQ:=aA ah;have cS:=aA b9;have cU:=aA hq;have x0:=aT al.o;have x1:=aU al.o;have cV:=aA (show(Au.mv G (cl.take i) s).length<=1000 by have:=cK.o s;have h2:=List.length_take_le i cl;have:=bb.o;rw[Bb]at *;omega);have ae:=aA (bi.o.alloc (.cells #[.int .i64 x.1,.int .i64 (x.2+1)] 60));have am:Hid (w2.grownBy (w3.alloc (.cells #[.int .i64 x.1,.int .i64 (x.2+1)] 60)) (some w.heap.size)):=aA (aK bh.o _);obtain⟨es3,ck3,bj,ao⟩:=cP.o;have ca:=(Bu w3 (.cells #[.int .i64 x.1,.int .i64 (x.2+1)] 60) w.heap.size (Ad.1 bj).1).trans bj;have cW:=aA ca;have cX:=aA ao;have af:=aA (AE w3 (.cells #[.int .i64 x.1,.int .i64 (x.2+1)] 60));have cb:(some s:Option Int).isSome=true:=rfl;obtain⟨Av,nv,cv,cY⟩:∃A n c,v=.slice A n c:=by obtain⟨A,c,e,_⟩:=aJ.form ad aG;exact⟨A,_,c,e⟩
    clear hq b8 cL cM O ah b9 hv ad bj ca ao;go_wp2_with fail
    refine a2 _ _ a3.o _ (fun _ h=>h) a3.o ?_;clear a2;repeat (go_big_quiet_step (fail))
    refine Aq ?_;subst cY;have dw:Hid (w2.heap.size<=w3.heap.size):=aA bh.o.size
    go_wp2_with (first
     | (at_builtin;refine zd9 (f:=prF) rfl (.tmp 41) (.tmp 48) _ rfl Tryz.underlying52 _ 16 zbu (by decide) (by decide) (by decide) aG zaG w2.heap.size _ (Au.mv G (cl.take i) s) rfl ae.o _ _ (x.1,x.2+1) rfl (zbs (x.1,x.2+1) _ _ af.o) (by have:=cV.o;omega) am.o.size ?_;intro v5 w5 cc a4 ap;have bk:=aI ae.o a4 cW.o (fun cur e=>by cases e);have cZ:=cO.o w5 ⟨_,_,bk,cX.o⟩ v5)
     | (at_mapUpdate;refine Mw.wpList_store rfl _ _ _ _ rfl cZ rfl rfl rfl ?_;rintro w6 ⟨cd,H⟩))
    have c3:Hid (w3.grownBy w5 (Value.slice Av nv cv).ownBlock):=aA (by
     have h1:w3.grownBy (w3.alloc (.cells #[.int .i64 x.1,.int .i64 (x.2+1)] 60)) (Value.slice Av nv cv).ownBlock:=aK (AM _ _) _;exact zab h1 a4)
    have ce:v5.ownBlock=(Value.slice Av nv cv).ownBlock \/ ∃j,w3.heap.size<=j/\v5.ownBlock=some j:=ap.imp id fun e=>⟨_,by simp,e⟩
    have c5:=aA (MvSt.put cU.o cQ.o cS.o HV.o.symm cc c3.o ce cd H ⟨_,_,bk⟩);have c6:Hid (w2.grownBy w6 (some w.heap.size)):=aA (zab (ziZ am.o ae.o a4 (Af _)) H);clear cc a4 ap bk cd H ce lk x0 x1;go_roundw
    case rel=>exact⟨i+1,b,by go_num,aA (by rw[F.o];exact c5.o),c6⟩
    case measure=>simp[intOf];omega
  ·obtain rfl:i=cl.length:=by omega
   rw[Bk]at HM;obtain⟨es2,ck2,X,_⟩:=ay.o
   have cf:Hid (w.heap.size≠M):=aA (by
    obtain⟨_,⟨l,h3,_⟩,_⟩:=HH.o
    have:=h3.lt
    omega)
   have cg:=aA (bZ.o.only HW.o ⟨es2,ck2,X⟩ cf.o);have r:Hid (Below w.heap.size w w2):=aA (C.o.trans (bY.o.mono C.o.size));have V:Hid (Below w.heap.size w wr):=aA (zaa r.o HW.o (Af _) r.o.size);obtain⟨wo,c7⟩:∃wo:World,wo=wr:=⟨_,rfl⟩
   subst c7;obtain⟨⟨vS,h1,h2⟩,_⟩:=cg.o;have r0:=aT h1;have r1:=aU h1;have r2:=aZ h1;have r3:=bG h1;have c8:=(Gm.terms_iff G.ts).1 J.o.t;have c9:=(Gm.nons_iff G).1 J.o.n;have da:=aA (zir _ G B wo (HG.o.below V.o (Am ba.o N.o)) (by omega) (by omega));have ch:Hid ((Au.syms G).length<=40):=aA (by rw[Au.syms_len];omega)
   have db:Hid (∀s∈Au.syms G,Gm.In s):=aA (fun s hs=>by
    have:=Gm.has_iff.1 (Au.syms_mem.1 hs)
    unfold Gm.In;omega)
   generalize ci:Au.syms G=sy at *;have cj:=aA ci;clear h1 h2 X c8 c9 ci;go_wp2_with fail
   refine da.o.mono ?_;rintro _ w4 ⟨v4,rfl,ai,aq⟩;obtain⟨A4,c4,rfl,bc,bd,_⟩:=aS.form ai;have dx:=aA aq;have dc:=aA ai;have bl:=aA (cg.o.below aq);have cm:=aA (HM.o.below aq);have cn:Hid (Below w.heap.size w w4):=aA (V.o.trans (aq.mono V.o.size));have de:(sy.length:Int)<=40:=by have:=ch.o;omega
   have bm:Hid (KeepN R M w w4):=aA (.below cn.o);clear ai aq r0 r1 r2 r3 bc bd;go_wp2;go_loopw [10,57] (fun vl vi wr=>∃(j:Nat) (new:List QS),j<=sy.length/\vi=.int .i64 j/\new.length<=j/\Hid (aJ 91 2 prF wr w.heap.size vl (Au.edges G cl (aV qs,[]) (sy.take j)).2)/\Hid (aV (qs++new)=(Au.edges G cl (aV qs,[]) (sy.take j)).1)/\Hid (∀q∈new,q.2.1=[])/\Hid (ABd wr base R M NE (.slice AT G.ts.length cT) (.slice AN G.ns.length cN) (.slice AR G.rs.length cR) (.int .i64 G.st) (qs++new))/\Hid (Below base w wr)/\Hid (KeepN R M w wr)/\Hid (KeepM R M w4 wr)/\Hid ((Au.edges G cl (aV qs,[]) (sy.take j)).2.length<=j)) (fun _ vi _=>sy.length-(intOf vi).toNat)
   case atStart=>exact⟨0,[],AU _,rfl,Af _,aA (by simpa[Au.edges] using aJ.nil _ _),aA (by simp[Au.edges]),aA (by simp),by simpa using bl,aA (cn.o.mono N.o),bm,aA (KeepM.refl _ _ _),aA (by simp[Au.edges])⟩
   case round =>
    obtain⟨j,new,hj,rfl,dy,HL,HP,HN,HA,bo,a5,ar,bp⟩:=hrel;obtain⟨Al,cl',rfl,_,_,_⟩:=aJ.form HL.o aG;by_cases b:j<sy.length
    ·have I:=bl.o.apart;have ai:aS wr wo.heap.size (.slice A4 sy.length c4) sy:=zg5 dc.o ar.o.keep (fun cur=>I.1 cur _ (by decide)) (fun cur=>I.2 cur _) (by decide) (by decide);obtain⟨A4',c4',df,_,_,ak⟩:=aS.form ai;injection df with bq br bs;subst bq;clear br bs;obtain⟨g,o,rfl,bf,hc⟩:=ak (by omega);have k0:=hc j b;rw[L.gd_lt b]at k0;obtain⟨ml0,dg,_⟩:=cm.o.m;obtain⟨es4,ck4,a6,_⟩:=dg
     have dh:w.heap.size≠R:=fun e=>by
      obtain⟨⟨vS,h1,_⟩,_⟩:=bl.o;rw[<-e,a6]at h1;cases h1
     have ao:=ar.o.keep _ _ a6 dh cf.o (fun cur fr e=>by cases e) (fun cur fr e=>by cases e);have di:=aA (cm.o.keep (ao.trans a6.symm) (fun g cur _ hg=>ar.o.keep g _ hg (fun e=>I.1 cur 60 (by decide) (by rw[<-e];exact hg)) (fun e=>I.2 cur 60 (by rw[<-e];exact hg)) (fun cur' fr e=>by injection e with _ e _;exact absurd e (by decide)) (fun cur' fr e=>by injection e with _ e _;exact absurd e (by decide))));have F:Hid (Au.edges G cl (aV qs,[]) (sy.take (j+1))=Au.edge G cl (Au.edges G cl (aV qs,[]) (sy.take j)) sy[j]):=aA (by rw[AI b,Au.edges_snoc]);have aa:Hid (Gm.In sy[j]):=aA (db.o _ (AC b));obtain⟨ml,O,ah,_⟩:=di.o.m;have ab:zgd.enc sy[j]=.int .i64 sy[j]:=rfl;have lk:=Mw.run_look (E:=zgd) O zml (t:=140) Tryz.underlying140 (z:=.slice none 0 0) (by kernel_rfl) (x:=sy[j]) aa.o true;rw[ab]at lk;have bu:=ah sy[j];generalize sy[j]=s at *;generalize Au.edges G cl (aV qs,[]) (sy.take j)=p at *;clear hc bf a6 ao O ah I ai ak ab;rcases bu with⟨e1,e2⟩|⟨v,e1,e2,e3⟩
     ·rw[e1]at lk;simp at lk;have HE:Hid (Au.edge G cl p s=p):=aA (by unfold Au.edge;rw[Az e2]);clear e1 e2;go_wp2;go_roundw
      case rel=>exact⟨j+1,new,b,by go_num,by omega,aA (by rw[F.o,HE.o];exact HL.o),aA (by rw[F.o,HE.o];exact HP.o),HN,HA,bo,a5,ar,aA (by rw[F.o,HE.o];have:=bp.o;omega)⟩
      case measure=>simp[intOf];omega
     ·rw[e1]at lk;simp at lk;obtain⟨Av,cv,rfl,co,au,_⟩:=aJ.form e3 aG;have cp:∀x∈Au.mv G cl s,Au.isI G x=true:=fun x hx=>Au.mv_is bT.o hx;have a9:=aA (zjo (qs:=qs++new) Av cv HP.o e2);have cq:=aA (zcw wr base R M NE _ _ _ _ (qs++new) (Au.mv G cl s) Av cv HA.o ⟨co,by unfold maxLen at au;omega,(aJ.rowP e3).less (Am (Am N.o r.o.size) (Af _))⟩ (Au.txt_in J.o J.o.r40 cp) (by have:=Au.mv_le G cl s;have:=bb.o;omega) (by have:=HQ.o;rw[AQ];have:=ch.o;omega));obtain⟨new',cr,cs,dz⟩:=zkH qs new (Au.mv G cl s) Av cv HN.o;rw[cr]at cq a9;have dj:=aA cs;have dk:Hid (p.2.length<=1000):=aA (by have:=bp.o;omega);generalize zi6 (qs++new) (Au.mv G cl s)=num at *;generalize (Au.mv G cl s).length=nv at *;clear e1 e2 e3 cp cr cs co au;go_wp2_with fail
      refine cq.o.mono ?_;rintro _ w5 ⟨rfl,cu,cw,av⟩;have I:=HA.o.apart;have cx:=zgn HL.o av (fun cur=>I.1 cur _ (by decide)) (fun cur=>I.2 cur _);have dl:=aA (cu.below ((AB w5.heap.size w5).alloc (Af _) (.cells #[.int .i64 s,.int .i64 num] 91)));have dm:Hid (Below base w (w5.alloc (.cells #[.int .i64 s,.int .i64 num] 91))):=aA ((bo.o.trans cw).alloc (Am N.o (Am a5.o.size av.size)) _);have bv:Hid (KeepN R M w (w5.alloc (.cells #[.int .i64 s,.int .i64 num] 91))):=aA ((a5.o.trans av).trans (.below ((AB w5.heap.size w5).alloc (Af _) _)));have bw:Hid (KeepM R M w4 (w5.alloc (.cells #[.int .i64 s,.int .i64 num] 91))):=aA ((ar.o.trans (.of av)).trans (.of (.below ((AB w5.heap.size w5).alloc (Af _) _))));have aw:=aA (cx.alloc (.cells #[.int .i64 s,.int .i64 num] 91));have af:=aA (AE w5 (.cells #[.int .i64 s,.int .i64 num] 91));clear cu cw av cx I;go_wp2_with (at_builtin;refine zbK (f:=prF) rfl (.tmp 68) (.tmp 74) _ rfl Tryz.underlying54 _ 16 zhS (by decide) (by decide) (by decide) aG zaG w.heap.size _ p.2 rfl aw.o _ _ (s,num) rfl (zci (s,num) _ _ af.o) (by have:=dk.o;omega) bv.o.size ?_;intro v6 w6 cy H)
      have dn:=aA (dl.o.ownE aw.o H cA.o);have dp:Hid (Below base w w6):=aA (dm.o.grown H (Am N.o bv.o.size) (fun k e=>Am N.o (Bn aw.o k e).1));have dq:=aA (bv.o.ownAt aw.o H (Af _));have bx:=aA (bw.o.trans (.own aw.o H));have dr:=aA cy;clear cy H lk k0;go_roundw
      case rel=>exact⟨j+1,new',b,by go_num,by omega,aA (by rw[F.o,a9.o];exact dr.o),aA (by rw[F.o,a9.o]),dj,dn,dp,dq,bx,aA (by rw[F.o,a9.o];have:=bp.o;simp;omega)⟩
      case measure=>simp[intOf];omega
    ·obtain rfl:j=sy.length:=by omega
     generalize (Au.edges G cl (aV qs,[]) (sy.take sy.length)).2.length=nl at *;rw[Bk]at HL HP;generalize hp:Au.edges G cl (aV qs,[]) sy=p at *;have cz:=aA hp;clear hp;go_wp2;go_ret
     exact⟨_,new,rfl,by rw[cj.o,cz.o];exact HL.o,by rw[cj.o,cz.o];exact HP.o,HN.o,HA.o,bo.o,a5.o⟩
namespace Au
noncomputable def bldE (G:Gm.Gr):Int:=if Gm.isB G=true then(if(bld G).isSome=true then 0 else 5) else 1
noncomputable def bldS (G:Gm.Gr):List StT:=if Gm.isB G=true then(match bld G with|some p=>p.1.zip p.2|none=>[]) else []
theorem bld_no (h:Gm.isB G=false):bldE G=1/\bldS G=[]:=by unfold bldE bldS;rw[h];exact⟨rfl,rfl⟩
theorem bld_many (h:Gm.isB G=true) (k:bld G=none):bldE G=5/\bldS G=[]:=by unfold bldE bldS;rw[h,k];exact⟨rfl,rfl⟩
theorem bld_ok {ks:List (List It)} (h:Gm.isB G=true) (k:bld G=some (ks,es)):bldE G=0/\bldS G=ks.zip es:=by unfold bldE bldS;rw[h,k];exact⟨rfl,rfl⟩
end Au
theorem Gm.isB_right (h:Gm.isB G=true):Gm.right G=true:=by
 cases hr:Gm.right G
 ·unfold Gm.isB at h;rw[Gm.rdE_no hr]at h;cases h
 ·rfl
def zgy (G:Gm.Gr) (w:World) (e:Ending) (w':World):Prop :=
 ∃A c,e=.returned (.tuple #[.slice A (Au.bldS G).length c,.int .i64 (Au.bldE G)])/\(Au.bldS G).length<=c/\c<=9223372036854775807/\bW w' w'.heap.size A (Au.bldS G)/\Below w.heap.size w w'
theorem zgy.nil {er:Int} (h:Au.bldE G=er/\Au.bldS G=[]) (hb:Below w.heap.size w w'):zgy G w (.returned (.tuple #[.slice none 0 0,.int .i64 er])) w':=by
 refine⟨none,0,?_,?_,by omega,?_,hb⟩
 ·rw[h.1,h.2];rfl
 ·rw[h.2];exact Af _
 ·rw[h.2];exact bW.nil _ _ _
section
variable {w:World} {base R M NE:Nat} {g0 g1 g2 g3:Value} {qs:List QS}
theorem ABd.setSt {vS:Value} {c:Nat} (h:ABd w base R M NE g0 g1 g2 g3 qs) (hv:w.heap[R]?=some (.cells (abC g0 g1 g2 g3 vS M) 102 (0,0))) (e:vS=.slice (some ⟨g,0,none⟩) n c) (i:Nat) (y:QS) (hi:i<qs.length) (hy:y.1=(qs[i]).1) (hq:zjA w base w.heap.size NE y):ABd (w.setCell ⟨g,i*2+1,none⟩ (qpC y.2)) base R M NE g0 g1 g2 g3 (qs.set i y):=by
 obtain⟨⟨vS',h1,h2⟩,⟨l,h3,h4⟩,h5,h6⟩:=h
 have ev:vS'=vS:=by
  rw[h1]at hv;injection hv with hv;injection hv with hv _ _;unfold abC at hv;injection hv with hv;injection hv with _ hv;injection hv with _ hv;injection hv with _ hv;injection hv with _ hv;injection hv with hv _
 subst ev;rw[e]at h2;have ac:=h2.set1 i y hi hy hq
 obtain⟨cur,aa⟩:∃cur,w.heap[g]?=some (.cells cur 56 (0,0)):=by
  rcases h2.1.2 with⟨e,_⟩|⟨g2,cap,cur,e,_,hg,_⟩
  ·cases e
  ·injection e with e _ _;injection e with e;injection e with e;subst e;exact⟨cur,hg⟩
 have ad:R≠g:=fun e=>by rw[e,aa]at h1;injection h1 with h1;exact aH (by decide) h1
 have ae:M≠g:=fun e=>by rw[e]at h3;exact h3.is.not_cells aa
 have ek:aV (qs.set i y)=aV qs:=by
  unfold aV;rw[Cx];refine CS fun j=>?_;rw[CT];by_cases ab:i=j
  ·subst ab;rw[Az rfl,Az (by simpa using hi),BH,AF hi];simp[hy]
  ·rw[AG ab]
 refine⟨⟨vS',(AP w ⟨g,i*2+1,none⟩ _ R ad).trans h1,?_⟩,⟨l,h3.block (AP w ⟨g,i*2+1,none⟩ _ M ae),by rw[ek];exact h4⟩,h5,h6⟩;rw[e];have e2:(w.setCell ⟨g,i*2+1,none⟩ (qpC y.2)).heap.size=w.heap.size:=by simp
 rw[e2];exact ac
end
theorem zh8 {α:Type} (es:List (List α)) (m:Nat) (x:List α):(es++List.replicate (m+1) []).set es.length x=(es++[x])++List.replicate m []:=by
 rw[Dx _ _ (Af _),Di,CO,CK,Ch];rfl
theorem zhw {new:List QS} (h:∀q∈new,q.2.1=[]):new.map (fun q:QS=>q.2.1)=List.replicate new.length []:=by
 induction new with
 | nil=>rfl
 | cons x r ih =>
  rw[Bw,Bv,CO,h x Bj,ih fun q hq=>h q (Bh _ hq)]
theorem zfP {qs new:List QS} {y:QS} (h:qs.map (fun q:QS=>q.2.1)=es++List.replicate (n-es.length) []) (aa:es.length<n) (hw:∀q∈new,q.2.1=[]):((qs++new).set es.length y).map (fun q:QS=>q.2.1)=(es++[y.2.1])++List.replicate ((n+new.length)-(es++[y.2.1]).length) []:=by
 rw[Cx,Bf,h,zhw hw,Ch,List.replicate_append_replicate,show n-es.length+new.length=(n+new.length-(es.length+1))+1 by omega,zh8,AQ,BB]
theorem zgw (v:Value) (G:Gm.Gr) (B:Nat) (w:World) (hg:aR w B v G) (hf:Gm.Fit G) (hB:B<=w.heap.size) :
  Calls Tryz.prog 25 #[v] w (zgy G w):=by
 have ai:=aA (fun y (h:Below w.heap.size w y)=>zkj v G B y (hg.below h hB) hf (Am hB h.size));have HG:=aA hg;have HF:=aA hf;have bh:=aA hB;obtain⟨AT,cT,AN,cN,AR,cR,rfl,_⟩:=hg;have f:=aA (aY.start 26 w #[.slice AT G.ts.length cT,.slice AN G.ns.length cN,.slice AR G.rs.length cR,.int .i64 G.st]);have g0:=f.o.c 0 _ rfl;have g1:=f.o.c 1 _ rfl;have g2:=f.o.c 2 _ rfl;have g3:=f.o.c 3 _ rfl;clear hf hB;cases hr:Gm.isB G
 ·have HQ:=aA (Au.bld_no hr);rw[hr]at ai;clear hr
  go_enter Tryz.func25,Tryz.ntmps25
  go_wp2_with fail
  refine(ai.o _ f.o.below).mono ?_;rintro _ w2 ⟨rfl,hb⟩;have HB:=aA (f.o.on hb);clear hb g0 g1 g2 g3;go_wp2
  go_ret2
  exact zgy.nil HQ.o HB.o.below
 ·have HR:=aA hr;have au:=aA (Gm.right_ok.1 (Gm.isB_right hr));rw[hr]at ai;have bX:=fun t w=>EP (P:=Tryz.prog) t w;clear hr
  go_enter Tryz.func25,Tryz.ntmps25
  go_wp2_with fail
  refine(ai.o _ f.o.below).mono ?_;rintro _ w2 ⟨rfl,hb⟩;have HB:=aA (f.o.on hb);have g0:=HB.o.c 0 _ rfl;have g1:=HB.o.c 1 _ rfl;have g2:=HB.o.c 2 _ rfl;have g3:=HB.o.c 3 _ rfl;clear hb;obtain⟨w3,n⟩:∃y,y=w2.alloc (.map #[] 0):=⟨_,rfl⟩
  have av:w3.heap.size=w2.heap.size+1:=by rw[n];simp
  have b3:Below w2.heap.size w2 w3:=by rw[n];exact(AB _ _).alloc (Af _) _
  have m3:Mw.MapSt zeT w3 w2.heap.size []:=by rw[n];exact Mw.MapSt.made zeT w2
  obtain⟨w4,b⟩:∃y,y=w3.alloc (.cells #[.slice AT G.ts.length cT,.slice AN G.ns.length cN,.slice AR G.rs.length cR,.int .i64 G.st,.slice none 0 0,.map (some w2.heap.size)] 102):=⟨_,rfl⟩
  have bY:w4.heap.size=w2.heap.size+2:=by rw[b];simp[av]
  have b4:Below w3.heap.size w3 w4:=by rw[b];exact(AB _ _).alloc (Af _) _
  have c4:w4.heap[w2.heap.size+1]?=some (.cells (abC (.slice AT G.ts.length cT) (.slice AN G.ns.length cN) (.slice AR G.rs.length cR) (.int .i64 G.st) (.slice none 0 0) w2.heap.size) 102 (0,0)):=by rw[b,<-av];exact AE w3 _
  have bZ:=HB.o.size;have d:Hid (ABd w4 w.heap.size (w2.heap.size+1) w2.heap.size w.heap.size (.slice AT G.ts.length cT) (.slice AN G.ns.length cN) (.slice AR G.rs.length cR) (.int .i64 G.st) []):=aA ⟨⟨_,c4,zaZ.nil _ _ _ _⟩,⟨[],m3.block (b4.block _ m3.lt),Au.NumOk.nil⟩,by omega,by omega⟩;have b0:Hid (Below w.heap.size w w4):=aA ((HB.o.below.trans (b3.mono (by omega))).trans (b4.mono (by omega)));obtain⟨w5,aj⟩:∃y,y=w4.alloc (.cells #[.int .i64 (-1),.int .i64 0] 60):=⟨_,rfl⟩
  have b5:Below w4.heap.size w4 w5:=by rw[aj];exact(AB _ _).alloc (Af _) _
  have c5:w5.heap[w4.heap.size]?=some (.cells #[.int .i64 (-1),.int .i64 0] 60 (0,0)):=by rw[aj];exact AE w4 _
  have aw:=aA (d.o.below b5);have bi:Hid (Below w.heap.size w w5):=aA (b0.o.trans (b5.mono (by omega)))
  have ak:=aA (zcw w5 w.heap.size (w2.heap.size+1) w2.heap.size w.heap.size _ _ _ _ [] [(-1,0)] (some ⟨w4.heap.size,0,none⟩) 1 aw.o ⟨Af _,by simp,fun _=>⟨w4.heap.size,_,rfl,by omega,(Ad.1 c5).1,c5,fun i hi j u hu=>by
   have:i=0:=by simp at hi;omega
   subst this
   match j,hu with
   | 0,hu=>exact hu
   | 1,hu=>exact hu
   | j+2,hu=>simp[prF]at hu⟩⟩ (fun z hz=>by simp[Au.txt]at hz;omega) (by simp) (by simp))
  have hN:zi6 [] [((-1:Int),(0:Int))]=0:=rfl;have hS:ziw [] [((-1:Int),(0:Int))] (some ⟨w4.heap.size,0,none⟩) 1=[bF [(-1,0)] (some ⟨w4.heap.size,0,none⟩) 1]:=rfl;rw[hN,hS]at ak;clear b3 m3 b4 c4 b5 c5 bZ hN hS;obtain⟨R,ax⟩:∃R,R=w2.heap.size+1:=⟨_,rfl⟩
  rw[<-ax]at ak d aw;go_upto_region 3 with fail
  go_upto_region 4 with fail
  rw[<-n,<-b,<-ax];clear n b av bY ax bX;obtain⟨M,ay⟩:∃M,M=w2.heap.size:=⟨_,rfl⟩
  rw[<-ay]at ak d aw;rw[<-ay];clear ay g0 g1 g2 g3;go_wp2_with fail
  rw[<-aj];clear aj;refine ak.o.mono ?_;rintro _ w6 ⟨rfl,bj,bk,bl⟩;have b1:=aA (bj.more (NE':=w6.heap.size) (Am (Am (Af _) bi.o.size) bl.size));have b2:=aA (bi.o.trans bk);have b6:Hid (Au.Inv G [[(-1,0)]] []):=aA (Au.Inv.start G);have az:Hid (Au.run G (302-([]:List (List (Int×Int))).length) [[(-1,0)]] []=Au.bld G):=aA rfl;have a0:Hid (aV [bF [((-1:Int),(0:Int))] (some ⟨w4.heap.size,0,none⟩) 1]=[[(-1,0)]]):=aA rfl;have b7:Hid ([bF [((-1:Int),(0:Int))] (some ⟨w4.heap.size,0,none⟩) 1].map (fun q:QS=>q.2.1)=[]++List.replicate (1-0) []):=aA rfl;clear bj bk bl;generalize [bF [((-1:Int),(0:Int))] (some ⟨w4.heap.size,0,none⟩) 1]=qs0 at *;go_wp2;go_loopw [5] (fun vi wr=>∃(ks:List (List Au.It)) (es:List (List (Int×Int))) (qs:List QS),vi=.int .i64 (es.length:Nat)/\ks.length<=300/\es.length<=ks.length/\Hid (Au.Inv G ks es)/\Hid (Au.run G (302-es.length) ks es=Au.bld G)/\Hid (aV qs=ks)/\Hid (qs.map (fun q:QS=>q.2.1)=es++List.replicate (ks.length-es.length) [])/\Hid (ABd wr w.heap.size R M wr.heap.size (.slice AT G.ts.length cT) (.slice AN G.ns.length cN) (.slice AR G.rs.length cR) (.int .i64 G.st) qs)/\Hid (Below w.heap.size w wr)) (fun vi _=>301-(intOf vi).toNat)
  case atStart=>exact⟨[[(-1,0)]],[],qs0,rfl,by simp,by simp,b6,az,a0,b7,b1,b2⟩
  case round =>
   obtain⟨ks,es,qs,rfl,al,bm,HI,a1,am,HE,HA,HW⟩:=hrel;obtain⟨⟨vS,h1,h2⟩,_⟩:=HA.o;have a2:qs.length=ks.length:=by rw[<-am.o];unfold aV;rw[Bd]
   by_cases g:es.length<ks.length
   ·have ao:es.length<qs.length:=by omega
    obtain⟨gS,cS,rfl,ap,aq,_⟩:=aJ.addr h2.1 (by omega);have c4:=zeY h1;have k0:wr.cell? ⟨gS,es.length*2,none⟩=some (.slice (qs[es.length]).1.2.1 (qs[es.length]).1.1.length (qs[es.length]).1.2.2):=aJ.cellAt h2.1 zad es.length 0 ao _ rfl
    have a3:ks.getD es.length []=(qs[es.length]).1.1:=by
     rw[<-am.o];unfold aV;rw[Ap,BH,AF ao];rfl
    have a4:(qs[es.length]).1.1∈ks:=by
     rw[<-a3,Ap,AF g];exact AC g
    have bo:=HI.o.it _ a4;have ar:=aA (zgu G wr w.heap.size R M wr.heap.size B AT AN AR cT cN cR qs (qs[es.length]).1.1 (qs[es.length]).1.2.1 (qs[es.length]).1.2.2 (HG.o.below HW.o bh.o) HF.o au.o bh.o HA.o ((h2.2 _ (AC ao)).1) bo.2 (Am (Au.kernel_le au.o au.o.r40 HI.o a4) (by omega)) (by omega) (Af _));unfold zeQ at ar;rw[am.o]at ar;have b8:Hid (Au.edges G (Au.clo G (qs[es.length]).1.1) (ks,[]) (Au.syms G)=Au.one G ks es.length):=aA (by unfold Au.one;rw[a3]);rw[b8.o]at ar;have bp:=aA (Au.run_step (G:=G) g al);have bq:=aA (HI.o.step g);generalize Au.one G ks es.length=O at *;generalize (qs[es.length]).1.1=k at *;generalize (qs[es.length]).1.2.1=Ak at *;generalize (qs[es.length]).1.2.2=ck at *;have b9:((es.length:Nat):Int)<((qs.length:Nat):Int):=by omega
    have br:=aA a2;have ca:=aA g;clear h1 h2 a3 a4 bo ap aq;go_wp2_with fail
    refine ar.o.mono ?_;rintro _ w3 ⟨v3,new,rfl,a5,ac,ae,bs,bu,af⟩;obtain⟨Ae,ce,rfl,a6,ag,_⟩:=aJ.form a5 aG;have bv:=aA (bs.more (NE':=w3.heap.size) af.size);have cb:=aA (HW.o.trans bu);obtain⟨⟨vS3,a9,l⟩,_⟩:=bv.o;have m:es.length<(qs++new).length:=by rw[AQ];omega
    obtain⟨gS3,cS3,rfl,ba,bb,ah⟩:=aJ.addr l.1 (by omega);have c43:=zeY a9;have d0:=aJ.cellAt l.1 zad es.length 1 m _ rfl;have cc:=aJ.lt l.1
    obtain⟨cur3,ab⟩:∃cur,w3.heap[gS3]?=some (.cells cur 56 (0,0)):=by
     rcases l.1.2 with⟨e,_⟩|⟨g2,cap,cur,e,_,hg,_⟩
     ·cases e
     ·injection e with e _ _;injection e with e;injection e with e;subst e;exact⟨cur,hg⟩
    have fz:=AH w3 gS3 (es.length*2+1) _ _ ab;have d:=aA (bv.o.setSt a9 rfl es.length (((qs++new)[es.length]).1,(O.2,Ae,ce)) m rfl ⟨(l.2 _ (AC m)).1,⟨a6,by unfold maxLen at ag;exact(Am ag (by omega)),(aJ.rowP a5).less HW.o.size⟩⟩);have cd:Hid (((qs++new).set es.length (((qs++new)[es.length]).1,(O.2,Ae,ce))).map (fun q:QS=>q.2.1)=(es++[O.2])++List.replicate ((ks.length+new.length)-(es++[O.2]).length) []):=aA (zfP (y:=(((qs++new)[es.length]).1,(O.2,Ae,ce))) HE.o ca.o ae)
    have cf:Hid (aV ((qs++new).set es.length (((qs++new)[es.length]).1,(O.2,Ae,ce)))=O.1):=aA (by
     rw[<-ac];unfold aV;rw[Cx];refine CS fun j=>?_;rw[CT];by_cases bw:es.length=j
     ·subst bw;rw[Az rfl,Az (by simpa using m),BH,AF m];rfl
     ·rw[AG bw])
    have bx:Hid (O.1.length=ks.length+new.length):=aA (by rw[<-ac];unfold aV;rw[Bd,AQ,br.o]);have cg:Hid ((qs++new).length=ks.length+new.length):=aA (by rw[AQ,br.o])
    change Hid (ABd (w3.setCell ⟨gS3,es.length*2+1,none⟩ (.slice Ae O.2.length ce)) w.heap.size R M w3.heap.size (.slice AT G.ts.length cT) (.slice AN G.ns.length cN) (.slice AR G.rs.length cR) (.int .i64 G.st) ((qs++new).set es.length (((qs++new)[es.length]).1,(O.2,Ae,ce)))) at d
    obtain⟨u0,ch⟩:∃u,w3.cell? ⟨gS3,es.length*2+1,none⟩=some u:=⟨_,d0⟩
    have bc:Hid (Below w.heap.size w (w3.setCell ⟨gS3,es.length*2+1,none⟩ (.slice Ae O.2.length ce))):=aA (cb.o.setCell ah _);have ad:(w3.setCell ⟨gS3,es.length*2+1,none⟩ (.slice Ae O.2.length ce)).heap.size=w3.heap.size:=by simp
    obtain⟨w4,b⟩:∃y,y=w3.setCell ⟨gS3,es.length*2+1,none⟩ (.slice Ae O.2.length ce):=⟨_,rfl⟩
    rw[<-b]at d bc ad;rw[<-ad]at d;have ci:Hid (((qs++new).set es.length (((qs++new)[es.length]).1,(O.2,Ae,ce))).length=ks.length+new.length):=aA (by rw[Cu];exact cg.o);generalize (qs++new).set es.length (((qs++new)[es.length]).1,(O.2,Ae,ce))=qs2 at *;have cr:((es.length:Nat):Int)<(((qs++new).length:Nat):Int):=by omega
    clear a9 l a5 ae bs bu af ac ba bb ah ab m ad c4 k0 d0;generalize (qs++new).length=nq at *;go_upto_region 10 with fail
    rw[<-b];clear b c43 ch fz cc;obtain⟨⟨vS4,bz,bD⟩,_⟩:=d.o;obtain⟨A4,c4',rfl,_,_,_⟩:=aJ.form bD.1 zad;have c44:=zeY bz;rw[ci.o,<-bx.o]at c44;clear bz bD;by_cases aa:300<O.1.length
    ·have p:=aA (Au.bld_many HR.o (by rw[<-a1.o,bp.o,Az aa]));have cj:(300:Int)<((O.1.length:Nat):Int):=by omega
     clear aa al bm g ao a2;generalize O.1.length=no at *;go_wp2
     go_ret2
     exact zgy.nil p.o bc.o
    ·have bd:Hid (Au.run G (302-(es++[O.2]).length) O.1 (es++[O.2])=Au.bld G):=aA (by rw[<-a1.o,bp.o,AG aa]);have cj:((O.1.length:Nat):Int)<=(300:Int):=by omega
     have cl:O.1.length<=300:=by omega
     have cm:Hid (qs2.map (fun q:QS=>q.2.1)=(es++[O.2])++List.replicate (O.1.length-(es++[O.2]).length) []):=aA (by rw[bx.o];exact cd.o);have cn:Hid ((es++[O.2]).length=es.length+1):=aA (by simp);have co:Hid ((es++[O.2]).length<=O.1.length):=aA bq.o.le;clear aa;go_wp2;go_roundw
     case rel=>exact⟨O.1,es++[O.2],qs2,by rw[cn.o];go_num,cl,co.o,bq,bd,cf,cm,d,bc⟩
     case measure=>simp[intOf];omega
   ·have bf:es.length=ks.length:=by omega
    have p:=aA (Au.bld_ok HR.o (by rw[<-a1.o];exact Au.run_end bf al));obtain⟨AS,cS,rfl,ap,aq,_⟩:=aJ.form h2.1 zad;have c4:=zeY h1
    have bg:qs.map zjI=ks.zip es:=by
     have e1:=am.o;have e2:=HE.o;rw[bf,Di,D5,CP]at e2;rw[<-e1,<-e2];unfold aV;rw[List.zip_map'];rfl
    have bM:=aA (zaZ.rd h2 (Af _) (Af _));rw[bg]at bM;have bT:Hid ((Au.bldS G).length=qs.length):=aA (by rw[p.o.2,<-bg,Bd]);have cp:=aA ap;have cq:=aA (show cS<=9223372036854775807 by unfold maxLen at aq;omega);have cs:¬((es.length:Nat):Int)<((qs.length:Nat):Int):=by omega
    clear h1 h2 bg ap aq g bf bm al a2;generalize es.length=ne at *;generalize qs.length=nq at *;go_wp2
    go_ret2
    refine⟨AS,cS,?_,by rw[bT.o];exact cp.o,cq.o,by rw[p.o.2];exact bM.o,HW.o⟩;rw[bT.o,p.o.1];rfl
end Go.Proofs.YtcmhaemaophplaaGreat
namespace Go.Proofs.YtcmhaemaophplaaGreat
open Go.RowKit
theorem Gm.gr_ext {A B:Gm.Gr} (h1:A.ts=B.ts) (h2:A.ns=B.ns) (h3:A.rs=B.rs) (h4:A.st=B.st):A=B:=by
 cases A
 cases B
 simp only at h1 h2 h3 h4;subst h1 h2 h3 h4;rfl
theorem Gm.isB_use (h:Gm.isB G=true):∀x∈G.rs,Gm.Rc G x.l/\Gm.Al true G.rs x.r:=by
 unfold Gm.isB at h;rw[AV,Bc]at h;obtain⟨h1,h2⟩:=h;have hG:Gm.rdG G=Gm.reduce G:=by unfold Gm.rdG;rw[Az h1]
 rw[hG]at h2;have he:∀ {α:Type} {a b:α},eqb a b=true->a=b:=fun {α a b} q=>BQ fun k=>by rw[zau k]at q;cases q
 unfold Gm.same at h2;simp only[AV]at h2;obtain⟨⟨⟨e1,e2⟩,e3⟩,e4⟩:=h2;have e:Gm.reduce G=G:=Gm.gr_ext (he e1).symm (he e2).symm (he e3).symm (he e4).symm;intro x hx
 have:x∈(Gm.reduce G).rs:=by rw[e];exact hx
 have:=Gm.red_use this
 rw[e]at this;exact Gm.tr_iff.1 this
namespace Lk
open Au Gm Go.Mw
def TS (E:List (List (Int×Int))) (i j:Nat) (tl:List ((Int×Int)×Value)):Prop:=∀q s t,q<E.length->(s,t)∈E.getD q []->(q<i\/q=i/\(s,t)∈(E.getD i []).take j)->asc tl ((q:Int),s)=some (.int .i64 t)
theorem TS.start (E:List (List (Int×Int))):TS E 0 0 []:=fun q s t hq h k=>by
 rcases k with k|⟨_,k⟩
 ·omega
 ·simp at k
theorem TS.next {tl:List ((Int×Int)×Value)} (h:TS E i (E.getD i []).length tl):TS E (i+1) 0 tl:=fun q s t hq hm k=>by
 rcases k with k|⟨_,k⟩
 ·rcases Bx q i with k2|k2
  ·exact h q s t hq hm (.inl k2)
  ·obtain rfl:q=i:=by omega
   exact h q s t hq hm (.inr ⟨rfl,by rw[Bk];exact hm⟩)
 ·simp at k
theorem TS.put {j:Nat} {tl:List ((Int×Int)×Value)} (h:TS E i j tl) (hn:((E.getD i []).map (·.1)).Nodup) (hj:j<(E.getD i []).length):TS E i (j+1) (putA tl ((i:Int),(E.getD i [])[j].1) (.int .i64 (E.getD i [])[j].2)):=fun q s t hq hm k=>by
 rw[asc_put];by_cases e:((i:Int),(E.getD i [])[j].1)=((q:Int),s)
 ·rw[Az e];injection e with e1 e2;have e1:i=q:=by omega
  subst e1 e2;have h1:((E.getD i [])[j].1,(E.getD i [])[j].2)∈E.getD i []:=AC hj;have a1:=zcp hn h1;have a2:=zcp hn hm;rw[a1]at a2;rw[a2]
 ·rw[AG e];refine h q s t hq hm ?_;rcases k with k|⟨rfl,k⟩
  ·exact .inl k
  ·refine .inr ⟨rfl,?_⟩;rw[AI hj]at k;rcases Bs.1 k with k|k
   ·exact k
   ·rw[AJ]at k;exact absurd (by rw[<-k]) e
theorem TS.done {tl:List ((Int×Int)×Value)} (h:TS E E.length 0 tl) {j:Nat} (he:Ed E i s j):asc tl ((i:Int),s)=some (.int .i64 (j:Int)):=by
 obtain⟨hi,he⟩:=he;exact h i s j hi (by rw[Ap,AF hi];exact he) (.inl hi)
end Lk
structure EJ (w1:World) (G:Gm.Gr) (g0 g1 g2 g3:Value) (todo:List Nat) (wx:World) (x12 x13 x14 x15 x16 x5:Value) (At:Option Addr) (ct T M D c:Nat):Prop where
 t:∀k∈todo,k=2\/k=3\/k=4\/k=5\/k=6\/k=7
 b:Below w1.heap.size w1 wx
 h2:2 ∉ todo->x12=.slice At (Lk.tlAll G).length ct/\bV wx At G
 h3:3 ∉ todo->x13=.map (some T)/\w1.heap.size<=T/\wx.heap[T]?=some (.map #[] 0)
 h4:4 ∉ todo->x14=.map (some M)/\w1.heap.size<=M/\wx.heap[M]?=some (.map #[] 0)
 h5:5 ∉ todo->x15=.map (some D)/\w1.heap.size<=D/\wx.heap[D]?=some (.map #[] 0)
 h6:6 ∉ todo->(2 ∉ todo/\3 ∉ todo/\4 ∉ todo/\5 ∉ todo)/\x16=.agg (wrC g0 g1 g2 g3 (.slice At (Lk.tlAll G).length ct) T M D)
 h7:7 ∉ todo->x5=.pointer (some ⟨c,0,none⟩)/\w1.heap.size<=c/\wx.heap[c]?=some (.cells #[.slice none 0 0,.slice none 0 0,.slice none 0 0,.int .i64 0,.slice none 0 0,.map none,.map none,.map none] 110 (0,0))
 d34:3 ∉ todo->4 ∉ todo->T≠M
 d35:3 ∉ todo->5 ∉ todo->T≠D
 d45:4 ∉ todo->5 ∉ todo->M≠D
section
variable {w1:World} {G:Gm.Gr} {g0 g1 g2 g3:Value} {todo:List Nat} {wx w':World} {x12 x13 x14 x15 x16 x5:Value} {At:Option Addr} {ct T M D c:Nat}
theorem EJ.put2 (h:EJ w1 G g0 g1 g2 g3 todo wx x12 x13 x14 x15 x16 x5 At ct T M D c) (hm:2∈todo) (hb:Below wx.heap.size wx w') {A':Option Addr} {c':Nat} (ho:bV w' A' G):EJ w1 G g0 g1 g2 g3 (todo.erase 2) w' (.slice A' (Lk.tlAll G).length c') x13 x14 x15 x16 x5 A' c' T M D c where
 t k hk:=h.t k (Bp hk)
 b:=h.b.trans (hb.mono h.b.size)
 h2 _:=⟨rfl,ho⟩
 h3 q:=by obtain⟨a1,a2,a3⟩:=h.h3 (aD q (by decide));exact⟨a1,a2,aC hb a3⟩
 h4 q:=by obtain⟨a1,a2,a3⟩:=h.h4 (aD q (by decide));exact⟨a1,a2,aC hb a3⟩
 h5 q:=by obtain⟨a1,a2,a3⟩:=h.h5 (aD q (by decide));exact⟨a1,a2,aC hb a3⟩
 h6 q:=absurd hm (h.h6 (aD q (by decide))).1.1
 h7 q:=by obtain⟨a1,a2,a3⟩:=h.h7 (aD q (by decide));exact⟨a1,a2,aC hb a3⟩
 d34 q1 q2:=h.d34 (aD q1 (by decide)) (aD q2 (by decide))
 d35 q1 q2:=h.d35 (aD q1 (by decide)) (aD q2 (by decide))
 d45 q1 q2:=h.d45 (aD q1 (by decide)) (aD q2 (by decide))
theorem zan (w:World):Below w.heap.size w (w.alloc (.map #[] 0))/\(w.alloc (.map #[] 0)).heap[w.heap.size]?=some (.map #[] 0):=⟨(AB _ _).alloc (Af _) _,AE w _⟩
theorem EJ.put3 (h:EJ w1 G g0 g1 g2 g3 todo wx x12 x13 x14 x15 x16 x5 At ct T M D c) (hm:3∈todo):EJ w1 G g0 g1 g2 g3 (todo.erase 3) (wx.alloc (.map #[] 0)) x12 (.map (some wx.heap.size)) x14 x15 x16 x5 At ct wx.heap.size M D c where
 t k hk:=h.t k (Bp hk)
 b:=h.b.alloc h.b.size _
 h2 q:=by obtain⟨a1,a2⟩:=h.h2 (aD q (by decide));exact⟨a1,a2.below (zan wx).1⟩
 h3 _:=⟨rfl,h.b.size,(zan wx).2⟩
 h4 q:=by obtain⟨a1,a2,a3⟩:=h.h4 (aD q (by decide));exact⟨a1,a2,aC (zan wx).1 a3⟩
 h5 q:=by obtain⟨a1,a2,a3⟩:=h.h5 (aD q (by decide));exact⟨a1,a2,aC (zan wx).1 a3⟩
 h6 q:=absurd hm (h.h6 (aD q (by decide))).1.2.1
 h7 q:=by obtain⟨a1,a2,a3⟩:=h.h7 (aD q (by decide));exact⟨a1,a2,aC (zan wx).1 a3⟩
 d34 _ q:=by have:=(Ad.1 (h.h4 (aD q (by decide))).2.2).1;omega
 d35 _ q:=by have:=(Ad.1 (h.h5 (aD q (by decide))).2.2).1;omega
 d45 q1 q2:=h.d45 (aD q1 (by decide)) (aD q2 (by decide))
theorem EJ.put4 (h:EJ w1 G g0 g1 g2 g3 todo wx x12 x13 x14 x15 x16 x5 At ct T M D c) (hm:4∈todo):EJ w1 G g0 g1 g2 g3 (todo.erase 4) (wx.alloc (.map #[] 0)) x12 x13 (.map (some wx.heap.size)) x15 x16 x5 At ct T wx.heap.size D c where
 t k hk:=h.t k (Bp hk)
 b:=h.b.alloc h.b.size _
 h2 q:=by obtain⟨a1,a2⟩:=h.h2 (aD q (by decide));exact⟨a1,a2.below (zan wx).1⟩
 h3 q:=by obtain⟨a1,a2,a3⟩:=h.h3 (aD q (by decide));exact⟨a1,a2,aC (zan wx).1 a3⟩
 h4 _:=⟨rfl,h.b.size,(zan wx).2⟩
 h5 q:=by obtain⟨a1,a2,a3⟩:=h.h5 (aD q (by decide));exact⟨a1,a2,aC (zan wx).1 a3⟩
 h6 q:=absurd hm (h.h6 (aD q (by decide))).1.2.2.1
 h7 q:=by obtain⟨a1,a2,a3⟩:=h.h7 (aD q (by decide));exact⟨a1,a2,aC (zan wx).1 a3⟩
 d34 q _:=by have:=(Ad.1 (h.h3 (aD q (by decide))).2.2).1;omega
 d35 q1 q2:=h.d35 (aD q1 (by decide)) (aD q2 (by decide))
 d45 _ q:=by have:=(Ad.1 (h.h5 (aD q (by decide))).2.2).1;omega
theorem EJ.put5 (h:EJ w1 G g0 g1 g2 g3 todo wx x12 x13 x14 x15 x16 x5 At ct T M D c) (hm:5∈todo):EJ w1 G g0 g1 g2 g3 (todo.erase 5) (wx.alloc (.map #[] 0)) x12 x13 x14 (.map (some wx.heap.size)) x16 x5 At ct T M wx.heap.size c where
 t k hk:=h.t k (Bp hk)
 b:=h.b.alloc h.b.size _
 h2 q:=by obtain⟨a1,a2⟩:=h.h2 (aD q (by decide));exact⟨a1,a2.below (zan wx).1⟩
 h3 q:=by obtain⟨a1,a2,a3⟩:=h.h3 (aD q (by decide));exact⟨a1,a2,aC (zan wx).1 a3⟩
 h4 q:=by obtain⟨a1,a2,a3⟩:=h.h4 (aD q (by decide));exact⟨a1,a2,aC (zan wx).1 a3⟩
 h5 _:=⟨rfl,h.b.size,(zan wx).2⟩
 h6 q:=absurd hm (h.h6 (aD q (by decide))).1.2.2.2
 h7 q:=by obtain⟨a1,a2,a3⟩:=h.h7 (aD q (by decide));exact⟨a1,a2,aC (zan wx).1 a3⟩
 d34 q1 q2:=h.d34 (aD q1 (by decide)) (aD q2 (by decide))
 d35 q _:=by have:=(Ad.1 (h.h3 (aD q (by decide))).2.2).1;omega
 d45 q _:=by have:=(Ad.1 (h.h4 (aD q (by decide))).2.2).1;omega
theorem EJ.put6 (h:EJ w1 G g0 g1 g2 g3 todo wx x12 x13 x14 x15 x16 x5 At ct T M D c) (m2:2 ∉ todo) (m3:3 ∉ todo) (m4:4 ∉ todo) (m5:5 ∉ todo):EJ w1 G g0 g1 g2 g3 (todo.erase 6) wx x12 x13 x14 x15 (.agg (wrC g0 g1 g2 g3 (.slice At (Lk.tlAll G).length ct) T M D)) x5 At ct T M D c where
 t k hk:=h.t k (Bp hk)
 b:=h.b
 h2 _:=h.h2 m2
 h3 _:=h.h3 m3
 h4 _:=h.h4 m4
 h5 _:=h.h5 m5
 h6 _:=⟨⟨fun m=>m2 (Bp m),fun m=>m3 (Bp m),fun m=>m4 (Bp m),fun m=>m5 (Bp m)⟩,rfl⟩
 h7 q:=h.h7 (aD q (by decide))
 d34 _ _:=h.d34 m3 m4
 d35 _ _:=h.d35 m3 m5
 d45 _ _:=h.d45 m4 m5
theorem EJ.put7 (h:EJ w1 G g0 g1 g2 g3 todo wx x12 x13 x14 x15 x16 x5 At ct T M D c):EJ w1 G g0 g1 g2 g3 (todo.erase 7) (wx.alloc (.cells #[.slice none 0 0,.slice none 0 0,.slice none 0 0,.int .i64 0,.slice none 0 0,.map none,.map none,.map none] 110)) x12 x13 x14 x15 x16 (.pointer (some ⟨wx.heap.size,0,none⟩)) At ct T M D wx.heap.size where
 t k hk:=h.t k (Bp hk)
 b:=h.b.alloc h.b.size _
 h2 q:=by obtain⟨a1,a2⟩:=h.h2 (aD q (by decide));exact⟨a1,a2.below ((AB _ wx).alloc (Af _) _)⟩
 h3 q:=by obtain⟨a1,a2,a3⟩:=h.h3 (aD q (by decide));exact⟨a1,a2,aC ((AB _ wx).alloc (Af _) _) a3⟩
 h4 q:=by obtain⟨a1,a2,a3⟩:=h.h4 (aD q (by decide));exact⟨a1,a2,aC ((AB _ wx).alloc (Af _) _) a3⟩
 h5 q:=by obtain⟨a1,a2,a3⟩:=h.h5 (aD q (by decide));exact⟨a1,a2,aC ((AB _ wx).alloc (Af _) _) a3⟩
 h6 q:=by obtain⟨⟨b1,b2,b3,b4⟩,a2⟩:=h.h6 (aD q (by decide));exact⟨⟨fun m=>b1 (Bp m),fun m=>b2 (Bp m),fun m=>b3 (Bp m),fun m=>b4 (Bp m)⟩,a2⟩
 h7 _:=⟨rfl,h.b.size,AE wx _⟩
 d34 q1 q2:=h.d34 (aD q1 (by decide)) (aD q2 (by decide))
 d35 q1 q2:=h.d35 (aD q1 (by decide)) (aD q2 (by decide))
 d45 q1 q2:=h.d45 (aD q1 (by decide)) (aD q2 (by decide))
end
end Go.Proofs.YtcmhaemaophplaaGreat
namespace Go.Proofs.YtcmhaemaophplaaGreat
open Go.RowKit
theorem zme {Aa:Option Addr} {ss:List StT} (h:bW w B Aa ss) (i:Nat) (hi:i<ss.length):∃g o,Aa=some ⟨g,o,none⟩/\g<B/\(∃A1 c1,w.cell? ⟨g,o+i*2,none⟩=some (.slice A1 ss[i].1.length c1))/\∃A2 c2,w.cell? ⟨g,o+i*2+1,none⟩=some (.slice A2 ss[i].2.length c2)/\RdQ 2 prF w B A2 ss[i].2:=by
 obtain⟨g,o,e,hg,hc⟩:=h (by omega);obtain⟨⟨A1,c1,a1,_⟩,A2,c2,a2,_,_,a3⟩:=hc i hi;exact⟨g,o,e,hg,⟨A1,c1,a1⟩,A2,c2,a2,a3⟩
theorem zhN (v:Value) (G:Gm.Gr) (B:Nat) (w:World) (Aa:Option Addr) (ca:Nat) (K:List (List Au.It)) (E:List (List (Int×Int))) (hg:aR w B v G) (hf:Gm.Fit G) (hB:B<=w.heap.size) (hb:Gm.isB G=true) (hk:Au.bld G=some (K,E)) (ha:bW w w.heap.size Aa (K.zip E)) :
  Calls Tryz.prog 26 #[v,.slice Aa (K.zip E).length ca] w fun e w'=>∃D MM DD,e=.returned (.map (some D))/\Mw.MapIs enE w' D (Lk.encM DD)/\Lk.WI G K E MM DD []/\Below w.heap.size w w':=by
 obtain⟨hi,hE,ai⟩:=Au.bld_inv hk;have H:=Gm.right_ok.1 (Gm.isB_right hb);have aj:=((Gm.terms_iff G.ts).1 H.t)
 have ak:=((Gm.nons_iff G).1 H.n)
 have hz:(K.zip E).length=K.length:=by rw[List.length_zip,hE,Nat.min_self]
 have bY:=aA (fun(tl:List ((Int×Int)×Value)) (h:Lk.TS E E.length 0 tl)=>(show WkG G K E tl from⟨hi,hE,H,fun x hx=>(Gm.isB_use hb x hx).2,by omega,by omega,ai,fun i s j he=>h.done he⟩));have HZ:=aA hz;have a0:=aA hE;have bZ:=aA (show 0<K.length from(AZ.1 hi.h0).1);have b0:=aA ai;have b1:=aA (fun(i:Nat) (h:i<E.length)=>Lk.keys_nd hi h)
 have b2:=aA (fun(i:Nat) (h:i<E.length) (e:Int×Int) (he:e∈E[i])=>(show Gm.In e.1 from by
  have h1:e.1∈E[i].map (·.1):=Ew he;rw[(hi.ed i h).1,BU]at h1
  have:=Gm.has_iff.1 (Au.syms_mem.1 h1.1)
  unfold Gm.In
  omega))
 have b4:=aA (fun(i:Nat) (h:i<E.length)=>(show(E[i]).length<=100000 from by have:=Au.edges_le (by omega) (by omega) hi h;omega));have b5:=aA (fun(y:World) (h:Below w.heap.size w y)=>zf8 v G B y (hg.below h hB) hf H (Am hB h.size) (by omega));have b6:=aA (fun(y:World) (h:Below w.heap.size w y)=>hg.below h hB);have HB:=aA hB;obtain⟨AT,cT,AN,cN,AR,cR,rfl,_⟩:=hg;obtain⟨w1,ab⟩:∃y,y=w.alloc (.cells #[.slice AT G.ts.length cT,.slice AN G.ns.length cN,.slice AR G.rs.length cR,.int .i64 G.st] 26):=⟨_,rfl⟩
 have q:Hid (Below w.heap.size w w1):=aA (by rw[ab];exact(AB _ _).alloc (Af _) _);have I:Hid (w1.heap[w.heap.size]?=some (.cells #[.slice AT G.ts.length cT,.slice AN G.ns.length cN,.slice AR G.rs.length cR,.int .i64 G.st] 26 (0,0))):=aA (by rw[ab];exact AE w _);have cy:Hid (w.heap.size<w1.heap.size):=aA (Ad.1 I.o).1;have HA:=aA ha;have b7:=fun t w=>EP (P:=Tryz.prog) t w;clear hf hB hb hk ha hi hE H aj ak hz ai;generalize hn:(K.zip E).length=n at *;have HN:=aA hn;clear hn
 go_enter Tryz.func26,Tryz.ntmps26
 go_upto_region 1 with fail
 rw[<-ab];clear ab;have q0:=fun y:Calm.On w1.heap.size w1=>aT (aC y.2 I.o);have q1:=fun y:Calm.On w1.heap.size w1=>aU (aC y.2 I.o);have q2:=fun y:Calm.On w1.heap.size w1=>aZ (aC y.2 I.o);have q3:=fun y:Calm.On w1.heap.size w1=>bG (aC y.2 I.o)
 refine CalmN.region_dep (fun x=>∃y:Calm.On w1.heap.size w1,x=y.1) [0,1] [2,3,4,5,6,7] [(6,2),(6,3),(6,4),(6,5)] (.one [] 8 (.fin []))
  (fun todo a wx=>∃x12 x13 x14 x15 x16 x5 At ct T M D c,a = {tmps:=#[.agg #[.slice AT G.ts.length cT,.slice AN G.ns.length cN,.slice AR G.rs.length cR,.int .i64 G.st],.slice Aa n ca,.pointer (some ⟨w.heap.size,0,none⟩),undef,.map none,x5,undef,undef,undef,undef,.agg #[.slice AT G.ts.length cT,.slice AN G.ns.length cN,.slice AR G.rs.length cR,.int .i64 G.st],.agg #[.slice AT G.ts.length cT,.slice AN G.ns.length cN,.slice AR G.rs.length cR,.int .i64 G.st],x12,x13,x14,x15,x16,undef,undef,undef,undef,undef,undef,undef,undef,undef,undef,undef,undef,undef,undef,undef,undef,undef,undef,undef,undef,undef,undef,undef,undef,undef,undef,undef,undef],defers:=[]}/\EJ w1 G (.slice AT G.ts.length cT) (.slice AN G.ns.length cN) (.slice AR G.rs.length cR) (.int .i64 G.st) todo wx x12 x13 x14 x15 x16 x5 At ct T M D c)
  (by kernel_rfl) (by kernel_rfl) (fun _ _ d _ _ h=>by cases d <;> exact h) ⟨⟨w1.drew,aB (AB _ _) 1⟩,rfl⟩ ?_ ?_ ?_
 ·simp only[CalmN.pickOps,Aw,Ah,Aj];repeat (go_big_quiet_step (fail))
  refine Aq ?_;exact⟨undef,undef,undef,undef,undef,undef,none,0,0,0,0,0,rfl,⟨by simp,aB (AB _ _) 1,fun h=>absurd (by simp) h,fun h=>absurd (by simp) h,fun h=>absurd (by simp) h,fun h=>absurd (by simp) h,fun h=>absurd (by simp) h,fun h=>absurd (by simp) h,fun h=>absurd (by simp) h,fun h=>absurd (by simp) h,fun _ h=>absurd (by simp) h⟩⟩
 ·intro todo k a wx hk hD hJ hS;obtain⟨x12,x13,x14,x15,x16,x5,At,ct,T,M,D,c,rfl,hJ⟩:=hJ;have HJ:=aA hJ;have aa:=hJ.t k hk;have HK:=aA hk;have HD:=aA hD;clear hJ hS hk hD q0 q1 q2 q3;rcases aa with rfl|rfl|rfl|rfl|rfl|rfl
  ·simp only[CalmN.wpSt,Aw,Ah,Aj];intro KK r;rw[Az (by rfl)];go_wp2_with fail
   refine(b5.o wx (q.o.trans (HJ.o.b.mono q.o.size))).mono ?_;rintro _ w' ⟨A',c',rfl,ho,hb⟩;have hj:=HJ.o.put2 HK.o hb (c':=c') ho;go_wp2_with fail
   exact r _ _ ⟨⟨w',hj.b⟩,rfl⟩ _ (fun _ h=>h) ⟨⟨w',hj.b⟩,rfl⟩ ⟨_,x13,x14,x15,x16,x5,_,_,T,M,D,c,rfl,hj⟩
  ·simp only[CalmN.wpSt,Aw,Ah,Aj];intro KK r;rw[Az (by rfl)];have hj:=HJ.o.put3 HK.o;go_wp2_with fail
   exact r _ _ ⟨⟨_,hj.b⟩,rfl⟩ _ (fun _ h=>h) ⟨⟨_,hj.b⟩,rfl⟩ ⟨x12,_,x14,x15,x16,x5,At,ct,_,M,D,c,rfl,hj⟩
  ·simp only[CalmN.wpSt,Aw,Ah,Aj];intro KK r;rw[Az (by rfl)];have hj:=HJ.o.put4 HK.o;go_wp2_with fail
   exact r _ _ ⟨⟨_,hj.b⟩,rfl⟩ _ (fun _ h=>h) ⟨⟨_,hj.b⟩,rfl⟩ ⟨x12,x13,_,x15,x16,x5,At,ct,T,_,D,c,rfl,hj⟩
  ·simp only[CalmN.wpSt,Aw,Ah,Aj];intro KK r;rw[Az (by rfl)];have hj:=HJ.o.put5 HK.o;go_wp2_with fail
   exact r _ _ ⟨⟨_,hj.b⟩,rfl⟩ _ (fun _ h=>h) ⟨⟨_,hj.b⟩,rfl⟩ ⟨x12,x13,x14,_,x16,x5,At,ct,T,M,_,c,rfl,hj⟩
  ·have m2:=HD.o (6,2) (by simp) rfl;have m3:=HD.o (6,3) (by simp) rfl;have m4:=HD.o (6,4) (by simp) rfl;have m5:=HD.o (6,5) (by simp) rfl;obtain⟨rfl,_⟩:=HJ.o.h2 m2;obtain⟨rfl,_⟩:=HJ.o.h3 m3;obtain⟨rfl,_⟩:=HJ.o.h4 m4;obtain⟨rfl,_⟩:=HJ.o.h5 m5;have hj:=HJ.o.put6 m2 m3 m4 m5;simp only[CalmN.wpSt,Aw,Ah,Aj];intro KK r;rw[Az (by rfl)];go_wp2_with fail
   exact r _ _ ⟨⟨_,hj.b⟩,rfl⟩ _ (fun _ h=>h) ⟨⟨_,hj.b⟩,rfl⟩ ⟨_,_,_,_,_,x5,At,ct,T,M,D,c,rfl,hj⟩
  ·simp only[CalmN.wpSt,Aw,Ah,Aj];intro KK r;rw[Az (by rfl)];have hj:=HJ.o.put7;go_wp2_with fail
   exact r _ _ ⟨⟨_,hj.b⟩,rfl⟩ _ (fun _ h=>h) ⟨⟨_,hj.b⟩,rfl⟩ ⟨x12,x13,x14,x15,x16,_,At,ct,T,M,D,_,rfl,hj⟩
 ·intro a wx hJ hS;obtain⟨x12,x13,x14,x15,x16,x5,At,ct,T,M,D,c,rfl,hJ⟩:=hJ;obtain⟨rfl,a4⟩:=hJ.h2 (by simp);obtain⟨rfl,a5,a6⟩:=hJ.h3 (by simp);obtain⟨rfl,a9,ba⟩:=hJ.h4 (by simp);obtain⟨rfl,bb,bc⟩:=hJ.h5 (by simp);obtain⟨_,rfl⟩:=hJ.h6 (by simp);obtain⟨rfl,al,l⟩:=hJ.h7 (by simp);have am:Hid (T≠M/\T≠D/\M≠D):=aA ⟨hJ.d34 (by simp) (by simp),hJ.d35 (by simp) (by simp),hJ.d45 (by simp) (by simp)⟩;have ao:=hJ.b;clear hS q0 q1 q2 q3 hJ;have lc:=(Ad.1 l).1;have f0:=AH wx _ 0 _ _ l;have f1:=AH wx _ 1 _ _ l;have f2:=AH wx _ 2 _ _ l;have f3:=AH wx _ 3 _ _ l;have f4:=AH wx _ 4 _ _ l;have f5:=AH wx _ 5 _ _ l;have f6:=AH wx _ 6 _ _ l;have f7:=AH wx _ 7 _ _ l;have k0:=AD wx _ 0 _ _ _ l;have k1:=AD wx _ 1 _ _ _ l;have k2:=AD wx _ 2 _ _ _ l;have k3:=AD wx _ 3 _ _ _ l;have k4:=AD wx _ 4 _ _ _ l;have k5:=AD wx _ 5 _ _ _ l;have k6:=AD wx _ 6 _ _ _ l;have k7:=AD wx _ 7 _ _ _ l;simp only[CalmN.wpT,CalmN.wpSt,CalmN.pickOps,Aw,Ah,Aj];refine Aq ?_;intro KK r;rw[Az (by rfl)];unfold wrC;go_wp2_with fail
  obtain⟨wy,ac⟩:∃y,y=(((((((wx.setCell ⟨c,0,none⟩ (.slice AT G.ts.length cT)).setCell ⟨c,1,none⟩ (.slice AN G.ns.length cN)).setCell ⟨c,2,none⟩ (.slice AR G.rs.length cR)).setCell ⟨c,3,none⟩ (.int .i64 G.st)).setCell ⟨c,4,none⟩ (.slice At (Lk.tlAll G).length ct)).setCell ⟨c,5,none⟩ (.map (some T))).setCell ⟨c,6,none⟩ (.map (some M))).setCell ⟨c,7,none⟩ (.map (some D)):=⟨_,rfl⟩
  have ad:wx.grownBy wy (some c):=by
   rw[ac];exact aF (aF (aF (aF (aF (aF (aF (aF (AM _ _) _ _) _ _) _ _) _ _) _ _) _ _) _ _) _ _
  have bd:wy.heap[c]?=some (.cells (wrC (.slice AT G.ts.length cT) (.slice AN G.ns.length cN) (.slice AR G.rs.length cR) (.int .i64 G.st) (.slice At (Lk.tlAll G).length ct) T M D) 110 (0,0)):=by
   rw[ac];exact AW _ c 7 _ _ _ (AW _ c 6 _ _ _ (AW _ c 5 _ _ _ (AW _ c 4 _ _ _ (AW _ c 3 _ _ _ (AW _ c 2 _ _ _ (AW _ c 1 _ _ _ (AW wx c 0 _ _ _ l)))))))
  rw[<-ac];have ae:Below w1.heap.size w1 wy:=zaa ao ad al ao.size
  have u:∀(g:Nat) (o:Obj),wx.heap[g]?=some o->(∀cs t f,o=Obj.cells cs t f->t≠110)->wy.heap[g]?=some o:=fun g o h1 h2=>(ad.block g (Ad.1 h1).1 (fun e=>by
   injection e with e;rw[e,l]at h1;injection h1 with h1;exact h2 _ _ _ h1.symm rfl)).trans h1
  have af:Hid (Mw.MapIs wkE wy T []):=aA ⟨#[],0,u _ _ a6 (fun _ _ _ e=>by cases e),rfl,by simp,by simp⟩;have bf:Hid (Mw.MapU wkE wy M (Lk.encM [])):=aA ⟨#[],0,u _ _ ba (fun _ _ _ e=>by cases e),rfl,by simp[Lk.encM],by simp[Lk.encM],by simp,by simp⟩;have bg:Hid (Mw.MapU enE wy D (Lk.encM [])):=aA ⟨#[],0,u _ _ bc (fun _ _ _ e=>by cases e),rfl,by simp[Lk.encM],by simp[Lk.encM],by simp,by simp⟩
  have b8:Hid (bV wy At G):=aA (a4.keep ad.size fun g cur ty b9 hc=>u _ _ hc (fun _ _ _ e=>by
   injection e with _ e _;rcases b9 with rfl|rfl <;> rw[<-e] <;> decide))
  have A:=aA bd;have z:=aA ae;have C:Hid (w1.heap.size<=T/\w1.heap.size<=M/\w1.heap.size<=D/\w1.heap.size<=c):=aA ⟨a5,a9,bb,al⟩;refine r _ _ ⟨⟨wy,ae⟩,rfl⟩ _ (fun _ h=>h) ⟨⟨wy,ae⟩,rfl⟩ ?_;clear r k0 k1 k2 k3 k4 k5 k6 k7 f0 f1 f2 f3 f4 f5 f6 f7 lc ac ad bd ae u a4 a5 a6 a9 ba bb bc al l ao b7;refine Aq ?_;have ap:=aA (Lk.TS.start E);have cz:(n:Int)<=300:=by have:=HN.o;have:=HZ.o;have:=b0.o;omega
  go_wp2;go_loopw [19] (fun vi wr=>∃(i:Nat) (tl:List ((Int×Int)×Value)),i<=n/\vi=.int .i64 i/\Hid (Lk.TS E i 0 tl)/\Hid (Mw.MapIs wkE wr T tl)/\Hid (wy.grownBy wr (some T))) (fun vi _=>n-(intOf vi).toNat)
  case atStart=>exact⟨0,[],AU _,rfl,ap,af,aA (AM _ _)⟩
  case round =>
   obtain⟨i,tl,hi,rfl,bh,aq,HG⟩:=hrel;rename World=>wr;by_cases bi:i<n
   ·have bj:i<(K.zip E).length:=by rw[HN.o];exact bi
    obtain⟨ga,oa,rfl,bk,⟨A1,c1,a1⟩,A2,c2,a2,b3⟩:=zme HA.o i bj;have J:i<E.length:=by have:=a0.o;have:=HZ.o;have:=HN.o;omega
    have ar:(K.zip E)[i].2=E[i]:=by rw[List.getElem_zip]
    have F:E.getD i []=E[i]:=by rw[Ap,AF J];rfl
    rw[ar,<-F]at a2;have a3:RdQ 2 prF w w.heap.size A2 (E.getD i []):=by rw[F,<-ar];exact b3
    have N:Hid (Below w.heap.size w wr):=aA (zaa (q.o.trans (z.o.mono q.o.size)) HG.o (Am q.o.size C.o.1) (Am q.o.size z.o.size));have k0:=(N.o.cell (p:=⟨ga,oa+i*2,none⟩) bk).trans a1;have k1:=(N.o.cell (p:=⟨ga,oa+i*2+1,none⟩) bk).trans a2;have cb:=aA a3;have cc:=aA (fun(j:Nat) (tl2:List ((Int×Int)×Value)) (h:Lk.TS E i j tl2) (hj:j<(E.getD i []).length)=>h.put (by rw[F];exact b1.o i J) hj);have cd:=aA (fun(tl2:List ((Int×Int)×Value)) (h:Lk.TS E i (E.getD i []).length tl2)=>h.next);have ce:=aA (fun(e:Int×Int) (he:e∈E.getD i [])=>b2.o i J e (by rw[<-F];exact he))
    have au:Hid ((E.getD i []).length<=100000):=aA (by
     rw[F];exact b4.o i J)
    have cf:=aA bi;clear b3 a3 a1;generalize (K.zip E)[i].1.length=n1 at *;clear ar a2;clear bj J F;generalize E.getD i []=es at *;obtain⟨wi,ag⟩:∃y,y=wr.alloc (.cells #[.slice A1 n1 c1,.slice A2 es.length c2] 56):=⟨_,rfl⟩
    have bl:Hid (Below wr.heap.size wr wi):=aA (by rw[ag];exact(AB _ _).alloc (Af _) _);have bm:wi.heap[wr.heap.size]?=some (.cells #[.slice A1 n1 c1,.slice A2 es.length c2] 56 (0,0)):=by rw[ag];exact AE wr _
    have z1:=aU bm;have cg:=aA (aq.o.block (bl.o.block _ aq.o.lt));have cA:((i:Nat):Int)<((n:Nat):Int):=by omega
    have ch:(es.length:Int)<=100000:=by have:=au.o;omega
    go_upto_region 5 with fail
    rw[<-ag];clear ag k0 k1 bm;go_wp2;clear z1;go_loopw [27] (fun vj wz=>∃(j:Nat) (tl2:List ((Int×Int)×Value)),j<=es.length/\vj=.int .i64 j/\Hid (Lk.TS E i j tl2)/\Hid (Mw.MapIs wkE wz T tl2)/\Hid (wi.grownBy wz (some T))) (fun vj _=>es.length-(intOf vj).toNat)
    case atStart=>exact⟨0,tl,AU _,rfl,bh,cg,aA (AM _ _)⟩
    case round =>
     obtain⟨j,tl2,hj,rfl,bo,av,bp⟩:=hrel;rename World=>wz;have aw:Hid (wy.grownBy wz (some T)):=aA (zab (zab HG.o (aL bl.o _)) bp.o);by_cases O:j<es.length
     ·obtain⟨g3,o3,rfl,bq,ax⟩:=cb.o (by omega);have br:Hid (Below w.heap.size w wz):=aA (zaa (q.o.trans (z.o.mono q.o.size)) aw.o (Am q.o.size C.o.1) (Am q.o.size z.o.size));have e0:=(br.o.cell (p:=⟨g3,o3+j*2+0,none⟩) bq).trans (ax j O 0 _ rfl);have e1:=(br.o.cell (p:=⟨g3,o3+j*2+1,none⟩) bq).trans (ax j O 1 _ rfl);rw[Ea]at e0;have ci:=aA (cc.o j tl2 bo.o O);have cj:Hid (Gm.In ((i:Int),(es[j]).1).1/\Gm.In ((i:Int),(es[j]).1).2):=aA ⟨by unfold Gm.In;simp only;omega,ce.o _ (AC O)⟩;have cB:((j:Nat):Int)<((es.length:Nat):Int):=by omega
      have ck:=aA O;clear ax;generalize (es[j]).1=s at *;generalize (es[j]).2=tz at *;obtain⟨wj,ah⟩:∃y,y=wz.alloc (.cells #[.int .i64 s,.int .i64 tz] 91):=⟨_,rfl⟩
      have ay:Hid (Below wz.heap.size wz wj):=aA (by rw[ah];exact(AB _ _).alloc (Af _) _);have az:wj.heap[wz.heap.size]?=some (.cells #[.int .i64 s,.int .i64 tz] 91 (0,0)):=by rw[ah];exact AE wz _
      have y0:=aT az;have y1:=aU az;have U:T≠c:=fun e=>by have:=af.o;rw[e]at this;exact this.not_cells A.o
      have m:wz.heap[c]?=some (.cells (wrC (.slice AT G.ts.length cT) (.slice AN G.ns.length cN) (.slice AR G.rs.length cR) (.int .i64 G.st) (.slice At (Lk.tlAll G).length ct) T M D) 110 (0,0)):=(aw.o.block c (Ad.1 A.o).1 (fun e=>by injection e with e;exact U e.symm)).trans A.o;have x5:=zkr (aC ay.o m);have cl:=aA (av.o.block (ay.o.block _ av.o.lt));have cm:=aA (Mw.run_put (x:=((i:Int),s)) cl.o wkK Tryz.underlying107 cj.o (.int .i64 tz));clear az U m;go_upto_region 8 with fail
      rw[<-ah];clear ah e0 e1;go_wp2_with (at_mapUpdate;refine Mw.wpList_store rfl _ _ _ _ rfl cm.o rfl rfl rfl ?_;rintro w6 ⟨bs,bu⟩;have cn:=aA bs;have co:=aA (zab (zab bp.o (aL ay.o (some T))) bu);clear bs bu)
      go_roundw
      case rel=>exact⟨j+1,_,ck.o,by go_num,ci,cn,co⟩
      case measure=>simp[intOf];omega
     ·obtain rfl:j=es.length:=by omega
      have cp:=aA (cd.o _ bo.o);go_wp2;go_roundw
      case rel=>exact⟨i+1,tl2,cf.o,by go_num,cp,av,aw⟩
      case measure=>simp[intOf];omega
   ·obtain rfl:i=n:=by omega
    have cq:Hid (Lk.TS E E.length 0 tl):=aA (by have:=bh.o;rwa [show i=E.length by have:=a0.o;have:=HZ.o;have:=HN.o;omega]at this);have N:Hid (Below w.heap.size w wr):=aA (zaa (q.o.trans (z.o.mono q.o.size)) HG.o (Am q.o.size C.o.1) (Am q.o.size z.o.size));have U:T≠c:=fun e=>by have:=af.o;rw[e]at this;exact this.not_cells A.o
    have m:wr.heap[c]?=some (.cells (wrC (.slice AT G.ts.length cT) (.slice AN G.ns.length cN) (.slice AR G.rs.length cR) (.int .i64 G.st) (.slice At (Lk.tlAll G).length ct) T M D) 110 (0,0)):=(HG.o.block c (Ad.1 A.o).1 (fun e=>by injection e with e;exact U e.symm)).trans A.o;have bv:=aA m
    have cr:Hid (bV wr At G):=aA (b8.o.keep HG.o.size fun g cur ty _ hc=>(HG.o.block g (Ad.1 hc).1 (fun e=>by
     injection e with e;rw[e]at hc;exact af.o.not_cells hc)).trans hc)
    have bw:=aA (bf.o.block (HG.o.block M bf.o.lt (fun e=>by injection e with e;exact am.o.1 e.symm)));have bx:=aA (bg.o.block (HG.o.block D bg.o.lt (fun e=>by injection e with e;exact am.o.2.1 e.symm)));have cu:=aA (zhM G K E wr w1.heap.size B T M D AT AN AR At cT cN cR ct tl (bY.o tl cq.o) bZ.o (b6.o wr N.o) (Am HB.o q.o.size) cr.o (Am z.o.size HG.o.size) aq.o bw.o bx.o C.o.1 C.o.2.1 C.o.2.2.1 am.o);have k0:=aT m;have k1:=aU m;have k2:=aZ m;have k3:=bG m;have k4:=zeY m;have k5:=zkr m;have k6:=zm2 m;have k7:=zm8 m;have bz:Hid (c≠M/\c≠D):=aA ⟨fun e=>by rw[e]at m;exact bw.o.is.not_cells m,fun e=>by rw[e]at m;exact bx.o.is.not_cells m⟩;clear U m;go_wp2_with fail
    refine cu.o.mono ?_;rintro _ w9 ⟨rfl,MM',DD',bD,bM,bT,bX⟩;have x7:=zm8 ((bX c (Ad.1 bv.o).1 bz.o.1 bz.o.2).trans bv.o);have cv:=aA bD.is;have cw:=aA bM;have cx:Hid (Below w.heap.size w w9):=aA (N.o.trans (bT.mono q.o.size));clear bD bM bT bX k0 k1 k2 k3 k4 k5 k6 k7;go_wp2;go_ret
    exact⟨D,MM',DD',rfl,cv.o,cw.o,cx.o⟩
namespace Lk
open Au Gm Go.Mw
noncomputable def lkPart (G:Gr) (K:List (List It)) (E:List (List (Int×Int))) (q n:Nat):List (Int×Int):=(List.range n).filterMap fun k=>(lkAt G K E q k).map fun v=>((k:Int),(v:Int))
theorem lkPart_zero (G:Gr) (K:List (List It)) (E:List (List (Int×Int))) (q:Nat):lkPart G K E q 0=[]:=rfl
theorem lkPart_none {G:Gr} {K:List (List It)} (h:lkAt G K E q n=none):lkPart G K E q (n+1)=lkPart G K E q n:=by
 unfold lkPart;rw[C9,List.filterMap_append];simp[h]
theorem lkPart_some {G:Gr} {K:List (List It)} {v:Nat} (h:lkAt G K E q n=some v):lkPart G K E q (n+1)=lkPart G K E q n++[((n:Int),(v:Int))]:=by
 unfold lkPart;rw[C9,List.filterMap_append];simp[h]
theorem lkPart_len (G:Gr) (K:List (List It)) (E:List (List (Int×Int))) (q n:Nat):(lkPart G K E q n).length<=n:=by
 unfold lkPart
 have:=List.length_filterMap_le (fun k=>(lkAt G K E q k).map fun v=>((k:Int),(v:Int))) (List.range n)
 simpa using this
theorem lkPart_all (G:Gr) (K:List (List It)) (E:List (List (Int×Int))) (q:Nat):lkPart G K E q G.rs.length=lkRow G K E q:=rfl
noncomputable def lkS (G:Gr):List (List (Int×Int)):=if isB G=true then(match bld G with|some p=>(List.range p.1.length).map (lkRow G p.1 p.2)|none=>[]) else []
theorem lk_no {G:Gr} (h:isB G=false):lkS G=[]:=by unfold lkS;rw[h];rfl
theorem lk_many {G:Gr} (h:isB G=true) (k:bld G=none):lkS G=[]:=by unfold lkS;rw[h,k];rfl
theorem lk_ok {G:Gr} {K:List (List It)} (h:isB G=true) (k:bld G=some (K,E)):lkS G=(List.range K.length).map (lkRow G K E):=by unfold lkS;rw[h,k];rfl
end Lk
def lkF (x:Int×Int):List Value:=[.int .i64 x.1,.int .u32 x.2]
theorem zdm (x:Int×Int):(lkF x).length=2:=rfl
theorem zkN (x:Int×Int):∀u∈lkF x,u.oneCell'=true:=fun u hu=>by
 simp[lkF]at hu;rcases hu with rfl|rfl <;> rfl
theorem zmr:(Tryz.prog.info? 46).map (fun i=>(i.zero,i.size,i.bytes))=some (some (.agg #[.int .i64 0,.int .u32 0]),2,16):=by kernel_rfl
theorem zkT:(Tryz.prog.info? 36).map (fun i=>(i.zero,i.size,i.bytes))=some (some (.slice none 0 0),1,24):=by kernel_rfl
theorem zi9 (x:Int×Int) (w:World) (g:Nat) (hb:w.heap[g]?=some (.cells #[.int .i64 x.1,.int .u32 x.2] 46 (0,0))):∀j u,(lkF x)[j]?=some u->w.cell? ⟨g,j,none⟩=some u:=fun j u hu=>by
 refine(AD w g j _ _ _ hb).trans ?_
 match j,hu with
 | 0,hu=>exact hu
 | 1,hu=>exact hu
 | j+2,hu=>simp[lkF]at hu
def zlg (G:Gm.Gr) (w:World) (e:Ending) (w':World):Prop :=
 ∃A c,e=.returned (.tuple #[.slice A (Lk.lkS G).length c,.int .i64 (Au.bldE G)])/\(Lk.lkS G).length<=c/\c<=9223372036854775807/\RdM 2 lkF w' w'.heap.size A (Lk.lkS G)/\Below w.heap.size w w'
theorem zlg.nil {er:Int} (h:Au.bldE G=er) (h2:Lk.lkS G=[]) (hb:Below w.heap.size w w'):zlg G w (.returned (.tuple #[.slice none 0 0,.int .i64 er])) w':=by
 refine⟨none,0,?_,?_,by omega,?_,hb⟩
 ·rw[h,h2];rfl
 ·rw[h2];exact Af _
 ·rw[h2];exact RdM.nil _ _ _
theorem zl1 {α:Type} (rs l:List α) (x:α) (i:Nat) (h:rs.length=i) (hi:i<(rs++[x]++l).length):(rs++[x]++l)[i]=x:=by
 subst h;simp
theorem mid_set {α:Type} (rs l:List α) (x y:α) (i:Nat) (h:rs.length=i):(rs++[x]++l).set i y=rs++[y]++l:=by
 subst h;simp
theorem UBQ.mid {α:Type} {T:TypeId} {c:Nat} {rs l:List (RW α)} {xs:List α} (h:UBQ T rwF w g (rs++[((xs,A,c):RW α)]++l)) (hi:rs.length=i):w.cell? ⟨g,i,none⟩=some (.slice A xs.length c):=by
 have hl:i<(rs++[((xs,A,c):RW α)]++l).length:=by rw[AQ,AQ,BB];omega
 have:=h.cell zc8 i 0 hl (.slice A xs.length c) (by rw[zl1 rs l _ i hi hl];rfl)
 rw[D6,Ea]at this;exact this
theorem zdp (v:Value) (G:Gm.Gr) (B:Nat) (w:World) (hg:aR w B v G) (hf:Gm.Fit G) (hB:B<=w.heap.size) :
  Calls Tryz.prog 10 #[v] w (zlg G w):=by
 have bs:=aA (fun y (h:Below w.heap.size w y)=>zgw v G B y (hg.below h hB) hf (Am hB h.size));have bu:=aA (fun(y:World) (h:Below w.heap.size w y) (Aa:Option Addr) (ca:Nat) (K:List (List Au.It)) (E:List (List (Int×Int))) (hb:Gm.isB G=true) (hk:Au.bld G=some (K,E)) (ha:bW y y.heap.size Aa (K.zip E))=>zhN v G B y Aa ca K E (hg.below h hB) hf (Am hB h.size) hb hk ha);have ci:=aA hB;obtain⟨AT,cT,AN,cN,AR,cR,rfl,_⟩:=hg;obtain⟨w1,d⟩:∃y,y=w.alloc (.cells #[.slice AT G.ts.length cT,.slice AN G.ns.length cN,.slice AR G.rs.length cR,.int .i64 G.st] 26):=⟨_,rfl⟩
 have l:Hid (Below w.heap.size w w1):=aA (by rw[d];exact(AB _ _).alloc (Af _) _);have C:Hid (w1.heap[w.heap.size]?=some (.cells #[.slice AT G.ts.length cT,.slice AN G.ns.length cN,.slice AR G.rs.length cR,.int .i64 G.st] 26 (0,0))):=aA (by rw[d];exact AE w _);have cj:Hid (w.heap.size<w1.heap.size):=aA (Ad.1 C.o).1;have HS:=aA (bs.o w1 l.o);have x0:=aT C.o;have x1:=aU C.o;have x2:=aZ C.o;have x3:=bG C.o;clear hf hB;cases hb:Gm.isB G with
 | false =>
  have HE:=aA (B4 (Au.bld_no hb) (Lk.lk_no hb));unfold zgy at HS;rw[HE.o.1.1,HE.o.1.2]at HS;clear hb
  go_enter Tryz.func10,Tryz.ntmps10
  go_upto_region 1 with fail
  rw[<-d];clear d;go_wp2_with fail
  refine HS.o.mono ?_;rintro _ w2 ⟨Aa,ca,rfl,_,_,_,b⟩;have q:=aA (l.o.trans (b.mono l.o.size));clear b x0 x1 x2 x3;generalize ([]:List StT).length=nz at *;go_wp2
  go_ret2
  exact zlg.nil HE.o.1.1 HE.o.2 q.o
 | true =>
  cases hk:Au.bld G with
  | none =>
   have HE:=aA (B4 (Au.bld_many hb hk) (Lk.lk_many hb hk));unfold zgy at HS;rw[HE.o.1.1,HE.o.1.2]at HS;clear hb hk
   go_enter Tryz.func10,Tryz.ntmps10
   go_upto_region 1 with fail
   rw[<-d];clear d;go_wp2_with fail
   refine HS.o.mono ?_;rintro _ w2 ⟨Aa,ca,rfl,_,_,_,b⟩;have q:=aA (l.o.trans (b.mono l.o.size));clear b x0 x1 x2 x3;generalize ([]:List StT).length=nz at *;go_wp2
   go_ret2
   exact zlg.nil HE.o.1.1 HE.o.2 q.o
  | some p =>
   obtain⟨K,E⟩:=p;have HE:=aA (B4 (Au.bld_ok hb hk) (Lk.lk_ok hb hk));obtain⟨hi,hE,a2⟩:=Au.bld_inv hk;have hz:(K.zip E).length=K.length:=by rw[List.length_zip,hE,Nat.min_self]
   have ad:=Gm.right_ok.1 (Gm.isB_right hb);have a3:=aA (fun(MM DD:Lk.MP) (h:Lk.WI G K E MM DD []) (i k:Nat) (bv:i<K.length) (hk:k<G.rs.length)=>h.at hi hE ad (fun x hx=>(Gm.isB_use hb x hx).2) bv hk);have bw:=aA (fun(y:World) (h:Below w.heap.size w y) (Aa:Option Addr) (ca:Nat) (ha:bW y y.heap.size Aa (K.zip E))=>bu.o y h Aa ca K E hb hk ha)
   have bx:=aA (fun(k v:Nat) (i:Nat) (h:Lk.lkAt G K E i k=some v)=>(show v<4294967296 from by
    unfold Lk.lkAt at h;split at h
    ·injection h with h;rw[<-h];exact Lk.laN_lt (by have:=(Gm.terms_iff G.ts).1 ad.t;omega) _ _
    ·cases h))
   have ah:=aA ad.r40;have ai:=aA a2;have HZ:=aA hz;unfold zgy at HS;rw[HE.o.1.1,HE.o.1.2]at HS;clear hb hk hi hE a2 hz ad
   go_enter Tryz.func10,Tryz.ntmps10
   go_upto_region 1 with fail
   rw[<-d];clear d;go_wp2_with fail
   refine HS.o.mono ?_;rintro _ w2 ⟨Aa,ca,rfl,bz,bD,a4,b⟩;have q:=aA (l.o.trans (b.mono l.o.size));have I:=aA (aC b C.o);have aj:=aA (bw.o w2 q.o Aa ca a4);clear b x0 x1 x2 x3 a4 bz bD;have x0:=aT I.o;have x1:=aU I.o;have x2:=aZ I.o;have x3:=bG I.o;rw[HZ.o]at aj ⊢;obtain⟨n,hn⟩:∃n,K.length=n:=⟨_,rfl⟩
   rw[hn]at aj ai HZ a3 ⊢;have HN:=aA hn;clear hn;go_upto_region 4 with fail
   go_wp2_with fail
   refine aj.o.mono ?_;rintro _ w3 ⟨D,MM,DD,rfl,a5,a6,ak⟩;have a9:=aA a5;have bM:=aA (a3.o MM DD a6);have al:=aA (q.o.trans (ak.mono q.o.size));have ba:=aA (aC ak I.o);clear a5 a6 ak x0 x1 x2 x3;have cl:(n:Int)<=300:=by have:=ai.o;omega
   have bb:n<=1000000:=by have:=ai.o;omega
   go_upto_region 6 with(at_make;refine zew (m:=1) (f:=rwF (α:=Int×Int)) rfl (.tmp 24) (.tmp 24) _ rfl Tryz.underlying30 _ 24 zkT (by decide) (by decide) (by decide) (([],none,0):RW (Int×Int)) rfl n rfl rfl bb ?_;intro w4 am ae)
   obtain⟨gL,af⟩:∃g,g=w3.heap.size:=⟨_,rfl⟩
   rw[<-af]at am;rw[<-af];have bT:Hid (UBQ 36 rwF w4 gL (([]:List (RW (Int×Int)))++List.replicate (n-0) ([],none,0))):=aA am;have bX:=aA (al.o.trans (ae.mono al.o.size));have bY:=aA (aC ae ba.o);have bZ:=aA (a9.o.block (ae.block D a9.o.lt));have bc:Hid (w.heap.size<gL):=aA (by rw[af];have:=al.o.size;have:=(Ad.1 ba.o).1;omega);clear am ae af bb;go_wp2;go_loopw [28] (fun vi wr=>∃(i:Nat) (rs:List (RW (Int×Int))),i<=n/\vi=.int .i64 i/\Hid (rs.map (·.1)=(List.range i).map (Lk.lkRow G K E))/\Hid (∀r∈rs,bR 46 2 lkF wr 0 wr.heap.size r)/\Hid (UBQ 36 rwF wr gL (rs++List.replicate (n-i) ([],none,0)))/\Hid (Mw.MapIs enE wr D (Lk.encM DD))/\Hid (wr.heap[w.heap.size]?=some (.cells #[.slice AT G.ts.length cT,.slice AN G.ns.length cN,.slice AR G.rs.length cR,.int .i64 G.st] 26 (0,0)))/\Hid (Below w.heap.size w wr)) (fun vi _=>n-(intOf vi).toNat)
   case atStart=>exact⟨0,[],AU _,rfl,aA rfl,aA (by simp),bT,bZ,bY,bX⟩
   case round =>
    obtain⟨i,rs,hi,rfl,ao,ap,HU,HD,HX,HW⟩:=hrel;rename World=>wr
    have bd:rs.length=i:=by
     have:=congrArg List.length ao.o
     simpa using this
    by_cases bf:i<n
    ·have x2:=aZ HX.o;have cm:((i:Nat):Int)<((n:Nat):Int):=by omega
     have bg:=aA bf;have aq:=aA bd;have b0:(G.rs.length:Int)<=40:=by have:=ah.o;omega
     obtain⟨N0,ar⟩:∃N,N=wr.heap.size:=⟨_,rfl⟩
     rw[<-ar]at ap
     have b1:Hid (UBQ 36 rwF wr gL (rs++[((Lk.lkPart G K E i 0,none,0):RW (Int×Int))]++List.replicate (n-(i+1)) ([],none,0))):=aA (by
      have:=HU.o
      rw[show n-i=(n-(i+1))+1 by omega,CO]at this;rw[Lk.lkPart_zero,Ch];exact this)
     have b2:Hid (aJ 46 2 lkF wr N0 (.slice none (Lk.lkPart G K E i 0).length 0) (Lk.lkPart G K E i 0)):=aA (aJ.nil _ _);have b3:Hid (N0<=wr.heap.size):=aA (by omega);have bh:Hid (gL<N0/\D<N0/\w.heap.size<N0):=aA (by rw[ar];exact⟨HU.o.lt,HD.o.lt,(Ad.1 HX.o).1⟩);clear ar bd bf;go_wp2;clear x2;go_loopw [34] (fun vk wz=>∃(k:Nat) (A:Option Addr) (c:Nat),k<=G.rs.length/\vk=.int .i64 k/\Hid (aJ 46 2 lkF wz N0 (.slice A (Lk.lkPart G K E i k).length c) (Lk.lkPart G K E i k))/\Hid (UBQ 36 rwF wz gL (rs++[((Lk.lkPart G K E i k,A,c):RW (Int×Int))]++List.replicate (n-(i+1)) ([],none,0)))/\Hid (∀r∈rs,bR 46 2 lkF wz 0 N0 r)/\Hid (Mw.MapIs enE wz D (Lk.encM DD))/\Hid (wz.heap[w.heap.size]?=some (.cells #[.slice AT G.ts.length cT,.slice AN G.ns.length cN,.slice AR G.rs.length cR,.int .i64 G.st] 26 (0,0)))/\Hid (Below w.heap.size w wz)/\Hid (N0<=wz.heap.size)) (fun vk _=>G.rs.length-(intOf vk).toNat)
     case atStart=>exact⟨0,none,0,AU _,rfl,b2,b1,ap,HD,HX,HW,b3⟩
     case round =>
      obtain⟨k,A,c,hk,rfl,HO,F,au,J,av,ag,aw⟩:=hrel;rename World=>wz;by_cases bi:k<G.rs.length
      ·have aa:=bM.o i k bg.o bi;have b4:Hid (Gm.In ((i:Int),(k:Int)).1/\Gm.In ((i:Int),(k:Int)).2):=aA ⟨by unfold Gm.In;simp only;omega,by unfold Gm.In;simp only;omega⟩;have lk:=Mw.run_look (E:=enE) J.o enK (t:=67) Tryz.underlying67 (z:=.int .u32 0) (by kernel_rfl) (x:=((i:Int),(k:Int))) b4.o true;have ab:enE.enc ((i:Int),(k:Int))=.agg #[.int .i64 (i:Int),.int .i64 (k:Int)]:=rfl;rw[ab,Lk.asc_enc,aa]at lk;have ax:=aA bi;cases ha:Lk.lkAt G K E i k with
       | none =>
        rw[ha]at lk;simp only[Option.map_none,EM,Option.isSome_none,if_true]at lk;have M:=aA (Lk.lkPart_none ha);clear ha aa ab;go_wp2;go_roundw
        case rel=>exact⟨k+1,A,c,ax.o,by go_num,by rw[M.o];exact HO,by rw[M.o];exact F,au,J,av,ag,aw⟩
        case measure=>simp[intOf];omega
       | some u =>
        rw[ha]at lk;simp only[DH,Bo,Option.isSome_some,if_true]at lk;have M:=aA (Lk.lkPart_some ha);have b5:=aA (Lk.lkPart_len G K E i k);have cn:=bx.o k u i ha;clear ha aa ab;generalize Lk.lkPart G K E i k=xs at *;have cL:wz.cell? ⟨gL,i,none⟩=some (.slice A xs.length c):=F.o.mid aq.o;have H:Hid (Below wz.heap.size wz (wz.alloc (.cells #[.int .i64 (k:Int),.int .u32 (u:Int)] 46))):=aA ((AB _ _).alloc (Af _) _);have O:=aA (HO.o.alloc (.cells #[.int .i64 (k:Int),.int .u32 (u:Int)] 46));have ay:=aA (AE wz (.cells #[.int .i64 (k:Int),.int .u32 (u:Int)] 46));have b6:=aA (F.o.below H.o F.o.lt);have bj:Hid (N0<=(wz.alloc (.cells #[.int .i64 (k:Int),.int .u32 (u:Int)] 46)).heap.size):=aA (Am aw.o H.o.size);have bk:Hid (Below w.heap.size w (wz.alloc (.cells #[.int .i64 (k:Int),.int .u32 (u:Int)] 46))):=aA (ag.o.trans (H.o.mono (by have:=ag.o.size;omega)));have bl:=fun j (e:(Value.slice A xs.length c).ownBlock=some j)=>(Bn O.o j e).1;have bm:=aA bl;clear bl;go_wp2_with (at_builtin;refine zbK (f:=lkF) rfl (.tmp 51) (.tmp 55) _ rfl Tryz.underlying36 _ 16 zmr (by decide) (by decide) (by decide) zdm zkN N0 _ xs rfl O.o _ _ ((k:Int),(u:Int)) rfl (zi9 ((k:Int),(u:Int)) _ _ ay.o) (by have:=b5.o;have:=ax.o;omega) bj.o ?_;intro v5 w5 az a0;have U:=aA a0;have s:Hid (UBQ 36 rwF w5 gL (rs++[((xs,A,c):RW (Int×Int))]++List.replicate (n-(i+1)) ([],none,0))):=aA (aI O.o a0 b6.o fun cur=>aH (by decide));have c5:=s.o.mid aq.o;have f5:=s.o.frozen i;have l5:=s.o.lt;obtain⟨A5,c5',rfl,_,_,_⟩:=aJ.form az zdm;have bo:=aA az;clear a0 az;generalize bp:(xs++[((k:Int),(u:Int))]).length=ln at *;have bq:=aA bp;clear bp)
        have b7:Hid (aJ 46 2 lkF (w5.setCell ⟨gL,i,none⟩ (.slice A5 ln c5')) N0 (.slice A5 ln c5') (xs++[((k:Int),(u:Int))])):=aA (Ba bo.o (aF (AM _ _) i _) (zah bo.o s.o fun cur=>aH (by decide)))
        have b8:Hid (UBQ 36 rwF (w5.setCell ⟨gL,i,none⟩ (.slice A5 ln c5')) gL (rs++[((xs++[((k:Int),(u:Int))],A5,c5'):RW (Int×Int))]++List.replicate (n-(i+1)) ([],none,0))):=aA (by
         have:=s.o.set1 i ((xs++[((k:Int),(u:Int))],A5,c5'):RW (Int×Int)) A5 ln c5' rfl bq.o rfl
         rw[mid_set _ _ _ _ i aq.o]at this;exact this)
        have ac:∀(g:Nat) (cur:Array Value),g<N0->wz.heap[g]?=some (.cells cur 46 (0,0))->(w5.setCell ⟨gL,i,none⟩ (.slice A5 ln c5')).heap[g]?=some (.cells cur 46 (0,0)):=fun g cur h1 h2=>by
         have h3:=aC H.o h2;have h4:w5.heap[g]?=some (.cells cur 46 (0,0)):=(U.o.block g (Ad.1 h3).1 (fun e=>by have:=bm.o g e.symm;omega)).trans h3;refine(AP w5 ⟨gL,i,none⟩ _ g (fun e=>?_)).trans h4;have e:g=gL:=e;rw[e]at h4;have h5:=s.o;unfold UBQ at h5;rw[h4]at h5;injection h5 with h5;exact aH (by decide) h5
        have b9:Hid (∀r∈rs,bR 46 2 lkF (w5.setCell ⟨gL,i,none⟩ (.slice A5 ln c5')) 0 N0 r):=aA (fun r hr=>(au.o r hr).keep fun g cur _ h2 h3=>ac g cur h2 h3)
        have cb:Hid (Mw.MapIs enE (w5.setCell ⟨gL,i,none⟩ (.slice A5 ln c5')) D (Lk.encM DD)):=aA (by
         have cc:=J.o.block (H.o.block D J.o.lt);obtain⟨es,ck,hm,hr⟩:=cc;have a1:=aI O.o U.o hm fun cur e=>by cases e
         refine⟨es,ck,(AP w5 ⟨gL,i,none⟩ _ D (fun e=>?_)).trans a1,hr⟩
         have:=bh.o
         have e:D=gL:=e;rw[e]at a1;have h5:=s.o;unfold UBQ at h5;rw[a1]at h5;cases h5)
        have cd:Hid ((w5.setCell ⟨gL,i,none⟩ (.slice A5 ln c5')).heap[w.heap.size]?=some (.cells #[.slice AT G.ts.length cT,.slice AN G.ns.length cN,.slice AR G.rs.length cR,.int .i64 G.st] 26 (0,0))):=aA ((AP w5 ⟨gL,i,none⟩ _ w.heap.size (fun e=>by have e:w.heap.size=gL:=e;have:=bc.o;omega)).trans (aI O.o U.o (aC H.o av.o) fun cur=>aH (by decide)));have ce:Hid (Below w.heap.size w (w5.setCell ⟨gL,i,none⟩ (.slice A5 ln c5'))):=aA ((bk.o.grown U.o bk.o.size (fun j e=>by have:=bm.o j e;have:=bh.o;omega)).setCell (by have:=bc.o;simp only;omega) _);have cf:Hid (N0<=(w5.setCell ⟨gL,i,none⟩ (.slice A5 ln c5')).heap.size):=aA (by have:=bj.o;have:=U.o.size;simp;omega);clear ac c5 f5 l5;go_roundw
        case rel=>exact⟨k+1,A5,c5',ax.o,by go_num,by rw[M.o,bq.o];exact b7,by rw[M.o];exact b8,b9,cb,cd,ce,cf⟩
        case measure=>simp[intOf];omega
      ·obtain rfl:k=G.rs.length:=by omega
       rw[Lk.lkPart_all]at HO F
       have cg:Hid (∀r∈rs++[((Lk.lkRow G K E i,A,c):RW (Int×Int))],bR 46 2 lkF wz 0 wz.heap.size r):=aA (fun r hr=>by
        rcases Bs.1 hr with hr|hr
        ·exact(au.o r hr).more aw.o
        ·rw[AJ.1 hr];obtain⟨A9,c9,e9,h1,h2,_⟩:=aJ.form HO.o zdm;injection e9 with e1 e2 e3;subst e1 e3;exact⟨h1,by unfold maxLen at h2;simp only;omega,(HO.o.rowG zdm).less (AU _)⟩)
       have ch:Hid ((rs++[((Lk.lkRow G K E i,A,c):RW (Int×Int))]).map (·.1)=(List.range (i+1)).map (Lk.lkRow G K E)):=aA (by rw[Bf,ao.o,C9,Bf];rfl);go_wp2;go_roundw
       case rel=>exact⟨i+1,_,bg.o,by go_num,ch,cg,F,J,av,ag⟩
       case measure=>simp[intOf];omega
    ·obtain rfl:i=n:=by omega
     have HR:Hid ((List.range i).map (Lk.lkRow G K E)=Lk.lkS G):=aA (by rw[HE.o.2,HN.o]);have br:Hid ((Lk.lkS G).length=i):=aA (by rw[<-HR.o];simp);rw[Di,D5,CP]at HU;go_wp2
     go_ret2
     refine⟨some ⟨gL,0,none⟩,i,?_,by rw[br.o];exact Af _,by omega,?_,HW.o⟩
     ·rw[br.o,HE.o.1.1];rfl
     ·have:=UBQ.rdM HU.o HU.o.lt ap.o
      rw[ao.o,HR.o]at this;exact this
namespace Lk
open Au Gm Go.Mw
def zli (L:List (List It)):SS:=L.map fun l=>l.map fun _=>0
theorem zgF (L:List (List It)) (q:Nat):(zli L).getD q []=(L.getD q []).map fun _=>0:=by
 unfold zli;rw[Ap,BH,Ap];cases L[q]? <;> rfl
theorem zlo (l:List It) (i:Nat):(l.map fun _=>(0:Nat)).getD i 0=0:=by
 rw[Ap,BH];cases l[i]? <;> rfl
theorem zed (L:List (List It)):Fit L (zli L):=⟨by simp[zli],fun q=>by rw[zgF,Bd]⟩
theorem zke (G:Gr) (E:List (List (Int×Int))) (L:List (List It)):Snd G E L (zli L):=fun q x t h=>by
 obtain⟨i,_,h2⟩:=h;rw[zgF,zlo,CR]at h2;cases h2
def zmR (G:Gr) (L:List (List It)):SS:=gv L (zli L) 0 (-1,0) (2 ^ G.ts.length)
theorem zkh {t:Nat} (h:(2 ^ n).testBit t=true):t=n:=by
 rw[Ca]at h;exact(Co h).symm
section
variable {G:Gr} {K:List (List It)} {E:List (List (Int×Int))}
theorem zik (hi:Inv G K E):Fit (rowsL G K) (zmR G (rowsL G K))/\Snd G E (rowsL G K) (zmR G (rowsL G K))/\At (rowsL G K) (zmR G (rowsL G K)) 0 (-1,0) G.ts.length:=by
 refine⟨zcs (zed _) _ _ _,zhV (zed _) (zke _ _ _) fun t h=>by rw[zkh h];exact .st,(zgg (zed _)).2 (.inr ⟨rfl,rfl,by rw[Ca];simp,?_⟩)⟩;have h0:=la_in hi (.st:La G E 0 (-1,0) G.ts.length);rw[zaT h0.1];exact List.getElem?_of_mem h0.2
end
def psC (nu:List Bool) (f:List Nat) (G:Gr) (tw:Nat->Int->Nat) (L:List (List It)) (S:SS) (p:Nat×Nat):SS :=
 match (L.getD p.1 [])[p.2]? with
 | none=>S
 | some x=>match nx G x with
  | none=>S
  | some sym=>if(S.getD p.1 []).getD p.2 0=0 then S else
   if 0<=sym then gv L S (tw p.1 sym) (x.1,x.2+1) ((S.getD p.1 []).getD p.2 0)
   else(List.range G.rs.length).foldl (ps1 G L p.1 sym (ofN nu f ((S.getD p.1 []).getD p.2 0) (rest G x))) (gv L S (tw p.1 sym) (x.1,x.2+1) ((S.getD p.1 []).getD p.2 0))
theorem ps_c {G:Gr} {f:List Nat} (h1:gn false G.rs G.ns.length=nu) (h2:fst G=f):ps G=psC nu f G:=by subst h1 h2;rfl
def prs (L:List (List It)):List (Nat×Nat):=(List.range L.length).flatMap fun q=>(List.range (L.getD q []).length).map fun i=>(q,i)
theorem zkx {L:List (List It)} (hq:q<L.length) (hi:i<(L.getD q []).length):(q,i)∈prs L:=CE.2 ⟨q,BO.2 hq,Bm.2 ⟨i,BO.2 hi,rfl⟩⟩
theorem zlL {G:Gr} {tw:Nat->Int->Nat} {L:List (List It)} {S:SS} (h:¬(q<L.length/\i<(L.getD q []).length)):ps G tw L S (q,i)=S:=by
 have:(L.getD q [])[i]?=none:=by
  rw[Ev];rcases Bx q L.length with hq|hq
  ·exact Nat.le_of_not_lt fun k=>h ⟨hq,k⟩
  ·rw[Ap,BD hq];exact AU _
 unfold ps;simp only[this]
theorem znj {G:Gr} {tw:Nat->Int->Nat} {L:List (List It)} {S:SS} (p:Nat×Nat) {x:It} {t:Nat} (hf:Fit L S) (h:At L S q x t):At L (ps G tw L S p) q x t:=by
 have key:∀(q':Nat) (sym:Int) (s:Nat) (ks:List Nat) (S1:SS),Fit L S1->At L S1 q x t->At L (ks.foldl (ps1 G L q' sym s) S1) q x t:=by
  intro q' sym s ks;induction ks with
  | nil=>exact fun _ _ h=>h
  | cons k ks ih =>
   intro S1 aa h1;rw[C8];refine ih _ (zdP q' sym s S1 k aa).1 ?_;unfold ps1;split
   ·exact(zgg aa).2 (.inl h1)
   ·exact h1
 unfold ps;split
 ·exact h
 ·split
  ·exact h
  ·split
   ·exact h
   ·split
    ·exact(zgg hf).2 (.inl h)
    ·exact key _ _ _ _ _ (zcs hf _ _ _) ((zgg hf).2 (.inl h))
section
variable {G:Gr} {K:List (List It)} {E:List (List (Int×Int))}
structure Run (G:Gr) (K:List (List It)) (E:List (List (Int×Int))) (S:SS):Prop where
 f:Fit (rowsL G K) S
 s:Snd G E (rowsL G K) S
 b:At (rowsL G K) S 0 (-1,0) G.ts.length
theorem Run.beg (hi:Inv G K E):Run G K E (zmR G (rowsL G K)):=⟨(zik hi).1,(zik hi).2.1,(zik hi).2.2⟩
theorem Run.ps {S:SS} (h:Run G K E S) (hi:Inv G K E) (hE:E.length=K.length) (aa:Ok G) (p:Nat×Nat):Run G K E (ps G (tow K E) (rowsL G K) S p) :=
 ⟨(zni S p h.f).1,zlK aa (fun _ _ _ hx hs=>(zjD hi hE aa hx hs).1) S p h.f h.s,znj p h.f h.b⟩
theorem Run.all (hi:Inv G K E) (hE:E.length=K.length) (aa:Ok G):∀(l:List (Nat×Nat)) (S:SS),Run G K E S->Run G K E (l.foldl (Lk.ps G (tow K E) (rowsL G K)) S)
 | [],_,h=>h
 | p::l,_,h=>Run.all hi hE aa l _ (h.ps hi hE aa p)
theorem Run.done {S:SS} (h:Run G K E S) (hr:∀p∈prs (rowsL G K),Lk.ps G (tow K E) (rowsL G K) S p=S):Done G K E S:=⟨h.f,h.s,h.b,fun q i=>by
 by_cases c:q<(rowsL G K).length/\i<((rowsL G K).getD q []).length
 ·exact hr _ (zkx c.1 c.2)
 ·exact zlL c⟩
theorem znp {S:SS} {L:List (List It)} (hB:isB G=true) (hb:bld G=some (K,E)) (hd:Done G K E S) (aa:Ok G) (hL:rowsL G K=L):lkS G=(List.range K.length).map fun q=>zd4 G (L.getD q []) (S.getD q []) (L.getD q []).length:=by
 have hi:=bld_inv hb;rw[lk_ok hB hb];refine List.map_congr_left fun q hq=>?_;have hq:=BO.1 hq;rw[<-zl5 hd hi.1 hi.2.1 aa hq,<-hL,zaT hq]
theorem lkS_c2 {f:List Nat} {L:List (List It)} {S:SS} (hB:isB G=true) (hb:bld G=some (K,E)) (aa:Ok G) (hL:rowsL G K=L) (h1:gn false G.rs G.ns.length=nu) (h2:fst G=f) (n:Nat) (hS:(List.replicate n (prs L)).flatten.foldl (psC nu f G (tow K E) L) (zmR G L)=S) (hr:∀p∈prs L,psC nu f G (tow K E) L S p=S):lkS G=(List.range K.length).map fun q=>zd4 G (L.getD q []) (S.getD q []) (L.getD q []).length:=by
 have hi:=bld_inv hb;have hR:=Run.all hi.1 hi.2.1 aa (List.replicate n (prs L)).flatten _ (Run.beg hi.1);rw[hL,ps_c h1 h2,hS]at hR;exact znp hB hb (hR.done (by rw[hL,ps_c h1 h2];exact hr)) aa hL
end
end Lk
end Go.Proofs.YtcmhaemaophplaaGreat
namespace Go.Proofs.YtcmhaemaophplaaGreat
open Go.RowKit
def rd (L:List Int):Option (Gm.R Gm.Gr):=match zki L with
 | .bad _ _=>none
 | .ok xs=>match Y.source xs with
  | .ok s _=>some (Gm.build s.1 s.2)
  | .bad _=>none
end Go.Proofs.YtcmhaemaophplaaGreat
