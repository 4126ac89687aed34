/- Part of the proofs over this program: AuEdge, AuBuild, LkEnds, LkEnds2, LkOf, LookC, CfgRead. -/
import Derived.Test.YtjjbaehamplnaaaGreatML
set_option linter.all false
set_option maxRecDepth 100000
set_option maxHeartbeats 40000000
variable {A:Option Go.Addr} {B D M NE b base g i m n:Nat} {E es:List (List (Int×Int))} {G:Go.Proofs.YtjjbaehamplnaaaGreat.Gm.Gr} {p:Go.Addr} {s:Int} {u v:Go.Value} {w w':Go.World} {xs:List Go.Value}
namespace Go.Proofs.YtjjbaehamplnaaaGreat
open Go.RowKit
theorem zgV {R:Nat} {T:TypeId} (h:w.ownsRow base T m v n xs) (hk:∀(g:Nat) (o:Obj),w.heap[g]?=some o->g≠R->g≠M->(∀cur fr,o ≠ .cells cur 59 fr)->(∀cur fr,o ≠ .cells cur 96 fr)->w'.heap[g]?=some o) (hR:∀cur,w.heap[R]? ≠ some (.cells cur T (0,0))) (hM:∀cur,w.heap[M]? ≠ some (.cells cur T (0,0))) (hT:T≠59) (hE:T≠96):w'.ownsRow base T m v n xs:=by
 refine⟨h.1,?_⟩;rcases h.2 with h0|⟨g,cap,cur,e,aa,hg,hr⟩
 ·exact .inl h0
 ·exact .inr ⟨g,cap,cur,e,aa,hk g _ hg (fun q=>hR cur (by rw[<-q];exact hg)) (fun q=>hM cur (by rw[<-q];exact hg)) (fun cur' fr q=>by injection q with _ q _;exact hT q) (fun cur' fr q=>by injection q with _ q _;exact hE q),hr⟩
theorem zga {R:Nat} {xs:List (Int×Int)} (h:aK 96 2 prF w base v xs) (hk:KeepN R M w w') (hR:∀cur,w.heap[R]? ≠ some (.cells cur 96 (0,0))) (hM:∀cur,w.heap[M]? ≠ some (.cells cur 96 (0,0))):aK 96 2 prF w' base v xs:=by
 refine⟨h.1,?_⟩;rcases h.2 with h0|⟨g,cap,cur,e,aa,hg,hr⟩
 ·exact .inl h0
 ·exact .inr ⟨g,cap,cur,e,aa,hk.keep g _ hg (fun q=>hR cur (by rw[<-q];exact hg)) (fun q=>hM cur (by rw[<-q];exact hg)) (fun cur' fr q=>by injection q with _ q _;exact absurd q (by decide)),hr⟩
structure KeepM (R M:Nat) (w w':World):Prop where
 size:w.heap.size<=w'.heap.size
 keep:∀(g:Nat) (o:Obj),w.heap[g]?=some o->g≠R->g≠M->(∀cur fr,o ≠ .cells cur 59 fr)->(∀cur fr,o ≠ .cells cur 96 fr)->w'.heap[g]?=some o
theorem KeepM.refl (R M:Nat) (w:World):KeepM R M w w:=⟨Ad _,fun _ _ h _ _ _ _=>h⟩
theorem KeepM.trans {R:Nat} {w2:World} (h:KeepM R M w w') (k:KeepM R M w' w2):KeepM R M w w2:=⟨Ag h.size k.size,fun g o h1 h2 h3 h4 h5=>k.keep g o (h.keep g o h1 h2 h3 h4 h5) h2 h3 h4 h5⟩
theorem KeepM.of {R:Nat} (h:KeepN R M w w'):KeepM R M w w':=⟨h.size,fun g o h1 h2 h3 h4 _=>h.keep g o h1 h2 h3 h4⟩
theorem KeepM.own {R:Nat} (h:w.ownsRow base 96 2 v n xs) (hg:w.grownBy w' v.ownBlock):KeepM R M w w':=⟨hg.size,fun _ _ h1 _ _ _ h5=>aI h hg h1 fun cur=>h5 cur _⟩
theorem KeepN.ownAt {R:Nat} {a:World} {T:TypeId} (h:KeepN R M a w) (ho:w.ownsRow base T m v n xs) (hg:w.grownBy w' v.ownBlock) (hb:a.heap.size<=base):KeepN R M a w' :=
 ⟨Ag h.size hg.size,fun g o h1 h2 h3 h4=>(hg.block g (Ao (Ac.1 h1).1 h.size) (fun e=>by have:=(Bs ho g e.symm).1;have:=(Ac.1 h1).1;omega)).trans (h.keep g o h1 h2 h3 h4)⟩
theorem ABd.apart {R:Nat} {g0 g1 g2 g3:Value} {qs:List QS} (h:ABd w base R M NE g0 g1 g2 g3 qs):(∀cur T,T≠120->w.heap[R]? ≠ some (.cells cur T (0,0)))/\∀cur T,w.heap[M]? ≠ some (.cells cur T (0,0)):=by
 obtain⟨⟨vS,h1,_⟩,⟨l,h3,_⟩,_,_⟩:=h;refine⟨fun cur T hT e=>?_,fun cur T=>h3.is.not_cells⟩;rw[h1]at e;injection e with e;injection e with _ e _;exact hT e.symm
theorem ABd.only {R:Nat} {g0 g1 g2 g3:Value} {qs:List QS} (h:ABd w base R M NE g0 g1 g2 g3 qs) (hg:w.grownBy w' (some D)) (hD:∃es ck,w.heap[D]?=some (.map es ck)) (hM:D≠M):ABd w' base R M NE g0 g1 g2 g3 qs:=by
 obtain⟨es,ck,hD⟩:=hD;obtain⟨⟨vS,h1,h2⟩,⟨l,h3,h4⟩,h5,h6⟩:=h;have hb:∀(g:Nat) (o:Obj),w.heap[g]?=some o->g≠D->w'.heap[g]?=some o:=fun g o h hn=>(hg.block g (Ac.1 h).1 (fun e=>by injection e with e;exact hn e)).trans h;have hc:∀(g:Nat) (cur:Array Value) (T:TypeId),w.heap[g]?=some (.cells cur T (0,0))->w'.heap[g]?=some (.cells cur T (0,0)):=fun g cur T h=>hb g _ h fun e=>by rw[e,hD]at h;cases h
 refine⟨⟨vS,hc _ _ _ h1,?_,fun q hq=>((h2.2 q hq).keep fun g cur T _ h=>hc g cur T h).more hg.size (Ad _)⟩,⟨l,h3.block ?_,h4⟩,h5,h6⟩
 ·exact AZ h2.1 hg (zaf h2.1 hD fun cur e=>by cases e)
 ·exact hg.block _ h3.lt (fun e=>by injection e with e;exact hM e.symm)
theorem ABd.ownE {R:Nat} {g0 g1 g2 g3:Value} {qs:List QS} {xs:List (Int×Int)} (h:ABd w base R M NE g0 g1 g2 g3 qs) (ho:aK 96 2 prF w b v xs) (hg:w.grownBy w' v.ownBlock) (hb:NE<=b):ABd w' base R M NE g0 g1 g2 g3 qs:=by
 obtain⟨⟨vS,h1,h2⟩,⟨l,h3,h4⟩,h5,h6⟩:=h;have hc:∀(g:Nat) (cur:Array Value) (T:TypeId),T≠96->w.heap[g]?=some (.cells cur T (0,0))->w'.heap[g]?=some (.cells cur T (0,0)):=fun g cur T hT h=>aI ho hg h fun cur=>aH hT;refine⟨⟨vS,hc _ _ _ (by decide) h1,?_,fun q hq=>((h2.2 q hq).keep fun g cur T hT h=>?_).more hg.size (Ad _)⟩,⟨l,h3.block ?_,h4⟩,h5,h6⟩
 ·rcases h2.1.2 with h0|⟨g,cap,cur,e,aa,ab,hr⟩
  ·exact⟨h2.1.1,.inl h0⟩
  ·exact⟨h2.1.1,.inr ⟨g,cap,cur,e,aa,hc _ _ _ (by decide) ab,hr⟩⟩
 ·rcases hT with⟨rfl,_⟩|⟨rfl,ac⟩
  ·exact hc _ _ _ (by decide) h
  ·exact(hg.block g (Ac.1 h).1 (fun e=>by have:=(Bs ho g e.symm).1;omega)).trans h
 ·obtain⟨es,ck,hm,_⟩:=h3;exact(aI ho hg hm fun cur e=>by cases e).trans hm.symm
open Go.ChangeShapes Go.WideShapes Go.Deep Go.RowKit Go.Joins in
theorem zdE {a:World} (h:a.grownBy w (some D)) (hD:∃es ck,a.heap[D]?=some (.map es ck)) (hc:a.cell? p=some u):w.cell? p=some u:=by
 obtain⟨es,ck,hD⟩:=hD
 have aa:some p.block≠some D:=fun e=>by
  injection e with e;unfold World.cell? at hc;rw[e,hD]at hc;cases hc
 rw[Ch (h.block p.block (Bd hc) aa)];exact hc
theorem zjl {cl:List Au.It} {p:List (List Au.It)×List (Int×Int)} {qs:List QS} (A:Option Addr) (c:Nat) (hp:bG qs=p.1) (aa:Au.mv G cl s≠[]):Au.edge G cl p s=(bG (zin qs (Au.mv G cl s) A c),p.2++[(s,zi4 qs (Au.mv G cl s))]):=by
 unfold Au.edge zin zi4;rw[AB aa,hp];by_cases h:Au.fnd p.1 (Au.mv G cl s)<0
 ·rw[AB (by omega),Ap h,Ap h];have e:p.1.length=qs.length:=by rw[<-hp];unfold bG;rw[Bb]
  rw[e,<-hp];unfold bG bY;rw[AW];rfl
 ·rw[Ap (by omega),AB h,AB h,hp]
theorem zkA (qs new:List QS) (k:List Au.It) (A:Option Addr) (c:Nat) (h:∀q∈new,q.2.1=[]):∃new',zin (qs++new) k A c=qs++new'/\(∀q∈new',q.2.1=[])/\new'.length<=new.length+1:=by
 unfold zin;split
 ·refine⟨new++[bY k A c],by rw[BW],fun q hq=>?_,by simp⟩;rcases Bj.1 hq with hq|hq
  ·exact h q hq
  ·rw[AF.1 hq];rfl
 ·exact⟨new,rfl,h,by omega⟩
theorem zg9 {T:TypeId} (x:Int×Int) (w:World) (g:Nat) (hb:w.heap[g]?=some (.cells #[.int .i64 x.1,.int .i64 x.2] T (0,0))):∀j u,(prF x)[j]?=some u->w.cell? ⟨g,j,none⟩=some u:=fun j u hu=>by
 refine(Aw w g j _ _ _ hb).trans ?_
 match j,hu with
 | 0,hu=>exact hu
 | 1,hu=>exact hu
 | j+2,hu=>simp[prF]at hu
def zeF (G:Gm.Gr) (w:World) (base R M NE:Nat) (g0 g1 g2 g3:Value) (qs:List QS) (k:List Au.It) (e:Ending) (w':World):Prop :=
 ∃v new,e=.returned v/\aK 96 2 prF w' w.heap.size v (Au.edges G (Au.clo G k) (bG qs,[]) (Au.syms G)).2/\bG (qs++new)=(Au.edges G (Au.clo G k) (bG qs,[]) (Au.syms G)).1/\(∀q∈new,q.2.1=[])/\ABd w' base R M NE g0 g1 g2 g3 (qs++new)/\Below base w w'/\KeepN R M w w'
theorem zgg (G:Gm.Gr) (w:World) (base R M NE B:Nat) (AT AN AR:Option Addr) (cT cN cR:Nat) (qs:List QS) (k:List Au.It) (A:Option Addr) (c:Nat) (hg:aQ w B (.agg #[.slice AT G.ts.length cT,.slice AN G.ns.length cN,.slice AR G.rs.length cR,.int .i64 G.st]) G) (hf:Gm.Fit G) (U:Gm.Ok G) (hB:B<=base) (h:ABd w base R M NE (.slice AT G.ts.length cT) (.slice AN G.ns.length cN) (.slice AR G.rs.length cR) (.int .i64 G.st) qs) (hk:zna 61 w base w.heap.size (k,A,c)) (hi:∀x∈k,Au.isI G x=true) (hl:k.length<=1000) (hq:qs.length<=1000) (hE:NE<=w.heap.size) :
  Calls Tryz.prog 57 #[.pointer (some ⟨R,0,none⟩),.slice A k.length c] w (zeF G w base R M NE (.slice AT G.ts.length cT) (.slice AN G.ns.length cN) (.slice AR G.rs.length cR) (.int .i64 G.st) qs k):=by
 have HG:=aA hg;have HF:=aA hf;have J:=aA U;have ba:=aA hB;have HH:=aA h;have HK:=aA hk;have HI:=aA hi;have HQ:=aA hq;have N:=aA h.base_le;have cB:=aA hE;have O:=fun t w=>EP (P:=Tryz.prog) t w;obtain⟨w1,aj⟩:∃y,y=w.alloc (.map #[] 0):=⟨_,rfl⟩
 have cC:w1.heap.size=w.heap.size+1:=by rw[aj];simp
 have C:Hid (Below w.heap.size w w1):=aA (by rw[aj];exact(Aq _ _).alloc (Ad _) _);have bx:Hid (Mw.MapIs zf2 w1 w.heap.size []):=aA (by rw[aj];exact Mw.MapIs.made zf2 w);have bz:=aA (h.below C.o)
 have bD:=aA (zgh _ G B k A c w.heap.size w1 (hg.below C.o (Ag hB h.base_le)) hf U (Ag hB (Ag h.base_le C.o.size)) (hk.2.2.rd.below C.o (Ad _)) C.o.size (fun x hx=>by
  have hx:=Au.isI_iff.1 (hi x hx)
  have:=Au.sy_le U (Au.rls_mem.2 hx.1)
  have:=U.r40
  unfold Gm.In
  omega) hl)
 rw[List.filter_eq_self.2 hi]at bD;have bM:Hid (∀x∈Au.clo G k,Au.isI G x=true):=aA (fun x hx=>Au.clo_is hx);have bb:Hid ((Au.clo G k).length<=287):=aA (Au.clo_le2 U U.r40 k);obtain⟨⟨vS,h1,h2⟩,_⟩:=bz.o;have r0:=aM h1;have r1:=aR h1;have r2:=bF h1;have r3:=bQ h1;unfold zeF;generalize cD:Au.clo G k=cl at *;clear hg hf U hB h hk hi hq h1 h2 cD hE
 go_enter Tryz.func57,Tryz.ntmps57
 go_upto_region 2 with fail
 rw[<-aj];clear aj;go_wp2_with fail
 refine bD.o.mono ?_;rintro _ w2 ⟨v2,rfl,bT,ax⟩;obtain⟨A2,c2,rfl,bc,bd,ak⟩:=aK.form bT aJ;have cE:=aA ak;have bX:=aA ax;have bZ:=aA (bz.o.below ax);have ay:Hid (Mw.MapIs zf2 w2 w.heap.size []):=aA (bx.o.block (ax.block _ bx.o.lt));have cF:Hid (MvSt G w2 w2.heap.size w.heap.size (cl.take 0)):=aA (MvSt.start G w2 _ ay.o);have ds:Hid (w.heap.size<w2.heap.size):=aA ay.o.lt;have cG:(cl.length:Int)<=287:=by have:=bb.o;omega
 clear bT ax ak r0 r1 r2 r3 bc bd cC O;obtain⟨D,cH⟩:∃D,D=w.heap.size:=⟨_,rfl⟩
 have dt:=aA cH;go_wp2;go_loopw [23] (fun vi wr=>∃i:Nat,i<=cl.length/\vi=.int .i64 i/\Hid (MvSt G wr w2.heap.size w.heap.size (cl.take i))/\Hid (w2.grownBy wr (some w.heap.size))) (fun vi _=>cl.length-(intOf vi).toNat)
 case atStart=>exact⟨0,AX _,rfl,cF,aA (AI _ _)⟩
 case round =>
  obtain⟨i,hi,rfl,HM,HW⟩:=hrel;by_cases b:i<cl.length
  ·obtain⟨g,o,rfl,bf,hc⟩:=cE.o (by omega);obtain⟨es2,ck2,X,_⟩:=ay.o;have bg:∃es ck,w2.heap[w.heap.size]?=some (.map es ck):=⟨es2,ck2,X⟩
   have k0:wr.cell? ⟨g,o+i*2,none⟩=some (.int .i64 (cl[i]).1):=zdE HW.o bg (hc i b 0 _ rfl);have k1:wr.cell? ⟨g,o+i*2+1,none⟩=some (.int .i64 (cl[i]).2):=zdE HW.o bg (hc i b 1 _ rfl);have az:Hid (Au.isI G cl[i]=true):=aA (bM.o _ (Ay b));have F:Hid (cl.take (i+1)=cl.take i++[cl[i]]):=aA (AO b);have r:Hid (Below w.heap.size w w2):=aA (C.o.trans (bX.o.mono C.o.size));have V:Hid (Below w.heap.size w wr):=aA (zaa r.o HW.o (Ad _) r.o.size);obtain⟨⟨vS,h1,h2⟩,_⟩:=bZ.o;have cI:R≠w.heap.size:=fun e=>by rw[e,X]at h1;cases h1
   have b0:=(HW.o.block R (Ac.1 h1).1 (fun e=>by injection e with e;exact cI e)).trans h1;obtain⟨wi,a0⟩:∃y,y=wr.alloc (.cells #[.int .i64 (cl[i]).1,.int .i64 (cl[i]).2] 61):=⟨_,rfl⟩
   have Z:Hid (Below wr.heap.size wr wi):=aA (by rw[a0];exact(Aq _ _).alloc (Ad _) _);have b1:wi.heap[wr.heap.size]?=some (.cells #[.int .i64 (cl[i]).1,.int .i64 (cl[i]).2] 61 (0,0)):=by rw[a0];exact Az wr _
   have ac:=aA b1;have a1:=aA (aC Z.o b0);have b3:=aA (fun(y:World) (h:Below wi.heap.size wi y)=>zcQ _ G B cl[i] y (HG.o.below (V.o.trans ((Z.o.trans (h.mono Z.o.size)).mono V.o.size)) (Ag ba.o N.o)) HF.o (Ag (Ag ba.o N.o) (Ag V.o.size (Ag Z.o.size h.size))));have b4:=aA (Au.nxP_is az.o);have cJ:=aA (fun s (h:Au.nx G cl[i]=some s)=>Au.nx_in J.o az.o h);have b5:=aA (Au.isI_iff.1 az.o);have cK:=aA (Au.sy_le J.o (Au.rls_mem.2 b5.o.1));have cL:=aA (fun s=>Au.mv_le G (cl.take i) s);clear hc bf bg X h1 h2 b0 b1 az;generalize cl[i]=x at *;go_upto_region 5 with fail
   rw[<-a0];clear a0 k0 k1;have z0:=fun z:Calm.On wi.heap.size wi=>aM (aC z.2 a1.o);have z1:=fun z:Calm.On wi.heap.size wi=>aR (aC z.2 a1.o);have z2:=fun z:Calm.On wi.heap.size wi=>bF (aC z.2 a1.o);have z3:=fun z:Calm.On wi.heap.size wi=>bQ (aC z.2 a1.o);have q0:=fun z:Calm.On wi.heap.size wi=>aM (aC z.2 ac.o);have q1:=fun z:Calm.On wi.heap.size wi=>aR (aC z.2 ac.o);have b6:=zbf wi;refine CalmN.region_tree (fun x=>∃z:Calm.On wi.heap.size wi,x=z.1) (.one [0,1,2,3,4] 5 (.fin [6,7,8,9,10])) (by kernel_rfl) (by kernel_rfl) (fun _ _ d _ _ h=>by cases d <;> exact h) b6.o ?_;simp only[CalmN.wpT,CalmN.wpSt,CalmN.pickOps,Am,Af,Ah];repeat (go_big_quiet_step (fail))
   refine Aj ?_;intro KK a2;rw[Ap (by rfl)];go_wp2_with fail
   refine(b3.o wi.drew (aB (Aq _ _) 1)).mono ?_;rintro _ w3 ⟨rfl,ag⟩;have ag:Below wi.heap.size wi w3:=(aB (Aq _ wi) 1).trans ag;have a3:=zi2 ag;have b7:Hid (Below wr.heap.size wr w3):=aA (Z.o.trans (ag.mono Z.o.size));have b8:=aA (HM.o.below b7.o);have bh:Hid (w2.grownBy w3 (some w.heap.size)):=aA (zae HW.o (zab b7.o _));have al:=aA (aC ag ac.o);rw[b4.o];clear ag z0 z1 z2 z3 q0 q1 b3 b6 b4;cases hq:Au.nx G x with
   | none =>
    have HX:=aA (b8.o.skip hq);clear hq;go_wp2_with fail
    refine a2 _ _ a3.o _ (fun _ h=>h) a3.o ?_;clear a2;repeat (go_big_quiet_step (fail))
    refine Aj ?_;go_wp2;go_roundw
    case rel=>exact⟨i+1,b,by go_num,aA (by rw[F.o];exact HX.o),bh⟩
    case measure=>simp[intOf];omega
   | some s =>
    have b9:=cJ.o s hq;have cM:=Gm.has_iff.1 (Au.syms_mem.1 b9);have cO:=(Gm.nons_iff G).1 J.o.n;have aa:Hid (Gm.In s):=aA (by unfold Gm.In;have:=(Gm.terms_iff G.ts).1 J.o.t;omega);have du:IntKind.i64.wrap (x.2+1)=x.2+1:=Cr _ (by have:=b5.o;have:=cK.o;omega);obtain⟨ml,O,ah,ca⟩:=b8.o.m;have ab:zf2.enc s=.int .i64 s:=rfl;have lk:=Mw.run_look (E:=zf2) O zmk (t:=166) Tryz.underlying166 (z:=.slice none 0 0) (by kernel_rfl) (x:=s) aa.o false;rw[ab]at lk;simp only[Di,if_false]at lk;have cP:=aA (fun(y:World) (hy:Mw.MapIs zf2 y w.heap.size ml) (u:Value)=>Mw.run_put (x:=s) hy zmk Tryz.underlying166 aa.o u)
    have ad:aK 61 2 prF w3 w2.heap.size ((Mw.asc ml s).getD (.slice none 0 0)) (Au.mv G (cl.take i) s):=by
     rcases ah s with q|⟨v,p1,p2,p3⟩
     ·rw[q.1,q.2];exact aK.nil _ _
     ·rw[p1];exact p3
    have bi:=aA ad;have dv:Hid ((Mw.asc ml s).getD (.slice none 0 0)=(Mw.asc ml s).getD (.slice none 0 0)):=aA rfl;generalize hv:(Mw.asc ml s).getD (.slice none 0 0)=v at *;have HV:=aA hv;have cQ:=aA O;have cS:=aA ah;have cU:=aA ca;have cV:=aA hq;have x0:=aM al.o;have x1:=aR al.o;have cW:=aA (show(Au.mv G (cl.take i) s).length<=1000 by have:=cL.o s;have h2:=List.length_take_le i cl;have:=bb.o;rw[Bc]at *;omega);have ae:=aA (bi.o.alloc (.cells #[.int .i64 x.1,.int .i64 (x.2+1)] 61));have am:Hid (w2.grownBy (w3.alloc (.cells #[.int .i64 x.1,.int .i64 (x.2+1)] 61)) (some w.heap.size)):=aA (aG bh.o _);obtain⟨es3,ck3,bj,ao⟩:=cQ.o;have cb:=(BI w3 (.cells #[.int .i64 x.1,.int .i64 (x.2+1)] 61) w.heap.size (Ac.1 bj).1).trans bj;have cX:=aA cb;have cY:=aA ao;have af:=aA (Az w3 (.cells #[.int .i64 x.1,.int .i64 (x.2+1)] 61));have cc:(some s:Option Int).isSome=true:=rfl;obtain⟨Av,nv,cv,cZ⟩:∃A n c,v=.slice A n c:=by obtain⟨A,c,e,_⟩:=aK.form ad aJ;exact⟨A,_,c,e⟩
    clear hq b9 cM cO O ah ca hv ad bj cb ao;go_wp2_with fail
    refine a2 _ _ a3.o _ (fun _ h=>h) a3.o ?_;clear a2;repeat (go_big_quiet_step (fail))
    refine Aj ?_;subst cZ;have dw:Hid (w2.heap.size<=w3.heap.size):=aA bh.o.size
    go_wp2_with (first
     | (at_builtin;refine zdV (f:=prF) rfl (.tmp 41) (.tmp 48) _ rfl Tryz.underlying56 _ 16 zjO (by decide) (by decide) (by decide) aJ zdB w2.heap.size _ (Au.mv G (cl.take i) s) rfl ae.o _ _ (x.1,x.2+1) rfl (zeS (x.1,x.2+1) _ _ af.o) (by have:=cW.o;omega) am.o.size ?_;intro v5 w5 cd a4 ap;have bk:=aI ae.o a4 cX.o (fun cur e=>by cases e);have c0:=cP.o w5 ⟨_,_,bk,cY.o⟩ v5)
     | (at_mapUpdate;refine Mw.wpList_store rfl _ _ _ _ rfl c0 rfl rfl rfl ?_;rintro w6 ⟨ce,H⟩))
    have c3:Hid (w3.grownBy w5 (Value.slice Av nv cv).ownBlock):=aA (by
     have h1:w3.grownBy (w3.alloc (.cells #[.int .i64 x.1,.int .i64 (x.2+1)] 61)) (Value.slice Av nv cv).ownBlock:=aG (AI _ _) _;exact zae h1 a4)
    have cf:v5.ownBlock=(Value.slice Av nv cv).ownBlock \/ ∃j,w3.heap.size<=j/\v5.ownBlock=some j:=ap.imp id fun e=>⟨_,by simp,e⟩
    have c5:=aA (MvSt.put cV.o cS.o cU.o HV.o.symm cd c3.o cf ce H ⟨_,_,bk⟩);have c6:Hid (w2.grownBy w6 (some w.heap.size)):=aA (zae (ziX am.o ae.o a4 (Ad _)) H);clear cd a4 ap bk ce H cf lk x0 x1;go_roundw
    case rel=>exact⟨i+1,b,by go_num,aA (by rw[F.o];exact c5.o),c6⟩
    case measure=>simp[intOf];omega
  ·obtain rfl:i=cl.length:=by omega
   rw[Bo]at HM;obtain⟨es2,ck2,X,_⟩:=ay.o
   have cg:Hid (w.heap.size≠M):=aA (by
    obtain⟨_,⟨l,h3,_⟩,_⟩:=HH.o
    have:=h3.lt
    omega)
   have ch:=aA (bZ.o.only HW.o ⟨es2,ck2,X⟩ cg.o);have r:Hid (Below w.heap.size w w2):=aA (C.o.trans (bX.o.mono C.o.size));have V:Hid (Below w.heap.size w wr):=aA (zaa r.o HW.o (Ad _) r.o.size);obtain⟨wo,c7⟩:∃wo:World,wo=wr:=⟨_,rfl⟩
   subst c7;obtain⟨⟨vS,h1,h2⟩,_⟩:=ch.o;have r0:=aM h1;have r1:=aR h1;have r2:=bF h1;have r3:=bQ h1;have c8:=(Gm.terms_iff G.ts).1 J.o.t;have c9:=(Gm.nons_iff G).1 J.o.n;have da:=aA (zii _ G B wo (HG.o.below V.o (Ag ba.o N.o)) (by omega) (by omega));have ci:Hid ((Au.syms G).length<=40):=aA (by rw[Au.syms_len];omega)
   have db:Hid (∀s∈Au.syms G,Gm.In s):=aA (fun s hs=>by
    have:=Gm.has_iff.1 (Au.syms_mem.1 hs)
    unfold Gm.In;omega)
   generalize cj:Au.syms G=sy at *;have cm:=aA cj;clear h1 h2 X c8 c9 cj;go_wp2_with fail
   refine da.o.mono ?_;rintro _ w4 ⟨v4,rfl,ai,aq⟩;obtain⟨A4,c4,rfl,bc,bd,_⟩:=aS.form ai;have dx:=aA aq;have dc:=aA ai;have bl:=aA (ch.o.below aq);have cn:=aA (HM.o.below aq);have co:Hid (Below w.heap.size w w4):=aA (V.o.trans (aq.mono V.o.size));have de:(sy.length:Int)<=40:=by have:=ci.o;omega
   have bm:Hid (KeepN R M w w4):=aA (.below co.o);clear ai aq r0 r1 r2 r3 bc bd;go_wp2;go_loopw [10,57] (fun vl vi wr=>∃(j:Nat) (new:List QS),j<=sy.length/\vi=.int .i64 j/\new.length<=j/\Hid (aK 96 2 prF wr w.heap.size vl (Au.edges G cl (bG qs,[]) (sy.take j)).2)/\Hid (bG (qs++new)=(Au.edges G cl (bG qs,[]) (sy.take j)).1)/\Hid (∀q∈new,q.2.1=[])/\Hid (ABd wr base R M NE (.slice AT G.ts.length cT) (.slice AN G.ns.length cN) (.slice AR G.rs.length cR) (.int .i64 G.st) (qs++new))/\Hid (Below base w wr)/\Hid (KeepN R M w wr)/\Hid (KeepM R M w4 wr)/\Hid ((Au.edges G cl (bG qs,[]) (sy.take j)).2.length<=j)) (fun _ vi _=>sy.length-(intOf vi).toNat)
   case atStart=>exact⟨0,[],AX _,rfl,Ad _,aA (by simpa[Au.edges] using aK.nil _ _),aA (by simp[Au.edges]),aA (by simp),by simpa using bl,aA (co.o.mono N.o),bm,aA (KeepM.refl _ _ _),aA (by simp[Au.edges])⟩
   case round =>
    obtain⟨j,new,hj,rfl,dy,HL,HP,HN,HA,bn,a5,ar,bo⟩:=hrel;obtain⟨Al,cl',rfl,_,_,_⟩:=aK.form HL.o aJ;by_cases b:j<sy.length
    ·have I:=bl.o.apart;have ai:aS wr wo.heap.size (.slice A4 sy.length c4) sy:=zgV dc.o ar.o.keep (fun cur=>I.1 cur _ (by decide)) (fun cur=>I.2 cur _) (by decide) (by decide);obtain⟨A4',c4',df,_,_,ak⟩:=aS.form ai;injection df with bp bq br;subst bp;clear bq br;obtain⟨g,o,rfl,bf,hc⟩:=ak (by omega);have k0:=hc j b;rw[L.gd_lt b]at k0;obtain⟨ml0,dg,_⟩:=cn.o.m;obtain⟨es4,ck4,a6,_⟩:=dg
     have dh:w.heap.size≠R:=fun e=>by
      obtain⟨⟨vS,h1,_⟩,_⟩:=bl.o;rw[<-e,a6]at h1;cases h1
     have ao:=ar.o.keep _ _ a6 dh cg.o (fun cur fr e=>by cases e) (fun cur fr e=>by cases e);have di:=aA (cn.o.keep (ao.trans a6.symm) (fun g cur _ hg=>ar.o.keep g _ hg (fun e=>I.1 cur 61 (by decide) (by rw[<-e];exact hg)) (fun e=>I.2 cur 61 (by rw[<-e];exact hg)) (fun cur' fr e=>by injection e with _ e _;exact absurd e (by decide)) (fun cur' fr e=>by injection e with _ e _;exact absurd e (by decide))));have F:Hid (Au.edges G cl (bG qs,[]) (sy.take (j+1))=Au.edge G cl (Au.edges G cl (bG qs,[]) (sy.take j)) sy[j]):=aA (by rw[AO b,Au.edges_snoc]);have aa:Hid (Gm.In sy[j]):=aA (db.o _ (Ay b));obtain⟨ml,O,ah,_⟩:=di.o.m;have ab:zf2.enc sy[j]=.int .i64 sy[j]:=rfl;have lk:=Mw.run_look (E:=zf2) O zmk (t:=166) Tryz.underlying166 (z:=.slice none 0 0) (by kernel_rfl) (x:=sy[j]) aa.o true;rw[ab]at lk;have bs:=ah sy[j];generalize sy[j]=s at *;generalize Au.edges G cl (bG qs,[]) (sy.take j)=p at *;clear hc bf a6 ao O ah I ai ak ab;rcases bs with⟨e1,e2⟩|⟨v,e1,e2,e3⟩
     ·rw[e1]at lk;simp at lk;have HE:Hid (Au.edge G cl p s=p):=aA (by unfold Au.edge;rw[Ap e2]);clear e1 e2;go_wp2;go_roundw
      case rel=>exact⟨j+1,new,b,by go_num,by omega,aA (by rw[F.o,HE.o];exact HL.o),aA (by rw[F.o,HE.o];exact HP.o),HN,HA,bn,a5,ar,aA (by rw[F.o,HE.o];have:=bo.o;omega)⟩
      case measure=>simp[intOf];omega
     ·rw[e1]at lk;simp at lk;obtain⟨Av,cv,rfl,cp,au,_⟩:=aK.form e3 aJ;have cq:∀x∈Au.mv G cl s,Au.isI G x=true:=fun x hx=>Au.mv_is bM.o hx;have a9:=aA (zjl (qs:=qs++new) Av cv HP.o e2);have cr:=aA (zcg wr base R M NE _ _ _ _ (qs++new) (Au.mv G cl s) Av cv HA.o ⟨cp,by unfold maxLen at au;omega,(aK.rowP e3).less (Ag (Ag N.o r.o.size) (Ad _))⟩ (Au.txt_in J.o J.o.r40 cq) (by have:=Au.mv_le G cl s;have:=bb.o;omega) (by have:=HQ.o;rw[AU];have:=ci.o;omega));obtain⟨new',cs,cu,dz⟩:=zkA qs new (Au.mv G cl s) Av cv HN.o;rw[cs]at cr a9;have dj:=aA cu;have dk:Hid (p.2.length<=1000):=aA (by have:=bo.o;omega);generalize zi4 (qs++new) (Au.mv G cl s)=num at *;generalize (Au.mv G cl s).length=nv at *;clear e1 e2 e3 cq cs cu cp au;go_wp2_with fail
      refine cr.o.mono ?_;rintro _ w5 ⟨rfl,cw,cx,av⟩;have I:=HA.o.apart;have cy:=zga HL.o av (fun cur=>I.1 cur _ (by decide)) (fun cur=>I.2 cur _);have dl:=aA (cw.below ((Aq w5.heap.size w5).alloc (Ad _) (.cells #[.int .i64 s,.int .i64 num] 96)));have dm:Hid (Below base w (w5.alloc (.cells #[.int .i64 s,.int .i64 num] 96))):=aA ((bn.o.trans cx).alloc (Ag N.o (Ag a5.o.size av.size)) _);have bu:Hid (KeepN R M w (w5.alloc (.cells #[.int .i64 s,.int .i64 num] 96))):=aA ((a5.o.trans av).trans (.below ((Aq w5.heap.size w5).alloc (Ad _) _)));have bv:Hid (KeepM R M w4 (w5.alloc (.cells #[.int .i64 s,.int .i64 num] 96))):=aA ((ar.o.trans (.of av)).trans (.of (.below ((Aq w5.heap.size w5).alloc (Ad _) _))));have aw:=aA (cy.alloc (.cells #[.int .i64 s,.int .i64 num] 96));have af:=aA (Az w5 (.cells #[.int .i64 s,.int .i64 num] 96));clear cw cx av cy I;go_wp2_with (at_builtin;refine zch (f:=prF) rfl (.tmp 68) (.tmp 74) _ rfl Tryz.underlying57 _ 16 zmt (by decide) (by decide) (by decide) aJ zdB w.heap.size _ p.2 rfl aw.o _ _ (s,num) rfl (zg9 (s,num) _ _ af.o) (by have:=dk.o;omega) bu.o.size ?_;intro v6 w6 cz H)
      have dn:=aA (dl.o.ownE aw.o H cB.o);have dp:Hid (Below base w w6):=aA (dm.o.grown H (Ag N.o bu.o.size) (fun k e=>Ag N.o (Bs aw.o k e).1));have dq:=aA (bu.o.ownAt aw.o H (Ad _));have bw:=aA (bv.o.trans (.own aw.o H));have dr:=aA cz;clear cz H lk k0;go_roundw
      case rel=>exact⟨j+1,new',b,by go_num,by omega,aA (by rw[F.o,a9.o];exact dr.o),aA (by rw[F.o,a9.o]),dj,dn,dp,dq,bw,aA (by rw[F.o,a9.o];have:=bo.o;simp;omega)⟩
      case measure=>simp[intOf];omega
    ·obtain rfl:j=sy.length:=by omega
     generalize (Au.edges G cl (bG qs,[]) (sy.take sy.length)).2.length=nl at *;rw[Bo]at HL HP;generalize hp:Au.edges G cl (bG qs,[]) sy=p at *;have cA:=aA hp;clear hp;go_wp2;go_ret
     exact⟨_,new,rfl,by rw[cm.o,cA.o];exact HL.o,by rw[cm.o,cA.o];exact HP.o,HN.o,HA.o,bn.o,a5.o⟩
namespace Au
noncomputable def bldE (G:Gm.Gr):Int:=if Gm.isB G=true then(if(bld G).isSome=true then 0 else 5) else 1
noncomputable def bldS (G:Gm.Gr):List StT:=if Gm.isB G=true then(match bld G with|some p=>p.1.zip p.2|none=>[]) else []
theorem bld_no (h:Gm.isB G=false):bldE G=1/\bldS G=[]:=by unfold bldE bldS;rw[h];exact⟨rfl,rfl⟩
theorem bld_many (h:Gm.isB G=true) (k:bld G=none):bldE G=5/\bldS G=[]:=by unfold bldE bldS;rw[h,k];exact⟨rfl,rfl⟩
theorem bld_ok {ks:List (List It)} (h:Gm.isB G=true) (k:bld G=some (ks,es)):bldE G=0/\bldS G=ks.zip es:=by unfold bldE bldS;rw[h,k];exact⟨rfl,rfl⟩
end Au
theorem Gm.isB_right (h:Gm.isB G=true):Gm.right G=true:=by
 cases hr:Gm.right G
 ·unfold Gm.isB at h;rw[Gm.rdE_no hr]at h;cases h
 ·rfl
def zil (G:Gm.Gr) (w:World) (e:Ending) (w':World):Prop :=
 ∃A c,e=.returned (.tuple #[.slice A (Au.bldS G).length c,.int .i64 (Au.bldE G)])/\(Au.bldS G).length<=c/\c<=9223372036854775807/\zdf w' w'.heap.size A (Au.bldS G)/\Below w.heap.size w w'
theorem zil.nil {G:Gm.Gr} {w w':World} {er:Int} (h:Au.bldE G=er/\Au.bldS G=[]) (hb:Below w.heap.size w w'):zil G w (.returned (.tuple #[.slice none 0 0,.int .i64 er])) w':=by
 refine⟨none,0,?_,?_,by omega,?_,hb⟩
 ·rw[h.1,h.2];rfl
 ·rw[h.2];exact Ad _
 ·rw[h.2];exact zdf.nil _ _ _
section
variable {w:World} {base R M NE:Nat} {g0 g1 g2 g3:Value} {qs:List QS}
theorem ABd.setSt {vS:Value} {c:Nat} (h:ABd w base R M NE g0 g1 g2 g3 qs) (hv:w.heap[R]?=some (.cells (abC g0 g1 g2 g3 vS M) 120 (0,0))) (e:vS=.slice (some ⟨g,0,none⟩) n c) (i:Nat) (y:QS) (hi:i<qs.length) (hy:y.1=(qs[i]).1) (hq:zjz w base w.heap.size NE y):ABd (w.setCell ⟨g,i*2+1,none⟩ (qpC y.2)) base R M NE g0 g1 g2 g3 (qs.set i y):=by
 obtain⟨⟨vS',h1,h2⟩,⟨l,h3,h4⟩,h5,h6⟩:=h
 have ev:vS'=vS:=by
  rw[h1]at hv;injection hv with hv;injection hv with hv _ _;unfold abC at hv;injection hv with hv;injection hv with _ hv;injection hv with _ hv;injection hv with _ hv;injection hv with _ hv;injection hv with hv _
 subst ev;rw[e]at h2;have ac:=h2.set1 i y hi hy hq
 obtain⟨cur,aa⟩:∃cur,w.heap[g]?=some (.cells cur 59 (0,0)):=by
  rcases h2.1.2 with⟨e,_⟩|⟨g2,cap,cur,e,_,hg,_⟩
  ·cases e
  ·injection e with e _ _;injection e with e;injection e with e;subst e;exact⟨cur,hg⟩
 have ad:R≠g:=fun e=>by rw[e,aa]at h1;injection h1 with h1;exact aH (by decide) h1
 have ae:M≠g:=fun e=>by rw[e]at h3;exact h3.is.not_cells aa
 have ek:bG (qs.set i y)=bG qs:=by
  unfold bG;rw[Cs];refine CX fun j=>?_;rw[Dn];by_cases ab:i=j
  ·subst ab;rw[Ap rfl,Ap (by simpa using hi),BC,Ar hi];simp[hy]
  ·rw[AB ab]
 refine⟨⟨vS',(AH w ⟨g,i*2+1,none⟩ _ R ad).trans h1,?_⟩,⟨l,h3.block (AH w ⟨g,i*2+1,none⟩ _ M ae),by rw[ek];exact h4⟩,h5,h6⟩;rw[e];have e2:(w.setCell ⟨g,i*2+1,none⟩ (qpC y.2)).heap.size=w.heap.size:=by simp
 rw[e2];exact ac
end
theorem zhV {α:Type} (es:List (List α)) (m:Nat) (x:List α):(es++List.replicate (m+1) []).set es.length x=(es++[x])++List.replicate m []:=by
 rw[CY _ _ (Ad _),DW,CQ,D4,BW];rfl
theorem zhn {new:List QS} (h:∀q∈new,q.2.1=[]):new.map (fun q:QS=>q.2.1)=List.replicate new.length []:=by
 induction new with
 | nil=>rfl
 | cons x r ih =>
  rw[Bp,Bt,CQ,h x Bf,ih fun q hq=>h q (Bh _ hq)]
theorem zfI {qs new:List QS} {y:QS} (h:qs.map (fun q:QS=>q.2.1)=es++List.replicate (n-es.length) []) (aa:es.length<n) (hw:∀q∈new,q.2.1=[]):((qs++new).set es.length y).map (fun q:QS=>q.2.1)=(es++[y.2.1])++List.replicate ((n+new.length)-(es++[y.2.1]).length) []:=by
 rw[Cs,AW,h,zhn hw,BW,List.replicate_append_replicate,show n-es.length+new.length=(n+new.length-(es.length+1))+1 by omega,zhV,AU,BQ]
theorem zcS (v:Value) (G:Gm.Gr) (B:Nat) (w:World) (hg:aQ w B v G) (hf:Gm.Fit G) (hB:B<=w.heap.size) :
  Calls Tryz.prog 27 #[v] w (zil G w):=by
 have ai:=aA (fun y (h:Below w.heap.size w y)=>zke v G B y (hg.below h hB) hf (Ag hB h.size));have HG:=aA hg;have HF:=aA hf;have bh:=aA hB;obtain⟨AT,cT,AN,cN,AR,cR,rfl,_⟩:=hg;have f:=aA (bA.start 26 w #[.slice AT G.ts.length cT,.slice AN G.ns.length cN,.slice AR G.rs.length cR,.int .i64 G.st]);have g0:=f.o.c 0 _ rfl;have g1:=f.o.c 1 _ rfl;have g2:=f.o.c 2 _ rfl;have g3:=f.o.c 3 _ rfl;clear hf hB;cases hr:Gm.isB G
 ·have HQ:=aA (Au.bld_no hr);rw[hr]at ai;clear hr
  go_enter Tryz.func27,Tryz.ntmps27
  go_wp2_with fail
  refine(ai.o _ f.o.below).mono ?_;rintro _ w2 ⟨rfl,hb⟩;have HB:=aA (f.o.on hb);clear hb g0 g1 g2 g3;go_wp2
  go_ret2
  exact zil.nil HQ.o HB.o.below
 ·have HR:=aA hr;have au:=aA (Gm.right_ok.1 (Gm.isB_right hr));rw[hr]at ai;have bT:=fun t w=>EP (P:=Tryz.prog) t w;clear hr
  go_enter Tryz.func27,Tryz.ntmps27
  go_wp2_with fail
  refine(ai.o _ f.o.below).mono ?_;rintro _ w2 ⟨rfl,hb⟩;have HB:=aA (f.o.on hb);have g0:=HB.o.c 0 _ rfl;have g1:=HB.o.c 1 _ rfl;have g2:=HB.o.c 2 _ rfl;have g3:=HB.o.c 3 _ rfl;clear hb;obtain⟨w3,n⟩:∃y,y=w2.alloc (.map #[] 0):=⟨_,rfl⟩
  have av:w3.heap.size=w2.heap.size+1:=by rw[n];simp
  have b3:Below w2.heap.size w2 w3:=by rw[n];exact(Aq _ _).alloc (Ad _) _
  have m3:Mw.MapSt zeK w3 w2.heap.size []:=by rw[n];exact Mw.MapSt.made zeK w2
  obtain⟨w4,b⟩:∃y,y=w3.alloc (.cells #[.slice AT G.ts.length cT,.slice AN G.ns.length cN,.slice AR G.rs.length cR,.int .i64 G.st,.slice none 0 0,.map (some w2.heap.size)] 120):=⟨_,rfl⟩
  have bX:w4.heap.size=w2.heap.size+2:=by rw[b];simp[av]
  have b4:Below w3.heap.size w3 w4:=by rw[b];exact(Aq _ _).alloc (Ad _) _
  have c4:w4.heap[w2.heap.size+1]?=some (.cells (abC (.slice AT G.ts.length cT) (.slice AN G.ns.length cN) (.slice AR G.rs.length cR) (.int .i64 G.st) (.slice none 0 0) w2.heap.size) 120 (0,0)):=by rw[b,<-av];exact Az w3 _
  have bZ:=HB.o.size;have d:Hid (ABd w4 w.heap.size (w2.heap.size+1) w2.heap.size w.heap.size (.slice AT G.ts.length cT) (.slice AN G.ns.length cN) (.slice AR G.rs.length cR) (.int .i64 G.st) []):=aA ⟨⟨_,c4,zbB.nil _ _ _ _⟩,⟨[],m3.block (b4.block _ m3.lt),Au.NumOk.nil⟩,by omega,by omega⟩;have b0:Hid (Below w.heap.size w w4):=aA ((HB.o.below.trans (b3.mono (by omega))).trans (b4.mono (by omega)));obtain⟨w5,aj⟩:∃y,y=w4.alloc (.cells #[.int .i64 (-1),.int .i64 0] 61):=⟨_,rfl⟩
  have b5:Below w4.heap.size w4 w5:=by rw[aj];exact(Aq _ _).alloc (Ad _) _
  have c5:w5.heap[w4.heap.size]?=some (.cells #[.int .i64 (-1),.int .i64 0] 61 (0,0)):=by rw[aj];exact Az w4 _
  have aw:=aA (d.o.below b5);have bi:Hid (Below w.heap.size w w5):=aA (b0.o.trans (b5.mono (by omega)))
  have ak:=aA (zcg w5 w.heap.size (w2.heap.size+1) w2.heap.size w.heap.size _ _ _ _ [] [(-1,0)] (some ⟨w4.heap.size,0,none⟩) 1 aw.o ⟨Ad _,by simp,fun _=>⟨w4.heap.size,_,rfl,by omega,(Ac.1 c5).1,c5,fun i hi j u hu=>by
   have:i=0:=by simp at hi;omega
   subst this
   match j,hu with
   | 0,hu=>exact hu
   | 1,hu=>exact hu
   | j+2,hu=>simp[prF]at hu⟩⟩ (fun z hz=>by simp[Au.txt]at hz;omega) (by simp) (by simp))
  have hN:zi4 [] [((-1:Int),(0:Int))]=0:=rfl;have hS:zin [] [((-1:Int),(0:Int))] (some ⟨w4.heap.size,0,none⟩) 1=[bY [(-1,0)] (some ⟨w4.heap.size,0,none⟩) 1]:=rfl;rw[hN,hS]at ak;clear b3 m3 b4 c4 b5 c5 bZ hN hS;obtain⟨R,ax⟩:∃R,R=w2.heap.size+1:=⟨_,rfl⟩
  rw[<-ax]at ak d aw;go_upto_region 3 with fail
  go_upto_region 4 with fail
  rw[<-n,<-b,<-ax];clear n b av bX ax bT;obtain⟨M,ay⟩:∃M,M=w2.heap.size:=⟨_,rfl⟩
  rw[<-ay]at ak d aw;rw[<-ay];clear ay g0 g1 g2 g3;go_wp2_with fail
  rw[<-aj];clear aj;refine ak.o.mono ?_;rintro _ w6 ⟨rfl,bj,bk,bl⟩;have b1:=aA (bj.more (NE':=w6.heap.size) (Ag (Ag (Ad _) bi.o.size) bl.size));have b6:=aA (bi.o.trans bk);have b7:Hid (Au.Inv G [[(-1,0)]] []):=aA (Au.Inv.start G);have az:Hid (Au.run G (302-([]:List (List (Int×Int))).length) [[(-1,0)]] []=Au.bld G):=aA rfl;have a0:Hid (bG [bY [((-1:Int),(0:Int))] (some ⟨w4.heap.size,0,none⟩) 1]=[[(-1,0)]]):=aA rfl;have b8:Hid ([bY [((-1:Int),(0:Int))] (some ⟨w4.heap.size,0,none⟩) 1].map (fun q:QS=>q.2.1)=[]++List.replicate (1-0) []):=aA rfl;clear bj bk bl;generalize [bY [((-1:Int),(0:Int))] (some ⟨w4.heap.size,0,none⟩) 1]=qs0 at *;go_wp2;go_loopw [5] (fun vi wr=>∃(ks:List (List Au.It)) (es:List (List (Int×Int))) (qs:List QS),vi=.int .i64 (es.length:Nat)/\ks.length<=300/\es.length<=ks.length/\Hid (Au.Inv G ks es)/\Hid (Au.run G (302-es.length) ks es=Au.bld G)/\Hid (bG qs=ks)/\Hid (qs.map (fun q:QS=>q.2.1)=es++List.replicate (ks.length-es.length) [])/\Hid (ABd wr w.heap.size R M wr.heap.size (.slice AT G.ts.length cT) (.slice AN G.ns.length cN) (.slice AR G.rs.length cR) (.int .i64 G.st) qs)/\Hid (Below w.heap.size w wr)) (fun vi _=>301-(intOf vi).toNat)
  case atStart=>exact⟨[[(-1,0)]],[],qs0,rfl,by simp,by simp,b7,az,a0,b8,b1,b6⟩
  case round =>
   obtain⟨ks,es,qs,rfl,al,bm,HI,a1,am,HE,HA,HW⟩:=hrel;obtain⟨⟨vS,h1,h2⟩,_⟩:=HA.o;have a2:qs.length=ks.length:=by rw[<-am.o];unfold bG;rw[Bb]
   by_cases g:es.length<ks.length
   ·have ao:es.length<qs.length:=by omega
    obtain⟨gS,cS,rfl,ap,aq,_⟩:=aK.addr h2.1 (by omega);have c4:=zdZ h1;have k0:wr.cell? ⟨gS,es.length*2,none⟩=some (.slice (qs[es.length]).1.2.1 (qs[es.length]).1.1.length (qs[es.length]).1.2.2):=aK.cellAt h2.1 zaQ es.length 0 ao _ rfl
    have a3:ks.getD es.length []=(qs[es.length]).1.1:=by
     rw[<-am.o];unfold bG;rw[Ai,BC,Ar ao];rfl
    have a4:(qs[es.length]).1.1∈ks:=by
     rw[<-a3,Ai,Ar g];exact Ay g
    have bn:=HI.o.it _ a4;have ar:=aA (zgg G wr w.heap.size R M wr.heap.size B AT AN AR cT cN cR qs (qs[es.length]).1.1 (qs[es.length]).1.2.1 (qs[es.length]).1.2.2 (HG.o.below HW.o bh.o) HF.o au.o bh.o HA.o ((h2.2 _ (Ay ao)).1) bn.2 (Ag (Au.kernel_le au.o au.o.r40 HI.o a4) (by omega)) (by omega) (Ad _));unfold zeF at ar;rw[am.o]at ar;have b9:Hid (Au.edges G (Au.clo G (qs[es.length]).1.1) (ks,[]) (Au.syms G)=Au.one G ks es.length):=aA (by unfold Au.one;rw[a3]);rw[b9.o]at ar;have bo:=aA (Au.run_step (G:=G) g al);have bp:=aA (HI.o.step g);generalize Au.one G ks es.length=O at *;generalize (qs[es.length]).1.1=k at *;generalize (qs[es.length]).1.2.1=Ak at *;generalize (qs[es.length]).1.2.2=ck at *;have ca:((es.length:Nat):Int)<((qs.length:Nat):Int):=by omega
    have bq:=aA a2;have cb:=aA g;clear h1 h2 a3 a4 bn ap aq;go_wp2_with fail
    refine ar.o.mono ?_;rintro _ w3 ⟨v3,new,rfl,a5,ac,ae,br,bs,af⟩;obtain⟨Ae,ce,rfl,a6,ag,_⟩:=aK.form a5 aJ;have bu:=aA (br.more (NE':=w3.heap.size) af.size);have cc:=aA (HW.o.trans bs);obtain⟨⟨vS3,a9,l⟩,_⟩:=bu.o;have m:es.length<(qs++new).length:=by rw[AU];omega
    obtain⟨gS3,cS3,rfl,ba,bb,ah⟩:=aK.addr l.1 (by omega);have c43:=zdZ a9;have d0:=aK.cellAt l.1 zaQ es.length 1 m _ rfl;have cd:=aK.lt l.1
    obtain⟨cur3,ab⟩:∃cur,w3.heap[gS3]?=some (.cells cur 59 (0,0)):=by
     rcases l.1.2 with⟨e,_⟩|⟨g2,cap,cur,e,_,hg,_⟩
     ·cases e
     ·injection e with e _ _;injection e with e;injection e with e;subst e;exact⟨cur,hg⟩
    have fz:=AD w3 gS3 (es.length*2+1) _ _ ab;have d:=aA (bu.o.setSt a9 rfl es.length (((qs++new)[es.length]).1,(O.2,Ae,ce)) m rfl ⟨(l.2 _ (Ay m)).1,⟨a6,by unfold maxLen at ag;exact(Ag ag (by omega)),(aK.rowP a5).less HW.o.size⟩⟩);have cf:Hid (((qs++new).set es.length (((qs++new)[es.length]).1,(O.2,Ae,ce))).map (fun q:QS=>q.2.1)=(es++[O.2])++List.replicate ((ks.length+new.length)-(es++[O.2]).length) []):=aA (zfI (y:=(((qs++new)[es.length]).1,(O.2,Ae,ce))) HE.o cb.o ae)
    have cg:Hid (bG ((qs++new).set es.length (((qs++new)[es.length]).1,(O.2,Ae,ce)))=O.1):=aA (by
     rw[<-ac];unfold bG;rw[Cs];refine CX fun j=>?_;rw[Dn];by_cases bv:es.length=j
     ·subst bv;rw[Ap rfl,Ap (by simpa using m),BC,Ar m];rfl
     ·rw[AB bv])
    have bw:Hid (O.1.length=ks.length+new.length):=aA (by rw[<-ac];unfold bG;rw[Bb,AU,bq.o]);have ch:Hid ((qs++new).length=ks.length+new.length):=aA (by rw[AU,bq.o])
    change Hid (ABd (w3.setCell ⟨gS3,es.length*2+1,none⟩ (.slice Ae O.2.length ce)) w.heap.size R M w3.heap.size (.slice AT G.ts.length cT) (.slice AN G.ns.length cN) (.slice AR G.rs.length cR) (.int .i64 G.st) ((qs++new).set es.length (((qs++new)[es.length]).1,(O.2,Ae,ce)))) at d
    obtain⟨u0,ci⟩:∃u,w3.cell? ⟨gS3,es.length*2+1,none⟩=some u:=⟨_,d0⟩
    have bc:Hid (Below w.heap.size w (w3.setCell ⟨gS3,es.length*2+1,none⟩ (.slice Ae O.2.length ce))):=aA (cc.o.setCell ah _);have ad:(w3.setCell ⟨gS3,es.length*2+1,none⟩ (.slice Ae O.2.length ce)).heap.size=w3.heap.size:=by simp
    obtain⟨w4,b⟩:∃y,y=w3.setCell ⟨gS3,es.length*2+1,none⟩ (.slice Ae O.2.length ce):=⟨_,rfl⟩
    rw[<-b]at d bc ad;rw[<-ad]at d;have cj:Hid (((qs++new).set es.length (((qs++new)[es.length]).1,(O.2,Ae,ce))).length=ks.length+new.length):=aA (by rw[Dp];exact ch.o);generalize (qs++new).set es.length (((qs++new)[es.length]).1,(O.2,Ae,ce))=qs2 at *;have cs:((es.length:Nat):Int)<(((qs++new).length:Nat):Int):=by omega
    clear a9 l a5 ae br bs af ac ba bb ah ab m ad c4 k0 d0;generalize (qs++new).length=nq at *;go_upto_region 10 with fail
    rw[<-b];clear b c43 ci fz cd;obtain⟨⟨vS4,bx,bz⟩,_⟩:=d.o;obtain⟨A4,c4',rfl,_,_,_⟩:=aK.form bz.1 zaQ;have c44:=zdZ bx;rw[cj.o,<-bw.o]at c44;clear bx bz;by_cases aa:300<O.1.length
    ·have p:=aA (Au.bld_many HR.o (by rw[<-a1.o,bo.o,Ap aa]));have cl:(300:Int)<((O.1.length:Nat):Int):=by omega
     clear aa al bm g ao a2;generalize O.1.length=no at *;go_wp2
     go_ret2
     exact zil.nil p.o bc.o
    ·have bd:Hid (Au.run G (302-(es++[O.2]).length) O.1 (es++[O.2])=Au.bld G):=aA (by rw[<-a1.o,bo.o,AB aa]);have cl:((O.1.length:Nat):Int)<=(300:Int):=by omega
     have cm:O.1.length<=300:=by omega
     have cn:Hid (qs2.map (fun q:QS=>q.2.1)=(es++[O.2])++List.replicate (O.1.length-(es++[O.2]).length) []):=aA (by rw[bw.o];exact cf.o);have co:Hid ((es++[O.2]).length=es.length+1):=aA (by simp);have cp:Hid ((es++[O.2]).length<=O.1.length):=aA bp.o.le;clear aa;go_wp2;go_roundw
     case rel=>exact⟨O.1,es++[O.2],qs2,by rw[co.o];go_num,cm,cp.o,bp,bd,cg,cn,d,bc⟩
     case measure=>simp[intOf];omega
   ·have bf:es.length=ks.length:=by omega
    have p:=aA (Au.bld_ok HR.o (by rw[<-a1.o];exact Au.run_end bf al));obtain⟨AS,cS,rfl,ap,aq,_⟩:=aK.form h2.1 zaQ;have c4:=zdZ h1
    have bg:qs.map stOf=ks.zip es:=by
     have e1:=am.o;have e2:=HE.o;rw[bf,DW,Et,Co]at e2;rw[<-e1,<-e2];unfold bG;rw[List.zip_map'];rfl
    have bD:=aA (zbB.rd h2 (Ad _) (Ad _));rw[bg]at bD;have bM:Hid ((Au.bldS G).length=qs.length):=aA (by rw[p.o.2,<-bg,Bb]);have cq:=aA ap;have cr:=aA (show cS<=9223372036854775807 by unfold maxLen at aq;omega);have cu:¬((es.length:Nat):Int)<((qs.length:Nat):Int):=by omega
    clear h1 h2 bg ap aq g bf bm al a2;generalize es.length=ne at *;generalize qs.length=nq at *;go_wp2
    go_ret2
    refine⟨AS,cS,?_,by rw[bM.o];exact cq.o,cr.o,by rw[p.o.2];exact bD.o,HW.o⟩;rw[bM.o,p.o.1];rfl
end Go.Proofs.YtjjbaehamplnaaaGreat
namespace Go.Proofs.YtjjbaehamplnaaaGreat
open Go.RowKit
theorem Gm.gr_ext {A B:Gm.Gr} (h1:A.ts=B.ts) (h2:A.ns=B.ns) (h3:A.rs=B.rs) (h4:A.st=B.st):A=B:=by
 cases A
 cases B
 simp only at h1 h2 h3 h4;subst h1 h2 h3 h4;rfl
theorem Gm.isB_use (h:Gm.isB G=true):∀x∈G.rs,Gm.Rc G x.l/\Gm.Al true G.rs x.r:=by
 unfold Gm.isB at h;rw[AQ,AV]at h;obtain⟨h1,h2⟩:=h;have hG:Gm.rdG G=Gm.reduce G:=by unfold Gm.rdG;rw[Ap h1]
 rw[hG]at h2;have he:∀ {α:Type} {a b:α},eqb a b=true->a=b:=fun {α a b} q=>BO fun k=>by rw[zaD k]at q;cases q
 unfold Gm.same at h2;simp only[AQ]at h2;obtain⟨⟨⟨e1,e2⟩,e3⟩,e4⟩:=h2;have e:Gm.reduce G=G:=Gm.gr_ext (he e1).symm (he e2).symm (he e3).symm (he e4).symm;intro x hx
 have:x∈(Gm.reduce G).rs:=by rw[e];exact hx
 have:=Gm.red_use this
 rw[e]at this;exact Gm.tr_iff.1 this
namespace Lk
open Au Gm Go.Mw
def TS (E:List (List (Int×Int))) (i j:Nat) (tl:List ((Int×Int)×Value)):Prop:=∀q s t,q<E.length->(s,t)∈E.getD q []->(q<i\/q=i/\(s,t)∈(E.getD i []).take j)->asc tl ((q:Int),s)=some (.int .i64 t)
theorem TS.start (E:List (List (Int×Int))):TS E 0 0 []:=fun q s t hq h k=>by
 rcases k with k|⟨_,k⟩
 ·omega
 ·simp at k
theorem TS.next {tl:List ((Int×Int)×Value)} (h:TS E i (E.getD i []).length tl):TS E (i+1) 0 tl:=fun q s t hq hm k=>by
 rcases k with k|⟨_,k⟩
 ·rcases Bz q i with k2|k2
  ·exact h q s t hq hm (.inl k2)
  ·obtain rfl:q=i:=by omega
   exact h q s t hq hm (.inr ⟨rfl,by rw[Bo];exact hm⟩)
 ·simp at k
theorem TS.put {j:Nat} {tl:List ((Int×Int)×Value)} (h:TS E i j tl) (hn:((E.getD i []).map (·.1)).Nodup) (hj:j<(E.getD i []).length):TS E i (j+1) (putA tl ((i:Int),(E.getD i [])[j].1) (.int .i64 (E.getD i [])[j].2)):=fun q s t hq hm k=>by
 rw[asc_put];by_cases e:((i:Int),(E.getD i [])[j].1)=((q:Int),s)
 ·rw[Ap e];injection e with e1 e2;have e1:i=q:=by omega
  subst e1 e2;have h1:((E.getD i [])[j].1,(E.getD i [])[j].2)∈E.getD i []:=Ay hj;have a1:=zca hn h1;have a2:=zca hn hm;rw[a1]at a2;rw[a2]
 ·rw[AB e];refine h q s t hq hm ?_;rcases k with k|⟨rfl,k⟩
  ·exact .inl k
  ·refine .inr ⟨rfl,?_⟩;rw[AO hj]at k;rcases Bj.1 k with k|k
   ·exact k
   ·rw[AF]at k;exact absurd (by rw[<-k]) e
theorem TS.done {tl:List ((Int×Int)×Value)} (h:TS E E.length 0 tl) {j:Nat} (he:Ed E i s j):asc tl ((i:Int),s)=some (.int .i64 (j:Int)):=by
 obtain⟨hi,he⟩:=he;exact h i s j hi (by rw[Ai,Ar hi];exact he) (.inl hi)
end Lk
structure EJ (w1:World) (G:Gm.Gr) (g0 g1 g2 g3:Value) (todo:List Nat) (wx:World) (x12 x13 x14 x15 x16 x5:Value) (At:Option Addr) (ct T M D c:Nat):Prop where
 t:∀k∈todo,k=2\/k=3\/k=4\/k=5\/k=6\/k=7
 b:Below w1.heap.size w1 wx
 h2:2 ∉ todo->x12=.slice At (Lk.tlAll G).length ct/\bV wx At G
 h3:3 ∉ todo->x13=.map (some T)/\w1.heap.size<=T/\wx.heap[T]?=some (.map #[] 0)
 h4:4 ∉ todo->x14=.map (some M)/\w1.heap.size<=M/\wx.heap[M]?=some (.map #[] 0)
 h5:5 ∉ todo->x15=.map (some D)/\w1.heap.size<=D/\wx.heap[D]?=some (.map #[] 0)
 h6:6 ∉ todo->(2 ∉ todo/\3 ∉ todo/\4 ∉ todo/\5 ∉ todo)/\x16=.agg (wrC g0 g1 g2 g3 (.slice At (Lk.tlAll G).length ct) T M D)
 h7:7 ∉ todo->x5=.pointer (some ⟨c,0,none⟩)/\w1.heap.size<=c/\wx.heap[c]?=some (.cells #[.slice none 0 0,.slice none 0 0,.slice none 0 0,.int .i64 0,.slice none 0 0,.map none,.map none,.map none] 174 (0,0))
 d34:3 ∉ todo->4 ∉ todo->T≠M
 d35:3 ∉ todo->5 ∉ todo->T≠D
 d45:4 ∉ todo->5 ∉ todo->M≠D
section
variable {w1:World} {G:Gm.Gr} {g0 g1 g2 g3:Value} {todo:List Nat} {wx w':World} {x12 x13 x14 x15 x16 x5:Value} {At:Option Addr} {ct T M D c:Nat}
theorem EJ.put2 (h:EJ w1 G g0 g1 g2 g3 todo wx x12 x13 x14 x15 x16 x5 At ct T M D c) (hm:2∈todo) (hb:Below wx.heap.size wx w') {A':Option Addr} {c':Nat} (ho:bV w' A' G):EJ w1 G g0 g1 g2 g3 (todo.erase 2) w' (.slice A' (Lk.tlAll G).length c') x13 x14 x15 x16 x5 A' c' T M D c where
 t k hk:=h.t k (Bk hk)
 b:=h.b.trans (hb.mono h.b.size)
 h2 _:=⟨rfl,ho⟩
 h3 q:=by obtain⟨a1,a2,a3⟩:=h.h3 (aE q (by decide));exact⟨a1,a2,aC hb a3⟩
 h4 q:=by obtain⟨a1,a2,a3⟩:=h.h4 (aE q (by decide));exact⟨a1,a2,aC hb a3⟩
 h5 q:=by obtain⟨a1,a2,a3⟩:=h.h5 (aE q (by decide));exact⟨a1,a2,aC hb a3⟩
 h6 q:=absurd hm (h.h6 (aE q (by decide))).1.1
 h7 q:=by obtain⟨a1,a2,a3⟩:=h.h7 (aE q (by decide));exact⟨a1,a2,aC hb a3⟩
 d34 q1 q2:=h.d34 (aE q1 (by decide)) (aE q2 (by decide))
 d35 q1 q2:=h.d35 (aE q1 (by decide)) (aE q2 (by decide))
 d45 q1 q2:=h.d45 (aE q1 (by decide)) (aE q2 (by decide))
theorem zal (w:World):Below w.heap.size w (w.alloc (.map #[] 0))/\(w.alloc (.map #[] 0)).heap[w.heap.size]?=some (.map #[] 0):=⟨(Aq _ _).alloc (Ad _) _,Az w _⟩
theorem EJ.put3 (h:EJ w1 G g0 g1 g2 g3 todo wx x12 x13 x14 x15 x16 x5 At ct T M D c) (hm:3∈todo):EJ w1 G g0 g1 g2 g3 (todo.erase 3) (wx.alloc (.map #[] 0)) x12 (.map (some wx.heap.size)) x14 x15 x16 x5 At ct wx.heap.size M D c where
 t k hk:=h.t k (Bk hk)
 b:=h.b.alloc h.b.size _
 h2 q:=by obtain⟨a1,a2⟩:=h.h2 (aE q (by decide));exact⟨a1,a2.below (zal wx).1⟩
 h3 _:=⟨rfl,h.b.size,(zal wx).2⟩
 h4 q:=by obtain⟨a1,a2,a3⟩:=h.h4 (aE q (by decide));exact⟨a1,a2,aC (zal wx).1 a3⟩
 h5 q:=by obtain⟨a1,a2,a3⟩:=h.h5 (aE q (by decide));exact⟨a1,a2,aC (zal wx).1 a3⟩
 h6 q:=absurd hm (h.h6 (aE q (by decide))).1.2.1
 h7 q:=by obtain⟨a1,a2,a3⟩:=h.h7 (aE q (by decide));exact⟨a1,a2,aC (zal wx).1 a3⟩
 d34 _ q:=by have:=(Ac.1 (h.h4 (aE q (by decide))).2.2).1;omega
 d35 _ q:=by have:=(Ac.1 (h.h5 (aE q (by decide))).2.2).1;omega
 d45 q1 q2:=h.d45 (aE q1 (by decide)) (aE q2 (by decide))
theorem EJ.put4 (h:EJ w1 G g0 g1 g2 g3 todo wx x12 x13 x14 x15 x16 x5 At ct T M D c) (hm:4∈todo):EJ w1 G g0 g1 g2 g3 (todo.erase 4) (wx.alloc (.map #[] 0)) x12 x13 (.map (some wx.heap.size)) x15 x16 x5 At ct T wx.heap.size D c where
 t k hk:=h.t k (Bk hk)
 b:=h.b.alloc h.b.size _
 h2 q:=by obtain⟨a1,a2⟩:=h.h2 (aE q (by decide));exact⟨a1,a2.below (zal wx).1⟩
 h3 q:=by obtain⟨a1,a2,a3⟩:=h.h3 (aE q (by decide));exact⟨a1,a2,aC (zal wx).1 a3⟩
 h4 _:=⟨rfl,h.b.size,(zal wx).2⟩
 h5 q:=by obtain⟨a1,a2,a3⟩:=h.h5 (aE q (by decide));exact⟨a1,a2,aC (zal wx).1 a3⟩
 h6 q:=absurd hm (h.h6 (aE q (by decide))).1.2.2.1
 h7 q:=by obtain⟨a1,a2,a3⟩:=h.h7 (aE q (by decide));exact⟨a1,a2,aC (zal wx).1 a3⟩
 d34 q _:=by have:=(Ac.1 (h.h3 (aE q (by decide))).2.2).1;omega
 d35 q1 q2:=h.d35 (aE q1 (by decide)) (aE q2 (by decide))
 d45 _ q:=by have:=(Ac.1 (h.h5 (aE q (by decide))).2.2).1;omega
theorem EJ.put5 (h:EJ w1 G g0 g1 g2 g3 todo wx x12 x13 x14 x15 x16 x5 At ct T M D c) (hm:5∈todo):EJ w1 G g0 g1 g2 g3 (todo.erase 5) (wx.alloc (.map #[] 0)) x12 x13 x14 (.map (some wx.heap.size)) x16 x5 At ct T M wx.heap.size c where
 t k hk:=h.t k (Bk hk)
 b:=h.b.alloc h.b.size _
 h2 q:=by obtain⟨a1,a2⟩:=h.h2 (aE q (by decide));exact⟨a1,a2.below (zal wx).1⟩
 h3 q:=by obtain⟨a1,a2,a3⟩:=h.h3 (aE q (by decide));exact⟨a1,a2,aC (zal wx).1 a3⟩
 h4 q:=by obtain⟨a1,a2,a3⟩:=h.h4 (aE q (by decide));exact⟨a1,a2,aC (zal wx).1 a3⟩
 h5 _:=⟨rfl,h.b.size,(zal wx).2⟩
 h6 q:=absurd hm (h.h6 (aE q (by decide))).1.2.2.2
 h7 q:=by obtain⟨a1,a2,a3⟩:=h.h7 (aE q (by decide));exact⟨a1,a2,aC (zal wx).1 a3⟩
 d34 q1 q2:=h.d34 (aE q1 (by decide)) (aE q2 (by decide))
 d35 q _:=by have:=(Ac.1 (h.h3 (aE q (by decide))).2.2).1;omega
 d45 q _:=by have:=(Ac.1 (h.h4 (aE q (by decide))).2.2).1;omega
theorem EJ.put6 (h:EJ w1 G g0 g1 g2 g3 todo wx x12 x13 x14 x15 x16 x5 At ct T M D c) (m2:2 ∉ todo) (m3:3 ∉ todo) (m4:4 ∉ todo) (m5:5 ∉ todo):EJ w1 G g0 g1 g2 g3 (todo.erase 6) wx x12 x13 x14 x15 (.agg (wrC g0 g1 g2 g3 (.slice At (Lk.tlAll G).length ct) T M D)) x5 At ct T M D c where
 t k hk:=h.t k (Bk hk)
 b:=h.b
 h2 _:=h.h2 m2
 h3 _:=h.h3 m3
 h4 _:=h.h4 m4
 h5 _:=h.h5 m5
 h6 _:=⟨⟨fun m=>m2 (Bk m),fun m=>m3 (Bk m),fun m=>m4 (Bk m),fun m=>m5 (Bk m)⟩,rfl⟩
 h7 q:=h.h7 (aE q (by decide))
 d34 _ _:=h.d34 m3 m4
 d35 _ _:=h.d35 m3 m5
 d45 _ _:=h.d45 m4 m5
theorem EJ.put7 (h:EJ w1 G g0 g1 g2 g3 todo wx x12 x13 x14 x15 x16 x5 At ct T M D c):EJ w1 G g0 g1 g2 g3 (todo.erase 7) (wx.alloc (.cells #[.slice none 0 0,.slice none 0 0,.slice none 0 0,.int .i64 0,.slice none 0 0,.map none,.map none,.map none] 174)) x12 x13 x14 x15 x16 (.pointer (some ⟨wx.heap.size,0,none⟩)) At ct T M D wx.heap.size where
 t k hk:=h.t k (Bk hk)
 b:=h.b.alloc h.b.size _
 h2 q:=by obtain⟨a1,a2⟩:=h.h2 (aE q (by decide));exact⟨a1,a2.below ((Aq _ wx).alloc (Ad _) _)⟩
 h3 q:=by obtain⟨a1,a2,a3⟩:=h.h3 (aE q (by decide));exact⟨a1,a2,aC ((Aq _ wx).alloc (Ad _) _) a3⟩
 h4 q:=by obtain⟨a1,a2,a3⟩:=h.h4 (aE q (by decide));exact⟨a1,a2,aC ((Aq _ wx).alloc (Ad _) _) a3⟩
 h5 q:=by obtain⟨a1,a2,a3⟩:=h.h5 (aE q (by decide));exact⟨a1,a2,aC ((Aq _ wx).alloc (Ad _) _) a3⟩
 h6 q:=by obtain⟨⟨b1,b2,b3,b4⟩,a2⟩:=h.h6 (aE q (by decide));exact⟨⟨fun m=>b1 (Bk m),fun m=>b2 (Bk m),fun m=>b3 (Bk m),fun m=>b4 (Bk m)⟩,a2⟩
 h7 _:=⟨rfl,h.b.size,Az wx _⟩
 d34 q1 q2:=h.d34 (aE q1 (by decide)) (aE q2 (by decide))
 d35 q1 q2:=h.d35 (aE q1 (by decide)) (aE q2 (by decide))
 d45 q1 q2:=h.d45 (aE q1 (by decide)) (aE q2 (by decide))
end
end Go.Proofs.YtjjbaehamplnaaaGreat
namespace Go.Proofs.YtjjbaehamplnaaaGreat
open Go.RowKit
theorem zmg {Aa:Option Addr} {ss:List StT} (h:zdf w B Aa ss) (i:Nat) (hi:i<ss.length):∃g o,Aa=some ⟨g,o,none⟩/\g<B/\(∃A1 c1,w.cell? ⟨g,o+i*2,none⟩=some (.slice A1 ss[i].1.length c1))/\∃A2 c2,w.cell? ⟨g,o+i*2+1,none⟩=some (.slice A2 ss[i].2.length c2)/\RdQ 2 prF w B A2 ss[i].2:=by
 obtain⟨g,o,e,hg,hc⟩:=h (by omega);obtain⟨⟨A1,c1,a1,_⟩,A2,c2,a2,_,_,a3⟩:=hc i hi;exact⟨g,o,e,hg,⟨A1,c1,a1⟩,A2,c2,a2,a3⟩
theorem zhB (v:Value) (G:Gm.Gr) (B:Nat) (w:World) (Aa:Option Addr) (ca:Nat) (K:List (List Au.It)) (E:List (List (Int×Int))) (hg:aQ w B v G) (hf:Gm.Fit G) (hB:B<=w.heap.size) (hb:Gm.isB G=true) (hk:Au.bld G=some (K,E)) (ha:zdf w w.heap.size Aa (K.zip E)) :
  Calls Tryz.prog 58 #[v,.slice Aa (K.zip E).length ca] w fun e w'=>∃D MM DD,e=.returned (.map (some D))/\Mw.MapIs enE w' D (Lk.encM DD)/\Lk.WI G K E MM DD []/\Below w.heap.size w w':=by
 obtain⟨hi,hE,ai⟩:=Au.bld_inv hk;have I:=Gm.right_ok.1 (Gm.isB_right hb);have aj:=((Gm.terms_iff G.ts).1 I.t)
 have ak:=((Gm.nons_iff G).1 I.n)
 have hz:(K.zip E).length=K.length:=by rw[List.length_zip,hE,Nat.min_self]
 have bX:=aA (fun(tl:List ((Int×Int)×Value)) (h:Lk.TS E E.length 0 tl)=>(show WkG G K E tl from⟨hi,hE,I,fun x hx=>(Gm.isB_use hb x hx).2,by omega,by omega,ai,fun i s j he=>h.done he⟩));have HZ:=aA hz;have a0:=aA hE;have bZ:=aA (show 0<K.length from(Ba.1 hi.h0).1);have b0:=aA ai;have b1:=aA (fun(i:Nat) (h:i<E.length)=>Lk.keys_nd hi h)
 have b4:=aA (fun(i:Nat) (h:i<E.length) (e:Int×Int) (he:e∈E[i])=>(show Gm.In e.1 from by
  have h1:e.1∈E[i].map (·.1):=Es he;rw[(hi.ed i h).1,B7]at h1
  have:=Gm.has_iff.1 (Au.syms_mem.1 h1.1)
  unfold Gm.In
  omega))
 have b5:=aA (fun(i:Nat) (h:i<E.length)=>(show(E[i]).length<=100000 from by have:=Au.edges_le (by omega) (by omega) hi h;omega));have b6:=aA (fun(y:World) (h:Below w.heap.size w y)=>zfY v G B y (hg.below h hB) hf I (Ag hB h.size) (by omega));have b7:=aA (fun(y:World) (h:Below w.heap.size w y)=>hg.below h hB);have HB:=aA hB;obtain⟨AT,cT,AN,cN,AR,cR,rfl,_⟩:=hg;obtain⟨w1,ab⟩:∃y,y=w.alloc (.cells #[.slice AT G.ts.length cT,.slice AN G.ns.length cN,.slice AR G.rs.length cR,.int .i64 G.st] 26):=⟨_,rfl⟩
 have r:Hid (Below w.heap.size w w1):=aA (by rw[ab];exact(Aq _ _).alloc (Ad _) _);have J:Hid (w1.heap[w.heap.size]?=some (.cells #[.slice AT G.ts.length cT,.slice AN G.ns.length cN,.slice AR G.rs.length cR,.int .i64 G.st] 26 (0,0))):=aA (by rw[ab];exact Az w _);have cz:Hid (w.heap.size<w1.heap.size):=aA (Ac.1 J.o).1;have HA:=aA ha;have b8:=fun t w=>EP (P:=Tryz.prog) t w;clear hf hB hb hk ha hi hE I aj ak hz ai;generalize hn:(K.zip E).length=n at *;have HN:=aA hn;clear hn
 go_enter Tryz.func58,Tryz.ntmps58
 go_upto_region 1 with fail
 rw[<-ab];clear ab;have q0:=fun y:Calm.On w1.heap.size w1=>aM (aC y.2 J.o);have q1:=fun y:Calm.On w1.heap.size w1=>aR (aC y.2 J.o);have q2:=fun y:Calm.On w1.heap.size w1=>bF (aC y.2 J.o);have q3:=fun y:Calm.On w1.heap.size w1=>bQ (aC y.2 J.o)
 refine CalmN.region_dep (fun x=>∃y:Calm.On w1.heap.size w1,x=y.1) [0,1] [2,3,4,5,6,7] [(6,2),(6,3),(6,4),(6,5)] (.one [] 8 (.fin []))
  (fun todo a wx=>∃x12 x13 x14 x15 x16 x5 At ct T M D c,a = {tmps:=#[.agg #[.slice AT G.ts.length cT,.slice AN G.ns.length cN,.slice AR G.rs.length cR,.int .i64 G.st],.slice Aa n ca,.pointer (some ⟨w.heap.size,0,none⟩),undef,.map none,x5,undef,undef,undef,undef,.agg #[.slice AT G.ts.length cT,.slice AN G.ns.length cN,.slice AR G.rs.length cR,.int .i64 G.st],.agg #[.slice AT G.ts.length cT,.slice AN G.ns.length cN,.slice AR G.rs.length cR,.int .i64 G.st],x12,x13,x14,x15,x16,undef,undef,undef,undef,undef,undef,undef,undef,undef,undef,undef,undef,undef,undef,undef,undef,undef,undef,undef,undef,undef,undef,undef,undef,undef,undef,undef,undef],defers:=[]}/\EJ w1 G (.slice AT G.ts.length cT) (.slice AN G.ns.length cN) (.slice AR G.rs.length cR) (.int .i64 G.st) todo wx x12 x13 x14 x15 x16 x5 At ct T M D c)
  (by kernel_rfl) (by kernel_rfl) (fun _ _ d _ _ h=>by cases d <;> exact h) ⟨⟨w1.drew,aB (Aq _ _) 1⟩,rfl⟩ ?_ ?_ ?_
 ·simp only[CalmN.pickOps,Am,Af,Ah];repeat (go_big_quiet_step (fail))
  refine Aj ?_;exact⟨undef,undef,undef,undef,undef,undef,none,0,0,0,0,0,rfl,⟨by simp,aB (Aq _ _) 1,fun h=>absurd (by simp) h,fun h=>absurd (by simp) h,fun h=>absurd (by simp) h,fun h=>absurd (by simp) h,fun h=>absurd (by simp) h,fun h=>absurd (by simp) h,fun h=>absurd (by simp) h,fun h=>absurd (by simp) h,fun _ h=>absurd (by simp) h⟩⟩
 ·intro todo k a wx hk hD hJ hS;obtain⟨x12,x13,x14,x15,x16,x5,At,ct,T,M,D,c,rfl,hJ⟩:=hJ;have HJ:=aA hJ;have aa:=hJ.t k hk;have HK:=aA hk;have HD:=aA hD;clear hJ hS hk hD q0 q1 q2 q3;rcases aa with rfl|rfl|rfl|rfl|rfl|rfl
  ·simp only[CalmN.wpSt,Am,Af,Ah];intro KK u;rw[Ap (by rfl)];go_wp2_with fail
   refine(b6.o wx (r.o.trans (HJ.o.b.mono r.o.size))).mono ?_;rintro _ w' ⟨A',c',rfl,ho,hb⟩;have hj:=HJ.o.put2 HK.o hb (c':=c') ho;go_wp2_with fail
   exact u _ _ ⟨⟨w',hj.b⟩,rfl⟩ _ (fun _ h=>h) ⟨⟨w',hj.b⟩,rfl⟩ ⟨_,x13,x14,x15,x16,x5,_,_,T,M,D,c,rfl,hj⟩
  ·simp only[CalmN.wpSt,Am,Af,Ah];intro KK u;rw[Ap (by rfl)];have hj:=HJ.o.put3 HK.o;go_wp2_with fail
   exact u _ _ ⟨⟨_,hj.b⟩,rfl⟩ _ (fun _ h=>h) ⟨⟨_,hj.b⟩,rfl⟩ ⟨x12,_,x14,x15,x16,x5,At,ct,_,M,D,c,rfl,hj⟩
  ·simp only[CalmN.wpSt,Am,Af,Ah];intro KK u;rw[Ap (by rfl)];have hj:=HJ.o.put4 HK.o;go_wp2_with fail
   exact u _ _ ⟨⟨_,hj.b⟩,rfl⟩ _ (fun _ h=>h) ⟨⟨_,hj.b⟩,rfl⟩ ⟨x12,x13,_,x15,x16,x5,At,ct,T,_,D,c,rfl,hj⟩
  ·simp only[CalmN.wpSt,Am,Af,Ah];intro KK u;rw[Ap (by rfl)];have hj:=HJ.o.put5 HK.o;go_wp2_with fail
   exact u _ _ ⟨⟨_,hj.b⟩,rfl⟩ _ (fun _ h=>h) ⟨⟨_,hj.b⟩,rfl⟩ ⟨x12,x13,x14,_,x16,x5,At,ct,T,M,_,c,rfl,hj⟩
  ·have m2:=HD.o (6,2) (by simp) rfl;have m3:=HD.o (6,3) (by simp) rfl;have m4:=HD.o (6,4) (by simp) rfl;have m5:=HD.o (6,5) (by simp) rfl;obtain⟨rfl,_⟩:=HJ.o.h2 m2;obtain⟨rfl,_⟩:=HJ.o.h3 m3;obtain⟨rfl,_⟩:=HJ.o.h4 m4;obtain⟨rfl,_⟩:=HJ.o.h5 m5;have hj:=HJ.o.put6 m2 m3 m4 m5;simp only[CalmN.wpSt,Am,Af,Ah];intro KK u;rw[Ap (by rfl)];go_wp2_with fail
   exact u _ _ ⟨⟨_,hj.b⟩,rfl⟩ _ (fun _ h=>h) ⟨⟨_,hj.b⟩,rfl⟩ ⟨_,_,_,_,_,x5,At,ct,T,M,D,c,rfl,hj⟩
  ·simp only[CalmN.wpSt,Am,Af,Ah];intro KK u;rw[Ap (by rfl)];have hj:=HJ.o.put7;go_wp2_with fail
   exact u _ _ ⟨⟨_,hj.b⟩,rfl⟩ _ (fun _ h=>h) ⟨⟨_,hj.b⟩,rfl⟩ ⟨x12,x13,x14,x15,x16,_,At,ct,T,M,D,_,rfl,hj⟩
 ·intro a wx hJ hS;obtain⟨x12,x13,x14,x15,x16,x5,At,ct,T,M,D,c,rfl,hJ⟩:=hJ;obtain⟨rfl,a4⟩:=hJ.h2 (by simp);obtain⟨rfl,a5,a6⟩:=hJ.h3 (by simp);obtain⟨rfl,a9,ba⟩:=hJ.h4 (by simp);obtain⟨rfl,bb,bc⟩:=hJ.h5 (by simp);obtain⟨_,rfl⟩:=hJ.h6 (by simp);obtain⟨rfl,al,l⟩:=hJ.h7 (by simp);have am:Hid (T≠M/\T≠D/\M≠D):=aA ⟨hJ.d34 (by simp) (by simp),hJ.d35 (by simp) (by simp),hJ.d45 (by simp) (by simp)⟩;have ao:=hJ.b;clear hS q0 q1 q2 q3 hJ;have lc:=(Ac.1 l).1;have f0:=AD wx _ 0 _ _ l;have f1:=AD wx _ 1 _ _ l;have f2:=AD wx _ 2 _ _ l;have f3:=AD wx _ 3 _ _ l;have f4:=AD wx _ 4 _ _ l;have f5:=AD wx _ 5 _ _ l;have f6:=AD wx _ 6 _ _ l;have f7:=AD wx _ 7 _ _ l;have k0:=Aw wx _ 0 _ _ _ l;have k1:=Aw wx _ 1 _ _ _ l;have k2:=Aw wx _ 2 _ _ _ l;have k3:=Aw wx _ 3 _ _ _ l;have k4:=Aw wx _ 4 _ _ _ l;have k5:=Aw wx _ 5 _ _ _ l;have k6:=Aw wx _ 6 _ _ _ l;have k7:=Aw wx _ 7 _ _ _ l;simp only[CalmN.wpT,CalmN.wpSt,CalmN.pickOps,Am,Af,Ah];refine Aj ?_;intro KK u;rw[Ap (by rfl)];unfold wrC;go_wp2_with fail
  obtain⟨wy,ac⟩:∃y,y=(((((((wx.setCell ⟨c,0,none⟩ (.slice AT G.ts.length cT)).setCell ⟨c,1,none⟩ (.slice AN G.ns.length cN)).setCell ⟨c,2,none⟩ (.slice AR G.rs.length cR)).setCell ⟨c,3,none⟩ (.int .i64 G.st)).setCell ⟨c,4,none⟩ (.slice At (Lk.tlAll G).length ct)).setCell ⟨c,5,none⟩ (.map (some T))).setCell ⟨c,6,none⟩ (.map (some M))).setCell ⟨c,7,none⟩ (.map (some D)):=⟨_,rfl⟩
  have ad:wx.grownBy wy (some c):=by
   rw[ac];exact aF (aF (aF (aF (aF (aF (aF (aF (AI _ _) _ _) _ _) _ _) _ _) _ _) _ _) _ _) _ _
  have bd:wy.heap[c]?=some (.cells (wrC (.slice AT G.ts.length cT) (.slice AN G.ns.length cN) (.slice AR G.rs.length cR) (.int .i64 G.st) (.slice At (Lk.tlAll G).length ct) T M D) 174 (0,0)):=by
   rw[ac];exact AP _ c 7 _ _ _ (AP _ c 6 _ _ _ (AP _ c 5 _ _ _ (AP _ c 4 _ _ _ (AP _ c 3 _ _ _ (AP _ c 2 _ _ _ (AP _ c 1 _ _ _ (AP wx c 0 _ _ _ l)))))))
  rw[<-ac];have ae:Below w1.heap.size w1 wy:=zaa ao ad al ao.size
  have z:∀(g:Nat) (o:Obj),wx.heap[g]?=some o->(∀cs t f,o=Obj.cells cs t f->t≠174)->wy.heap[g]?=some o:=fun g o h1 h2=>(ad.block g (Ac.1 h1).1 (fun e=>by
   injection e with e;rw[e,l]at h1;injection h1 with h1;exact h2 _ _ _ h1.symm rfl)).trans h1
  have af:Hid (Mw.MapIs wkE wy T []):=aA ⟨#[],0,z _ _ a6 (fun _ _ _ e=>by cases e),rfl,by simp,by simp⟩;have bf:Hid (Mw.MapU wkE wy M (Lk.encM [])):=aA ⟨#[],0,z _ _ ba (fun _ _ _ e=>by cases e),rfl,by simp[Lk.encM],by simp[Lk.encM],by simp,by simp⟩;have bg:Hid (Mw.MapU enE wy D (Lk.encM [])):=aA ⟨#[],0,z _ _ bc (fun _ _ _ e=>by cases e),rfl,by simp[Lk.encM],by simp[Lk.encM],by simp,by simp⟩
  have b9:Hid (bV wy At G):=aA (a4.keep ad.size fun g cur ty cb hc=>z _ _ hc (fun _ _ _ e=>by
   injection e with _ e _;rcases cb with rfl|rfl <;> rw[<-e] <;> decide))
  have C:=aA bd;have A:=aA ae;have F:Hid (w1.heap.size<=T/\w1.heap.size<=M/\w1.heap.size<=D/\w1.heap.size<=c):=aA ⟨a5,a9,bb,al⟩;refine u _ _ ⟨⟨wy,ae⟩,rfl⟩ _ (fun _ h=>h) ⟨⟨wy,ae⟩,rfl⟩ ?_;clear u k0 k1 k2 k3 k4 k5 k6 k7 f0 f1 f2 f3 f4 f5 f6 f7 lc ac ad bd ae z a4 a5 a6 a9 ba bb bc al l ao b8;refine Aj ?_;have ap:=aA (Lk.TS.start E);have cA:(n:Int)<=300:=by have:=HN.o;have:=HZ.o;have:=b0.o;omega
  go_wp2;go_loopw [19] (fun vi wr=>∃(i:Nat) (tl:List ((Int×Int)×Value)),i<=n/\vi=.int .i64 i/\Hid (Lk.TS E i 0 tl)/\Hid (Mw.MapIs wkE wr T tl)/\Hid (wy.grownBy wr (some T))) (fun vi _=>n-(intOf vi).toNat)
  case atStart=>exact⟨0,[],AX _,rfl,ap,af,aA (AI _ _)⟩
  case round =>
   obtain⟨i,tl,hi,rfl,bh,aq,HG⟩:=hrel;rename World=>wr;by_cases bi:i<n
   ·have bj:i<(K.zip E).length:=by rw[HN.o];exact bi
    obtain⟨ga,oa,rfl,bk,⟨A1,c1,a1⟩,A2,c2,a2,b3⟩:=zmg HA.o i bj;have N:i<E.length:=by have:=a0.o;have:=HZ.o;have:=HN.o;omega
    have ar:(K.zip E)[i].2=E[i]:=by rw[List.getElem_zip]
    have H:E.getD i []=E[i]:=by rw[Ai,Ar N];rfl
    rw[ar,<-H]at a2;have a3:RdQ 2 prF w w.heap.size A2 (E.getD i []):=by rw[H,<-ar];exact b3
    have O:Hid (Below w.heap.size w wr):=aA (zaa (r.o.trans (A.o.mono r.o.size)) HG.o (Ag r.o.size F.o.1) (Ag r.o.size A.o.size));have k0:=(O.o.cell (p:=⟨ga,oa+i*2,none⟩) bk).trans a1;have k1:=(O.o.cell (p:=⟨ga,oa+i*2+1,none⟩) bk).trans a2;have cc:=aA a3;have cd:=aA (fun(j:Nat) (tl2:List ((Int×Int)×Value)) (h:Lk.TS E i j tl2) (hj:j<(E.getD i []).length)=>h.put (by rw[H];exact b1.o i N) hj);have ce:=aA (fun(tl2:List ((Int×Int)×Value)) (h:Lk.TS E i (E.getD i []).length tl2)=>h.next);have cf:=aA (fun(e:Int×Int) (he:e∈E.getD i [])=>b4.o i N e (by rw[<-H];exact he))
    have au:Hid ((E.getD i []).length<=100000):=aA (by
     rw[H];exact b5.o i N)
    have cg:=aA bi;clear b3 a3 a1;generalize (K.zip E)[i].1.length=n1 at *;clear ar a2;clear bj N H;generalize E.getD i []=es at *;obtain⟨wi,ag⟩:∃y,y=wr.alloc (.cells #[.slice A1 n1 c1,.slice A2 es.length c2] 59):=⟨_,rfl⟩
    have bl:Hid (Below wr.heap.size wr wi):=aA (by rw[ag];exact(Aq _ _).alloc (Ad _) _);have bm:wi.heap[wr.heap.size]?=some (.cells #[.slice A1 n1 c1,.slice A2 es.length c2] 59 (0,0)):=by rw[ag];exact Az wr _
    have z1:=aR bm;have ch:=aA (aq.o.block (bl.o.block _ aq.o.lt));have cB:((i:Nat):Int)<((n:Nat):Int):=by omega
    have ci:(es.length:Int)<=100000:=by have:=au.o;omega
    go_upto_region 5 with fail
    rw[<-ag];clear ag k0 k1 bm;go_wp2;clear z1;go_loopw [27] (fun vj wz=>∃(j:Nat) (tl2:List ((Int×Int)×Value)),j<=es.length/\vj=.int .i64 j/\Hid (Lk.TS E i j tl2)/\Hid (Mw.MapIs wkE wz T tl2)/\Hid (wi.grownBy wz (some T))) (fun vj _=>es.length-(intOf vj).toNat)
    case atStart=>exact⟨0,tl,AX _,rfl,bh,ch,aA (AI _ _)⟩
    case round =>
     obtain⟨j,tl2,hj,rfl,bn,av,bo⟩:=hrel;rename World=>wz;have aw:Hid (wy.grownBy wz (some T)):=aA (zae (zae HG.o (zab bl.o _)) bo.o);by_cases U:j<es.length
     ·obtain⟨g3,o3,rfl,bp,ax⟩:=cc.o (by omega);have bq:Hid (Below w.heap.size w wz):=aA (zaa (r.o.trans (A.o.mono r.o.size)) aw.o (Ag r.o.size F.o.1) (Ag r.o.size A.o.size));have e0:=(bq.o.cell (p:=⟨g3,o3+j*2+0,none⟩) bp).trans (ax j U 0 _ rfl);have e1:=(bq.o.cell (p:=⟨g3,o3+j*2+1,none⟩) bp).trans (ax j U 1 _ rfl);rw[Cd]at e0;have cj:=aA (cd.o j tl2 bn.o U);have ck:Hid (Gm.In ((i:Int),(es[j]).1).1/\Gm.In ((i:Int),(es[j]).1).2):=aA ⟨by unfold Gm.In;simp only;omega,cf.o _ (Ay U)⟩;have cC:((j:Nat):Int)<((es.length:Nat):Int):=by omega
      have cl:=aA U;clear ax;generalize (es[j]).1=s at *;generalize (es[j]).2=tz at *;obtain⟨wj,ah⟩:∃y,y=wz.alloc (.cells #[.int .i64 s,.int .i64 tz] 96):=⟨_,rfl⟩
      have ay:Hid (Below wz.heap.size wz wj):=aA (by rw[ah];exact(Aq _ _).alloc (Ad _) _);have az:wj.heap[wz.heap.size]?=some (.cells #[.int .i64 s,.int .i64 tz] 96 (0,0)):=by rw[ah];exact Az wz _
      have y0:=aM az;have y1:=aR az;have V:T≠c:=fun e=>by have:=af.o;rw[e]at this;exact this.not_cells C.o
      have m:wz.heap[c]?=some (.cells (wrC (.slice AT G.ts.length cT) (.slice AN G.ns.length cN) (.slice AR G.rs.length cR) (.int .i64 G.st) (.slice At (Lk.tlAll G).length ct) T M D) 174 (0,0)):=(aw.o.block c (Ac.1 C.o).1 (fun e=>by injection e with e;exact V e.symm)).trans C.o;have x5:=zgW (aC ay.o m);have cm:=aA (av.o.block (ay.o.block _ av.o.lt));have cn:=aA (Mw.run_put (x:=((i:Int),s)) cm.o wkK Tryz.underlying171 ck.o (.int .i64 tz));clear az V m;go_upto_region 8 with fail
      rw[<-ah];clear ah e0 e1;go_wp2_with (at_mapUpdate;refine Mw.wpList_store rfl _ _ _ _ rfl cn.o rfl rfl rfl ?_;rintro w6 ⟨br,bs⟩;have co:=aA br;have cp:=aA (zae (zae bo.o (zab ay.o (some T))) bs);clear br bs)
      go_roundw
      case rel=>exact⟨j+1,_,cl.o,by go_num,cj,co,cp⟩
      case measure=>simp[intOf];omega
     ·obtain rfl:j=es.length:=by omega
      have cq:=aA (ce.o _ bn.o);go_wp2;go_roundw
      case rel=>exact⟨i+1,tl2,cg.o,by go_num,cq,av,aw⟩
      case measure=>simp[intOf];omega
   ·obtain rfl:i=n:=by omega
    have cr:Hid (Lk.TS E E.length 0 tl):=aA (by have:=bh.o;rwa [show i=E.length by have:=a0.o;have:=HZ.o;have:=HN.o;omega]at this);have O:Hid (Below w.heap.size w wr):=aA (zaa (r.o.trans (A.o.mono r.o.size)) HG.o (Ag r.o.size F.o.1) (Ag r.o.size A.o.size));have V:T≠c:=fun e=>by have:=af.o;rw[e]at this;exact this.not_cells C.o
    have m:wr.heap[c]?=some (.cells (wrC (.slice AT G.ts.length cT) (.slice AN G.ns.length cN) (.slice AR G.rs.length cR) (.int .i64 G.st) (.slice At (Lk.tlAll G).length ct) T M D) 174 (0,0)):=(HG.o.block c (Ac.1 C.o).1 (fun e=>by injection e with e;exact V e.symm)).trans C.o;have bu:=aA m
    have cu:Hid (bV wr At G):=aA (b9.o.keep HG.o.size fun g cur ty _ hc=>(HG.o.block g (Ac.1 hc).1 (fun e=>by
     injection e with e;rw[e]at hc;exact af.o.not_cells hc)).trans hc)
    have bv:=aA (bf.o.block (HG.o.block M bf.o.lt (fun e=>by injection e with e;exact am.o.1 e.symm)));have bw:=aA (bg.o.block (HG.o.block D bg.o.lt (fun e=>by injection e with e;exact am.o.2.1 e.symm)));have cv:=aA (zhA G K E wr w1.heap.size B T M D AT AN AR At cT cN cR ct tl (bX.o tl cr.o) bZ.o (b7.o wr O.o) (Ag HB.o r.o.size) cu.o (Ag A.o.size HG.o.size) aq.o bv.o bw.o F.o.1 F.o.2.1 F.o.2.2.1 am.o);have k0:=aM m;have k1:=aR m;have k2:=bF m;have k3:=bQ m;have k4:=zdZ m;have k5:=zgW m;have k6:=zjG m;have k7:=znk m;have bx:Hid (c≠M/\c≠D):=aA ⟨fun e=>by rw[e]at m;exact bv.o.is.not_cells m,fun e=>by rw[e]at m;exact bw.o.is.not_cells m⟩;clear V m;go_wp2_with fail
    refine cv.o.mono ?_;rintro _ w9 ⟨rfl,MM',DD',bz,bD,bM,bT⟩;have x7:=znk ((bT c (Ac.1 bu.o).1 bx.o.1 bx.o.2).trans bu.o);have cw:=aA bz.is;have cx:=aA bD;have cy:Hid (Below w.heap.size w w9):=aA (O.o.trans (bM.mono r.o.size));clear bz bD bM bT k0 k1 k2 k3 k4 k5 k6 k7;go_wp2;go_ret
    exact⟨D,MM',DD',rfl,cw.o,cx.o,cy.o⟩
namespace Lk
open Au Gm Go.Mw
noncomputable def lkPart (G:Gr) (K:List (List It)) (E:List (List (Int×Int))) (q n:Nat):List (Int×Int):=(List.range n).filterMap fun k=>(lkAt G K E q k).map fun v=>((k:Int),(v:Int))
theorem lkPart_zero (G:Gr) (K:List (List It)) (E:List (List (Int×Int))) (q:Nat):lkPart G K E q 0=[]:=rfl
theorem lkPart_none {G:Gr} {K:List (List It)} {q:Nat} (h:lkAt G K E q n=none):lkPart G K E q (n+1)=lkPart G K E q n:=by
 unfold lkPart;rw[Cp,List.filterMap_append];simp[h]
theorem lkPart_some {G:Gr} {K:List (List It)} {q v:Nat} (h:lkAt G K E q n=some v):lkPart G K E q (n+1)=lkPart G K E q n++[((n:Int),(v:Int))]:=by
 unfold lkPart;rw[Cp,List.filterMap_append];simp[h]
theorem lkPart_len (G:Gr) (K:List (List It)) (E:List (List (Int×Int))) (q n:Nat):(lkPart G K E q n).length<=n:=by
 unfold lkPart
 have:=List.length_filterMap_le (fun k=>(lkAt G K E q k).map fun v=>((k:Int),(v:Int))) (List.range n)
 simpa using this
theorem lkPart_all (G:Gr) (K:List (List It)) (E:List (List (Int×Int))) (q:Nat):lkPart G K E q G.rs.length=lkRow G K E q:=rfl
noncomputable def lkS (G:Gr):List (List (Int×Int)):=if isB G=true then(match bld G with|some p=>(List.range p.1.length).map (lkRow G p.1 p.2)|none=>[]) else []
theorem lk_no {G:Gr} (h:isB G=false):lkS G=[]:=by unfold lkS;rw[h];rfl
theorem lk_many {G:Gr} (h:isB G=true) (k:bld G=none):lkS G=[]:=by unfold lkS;rw[h,k];rfl
theorem lk_ok {G:Gr} {K:List (List It)} (h:isB G=true) (k:bld G=some (K,E)):lkS G=(List.range K.length).map (lkRow G K E):=by unfold lkS;rw[h,k];rfl
end Lk
def lkF (x:Int×Int):List Value:=[.int .i64 x.1,.int .u32 x.2]
theorem zc3 (x:Int×Int):(lkF x).length=2:=rfl
theorem zkG (x:Int×Int):∀u∈lkF x,u.oneCell'=true:=fun u hu=>by
 simp[lkF]at hu;rcases hu with rfl|rfl <;> rfl
theorem zms:(Tryz.prog.info? 109).map (fun i=>(i.zero,i.size,i.bytes))=some (some (.agg #[.int .i64 0,.int .u32 0]),2,16):=by kernel_rfl
theorem zkP:(Tryz.prog.info? 53).map (fun i=>(i.zero,i.size,i.bytes))=some (some (.slice none 0 0),1,24):=by kernel_rfl
theorem zi8 (x:Int×Int) (w:World) (g:Nat) (hb:w.heap[g]?=some (.cells #[.int .i64 x.1,.int .u32 x.2] 109 (0,0))):∀j u,(lkF x)[j]?=some u->w.cell? ⟨g,j,none⟩=some u:=fun j u hu=>by
 refine(Aw w g j _ _ _ hb).trans ?_
 match j,hu with
 | 0,hu=>exact hu
 | 1,hu=>exact hu
 | j+2,hu=>simp[lkF]at hu
def zmZ (G:Gm.Gr) (w:World) (e:Ending) (w':World):Prop :=
 ∃A c,e=.returned (.tuple #[.slice A (Lk.lkS G).length c,.int .i64 (Au.bldE G)])/\(Lk.lkS G).length<=c/\c<=9223372036854775807/\RdM 2 lkF w' w'.heap.size A (Lk.lkS G)/\Below w.heap.size w w'
theorem zmZ.nil {G:Gm.Gr} {w w':World} {er:Int} (h:Au.bldE G=er) (h2:Lk.lkS G=[]) (hb:Below w.heap.size w w'):zmZ G w (.returned (.tuple #[.slice none 0 0,.int .i64 er])) w':=by
 refine⟨none,0,?_,?_,by omega,?_,hb⟩
 ·rw[h,h2];rfl
 ·rw[h2];exact Ad _
 ·rw[h2];exact RdM.nil _ _ _
theorem zl4 {α:Type} (rs l:List α) (x:α) (i:Nat) (h:rs.length=i) (hi:i<(rs++[x]++l).length):(rs++[x]++l)[i]=x:=by
 subst h;simp
theorem mid_set {α:Type} (rs l:List α) (x y:α) (i:Nat) (h:rs.length=i):(rs++[x]++l).set i y=rs++[y]++l:=by
 subst h;simp
theorem UBQ.mid {α:Type} {T:TypeId} {c:Nat} {rs l:List (RW α)} {xs:List α} (h:UBQ T rwF w g (rs++[((xs,A,c):RW α)]++l)) (hi:rs.length=i):w.cell? ⟨g,i,none⟩=some (.slice A xs.length c):=by
 have hl:i<(rs++[((xs,A,c):RW α)]++l).length:=by rw[AU,AU,BQ];omega
 have:=h.cell zao i 0 hl (.slice A xs.length c) (by rw[zl4 rs l _ i hi hl];rfl)
 rw[Dd,Cd]at this;exact this
theorem zkJ (v:Value) (G:Gm.Gr) (B:Nat) (w:World) (hg:aQ w B v G) (hf:Gm.Fit G) (hB:B<=w.heap.size) :
  Calls Tryz.prog 28 #[v] w (zmZ G w):=by
 have br:=aA (fun y (h:Below w.heap.size w y)=>zcS v G B y (hg.below h hB) hf (Ag hB h.size));have bs:=aA (fun(y:World) (h:Below w.heap.size w y) (Aa:Option Addr) (ca:Nat) (K:List (List Au.It)) (E:List (List (Int×Int))) (hb:Gm.isB G=true) (hk:Au.bld G=some (K,E)) (ha:zdf y y.heap.size Aa (K.zip E))=>zhB v G B y Aa ca K E (hg.below h hB) hf (Ag hB h.size) hb hk ha);have cj:=aA hB;obtain⟨AT,cT,AN,cN,AR,cR,rfl,_⟩:=hg;obtain⟨w1,d⟩:∃y,y=w.alloc (.cells #[.slice AT G.ts.length cT,.slice AN G.ns.length cN,.slice AR G.rs.length cR,.int .i64 G.st] 26):=⟨_,rfl⟩
 have l:Hid (Below w.heap.size w w1):=aA (by rw[d];exact(Aq _ _).alloc (Ad _) _);have F:Hid (w1.heap[w.heap.size]?=some (.cells #[.slice AT G.ts.length cT,.slice AN G.ns.length cN,.slice AR G.rs.length cR,.int .i64 G.st] 26 (0,0))):=aA (by rw[d];exact Az w _);have cl:Hid (w.heap.size<w1.heap.size):=aA (Ac.1 F.o).1;have HS:=aA (br.o w1 l.o);have x0:=aM F.o;have x1:=aR F.o;have x2:=bF F.o;have x3:=bQ F.o;clear hf hB;cases hb:Gm.isB G with
 | false =>
  have HE:=aA (BJ (Au.bld_no hb) (Lk.lk_no hb));unfold zil at HS;rw[HE.o.1.1,HE.o.1.2]at HS;clear hb
  go_enter Tryz.func28,Tryz.ntmps28
  go_upto_region 1 with fail
  rw[<-d];clear d;go_wp2_with fail
  refine HS.o.mono ?_;rintro _ w2 ⟨Aa,ca,rfl,_,_,_,b⟩;have s:=aA (l.o.trans (b.mono l.o.size));clear b x0 x1 x2 x3;generalize ([]:List StT).length=nz at *;go_wp2
  go_ret2
  exact zmZ.nil HE.o.1.1 HE.o.2 s.o
 | true =>
  cases hk:Au.bld G with
  | none =>
   have HE:=aA (BJ (Au.bld_many hb hk) (Lk.lk_many hb hk));unfold zil at HS;rw[HE.o.1.1,HE.o.1.2]at HS;clear hb hk
   go_enter Tryz.func28,Tryz.ntmps28
   go_upto_region 1 with fail
   rw[<-d];clear d;go_wp2_with fail
   refine HS.o.mono ?_;rintro _ w2 ⟨Aa,ca,rfl,_,_,_,b⟩;have s:=aA (l.o.trans (b.mono l.o.size));clear b x0 x1 x2 x3;generalize ([]:List StT).length=nz at *;go_wp2
   go_ret2
   exact zmZ.nil HE.o.1.1 HE.o.2 s.o
  | some p =>
   obtain⟨K,E⟩:=p;have HE:=aA (BJ (Au.bld_ok hb hk) (Lk.lk_ok hb hk));obtain⟨hi,hE,a2⟩:=Au.bld_inv hk;have hz:(K.zip E).length=K.length:=by rw[List.length_zip,hE,Nat.min_self]
   have ad:=Gm.right_ok.1 (Gm.isB_right hb);have a3:=aA (fun(MM DD:Lk.MP) (h:Lk.WI G K E MM DD []) (i k:Nat) (bu:i<K.length) (hk:k<G.rs.length)=>h.at hi hE ad (fun x hx=>(Gm.isB_use hb x hx).2) bu hk);have bv:=aA (fun(y:World) (h:Below w.heap.size w y) (Aa:Option Addr) (ca:Nat) (ha:zdf y y.heap.size Aa (K.zip E))=>bs.o y h Aa ca K E hb hk ha)
   have bw:=aA (fun(k v:Nat) (i:Nat) (h:Lk.lkAt G K E i k=some v)=>(show v<4294967296 from by
    unfold Lk.lkAt at h;split at h
    ·injection h with h;rw[<-h];exact Lk.laN_lt (by have:=(Gm.terms_iff G.ts).1 ad.t;omega) _ _
    ·cases h))
   have ah:=aA ad.r40;have ai:=aA a2;have HZ:=aA hz;unfold zil at HS;rw[HE.o.1.1,HE.o.1.2]at HS;clear hb hk hi hE a2 hz ad
   go_enter Tryz.func28,Tryz.ntmps28
   go_upto_region 1 with fail
   rw[<-d];clear d;go_wp2_with fail
   refine HS.o.mono ?_;rintro _ w2 ⟨Aa,ca,rfl,bx,bz,a4,b⟩;have s:=aA (l.o.trans (b.mono l.o.size));have J:=aA (aC b F.o);have aj:=aA (bv.o w2 s.o Aa ca a4);clear b x0 x1 x2 x3 a4 bx bz;have x0:=aM J.o;have x1:=aR J.o;have x2:=bF J.o;have x3:=bQ J.o;rw[HZ.o]at aj ⊢;obtain⟨n,hn⟩:∃n,K.length=n:=⟨_,rfl⟩
   rw[hn]at aj ai HZ a3 ⊢;have HN:=aA hn;clear hn;go_upto_region 4 with fail
   go_wp2_with fail
   refine aj.o.mono ?_;rintro _ w3 ⟨D,MM,DD,rfl,a5,a6,ak⟩;have a9:=aA a5;have bD:=aA (a3.o MM DD a6);have al:=aA (s.o.trans (ak.mono s.o.size));have ba:=aA (aC ak J.o);clear a5 a6 ak x0 x1 x2 x3;have cm:(n:Int)<=300:=by have:=ai.o;omega
   have bb:n<=1000000:=by have:=ai.o;omega
   go_upto_region 6 with(at_make;refine zb8 (m:=1) (f:=rwF (α:=Int×Int)) rfl (.tmp 24) (.tmp 24) _ rfl Tryz.underlying48 _ 24 zkP (by decide) (by decide) (by decide) (([],none,0):RW (Int×Int)) rfl n rfl rfl bb ?_;intro w4 am ae)
   obtain⟨gL,af⟩:∃g,g=w3.heap.size:=⟨_,rfl⟩
   rw[<-af]at am;rw[<-af];have bM:Hid (UBQ 53 rwF w4 gL (([]:List (RW (Int×Int)))++List.replicate (n-0) ([],none,0))):=aA am;have bT:=aA (al.o.trans (ae.mono al.o.size));have bX:=aA (aC ae ba.o);have bZ:=aA (a9.o.block (ae.block D a9.o.lt));have bc:Hid (w.heap.size<gL):=aA (by rw[af];have:=al.o.size;have:=(Ac.1 ba.o).1;omega);clear am ae af bb;go_wp2;go_loopw [28] (fun vi wr=>∃(i:Nat) (rs:List (RW (Int×Int))),i<=n/\vi=.int .i64 i/\Hid (rs.map (·.1)=(List.range i).map (Lk.lkRow G K E))/\Hid (∀r∈rs,bL 109 2 lkF wr 0 wr.heap.size r)/\Hid (UBQ 53 rwF wr gL (rs++List.replicate (n-i) ([],none,0)))/\Hid (Mw.MapIs enE wr D (Lk.encM DD))/\Hid (wr.heap[w.heap.size]?=some (.cells #[.slice AT G.ts.length cT,.slice AN G.ns.length cN,.slice AR G.rs.length cR,.int .i64 G.st] 26 (0,0)))/\Hid (Below w.heap.size w wr)) (fun vi _=>n-(intOf vi).toNat)
   case atStart=>exact⟨0,[],AX _,rfl,aA rfl,aA (by simp),bM,bZ,bX,bT⟩
   case round =>
    obtain⟨i,rs,hi,rfl,ao,ap,HU,HD,HX,HW⟩:=hrel;rename World=>wr
    have bd:rs.length=i:=by
     have:=congrArg List.length ao.o
     simpa using this
    by_cases bf:i<n
    ·have x2:=bF HX.o;have cn:((i:Nat):Int)<((n:Nat):Int):=by omega
     have bg:=aA bf;have aq:=aA bd;have b0:(G.rs.length:Int)<=40:=by have:=ah.o;omega
     obtain⟨N0,ar⟩:∃N,N=wr.heap.size:=⟨_,rfl⟩
     rw[<-ar]at ap
     have b1:Hid (UBQ 53 rwF wr gL (rs++[((Lk.lkPart G K E i 0,none,0):RW (Int×Int))]++List.replicate (n-(i+1)) ([],none,0))):=aA (by
      have:=HU.o
      rw[show n-i=(n-(i+1))+1 by omega,CQ]at this;rw[Lk.lkPart_zero,BW];exact this)
     have b3:Hid (aK 109 2 lkF wr N0 (.slice none (Lk.lkPart G K E i 0).length 0) (Lk.lkPart G K E i 0)):=aA (aK.nil _ _);have b4:Hid (N0<=wr.heap.size):=aA (by omega);have bh:Hid (gL<N0/\D<N0/\w.heap.size<N0):=aA (by rw[ar];exact⟨HU.o.lt,HD.o.lt,(Ac.1 HX.o).1⟩);clear ar bd bf;go_wp2;clear x2;go_loopw [34] (fun vk wz=>∃(k:Nat) (A:Option Addr) (c:Nat),k<=G.rs.length/\vk=.int .i64 k/\Hid (aK 109 2 lkF wz N0 (.slice A (Lk.lkPart G K E i k).length c) (Lk.lkPart G K E i k))/\Hid (UBQ 53 rwF wz gL (rs++[((Lk.lkPart G K E i k,A,c):RW (Int×Int))]++List.replicate (n-(i+1)) ([],none,0)))/\Hid (∀r∈rs,bL 109 2 lkF wz 0 N0 r)/\Hid (Mw.MapIs enE wz D (Lk.encM DD))/\Hid (wz.heap[w.heap.size]?=some (.cells #[.slice AT G.ts.length cT,.slice AN G.ns.length cN,.slice AR G.rs.length cR,.int .i64 G.st] 26 (0,0)))/\Hid (Below w.heap.size w wz)/\Hid (N0<=wz.heap.size)) (fun vk _=>G.rs.length-(intOf vk).toNat)
     case atStart=>exact⟨0,none,0,AX _,rfl,b3,b1,ap,HD,HX,HW,b4⟩
     case round =>
      obtain⟨k,A,c,hk,rfl,HO,H,au,M,av,ag,aw⟩:=hrel;rename World=>wz;by_cases bi:k<G.rs.length
      ·have aa:=bD.o i k bg.o bi;have b5:Hid (Gm.In ((i:Int),(k:Int)).1/\Gm.In ((i:Int),(k:Int)).2):=aA ⟨by unfold Gm.In;simp only;omega,by unfold Gm.In;simp only;omega⟩;have lk:=Mw.run_look (E:=enE) M.o enK (t:=123) Tryz.underlying123 (z:=.int .u32 0) (by kernel_rfl) (x:=((i:Int),(k:Int))) b5.o true;have ab:enE.enc ((i:Int),(k:Int))=.agg #[.int .i64 (i:Int),.int .i64 (k:Int)]:=rfl;rw[ab,Lk.asc_enc,aa]at lk;have ax:=aA bi;cases ha:Lk.lkAt G K E i k with
       | none =>
        rw[ha]at lk;simp only[Option.map_none,Option.getD_none,Option.isSome_none,if_true]at lk;have O:=aA (Lk.lkPart_none ha);clear ha aa ab;go_wp2;go_roundw
        case rel=>exact⟨k+1,A,c,ax.o,by go_num,by rw[O.o];exact HO,by rw[O.o];exact H,au,M,av,ag,aw⟩
        case measure=>simp[intOf];omega
       | some u =>
        rw[ha]at lk;simp only[DF,Bm,Option.isSome_some,if_true]at lk;have O:=aA (Lk.lkPart_some ha);have b6:=aA (Lk.lkPart_len G K E i k);have co:=bw.o k u i ha;clear ha aa ab;generalize Lk.lkPart G K E i k=xs at *;have cL:wz.cell? ⟨gL,i,none⟩=some (.slice A xs.length c):=H.o.mid aq.o;have I:Hid (Below wz.heap.size wz (wz.alloc (.cells #[.int .i64 (k:Int),.int .u32 (u:Int)] 109))):=aA ((Aq _ _).alloc (Ad _) _);have U:=aA (HO.o.alloc (.cells #[.int .i64 (k:Int),.int .u32 (u:Int)] 109));have ay:=aA (Az wz (.cells #[.int .i64 (k:Int),.int .u32 (u:Int)] 109));have b7:=aA (H.o.below I.o H.o.lt);have bj:Hid (N0<=(wz.alloc (.cells #[.int .i64 (k:Int),.int .u32 (u:Int)] 109)).heap.size):=aA (Ag aw.o I.o.size);have bk:Hid (Below w.heap.size w (wz.alloc (.cells #[.int .i64 (k:Int),.int .u32 (u:Int)] 109))):=aA (ag.o.trans (I.o.mono (by have:=ag.o.size;omega)));have bl:=fun j (e:(Value.slice A xs.length c).ownBlock=some j)=>(Bs U.o j e).1;have bm:=aA bl;clear bl;go_wp2_with (at_builtin;refine zch (f:=lkF) rfl (.tmp 51) (.tmp 55) _ rfl Tryz.underlying53 _ 16 zms (by decide) (by decide) (by decide) zc3 zkG N0 _ xs rfl U.o _ _ ((k:Int),(u:Int)) rfl (zi8 ((k:Int),(u:Int)) _ _ ay.o) (by have:=b6.o;have:=ax.o;omega) bj.o ?_;intro v5 w5 az a0;have V:=aA a0;have C:Hid (UBQ 53 rwF w5 gL (rs++[((xs,A,c):RW (Int×Int))]++List.replicate (n-(i+1)) ([],none,0))):=aA (aI U.o a0 b7.o fun cur=>aH (by decide));have c5:=C.o.mid aq.o;have f5:=C.o.frozen i;have l5:=C.o.lt;obtain⟨A5,c5',rfl,_,_,_⟩:=aK.form az zc3;have bn:=aA az;clear a0 az;generalize bo:(xs++[((k:Int),(u:Int))]).length=ln at *;have bp:=aA bo;clear bo)
        have b8:Hid (aK 109 2 lkF (w5.setCell ⟨gL,i,none⟩ (.slice A5 ln c5')) N0 (.slice A5 ln c5') (xs++[((k:Int),(u:Int))])):=aA (AZ bn.o (aF (AI _ _) i _) (zaf bn.o C.o fun cur=>aH (by decide)))
        have b9:Hid (UBQ 53 rwF (w5.setCell ⟨gL,i,none⟩ (.slice A5 ln c5')) gL (rs++[((xs++[((k:Int),(u:Int))],A5,c5'):RW (Int×Int))]++List.replicate (n-(i+1)) ([],none,0))):=aA (by
         have:=C.o.set1 i ((xs++[((k:Int),(u:Int))],A5,c5'):RW (Int×Int)) A5 ln c5' rfl bp.o rfl
         rw[mid_set _ _ _ _ i aq.o]at this;exact this)
        have ac:∀(g:Nat) (cur:Array Value),g<N0->wz.heap[g]?=some (.cells cur 109 (0,0))->(w5.setCell ⟨gL,i,none⟩ (.slice A5 ln c5')).heap[g]?=some (.cells cur 109 (0,0)):=fun g cur h1 h2=>by
         have h3:=aC I.o h2;have h4:w5.heap[g]?=some (.cells cur 109 (0,0)):=(V.o.block g (Ac.1 h3).1 (fun e=>by have:=bm.o g e.symm;omega)).trans h3;refine(AH w5 ⟨gL,i,none⟩ _ g (fun e=>?_)).trans h4;have e:g=gL:=e;rw[e]at h4;have h5:=C.o;unfold UBQ at h5;rw[h4]at h5;injection h5 with h5;exact aH (by decide) h5
        have cb:Hid (∀r∈rs,bL 109 2 lkF (w5.setCell ⟨gL,i,none⟩ (.slice A5 ln c5')) 0 N0 r):=aA (fun r hr=>(au.o r hr).keep fun g cur _ h2 h3=>ac g cur h2 h3)
        have cc:Hid (Mw.MapIs enE (w5.setCell ⟨gL,i,none⟩ (.slice A5 ln c5')) D (Lk.encM DD)):=aA (by
         have cd:=M.o.block (I.o.block D M.o.lt);obtain⟨es,ck,hm,hr⟩:=cd;have a1:=aI U.o V.o hm fun cur e=>by cases e
         refine⟨es,ck,(AH w5 ⟨gL,i,none⟩ _ D (fun e=>?_)).trans a1,hr⟩
         have:=bh.o
         have e:D=gL:=e;rw[e]at a1;have h5:=C.o;unfold UBQ at h5;rw[a1]at h5;cases h5)
        have ce:Hid ((w5.setCell ⟨gL,i,none⟩ (.slice A5 ln c5')).heap[w.heap.size]?=some (.cells #[.slice AT G.ts.length cT,.slice AN G.ns.length cN,.slice AR G.rs.length cR,.int .i64 G.st] 26 (0,0))):=aA ((AH w5 ⟨gL,i,none⟩ _ w.heap.size (fun e=>by have e:w.heap.size=gL:=e;have:=bc.o;omega)).trans (aI U.o V.o (aC I.o av.o) fun cur=>aH (by decide)));have cf:Hid (Below w.heap.size w (w5.setCell ⟨gL,i,none⟩ (.slice A5 ln c5'))):=aA ((bk.o.grown V.o bk.o.size (fun j e=>by have:=bm.o j e;have:=bh.o;omega)).setCell (by have:=bc.o;simp only;omega) _);have cg:Hid (N0<=(w5.setCell ⟨gL,i,none⟩ (.slice A5 ln c5')).heap.size):=aA (by have:=bj.o;have:=V.o.size;simp;omega);clear ac c5 f5 l5;go_roundw
        case rel=>exact⟨k+1,A5,c5',ax.o,by go_num,by rw[O.o,bp.o];exact b8,by rw[O.o];exact b9,cb,cc,ce,cf,cg⟩
        case measure=>simp[intOf];omega
      ·obtain rfl:k=G.rs.length:=by omega
       rw[Lk.lkPart_all]at HO H
       have ch:Hid (∀r∈rs++[((Lk.lkRow G K E i,A,c):RW (Int×Int))],bL 109 2 lkF wz 0 wz.heap.size r):=aA (fun r hr=>by
        rcases Bj.1 hr with hr|hr
        ·exact(au.o r hr).more aw.o
        ·rw[AF.1 hr];obtain⟨A9,c9,e9,h1,h2,_⟩:=aK.form HO.o zc3;injection e9 with e1 e2 e3;subst e1 e3;exact⟨h1,by unfold maxLen at h2;simp only;omega,(HO.o.rowG zc3).less (AX _)⟩)
       have ci:Hid ((rs++[((Lk.lkRow G K E i,A,c):RW (Int×Int))]).map (·.1)=(List.range (i+1)).map (Lk.lkRow G K E)):=aA (by rw[AW,ao.o,Cp,AW];rfl);go_wp2;go_roundw
       case rel=>exact⟨i+1,_,bg.o,by go_num,ci,ch,H,M,av,ag⟩
       case measure=>simp[intOf];omega
    ·obtain rfl:i=n:=by omega
     have HR:Hid ((List.range i).map (Lk.lkRow G K E)=Lk.lkS G):=aA (by rw[HE.o.2,HN.o]);have bq:Hid ((Lk.lkS G).length=i):=aA (by rw[<-HR.o];simp);rw[DW,Et,Co]at HU;go_wp2
     go_ret2
     refine⟨some ⟨gL,0,none⟩,i,?_,by rw[bq.o];exact Ad _,by omega,?_,HW.o⟩
     ·rw[bq.o,HE.o.1.1];rfl
     ·have:=UBQ.rdM HU.o HU.o.lt ap.o
      rw[ao.o,HR.o]at this;exact this
namespace Lk
open Au Gm Go.Mw
def zlk (L:List (List It)):SS:=L.map fun l=>l.map fun _=>0
theorem zgm (L:List (List It)) (q:Nat):(zlk L).getD q []=(L.getD q []).map fun _=>0:=by
 unfold zlk;rw[Ai,BC,Ai];cases L[q]? <;> rfl
theorem zlt (l:List It) (i:Nat):(l.map fun _=>(0:Nat)).getD i 0=0:=by
 rw[Ai,BC];cases l[i]? <;> rfl
theorem zd4 (L:List (List It)):Fit L (zlk L):=⟨by simp[zlk],fun q=>by rw[zgm,Bb]⟩
theorem zj7 (G:Gr) (E:List (List (Int×Int))) (L:List (List It)):Snd G E L (zlk L):=fun q x t h=>by
 obtain⟨i,_,h2⟩:=h;rw[zgm,zlt,CV]at h2;cases h2
def zmR (G:Gr) (L:List (List It)):SS:=gv L (zlk L) 0 (-1,0) (2 ^ G.ts.length)
theorem zka {t:Nat} (h:(2 ^ n).testBit t=true):t=n:=by
 rw[Ck]at h;exact(Cq h).symm
section
variable {G:Gr} {K:List (List It)} {E:List (List (Int×Int))}
theorem zh9 (hi:Inv G K E):Fit (rowsL G K) (zmR G (rowsL G K))/\Snd G E (rowsL G K) (zmR G (rowsL G K))/\At (rowsL G K) (zmR G (rowsL G K)) 0 (-1,0) G.ts.length:=by
 refine⟨zcc (zd4 _) _ _ _,zhI (zd4 _) (zj7 _ _ _) fun t h=>by rw[zka h];exact .st,(zf5 (zd4 _)).2 (.inr ⟨rfl,rfl,by rw[Ck];simp,?_⟩)⟩;have h0:=la_in hi (.st:La G E 0 (-1,0) G.ts.length);rw[zaS h0.1];exact List.getElem?_of_mem h0.2
end
def psC (nu:List Bool) (f:List Nat) (G:Gr) (tw:Nat->Int->Nat) (L:List (List It)) (S:SS) (p:Nat×Nat):SS :=
 match (L.getD p.1 [])[p.2]? with
 | none=>S
 | some x=>match nx G x with
  | none=>S
  | some sym=>if(S.getD p.1 []).getD p.2 0=0 then S else
   if 0<=sym then gv L S (tw p.1 sym) (x.1,x.2+1) ((S.getD p.1 []).getD p.2 0)
   else(List.range G.rs.length).foldl (ps1 G L p.1 sym (ofN nu f ((S.getD p.1 []).getD p.2 0) (rest G x))) (gv L S (tw p.1 sym) (x.1,x.2+1) ((S.getD p.1 []).getD p.2 0))
theorem ps_c {G:Gr} {nu:List Bool} {f:List Nat} (h1:gn false G.rs G.ns.length=nu) (h2:fst G=f):ps G=psC nu f G:=by subst h1 h2;rfl
def prs (L:List (List It)):List (Nat×Nat):=(List.range L.length).flatMap fun q=>(List.range (L.getD q []).length).map fun i=>(q,i)
theorem zkr {L:List (List It)} {q:Nat} (hq:q<L.length) (hi:i<(L.getD q []).length):(q,i)∈prs L:=CK.2 ⟨q,BF.2 hq,Bi.2 ⟨i,BF.2 hi,rfl⟩⟩
theorem zlR {G:Gr} {tw:Nat->Int->Nat} {L:List (List It)} {S:SS} {q:Nat} (h:¬(q<L.length/\i<(L.getD q []).length)):ps G tw L S (q,i)=S:=by
 have:(L.getD q [])[i]?=none:=by
  rw[List.getElem?_eq_none_iff];rcases Bz q L.length with hq|hq
  ·exact Nat.le_of_not_lt fun k=>h ⟨hq,k⟩
  ·rw[Ai,B6 hq];exact AX _
 unfold ps;simp only[this]
theorem znu {G:Gr} {tw:Nat->Int->Nat} {L:List (List It)} {S:SS} (p:Nat×Nat) {q:Nat} {x:It} {t:Nat} (hf:Fit L S) (h:At L S q x t):At L (ps G tw L S p) q x t:=by
 have key:∀(q':Nat) (sym:Int) (s:Nat) (ks:List Nat) (S1:SS),Fit L S1->At L S1 q x t->At L (ks.foldl (ps1 G L q' sym s) S1) q x t:=by
  intro q' sym s ks;induction ks with
  | nil=>exact fun _ _ h=>h
  | cons k ks ih =>
   intro S1 aa h1;rw[CZ];refine ih _ (zdz q' sym s S1 k aa).1 ?_;unfold ps1;split
   ·exact(zf5 aa).2 (.inl h1)
   ·exact h1
 unfold ps;split
 ·exact h
 ·split
  ·exact h
  ·split
   ·exact h
   ·split
    ·exact(zf5 hf).2 (.inl h)
    ·exact key _ _ _ _ _ (zcc hf _ _ _) ((zf5 hf).2 (.inl h))
section
variable {G:Gr} {K:List (List It)} {E:List (List (Int×Int))}
structure Run (G:Gr) (K:List (List It)) (E:List (List (Int×Int))) (S:SS):Prop where
 f:Fit (rowsL G K) S
 s:Snd G E (rowsL G K) S
 b:At (rowsL G K) S 0 (-1,0) G.ts.length
theorem Run.beg (hi:Inv G K E):Run G K E (zmR G (rowsL G K)):=⟨(zh9 hi).1,(zh9 hi).2.1,(zh9 hi).2.2⟩
theorem Run.ps {S:SS} (h:Run G K E S) (hi:Inv G K E) (hE:E.length=K.length) (aa:Ok G) (p:Nat×Nat):Run G K E (ps G (tow K E) (rowsL G K) S p) :=
 ⟨(znt S p h.f).1,zlQ aa (fun _ _ _ hx hs=>(zjA hi hE aa hx hs).1) S p h.f h.s,znu p h.f h.b⟩
theorem Run.all (hi:Inv G K E) (hE:E.length=K.length) (aa:Ok G):∀(l:List (Nat×Nat)) (S:SS),Run G K E S->Run G K E (l.foldl (Lk.ps G (tow K E) (rowsL G K)) S)
 | [],_,h=>h
 | p::l,_,h=>Run.all hi hE aa l _ (h.ps hi hE aa p)
theorem Run.done {S:SS} (h:Run G K E S) (hr:∀p∈prs (rowsL G K),Lk.ps G (tow K E) (rowsL G K) S p=S):Done G K E S:=⟨h.f,h.s,h.b,fun q i=>by
 by_cases c:q<(rowsL G K).length/\i<((rowsL G K).getD q []).length
 ·exact hr _ (zkr c.1 c.2)
 ·exact zlR c⟩
theorem znB {S:SS} {L:List (List It)} (hB:isB G=true) (hb:bld G=some (K,E)) (hd:Done G K E S) (aa:Ok G) (hL:rowsL G K=L):lkS G=(List.range K.length).map fun q=>zdR G (L.getD q []) (S.getD q []) (L.getD q []).length:=by
 have hi:=bld_inv hb;rw[lk_ok hB hb];refine DQ fun q hq=>?_;have hq:=BF.1 hq;rw[<-zl7 hd hi.1 hi.2.1 aa hq,<-hL,zaS hq]
theorem lkS_c2 {nu:List Bool} {f:List Nat} {L:List (List It)} {S:SS} (hB:isB G=true) (hb:bld G=some (K,E)) (aa:Ok G) (hL:rowsL G K=L) (h1:gn false G.rs G.ns.length=nu) (h2:fst G=f) (n:Nat) (hS:(List.replicate n (prs L)).flatten.foldl (psC nu f G (tow K E) L) (zmR G L)=S) (hr:∀p∈prs L,psC nu f G (tow K E) L S p=S):lkS G=(List.range K.length).map fun q=>zdR G (L.getD q []) (S.getD q []) (L.getD q []).length:=by
 have hi:=bld_inv hb;have hR:=Run.all hi.1 hi.2.1 aa (List.replicate n (prs L)).flatten _ (Run.beg hi.1);rw[hL,ps_c h1 h2,hS]at hR;exact znB hB hb (hR.done (by rw[hL,ps_c h1 h2];exact hr)) aa hL
end
end Lk
end Go.Proofs.YtjjbaehamplnaaaGreat
namespace Go.Proofs.YtjjbaehamplnaaaGreat
open Go.RowKit
def rd (L:List Int):Option (Gm.R Gm.Gr):=match zkb L with
 | .bad _ _=>none
 | .ok xs=>match Y.source xs with
  | .ok s _=>some (Gm.build s.1 s.2)
  | .bad _=>none
end Go.Proofs.YtjjbaehamplnaaaGreat
