/- Part of the proofs over this program: AuEdge, AuBuild, LkEnds, LkEnds2, LkOf, LookC, CfgRead. -/
import Derived.Test.YtcmhaemaophplaaGreatVM
namespace Go.Proofs.YtcmhaemaophplaaGreat
set_option maxRecDepth 100000
set_option maxHeartbeats 40000000
open Go.RowKit
theorem zgH {R M:Nat} {w w':World} {T:TypeId} {m n base:Nat} {v:Value} {xs:List Value} (h:w.ownsRow base T m v n xs) (hk:∀(g:Nat) (o:Obj),w.heap[g]?=some o->g≠R->g≠M->(∀cur fr,o ≠ .cells cur 56 fr)->(∀cur fr,o ≠ .cells cur 91 fr)->w'.heap[g]?=some o) (hR:∀cur,w.heap[R]? ≠ some (.cells cur T (0,0))) (hM:∀cur,w.heap[M]? ≠ some (.cells cur T (0,0))) (hT:T≠56) (hE:T≠91):w'.ownsRow base T m v n xs:=by
 refine⟨h.1,?_⟩;rcases h.2 with h0|⟨g,cap,cur,e,hb1,hg,hr⟩
 ·exact .inl h0
 ·exact .inr ⟨g,cap,cur,e,hb1,hk g _ hg (fun q=>hR cur (by rw[<-q];exact hg)) (fun q=>hM cur (by rw[<-q];exact hg)) (fun cur' fr q=>by injection q with _ q _;exact hT q) (fun cur' fr q=>by injection q with _ q _;exact hE q),hr⟩
theorem zf3 {R M:Nat} {w w':World} {base:Nat} {v:Value} {xs:List (Int×Int)} (h:aQ 91 2 prF w base v xs) (hk:KeepN R M w w') (hR:∀cur,w.heap[R]? ≠ some (.cells cur 91 (0,0))) (hM:∀cur,w.heap[M]? ≠ some (.cells cur 91 (0,0))):aQ 91 2 prF w' base v xs:=by
 refine⟨h.1,?_⟩;rcases h.2 with h0|⟨g,cap,cur,e,hb1,hg,hr⟩
 ·exact .inl h0
 ·exact .inr ⟨g,cap,cur,e,hb1,hk.keep g _ hg (fun q=>hR cur (by rw[<-q];exact hg)) (fun q=>hM cur (by rw[<-q];exact hg)) (fun cur' fr q=>by injection q with _ q _;exact absurd q (by decide)),hr⟩
structure KeepM (R M:Nat) (w w':World):Prop where
 size:w.heap.size<=w'.heap.size
 keep:∀(g:Nat) (o:Obj),w.heap[g]?=some o->g≠R->g≠M->(∀cur fr,o ≠ .cells cur 56 fr)->(∀cur fr,o ≠ .cells cur 91 fr)->w'.heap[g]?=some o
theorem KeepM.refl (R M:Nat) (w:World):KeepM R M w w:=⟨Nat.le_refl _,fun _ _ h _ _ _ _=>h⟩
theorem KeepM.trans {R M:Nat} {w w' w2:World} (h:KeepM R M w w') (k:KeepM R M w' w2):KeepM R M w w2:=⟨Nat.le_trans h.size k.size,fun g o h1 h2 h3 h4 h5=>k.keep g o (h.keep g o h1 h2 h3 h4 h5) h2 h3 h4 h5⟩
theorem KeepM.of {R M:Nat} {w w':World} (h:KeepN R M w w'):KeepM R M w w':=⟨h.size,fun g o h1 h2 h3 h4 _=>h.keep g o h1 h2 h3 h4⟩
theorem KeepM.own {R M:Nat} {w w':World} {base n:Nat} {v:Value} {xs:List Value} (h:w.ownsRow base 91 2 v n xs) (hg:w.grownBy w' v.ownBlock):KeepM R M w w':=⟨hg.size,fun _ _ h1 _ _ _ h5=>aJ h hg h1 fun cur=>h5 cur _⟩
theorem KeepN.ownAt {R M:Nat} {a w w':World} {base n m:Nat} {T:TypeId} {v:Value} {xs:List Value} (h:KeepN R M a w) (ho:w.ownsRow base T m v n xs) (hg:w.grownBy w' v.ownBlock) (hb:a.heap.size<=base):KeepN R M a w' :=
 ⟨Nat.le_trans h.size hg.size,fun g o h1 h2 h3 h4=>(hg.block g (Nat.lt_of_lt_of_le (Array.getElem?_eq_some_iff.1 h1).1 h.size) (fun e=>by have:=(World.ownsRow.lt ho g e.symm).1;have:=(Array.getElem?_eq_some_iff.1 h1).1;omega)).trans (h.keep g o h1 h2 h3 h4)⟩
theorem ABd.apart {w:World} {base R M NE:Nat} {g0 g1 g2 g3:Value} {qs:List QS} (h:ABd w base R M NE g0 g1 g2 g3 qs):(∀cur T,T≠102->w.heap[R]? ≠ some (.cells cur T (0,0)))/\∀cur T,w.heap[M]? ≠ some (.cells cur T (0,0)):=by
 obtain⟨⟨vS,h1,_⟩,⟨l,h3,_⟩,_,_⟩:=h;refine⟨fun cur T hT e=>?_,fun cur T=>h3.is.not_cells⟩;rw[h1]at e;injection e with e;injection e with _ e _;exact hT e.symm
theorem ABd.only {w w':World} {base R M NE D:Nat} {g0 g1 g2 g3:Value} {qs:List QS} (h:ABd w base R M NE g0 g1 g2 g3 qs) (hg:w.grownBy w' (some D)) (hD:∃es ck,w.heap[D]?=some (.map es ck)) (hM:D≠M):ABd w' base R M NE g0 g1 g2 g3 qs:=by
 obtain⟨es,ck,hD⟩:=hD;obtain⟨⟨vS,h1,h2⟩,⟨l,h3,h4⟩,h5,h6⟩:=h;have hb:∀(g:Nat) (o:Obj),w.heap[g]?=some o->g≠D->w'.heap[g]?=some o:=fun g o h hn=>(hg.block g (Array.getElem?_eq_some_iff.1 h).1 (fun e=>by injection e with e;exact hn e)).trans h;have hc:∀(g:Nat) (cur:Array Value) (T:TypeId),w.heap[g]?=some (.cells cur T (0,0))->w'.heap[g]?=some (.cells cur T (0,0)):=fun g cur T h=>hb g _ h fun e=>by rw[e,hD]at h;cases h
 refine⟨⟨vS,hc _ _ _ h1,?_,fun q hq=>((h2.2 q hq).keep fun g cur T _ h=>hc g cur T h).more hg.size (Nat.le_refl _)⟩,⟨l,h3.block ?_,h4⟩,h5,h6⟩
 ·exact World.ownsRow.kept h2.1 hg (zaf h2.1 hD fun cur e=>by cases e)
 ·exact hg.block _ h3.lt (fun e=>by injection e with e;exact hM e.symm)
theorem ABd.ownE {w w':World} {base R M NE b:Nat} {g0 g1 g2 g3:Value} {qs:List QS} {v:Value} {xs:List (Int×Int)} (h:ABd w base R M NE g0 g1 g2 g3 qs) (ho:aQ 91 2 prF w b v xs) (hg:w.grownBy w' v.ownBlock) (hb:NE<=b):ABd w' base R M NE g0 g1 g2 g3 qs:=by
 obtain⟨⟨vS,h1,h2⟩,⟨l,h3,h4⟩,h5,h6⟩:=h;have hc:∀(g:Nat) (cur:Array Value) (T:TypeId),T≠91->w.heap[g]?=some (.cells cur T (0,0))->w'.heap[g]?=some (.cells cur T (0,0)):=fun g cur T hT h=>aJ ho hg h fun cur=>aK hT;refine⟨⟨vS,hc _ _ _ (by decide) h1,?_,fun q hq=>((h2.2 q hq).keep fun g cur T hT h=>?_).more hg.size (Nat.le_refl _)⟩,⟨l,h3.block ?_,h4⟩,h5,h6⟩
 ·rcases h2.1.2 with h0|⟨g,cap,cur,e,hb1,hgg,hr⟩
  ·exact⟨h2.1.1,.inl h0⟩
  ·exact⟨h2.1.1,.inr ⟨g,cap,cur,e,hb1,hc _ _ _ (by decide) hgg,hr⟩⟩
 ·rcases hT with⟨rfl,_⟩|⟨rfl,hlt⟩
  ·exact hc _ _ _ (by decide) h
  ·exact(hg.block g (Array.getElem?_eq_some_iff.1 h).1 (fun e=>by have:=(World.ownsRow.lt ho g e.symm).1;omega)).trans h
 ·obtain⟨es,ck,hm,_⟩:=h3;exact(aJ ho hg hm fun cur e=>by cases e).trans hm.symm
open Go.ChangeShapes Go.WideShapes Go.Deep Go.RowKit Go.Joins in
theorem zdI {a w:World} {D:Nat} (h:a.grownBy w (some D)) (hD:∃es ck,a.heap[D]?=some (.map es ck)) {p:Addr} {u:Value} (hc:a.cell? p=some u):w.cell? p=some u:=by
 obtain⟨es,ck,hD⟩:=hD
 have hne:some p.block≠some D:=fun e=>by
  injection e with e;unfold World.cell? at hc;rw[e,hD]at hc;cases hc
 rw[World.cell?_of_block (h.block p.block (block_lt_of_cell hc) hne)];exact hc
theorem ziV {G:Gm.Gr} {cl:List Au.It} {p:List (List Au.It)×List (Int×Int)} {s:Int} {qs:List QS} (A:Option Addr) (c:Nat) (hp:bE qs=p.1) (hne:Au.mv G cl s≠[]):Au.edge G cl p s=(bE (zhZ qs (Au.mv G cl s) A c),p.2++[(s,ziA qs (Au.mv G cl s))]):=by
 unfold Au.edge zhZ ziA;rw[if_neg hne,hp];by_cases h:Au.fnd p.1 (Au.mv G cl s)<0
 ·rw[if_neg (by omega),if_pos h,if_pos h];have e:p.1.length=qs.length:=by rw[<-hp];unfold bE;rw[List.length_map]
  rw[e,<-hp];unfold bE bV;rw[List.map_append];rfl
 ·rw[if_pos (by omega),if_neg h,if_neg h,hp]
theorem zkc (qs new:List QS) (k:List Au.It) (A:Option Addr) (c:Nat) (h:∀q∈new,q.2.1=[]):∃new',zhZ (qs++new) k A c=qs++new'/\(∀q∈new',q.2.1=[])/\new'.length<=new.length+1:=by
 unfold zhZ;split
 ·refine⟨new++[bV k A c],by rw[List.append_assoc],fun q hq=>?_,by simp⟩;rcases List.mem_append.1 hq with hq|hq
  ·exact h q hq
  ·rw[List.mem_singleton.1 hq];rfl
 ·exact⟨new,rfl,h,by omega⟩
theorem zgS {T:TypeId} (x:Int×Int) (w:World) (g:Nat) (hb:w.heap[g]?=some (.cells #[.int .i64 x.1,.int .i64 x.2] T (0,0))):∀j u,(prF x)[j]?=some u->w.cell? ⟨g,j,none⟩=some u:=fun j u hu=>by
 refine(cell_of_row w g j _ _ _ hb).trans ?_
 match j,hu with
 | 0,hu=>exact hu
 | 1,hu=>exact hu
 | j+2,hu=>simp[prF]at hu
def zeH (G:Gm.Gr) (w:World) (base R M NE:Nat) (g0 g1 g2 g3:Value) (qs:List QS) (k:List Au.It) (e:Ending) (w':World):Prop :=
 ∃v new,e=.returned v/\aQ 91 2 prF w' w.heap.size v (Au.edges G (Au.clo G k) (bE qs,[]) (Au.syms G)).2/\bE (qs++new)=(Au.edges G (Au.clo G k) (bE qs,[]) (Au.syms G)).1/\(∀q∈new,q.2.1=[])/\ABd w' base R M NE g0 g1 g2 g3 (qs++new)/\Below base w w'/\KeepN R M w w'
theorem zgb (G:Gm.Gr) (w:World) (base R M NE B:Nat) (AT AN AR:Option Addr) (cT cN cR:Nat) (qs:List QS) (k:List Au.It) (A:Option Addr) (c:Nat)
  (hg:aT w B (.agg #[.slice AT G.ts.length cT,.slice AN G.ns.length cN,.slice AR G.rs.length cR,.int .i64 G.st]) G) (hf:Gm.Fit G) (hok:Gm.Ok G) (hB:B<=base)
  (h:ABd w base R M NE (.slice AT G.ts.length cT) (.slice AN G.ns.length cN) (.slice AR G.rs.length cR) (.int .i64 G.st) qs) (hk:zmu 60 w base w.heap.size (k,A,c)) (hi:∀x∈k,Au.isI G x=true) (hl:k.length<=1000) (hq:qs.length<=1000) (hE:NE<=w.heap.size) :
  Calls Tryz.prog 47 #[.pointer (some ⟨R,0,none⟩),.slice A k.length c] w (zeH G w base R M NE (.slice AT G.ts.length cT) (.slice AN G.ns.length cN) (.slice AR G.rs.length cR) (.int .i64 G.st) qs k):=by
 have HG:=aA hg;have HF:=aA hf;have HOK:=aA hok;have HBB:=aA hB;have HH:=aA h;have HK:=aA hk;have HI:=aA hi;have HQ:=aA hq;have HBL:=aA h.base_le;have HNE:=aA hE;have hmm:=fun t w=>run_makeMap (P:=Tryz.prog) t w;obtain⟨w1,hw1⟩:∃y,y=w.alloc (.map #[] 0):=⟨_,rfl⟩
 have hs1:w1.heap.size=w.heap.size+1:=by rw[hw1];simp
 have HB1:Hid (Below w.heap.size w w1):=aA (by rw[hw1];exact(Below.refl _ _).alloc (Nat.le_refl _) _);have HD1:Hid (Mw.MapIs zfU w1 w.heap.size []):=aA (by rw[hw1];exact Mw.MapIs.made zfU w);have HH1:=aA (h.below HB1.o)
 have HCL:=aA (zgc _ G B k A c w.heap.size w1 (hg.below HB1.o (Nat.le_trans hB h.base_le)) hf hok (Nat.le_trans hB (Nat.le_trans h.base_le HB1.o.size)) (hk.2.2.rd.below HB1.o (Nat.le_refl _)) HB1.o.size (fun x hx=>by
  have hx:=Au.isI_iff.1 (hi x hx)
  have:=Au.sy_le hok (Au.rls_mem.2 hx.1)
  have:=hok.r40
  unfold Gm.In
  omega) hl)
 rw[List.filter_eq_self.2 hi]at HCL;have HCI:Hid (∀x∈Au.clo G k,Au.isI G x=true):=aA (fun x hx=>Au.clo_is hx);have HCS:Hid ((Au.clo G k).length<=287):=aA (Au.clo_le2 hok hok.r40 k);obtain⟨⟨vS,h1,h2⟩,_⟩:=HH1.o;have r0:w1.cell? ⟨R,0,none⟩=some (.slice AT G.ts.length cT):=cell_of_row w1 R 0 _ _ _ h1;have r1:w1.cell? ⟨R,1,none⟩=some (.slice AN G.ns.length cN):=cell_of_row w1 R 1 _ _ _ h1;have r2:w1.cell? ⟨R,2,none⟩=some (.slice AR G.rs.length cR):=cell_of_row w1 R 2 _ _ _ h1;have r3:w1.cell? ⟨R,3,none⟩=some (.int .i64 G.st):=cell_of_row w1 R 3 _ _ _ h1;unfold zeH;generalize hcl:Au.clo G k=cl at *;clear hg hf hok hB h hk hi hq h1 h2 hcl hE
 go_enter Tryz.func47,Tryz.ntmps47
 go_upto_region 2 with fail
 rw[<-hw1];clear hw1;go_wp2_with fail
 refine HCL.o.mono ?_;rintro _ w2 ⟨v2,rfl,ho2,hb2⟩;obtain⟨A2,c2,rfl,hlc,hmc,hrd⟩:=aQ.form ho2 aN;have HRD:=aA hrd;have HB2:=aA hb2;have HH2:=aA (HH1.o.below hb2);have HD2:Hid (Mw.MapIs zfU w2 w.heap.size []):=aA (HD1.o.block (hb2.block _ HD1.o.lt));have HM2:Hid (MvSt G w2 w2.heap.size w.heap.size (cl.take 0)):=aA (MvSt.start G w2 _ HD2.o);have HZ2:Hid (w.heap.size<w2.heap.size):=aA HD2.o.lt;have hclI:(cl.length:Int)<=287:=by have:=HCS.o;omega
 clear ho2 hb2 hrd r0 r1 r2 r3 hlc hmc hs1 hmm;obtain⟨D,hDe⟩:∃D,D=w.heap.size:=⟨_,rfl⟩
 have HDE:=aA hDe;go_wp2;go_loopw [23] (fun vi wr=>∃i:Nat,i<=cl.length/\vi=.int .i64 i/\Hid (MvSt G wr w2.heap.size w.heap.size (cl.take i))/\Hid (w2.grownBy wr (some w.heap.size))) (fun vi _=>cl.length-(intOf vi).toNat)
 case atStart=>exact⟨0,Nat.zero_le _,rfl,HM2,aA (World.grownBy.refl _ _)⟩
 case round =>
  obtain⟨i,hi,rfl,HM,HW⟩:=hrel;by_cases hlt:i<cl.length
  ·obtain⟨g,o,rfl,hgB,hc⟩:=HRD.o (by omega);obtain⟨es2,ck2,hDm,_⟩:=HD2.o;have hDX:∃es ck,w2.heap[w.heap.size]?=some (.map es ck):=⟨es2,ck2,hDm⟩
   have k0:wr.cell? ⟨g,o+i*2,none⟩=some (.int .i64 (cl[i]).1):=zdI HW.o hDX (hc i hlt 0 _ rfl);have k1:wr.cell? ⟨g,o+i*2+1,none⟩=some (.int .i64 (cl[i]).2):=zdI HW.o hDX (hc i hlt 1 _ rfl);have HII:Hid (Au.isI G cl[i]=true):=aA (HCI.o _ (List.getElem_mem hlt));have HTK:Hid (cl.take (i+1)=cl.take i++[cl[i]]):=aA (List.take_succ_eq_append_getElem hlt);have HB12:Hid (Below w.heap.size w w2):=aA (HB1.o.trans (HB2.o.mono HB1.o.size));have HWB:Hid (Below w.heap.size w wr):=aA (zaa HB12.o HW.o (Nat.le_refl _) HB12.o.size);obtain⟨⟨vS,h1,h2⟩,_⟩:=HH2.o;have hRD:R≠w.heap.size:=fun e=>by rw[e,hDm]at h1;cases h1
   have h1r:=(HW.o.block R (Array.getElem?_eq_some_iff.1 h1).1 (fun e=>by injection e with e;exact hRD e)).trans h1;obtain⟨wi,hwi⟩:∃y,y=wr.alloc (.cells #[.int .i64 (cl[i]).1,.int .i64 (cl[i]).2] 60):=⟨_,rfl⟩
   have HBI:Hid (Below wr.heap.size wr wi):=aA (by rw[hwi];exact(Below.refl _ _).alloc (Nat.le_refl _) _);have hbi:wi.heap[wr.heap.size]?=some (.cells #[.int .i64 (cl[i]).1,.int .i64 (cl[i]).2] 60 (0,0)):=by rw[hwi];exact heap_alloc_new wr _
   have HBIX:=aA hbi;have HRX:=aA (aC HBI.o h1r);have HNX:=aA (fun(y:World) (h:Below wi.heap.size wi y)=>zcL _ G B cl[i] y (HG.o.below (HWB.o.trans ((HBI.o.trans (h.mono HBI.o.size)).mono HWB.o.size)) (Nat.le_trans HBB.o HBL.o)) HF.o (Nat.le_trans (Nat.le_trans HBB.o HBL.o) (Nat.le_trans HWB.o.size (Nat.le_trans HBI.o.size h.size))));have HNP:=aA (Au.nxP_is HII.o);have HNI:=aA (fun s (h:Au.nx G cl[i]=some s)=>Au.nx_in HOK.o HII.o h);have HIX:=aA (Au.isI_iff.1 HII.o);have HSL:=aA (Au.sy_le HOK.o (Au.rls_mem.2 HIX.o.1));have HML:=aA (fun s=>Au.mv_le G (cl.take i) s);clear hc hgB hDX hDm h1 h2 h1r hbi HII;generalize cl[i]=x at *;go_upto_region 5 with fail
   rw[<-hwi];clear hwi k0 k1;have z0:∀z:Calm.On wi.heap.size wi,z.1.cell? ⟨R,0,none⟩=some (.slice AT G.ts.length cT):=fun z=>cell_of_row z.1 _ 0 _ _ _ (aC z.2 HRX.o);have z1:∀z:Calm.On wi.heap.size wi,z.1.cell? ⟨R,1,none⟩=some (.slice AN G.ns.length cN):=fun z=>cell_of_row z.1 _ 1 _ _ _ (aC z.2 HRX.o);have z2:∀z:Calm.On wi.heap.size wi,z.1.cell? ⟨R,2,none⟩=some (.slice AR G.rs.length cR):=fun z=>cell_of_row z.1 _ 2 _ _ _ (aC z.2 HRX.o);have z3:∀z:Calm.On wi.heap.size wi,z.1.cell? ⟨R,3,none⟩=some (.int .i64 G.st):=fun z=>cell_of_row z.1 _ 3 _ _ _ (aC z.2 HRX.o);have q0:∀z:Calm.On wi.heap.size wi,z.1.cell? ⟨wr.heap.size,0,none⟩=some (.int .i64 x.1):=fun z=>cell_of_row z.1 _ 0 _ _ _ (aC z.2 HBIX.o);have q1:∀z:Calm.On wi.heap.size wi,z.1.cell? ⟨wr.heap.size,1,none⟩=some (.int .i64 x.2):=fun z=>cell_of_row z.1 _ 1 _ _ _ (aC z.2 HBIX.o);have HS0:Hid (∃z:Calm.On wi.heap.size wi,wi.drew=z.1):=aA ⟨⟨wi.drew,aB (Below.refl _ _) 1⟩,rfl⟩;refine CalmN.region_tree (fun x=>∃z:Calm.On wi.heap.size wi,x=z.1) (.one [0,1,2,3,4] 5 (.fin [6,7,8,9,10])) (by kernel_rfl) (by kernel_rfl) (fun _ _ d _ _ h=>by cases d <;> exact h) HS0.o ?_;simp only[CalmN.wpT,CalmN.wpSt,CalmN.pickOps,List.getElem?_toArray,List.getElem?_cons_zero,List.getElem?_cons_succ];repeat (go_big_quiet_step (fail))
   refine wpQuiet_nil ?_;intro KK hKK;rw[if_pos (by rfl)];go_wp2_with fail
   refine(HNX.o wi.drew (aB (Below.refl _ _) 1)).mono ?_;rintro _ w3 ⟨rfl,hb3⟩;have hb3:Below wi.heap.size wi w3:=(aB (Below.refl _ wi) 1).trans hb3;have HS3:Hid (∃z:Calm.On wi.heap.size wi,w3=z.1):=aA ⟨⟨w3,hb3⟩,rfl⟩;have HB3:Hid (Below wr.heap.size wr w3):=aA (HBI.o.trans (hb3.mono HBI.o.size));have HM3:=aA (HM.o.below HB3.o);have HW3:Hid (w2.grownBy w3 (some w.heap.size)):=aA (zac HW.o (aM HB3.o _));have HBX3:=aA (aC hb3 HBIX.o);rw[HNP.o];clear hb3 z0 z1 z2 z3 q0 q1 HNX HS0 HNP;cases hq:Au.nx G x with
   | none =>
    have HX:=aA (HM3.o.skip hq);clear hq;go_wp2_with fail
    refine hKK _ _ HS3.o _ (fun _ h=>h) HS3.o ?_;clear hKK;repeat (go_big_quiet_step (fail))
    refine wpQuiet_nil ?_;go_wp2;go_roundw
    case rel=>exact⟨i+1,hlt,by go_num,aA (by rw[HTK.o];exact HX.o),HW3⟩
    case measure=>simp[intOf];omega
   | some s =>
    have hsI:=HNI.o s hq;have hsb:=Gm.has_iff.1 (Au.syms_mem.1 hsI);have hns:=(Gm.nons_iff G).1 HOK.o.n;have HSIN:Hid (Gm.In s):=aA (by unfold Gm.In;have:=(Gm.terms_iff G.ts).1 HOK.o.t;omega);have hx2:IntKind.i64.wrap (x.2+1)=x.2+1:=IntWalk.i64_in _ (by have:=HIX.o;have:=HSL.o;omega);obtain⟨ml,hmm,hmv,hmd⟩:=HM3.o.m;have hkey:zfU.enc s=.int .i64 s:=rfl;have lk:=Mw.run_look (E:=zfU) hmm zkN (t:=140) Tryz.underlying140 (z:=.slice none 0 0) (by kernel_rfl) (x:=s) HSIN.o false;rw[hkey]at lk;simp only[Bool.false_eq_true,if_false]at lk;have HST:=aA (fun(y:World) (hy:Mw.MapIs zfU y w.heap.size ml) (u:Value)=>Mw.run_put (x:=s) hy zkN Tryz.underlying140 HSIN.o u)
    have hown:aQ 60 2 prF w3 w2.heap.size ((Mw.asc ml s).getD (.slice none 0 0)) (Au.mv G (cl.take i) s):=by
     rcases hmv s with q|⟨v,p1,p2,p3⟩
     ·rw[q.1,q.2];exact aQ.nil _ _
     ·rw[p1];exact p3
    have HOWN:=aA hown;have HVE:Hid ((Mw.asc ml s).getD (.slice none 0 0)=(Mw.asc ml s).getD (.slice none 0 0)):=aA rfl;generalize hv:(Mw.asc ml s).getD (.slice none 0 0)=v at *;have HV:=aA hv;have HMM:=aA hmm;have HMV:=aA hmv;have HMD:=aA hmd;have HXS:=aA hq;have x0:w3.cell? ⟨wr.heap.size,0,none⟩=some (.int .i64 x.1):=cell_of_row w3 _ 0 _ _ _ HBX3.o;have x1:w3.cell? ⟨wr.heap.size,1,none⟩=some (.int .i64 x.2):=cell_of_row w3 _ 1 _ _ _ HBX3.o;have HLN:=aA (show(Au.mv G (cl.take i) s).length<=1000 by have:=HML.o s;have h2:=List.length_take_le i cl;have:=HCS.o;rw[List.length_take]at *;omega);have HOW1:=aA (HOWN.o.alloc (.cells #[.int .i64 x.1,.int .i64 (x.2+1)] 60));have HW3a:Hid (w2.grownBy (w3.alloc (.cells #[.int .i64 x.1,.int .i64 (x.2+1)] 60)) (some w.heap.size)):=aA (aG HW3.o _);obtain⟨es3,ck3,hDb,hDr⟩:=HMM.o;have hDa:=(Below.heap_alloc w3 (.cells #[.int .i64 x.1,.int .i64 (x.2+1)] 60) w.heap.size (Array.getElem?_eq_some_iff.1 hDb).1).trans hDb;have HDA:=aA hDa;have HDR:=aA hDr;have HNEW:=aA (heap_alloc_new w3 (.cells #[.int .i64 x.1,.int .i64 (x.2+1)] 60));have hsome:(some s:Option Int).isSome=true:=rfl;obtain⟨Av,nv,cv,hvs⟩:∃A n c,v=.slice A n c:=by obtain⟨A,c,e,_⟩:=aQ.form hown aN;exact⟨A,_,c,e⟩
    clear hq hsI hsb hns hmm hmv hmd hv hown hDb hDa hDr;go_wp2_with fail
    refine hKK _ _ HS3.o _ (fun _ h=>h) HS3.o ?_;clear hKK;repeat (go_big_quiet_step (fail))
    refine wpQuiet_nil ?_;subst hvs;have HSZ:Hid (w2.heap.size<=w3.heap.size):=aA HW3.o.size
    go_wp2_with (first
     | (at_builtin;refine zd1 (f:=prF) rfl (.tmp 41) (.tmp 48) _ rfl Tryz.underlying52 _ 16 zjm (by decide) (by decide) (by decide) aN zdF w2.heap.size _ (Au.mv G (cl.take i) s) rfl HOW1.o _ _ (x.1,x.2+1) rfl (zeS (x.1,x.2+1) _ _ HNEW.o) (by have:=HLN.o;omega) HW3a.o.size ?_;intro v5 w5 ho5 hg5 hat5;have hd5:=aJ HOW1.o hg5 HDA.o (fun cur e=>by cases e);have hst:=HST.o w5 ⟨_,_,hd5,HDR.o⟩ v5)
     | (at_mapUpdate;refine Mw.wpList_store rfl _ _ _ _ rfl hst rfl rfl rfl ?_;rintro w6 ⟨hm6,hg6⟩))
    have HG5:Hid (w3.grownBy w5 (Value.slice Av nv cv).ownBlock):=aA (by
     have h1:w3.grownBy (w3.alloc (.cells #[.int .i64 x.1,.int .i64 (x.2+1)] 60)) (Value.slice Av nv cv).ownBlock:=aG (World.grownBy.refl _ _) _;exact zac h1 hg5)
    have hat:v5.ownBlock=(Value.slice Av nv cv).ownBlock \/ ∃j,w3.heap.size<=j/\v5.ownBlock=some j:=hat5.imp id fun e=>⟨_,by simp,e⟩
    have HM6:=aA (MvSt.put HXS.o HMV.o HMD.o HV.o.symm ho5 HG5.o hat hm6 hg6 ⟨_,_,hd5⟩);have HW6:Hid (w2.grownBy w6 (some w.heap.size)):=aA (zac (zit HW3a.o HOW1.o hg5 (Nat.le_refl _)) hg6);clear ho5 hg5 hat5 hd5 hm6 hg6 hat lk x0 x1;go_roundw
    case rel=>exact⟨i+1,hlt,by go_num,aA (by rw[HTK.o];exact HM6.o),HW6⟩
    case measure=>simp[intOf];omega
  ·obtain rfl:i=cl.length:=by omega
   rw[List.take_length]at HM;obtain⟨es2,ck2,hDm,_⟩:=HD2.o
   have HDM:Hid (w.heap.size≠M):=aA (by
    obtain⟨_,⟨l,h3,_⟩,_⟩:=HH.o
    have:=h3.lt
    omega)
   have HH3:=aA (HH2.o.only HW.o ⟨es2,ck2,hDm⟩ HDM.o);have HB12:Hid (Below w.heap.size w w2):=aA (HB1.o.trans (HB2.o.mono HB1.o.size));have HWB:Hid (Below w.heap.size w wr):=aA (zaa HB12.o HW.o (Nat.le_refl _) HB12.o.size);obtain⟨wo,hwo⟩:∃wo:World,wo=wr:=⟨_,rfl⟩
   subst hwo;obtain⟨⟨vS,h1,h2⟩,_⟩:=HH3.o;have r0:wo.cell? ⟨R,0,none⟩=some (.slice AT G.ts.length cT):=cell_of_row wo R 0 _ _ _ h1;have r1:wo.cell? ⟨R,1,none⟩=some (.slice AN G.ns.length cN):=cell_of_row wo R 1 _ _ _ h1;have r2:wo.cell? ⟨R,2,none⟩=some (.slice AR G.rs.length cR):=cell_of_row wo R 2 _ _ _ h1;have r3:wo.cell? ⟨R,3,none⟩=some (.int .i64 G.st):=cell_of_row wo R 3 _ _ _ h1;have htn:=(Gm.terms_iff G.ts).1 HOK.o.t;have hnn:=(Gm.nons_iff G).1 HOK.o.n;have HSY:=aA (zhV _ G B wo (HG.o.below HWB.o (Nat.le_trans HBB.o HBL.o)) (by omega) (by omega));have HSN:Hid ((Au.syms G).length<=40):=aA (by rw[Au.syms_len];omega)
   have HSI:Hid (∀s∈Au.syms G,Gm.In s):=aA (fun s hs=>by
    have:=Gm.has_iff.1 (Au.syms_mem.1 hs)
    unfold Gm.In;omega)
   generalize hsy:Au.syms G=sy at *;have HSE:=aA hsy;clear h1 h2 hDm htn hnn hsy;go_wp2_with fail
   refine HSY.o.mono ?_;rintro _ w4 ⟨v4,rfl,ho4,hb4⟩;obtain⟨A4,c4,rfl,hlc,hmc,_⟩:=aU.form ho4;have HB4:=aA hb4;have HO4:=aA ho4;have HH4:=aA (HH3.o.below hb4);have HM4:=aA (HM.o.below hb4);have HW4:Hid (Below w.heap.size w w4):=aA (HWB.o.trans (hb4.mono HWB.o.size));have hsyI:(sy.length:Int)<=40:=by have:=HSN.o;omega
   have HKN4:Hid (KeepN R M w w4):=aA (.below HW4.o);clear ho4 hb4 r0 r1 r2 r3 hlc hmc;go_wp2;go_loopw [10,57] (fun vl vi wr=>∃(j:Nat) (new:List QS),j<=sy.length/\vi=.int .i64 j/\new.length<=j/\Hid (aQ 91 2 prF wr w.heap.size vl (Au.edges G cl (bE qs,[]) (sy.take j)).2)/\Hid (bE (qs++new)=(Au.edges G cl (bE qs,[]) (sy.take j)).1)/\Hid (∀q∈new,q.2.1=[])/\Hid (ABd wr base R M NE (.slice AT G.ts.length cT) (.slice AN G.ns.length cN) (.slice AR G.rs.length cR) (.int .i64 G.st) (qs++new))/\Hid (Below base w wr)/\Hid (KeepN R M w wr)/\Hid (KeepM R M w4 wr)/\Hid ((Au.edges G cl (bE qs,[]) (sy.take j)).2.length<=j)) (fun _ vi _=>sy.length-(intOf vi).toNat)
   case atStart=>exact⟨0,[],Nat.zero_le _,rfl,Nat.le_refl _,aA (by simpa[Au.edges] using aQ.nil _ _),aA (by simp[Au.edges]),aA (by simp),by simpa using HH4,aA (HW4.o.mono HBL.o),HKN4,aA (KeepM.refl _ _ _),aA (by simp[Au.edges])⟩
   case round =>
    obtain⟨j,new,hj,rfl,hnj,HL,HP,HN,HA,HWR,HKN,HKM,HLE⟩:=hrel;obtain⟨Al,cl',rfl,_,_,_⟩:=aQ.form HL.o aN;by_cases hlt:j<sy.length
    ·have hap:=HH4.o.apart;have ho4:aU wr wo.heap.size (.slice A4 sy.length c4) sy:=zgH HO4.o HKM.o.keep (fun cur=>hap.1 cur _ (by decide)) (fun cur=>hap.2 cur _) (by decide) (by decide);obtain⟨A4',c4',he4,_,_,hrd⟩:=aU.form ho4;injection he4 with he41 he42 he43;subst he41;clear he42 he43;obtain⟨g,o,rfl,hgB,hc⟩:=hrd (by omega);have k0:=hc j hlt;rw[L.gd_lt hlt]at k0;obtain⟨ml0,hm0,_⟩:=HM4.o.m;obtain⟨es4,ck4,hD4,_⟩:=hm0
     have hDR:w.heap.size≠R:=fun e=>by
      obtain⟨⟨vS,h1,_⟩,_⟩:=HH4.o;rw[<-e,hD4]at h1;cases h1
     have hDr:=HKM.o.keep _ _ hD4 hDR HDM.o (fun cur fr e=>by cases e) (fun cur fr e=>by cases e);have HMr:=aA (HM4.o.keep (hDr.trans hD4.symm) (fun g cur _ hg=>HKM.o.keep g _ hg (fun e=>hap.1 cur 60 (by decide) (by rw[<-e];exact hg)) (fun e=>hap.2 cur 60 (by rw[<-e];exact hg)) (fun cur' fr e=>by injection e with _ e _;exact absurd e (by decide)) (fun cur' fr e=>by injection e with _ e _;exact absurd e (by decide))));have HTK:Hid (Au.edges G cl (bE qs,[]) (sy.take (j+1))=Au.edge G cl (Au.edges G cl (bE qs,[]) (sy.take j)) sy[j]):=aA (by rw[List.take_succ_eq_append_getElem hlt,Au.edges_snoc]);have HSIN:Hid (Gm.In sy[j]):=aA (HSI.o _ (List.getElem_mem hlt));obtain⟨ml,hmm,hmv,_⟩:=HMr.o.m;have hkey:zfU.enc sy[j]=.int .i64 sy[j]:=rfl;have lk:=Mw.run_look (E:=zfU) hmm zkN (t:=140) Tryz.underlying140 (z:=.slice none 0 0) (by kernel_rfl) (x:=sy[j]) HSIN.o true;rw[hkey]at lk;have hmvs:=hmv sy[j];generalize sy[j]=s at *;generalize Au.edges G cl (bE qs,[]) (sy.take j)=p at *;clear hc hgB hD4 hDr hmm hmv hap ho4 hrd hkey;rcases hmvs with⟨e1,e2⟩|⟨v,e1,e2,e3⟩
     ·rw[e1]at lk;simp at lk;have HE:Hid (Au.edge G cl p s=p):=aA (by unfold Au.edge;rw[if_pos e2]);clear e1 e2;go_wp2;go_roundw
      case rel=>exact⟨j+1,new,hlt,by go_num,by omega,aA (by rw[HTK.o,HE.o];exact HL.o),aA (by rw[HTK.o,HE.o];exact HP.o),HN,HA,HWR,HKN,HKM,aA (by rw[HTK.o,HE.o];have:=HLE.o;omega)⟩
      case measure=>simp[intOf];omega
     ·rw[e1]at lk;simp at lk;obtain⟨Av,cv,rfl,hlv,hmxv,_⟩:=aQ.form e3 aN;have hmi:∀x∈Au.mv G cl s,Au.isI G x=true:=fun x hx=>Au.mv_is HCI.o hx;have HME:=aA (ziV (qs:=qs++new) Av cv HP.o e2);have HNU:=aA (zcg wr base R M NE _ _ _ _ (qs++new) (Au.mv G cl s) Av cv HA.o ⟨hlv,by unfold maxLen at hmxv;omega,(aQ.rowP e3).less (Nat.le_trans (Nat.le_trans HBL.o HB12.o.size) (Nat.le_refl _))⟩ (Au.txt_in HOK.o HOK.o.r40 hmi) (by have:=Au.mv_le G cl s;have:=HCS.o;omega) (by have:=HQ.o;rw[List.length_append];have:=HSN.o;omega));obtain⟨new',hn1,hn2,hn3⟩:=zkc qs new (Au.mv G cl s) Av cv HN.o;rw[hn1]at HNU HME;have HN2:=aA hn2;have HLV:Hid (p.2.length<=1000):=aA (by have:=HLE.o;omega);generalize ziA (qs++new) (Au.mv G cl s)=num at *;generalize (Au.mv G cl s).length=nv at *;clear e1 e2 e3 hmi hn1 hn2 hlv hmxv;go_wp2_with fail
      refine HNU.o.mono ?_;rintro _ w5 ⟨rfl,ha5,hb5,hk5⟩;have hap:=HA.o.apart;have hl5:=zf3 HL.o hk5 (fun cur=>hap.1 cur _ (by decide)) (fun cur=>hap.2 cur _);have HA5:=aA (ha5.below ((Below.refl w5.heap.size w5).alloc (Nat.le_refl _) (.cells #[.int .i64 s,.int .i64 num] 91)));have HB5:Hid (Below base w (w5.alloc (.cells #[.int .i64 s,.int .i64 num] 91))):=aA ((HWR.o.trans hb5).alloc (Nat.le_trans HBL.o (Nat.le_trans HKN.o.size hk5.size)) _);have HK5:Hid (KeepN R M w (w5.alloc (.cells #[.int .i64 s,.int .i64 num] 91))):=aA ((HKN.o.trans hk5).trans (.below ((Below.refl w5.heap.size w5).alloc (Nat.le_refl _) _)));have HKM5:Hid (KeepM R M w4 (w5.alloc (.cells #[.int .i64 s,.int .i64 num] 91))):=aA ((HKM.o.trans (.of hk5)).trans (.of (.below ((Below.refl w5.heap.size w5).alloc (Nat.le_refl _) _))));have HL5:=aA (hl5.alloc (.cells #[.int .i64 s,.int .i64 num] 91));have HNEW:=aA (heap_alloc_new w5 (.cells #[.int .i64 s,.int .i64 num] 91));clear ha5 hb5 hk5 hl5 hap;go_wp2_with (at_builtin;refine zhS (f:=prF) rfl (.tmp 68) (.tmp 74) _ rfl Tryz.underlying54 _ 16 zlT (by decide) (by decide) (by decide) aN zdF w.heap.size _ p.2 rfl HL5.o _ _ (s,num) rfl (zgS (s,num) _ _ HNEW.o) (by have:=HLV.o;omega) HK5.o.size ?_;intro v6 w6 ho6 hg6)
      have HA6:=aA (HA5.o.ownE HL5.o hg6 HNE.o);have HB6:Hid (Below base w w6):=aA (HB5.o.grown hg6 (Nat.le_trans HBL.o HK5.o.size) (fun k e=>Nat.le_trans HBL.o (World.ownsRow.lt HL5.o k e).1));have HK6:=aA (HK5.o.ownAt HL5.o hg6 (Nat.le_refl _));have HKM6:=aA (HKM5.o.trans (.own HL5.o hg6));have HO6:=aA ho6;clear ho6 hg6 lk k0;go_roundw
      case rel=>exact⟨j+1,new',hlt,by go_num,by omega,aA (by rw[HTK.o,HME.o];exact HO6.o),aA (by rw[HTK.o,HME.o]),HN2,HA6,HB6,HK6,HKM6,aA (by rw[HTK.o,HME.o];have:=HLE.o;simp;omega)⟩
      case measure=>simp[intOf];omega
    ·obtain rfl:j=sy.length:=by omega
     generalize (Au.edges G cl (bE qs,[]) (sy.take sy.length)).2.length=nl at *;rw[List.take_length]at HL HP;generalize hp:Au.edges G cl (bE qs,[]) sy=p at *;have HPE:=aA hp;clear hp;go_wp2;go_ret
     exact⟨_,new,rfl,by rw[HSE.o,HPE.o];exact HL.o,by rw[HSE.o,HPE.o];exact HP.o,HN.o,HA.o,HWR.o,HKN.o⟩
namespace Au
noncomputable def bldE (G:Gm.Gr):Int:=if Gm.isB G=true then(if(bld G).isSome=true then 0 else 5) else 1
noncomputable def bldS (G:Gm.Gr):List StT:=if Gm.isB G=true then(match bld G with|some p=>p.1.zip p.2|none=>[]) else []
theorem bld_no {G:Gm.Gr} (h:Gm.isB G=false):bldE G=1/\bldS G=[]:=by unfold bldE bldS;rw[h];exact⟨rfl,rfl⟩
theorem bld_many {G:Gm.Gr} (h:Gm.isB G=true) (k:bld G=none):bldE G=5/\bldS G=[]:=by unfold bldE bldS;rw[h,k];exact⟨rfl,rfl⟩
theorem bld_ok {G:Gm.Gr} {ks:List (List It)} {es:List (List (Int×Int))} (h:Gm.isB G=true) (k:bld G=some (ks,es)):bldE G=0/\bldS G=ks.zip es:=by unfold bldE bldS;rw[h,k];exact⟨rfl,rfl⟩
end Au
theorem Gm.isB_right {G:Gm.Gr} (h:Gm.isB G=true):Gm.right G=true:=by
 cases hr:Gm.right G
 ·unfold Gm.isB at h;rw[Gm.rdE_no hr]at h;cases h
 ·rfl
def zjG (G:Gm.Gr) (w:World) (e:Ending) (w':World):Prop :=
 ∃A c,e=.returned (.tuple #[.slice A (Au.bldS G).length c,.int .i64 (Au.bldE G)])/\(Au.bldS G).length<=c/\c<=9223372036854775807/\zdm w' w'.heap.size A (Au.bldS G)/\Below w.heap.size w w'
theorem zjG.nil {G:Gm.Gr} {w w':World} {er:Int} (h:Au.bldE G=er/\Au.bldS G=[]) (hb:Below w.heap.size w w'):zjG G w (.returned (.tuple #[.slice none 0 0,.int .i64 er])) w':=by
 refine⟨none,0,?_,?_,by omega,?_,hb⟩
 ·rw[h.1,h.2];rfl
 ·rw[h.2];exact Nat.le_refl _
 ·rw[h.2];exact zdm.nil _ _ _
section
variable {w:World} {base R M NE:Nat} {g0 g1 g2 g3:Value} {qs:List QS}
theorem ABd.setSt {vS:Value} {g n c:Nat} (h:ABd w base R M NE g0 g1 g2 g3 qs) (hv:w.heap[R]?=some (.cells (abC g0 g1 g2 g3 vS M) 102 (0,0))) (e:vS=.slice (some ⟨g,0,none⟩) n c) (i:Nat) (y:QS) (hi:i<qs.length) (hy:y.1=(qs[i]).1) (hq:zi7 w base w.heap.size NE y):ABd (w.setCell ⟨g,i*2+1,none⟩ (qpC y.2)) base R M NE g0 g1 g2 g3 (qs.set i y):=by
 obtain⟨⟨vS',h1,h2⟩,⟨l,h3,h4⟩,h5,h6⟩:=h
 have ev:vS'=vS:=by
  rw[h1]at hv;injection hv with hv;injection hv with hv _ _;unfold abC at hv;injection hv with hv;injection hv with _ hv;injection hv with _ hv;injection hv with _ hv;injection hv with _ hv;injection hv with hv _
 subst ev;rw[e]at h2;have hst:=h2.set1 i y hi hy hq
 obtain⟨cur,hcur⟩:∃cur,w.heap[g]?=some (.cells cur 56 (0,0)):=by
  rcases h2.1.2 with⟨e,_⟩|⟨g2,cap,cur,e,_,hg,_⟩
  ·cases e
  ·injection e with e _ _;injection e with e;injection e with e;subst e;exact⟨cur,hg⟩
 have hgR:R≠g:=fun e=>by rw[e,hcur]at h1;injection h1 with h1;exact aK (by decide) h1
 have hgM:M≠g:=fun e=>by rw[e]at h3;exact h3.is.not_cells hcur
 have ek:bE (qs.set i y)=bE qs:=by
  unfold bE;rw[List.map_set];refine List.ext_getElem? fun j=>?_;rw[List.getElem?_set];by_cases hij:i=j
  ·subst hij;rw[if_pos rfl,if_pos (by simpa using hi),List.getElem?_map,List.getElem?_eq_getElem hi];simp[hy]
  ·rw[if_neg hij]
 refine⟨⟨vS',(Below.heap_setCell w ⟨g,i*2+1,none⟩ _ R hgR).trans h1,?_⟩,⟨l,h3.block (Below.heap_setCell w ⟨g,i*2+1,none⟩ _ M hgM),by rw[ek];exact h4⟩,h5,h6⟩;rw[e];have e2:(w.setCell ⟨g,i*2+1,none⟩ (qpC y.2)).heap.size=w.heap.size:=by simp
 rw[e2];exact hst
end
theorem zhD {α:Type} (es:List (List α)) (m:Nat) (x:List α):(es++List.replicate (m+1) []).set es.length x=(es++[x])++List.replicate m []:=by
 rw[List.set_append_right _ _ (Nat.le_refl _),Nat.sub_self,List.replicate_succ,List.set_cons_zero,List.append_assoc];rfl
theorem zg4 {new:List QS} (h:∀q∈new,q.2.1=[]):new.map (fun q:QS=>q.2.1)=List.replicate new.length []:=by
 induction new with
 | nil=>rfl
 | cons x r ih =>
  rw[List.map_cons,List.length_cons,List.replicate_succ,h x List.mem_cons_self,ih fun q hq=>h q (List.mem_cons_of_mem _ hq)]
theorem zfA {qs new:List QS} {es:List (List (Int×Int))} {n:Nat} {y:QS} (h:qs.map (fun q:QS=>q.2.1)=es++List.replicate (n-es.length) []) (hlt:es.length<n) (hw:∀q∈new,q.2.1=[]):((qs++new).set es.length y).map (fun q:QS=>q.2.1)=(es++[y.2.1])++List.replicate ((n+new.length)-(es++[y.2.1]).length) []:=by
 rw[List.map_set,List.map_append,h,zg4 hw,List.append_assoc,List.replicate_append_replicate,show n-es.length+new.length=(n+new.length-(es.length+1))+1 by omega,zhD,List.length_append,List.length_singleton]
theorem zgd (v:Value) (G:Gm.Gr) (B:Nat) (w:World) (hg:aT w B v G) (hf:Gm.Fit G) (hB:B<=w.heap.size) :
  Calls Tryz.prog 25 #[v] w (zjG G w):=by
 have HIS:=aA (fun y (h:Below w.heap.size w y)=>zjQ v G B y (hg.below h hB) hf (Nat.le_trans hB h.size));have HG:=aA hg;have HF:=aA hf;have HBW:=aA hB;obtain⟨AT,cT,AN,cN,AR,cR,rfl,_⟩:=hg;have HS0:=aA (bK.start 26 w #[.slice AT G.ts.length cT,.slice AN G.ns.length cN,.slice AR G.rs.length cR,.int .i64 G.st]);have g0:=HS0.o.c 0 _ rfl;have g1:=HS0.o.c 1 _ rfl;have g2:=HS0.o.c 2 _ rfl;have g3:=HS0.o.c 3 _ rfl;clear hf hB;cases hr:Gm.isB G
 ·have HQ:=aA (Au.bld_no hr);rw[hr]at HIS;clear hr
  go_enter Tryz.func25,Tryz.ntmps25
  go_wp2_with fail
  refine(HIS.o _ HS0.o.below).mono ?_;rintro _ w2 ⟨rfl,hb⟩;have HB:=aA (HS0.o.on hb);clear hb g0 g1 g2 g3;go_wp2
  go_ret2
  exact zjG.nil HQ.o HB.o.below
 ·have HR:=aA hr;have HOK:=aA (Gm.right_ok.1 (Gm.isB_right hr));rw[hr]at HIS;have hmm:=fun t w=>run_makeMap (P:=Tryz.prog) t w;clear hr
  go_enter Tryz.func25,Tryz.ntmps25
  go_wp2_with fail
  refine(HIS.o _ HS0.o.below).mono ?_;rintro _ w2 ⟨rfl,hb⟩;have HB:=aA (HS0.o.on hb);have g0:=HB.o.c 0 _ rfl;have g1:=HB.o.c 1 _ rfl;have g2:=HB.o.c 2 _ rfl;have g3:=HB.o.c 3 _ rfl;clear hb;obtain⟨w3,hw3⟩:∃y,y=w2.alloc (.map #[] 0):=⟨_,rfl⟩
  have hs3:w3.heap.size=w2.heap.size+1:=by rw[hw3];simp
  have b3:Below w2.heap.size w2 w3:=by rw[hw3];exact(Below.refl _ _).alloc (Nat.le_refl _) _
  have m3:Mw.MapSt zd4 w3 w2.heap.size []:=by rw[hw3];exact Mw.MapSt.made zd4 w2
  obtain⟨w4,hw4⟩:∃y,y=w3.alloc (.cells #[.slice AT G.ts.length cT,.slice AN G.ns.length cN,.slice AR G.rs.length cR,.int .i64 G.st,.slice none 0 0,.map (some w2.heap.size)] 102):=⟨_,rfl⟩
  have hs4:w4.heap.size=w2.heap.size+2:=by rw[hw4];simp[hs3]
  have b4:Below w3.heap.size w3 w4:=by rw[hw4];exact(Below.refl _ _).alloc (Nat.le_refl _) _
  have c4:w4.heap[w2.heap.size+1]?=some (.cells (abC (.slice AT G.ts.length cT) (.slice AN G.ns.length cN) (.slice AR G.rs.length cR) (.int .i64 G.st) (.slice none 0 0) w2.heap.size) 102 (0,0)):=by rw[hw4,<-hs3];exact heap_alloc_new w3 _
  have hz2:=HB.o.size;have HA4:Hid (ABd w4 w.heap.size (w2.heap.size+1) w2.heap.size w.heap.size (.slice AT G.ts.length cT) (.slice AN G.ns.length cN) (.slice AR G.rs.length cR) (.int .i64 G.st) []):=aA ⟨⟨_,c4,zbx.nil _ _ _ _⟩,⟨[],m3.block (b4.block _ m3.lt),Au.NumOk.nil⟩,by omega,by omega⟩;have HB4:Hid (Below w.heap.size w w4):=aA ((HB.o.below.trans (b3.mono (by omega))).trans (b4.mono (by omega)));obtain⟨w5,hw5⟩:∃y,y=w4.alloc (.cells #[.int .i64 (-1),.int .i64 0] 60):=⟨_,rfl⟩
  have b5:Below w4.heap.size w4 w5:=by rw[hw5];exact(Below.refl _ _).alloc (Nat.le_refl _) _
  have c5:w5.heap[w4.heap.size]?=some (.cells #[.int .i64 (-1),.int .i64 0] 60 (0,0)):=by rw[hw5];exact heap_alloc_new w4 _
  have HA5:=aA (HA4.o.below b5);have HB5:Hid (Below w.heap.size w w5):=aA (HB4.o.trans (b5.mono (by omega)))
  have HNU:=aA (zcg w5 w.heap.size (w2.heap.size+1) w2.heap.size w.heap.size _ _ _ _ [] [(-1,0)] (some ⟨w4.heap.size,0,none⟩) 1 HA5.o ⟨Nat.le_refl _,by simp,fun _=>⟨w4.heap.size,_,rfl,by omega,(Array.getElem?_eq_some_iff.1 c5).1,c5,fun i hi j u hu=>by
   have:i=0:=by simp at hi;omega
   subst this
   match j,hu with
   | 0,hu=>exact hu
   | 1,hu=>exact hu
   | j+2,hu=>simp[prF]at hu⟩⟩ (fun z hz=>by simp[Au.txt]at hz;omega) (by simp) (by simp))
  have hN:ziA [] [((-1:Int),(0:Int))]=0:=rfl;have hS:zhZ [] [((-1:Int),(0:Int))] (some ⟨w4.heap.size,0,none⟩) 1=[bV [(-1,0)] (some ⟨w4.heap.size,0,none⟩) 1]:=rfl;rw[hN,hS]at HNU;clear b3 m3 b4 c4 b5 c5 hz2 hN hS;obtain⟨R,hRe⟩:∃R,R=w2.heap.size+1:=⟨_,rfl⟩
  rw[<-hRe]at HNU HA4 HA5;go_upto_region 3 with fail
  go_upto_region 4 with fail
  rw[<-hw3,<-hw4,<-hRe];clear hw3 hw4 hs3 hs4 hRe hmm;obtain⟨M,hMe⟩:∃M,M=w2.heap.size:=⟨_,rfl⟩
  rw[<-hMe]at HNU HA4 HA5;rw[<-hMe];clear hMe g0 g1 g2 g3;go_wp2_with fail
  rw[<-hw5];clear hw5;refine HNU.o.mono ?_;rintro _ w6 ⟨rfl,ha6,hb6,hk6⟩;have HA6:=aA (ha6.more (NE':=w6.heap.size) (Nat.le_trans (Nat.le_trans (Nat.le_refl _) HB5.o.size) hk6.size));have HB6:=aA (HB5.o.trans hb6);have HI6:Hid (Au.Inv G [[(-1,0)]] []):=aA (Au.Inv.start G);have HRU6:Hid (Au.run G (302-([]:List (List (Int×Int))).length) [[(-1,0)]] []=Au.bld G):=aA rfl;have HKA6:Hid (bE [bV [((-1:Int),(0:Int))] (some ⟨w4.heap.size,0,none⟩) 1]=[[(-1,0)]]):=aA rfl;have HE6:Hid ([bV [((-1:Int),(0:Int))] (some ⟨w4.heap.size,0,none⟩) 1].map (fun q:QS=>q.2.1)=[]++List.replicate (1-0) []):=aA rfl;clear ha6 hb6 hk6;generalize [bV [((-1:Int),(0:Int))] (some ⟨w4.heap.size,0,none⟩) 1]=qs0 at *;go_wp2;go_loopw [5] (fun vi wr=>∃(ks:List (List Au.It)) (es:List (List (Int×Int))) (qs:List QS),vi=.int .i64 (es.length:Nat)/\ks.length<=300/\es.length<=ks.length/\Hid (Au.Inv G ks es)/\Hid (Au.run G (302-es.length) ks es=Au.bld G)/\Hid (bE qs=ks)/\Hid (qs.map (fun q:QS=>q.2.1)=es++List.replicate (ks.length-es.length) [])/\Hid (ABd wr w.heap.size R M wr.heap.size (.slice AT G.ts.length cT) (.slice AN G.ns.length cN) (.slice AR G.rs.length cR) (.int .i64 G.st) qs)/\Hid (Below w.heap.size w wr)) (fun vi _=>301-(intOf vi).toNat)
  case atStart=>exact⟨[[(-1,0)]],[],qs0,rfl,by simp,by simp,HI6,HRU6,HKA6,HE6,HA6,HB6⟩
  case round =>
   obtain⟨ks,es,qs,rfl,hk3,hle,HI,HRU,HKA,HE,HA,HW⟩:=hrel;obtain⟨⟨vS,h1,h2⟩,_⟩:=HA.o;have hql:qs.length=ks.length:=by rw[<-HKA.o];unfold bE;rw[List.length_map]
   by_cases hlt:es.length<ks.length
   ·have hlq:es.length<qs.length:=by omega
    obtain⟨gS,cS,rfl,hlc,hmc,_⟩:=aQ.addr h2.1 (by omega);have c4:wr.cell? ⟨R,4,none⟩=some (.slice (some ⟨gS,0,none⟩) qs.length cS):=cell_of_row wr R 4 _ _ _ h1;have k0:wr.cell? ⟨gS,es.length*2,none⟩=some (.slice (qs[es.length]).1.2.1 (qs[es.length]).1.1.length (qs[es.length]).1.2.2):=aQ.cellAt h2.1 zaO es.length 0 hlq _ rfl
    have hke:ks.getD es.length []=(qs[es.length]).1.1:=by
     rw[<-HKA.o];unfold bE;rw[List.getD_eq_getElem?_getD,List.getElem?_map,List.getElem?_eq_getElem hlq];rfl
    have hkm:(qs[es.length]).1.1∈ks:=by
     rw[<-hke,List.getD_eq_getElem?_getD,List.getElem?_eq_getElem hlt];exact List.getElem_mem hlt
    have hit:=HI.o.it _ hkm;have HED:=aA (zgb G wr w.heap.size R M wr.heap.size B AT AN AR cT cN cR qs (qs[es.length]).1.1 (qs[es.length]).1.2.1 (qs[es.length]).1.2.2 (HG.o.below HW.o HBW.o) HF.o HOK.o HBW.o HA.o ((h2.2 _ (List.getElem_mem hlq)).1) hit.2 (Nat.le_trans (Au.kernel_le HOK.o HOK.o.r40 HI.o hkm) (by omega)) (by omega) (Nat.le_refl _));unfold zeH at HED;rw[HKA.o]at HED;have HON:Hid (Au.edges G (Au.clo G (qs[es.length]).1.1) (ks,[]) (Au.syms G)=Au.one G ks es.length):=aA (by unfold Au.one;rw[hke]);rw[HON.o]at HED;have HST:=aA (Au.run_step (G:=G) hlt hk3);have HIN:=aA (HI.o.step hlt);generalize Au.one G ks es.length=O at *;generalize (qs[es.length]).1.1=k at *;generalize (qs[es.length]).1.2.1=Ak at *;generalize (qs[es.length]).1.2.2=ck at *;have hqlI:((es.length:Nat):Int)<((qs.length:Nat):Int):=by omega
    have HQL:=aA hql;have HLT:=aA hlt;clear h1 h2 hke hkm hit hlc hmc;go_wp2_with fail
    refine HED.o.mono ?_;rintro _ w3 ⟨v3,new,rfl,ho3,hks3,hne3,ha3,hb3,hk3'⟩;obtain⟨Ae,ce,rfl,hle3,hme3,_⟩:=aQ.form ho3 aN;have HA3:=aA (ha3.more (NE':=w3.heap.size) hk3'.size);have HW3:=aA (HW.o.trans hb3);obtain⟨⟨vS3,h31,h32⟩,_⟩:=HA3.o;have hl3:es.length<(qs++new).length:=by rw[List.length_append];omega
    obtain⟨gS3,cS3,rfl,hlc3,hmc3,hbg3⟩:=aQ.addr h32.1 (by omega);have c43:w3.cell? ⟨R,4,none⟩=some (.slice (some ⟨gS3,0,none⟩) (qs++new).length cS3):=cell_of_row w3 R 4 _ _ _ h31;have d0:=aQ.cellAt h32.1 zaO es.length 1 hl3 _ rfl;have hgl:=aQ.lt h32.1
    obtain⟨cur3,hcur3⟩:∃cur,w3.heap[gS3]?=some (.cells cur 56 (0,0)):=by
     rcases h32.1.2 with⟨e,_⟩|⟨g2,cap,cur,e,_,hg,_⟩
     ·cases e
     ·injection e with e _ _;injection e with e;injection e with e;subst e;exact⟨cur,hg⟩
    have fz:=frozen_of_row w3 gS3 (es.length*2+1) _ _ hcur3;have HA4:=aA (HA3.o.setSt h31 rfl es.length (((qs++new)[es.length]).1,(O.2,Ae,ce)) hl3 rfl ⟨(h32.2 _ (List.getElem_mem hl3)).1,⟨hle3,by unfold maxLen at hme3;exact(Nat.le_trans hme3 (by omega)),(aQ.rowP ho3).less HW.o.size⟩⟩);have HE2:Hid (((qs++new).set es.length (((qs++new)[es.length]).1,(O.2,Ae,ce))).map (fun q:QS=>q.2.1)=(es++[O.2])++List.replicate ((ks.length+new.length)-(es++[O.2]).length) []):=aA (zfA (y:=(((qs++new)[es.length]).1,(O.2,Ae,ce))) HE.o HLT.o hne3)
    have HK2:Hid (bE ((qs++new).set es.length (((qs++new)[es.length]).1,(O.2,Ae,ce)))=O.1):=aA (by
     rw[<-hks3];unfold bE;rw[List.map_set];refine List.ext_getElem? fun j=>?_;rw[List.getElem?_set];by_cases hij:es.length=j
     ·subst hij;rw[if_pos rfl,if_pos (by simpa using hl3),List.getElem?_map,List.getElem?_eq_getElem hl3];rfl
     ·rw[if_neg hij])
    have HO1:Hid (O.1.length=ks.length+new.length):=aA (by rw[<-hks3];unfold bE;rw[List.length_map,List.length_append,HQL.o]);have HQ2:Hid ((qs++new).length=ks.length+new.length):=aA (by rw[List.length_append,HQL.o])
    change Hid (ABd (w3.setCell ⟨gS3,es.length*2+1,none⟩ (.slice Ae O.2.length ce)) w.heap.size R M w3.heap.size (.slice AT G.ts.length cT) (.slice AN G.ns.length cN) (.slice AR G.rs.length cR) (.int .i64 G.st) ((qs++new).set es.length (((qs++new)[es.length]).1,(O.2,Ae,ce)))) at HA4
    obtain⟨u0,hu0⟩:∃u,w3.cell? ⟨gS3,es.length*2+1,none⟩=some u:=⟨_,d0⟩
    have HW4:Hid (Below w.heap.size w (w3.setCell ⟨gS3,es.length*2+1,none⟩ (.slice Ae O.2.length ce))):=aA (HW3.o.setCell hbg3 _);have hsz4:(w3.setCell ⟨gS3,es.length*2+1,none⟩ (.slice Ae O.2.length ce)).heap.size=w3.heap.size:=by simp
    obtain⟨w4,hw4⟩:∃y,y=w3.setCell ⟨gS3,es.length*2+1,none⟩ (.slice Ae O.2.length ce):=⟨_,rfl⟩
    rw[<-hw4]at HA4 HW4 hsz4;rw[<-hsz4]at HA4;have HQS:Hid (((qs++new).set es.length (((qs++new)[es.length]).1,(O.2,Ae,ce))).length=ks.length+new.length):=aA (by rw[List.length_set];exact HQ2.o);generalize (qs++new).set es.length (((qs++new)[es.length]).1,(O.2,Ae,ce))=qs2 at *;have hlI:((es.length:Nat):Int)<(((qs++new).length:Nat):Int):=by omega
    clear h31 h32 ho3 hne3 ha3 hb3 hk3' hks3 hlc3 hmc3 hbg3 hcur3 hl3 hsz4 c4 k0 d0;generalize (qs++new).length=nq at *;go_upto_region 10 with fail
    rw[<-hw4];clear hw4 c43 hu0 fz hgl;obtain⟨⟨vS4,h41,h42⟩,_⟩:=HA4.o;obtain⟨A4,c4',rfl,_,_,_⟩:=aQ.form h42.1 zaO;have c44:w4.cell? ⟨R,4,none⟩=some (.slice A4 qs2.length c4'):=cell_of_row w4 R 4 _ _ _ h41;rw[HQS.o,<-HO1.o]at c44;clear h41 h42;by_cases h300:300<O.1.length
    ·have HB0:=aA (Au.bld_many HR.o (by rw[<-HRU.o,HST.o,if_pos h300]));have h3I:(300:Int)<((O.1.length:Nat):Int):=by omega
     clear h300 hk3 hle hlt hlq hql;generalize O.1.length=no at *;go_wp2
     go_ret2
     exact zjG.nil HB0.o HW4.o
    ·have HRU2:Hid (Au.run G (302-(es++[O.2]).length) O.1 (es++[O.2])=Au.bld G):=aA (by rw[<-HRU.o,HST.o,if_neg h300]);have h3I:((O.1.length:Nat):Int)<=(300:Int):=by omega
     have h3N:O.1.length<=300:=by omega
     have HEO:Hid (qs2.map (fun q:QS=>q.2.1)=(es++[O.2])++List.replicate (O.1.length-(es++[O.2]).length) []):=aA (by rw[HO1.o];exact HE2.o);have HNN:Hid ((es++[O.2]).length=es.length+1):=aA (by simp);have HLL:Hid ((es++[O.2]).length<=O.1.length):=aA HIN.o.le;clear h300;go_wp2;go_roundw
     case rel=>exact⟨O.1,es++[O.2],qs2,by rw[HNN.o];go_num,h3N,HLL.o,HIN,HRU2,HK2,HEO,HA4,HW4⟩
     case measure=>simp[intOf];omega
   ·have hen:es.length=ks.length:=by omega
    have HB0:=aA (Au.bld_ok HR.o (by rw[<-HRU.o];exact Au.run_end hen hk3));obtain⟨AS,cS,rfl,hlc,hmc,_⟩:=aQ.form h2.1 zaO;have c4:wr.cell? ⟨R,4,none⟩=some (.slice AS qs.length cS):=cell_of_row wr R 4 _ _ _ h1
    have hst:qs.map stOf=ks.zip es:=by
     have e1:=HKA.o;have e2:=HE.o;rw[hen,Nat.sub_self,List.replicate_zero,List.append_nil]at e2;rw[<-e1,<-e2];unfold bE;rw[List.zip_map'];rfl
    have HRD:=aA (zbx.rd h2 (Nat.le_refl _) (Nat.le_refl _));rw[hst]at HRD;have HSL:Hid ((Au.bldS G).length=qs.length):=aA (by rw[HB0.o.2,<-hst,List.length_map]);have HLC:=aA hlc;have HMC:=aA (show cS<=9223372036854775807 by unfold maxLen at hmc;omega);have hnq:¬((es.length:Nat):Int)<((qs.length:Nat):Int):=by omega
    clear h1 h2 hst hlc hmc hlt hen hle hk3 hql;generalize es.length=ne at *;generalize qs.length=nq at *;go_wp2
    go_ret2
    refine⟨AS,cS,?_,by rw[HSL.o];exact HLC.o,HMC.o,by rw[HB0.o.2];exact HRD.o,HW.o⟩;rw[HSL.o,HB0.o.1];rfl
end Go.Proofs.YtcmhaemaophplaaGreat
namespace Go.Proofs.YtcmhaemaophplaaGreat
set_option maxRecDepth 100000
set_option maxHeartbeats 40000000
open Go.RowKit
theorem Gm.gr_ext {A B:Gm.Gr} (h1:A.ts=B.ts) (h2:A.ns=B.ns) (h3:A.rs=B.rs) (h4:A.st=B.st):A=B:=by
 cases A
 cases B
 simp only at h1 h2 h3 h4;subst h1 h2 h3 h4;rfl
theorem Gm.isB_use {G:Gm.Gr} (h:Gm.isB G=true):∀x∈G.rs,Gm.Rc G x.l/\Gm.Al true G.rs x.r:=by
 unfold Gm.isB at h;rw[Bool.and_eq_true,decide_eq_true_eq]at h;obtain⟨h1,h2⟩:=h;have hG:Gm.rdG G=Gm.reduce G:=by unfold Gm.rdG;rw[if_pos h1]
 rw[hG]at h2;have he:∀ {α:Type} {a b:α},eqb a b=true->a=b:=fun {α a b} q=>Classical.byContradiction fun k=>by rw[zaA k]at q;cases q
 unfold Gm.same at h2;simp only[Bool.and_eq_true]at h2;obtain⟨⟨⟨e1,e2⟩,e3⟩,e4⟩:=h2;have e:Gm.reduce G=G:=Gm.gr_ext (he e1).symm (he e2).symm (he e3).symm (he e4).symm;intro x hx
 have:x∈(Gm.reduce G).rs:=by rw[e];exact hx
 have:=Gm.red_use this
 rw[e]at this;exact Gm.tr_iff.1 this
namespace Lk
open Au Gm Go.Mw
def TS (E:List (List (Int×Int))) (i j:Nat) (tl:List ((Int×Int)×Value)):Prop:=∀q s t,q<E.length->(s,t)∈E.getD q []->(q<i\/q=i/\(s,t)∈(E.getD i []).take j)->asc tl ((q:Int),s)=some (.int .i64 t)
theorem TS.start (E:List (List (Int×Int))):TS E 0 0 []:=fun q s t hq h k=>by
 rcases k with k|⟨_,k⟩
 ·omega
 ·simp at k
theorem TS.next {E:List (List (Int×Int))} {i:Nat} {tl:List ((Int×Int)×Value)} (h:TS E i (E.getD i []).length tl):TS E (i+1) 0 tl:=fun q s t hq hm k=>by
 rcases k with k|⟨_,k⟩
 ·rcases Nat.lt_or_ge q i with k2|k2
  ·exact h q s t hq hm (.inl k2)
  ·obtain rfl:q=i:=by omega
   exact h q s t hq hm (.inr ⟨rfl,by rw[List.take_length];exact hm⟩)
 ·simp at k
theorem TS.put {E:List (List (Int×Int))} {i j:Nat} {tl:List ((Int×Int)×Value)} (h:TS E i j tl) (hn:((E.getD i []).map (·.1)).Nodup) (hj:j<(E.getD i []).length):TS E i (j+1) (putA tl ((i:Int),(E.getD i [])[j].1) (.int .i64 (E.getD i [])[j].2)):=fun q s t hq hm k=>by
 rw[asc_put];by_cases e:((i:Int),(E.getD i [])[j].1)=((q:Int),s)
 ·rw[if_pos e];injection e with e1 e2;have e1:i=q:=by omega
  subst e1 e2;have h1:((E.getD i [])[j].1,(E.getD i [])[j].2)∈E.getD i []:=List.getElem_mem hj;have a1:=zcb hn h1;have a2:=zcb hn hm;rw[a1]at a2;rw[a2]
 ·rw[if_neg e];refine h q s t hq hm ?_;rcases k with k|⟨rfl,k⟩
  ·exact .inl k
  ·refine .inr ⟨rfl,?_⟩;rw[List.take_succ_eq_append_getElem hj]at k;rcases List.mem_append.1 k with k|k
   ·exact k
   ·rw[List.mem_singleton]at k;exact absurd (by rw[<-k]) e
theorem TS.done {E:List (List (Int×Int))} {tl:List ((Int×Int)×Value)} (h:TS E E.length 0 tl) {i:Nat} {s:Int} {j:Nat} (he:Ed E i s j):asc tl ((i:Int),s)=some (.int .i64 (j:Int)):=by
 obtain⟨hi,he⟩:=he;exact h i s j hi (by rw[List.getD_eq_getElem?_getD,List.getElem?_eq_getElem hi];exact he) (.inl hi)
end Lk
structure EJ (w1:World) (G:Gm.Gr) (g0 g1 g2 g3:Value) (todo:List Nat) (wx:World) (x12 x13 x14 x15 x16 x5:Value) (At:Option Addr) (ct T M D c:Nat):Prop where
 t:∀k∈todo,k=2\/k=3\/k=4\/k=5\/k=6\/k=7
 b:Below w1.heap.size w1 wx
 h2:2 ∉ todo->x12=.slice At (Lk.tlAll G).length ct/\bU wx At G
 h3:3 ∉ todo->x13=.map (some T)/\w1.heap.size<=T/\wx.heap[T]?=some (.map #[] 0)
 h4:4 ∉ todo->x14=.map (some M)/\w1.heap.size<=M/\wx.heap[M]?=some (.map #[] 0)
 h5:5 ∉ todo->x15=.map (some D)/\w1.heap.size<=D/\wx.heap[D]?=some (.map #[] 0)
 h6:6 ∉ todo->(2 ∉ todo/\3 ∉ todo/\4 ∉ todo/\5 ∉ todo)/\x16=.agg (wrC g0 g1 g2 g3 (.slice At (Lk.tlAll G).length ct) T M D)
 h7:7 ∉ todo->x5=.pointer (some ⟨c,0,none⟩)/\w1.heap.size<=c/\wx.heap[c]?=some (.cells #[.slice none 0 0,.slice none 0 0,.slice none 0 0,.int .i64 0,.slice none 0 0,.map none,.map none,.map none] 110 (0,0))
 d34:3 ∉ todo->4 ∉ todo->T≠M
 d35:3 ∉ todo->5 ∉ todo->T≠D
 d45:4 ∉ todo->5 ∉ todo->M≠D
section
variable {w1:World} {G:Gm.Gr} {g0 g1 g2 g3:Value} {todo:List Nat} {wx w':World} {x12 x13 x14 x15 x16 x5:Value} {At:Option Addr} {ct T M D c:Nat}
theorem EJ.put2 (h:EJ w1 G g0 g1 g2 g3 todo wx x12 x13 x14 x15 x16 x5 At ct T M D c) (hm:2∈todo) (hb:Below wx.heap.size wx w') {A':Option Addr} {c':Nat} (ho:bU w' A' G):EJ w1 G g0 g1 g2 g3 (todo.erase 2) w' (.slice A' (Lk.tlAll G).length c') x13 x14 x15 x16 x5 A' c' T M D c where
 t k hk:=h.t k (List.mem_of_mem_erase hk)
 b:=h.b.trans (hb.mono h.b.size)
 h2 _:=⟨rfl,ho⟩
 h3 q:=by obtain⟨a1,a2,a3⟩:=h.h3 (aD q (by decide));exact⟨a1,a2,aC hb a3⟩
 h4 q:=by obtain⟨a1,a2,a3⟩:=h.h4 (aD q (by decide));exact⟨a1,a2,aC hb a3⟩
 h5 q:=by obtain⟨a1,a2,a3⟩:=h.h5 (aD q (by decide));exact⟨a1,a2,aC hb a3⟩
 h6 q:=absurd hm (h.h6 (aD q (by decide))).1.1
 h7 q:=by obtain⟨a1,a2,a3⟩:=h.h7 (aD q (by decide));exact⟨a1,a2,aC hb a3⟩
 d34 q1 q2:=h.d34 (aD q1 (by decide)) (aD q2 (by decide))
 d35 q1 q2:=h.d35 (aD q1 (by decide)) (aD q2 (by decide))
 d45 q1 q2:=h.d45 (aD q1 (by decide)) (aD q2 (by decide))
theorem zak (w:World):Below w.heap.size w (w.alloc (.map #[] 0))/\(w.alloc (.map #[] 0)).heap[w.heap.size]?=some (.map #[] 0):=⟨(Below.refl _ _).alloc (Nat.le_refl _) _,heap_alloc_new w _⟩
theorem EJ.put3 (h:EJ w1 G g0 g1 g2 g3 todo wx x12 x13 x14 x15 x16 x5 At ct T M D c) (hm:3∈todo):EJ w1 G g0 g1 g2 g3 (todo.erase 3) (wx.alloc (.map #[] 0)) x12 (.map (some wx.heap.size)) x14 x15 x16 x5 At ct wx.heap.size M D c where
 t k hk:=h.t k (List.mem_of_mem_erase hk)
 b:=h.b.alloc h.b.size _
 h2 q:=by obtain⟨a1,a2⟩:=h.h2 (aD q (by decide));exact⟨a1,a2.below (zak wx).1⟩
 h3 _:=⟨rfl,h.b.size,(zak wx).2⟩
 h4 q:=by obtain⟨a1,a2,a3⟩:=h.h4 (aD q (by decide));exact⟨a1,a2,aC (zak wx).1 a3⟩
 h5 q:=by obtain⟨a1,a2,a3⟩:=h.h5 (aD q (by decide));exact⟨a1,a2,aC (zak wx).1 a3⟩
 h6 q:=absurd hm (h.h6 (aD q (by decide))).1.2.1
 h7 q:=by obtain⟨a1,a2,a3⟩:=h.h7 (aD q (by decide));exact⟨a1,a2,aC (zak wx).1 a3⟩
 d34 _ q:=by have:=(Array.getElem?_eq_some_iff.1 (h.h4 (aD q (by decide))).2.2).1;omega
 d35 _ q:=by have:=(Array.getElem?_eq_some_iff.1 (h.h5 (aD q (by decide))).2.2).1;omega
 d45 q1 q2:=h.d45 (aD q1 (by decide)) (aD q2 (by decide))
theorem EJ.put4 (h:EJ w1 G g0 g1 g2 g3 todo wx x12 x13 x14 x15 x16 x5 At ct T M D c) (hm:4∈todo):EJ w1 G g0 g1 g2 g3 (todo.erase 4) (wx.alloc (.map #[] 0)) x12 x13 (.map (some wx.heap.size)) x15 x16 x5 At ct T wx.heap.size D c where
 t k hk:=h.t k (List.mem_of_mem_erase hk)
 b:=h.b.alloc h.b.size _
 h2 q:=by obtain⟨a1,a2⟩:=h.h2 (aD q (by decide));exact⟨a1,a2.below (zak wx).1⟩
 h3 q:=by obtain⟨a1,a2,a3⟩:=h.h3 (aD q (by decide));exact⟨a1,a2,aC (zak wx).1 a3⟩
 h4 _:=⟨rfl,h.b.size,(zak wx).2⟩
 h5 q:=by obtain⟨a1,a2,a3⟩:=h.h5 (aD q (by decide));exact⟨a1,a2,aC (zak wx).1 a3⟩
 h6 q:=absurd hm (h.h6 (aD q (by decide))).1.2.2.1
 h7 q:=by obtain⟨a1,a2,a3⟩:=h.h7 (aD q (by decide));exact⟨a1,a2,aC (zak wx).1 a3⟩
 d34 q _:=by have:=(Array.getElem?_eq_some_iff.1 (h.h3 (aD q (by decide))).2.2).1;omega
 d35 q1 q2:=h.d35 (aD q1 (by decide)) (aD q2 (by decide))
 d45 _ q:=by have:=(Array.getElem?_eq_some_iff.1 (h.h5 (aD q (by decide))).2.2).1;omega
theorem EJ.put5 (h:EJ w1 G g0 g1 g2 g3 todo wx x12 x13 x14 x15 x16 x5 At ct T M D c) (hm:5∈todo):EJ w1 G g0 g1 g2 g3 (todo.erase 5) (wx.alloc (.map #[] 0)) x12 x13 x14 (.map (some wx.heap.size)) x16 x5 At ct T M wx.heap.size c where
 t k hk:=h.t k (List.mem_of_mem_erase hk)
 b:=h.b.alloc h.b.size _
 h2 q:=by obtain⟨a1,a2⟩:=h.h2 (aD q (by decide));exact⟨a1,a2.below (zak wx).1⟩
 h3 q:=by obtain⟨a1,a2,a3⟩:=h.h3 (aD q (by decide));exact⟨a1,a2,aC (zak wx).1 a3⟩
 h4 q:=by obtain⟨a1,a2,a3⟩:=h.h4 (aD q (by decide));exact⟨a1,a2,aC (zak wx).1 a3⟩
 h5 _:=⟨rfl,h.b.size,(zak wx).2⟩
 h6 q:=absurd hm (h.h6 (aD q (by decide))).1.2.2.2
 h7 q:=by obtain⟨a1,a2,a3⟩:=h.h7 (aD q (by decide));exact⟨a1,a2,aC (zak wx).1 a3⟩
 d34 q1 q2:=h.d34 (aD q1 (by decide)) (aD q2 (by decide))
 d35 q _:=by have:=(Array.getElem?_eq_some_iff.1 (h.h3 (aD q (by decide))).2.2).1;omega
 d45 q _:=by have:=(Array.getElem?_eq_some_iff.1 (h.h4 (aD q (by decide))).2.2).1;omega
theorem EJ.put6 (h:EJ w1 G g0 g1 g2 g3 todo wx x12 x13 x14 x15 x16 x5 At ct T M D c) (m2:2 ∉ todo) (m3:3 ∉ todo) (m4:4 ∉ todo) (m5:5 ∉ todo):EJ w1 G g0 g1 g2 g3 (todo.erase 6) wx x12 x13 x14 x15 (.agg (wrC g0 g1 g2 g3 (.slice At (Lk.tlAll G).length ct) T M D)) x5 At ct T M D c where
 t k hk:=h.t k (List.mem_of_mem_erase hk)
 b:=h.b
 h2 _:=h.h2 m2
 h3 _:=h.h3 m3
 h4 _:=h.h4 m4
 h5 _:=h.h5 m5
 h6 _:=⟨⟨fun m=>m2 (List.mem_of_mem_erase m),fun m=>m3 (List.mem_of_mem_erase m),fun m=>m4 (List.mem_of_mem_erase m),fun m=>m5 (List.mem_of_mem_erase m)⟩,rfl⟩
 h7 q:=h.h7 (aD q (by decide))
 d34 _ _:=h.d34 m3 m4
 d35 _ _:=h.d35 m3 m5
 d45 _ _:=h.d45 m4 m5
theorem EJ.put7 (h:EJ w1 G g0 g1 g2 g3 todo wx x12 x13 x14 x15 x16 x5 At ct T M D c):EJ w1 G g0 g1 g2 g3 (todo.erase 7) (wx.alloc (.cells #[.slice none 0 0,.slice none 0 0,.slice none 0 0,.int .i64 0,.slice none 0 0,.map none,.map none,.map none] 110)) x12 x13 x14 x15 x16 (.pointer (some ⟨wx.heap.size,0,none⟩)) At ct T M D wx.heap.size where
 t k hk:=h.t k (List.mem_of_mem_erase hk)
 b:=h.b.alloc h.b.size _
 h2 q:=by obtain⟨a1,a2⟩:=h.h2 (aD q (by decide));exact⟨a1,a2.below ((Below.refl _ wx).alloc (Nat.le_refl _) _)⟩
 h3 q:=by obtain⟨a1,a2,a3⟩:=h.h3 (aD q (by decide));exact⟨a1,a2,aC ((Below.refl _ wx).alloc (Nat.le_refl _) _) a3⟩
 h4 q:=by obtain⟨a1,a2,a3⟩:=h.h4 (aD q (by decide));exact⟨a1,a2,aC ((Below.refl _ wx).alloc (Nat.le_refl _) _) a3⟩
 h5 q:=by obtain⟨a1,a2,a3⟩:=h.h5 (aD q (by decide));exact⟨a1,a2,aC ((Below.refl _ wx).alloc (Nat.le_refl _) _) a3⟩
 h6 q:=by obtain⟨⟨b1,b2,b3,b4⟩,a2⟩:=h.h6 (aD q (by decide));exact⟨⟨fun m=>b1 (List.mem_of_mem_erase m),fun m=>b2 (List.mem_of_mem_erase m),fun m=>b3 (List.mem_of_mem_erase m),fun m=>b4 (List.mem_of_mem_erase m)⟩,a2⟩
 h7 _:=⟨rfl,h.b.size,heap_alloc_new wx _⟩
 d34 q1 q2:=h.d34 (aD q1 (by decide)) (aD q2 (by decide))
 d35 q1 q2:=h.d35 (aD q1 (by decide)) (aD q2 (by decide))
 d45 q1 q2:=h.d45 (aD q1 (by decide)) (aD q2 (by decide))
end
end Go.Proofs.YtcmhaemaophplaaGreat
namespace Go.Proofs.YtcmhaemaophplaaGreat
set_option maxRecDepth 100000
set_option maxHeartbeats 40000000
open Go.RowKit
theorem zlC {w:World} {B:Nat} {Aa:Option Addr} {ss:List StT} (h:zdm w B Aa ss) (i:Nat) (hi:i<ss.length):∃g o,Aa=some ⟨g,o,none⟩/\g<B/\(∃A1 c1,w.cell? ⟨g,o+i*2,none⟩=some (.slice A1 ss[i].1.length c1))/\∃A2 c2,w.cell? ⟨g,o+i*2+1,none⟩=some (.slice A2 ss[i].2.length c2)/\RdQ 2 prF w B A2 ss[i].2:=by
 obtain⟨g,o,e,hg,hc⟩:=h (by omega);obtain⟨⟨A1,c1,a1,_⟩,A2,c2,a2,_,_,a3⟩:=hc i hi;exact⟨g,o,e,hg,⟨A1,c1,a1⟩,A2,c2,a2,a3⟩
theorem zhk (v:Value) (G:Gm.Gr) (B:Nat) (w:World) (Aa:Option Addr) (ca:Nat) (K:List (List Au.It)) (E:List (List (Int×Int))) (hg:aT w B v G) (hf:Gm.Fit G) (hB:B<=w.heap.size) (hb:Gm.isB G=true) (hk:Au.bld G=some (K,E)) (ha:zdm w w.heap.size Aa (K.zip E)) :
  Calls Tryz.prog 26 #[v,.slice Aa (K.zip E).length ca] w fun e w'=>∃D MM DD,e=.returned (.map (some D))/\Mw.MapIs enE w' D (Lk.encM DD)/\Lk.WI G K E MM DD []/\Below w.heap.size w w':=by
 obtain⟨hi,hE,hK3⟩:=Au.bld_inv hk;have hok:=Gm.right_ok.1 (Gm.isB_right hb);have ht24:=((Gm.terms_iff G.ts).1 hok.t)
 have hn16:=((Gm.nons_iff G).1 hok.n)
 have hz:(K.zip E).length=K.length:=by rw[List.length_zip,hE,Nat.min_self]
 have HWG:=aA (fun(tl:List ((Int×Int)×Value)) (h:Lk.TS E E.length 0 tl)=>(show WkG G K E tl from⟨hi,hE,hok,fun x hx=>(Gm.isB_use hb x hx).2,by omega,by omega,hK3,fun i s j he=>h.done he⟩));have HZ:=aA hz;have HEL:=aA hE;have HK0:=aA (show 0<K.length from(List.getElem?_eq_some_iff.1 hi.h0).1);have HK3:=aA hK3;have HND:=aA (fun(i:Nat) (h:i<E.length)=>Lk.keys_nd hi h)
 have HEI:=aA (fun(i:Nat) (h:i<E.length) (e:Int×Int) (he:e∈E[i])=>(show Gm.In e.1 from by
  have h1:e.1∈E[i].map (·.1):=List.mem_map_of_mem he;rw[(hi.ed i h).1,List.mem_filter]at h1
  have:=Gm.has_iff.1 (Au.syms_mem.1 h1.1)
  unfold Gm.In
  omega))
 have HEC:=aA (fun(i:Nat) (h:i<E.length)=>(show(E[i]).length<=100000 from by have:=Au.edges_le (by omega) (by omega) hi h;omega));have HTA:=aA (fun(y:World) (h:Below w.heap.size w y)=>zfP v G B y (hg.below h hB) hf hok (Nat.le_trans hB h.size) (by omega));have HGB:=aA (fun(y:World) (h:Below w.heap.size w y)=>hg.below h hB);have HB:=aA hB;obtain⟨AT,cT,AN,cN,AR,cR,rfl,_⟩:=hg;obtain⟨w1,hw1⟩:∃y,y=w.alloc (.cells #[.slice AT G.ts.length cT,.slice AN G.ns.length cN,.slice AR G.rs.length cR,.int .i64 G.st] 26):=⟨_,rfl⟩
 have HB1:Hid (Below w.heap.size w w1):=aA (by rw[hw1];exact(Below.refl _ _).alloc (Nat.le_refl _) _);have HX1:Hid (w1.heap[w.heap.size]?=some (.cells #[.slice AT G.ts.length cT,.slice AN G.ns.length cN,.slice AR G.rs.length cR,.int .i64 G.st] 26 (0,0))):=aA (by rw[hw1];exact heap_alloc_new w _);have HXL:Hid (w.heap.size<w1.heap.size):=aA (Array.getElem?_eq_some_iff.1 HX1.o).1;have HA:=aA ha;have hmm:=fun t w=>run_makeMap (P:=Tryz.prog) t w;clear hf hB hb hk ha hi hE hok ht24 hn16 hz hK3;generalize hn:(K.zip E).length=n at *;have HN:=aA hn;clear hn
 go_enter Tryz.func26,Tryz.ntmps26
 go_upto_region 1 with fail
 rw[<-hw1];clear hw1;have q0:∀y:Calm.On w1.heap.size w1,y.1.cell? ⟨w.heap.size,0,none⟩=some (.slice AT G.ts.length cT):=fun y=>cell_of_row y.1 _ 0 _ _ _ (aC y.2 HX1.o);have q1:∀y:Calm.On w1.heap.size w1,y.1.cell? ⟨w.heap.size,1,none⟩=some (.slice AN G.ns.length cN):=fun y=>cell_of_row y.1 _ 1 _ _ _ (aC y.2 HX1.o);have q2:∀y:Calm.On w1.heap.size w1,y.1.cell? ⟨w.heap.size,2,none⟩=some (.slice AR G.rs.length cR):=fun y=>cell_of_row y.1 _ 2 _ _ _ (aC y.2 HX1.o);have q3:∀y:Calm.On w1.heap.size w1,y.1.cell? ⟨w.heap.size,3,none⟩=some (.int .i64 G.st):=fun y=>cell_of_row y.1 _ 3 _ _ _ (aC y.2 HX1.o)
 refine CalmN.region_dep (fun x=>∃y:Calm.On w1.heap.size w1,x=y.1) [0,1] [2,3,4,5,6,7] [(6,2),(6,3),(6,4),(6,5)] (.one [] 8 (.fin []))
  (fun todo a wx=>∃x12 x13 x14 x15 x16 x5 At ct T M D c,a = {tmps:=#[.agg #[.slice AT G.ts.length cT,.slice AN G.ns.length cN,.slice AR G.rs.length cR,.int .i64 G.st],.slice Aa n ca,.pointer (some ⟨w.heap.size,0,none⟩),undef,.map none,x5,undef,undef,undef,undef,.agg #[.slice AT G.ts.length cT,.slice AN G.ns.length cN,.slice AR G.rs.length cR,.int .i64 G.st],.agg #[.slice AT G.ts.length cT,.slice AN G.ns.length cN,.slice AR G.rs.length cR,.int .i64 G.st],x12,x13,x14,x15,x16,undef,undef,undef,undef,undef,undef,undef,undef,undef,undef,undef,undef,undef,undef,undef,undef,undef,undef,undef,undef,undef,undef,undef,undef,undef,undef,undef,undef],defers:=[]}/\EJ w1 G (.slice AT G.ts.length cT) (.slice AN G.ns.length cN) (.slice AR G.rs.length cR) (.int .i64 G.st) todo wx x12 x13 x14 x15 x16 x5 At ct T M D c)
  (by kernel_rfl) (by kernel_rfl) (fun _ _ d _ _ h=>by cases d <;> exact h) ⟨⟨w1.drew,aB (Below.refl _ _) 1⟩,rfl⟩ ?_ ?_ ?_
 ·simp only[CalmN.pickOps,List.getElem?_toArray,List.getElem?_cons_zero,List.getElem?_cons_succ];repeat (go_big_quiet_step (fail))
  refine wpQuiet_nil ?_;exact⟨undef,undef,undef,undef,undef,undef,none,0,0,0,0,0,rfl,⟨by simp,aB (Below.refl _ _) 1,fun h=>absurd (by simp) h,fun h=>absurd (by simp) h,fun h=>absurd (by simp) h,fun h=>absurd (by simp) h,fun h=>absurd (by simp) h,fun h=>absurd (by simp) h,fun h=>absurd (by simp) h,fun h=>absurd (by simp) h,fun _ h=>absurd (by simp) h⟩⟩
 ·intro todo k a wx hk hD hJ hS;obtain⟨x12,x13,x14,x15,x16,x5,At,ct,T,M,D,c,rfl,hJ⟩:=hJ;have HJ:=aA hJ;have hcase:=hJ.t k hk;have HK:=aA hk;have HD:=aA hD;clear hJ hS hk hD q0 q1 q2 q3;rcases hcase with rfl|rfl|rfl|rfl|rfl|rfl
  ·simp only[CalmN.wpSt,List.getElem?_toArray,List.getElem?_cons_zero,List.getElem?_cons_succ];intro KK hKK;rw[if_pos (by rfl)];go_wp2_with fail
   refine(HTA.o wx (HB1.o.trans (HJ.o.b.mono HB1.o.size))).mono ?_;rintro _ w' ⟨A',c',rfl,ho,hb⟩;have hj:=HJ.o.put2 HK.o hb (c':=c') ho;go_wp2_with fail
   exact hKK _ _ ⟨⟨w',hj.b⟩,rfl⟩ (fun x=>∃y:Calm.On w1.heap.size w1,x=y.1) (fun _ h=>h) ⟨⟨w',hj.b⟩,rfl⟩ ⟨_,x13,x14,x15,x16,x5,_,_,T,M,D,c,rfl,hj⟩
  ·simp only[CalmN.wpSt,List.getElem?_toArray,List.getElem?_cons_zero,List.getElem?_cons_succ];intro KK hKK;rw[if_pos (by rfl)];have hj:=HJ.o.put3 HK.o;go_wp2_with fail
   exact hKK _ _ ⟨⟨_,hj.b⟩,rfl⟩ (fun x=>∃y:Calm.On w1.heap.size w1,x=y.1) (fun _ h=>h) ⟨⟨_,hj.b⟩,rfl⟩ ⟨x12,_,x14,x15,x16,x5,At,ct,_,M,D,c,rfl,hj⟩
  ·simp only[CalmN.wpSt,List.getElem?_toArray,List.getElem?_cons_zero,List.getElem?_cons_succ];intro KK hKK;rw[if_pos (by rfl)];have hj:=HJ.o.put4 HK.o;go_wp2_with fail
   exact hKK _ _ ⟨⟨_,hj.b⟩,rfl⟩ (fun x=>∃y:Calm.On w1.heap.size w1,x=y.1) (fun _ h=>h) ⟨⟨_,hj.b⟩,rfl⟩ ⟨x12,x13,_,x15,x16,x5,At,ct,T,_,D,c,rfl,hj⟩
  ·simp only[CalmN.wpSt,List.getElem?_toArray,List.getElem?_cons_zero,List.getElem?_cons_succ];intro KK hKK;rw[if_pos (by rfl)];have hj:=HJ.o.put5 HK.o;go_wp2_with fail
   exact hKK _ _ ⟨⟨_,hj.b⟩,rfl⟩ (fun x=>∃y:Calm.On w1.heap.size w1,x=y.1) (fun _ h=>h) ⟨⟨_,hj.b⟩,rfl⟩ ⟨x12,x13,x14,_,x16,x5,At,ct,T,M,_,c,rfl,hj⟩
  ·have m2:=HD.o (6,2) (by simp) rfl;have m3:=HD.o (6,3) (by simp) rfl;have m4:=HD.o (6,4) (by simp) rfl;have m5:=HD.o (6,5) (by simp) rfl;obtain⟨rfl,_⟩:=HJ.o.h2 m2;obtain⟨rfl,_⟩:=HJ.o.h3 m3;obtain⟨rfl,_⟩:=HJ.o.h4 m4;obtain⟨rfl,_⟩:=HJ.o.h5 m5;have hj:=HJ.o.put6 m2 m3 m4 m5;simp only[CalmN.wpSt,List.getElem?_toArray,List.getElem?_cons_zero,List.getElem?_cons_succ];intro KK hKK;rw[if_pos (by rfl)];go_wp2_with fail
   exact hKK _ _ ⟨⟨_,hj.b⟩,rfl⟩ (fun x=>∃y:Calm.On w1.heap.size w1,x=y.1) (fun _ h=>h) ⟨⟨_,hj.b⟩,rfl⟩ ⟨_,_,_,_,_,x5,At,ct,T,M,D,c,rfl,hj⟩
  ·simp only[CalmN.wpSt,List.getElem?_toArray,List.getElem?_cons_zero,List.getElem?_cons_succ];intro KK hKK;rw[if_pos (by rfl)];have hj:=HJ.o.put7;go_wp2_with fail
   exact hKK _ _ ⟨⟨_,hj.b⟩,rfl⟩ (fun x=>∃y:Calm.On w1.heap.size w1,x=y.1) (fun _ h=>h) ⟨⟨_,hj.b⟩,rfl⟩ ⟨x12,x13,x14,x15,x16,_,At,ct,T,M,D,_,rfl,hj⟩
 ·intro a wx hJ hS;obtain⟨x12,x13,x14,x15,x16,x5,At,ct,T,M,D,c,rfl,hJ⟩:=hJ;obtain⟨rfl,hto⟩:=hJ.h2 (by simp);obtain⟨rfl,hT1,hT2⟩:=hJ.h3 (by simp);obtain⟨rfl,hM1,hM2⟩:=hJ.h4 (by simp);obtain⟨rfl,hD1,hD2⟩:=hJ.h5 (by simp);obtain⟨_,rfl⟩:=hJ.h6 (by simp);obtain⟨rfl,hc1,hc2⟩:=hJ.h7 (by simp);have HNE:Hid (T≠M/\T≠D/\M≠D):=aA ⟨hJ.d34 (by simp) (by simp),hJ.d35 (by simp) (by simp),hJ.d45 (by simp) (by simp)⟩;have hbx:=hJ.b;clear hS q0 q1 q2 q3 hJ;have lc:=(Array.getElem?_eq_some_iff.1 hc2).1;have f0:=frozen_of_row wx _ 0 _ _ hc2;have f1:=frozen_of_row wx _ 1 _ _ hc2;have f2:=frozen_of_row wx _ 2 _ _ hc2;have f3:=frozen_of_row wx _ 3 _ _ hc2;have f4:=frozen_of_row wx _ 4 _ _ hc2;have f5:=frozen_of_row wx _ 5 _ _ hc2;have f6:=frozen_of_row wx _ 6 _ _ hc2;have f7:=frozen_of_row wx _ 7 _ _ hc2;have k0:=cell_of_row wx _ 0 _ _ _ hc2;have k1:=cell_of_row wx _ 1 _ _ _ hc2;have k2:=cell_of_row wx _ 2 _ _ _ hc2;have k3:=cell_of_row wx _ 3 _ _ _ hc2;have k4:=cell_of_row wx _ 4 _ _ _ hc2;have k5:=cell_of_row wx _ 5 _ _ _ hc2;have k6:=cell_of_row wx _ 6 _ _ _ hc2;have k7:=cell_of_row wx _ 7 _ _ _ hc2;simp only[CalmN.wpT,CalmN.wpSt,CalmN.pickOps,List.getElem?_toArray,List.getElem?_cons_zero,List.getElem?_cons_succ];refine wpQuiet_nil ?_;intro KK hKK;rw[if_pos (by rfl)];unfold wrC;go_wp2_with fail
  obtain⟨wy,hwy⟩:∃y,y=(((((((wx.setCell ⟨c,0,none⟩ (.slice AT G.ts.length cT)).setCell ⟨c,1,none⟩ (.slice AN G.ns.length cN)).setCell ⟨c,2,none⟩ (.slice AR G.rs.length cR)).setCell ⟨c,3,none⟩ (.int .i64 G.st)).setCell ⟨c,4,none⟩ (.slice At (Lk.tlAll G).length ct)).setCell ⟨c,5,none⟩ (.map (some T))).setCell ⟨c,6,none⟩ (.map (some M))).setCell ⟨c,7,none⟩ (.map (some D)):=⟨_,rfl⟩
  have hgy:wx.grownBy wy (some c):=by
   rw[hwy];exact aF (aF (aF (aF (aF (aF (aF (aF (World.grownBy.refl _ _) _ _) _ _) _ _) _ _) _ _) _ _) _ _) _ _
  have hcy:wy.heap[c]?=some (.cells (wrC (.slice AT G.ts.length cT) (.slice AN G.ns.length cN) (.slice AR G.rs.length cR) (.int .i64 G.st) (.slice At (Lk.tlAll G).length ct) T M D) 110 (0,0)):=by
   rw[hwy];exact heap_setCell_same _ c 7 _ _ _ (heap_setCell_same _ c 6 _ _ _ (heap_setCell_same _ c 5 _ _ _ (heap_setCell_same _ c 4 _ _ _ (heap_setCell_same _ c 3 _ _ _ (heap_setCell_same _ c 2 _ _ _ (heap_setCell_same _ c 1 _ _ _ (heap_setCell_same wx c 0 _ _ _ hc2)))))))
  rw[<-hwy];have hby:Below w1.heap.size w1 wy:=zaa hbx hgy hc1 hbx.size
  have hoff:∀(g:Nat) (o:Obj),wx.heap[g]?=some o->(∀cs t f,o=Obj.cells cs t f->t≠110)->wy.heap[g]?=some o:=fun g o h1 h2=>(hgy.block g (Array.getElem?_eq_some_iff.1 h1).1 (fun e=>by
   injection e with e;rw[e,hc2]at h1;injection h1 with h1;exact h2 _ _ _ h1.symm rfl)).trans h1
  have HTY:Hid (Mw.MapIs wkE wy T []):=aA ⟨#[],0,hoff _ _ hT2 (fun _ _ _ e=>by cases e),rfl,by simp,by simp⟩;have HMY:Hid (Mw.MapU wkE wy M (Lk.encM [])):=aA ⟨#[],0,hoff _ _ hM2 (fun _ _ _ e=>by cases e),rfl,by simp[Lk.encM],by simp[Lk.encM],by simp,by simp⟩;have HDY:Hid (Mw.MapU enE wy D (Lk.encM [])):=aA ⟨#[],0,hoff _ _ hD2 (fun _ _ _ e=>by cases e),rfl,by simp[Lk.encM],by simp[Lk.encM],by simp,by simp⟩
  have HTO:Hid (bU wy At G):=aA (hto.keep hgy.size fun g cur ty hty hc=>hoff _ _ hc (fun _ _ _ e=>by
   injection e with _ e _;rcases hty with rfl|rfl <;> rw[<-e] <;> decide))
  have HCY:=aA hcy;have HBY:=aA hby;have HGE:Hid (w1.heap.size<=T/\w1.heap.size<=M/\w1.heap.size<=D/\w1.heap.size<=c):=aA ⟨hT1,hM1,hD1,hc1⟩;refine hKK _ _ ⟨⟨wy,hby⟩,rfl⟩ (fun x=>∃y:Calm.On w1.heap.size w1,x=y.1) (fun _ h=>h) ⟨⟨wy,hby⟩,rfl⟩ ?_;clear hKK k0 k1 k2 k3 k4 k5 k6 k7 f0 f1 f2 f3 f4 f5 f6 f7 lc hwy hgy hcy hby hoff hto hT1 hT2 hM1 hM2 hD1 hD2 hc1 hc2 hbx hmm;refine wpQuiet_nil ?_;have HTS0:=aA (Lk.TS.start E);have hnI:(n:Int)<=300:=by have:=HN.o;have:=HZ.o;have:=HK3.o;omega
  go_wp2;go_loopw [19] (fun vi wr=>∃(i:Nat) (tl:List ((Int×Int)×Value)),i<=n/\vi=.int .i64 i/\Hid (Lk.TS E i 0 tl)/\Hid (Mw.MapIs wkE wr T tl)/\Hid (wy.grownBy wr (some T))) (fun vi _=>n-(intOf vi).toNat)
  case atStart=>exact⟨0,[],Nat.zero_le _,rfl,HTS0,HTY,aA (World.grownBy.refl _ _)⟩
  case round =>
   obtain⟨i,tl,hi,rfl,HTS,HTM,HG⟩:=hrel;rename World=>wr;by_cases hlt:i<n
   ·have hin:i<(K.zip E).length:=by rw[HN.o];exact hlt
    obtain⟨ga,oa,rfl,hga,⟨A1,c1,a1⟩,A2,c2,a2,b3⟩:=zlC HA.o i hin;have hie:i<E.length:=by have:=HEL.o;have:=HZ.o;have:=HN.o;omega
    have hze:(K.zip E)[i].2=E[i]:=by rw[List.getElem_zip]
    have hgd:E.getD i []=E[i]:=by rw[List.getD_eq_getElem?_getD,List.getElem?_eq_getElem hie];rfl
    rw[hze,<-hgd]at a2;have a3:RdQ 2 prF w w.heap.size A2 (E.getD i []):=by rw[hgd,<-hze];exact b3
    have HWR:Hid (Below w.heap.size w wr):=aA (zaa (HB1.o.trans (HBY.o.mono HB1.o.size)) HG.o (Nat.le_trans HB1.o.size HGE.o.1) (Nat.le_trans HB1.o.size HBY.o.size));have k0:=(HWR.o.cell (p:=⟨ga,oa+i*2,none⟩) hga).trans a1;have k1:=(HWR.o.cell (p:=⟨ga,oa+i*2+1,none⟩) hga).trans a2;have HA3:=aA a3;have HPT:=aA (fun(j:Nat) (tl2:List ((Int×Int)×Value)) (h:Lk.TS E i j tl2) (hj:j<(E.getD i []).length)=>h.put (by rw[hgd];exact HND.o i hie) hj);have HNX:=aA (fun(tl2:List ((Int×Int)×Value)) (h:Lk.TS E i (E.getD i []).length tl2)=>h.next);have HEN:=aA (fun(e:Int×Int) (he:e∈E.getD i [])=>HEI.o i hie e (by rw[<-hgd];exact he))
    have HESL:Hid ((E.getD i []).length<=100000):=aA (by
     rw[hgd];exact HEC.o i hie)
    have HLT:=aA hlt;clear b3 a3 a1;generalize (K.zip E)[i].1.length=n1 at *;clear hze a2;clear hin hie hgd;generalize E.getD i []=es at *;obtain⟨wi,hwi⟩:∃y,y=wr.alloc (.cells #[.slice A1 n1 c1,.slice A2 es.length c2] 56):=⟨_,rfl⟩
    have HBI:Hid (Below wr.heap.size wr wi):=aA (by rw[hwi];exact(Below.refl _ _).alloc (Nat.le_refl _) _);have hbi:wi.heap[wr.heap.size]?=some (.cells #[.slice A1 n1 c1,.slice A2 es.length c2] 56 (0,0)):=by rw[hwi];exact heap_alloc_new wr _
    have z1:wi.cell? ⟨wr.heap.size,1,none⟩=some (.slice A2 es.length c2):=cell_of_row wi _ 1 _ _ _ hbi;have HMI:=aA (HTM.o.block (HBI.o.block _ HTM.o.lt));have hiI:((i:Nat):Int)<((n:Nat):Int):=by omega
    have hesI:(es.length:Int)<=100000:=by have:=HESL.o;omega
    go_upto_region 5 with fail
    rw[<-hwi];clear hwi k0 k1 hbi;go_wp2;clear z1;go_loopw [27] (fun vj wz=>∃(j:Nat) (tl2:List ((Int×Int)×Value)),j<=es.length/\vj=.int .i64 j/\Hid (Lk.TS E i j tl2)/\Hid (Mw.MapIs wkE wz T tl2)/\Hid (wi.grownBy wz (some T))) (fun vj _=>es.length-(intOf vj).toNat)
    case atStart=>exact⟨0,tl,Nat.zero_le _,rfl,HTS,HMI,aA (World.grownBy.refl _ _)⟩
    case round =>
     obtain⟨j,tl2,hj,rfl,HT2,HM2,HG2⟩:=hrel;rename World=>wz;have HGZ:Hid (wy.grownBy wz (some T)):=aA (zac (zac HG.o (aM HBI.o _)) HG2.o);by_cases hjl:j<es.length
     ·obtain⟨g3,o3,rfl,hg3,hc3⟩:=HA3.o (by omega);have HWZ:Hid (Below w.heap.size w wz):=aA (zaa (HB1.o.trans (HBY.o.mono HB1.o.size)) HGZ.o (Nat.le_trans HB1.o.size HGE.o.1) (Nat.le_trans HB1.o.size HBY.o.size));have e0:=(HWZ.o.cell (p:=⟨g3,o3+j*2+0,none⟩) hg3).trans (hc3 j hjl 0 _ rfl);have e1:=(HWZ.o.cell (p:=⟨g3,o3+j*2+1,none⟩) hg3).trans (hc3 j hjl 1 _ rfl);rw[Nat.add_zero]at e0;have HP2:=aA (HPT.o j tl2 HT2.o hjl);have HXI:Hid (Gm.In ((i:Int),(es[j]).1).1/\Gm.In ((i:Int),(es[j]).1).2):=aA ⟨by unfold Gm.In;simp only;omega,HEN.o _ (List.getElem_mem hjl)⟩;have hjI:((j:Nat):Int)<((es.length:Nat):Int):=by omega
      have HJL:=aA hjl;clear hc3;generalize (es[j]).1=s at *;generalize (es[j]).2=tz at *;obtain⟨wj,hwj⟩:∃y,y=wz.alloc (.cells #[.int .i64 s,.int .i64 tz] 91):=⟨_,rfl⟩
      have HBJ:Hid (Below wz.heap.size wz wj):=aA (by rw[hwj];exact(Below.refl _ _).alloc (Nat.le_refl _) _);have hbj:wj.heap[wz.heap.size]?=some (.cells #[.int .i64 s,.int .i64 tz] 91 (0,0)):=by rw[hwj];exact heap_alloc_new wz _
      have y0:wj.cell? ⟨wz.heap.size,0,none⟩=some (.int .i64 s):=cell_of_row wj _ 0 _ _ _ hbj;have y1:wj.cell? ⟨wz.heap.size,1,none⟩=some (.int .i64 tz):=cell_of_row wj _ 1 _ _ _ hbj;have hcT:T≠c:=fun e=>by have:=HTY.o;rw[e]at this;exact this.not_cells HCY.o
      have hcz:wz.heap[c]?=some (.cells (wrC (.slice AT G.ts.length cT) (.slice AN G.ns.length cN) (.slice AR G.rs.length cR) (.int .i64 G.st) (.slice At (Lk.tlAll G).length ct) T M D) 110 (0,0)):=(HGZ.o.block c (Array.getElem?_eq_some_iff.1 HCY.o).1 (fun e=>by injection e with e;exact hcT e.symm)).trans HCY.o;have x5:wj.cell? ⟨c,5,none⟩=some (.map (some T)):=cell_of_row wj _ 5 _ _ _ (aC HBJ.o hcz);have HMJ:=aA (HM2.o.block (HBJ.o.block _ HM2.o.lt));have HST:=aA (Mw.run_put (x:=((i:Int),s)) HMJ.o wkK Tryz.underlying107 HXI.o (.int .i64 tz));clear hbj hcT hcz;go_upto_region 8 with fail
      rw[<-hwj];clear hwj e0 e1;go_wp2_with (at_mapUpdate;refine Mw.wpList_store rfl _ _ _ _ rfl HST.o rfl rfl rfl ?_;rintro w6 ⟨hm6,hg6⟩;have HM6:=aA hm6;have HG6:=aA (zac (zac HG2.o (aM HBJ.o (some T))) hg6);clear hm6 hg6)
      go_roundw
      case rel=>exact⟨j+1,_,HJL.o,by go_num,HP2,HM6,HG6⟩
      case measure=>simp[intOf];omega
     ·obtain rfl:j=es.length:=by omega
      have HN2:=aA (HNX.o _ HT2.o);go_wp2;go_roundw
      case rel=>exact⟨i+1,tl2,HLT.o,by go_num,HN2,HM2,HGZ⟩
      case measure=>simp[intOf];omega
   ·obtain rfl:i=n:=by omega
    have HTE:Hid (Lk.TS E E.length 0 tl):=aA (by have:=HTS.o;rwa [show i=E.length by have:=HEL.o;have:=HZ.o;have:=HN.o;omega]at this);have HWR:Hid (Below w.heap.size w wr):=aA (zaa (HB1.o.trans (HBY.o.mono HB1.o.size)) HG.o (Nat.le_trans HB1.o.size HGE.o.1) (Nat.le_trans HB1.o.size HBY.o.size));have hcT:T≠c:=fun e=>by have:=HTY.o;rw[e]at this;exact this.not_cells HCY.o
    have hcz:wr.heap[c]?=some (.cells (wrC (.slice AT G.ts.length cT) (.slice AN G.ns.length cN) (.slice AR G.rs.length cR) (.int .i64 G.st) (.slice At (Lk.tlAll G).length ct) T M D) 110 (0,0)):=(HG.o.block c (Array.getElem?_eq_some_iff.1 HCY.o).1 (fun e=>by injection e with e;exact hcT e.symm)).trans HCY.o;have HCR:=aA hcz
    have HTR:Hid (bU wr At G):=aA (HTO.o.keep HG.o.size fun g cur ty _ hc=>(HG.o.block g (Array.getElem?_eq_some_iff.1 hc).1 (fun e=>by
     injection e with e;rw[e]at hc;exact HTY.o.not_cells hc)).trans hc)
    have HMR:=aA (HMY.o.block (HG.o.block M HMY.o.lt (fun e=>by injection e with e;exact HNE.o.1 e.symm)));have HDR:=aA (HDY.o.block (HG.o.block D HDY.o.lt (fun e=>by injection e with e;exact HNE.o.2.1 e.symm)));have HGW:=aA (zhj G K E wr w1.heap.size B T M D AT AN AR At cT cN cR ct tl (HWG.o tl HTE.o) HK0.o (HGB.o wr HWR.o) (Nat.le_trans HB.o HB1.o.size) HTR.o (Nat.le_trans HBY.o.size HG.o.size) HTM.o HMR.o HDR.o HGE.o.1 HGE.o.2.1 HGE.o.2.2.1 HNE.o);have k0:wr.cell? ⟨c,0,none⟩=some (.slice AT G.ts.length cT):=cell_of_row wr _ 0 _ _ _ hcz;have k1:wr.cell? ⟨c,1,none⟩=some (.slice AN G.ns.length cN):=cell_of_row wr _ 1 _ _ _ hcz;have k2:wr.cell? ⟨c,2,none⟩=some (.slice AR G.rs.length cR):=cell_of_row wr _ 2 _ _ _ hcz;have k3:wr.cell? ⟨c,3,none⟩=some (.int .i64 G.st):=cell_of_row wr _ 3 _ _ _ hcz;have k4:wr.cell? ⟨c,4,none⟩=some (.slice At (Lk.tlAll G).length ct):=cell_of_row wr _ 4 _ _ _ hcz;have k5:wr.cell? ⟨c,5,none⟩=some (.map (some T)):=cell_of_row wr _ 5 _ _ _ hcz;have k6:wr.cell? ⟨c,6,none⟩=some (.map (some M)):=cell_of_row wr _ 6 _ _ _ hcz;have k7:wr.cell? ⟨c,7,none⟩=some (.map (some D)):=cell_of_row wr _ 7 _ _ _ hcz;have HCN:Hid (c≠M/\c≠D):=aA ⟨fun e=>by rw[e]at hcz;exact HMR.o.is.not_cells hcz,fun e=>by rw[e]at hcz;exact HDR.o.is.not_cells hcz⟩;clear hcT hcz;go_wp2_with fail
    refine HGW.o.mono ?_;rintro _ w9 ⟨rfl,MM',DD',hd9,hw9,hb9,hk9⟩;have x7:w9.cell? ⟨c,7,none⟩=some (.map (some D)):=cell_of_row w9 _ 7 _ _ _ ((hk9 c (Array.getElem?_eq_some_iff.1 HCR.o).1 HCN.o.1 HCN.o.2).trans HCR.o);have HD9:=aA hd9.is;have HI9:=aA hw9;have HB9:Hid (Below w.heap.size w w9):=aA (HWR.o.trans (hb9.mono HB1.o.size));clear hd9 hw9 hb9 hk9 k0 k1 k2 k3 k4 k5 k6 k7;go_wp2;go_ret
    exact⟨D,MM',DD',rfl,HD9.o,HI9.o,HB9.o⟩
namespace Lk
open Au Gm Go.Mw
noncomputable def lkPart (G:Gr) (K:List (List It)) (E:List (List (Int×Int))) (q n:Nat):List (Int×Int):=(List.range n).filterMap fun k=>(lkAt G K E q k).map fun v=>((k:Int),(v:Int))
theorem lkPart_zero (G:Gr) (K:List (List It)) (E:List (List (Int×Int))) (q:Nat):lkPart G K E q 0=[]:=rfl
theorem lkPart_none {G:Gr} {K:List (List It)} {E:List (List (Int×Int))} {q n:Nat} (h:lkAt G K E q n=none):lkPart G K E q (n+1)=lkPart G K E q n:=by
 unfold lkPart;rw[List.range_succ,List.filterMap_append];simp[h]
theorem lkPart_some {G:Gr} {K:List (List It)} {E:List (List (Int×Int))} {q n v:Nat} (h:lkAt G K E q n=some v):lkPart G K E q (n+1)=lkPart G K E q n++[((n:Int),(v:Int))]:=by
 unfold lkPart;rw[List.range_succ,List.filterMap_append];simp[h]
theorem lkPart_len (G:Gr) (K:List (List It)) (E:List (List (Int×Int))) (q n:Nat):(lkPart G K E q n).length<=n:=by
 unfold lkPart
 have:=List.length_filterMap_le (fun k=>(lkAt G K E q k).map fun v=>((k:Int),(v:Int))) (List.range n)
 simpa using this
theorem lkPart_all (G:Gr) (K:List (List It)) (E:List (List (Int×Int))) (q:Nat):lkPart G K E q G.rs.length=lkRow G K E q:=rfl
noncomputable def lkS (G:Gr):List (List (Int×Int)):=if isB G=true then(match bld G with|some p=>(List.range p.1.length).map (lkRow G p.1 p.2)|none=>[]) else []
theorem lk_no {G:Gr} (h:isB G=false):lkS G=[]:=by unfold lkS;rw[h];rfl
theorem lk_many {G:Gr} (h:isB G=true) (k:bld G=none):lkS G=[]:=by unfold lkS;rw[h,k];rfl
theorem lk_ok {G:Gr} {K:List (List It)} {E:List (List (Int×Int))} (h:isB G=true) (k:bld G=some (K,E)):lkS G=(List.range K.length).map (lkRow G K E):=by unfold lkS;rw[h,k];rfl
end Lk
def lkF (x:Int×Int):List Value:=[.int .i64 x.1,.int .u32 x.2]
theorem zc2 (x:Int×Int):(lkF x).length=2:=rfl
theorem zki (x:Int×Int):∀u∈lkF x,u.oneCell'=true:=fun u hu=>by
 simp[lkF]at hu;rcases hu with rfl|rfl <;> rfl
theorem zlR:(Tryz.prog.info? 46).map (fun i=>(i.zero,i.size,i.bytes))=some (some (.agg #[.int .i64 0,.int .u32 0]),2,16):=by kernel_rfl
theorem zkp:(Tryz.prog.info? 36).map (fun i=>(i.zero,i.size,i.bytes))=some (some (.slice none 0 0),1,24):=by kernel_rfl
theorem ziE (x:Int×Int) (w:World) (g:Nat) (hb:w.heap[g]?=some (.cells #[.int .i64 x.1,.int .u32 x.2] 46 (0,0))):∀j u,(lkF x)[j]?=some u->w.cell? ⟨g,j,none⟩=some u:=fun j u hu=>by
 refine(cell_of_row w g j _ _ _ hb).trans ?_
 match j,hu with
 | 0,hu=>exact hu
 | 1,hu=>exact hu
 | j+2,hu=>simp[lkF]at hu
def zkJ (G:Gm.Gr) (w:World) (e:Ending) (w':World):Prop :=
 ∃A c,e=.returned (.tuple #[.slice A (Lk.lkS G).length c,.int .i64 (Au.bldE G)])/\(Lk.lkS G).length<=c/\c<=9223372036854775807/\RdM 2 lkF w' w'.heap.size A (Lk.lkS G)/\Below w.heap.size w w'
theorem zkJ.nil {G:Gm.Gr} {w w':World} {er:Int} (h:Au.bldE G=er) (h2:Lk.lkS G=[]) (hb:Below w.heap.size w w'):zkJ G w (.returned (.tuple #[.slice none 0 0,.int .i64 er])) w':=by
 refine⟨none,0,?_,?_,by omega,?_,hb⟩
 ·rw[h,h2];rfl
 ·rw[h2];exact Nat.le_refl _
 ·rw[h2];exact RdM.nil _ _ _
theorem zlr {α:Type} (rs l:List α) (x:α) (i:Nat) (h:rs.length=i) (hi:i<(rs++[x]++l).length):(rs++[x]++l)[i]=x:=by
 subst h;simp
theorem mid_set {α:Type} (rs l:List α) (x y:α) (i:Nat) (h:rs.length=i):(rs++[x]++l).set i y=rs++[y]++l:=by
 subst h;simp
theorem UBQ.mid {α:Type} {T:TypeId} {w:World} {g i c:Nat} {rs l:List (RW α)} {xs:List α} {A:Option Addr} (h:UBQ T rwF w g (rs++[((xs,A,c):RW α)]++l)) (hi:rs.length=i):w.cell? ⟨g,i,none⟩=some (.slice A xs.length c):=by
 have hl:i<(rs++[((xs,A,c):RW α)]++l).length:=by rw[List.length_append,List.length_append,List.length_singleton];omega
 have:=h.cell zcR i 0 hl (.slice A xs.length c) (by rw[zlr rs l _ i hi hl];rfl)
 rw[Nat.mul_one,Nat.add_zero]at this;exact this
theorem zc6 (v:Value) (G:Gm.Gr) (B:Nat) (w:World) (hg:aT w B v G) (hf:Gm.Fit G) (hB:B<=w.heap.size) :
  Calls Tryz.prog 10 #[v] w (zkJ G w):=by
 have HBD:=aA (fun y (h:Below w.heap.size w y)=>zgd v G B y (hg.below h hB) hf (Nat.le_trans hB h.size));have HEN:=aA (fun(y:World) (h:Below w.heap.size w y) (Aa:Option Addr) (ca:Nat) (K:List (List Au.It)) (E:List (List (Int×Int))) (hb:Gm.isB G=true) (hk:Au.bld G=some (K,E)) (ha:zdm y y.heap.size Aa (K.zip E))=>zhk v G B y Aa ca K E (hg.below h hB) hf (Nat.le_trans hB h.size) hb hk ha);have HBW:=aA hB;obtain⟨AT,cT,AN,cN,AR,cR,rfl,_⟩:=hg;obtain⟨w1,hw1⟩:∃y,y=w.alloc (.cells #[.slice AT G.ts.length cT,.slice AN G.ns.length cN,.slice AR G.rs.length cR,.int .i64 G.st] 26):=⟨_,rfl⟩
 have HB1:Hid (Below w.heap.size w w1):=aA (by rw[hw1];exact(Below.refl _ _).alloc (Nat.le_refl _) _);have HX1:Hid (w1.heap[w.heap.size]?=some (.cells #[.slice AT G.ts.length cT,.slice AN G.ns.length cN,.slice AR G.rs.length cR,.int .i64 G.st] 26 (0,0))):=aA (by rw[hw1];exact heap_alloc_new w _);have HXL:Hid (w.heap.size<w1.heap.size):=aA (Array.getElem?_eq_some_iff.1 HX1.o).1;have HS:=aA (HBD.o w1 HB1.o);have x0:w1.cell? ⟨w.heap.size,0,none⟩=some (.slice AT G.ts.length cT):=cell_of_row w1 _ 0 _ _ _ HX1.o;have x1:w1.cell? ⟨w.heap.size,1,none⟩=some (.slice AN G.ns.length cN):=cell_of_row w1 _ 1 _ _ _ HX1.o;have x2:w1.cell? ⟨w.heap.size,2,none⟩=some (.slice AR G.rs.length cR):=cell_of_row w1 _ 2 _ _ _ HX1.o;have x3:w1.cell? ⟨w.heap.size,3,none⟩=some (.int .i64 G.st):=cell_of_row w1 _ 3 _ _ _ HX1.o;clear hf hB;cases hb:Gm.isB G with
 | false =>
  have HE:=aA (And.intro (Au.bld_no hb) (Lk.lk_no hb));unfold zjG at HS;rw[HE.o.1.1,HE.o.1.2]at HS;clear hb
  go_enter Tryz.func10,Tryz.ntmps10
  go_upto_region 1 with fail
  rw[<-hw1];clear hw1;go_wp2_with fail
  refine HS.o.mono ?_;rintro _ w2 ⟨Aa,ca,rfl,_,_,_,hb2⟩;have HB2:=aA (HB1.o.trans (hb2.mono HB1.o.size));clear hb2 x0 x1 x2 x3;generalize ([]:List StT).length=nz at *;go_wp2
  go_ret2
  exact zkJ.nil HE.o.1.1 HE.o.2 HB2.o
 | true =>
  cases hk:Au.bld G with
  | none =>
   have HE:=aA (And.intro (Au.bld_many hb hk) (Lk.lk_many hb hk));unfold zjG at HS;rw[HE.o.1.1,HE.o.1.2]at HS;clear hb hk
   go_enter Tryz.func10,Tryz.ntmps10
   go_upto_region 1 with fail
   rw[<-hw1];clear hw1;go_wp2_with fail
   refine HS.o.mono ?_;rintro _ w2 ⟨Aa,ca,rfl,_,_,_,hb2⟩;have HB2:=aA (HB1.o.trans (hb2.mono HB1.o.size));clear hb2 x0 x1 x2 x3;generalize ([]:List StT).length=nz at *;go_wp2
   go_ret2
   exact zkJ.nil HE.o.1.1 HE.o.2 HB2.o
  | some p =>
   obtain⟨K,E⟩:=p;have HE:=aA (And.intro (Au.bld_ok hb hk) (Lk.lk_ok hb hk));obtain⟨hi,hE,hK3⟩:=Au.bld_inv hk;have hz:(K.zip E).length=K.length:=by rw[List.length_zip,hE,Nat.min_self]
   have hok:=Gm.right_ok.1 (Gm.isB_right hb);have HAT:=aA (fun(MM DD:Lk.MP) (h:Lk.WI G K E MM DD []) (i k:Nat) (hik:i<K.length) (hk:k<G.rs.length)=>h.at hi hE hok (fun x hx=>(Gm.isB_use hb x hx).2) hik hk);have HE2:=aA (fun(y:World) (h:Below w.heap.size w y) (Aa:Option Addr) (ca:Nat) (ha:zdm y y.heap.size Aa (K.zip E))=>HEN.o y h Aa ca K E hb hk ha)
   have HLL:=aA (fun(k v:Nat) (i:Nat) (h:Lk.lkAt G K E i k=some v)=>(show v<4294967296 from by
    unfold Lk.lkAt at h;split at h
    ·injection h with h;rw[<-h];exact Lk.laN_lt (by have:=(Gm.terms_iff G.ts).1 hok.t;omega) _ _
    ·cases h))
   have HR40:=aA hok.r40;have HK3:=aA hK3;have HZ:=aA hz;unfold zjG at HS;rw[HE.o.1.1,HE.o.1.2]at HS;clear hb hk hi hE hK3 hz hok
   go_enter Tryz.func10,Tryz.ntmps10
   go_upto_region 1 with fail
   rw[<-hw1];clear hw1;go_wp2_with fail
   refine HS.o.mono ?_;rintro _ w2 ⟨Aa,ca,rfl,hl2,hm2,hr2,hb2⟩;have HB2:=aA (HB1.o.trans (hb2.mono HB1.o.size));have HX2:=aA (aC hb2 HX1.o);have HE3:=aA (HE2.o w2 HB2.o Aa ca hr2);clear hb2 x0 x1 x2 x3 hr2 hl2 hm2;have x0:w2.cell? ⟨w.heap.size,0,none⟩=some (.slice AT G.ts.length cT):=cell_of_row w2 _ 0 _ _ _ HX2.o;have x1:w2.cell? ⟨w.heap.size,1,none⟩=some (.slice AN G.ns.length cN):=cell_of_row w2 _ 1 _ _ _ HX2.o;have x2:w2.cell? ⟨w.heap.size,2,none⟩=some (.slice AR G.rs.length cR):=cell_of_row w2 _ 2 _ _ _ HX2.o;have x3:w2.cell? ⟨w.heap.size,3,none⟩=some (.int .i64 G.st):=cell_of_row w2 _ 3 _ _ _ HX2.o;rw[HZ.o]at HE3 ⊢;obtain⟨n,hn⟩:∃n,K.length=n:=⟨_,rfl⟩
   rw[hn]at HE3 HK3 HZ HAT ⊢;have HN:=aA hn;clear hn;go_upto_region 4 with fail
   go_wp2_with fail
   refine HE3.o.mono ?_;rintro _ w3 ⟨D,MM,DD,rfl,hd3,hw3,hb3⟩;have HD3:=aA hd3;have HAK:=aA (HAT.o MM DD hw3);have HB3:=aA (HB2.o.trans (hb3.mono HB2.o.size));have HX3:=aA (aC hb3 HX2.o);clear hd3 hw3 hb3 x0 x1 x2 x3;have hnI:(n:Int)<=300:=by have:=HK3.o;omega
   have hn6:n<=1000000:=by have:=HK3.o;omega
   go_upto_region 6 with(at_make;refine zeo (m:=1) (f:=rwF (α:=Int×Int)) rfl (.tmp 24) (.tmp 24) _ rfl Tryz.underlying30 _ 24 zkp (by decide) (by decide) (by decide) (([],none,0):RW (Int×Int)) rfl n rfl rfl hn6 ?_;intro w4 hu4 hb4)
   obtain⟨gL,hgL⟩:∃g,g=w3.heap.size:=⟨_,rfl⟩
   rw[<-hgL]at hu4;rw[<-hgL];have HU4:Hid (UBQ 36 rwF w4 gL (([]:List (RW (Int×Int)))++List.replicate (n-0) ([],none,0))):=aA hu4;have HB4:=aA (HB3.o.trans (hb4.mono HB3.o.size));have HX4:=aA (aC hb4 HX3.o);have HD4:=aA (HD3.o.block (hb4.block D HD3.o.lt));have HGL:Hid (w.heap.size<gL):=aA (by rw[hgL];have:=HB3.o.size;have:=(Array.getElem?_eq_some_iff.1 HX3.o).1;omega);clear hu4 hb4 hgL hn6;go_wp2;go_loopw [28] (fun vi wr=>∃(i:Nat) (rs:List (RW (Int×Int))),i<=n/\vi=.int .i64 i/\Hid (rs.map (·.1)=(List.range i).map (Lk.lkRow G K E))/\Hid (∀r∈rs,bR 46 2 lkF wr 0 wr.heap.size r)/\Hid (UBQ 36 rwF wr gL (rs++List.replicate (n-i) ([],none,0)))/\Hid (Mw.MapIs enE wr D (Lk.encM DD))/\Hid (wr.heap[w.heap.size]?=some (.cells #[.slice AT G.ts.length cT,.slice AN G.ns.length cN,.slice AR G.rs.length cR,.int .i64 G.st] 26 (0,0)))/\Hid (Below w.heap.size w wr)) (fun vi _=>n-(intOf vi).toNat)
   case atStart=>exact⟨0,[],Nat.zero_le _,rfl,aA rfl,aA (by simp),HU4,HD4,HX4,HB4⟩
   case round =>
    obtain⟨i,rs,hi,rfl,HMP,HOK,HU,HD,HX,HW⟩:=hrel;rename World=>wr
    have hrl:rs.length=i:=by
     have:=congrArg List.length HMP.o
     simpa using this
    by_cases hlt:i<n
    ·have x2:wr.cell? ⟨w.heap.size,2,none⟩=some (.slice AR G.rs.length cR):=cell_of_row wr _ 2 _ _ _ HX.o;have hiI:((i:Nat):Int)<((n:Nat):Int):=by omega
     have HLT:=aA hlt;have HRL:=aA hrl;have hr40:(G.rs.length:Int)<=40:=by have:=HR40.o;omega
     obtain⟨N0,hN0⟩:∃N,N=wr.heap.size:=⟨_,rfl⟩
     rw[<-hN0]at HOK
     have HU0:Hid (UBQ 36 rwF wr gL (rs++[((Lk.lkPart G K E i 0,none,0):RW (Int×Int))]++List.replicate (n-(i+1)) ([],none,0))):=aA (by
      have:=HU.o
      rw[show n-i=(n-(i+1))+1 by omega,List.replicate_succ]at this;rw[Lk.lkPart_zero,List.append_assoc];exact this)
     have HO0:Hid (aQ 46 2 lkF wr N0 (.slice none (Lk.lkPart G K E i 0).length 0) (Lk.lkPart G K E i 0)):=aA (aQ.nil _ _);have HNS:Hid (N0<=wr.heap.size):=aA (by omega);have HGN:Hid (gL<N0/\D<N0/\w.heap.size<N0):=aA (by rw[hN0];exact⟨HU.o.lt,HD.o.lt,(Array.getElem?_eq_some_iff.1 HX.o).1⟩);clear hN0 hrl hlt;go_wp2;clear x2;go_loopw [34] (fun vk wz=>∃(k:Nat) (A:Option Addr) (c:Nat),k<=G.rs.length/\vk=.int .i64 k/\Hid (aQ 46 2 lkF wz N0 (.slice A (Lk.lkPart G K E i k).length c) (Lk.lkPart G K E i k))/\Hid (UBQ 36 rwF wz gL (rs++[((Lk.lkPart G K E i k,A,c):RW (Int×Int))]++List.replicate (n-(i+1)) ([],none,0)))/\Hid (∀r∈rs,bR 46 2 lkF wz 0 N0 r)/\Hid (Mw.MapIs enE wz D (Lk.encM DD))/\Hid (wz.heap[w.heap.size]?=some (.cells #[.slice AT G.ts.length cT,.slice AN G.ns.length cN,.slice AR G.rs.length cR,.int .i64 G.st] 26 (0,0)))/\Hid (Below w.heap.size w wz)/\Hid (N0<=wz.heap.size)) (fun vk _=>G.rs.length-(intOf vk).toNat)
     case atStart=>exact⟨0,none,0,Nat.zero_le _,rfl,HO0,HU0,HOK,HD,HX,HW,HNS⟩
     case round =>
      obtain⟨k,A,c,hk,rfl,HO,HUZ,HRZ,HDZ,HXZ,HWZ,HNZ⟩:=hrel;rename World=>wz;by_cases hkl:k<G.rs.length
      ·have hasc:=HAK.o i k HLT.o hkl;have HXI:Hid (Gm.In ((i:Int),(k:Int)).1/\Gm.In ((i:Int),(k:Int)).2):=aA ⟨by unfold Gm.In;simp only;omega,by unfold Gm.In;simp only;omega⟩;have lk:=Mw.run_look (E:=enE) HDZ.o enK (t:=67) Tryz.underlying67 (z:=.int .u32 0) (by kernel_rfl) (x:=((i:Int),(k:Int))) HXI.o true;have hkey:enE.enc ((i:Int),(k:Int))=.agg #[.int .i64 (i:Int),.int .i64 (k:Int)]:=rfl;rw[hkey,Lk.asc_enc,hasc]at lk;have HKL:=aA hkl;cases ha:Lk.lkAt G K E i k with
       | none =>
        rw[ha]at lk;simp only[Option.map_none,Option.getD_none,Option.isSome_none,if_true]at lk;have HPN:=aA (Lk.lkPart_none ha);clear ha hasc hkey;go_wp2;go_roundw
        case rel=>exact⟨k+1,A,c,HKL.o,by go_num,by rw[HPN.o];exact HO,by rw[HPN.o];exact HUZ,HRZ,HDZ,HXZ,HWZ,HNZ⟩
        case measure=>simp[intOf];omega
       | some u =>
        rw[ha]at lk;simp only[Option.map_some,Option.getD_some,Option.isSome_some,if_true]at lk;have HPN:=aA (Lk.lkPart_some ha);have HPL:=aA (Lk.lkPart_len G K E i k);have hul:=HLL.o k u i ha;clear ha hasc hkey;generalize Lk.lkPart G K E i k=xs at *;have cL:wz.cell? ⟨gL,i,none⟩=some (.slice A xs.length c):=HUZ.o.mid HRL.o;have HLA:Hid (Below wz.heap.size wz (wz.alloc (.cells #[.int .i64 (k:Int),.int .u32 (u:Int)] 46))):=aA ((Below.refl _ _).alloc (Nat.le_refl _) _);have HOA:=aA (HO.o.alloc (.cells #[.int .i64 (k:Int),.int .u32 (u:Int)] 46));have HNEW:=aA (heap_alloc_new wz (.cells #[.int .i64 (k:Int),.int .u32 (u:Int)] 46));have HUA:=aA (HUZ.o.below HLA.o HUZ.o.lt);have HNA:Hid (N0<=(wz.alloc (.cells #[.int .i64 (k:Int),.int .u32 (u:Int)] 46)).heap.size):=aA (Nat.le_trans HNZ.o HLA.o.size);have HBA:Hid (Below w.heap.size w (wz.alloc (.cells #[.int .i64 (k:Int),.int .u32 (u:Int)] 46))):=aA (HWZ.o.trans (HLA.o.mono (by have:=HWZ.o.size;omega)));have hOB:=fun j (e:(Value.slice A xs.length c).ownBlock=some j)=>(World.ownsRow.lt HOA.o j e).1;have HOB:=aA hOB;clear hOB;go_wp2_with (at_builtin;refine zhS (f:=lkF) rfl (.tmp 51) (.tmp 55) _ rfl Tryz.underlying36 _ 16 zlR (by decide) (by decide) (by decide) zc2 zki N0 _ xs rfl HOA.o _ _ ((k:Int),(u:Int)) rfl (ziE ((k:Int),(u:Int)) _ _ HNEW.o) (by have:=HPL.o;have:=HKL.o;omega) HNA.o ?_;intro v5 w5 ho5 hg5;have HG5:=aA hg5;have HU5:Hid (UBQ 36 rwF w5 gL (rs++[((xs,A,c):RW (Int×Int))]++List.replicate (n-(i+1)) ([],none,0))):=aA (aJ HOA.o hg5 HUA.o fun cur=>aK (by decide));have c5:=HU5.o.mid HRL.o;have f5:=HU5.o.frozen i;have l5:=HU5.o.lt;obtain⟨A5,c5',rfl,_,_,_⟩:=aQ.form ho5 zc2;have HO5:=aA ho5;clear hg5 ho5;generalize hln:(xs++[((k:Int),(u:Int))]).length=ln at *;have HLN:=aA hln;clear hln)
        have HO6:Hid (aQ 46 2 lkF (w5.setCell ⟨gL,i,none⟩ (.slice A5 ln c5')) N0 (.slice A5 ln c5') (xs++[((k:Int),(u:Int))])):=aA (World.ownsRow.kept HO5.o (aF (World.grownBy.refl _ _) i _) (zaf HO5.o HU5.o fun cur=>aK (by decide)))
        have HU6:Hid (UBQ 36 rwF (w5.setCell ⟨gL,i,none⟩ (.slice A5 ln c5')) gL (rs++[((xs++[((k:Int),(u:Int))],A5,c5'):RW (Int×Int))]++List.replicate (n-(i+1)) ([],none,0))):=aA (by
         have:=HU5.o.set1 i ((xs++[((k:Int),(u:Int))],A5,c5'):RW (Int×Int)) A5 ln c5' rfl HLN.o rfl
         rw[mid_set _ _ _ _ i HRL.o]at this;exact this)
        have hoff:∀(g:Nat) (cur:Array Value),g<N0->wz.heap[g]?=some (.cells cur 46 (0,0))->(w5.setCell ⟨gL,i,none⟩ (.slice A5 ln c5')).heap[g]?=some (.cells cur 46 (0,0)):=fun g cur h1 h2=>by
         have h3:=aC HLA.o h2;have h4:w5.heap[g]?=some (.cells cur 46 (0,0)):=(HG5.o.block g (Array.getElem?_eq_some_iff.1 h3).1 (fun e=>by have:=HOB.o g e.symm;omega)).trans h3;refine(Below.heap_setCell w5 ⟨gL,i,none⟩ _ g (fun e=>?_)).trans h4;have e:g=gL:=e;rw[e]at h4;have h5:=HU5.o;unfold UBQ at h5;rw[h4]at h5;injection h5 with h5;exact aK (by decide) h5
        have HR6:Hid (∀r∈rs,bR 46 2 lkF (w5.setCell ⟨gL,i,none⟩ (.slice A5 ln c5')) 0 N0 r):=aA (fun r hr=>(HRZ.o r hr).keep fun g cur _ h2 h3=>hoff g cur h2 h3)
        have HD6:Hid (Mw.MapIs enE (w5.setCell ⟨gL,i,none⟩ (.slice A5 ln c5')) D (Lk.encM DD)):=aA (by
         have hda:=HDZ.o.block (HLA.o.block D HDZ.o.lt);obtain⟨es,ck,hm,hr⟩:=hda;have hm5:=aJ HOA.o HG5.o hm fun cur e=>by cases e
         refine⟨es,ck,(Below.heap_setCell w5 ⟨gL,i,none⟩ _ D (fun e=>?_)).trans hm5,hr⟩
         have:=HGN.o
         have e:D=gL:=e;rw[e]at hm5;have h5:=HU5.o;unfold UBQ at h5;rw[hm5]at h5;cases h5)
        have HX6:Hid ((w5.setCell ⟨gL,i,none⟩ (.slice A5 ln c5')).heap[w.heap.size]?=some (.cells #[.slice AT G.ts.length cT,.slice AN G.ns.length cN,.slice AR G.rs.length cR,.int .i64 G.st] 26 (0,0))):=aA ((Below.heap_setCell w5 ⟨gL,i,none⟩ _ w.heap.size (fun e=>by have e:w.heap.size=gL:=e;have:=HGL.o;omega)).trans (aJ HOA.o HG5.o (aC HLA.o HXZ.o) fun cur=>aK (by decide)));have HW6:Hid (Below w.heap.size w (w5.setCell ⟨gL,i,none⟩ (.slice A5 ln c5'))):=aA ((HBA.o.grown HG5.o HBA.o.size (fun j e=>by have:=HOB.o j e;have:=HGN.o;omega)).setCell (by have:=HGL.o;simp only;omega) _);have HN6:Hid (N0<=(w5.setCell ⟨gL,i,none⟩ (.slice A5 ln c5')).heap.size):=aA (by have:=HNA.o;have:=HG5.o.size;simp;omega);clear hoff c5 f5 l5;go_roundw
        case rel=>exact⟨k+1,A5,c5',HKL.o,by go_num,by rw[HPN.o,HLN.o];exact HO6,by rw[HPN.o];exact HU6,HR6,HD6,HX6,HW6,HN6⟩
        case measure=>simp[intOf];omega
      ·obtain rfl:k=G.rs.length:=by omega
       rw[Lk.lkPart_all]at HO HUZ
       have HRN:Hid (∀r∈rs++[((Lk.lkRow G K E i,A,c):RW (Int×Int))],bR 46 2 lkF wz 0 wz.heap.size r):=aA (fun r hr=>by
        rcases List.mem_append.1 hr with hr|hr
        ·exact(HRZ.o r hr).more HNZ.o
        ·rw[List.mem_singleton.1 hr];obtain⟨A9,c9,e9,h1,h2,_⟩:=aQ.form HO.o zc2;injection e9 with e1 e2 e3;subst e1 e3;exact⟨h1,by unfold maxLen at h2;simp only;omega,(HO.o.rowG zc2).less (Nat.zero_le _)⟩)
       have HMN:Hid ((rs++[((Lk.lkRow G K E i,A,c):RW (Int×Int))]).map (·.1)=(List.range (i+1)).map (Lk.lkRow G K E)):=aA (by rw[List.map_append,HMP.o,List.range_succ,List.map_append];rfl);go_wp2;go_roundw
       case rel=>exact⟨i+1,_,HLT.o,by go_num,HMN,HRN,HUZ,HDZ,HXZ,HWZ⟩
       case measure=>simp[intOf];omega
    ·obtain rfl:i=n:=by omega
     have HR:Hid ((List.range i).map (Lk.lkRow G K E)=Lk.lkS G):=aA (by rw[HE.o.2,HN.o]);have HSL:Hid ((Lk.lkS G).length=i):=aA (by rw[<-HR.o];simp);rw[Nat.sub_self,List.replicate_zero,List.append_nil]at HU;go_wp2
     go_ret2
     refine⟨some ⟨gL,0,none⟩,i,?_,by rw[HSL.o];exact Nat.le_refl _,by omega,?_,HW.o⟩
     ·rw[HSL.o,HE.o.1.1];rfl
     ·have:=UBQ.rdM HU.o HU.o.lt HOK.o
      rw[HMP.o,HR.o]at this;exact this
namespace Lk
open Au Gm Go.Mw
def zkK (L:List (List It)):SS:=L.map fun l=>l.map fun _=>0
theorem zgj (L:List (List It)) (q:Nat):(zkK L).getD q []=(L.getD q []).map fun _=>0:=by
 unfold zkK;rw[List.getD_eq_getElem?_getD,List.getElem?_map,List.getD_eq_getElem?_getD];cases L[q]? <;> rfl
theorem zkQ (l:List It) (i:Nat):(l.map fun _=>(0:Nat)).getD i 0=0:=by
 rw[List.getD_eq_getElem?_getD,List.getElem?_map];cases l[i]? <;> rfl
theorem zd9 (L:List (List It)):Fit L (zkK L):=⟨by simp[zkK],fun q=>by rw[zgj,List.length_map]⟩
theorem zjJ (G:Gr) (E:List (List (Int×Int))) (L:List (List It)):Snd G E L (zkK L):=fun q x t h=>by
 obtain⟨i,_,h2⟩:=h;rw[zgj,zkQ,Nat.zero_testBit]at h2;cases h2
def zmj (G:Gr) (L:List (List It)):SS:=gv L (zkK L) 0 (-1,0) (2 ^ G.ts.length)
theorem zjM {n t:Nat} (h:(2 ^ n).testBit t=true):t=n:=by
 rw[Nat.testBit_two_pow]at h;exact(of_decide_eq_true h).symm
section
variable {G:Gr} {K:List (List It)} {E:List (List (Int×Int))}
theorem zhO (hi:Inv G K E):Fit (rowsL G K) (zmj G (rowsL G K))/\Snd G E (rowsL G K) (zmj G (rowsL G K))/\At (rowsL G K) (zmj G (rowsL G K)) 0 (-1,0) G.ts.length:=by
 refine⟨zcd (zd9 _) _ _ _,zhr (zd9 _) (zjJ _ _ _) fun t h=>by rw[zjM h];exact .st,(zfX (zd9 _)).2 (.inr ⟨rfl,rfl,by rw[Nat.testBit_two_pow];simp,?_⟩)⟩;have h0:=la_in hi (.st:La G E 0 (-1,0) G.ts.length);rw[zaP h0.1];exact List.getElem?_of_mem h0.2
end
def psC (nu:List Bool) (f:List Nat) (G:Gr) (tw:Nat->Int->Nat) (L:List (List It)) (S:SS) (p:Nat×Nat):SS :=
 match (L.getD p.1 [])[p.2]? with
 | none=>S
 | some x=>match nx G x with
  | none=>S
  | some sym=>if(S.getD p.1 []).getD p.2 0=0 then S else
   if 0<=sym then gv L S (tw p.1 sym) (x.1,x.2+1) ((S.getD p.1 []).getD p.2 0)
   else(List.range G.rs.length).foldl (ps1 G L p.1 sym (ofN nu f ((S.getD p.1 []).getD p.2 0) (rest G x))) (gv L S (tw p.1 sym) (x.1,x.2+1) ((S.getD p.1 []).getD p.2 0))
theorem ps_c {G:Gr} {nu:List Bool} {f:List Nat} (h1:gn false G.rs G.ns.length=nu) (h2:fst G=f):ps G=psC nu f G:=by subst h1 h2;rfl
def prs (L:List (List It)):List (Nat×Nat):=(List.range L.length).flatMap fun q=>(List.range (L.getD q []).length).map fun i=>(q,i)
theorem zj2 {L:List (List It)} {q i:Nat} (hq:q<L.length) (hi:i<(L.getD q []).length):(q,i)∈prs L:=List.mem_flatMap.2 ⟨q,List.mem_range.2 hq,List.mem_map.2 ⟨i,List.mem_range.2 hi,rfl⟩⟩
theorem zlb {G:Gr} {tw:Nat->Int->Nat} {L:List (List It)} {S:SS} {q i:Nat} (h:¬(q<L.length/\i<(L.getD q []).length)):ps G tw L S (q,i)=S:=by
 have:(L.getD q [])[i]?=none:=by
  rw[List.getElem?_eq_none_iff];rcases Nat.lt_or_ge q L.length with hq|hq
  ·exact Nat.le_of_not_lt fun k=>h ⟨hq,k⟩
  ·rw[List.getD_eq_getElem?_getD,List.getElem?_eq_none hq];exact Nat.zero_le _
 unfold ps;simp only[this]
theorem zmI {G:Gr} {tw:Nat->Int->Nat} {L:List (List It)} {S:SS} (p:Nat×Nat) {q:Nat} {x:It} {t:Nat} (hf:Fit L S) (h:At L S q x t):At L (ps G tw L S p) q x t:=by
 have key:∀(q':Nat) (sym:Int) (s:Nat) (ks:List Nat) (S1:SS),Fit L S1->At L S1 q x t->At L (ks.foldl (ps1 G L q' sym s) S1) q x t:=by
  intro q' sym s ks;induction ks with
  | nil=>exact fun _ _ h=>h
  | cons k ks ih =>
   intro S1 hf1 h1;rw[List.foldl_cons];refine ih _ (zdE q' sym s S1 k hf1).1 ?_;unfold ps1;split
   ·exact(zfX hf1).2 (.inl h1)
   ·exact h1
 unfold ps;split
 ·exact h
 ·split
  ·exact h
  ·split
   ·exact h
   ·split
    ·exact(zfX hf).2 (.inl h)
    ·exact key _ _ _ _ _ (zcd hf _ _ _) ((zfX hf).2 (.inl h))
section
variable {G:Gr} {K:List (List It)} {E:List (List (Int×Int))}
structure Run (G:Gr) (K:List (List It)) (E:List (List (Int×Int))) (S:SS):Prop where
 f:Fit (rowsL G K) S
 s:Snd G E (rowsL G K) S
 b:At (rowsL G K) S 0 (-1,0) G.ts.length
theorem Run.beg (hi:Inv G K E):Run G K E (zmj G (rowsL G K)):=⟨(zhO hi).1,(zhO hi).2.1,(zhO hi).2.2⟩
theorem Run.ps {S:SS} (h:Run G K E S) (hi:Inv G K E) (hE:E.length=K.length) (hok:Ok G) (p:Nat×Nat):Run G K E (ps G (tow K E) (rowsL G K) S p) :=
 ⟨(zmH S p h.f).1,zla hok (fun _ _ _ hx hs=>(zi8 hi hE hok hx hs).1) S p h.f h.s,zmI p h.f h.b⟩
theorem Run.all (hi:Inv G K E) (hE:E.length=K.length) (hok:Ok G):∀(l:List (Nat×Nat)) (S:SS),Run G K E S->Run G K E (l.foldl (Lk.ps G (tow K E) (rowsL G K)) S)
 | [],_,h=>h
 | p::l,_,h=>Run.all hi hE hok l _ (h.ps hi hE hok p)
theorem Run.done {S:SS} (h:Run G K E S) (hr:∀p∈prs (rowsL G K),Lk.ps G (tow K E) (rowsL G K) S p=S):Done G K E S:=⟨h.f,h.s,h.b,fun q i=>by
 by_cases c:q<(rowsL G K).length/\i<((rowsL G K).getD q []).length
 ·exact hr _ (zj2 c.1 c.2)
 ·exact zlb c⟩
theorem zmP {S:SS} {L:List (List It)} (hB:isB G=true) (hb:bld G=some (K,E)) (hd:Done G K E S) (hok:Ok G) (hL:rowsL G K=L):lkS G=(List.range K.length).map fun q=>zdX G (L.getD q []) (S.getD q []) (L.getD q []).length:=by
 have hi:=bld_inv hb;rw[lk_ok hB hb];refine List.map_congr_left fun q hq=>?_;have hq:=List.mem_range.1 hq;rw[<-zlt hd hi.1 hi.2.1 hok hq,<-hL,zaP hq]
theorem lkS_c2 {nu:List Bool} {f:List Nat} {L:List (List It)} {S:SS} (hB:isB G=true) (hb:bld G=some (K,E)) (hok:Ok G) (hL:rowsL G K=L) (h1:gn false G.rs G.ns.length=nu) (h2:fst G=f)
  (n:Nat) (hS:(List.replicate n (prs L)).flatten.foldl (psC nu f G (tow K E) L) (zmj G L)=S) (hr:∀p∈prs L,psC nu f G (tow K E) L S p=S):lkS G=(List.range K.length).map fun q=>zdX G (L.getD q []) (S.getD q []) (L.getD q []).length:=by
 have hi:=bld_inv hb;have hR:=Run.all hi.1 hi.2.1 hok (List.replicate n (prs L)).flatten _ (Run.beg hi.1);rw[hL,ps_c h1 h2,hS]at hR;exact zmP hB hb (hR.done (by rw[hL,ps_c h1 h2];exact hr)) hok hL
end
end Lk
end Go.Proofs.YtcmhaemaophplaaGreat
namespace Go.Proofs.YtcmhaemaophplaaGreat
set_option maxRecDepth 100000
set_option maxHeartbeats 40000000
open Go.RowKit
def rd (L:List Int):Option (Gm.R Gm.Gr):=match zjN L with
 | .bad _ _=>none
 | .ok xs=>match Y.source xs with
  | .ok s _=>some (Gm.build s.1 s.2)
  | .bad _=>none
end Go.Proofs.YtcmhaemaophplaaGreat
