/- Part of the proofs over this program: LkGrow, AuMv, AuEdge, AuBuild, LkEnds, LkEnds2. -/
import Derived.Test.YtcmhaemaophplaaGreatXL
set_option linter.all false
open Go.RowKit Go.Proofs.Tryz
set_option maxRecDepth 100000
set_option maxHeartbeats 40000000
namespace Go.Proofs.YtcmhaemaophplaaGreat
variable {A:Option Go.Addr} {B D M NE b base g i m n:Nat} {E es:List (List (Int×Int))} {G:Gm.Gr} {p:Go.Addr} {s:Int} {u v v':Go.Value} {w w':Go.World} {xs:List Go.Value}
def GY (w:World) (M:Nat):Nat:=match w.heap[M]? with
 | some (.map es _)=>(es.toList.map fun e=>match e.val with | .int _ n=>Lk.pc n.toNat|_=>0).sum
 | _=>0
def FW (w:World) (gc:Nat):Nat:=match w.cell? ⟨gc,0,none⟩ with
 | some (.slice _ n _)=>n
 | _=>0
theorem Lv {MM:Lk.MP} (h:Mw.fx qL w M (Lk.gV MM)):GY w M=Lk.jo MM:=by
 obtain⟨es,ck,hb,he,_⟩:=h;unfold GY;rw[hb];simp only;have e1:(es.toList.map fun e=>match e.val with | .int _ n=>Lk.pc n.toNat|_=>0)=(es.toList.map fun e=>(e.key,e.val)).map (fun p=>match p.2 with | .int _ n=>Lk.pc n.toNat|_=>0):=by rw[Ef];rfl
 rw[e1,he];unfold Lk.gV Lk.jo;rw[Ef,Ef]
 congr 1
theorem LL {gc c:Nat} (h:w.cell? ⟨gc,0,none⟩=some (.slice A n c)):FW w gc=n:=by unfold FW;rw[h]
theorem Lk.u5 (x:Int×Int) {P:Nat} (hP:P≠0):vM [] x P=[(x,P)]/\vS [] [] x P=[x]:=by
 have h:Lk.gN ([]:Lk.MP) x=0:=rfl;unfold vM vS;rw[h,Nat.zero_or,AI hP,AI hP];unfold Lk.qK;rw[h,Nat.zero_or];exact⟨rfl,rfl⟩
theorem O2 (G:Gm.Gr) (K:List (List Au.It)) (E:List (List (Int×Int))) (w:World) (base B T M D:Nat) (AT AN AR At:Option Addr) (cT cN cR ct:Nat) (tl:List ((Int×Int)×Value)) (hG:G3 G K E tl) (h0:0<K.length) (hg:aT w B (.agg #[.slice AT G.ts.length cT,.slice AN G.ns.length cN,.slice AR G.rs.length cR,.int .i64 G.st]) G) (hB:B<=base) (bb:b8 w At G) (hb:base<=w.heap.size) (hT:Mw.fx qL w T tl) (hM:Mw.jM qL w M (Lk.gV [])) (hD:Mw.jM qZ w D (Lk.gV [])) (bT:base<=T) (bM:base<=M) (bD:base<=D) (bc:T≠M/\T≠D/\M≠D) :
  Calls prog 49 #[.agg (qN (.slice AT G.ts.length cT) (.slice AN G.ns.length cN) (.slice AR G.rs.length cR) (.int .i64 G.st) (.slice At (Lk.fK G).length ct) T M D)] w fun e w'=>e=.returned (.tuple #[]) /\
   ∃MM' DD',Mw.jM qZ w' D (Lk.gV DD')/\Lk.WI G K E MM' DD' []/\Below base w w'/\∀g,g<w.heap.size->g≠M->g≠D->w'.heap[g]?=w.heap[g]?:=by
 obtain⟨wb,C⟩:∃y,y=w.alloc (.cells (qN (.slice AT G.ts.length cT) (.slice AN G.ns.length cN) (.slice AR G.rs.length cR) (.int .i64 G.st) (.slice At (Lk.fK G).length ct) T M D) 110):=⟨_,rfl⟩
 have bd:Hid (Below w.heap.size w wb):=aA (by rw[C];exact(AB _ _).alloc (Af _) _);have aj:wb.heap[w.heap.size]?=some (.cells (qN (.slice AT G.ts.length cT) (.slice AN G.ns.length cN) (.slice AR G.rs.length cR) (.int .i64 G.st) (.slice At (Lk.fK G).length ct) T M D) 110 (0,0)):=by rw[C];exact AG w _
 have cu:=aA aj;have bf:wb.heap.size=w.heap.size+1:=by rw[C];simp
 obtain⟨wc,ad⟩:∃y,y=wb.alloc (.cells #[.slice none 0 0] 147):=⟨_,rfl⟩
 have bg:Hid (Below wb.heap.size wb wc):=aA (by rw[ad];exact(AB _ _).alloc (Af _) _);have ak:wc.heap[wb.heap.size]?=some (.cells #[.slice none 0 0] 147 (0,0)):=by rw[ad];exact AG wb _
 have k:Hid (Below w.heap.size w wc):=aA (bd.o.trans (bg.o.mono bd.o.size));have ae:=aA (aC bg.o aj);have al:=aA hb;have HB:=aA hB;have aa:Hid (0<=G.st/\G.st<G.ns.length/\G.ns.length<=40):=aA ⟨hG.xH.s0,hG.xH.s1,hG.hn⟩;have b3:Hid (S.bit (G.ts.length:Int)=2 ^ G.ts.length):=aA (S.kT (by have:=hG.ht;omega));have bh:Hid ((2:Nat) ^ G.ts.length<4294967296):=aA (by have:=BQ (n:=2) (by decide) hG.ht;omega);have bi:Hid ((2:Nat) ^ G.ts.length≠0):=aA (by have:0<2 ^ G.ts.length:=Nat.pow_pos (by decide);omega)
 have am:Hid (yg G wc base w.heap.size wb.heap.size T M D AT AN AR At cT cN cR ct tl [] [] []):=aA
  ⟨ae.o,⟨_,ak,aJ.nil _ _⟩,hT.block (k.o.block _ hT.lt),hM.block (k.o.block _ hM.lt),hD.block (k.o.block _ hD.lt),hb,by omega,bT,bM,bD,bc⟩
 have bj:Hid (bY wc wb.heap.size=none):=aA (zL (show wc.cell? ⟨wb.heap.size,0,none⟩=some (.slice none 0 0) from AF wc wb.heap.size 0 _ _ _ ak));have ao:=aA (Lk.WI.start (E:=E) h0 hG.xH hG.ht);have b4:=aA (Lk.yN bh.o bi.o ((0:Int),-1-G.st));have bk:Hid (K.length<=300/\G.ns.length<=40):=aA ⟨hG.hK,hG.hn⟩;have HN:=aA (fun w=>Ku G.st (by have:=aa.o;omega) (by have:=aa.o;omega) w);have b5:Hid (w.heap.size≠wb.heap.size/\w.heap.size≠M/\w.heap.size≠D):=aA ⟨by omega,by have:=hM.lt;omega,by have:=hD.lt;omega⟩;have b6:=aA hG;have b7:=aA (bb.below k.o);have b9:=aA hg;have cv:∀(fn:Fn) (first cap:Array Value) (w:World),(Instr.makeFunc fn first cap).run prog w=.ok (.func fn first cap) w:=fun _ _ _ _=>rfl;clear hG h0 hg hB bb hT hM hD bT bM bD bc aj ak hb
 go_enter func49,ntmps49
 go_upto_region 1 with fail
 rw[<-C];clear C;go_upto_region 2 with fail
 rw[<-ad];clear ad;obtain⟨gc,ap⟩:∃g,g=w.heap.size+1:=⟨_,rfl⟩
 rw[bf,<-ap]at am b5 bj;have aq:Hid (w.heap.size<gc):=aA (by omega);rw[<-ap];clear ap bf;go_upto_region 3 with fail
 have ca:Hid (Gm.In ((0:Int),-1-G.st).1/\Gm.In ((0:Int),-1-G.st).2):=aA ⟨by unfold Gm.In;simp only;omega,by have:=aa.o;unfold Gm.In;simp only;omega⟩;have bl:=aA (Lk.u5 ((0:Int),-1-G.st) bi.o);have bm:=aA (fun(y:World) (h:yg G y base w.heap.size gc T M D AT AN AR At cT cN cR ct tl [] [] [])=>JQ y base w.heap.size gc T M D _ _ _ _ _ tl [] [] [] ((0:Int),-1-G.st) (2 ^ G.ts.length) h ca.o bh.o (show(0:Nat)<4294967296 by decide) (by simp));rw[bl.o.1,bl.o.2]at bm;generalize hP:(2:Nat) ^ G.ts.length=P at *;have q0:∀y:jg [w.heap.size] wc,y.1.cell? ⟨w.heap.size,0,none⟩=some (.slice AT G.ts.length cT):=fun y=>y.row (by simp) ae.o rfl;have q3:∀y:jg [w.heap.size] wc,y.1.cell? ⟨w.heap.size,3,none⟩=some (.int .i64 G.st):=fun y=>y.row (by simp) ae.o rfl;have bo:Hid (∀y:World,y.heap[w.heap.size]?=wc.heap[w.heap.size]?->∃z:jg [w.heap.size] wc,y=z.1):=aA (fun y e1=>⟨⟨y,fun g hg=>by rw[AP.1 hg];exact e1⟩,rfl⟩);have u:=aA (bo.o wc.drew rfl);have ar:Hid (Below base w wc.drew):=aA ((k.o.mono al.o).trans (aB ((AB _ _).mono (Aj al.o k.o.size)) 1));have au:Hid (fE gc M D wc wc.drew):=aA (.below (aB (AB _ _) 1) am.o.nI);have av:Hid (b8 wc.drew At G):=aA (b7.o.below (aB (AB _ _) 1));have af:Hid (yg G wc.drew base w.heap.size gc T M D AT AN AR At cT cN cR ct tl [] [] []):=aA (am.o.below (aB (AB _ _) 1));refine CalmN.fk (fun x=>∃y:jg [w.heap.size] wc,x=y.1) (.one [0,1,2,3,6,7,8,9] 4 (.one [5] 10 (.one [] 11 (.fin [])))) (by kernel_rfl) (by kernel_rfl) (fun _ _ d _ _ h=>by cases d <;> exact h) u.o ?_;simp only[CalmN.fN,CalmN.fv,CalmN.fo,Az,Am,Ap];repeat (go_big_quiet_step (fail))
 refine Aw ?_;intro KK p;rw[AC (by rfl)];go_wp2_with fail
 refine(HN.o _).mono ?_;rintro _ wd ⟨rfl,bp⟩;rw[<-bp]at u af ar av au;clear bp;go_wp2_with fail
 refine p _ _ u.o _ (fun _ h=>h) u.o ?_;clear p;repeat (go_big_quiet_step (fail))
 refine Aw ?_;intro KK p;rw[AC (by rfl)];go_wp2_with fail
 refine(Iq _ _).mono ?_;rintro _ we ⟨rfl,bq⟩;rw[<-bq]at u af ar av au;rw[b3.o];clear bq;go_wp2_with fail
 refine p _ _ u.o _ (fun _ h=>h) u.o ?_;clear p q0 q3;refine Aw ?_;intro KK p;rw[AC (by rfl)];go_wp2_with fail
 refine(bm.o _ af.o).mono ?_;rintro _ wf ⟨rfl,ha,hb,hk⟩;have cb:=aA (av.o.uu hk af.o);have cc:=aA (au.o.trans hk);have cd:=aA ha;have ce:Hid (Below base w wf):=aA (ar.o.trans hb);have br:=aA (bo.o wf (ha.r.trans ae.o.symm));clear ha hb hk;go_wp2_with fail
 refine p _ _ br.o _ (fun _ h=>h) br.o ?_;clear p;refine Aw ?_;go_wp2;go_loopw [] (fun wr=>∃(M1 D1:Lk.MP) (s1:List (Int×Int)),Hid (yg G wr base w.heap.size gc T M D AT AN AR At cT cN cR ct tl M1 D1 s1)/\Hid (Lk.WI G K E M1 D1 s1)/\Hid (s1.length<=Lk.jo M1)/\Hid (b8 wr At G)/\Hid (fE gc M D wc wr)/\Hid (Below base w wr)) (fun wr=>2*(K.length*G.ns.length*32-GY wr M)+FW wr gc)
 case atStart=>exact⟨_,_,_,cd,ao,b4,cb,cc,ce⟩
 case round =>
  obtain⟨M1,D1,s1,HA,HI,HC,HT,bs,HW⟩:=hrel;obtain⟨v,F,t⟩:=HA.o.v;rcases List.eq_nil_or_concat s1 with rfl|⟨s,x,rfl⟩
  ·obtain⟨A,c,rfl,aw,ax,_⟩:=aJ.form t aI;have c0:=aS F;have hn:¬(0:Int)<(([]:List (Int×Int)).length:Int):=by simp
   clear F t aw ax;generalize ([]:List (Int×Int)).length=n at *;go_wp2;go_end0
   exact⟨rfl,M1,D1,HA.o.d,HI.o,HW.o,fun g h1 h2 h3=>(bs.o.fp g (Ah h1 k.o.size) (by have:=aq.o;omega) h2 h3 (by rw[bj.o];simp)).trans (k.o.block g h1)⟩
  ·rw[List.concat_eq_append]at t HA HI HC;obtain⟨q,bu,ay⟩:=HI.o.take;have az:=HI.o.xd;obtain⟨x1,x2⟩:=x;simp only[Prod.mk.injEq,and_true]at bu;subst bu;simp only at ay az;have cf:=aA ay;have cg:=aA az;obtain⟨gB,c,rfl,aw,ax,ch⟩:=aJ.addr t (by simp);have c0:=aS F;have ag:s.length<(s++[((q:Int),x2)]).length:=by simp
   have a0:(s++[((q:Int),x2)])[s.length]=((q:Int),x2):=by simp
   have e0:wr.cell? ⟨gB,s.length*2,none⟩=some (.int .i64 (q:Int)):=aJ.cellAt t aI s.length 0 ag _ (by rw[a0];rfl);have e1:wr.cell? ⟨gB,s.length*2+1,none⟩=some (.int .i64 x2):=aJ.cellAt t aI s.length 1 ag _ (by rw[a0];rfl);obtain⟨wx,ah⟩:∃y,y=wr.alloc (.cells #[.int .i64 (q:Int),.int .i64 x2] 112):=⟨_,rfl⟩
   have i:Hid (Below wr.heap.size wr wx):=aA (by rw[ah];exact(AB _ _).alloc (Af _) _);have ci:Hid (wx.heap[wr.heap.size]?=some (.cells #[.int .i64 (q:Int),.int .i64 x2] 112 (0,0))):=aA (by rw[ah];exact AG wr _);have cj:=aA (HA.o.below i.o);have f:=aC i.o F;have bv:=aA (t.below i.o (Af _));have a1:=bv.o.take aI s.length (CQ ag);rw[List.take_left]at a1;have j:=aA (cj.o.push f bv.o a1 (AJ _ _));have cx0:=aS f;have fx0:=AH wx gc 0 _ _ f;have lx0:=(Ad.1 f).1;have bw:gc≠wr.heap.size:=by have:=HA.o.nI;omega
   have a2:Hid ((wx.setCell ⟨gc,0,none⟩ (.slice (some ⟨gB,0,none⟩) s.length c)).heap[wr.heap.size]?=some (.cells #[.int .i64 (q:Int),.int .i64 x2] 112 (0,0))):=aA ((AU _ _ _ _ (fun e=>bw e.symm)).trans ci.o);have a3:Hid (Below base w (wx.setCell ⟨gc,0,none⟩ (.slice (some ⟨gB,0,none⟩) s.length c))):=aA ((HW.o.trans (i.o.mono (Aj al.o HW.o.size))).setCell HA.o.hg _)
   have a4:Hid (b8 (wx.setCell ⟨gc,0,none⟩ (.slice (some ⟨gB,0,none⟩) s.length c)) At G):=aA ((HT.o.below i.o).fp (by simp) fun g cur ty ck hc=>(AU wx ⟨gc,0,none⟩ _ g (fun e=>by
    have e:g=gc:=e;rw[e,f]at hc;injection hc with hc;injection hc with _ hc _;rcases ck with rfl|rfl
    ·exact absurd hc (by decide)
    ·exact absurd hc (by decide))).trans hc)
   have bx:Hid (fE gc M D wc (wx.setCell ⟨gc,0,none⟩ (.slice (some ⟨gB,0,none⟩) s.length c))):=aA ((bs.o.trans (.below i.o HA.o.nI)).push cx0 (AJ _ _) (.inl rfl) f);have SL:=fun w=>Hw (m:=2) w 147 underlying147 (fun _=>by kernel_rfl) (some ⟨gB,0,none⟩) c (s++[((q:Int),x2)]).length s.length (by omega);have a5:Hid (s.length<=Lk.jo M1):=aA (by have:=HC.o;omega);have cl:Hid (FW wr gc=s.length+1):=aA (by rw[LL c0];simp);have cm:=aA (Lv HA.o.m.is)
   have ab:IntKind.i64.wrap (((s++[((q:Int),x2)]).length:Int)-1)=(s.length:Int):=by
    have:(s++[((q:Int),x2)]).length=s.length+1:=by simp
    have h9:=a5.o;have cw:=HI.o.b.wh;have cx:=DH bk.o.1 bk.o.2;rw[this,B3 _ (by omega)];omega
   have a6:(0:Int)<(((s++[((q:Int),x2)]).length:Nat):Int):=by omega
   have ac:((s.length:Nat):Int)<(((s++[((q:Int),x2)]).length:Nat):Int):=by omega
   clear F t aw ax ch ag a0 ay az f a1 bw;generalize (s++[((q:Int),x2)]).length=ln at *;obtain⟨n,hn⟩:∃n,s.length=n:=⟨_,rfl⟩
   rw[hn]at e0 e1 SL ab ac j a2 a3 a4 bx;have cy:=aA hn;clear hn;go_upto_region 7 with fail
   rw[<-ah];clear ah c0 e0 e1 a6 ab ac;go_upto_region 8 with fail
   generalize wx.setCell ⟨gc,0,none⟩ (.slice (some ⟨gB,0,none⟩) n c)=wy at *;clear cx0 fx0 lx0 SL;have cn:=aA (PB G K E wy base B w.heap.size gc T M D AT AN AR At cT cN cR ct tl M1 D1 s q x2 b6.o (b9.o.below a3.o HB.o) HB.o a4.o j.o cf.o cg.o a5.o);have k0:=aS j.o.r;have k1:=aX j.o.r;have k2:=aY j.o.r;have k3:=bI j.o.r;have k4:=rU j.o.r;have k5:=rT j.o.r;have k6:=xw j.o.r;have k7:=GX j.o.r;have z0:=aS a2.o;have z1:=aX a2.o;go_wp2_with fail
   refine cn.o.mono ?_;rintro _ w8 ⟨rfl,MM',DD',st',ai,bz,a9,bX,ba⟩;have co:=aA (a4.o.uu ba j.o);have cp:=aA (bx.o.trans ba);have cq:=aA ai;have b0:=aA bz;have cr:Hid (Below base w w8):=aA (a3.o.trans bX);have cs:Hid (st'.length<=Lk.jo MM'):=aA (by have:=a9.l;have:=a5.o;omega);have b1:=aA a9
   have b2:Hid (FW w8 gc=st'.length/\GY w8 M=Lk.jo MM'):=aA ⟨by
    obtain⟨v8,h1,h2⟩:=ai.v;obtain⟨A8,c8,rfl,_,_,_⟩:=aJ.form h2 aI;exact LL (AF w8 gc 0 _ _ _ h1),Lv ai.m.is⟩
   clear ai bz a9 bX ba k0 k1 k2 k3 k4 k5 k6 k7 z0 z1;go_wp2;go_roundw
   case rel=>exact⟨MM',DD',st',cq,b0,cs,co,cp,cr⟩
   case measure =>
    rw[b2.o.1,b2.o.2,cl.o,cm.o];have h1:=b1.o.l;have h2:=b1.o.c;have h3:=b0.o.b.wh;omega
structure jO (G:Gm.Gr) (w:World) (base D:Nat) (l:List Au.It):Prop where
 m:∃ml,Mw.fx tF w D ml/\(∀s,(Mw.fF ml s=none/\Au.mv G l s=[]) \/ ∃v,Mw.fF ml s=some v/\Au.mv G l s≠[]/\aJ 60 2 fO w base v (Au.mv G l s)) /\
  ∀s s' v v',s≠s'->Mw.fF ml s=some v->Mw.fF ml s'=some v'->v'.ownBlock≠v.ownBlock
theorem KL {T:TypeId} {α:Type} {f:α->List Value} {xs:List α} (h:aJ T m f w base v xs) (h0:xs≠[]):∃g,v.ownBlock=some g/\base<=g/\g<w.heap.size:=by
 rcases h.2 with⟨_,h1⟩|⟨g,cap,cur,rfl,hb,hg,_⟩
 ·exact absurd (BB h1) h0
 ·exact⟨g,rfl,hb,(Ad.1 hg).1⟩
section
variable {G:Gm.Gr} {w w' w2:World} {base D:Nat} {l:List Au.It}
theorem jO.start (G:Gm.Gr) (w:World) (base:Nat) (h:Mw.fx tF w D []):jO G w base D []:=⟨[],h,fun s=>.inl ⟨rfl,rfl⟩,fun _ _ _ _ _ h=>by cases h⟩
theorem jO.fp (h:jO G w base D l) (hD:w'.heap[D]?=w.heap[D]?) (hk:∀g cur,base<=g->w.heap[g]?=some (.cells cur 60 (0,0))->w'.heap[g]?=some (.cells cur 60 (0,0))):jO G w' base D l:=by
 obtain⟨ml,h1,h2,h3⟩:=h;refine⟨ml,h1.block hD,fun s=>?_,h3⟩;rcases h2 s with q|⟨v,q1,q2,q3⟩
 ·exact .inl q
 ·refine .inr ⟨v,q1,q2,?_⟩;refine⟨q3.1,?_⟩;rcases q3.2 with h0|⟨g,cap,cur,e,aa,hg,hr⟩
  ·exact .inl h0
  ·exact .inr ⟨g,cap,cur,e,aa,hk g cur aa hg,hr⟩
theorem jO.below (h:jO G w base D l) (hb:Below w.heap.size w w'):jO G w' base D l:=h.fp (by obtain⟨ml,h1,_⟩:=h.m;exact hb.block _ h1.lt) fun g _ _ hg=>(hb.block g (Ad.1 hg).1).trans hg
theorem jO.skip (h:jO G w base D l) {x:Au.It} (hx:Au.nx G x=none):jO G w base D (l++[x]):=by
 obtain⟨ml,h1,h2,h3⟩:=h;refine⟨ml,h1,fun s=>?_,h3⟩;have e:Au.mv G (l++[x]) s=Au.mv G l s:=by rw[Au.rk,Au.nM (by rw[hx];simp),CF]
 rw[e];exact h2 s
theorem jO.put {ml:List (Int×Value)} {x:Au.It} (hx:Au.nx G x=some s) (h2:∀s,(Mw.fF ml s=none/\Au.mv G l s=[]) \/ ∃v,Mw.fF ml s=some v/\Au.mv G l s≠[]/\aJ 60 2 fO w base v (Au.mv G l s)) (h3:∀s s' v v',s≠s'->Mw.fF ml s=some v->Mw.fF ml s'=some v'->v'.ownBlock≠v.ownBlock) (hv:v=(Mw.fF ml s).getD (.slice none 0 0)) (ho:aJ 60 2 fO w' base v' (Au.mv G l s++[(x.1,x.2+1)])) (hg:w.grownBy w' v.ownBlock) (hat:v'.ownBlock=v.ownBlock \/ ∃j,w.heap.size<=j/\v'.ownBlock=some j) (hm:Mw.fx tF w2 D (Mw.gZ ml s v')) (aa:w'.grownBy w2 (some D)) (hD:∃es ck,w'.heap[D]?=some (.map es ck)):jO G w2 base D (l++[x]):=by
 obtain⟨es,ck,ab⟩:=hD;refine⟨_,hm,fun s'=>?_,fun s1 s2 v1 v2 ac e1 e2=>?_⟩
 ·rw[Mw.j9];by_cases e:s=s'
  ·subst e;rw[AC rfl];have e1:Au.mv G (l++[x]) s=Au.mv G l s++[(x.1,x.2+1)]:=by rw[Au.rk,Au.yz hx]
   rw[e1];exact .inr ⟨v',rfl,by simp,AO ho aa (aR ho ab fun cur e=>by cases e)⟩
  ·rw[AI e];have e1:Au.mv G (l++[x]) s'=Au.mv G l s':=by rw[Au.rk,Au.nM (by rw[hx];simp;exact e),CF]
   rw[e1];rcases h2 s' with q|⟨u,q1,q2,q3⟩
   ·exact .inl q
   ·have k1:aJ 60 2 fO w' base u (Au.mv G l s'):=AO q3 hg (by
     rcases h2 s with q|⟨u',p1,p2,p3⟩
     ·rw[hv,q.1];obtain⟨g,hg,_⟩:=KL q3 q2;exact .inr (by rw[hg];intro q;cases q)
     ·rw[hv,p1];exact .inr (h3 s s' u' u e p1 q1))
    exact .inr ⟨u,q1,q2,AO k1 aa (aR k1 ab fun cur e=>by cases e)⟩
 ·rw[Mw.j9]at e1 e2
  have key:∀s2 u,s≠s2->Mw.fF ml s2=some u->u.ownBlock≠v'.ownBlock:=fun s2 u hs eu q=>by
   rcases h2 s2 with k|⟨u',p1,p2,p3⟩
   ·rw[k.1]at eu;cases eu
   ·rw[p1]at eu;injection eu with eu;subst eu;obtain⟨g,ad,_,ae⟩:=KL p3 p2;rcases hat with hat|hat
    ·rw[hat]at q;rcases h2 s with k|⟨u2,r1,r2,r3⟩
     ·rw[hv,k.1,ad]at q;cases q
     ·rw[hv,r1]at q;exact h3 s s2 u2 u' hs r1 p1 q
    ·obtain⟨j,hj,hat⟩:=hat;rw[hat,ad]at q;injection q with q;omega
  by_cases a1:s=s1
  ·rw[AC a1]at e1;injection e1 with e1;subst e1;by_cases a2:s=s2
   ·exact absurd (a1.symm.trans a2) ac
   ·rw[AI a2]at e2;exact key s2 v2 a2 e2
  ·rw[AI a1]at e1;by_cases a2:s=s2
   ·rw[AC a2]at e2;injection e2 with e2;subst e2;exact fun q=>key s1 v1 a1 e1 q.symm
   ·rw[AI a2]at e2;exact h3 s1 s2 v1 v2 ac e1 e2
end
theorem P4 {a:World} {T:TypeId} (h:a.grownBy w (some D)) (ho:w.ownsRow base T m v n xs) (hg:w.grownBy w' v.ownBlock) (hb:a.heap.size<=base):a.grownBy w' (some D) :=
 ⟨hg.os.trans h.os,hg.tape.trans h.tape,hg.output.trans h.output,Aj h.size hg.size,fun i hi aa=>(hg.block i (Ah hi h.size) (fun e=>by have:=(Bk ho i e.symm).1;omega)).trans (h.block i hi aa)⟩
theorem Qe (v:Value) (G:Gm.Gr) (B:Nat) (w:World) (hg:aT w B v G) (ht:G.ts.length<=1000) (hn:G.ns.length<=1000) :
  Calls prog 74 #[v] w fun e w'=>∃v',e=.returned v'/\aV w' w.heap.size v' (Au.syms G)/\Below w.heap.size w w':=by
 obtain⟨AT,cT,AN,cN,AR,cR,rfl,⟨ao,ap⟩,⟨aq,ar⟩,_⟩:=hg;have ae:=aA (bE.start 26 w #[.slice AT G.ts.length cT,.slice AN G.ns.length cN,.slice AR G.rs.length cR,.int .i64 G.st]);have g0:=ae.o.c 0 _ rfl;have HE:Hid (Au.syms G=(List.range G.ts.length).map (fun i:Nat=>(i:Int))++(List.range G.ns.length).map fun i:Nat=>-1-(i:Int)):=aA rfl;rw[HE.o];clear HE;have au:(G.ts.length:Int)<=1000:=by omega
 have av:(G.ns.length:Int)<=1000:=by omega
 clear ht hn
 go_enter func74,ntmps74
 go_wp2;clear g0;go_loopw [3,9] (fun vl vi wr=>∃i:Nat,i<=G.ts.length/\vi=.int .i64 i/\Hid (aV wr (w.heap.size+1) vl ((List.range i).map fun i:Nat=>(i:Int)))/\Hid (bE 26 w #[.slice AT G.ts.length cT,.slice AN G.ns.length cN,.slice AR G.rs.length cR,.int .i64 G.st] wr)) (fun _ vi _=>G.ts.length-(intOf vi).toNat)
 case atStart=>exact⟨0,AV _,rfl,aA (aV.nil _ _),ae⟩
 case round =>
  obtain⟨i,hi,rfl,HO,HW⟩:=hrel;have hZ:=HW.o.size;obtain⟨A1,c1,rfl,ag,ah,d⟩:=aV.form HO.o;by_cases aa:i<G.ts.length
  ·have ab:Hid (((List.range i).map fun i:Nat=>(i:Int)).length<=1000):=aA (by simp;omega);have HE:Hid (((List.range (i+1)).map fun i:Nat=>(i:Int))=((List.range i).map fun i:Nat=>(i:Int))++[(i:Int)]):=aA (by rw[CH,Bf];rfl);clear d;generalize ((List.range i).map fun i:Nat=>(i:Int))=t at *;have f:=aA (HO.o.alloc (.cells #[.int .i64 (i:Int)] 3));have b:=aA (HW.o.alloc (.cells #[.int .i64 (i:Int)] 3));go_wp2_with (at_builtin;refine xQ rfl (.tmp 12) (.tmp 14) _ rfl underlying38 (w.heap.size+1) _ t rfl f.o _ _ (i:Int) rfl ((tS _ [.int .i64 (i:Int)] _ 0)) (by have:=ab.o;omega) b.o.size ?_;intro v2 w2 g j)
   have ac:=aA g;have ad:Hid (bE 26 w #[.slice AT G.ts.length cT,.slice AN G.ns.length cN,.slice AR G.rs.length cR,.int .i64 G.st] w2):=aA (DP b.o j b.o.size (fun k e=>(Bk f.o k e).1));clear g j;go_roundw
   case rel=>exact⟨i+1,aa,by go_num,aA (by rw[HE.o];exact ac.o),ad⟩
   case measure=>simp[intOf];omega
  ·obtain rfl:i=G.ts.length:=by omega
   obtain⟨wo,ai⟩:∃wo:World,wo=wr:=⟨_,rfl⟩
   subst ai;have g1:=HW.o.c 1 _ rfl;have aj:Hid (((List.range G.ts.length).map fun i:Nat=>(i:Int)).length<=1000):=aA (by simp;omega);clear d;generalize af:((List.range G.ts.length).map fun i:Nat=>(i:Int))=tl at *;have ak:=aA af;clear af;go_wp2;clear g1;go_loopw [3,20] (fun vl vi wr=>∃i:Nat,i<=G.ns.length/\vi=.int .i64 i/\Hid (aV wr (w.heap.size+1) vl (tl++(List.range i).map fun i:Nat=>-1-(i:Int)))/\Hid (bE 26 w #[.slice AT G.ts.length cT,.slice AN G.ns.length cN,.slice AR G.rs.length cR,.int .i64 G.st] wr)) (fun _ vi _=>G.ns.length-(intOf vi).toNat)
   case atStart=>exact⟨0,AV _,rfl,by simpa using HO,HW⟩
   case round =>
    obtain⟨i,hi,rfl,HO,HW⟩:=hrel;have hZ:=HW.o.size;obtain⟨A1,c1,rfl,ag,ah,d⟩:=aV.form HO.o;by_cases aa:i<G.ns.length
    ·have ab:Hid ((tl++(List.range i).map fun i:Nat=>-1-(i:Int)).length<=2000):=aA (by have:=aj.o;simp;omega);have HE:Hid ((tl++(List.range (i+1)).map fun i:Nat=>-1-(i:Int))=(tl++(List.range i).map fun i:Nat=>-1-(i:Int))++[-1-(i:Int)]):=aA (by rw[CH,Bf,Ci];rfl);have al:=aA (fun w=>IB (i:Int) (by omega) (by omega) w);clear d;generalize (tl++(List.range i).map fun i:Nat=>-1-(i:Int))=t at *;have f:=aA (HO.o.alloc (.cells #[.int .i64 (-1-(i:Int))] 3));have b:=aA (HW.o.alloc (.cells #[.int .i64 (-1-(i:Int))] 3));go_wp2_with fail
     refine(al.o _).mono ?_;rintro _ wz ⟨rfl,am⟩;subst am;go_wp2_with (at_builtin;refine xQ rfl (.tmp 23) (.tmp 26) _ rfl underlying38 (w.heap.size+1) _ t rfl f.o _ _ (-1-(i:Int)) rfl ((tS _ [.int .i64 (-1-(i:Int))] _ 0)) (by have:=ab.o;omega) b.o.size ?_;intro v2 w2 g j)
     have ac:=aA g;have ad:Hid (bE 26 w #[.slice AT G.ts.length cT,.slice AN G.ns.length cN,.slice AR G.rs.length cR,.int .i64 G.st] w2):=aA (DP b.o j b.o.size (fun k e=>(Bk f.o k e).1));clear g j;go_roundw
     case rel=>exact⟨i+1,aa,by go_num,aA (by rw[HE.o];exact ac.o),ad⟩
     case measure=>simp[intOf];omega
    ·obtain rfl:i=G.ns.length:=by omega
     have HX:Hid (aV wr w.heap.size (.slice A1 (tl++(List.range G.ns.length).map fun i:Nat=>-1-(i:Int)).length c1) (tl++(List.range G.ns.length).map fun i:Nat=>-1-(i:Int))):=aA (HO.o.mono (by omega));clear d;generalize hq:(tl++(List.range G.ns.length).map fun i:Nat=>-1-(i:Int))=q at *;have HQ:=aA hq;clear hq;go_wp2;go_ret
     exact⟨_,rfl,by rw[ak.o,HQ.o];exact HX.o,HW.o.below⟩
theorem OH {R:Nat} {T:TypeId} (h:w.ownsRow base T m v n xs) (hk:∀(g:Nat) (o:Obj),w.heap[g]?=some o->g≠R->g≠M->(∀cur fr,o ≠ .cells cur 56 fr)->(∀cur fr,o ≠ .cells cur 91 fr)->w'.heap[g]?=some o) (hR:∀cur,w.heap[R]? ≠ some (.cells cur T (0,0))) (hM:∀cur,w.heap[M]? ≠ some (.cells cur T (0,0))) (hT:T≠56) (hE:T≠91):w'.ownsRow base T m v n xs:=by
 refine⟨h.1,?_⟩;rcases h.2 with h0|⟨g,cap,cur,e,aa,hg,hr⟩
 ·exact .inl h0
 ·exact .inr ⟨g,cap,cur,e,aa,hk g _ hg (fun q=>hR cur (by rw[<-q];exact hg)) (fun q=>hM cur (by rw[<-q];exact hg)) (fun cur' fr q=>by injection q with _ q _;exact hT q) (fun cur' fr q=>by injection q with _ q _;exact hE q),hr⟩
theorem ON {R:Nat} {xs:List (Int×Int)} (h:aJ 91 2 fO w base v xs) (hk:fQ R M w w') (hR:∀cur,w.heap[R]? ≠ some (.cells cur 91 (0,0))) (hM:∀cur,w.heap[M]? ≠ some (.cells cur 91 (0,0))):aJ 91 2 fO w' base v xs:=by
 refine⟨h.1,?_⟩;rcases h.2 with h0|⟨g,cap,cur,e,aa,hg,hr⟩
 ·exact .inl h0
 ·exact .inr ⟨g,cap,cur,e,aa,hk.fp g _ hg (fun q=>hR cur (by rw[<-q];exact hg)) (fun q=>hM cur (by rw[<-q];exact hg)) (fun cur' fr q=>by injection q with _ q _;exact absurd q (by decide)),hr⟩
structure jt (R M:Nat) (w w':World):Prop where
 size:w.heap.size<=w'.heap.size
 fp:∀(g:Nat) (o:Obj),w.heap[g]?=some o->g≠R->g≠M->(∀cur fr,o ≠ .cells cur 56 fr)->(∀cur fr,o ≠ .cells cur 91 fr)->w'.heap[g]?=some o
theorem jt.refl (R M:Nat) (w:World):jt R M w w:=⟨Af _,fun _ _ h _ _ _ _=>h⟩
theorem jt.trans {R:Nat} {w2:World} (h:jt R M w w') (k:jt R M w' w2):jt R M w w2:=⟨Aj h.size k.size,fun g o h1 h2 h3 h4 h5=>k.fp g o (h.fp g o h1 h2 h3 h4 h5) h2 h3 h4 h5⟩
theorem jt.of {R:Nat} (h:fQ R M w w'):jt R M w w':=⟨h.size,fun g o h1 h2 h3 h4 _=>h.fp g o h1 h2 h3 h4⟩
theorem jt.own {R:Nat} (h:w.ownsRow base 91 2 v n xs) (hg:w.grownBy w' v.ownBlock):jt R M w w':=⟨hg.size,fun _ _ h1 _ _ _ h5=>aH h hg h1 fun cur=>h5 cur _⟩
theorem fQ.Fj {R:Nat} {a:World} {T:TypeId} (h:fQ R M a w) (ho:w.ownsRow base T m v n xs) (hg:w.grownBy w' v.ownBlock) (hb:a.heap.size<=base):fQ R M a w' :=
 ⟨Aj h.size hg.size,fun g o h1 h2 h3 h4=>(hg.block g (Ah (Ad.1 h1).1 h.size) (fun e=>by have:=(Bk ho g e.symm).1;have:=(Ad.1 h1).1;omega)).trans (h.fp g o h1 h2 h3 h4)⟩
theorem lE.apart {R:Nat} {g0 g1 g2 g3:Value} {qs:List QS} (h:lE w base R M NE g0 g1 g2 g3 qs):(∀cur T,T≠102->w.heap[R]? ≠ some (.cells cur T (0,0)))/\∀cur T,w.heap[M]? ≠ some (.cells cur T (0,0)):=by
 obtain⟨⟨vS,h1,_⟩,⟨l,h3,_⟩,_,_⟩:=h;refine⟨fun cur T hT e=>?_,fun cur T=>h3.is.fB⟩;rw[h1]at e;injection e with e;injection e with _ e _;exact hT e.symm
theorem lE.only {R:Nat} {g0 g1 g2 g3:Value} {qs:List QS} (h:lE w base R M NE g0 g1 g2 g3 qs) (hg:w.grownBy w' (some D)) (hD:∃es ck,w.heap[D]?=some (.map es ck)) (hM:D≠M):lE w' base R M NE g0 g1 g2 g3 qs:=by
 obtain⟨es,ck,hD⟩:=hD;obtain⟨⟨vS,h1,h2⟩,⟨l,h3,h4⟩,h5,h6⟩:=h;have hb:∀(g:Nat) (o:Obj),w.heap[g]?=some o->g≠D->w'.heap[g]?=some o:=fun g o h hn=>(hg.block g (Ad.1 h).1 (fun e=>by injection e with e;exact hn e)).trans h;have hc:∀(g:Nat) (cur:Array Value) (T:TypeId),w.heap[g]?=some (.cells cur T (0,0))->w'.heap[g]?=some (.cells cur T (0,0)):=fun g cur T h=>hb g _ h fun e=>by rw[e,hD]at h;cases h
 refine⟨⟨vS,hc _ _ _ h1,?_,fun q hq=>((h2.2 q hq).fp fun g cur T _ h=>hc g cur T h).more hg.size (Af _)⟩,⟨l,h3.block ?_,h4⟩,h5,h6⟩
 ·exact AO h2.1 hg (aR h2.1 hD fun cur e=>by cases e)
 ·exact hg.block _ h3.lt (fun e=>by injection e with e;exact hM e.symm)
theorem lE.Hg {R:Nat} {g0 g1 g2 g3:Value} {qs:List QS} {xs:List (Int×Int)} (h:lE w base R M NE g0 g1 g2 g3 qs) (ho:aJ 91 2 fO w b v xs) (hg:w.grownBy w' v.ownBlock) (hb:NE<=b):lE w' base R M NE g0 g1 g2 g3 qs:=by
 obtain⟨⟨vS,h1,h2⟩,⟨l,h3,h4⟩,h5,h6⟩:=h;have hc:∀(g:Nat) (cur:Array Value) (T:TypeId),T≠91->w.heap[g]?=some (.cells cur T (0,0))->w'.heap[g]?=some (.cells cur T (0,0)):=fun g cur T hT h=>aH ho hg h fun cur=>aG hT;refine⟨⟨vS,hc _ _ _ (by decide) h1,?_,fun q hq=>((h2.2 q hq).fp fun g cur T hT h=>?_).more hg.size (Af _)⟩,⟨l,h3.block ?_,h4⟩,h5,h6⟩
 ·rcases h2.1.2 with h0|⟨g,cap,cur,e,aa,ab,hr⟩
  ·exact⟨h2.1.1,.inl h0⟩
  ·exact⟨h2.1.1,.inr ⟨g,cap,cur,e,aa,hc _ _ _ (by decide) ab,hr⟩⟩
 ·rcases hT with⟨rfl,_⟩|⟨rfl,ac⟩
  ·exact hc _ _ _ (by decide) h
  ·exact(hg.block g (Ad.1 h).1 (fun e=>by have:=(Bk ho g e.symm).1;omega)).trans h
 ·obtain⟨es,ck,hm,_⟩:=h3;exact(aH ho hg hm fun cur e=>by cases e).trans hm.symm
open Go.ChangeShapes Go.WideShapes Go.Deep Go.RowKit Go.Joins in
theorem Kb {a:World} (h:a.grownBy w (some D)) (hD:∃es ck,a.heap[D]?=some (.map es ck)) (hc:a.cell? p=some u):w.cell? p=some u:=by
 obtain⟨es,ck,hD⟩:=hD
 have aa:some p.block≠some D:=fun e=>by
  injection e with e;unfold World.cell? at hc;rw[e,hD]at hc;cases hc
 rw[Ca (h.block p.block (Bj hc) aa)];exact hc
theorem PL {cl:List Au.It} {p:List (List Au.It)×List (Int×Int)} {qs:List QS} (A:Option Addr) (c:Nat) (hp:aZ qs=p.1) (aa:Au.mv G cl s≠[]):Au.jq G cl p s=(aZ (vE qs (Au.mv G cl s) A c),p.2++[(s,xy qs (Au.mv G cl s))]):=by
 unfold Au.jq vE xy;rw[AI aa,hp];by_cases h:Au.ij p.1 (Au.mv G cl s)<0
 ·rw[AI (by omega),AC h,AC h];have e:p.1.length=qs.length:=by rw[<-hp];unfold aZ;rw[Bh]
  rw[e,<-hp];unfold aZ bJ;rw[Bf];rfl
 ·rw[AC (by omega),AI h,AI h,hp]
theorem RE (qs new:List QS) (k:List Au.It) (A:Option Addr) (c:Nat) (h:∀q∈new,q.2.1=[]):∃new',vE (qs++new) k A c=qs++new'/\(∀q∈new',q.2.1=[])/\new'.length<=new.length+1:=by
 unfold vE;split
 ·refine⟨new++[bJ k A c],by rw[Ci],fun q hq=>?_,by simp⟩;rcases Bt.1 hq with hq|hq
  ·exact h q hq
  ·rw[AP.1 hq];rfl
 ·exact⟨new,rfl,h,by omega⟩
theorem Il {T:TypeId} (x:Int×Int) (w:World) (g:Nat) (hb:w.heap[g]?=some (.cells #[.int .i64 x.1,.int .i64 x.2] T (0,0))):∀j u,(fO x)[j]?=some u->w.cell? ⟨g,j,none⟩=some u:=fun j u hu=>by
 refine(AF w g j _ _ _ hb).trans ?_
 match j,hu with
 | 0,hu=>exact hu
 | 1,hu=>exact hu
 | j+2,hu=>simp[fO]at hu
def IC (G:Gm.Gr) (w:World) (base R M NE:Nat) (g0 g1 g2 g3:Value) (qs:List QS) (k:List Au.It) (e:Ending) (w':World):Prop :=
 ∃v new,e=.returned v/\aJ 91 2 fO w' w.heap.size v (Au.fS G (Au.iU G k) (aZ qs,[]) (Au.syms G)).2/\aZ (qs++new)=(Au.fS G (Au.iU G k) (aZ qs,[]) (Au.syms G)).1/\(∀q∈new,q.2.1=[])/\lE w' base R M NE g0 g1 g2 g3 (qs++new)/\Below base w w'/\fQ R M w w'
theorem OS (G:Gm.Gr) (w:World) (base R M NE B:Nat) (AT AN AR:Option Addr) (cT cN cR:Nat) (qs:List QS) (k:List Au.It) (A:Option Addr) (c:Nat) (hg:aT w B (.agg #[.slice AT G.ts.length cT,.slice AN G.ns.length cN,.slice AR G.rs.length cR,.int .i64 G.st]) G) (hf:Gm.Fit G) (U:Gm.Ok G) (hB:B<=base) (h:lE w base R M NE (.slice AT G.ts.length cT) (.slice AN G.ns.length cN) (.slice AR G.rs.length cR) (.int .i64 G.st) qs) (hk:vp 60 w base w.heap.size (k,A,c)) (hi:∀x∈k,Au.gj G x=true) (hl:k.length<=1000) (hq:qs.length<=1000) (hE:NE<=w.heap.size) :
  Calls prog 47 #[.pointer (some ⟨R,0,none⟩),.slice A k.length c] w (IC G w base R M NE (.slice AT G.ts.length cT) (.slice AN G.ns.length cN) (.slice AR G.rs.length cR) (.int .i64 G.st) qs k):=by
 have HG:=aA hg;have HF:=aA hf;have J:=aA U;have ba:=aA hB;have HH:=aA h;have HK:=aA hk;have HI:=aA hi;have HQ:=aA hq;have N:=aA h.fC;have cD:=aA hE;have O:=fun t w=>ET (P:=prog) t w;obtain⟨w1,aj⟩:∃y,y=w.alloc (.map #[] 0):=⟨_,rfl⟩
 have cE:w1.heap.size=w.heap.size+1:=by rw[aj];simp
 have C:Hid (Below w.heap.size w w1):=aA (by rw[aj];exact(AB _ _).alloc (Af _) _);have bz:Hid (Mw.fx tF w1 w.heap.size []):=aA (by rw[aj];exact Mw.fx.made tF w);have bD:=aA (h.below C.o)
 have bM:=aA (OT _ G B k A c w.heap.size w1 (hg.below C.o (Aj hB h.fC)) hf U (Aj hB (Aj h.fC C.o.size)) (hk.2.2.rd.below C.o (Af _)) C.o.size (fun x hx=>by
  have hx:=Au.fW.1 (hi x hx)
  have:=Au.nY U (Au.jk.2 hx.1)
  have:=U.kz
  unfold Gm.In
  omega) hl)
 rw[List.filter_eq_self.2 hi]at bM;have bT:Hid (∀x∈Au.iU G k,Au.gj G x=true):=aA (fun x hx=>Au.jR hx);have bb:Hid ((Au.iU G k).length<=287):=aA (Au.kU U U.kz k);obtain⟨⟨vS,h1,h2⟩,_⟩:=bD.o;have r0:=aS h1;have r1:=aX h1;have r2:=aY h1;have r3:=bI h1;unfold IC;generalize cF:Au.iU G k=cl at *;clear hg hf U hB h hk hi hq h1 h2 cF hE
 go_enter func47,ntmps47
 go_upto_region 2 with fail
 rw[<-aj];clear aj;go_wp2_with fail
 refine bM.o.mono ?_;rintro _ w2 ⟨v2,rfl,bX,ax⟩;obtain⟨A2,c2,rfl,bc,bd,ak⟩:=aJ.form bX aI;have cG:=aA ak;have b0:=aA ax;have b1:=aA (bD.o.below ax);have ay:Hid (Mw.fx tF w2 w.heap.size []):=aA (bz.o.block (ax.block _ bz.o.lt));have cH:Hid (jO G w2 w2.heap.size w.heap.size (cl.take 0)):=aA (jO.start G w2 _ ay.o);have dv:Hid (w.heap.size<w2.heap.size):=aA ay.o.lt;have cI:(cl.length:Int)<=287:=by have:=bb.o;omega
 clear bX ax ak r0 r1 r2 r3 bc bd cE O;obtain⟨D,cJ⟩:∃D,D=w.heap.size:=⟨_,rfl⟩
 have dw:=aA cJ;go_wp2;go_loopw [23] (fun vi wr=>∃i:Nat,i<=cl.length/\vi=.int .i64 i/\Hid (jO G wr w2.heap.size w.heap.size (cl.take i))/\Hid (w2.grownBy wr (some w.heap.size))) (fun vi _=>cl.length-(intOf vi).toNat)
 case atStart=>exact⟨0,AV _,rfl,cH,aA (AJ _ _)⟩
 case round =>
  obtain⟨i,hi,rfl,HM,HW⟩:=hrel;by_cases b:i<cl.length
  ·obtain⟨g,o,rfl,bf,hc⟩:=cG.o (by omega);obtain⟨es2,ck2,X,_⟩:=ay.o;have bg:∃es ck,w2.heap[w.heap.size]?=some (.map es ck):=⟨es2,ck2,X⟩
   have k0:wr.cell? ⟨g,o+i*2,none⟩=some (.int .i64 (cl[i]).1):=Kb HW.o bg (hc i b 0 _ rfl);have k1:wr.cell? ⟨g,o+i*2+1,none⟩=some (.int .i64 (cl[i]).2):=Kb HW.o bg (hc i b 1 _ rfl);have az:Hid (Au.gj G cl[i]=true):=aA (bT.o _ (AE b));have F:Hid (cl.take (i+1)=cl.take i++[cl[i]]):=aA (AL b);have r:Hid (Below w.heap.size w w2):=aA (C.o.trans (b0.o.mono C.o.size));have V:Hid (Below w.heap.size w wr):=aA (pF r.o HW.o (Af _) r.o.size);obtain⟨⟨vS,h1,h2⟩,_⟩:=b1.o;have cK:R≠w.heap.size:=fun e=>by rw[e,X]at h1;cases h1
   have b2:=(HW.o.block R (Ad.1 h1).1 (fun e=>by injection e with e;exact cK e)).trans h1;obtain⟨wi,a0⟩:∃y,y=wr.alloc (.cells #[.int .i64 (cl[i]).1,.int .i64 (cl[i]).2] 60):=⟨_,rfl⟩
   have Z:Hid (Below wr.heap.size wr wi):=aA (by rw[a0];exact(AB _ _).alloc (Af _) _);have b3:wi.heap[wr.heap.size]?=some (.cells #[.int .i64 (cl[i]).1,.int .i64 (cl[i]).2] 60 (0,0)):=by rw[a0];exact AG wr _
   have ac:=aA b3;have a1:=aA (aC Z.o b2);have b4:=aA (fun(y:World) (h:Below wi.heap.size wi y)=>JZ _ G B cl[i] y (HG.o.below (V.o.trans ((Z.o.trans (h.mono Z.o.size)).mono V.o.size)) (Aj ba.o N.o)) HF.o (Aj (Aj ba.o N.o) (Aj V.o.size (Aj Z.o.size h.size))));have b5:=aA (Au.oT az.o);have cL:=aA (fun s (h:Au.nx G cl[i]=some s)=>Au.qc J.o az.o h);have b6:=aA (Au.fW.1 az.o);have cM:=aA (Au.nY J.o (Au.jk.2 b6.o.1));have cO:=aA (fun s=>Au.sz G (cl.take i) s);clear hc bf bg X h1 h2 b2 b3 az;generalize cl[i]=x at *;go_upto_region 5 with fail
   rw[<-a0];clear a0 k0 k1;have z0:=fun z:Calm.On wi.heap.size wi=>aS (aC z.2 a1.o);have z1:=fun z:Calm.On wi.heap.size wi=>aX (aC z.2 a1.o);have z2:=fun z:Calm.On wi.heap.size wi=>aY (aC z.2 a1.o);have z3:=fun z:Calm.On wi.heap.size wi=>bI (aC z.2 a1.o);have q0:=fun z:Calm.On wi.heap.size wi=>aS (aC z.2 ac.o);have q1:=fun z:Calm.On wi.heap.size wi=>aX (aC z.2 ac.o);have b7:=aW wi;refine CalmN.fk (fun x=>∃z:Calm.On wi.heap.size wi,x=z.1) (.one [0,1,2,3,4] 5 (.fin [6,7,8,9,10])) (by kernel_rfl) (by kernel_rfl) (fun _ _ d _ _ h=>by cases d <;> exact h) b7.o ?_;simp only[CalmN.fN,CalmN.fv,CalmN.fo,Az,Am,Ap];repeat (go_big_quiet_step (fail))
   refine Aw ?_;intro KK a2;rw[AC (by rfl)];go_wp2_with fail
   refine(b4.o wi.drew (aB (AB _ _) 1)).mono ?_;rintro _ w3 ⟨rfl,ag⟩;have ag:Below wi.heap.size wi w3:=(aB (AB _ wi) 1).trans ag;have a3:=qP ag;have b9:Hid (Below wr.heap.size wr w3):=aA (Z.o.trans (ag.mono Z.o.size));have ca:=aA (HM.o.below b9.o);have bh:Hid (w2.grownBy w3 (some w.heap.size)):=aA (qO HW.o (aK b9.o _));have al:=aA (aC ag ac.o);rw[b5.o];clear ag z0 z1 z2 z3 q0 q1 b4 b7 b5;cases hq:Au.nx G x with
   | none =>
    have HX:=aA (ca.o.skip hq);clear hq;go_wp2_with fail
    refine a2 _ _ a3.o _ (fun _ h=>h) a3.o ?_;clear a2;repeat (go_big_quiet_step (fail))
    refine Aw ?_;go_wp2;go_roundw
    case rel=>exact⟨i+1,b,by go_num,aA (by rw[F.o];exact HX.o),bh⟩
    case measure=>simp[intOf];omega
   | some s =>
    have cb:=cL.o s hq;have cP:=Gm.iS.1 (Au.iZ.1 cb);have cQ:=(Gm.fG G).1 J.o.n;have aa:Hid (Gm.In s):=aA (by unfold Gm.In;have:=(Gm.fZ G.ts).1 J.o.t;omega);have dx:IntKind.i64.wrap (x.2+1)=x.2+1:=B3 _ (by have:=b6.o;have:=cM.o;omega);obtain⟨ml,O,ah,cc⟩:=ca.o.m;have ab:tF.enc s=.int .i64 s:=rfl;have lk:=Mw.gH (E:=tF) O FY (t:=140) underlying140 (z:=.slice none 0 0) (by kernel_rfl) (x:=s) aa.o false;rw[ab]at lk;simp only[DF,if_false]at lk;have cS:=aA (fun(y:World) (hy:Mw.fx tF y w.heap.size ml) (u:Value)=>Mw.pf (x:=s) hy FY underlying140 aa.o u)
    have ad:aJ 60 2 fO w3 w2.heap.size ((Mw.fF ml s).getD (.slice none 0 0)) (Au.mv G (cl.take i) s):=by
     rcases ah s with q|⟨v,p1,p2,p3⟩
     ·rw[q.1,q.2];exact aJ.nil _ _
     ·rw[p1];exact p3
    have bi:=aA ad;have dy:Hid ((Mw.fF ml s).getD (.slice none 0 0)=(Mw.fF ml s).getD (.slice none 0 0)):=aA rfl;generalize hv:(Mw.fF ml s).getD (.slice none 0 0)=v at *;have HV:=aA hv;have cU:=aA O;have cV:=aA ah;have cW:=aA cc;have cX:=aA hq;have x0:=aS al.o;have x1:=aX al.o;have cY:=aA (show(Au.mv G (cl.take i) s).length<=1000 by have:=cO.o s;have h2:=List.length_take_le i cl;have:=bb.o;rw[Bd]at *;omega);have ae:=aA (bi.o.alloc (.cells #[.int .i64 x.1,.int .i64 (x.2+1)] 60));have am:Hid (w2.grownBy (w3.alloc (.cells #[.int .i64 x.1,.int .i64 (x.2+1)] 60)) (some w.heap.size)):=aA (aL bh.o _);obtain⟨es3,ck3,bj,ao⟩:=cU.o;have cd:=(Bs w3 (.cells #[.int .i64 x.1,.int .i64 (x.2+1)] 60) w.heap.size (Ad.1 bj).1).trans bj;have cZ:=aA cd;have c3:=aA ao;have af:=aA (AG w3 (.cells #[.int .i64 x.1,.int .i64 (x.2+1)] 60));have ce:(some s:Option Int).isSome=true:=rfl;obtain⟨Av,nv,cv,c5⟩:∃A n c,v=.slice A n c:=by obtain⟨A,c,e,_⟩:=aJ.form ad aI;exact⟨A,_,c,e⟩
    clear hq cb cP cQ O ah cc hv ad bj cd ao;go_wp2_with fail
    refine a2 _ _ a3.o _ (fun _ h=>h) a3.o ?_;clear a2;repeat (go_big_quiet_step (fail))
    refine Aw ?_;subst c5;have dz:Hid (w2.heap.size<=w3.heap.size):=aA bh.o.size
    go_wp2_with (first
     | (at_builtin;refine Ki (f:=fO) rfl (.tmp 41) (.tmp 48) _ rfl underlying52 _ 16 xu (by decide) (by decide) (by decide) aI sM w2.heap.size _ (Au.mv G (cl.take i) s) rfl ae.o _ _ (x.1,x.2+1) rfl (FG (x.1,x.2+1) _ _ af.o) (by have:=cY.o;omega) am.o.size ?_;intro v5 w5 cf a4 ap;have bk:=aH ae.o a4 cZ.o (fun cur e=>by cases e);have c6:=cS.o w5 ⟨_,_,bk,c3.o⟩ v5)
     | (at_mapUpdate;refine Mw.iz rfl _ _ _ _ rfl c6 rfl rfl rfl ?_;rintro w6 ⟨cg,H⟩))
    have c7:Hid (w3.grownBy w5 (Value.slice Av nv cv).ownBlock):=aA (by
     have h1:w3.grownBy (w3.alloc (.cells #[.int .i64 x.1,.int .i64 (x.2+1)] 60)) (Value.slice Av nv cv).ownBlock:=aL (AJ _ _) _;exact qO h1 a4)
    have ch:v5.ownBlock=(Value.slice Av nv cv).ownBlock \/ ∃j,w3.heap.size<=j/\v5.ownBlock=some j:=ap.imp id fun e=>⟨_,by simp,e⟩
    have c8:=aA (jO.put cX.o cV.o cW.o HV.o.symm cf c7.o ch cg H ⟨_,_,bk⟩);have c9:Hid (w2.grownBy w6 (some w.heap.size)):=aA (qO (P4 am.o ae.o a4 (Af _)) H);clear cf a4 ap bk cg H ch lk x0 x1;go_roundw
    case rel=>exact⟨i+1,b,by go_num,aA (by rw[F.o];exact c8.o),c9⟩
    case measure=>simp[intOf];omega
  ·obtain rfl:i=cl.length:=by omega
   rw[Bn]at HM;obtain⟨es2,ck2,X,_⟩:=ay.o
   have ci:Hid (w.heap.size≠M):=aA (by
    obtain⟨_,⟨l,h3,_⟩,_⟩:=HH.o
    have:=h3.lt
    omega)
   have cj:=aA (b1.o.only HW.o ⟨es2,ck2,X⟩ ci.o);have r:Hid (Below w.heap.size w w2):=aA (C.o.trans (b0.o.mono C.o.size));have V:Hid (Below w.heap.size w wr):=aA (pF r.o HW.o (Af _) r.o.size);obtain⟨wo,da⟩:∃wo:World,wo=wr:=⟨_,rfl⟩
   subst da;obtain⟨⟨vS,h1,h2⟩,_⟩:=cj.o;have r0:=aS h1;have r1:=aX h1;have r2:=aY h1;have r3:=bI h1;have db:=(Gm.fZ G.ts).1 J.o.t;have dc:=(Gm.fG G).1 J.o.n;have de:=aA (Qe _ G B wo (HG.o.below V.o (Aj ba.o N.o)) (by omega) (by omega));have cm:Hid ((Au.syms G).length<=40):=aA (by rw[Au.ni];omega)
   have df:Hid (∀s∈Au.syms G,Gm.In s):=aA (fun s hs=>by
    have:=Gm.iS.1 (Au.iZ.1 hs)
    unfold Gm.In;omega)
   generalize cn:Au.syms G=sy at *;have co:=aA cn;clear h1 h2 X db dc cn;go_wp2_with fail
   refine de.o.mono ?_;rintro _ w4 ⟨v4,rfl,ai,aq⟩;obtain⟨A4,c4,rfl,bc,bd,_⟩:=aV.form ai;have dA:=aA aq;have dg:=aA ai;have bl:=aA (cj.o.below aq);have cp:=aA (HM.o.below aq);have cq:Hid (Below w.heap.size w w4):=aA (V.o.trans (aq.mono V.o.size));have dh:(sy.length:Int)<=40:=by have:=cm.o;omega
   have bm:Hid (fQ R M w w4):=aA (.below cq.o);clear ai aq r0 r1 r2 r3 bc bd;go_wp2;go_loopw [10,57] (fun vl vi wr=>∃(j:Nat) (new:List QS),j<=sy.length/\vi=.int .i64 j/\new.length<=j/\Hid (aJ 91 2 fO wr w.heap.size vl (Au.fS G cl (aZ qs,[]) (sy.take j)).2)/\Hid (aZ (qs++new)=(Au.fS G cl (aZ qs,[]) (sy.take j)).1)/\Hid (∀q∈new,q.2.1=[])/\Hid (lE wr base R M NE (.slice AT G.ts.length cT) (.slice AN G.ns.length cN) (.slice AR G.rs.length cR) (.int .i64 G.st) (qs++new))/\Hid (Below base w wr)/\Hid (fQ R M w wr)/\Hid (jt R M w4 wr)/\Hid ((Au.fS G cl (aZ qs,[]) (sy.take j)).2.length<=j)) (fun _ vi _=>sy.length-(intOf vi).toNat)
   case atStart=>exact⟨0,[],AV _,rfl,Af _,aA (by simpa[Au.fS] using aJ.nil _ _),aA (by simp[Au.fS]),aA (by simp),by simpa using bl,aA (cq.o.mono N.o),bm,aA (jt.refl _ _ _),aA (by simp[Au.fS])⟩
   case round =>
    obtain⟨j,new,hj,rfl,dB,HL,HP,HN,HA,bo,a5,ar,bp⟩:=hrel;obtain⟨Al,cl',rfl,_,_,_⟩:=aJ.form HL.o aI;by_cases b:j<sy.length
    ·have I:=bl.o.apart;have ai:aV wr wo.heap.size (.slice A4 sy.length c4) sy:=OH dg.o ar.o.fp (fun cur=>I.1 cur _ (by decide)) (fun cur=>I.2 cur _) (by decide) (by decide);obtain⟨A4',c4',di,_,_,ak⟩:=aV.form ai;injection di with bq br bs;subst bq;clear br bs;obtain⟨g,o,rfl,bf,hc⟩:=ak (by omega);have k0:=hc j b;rw[L.fy b]at k0;obtain⟨ml0,dj,_⟩:=cp.o.m;obtain⟨es4,ck4,a6,_⟩:=dj
     have dk:w.heap.size≠R:=fun e=>by
      obtain⟨⟨vS,h1,_⟩,_⟩:=bl.o;rw[<-e,a6]at h1;cases h1
     have ao:=ar.o.fp _ _ a6 dk ci.o (fun cur fr e=>by cases e) (fun cur fr e=>by cases e);have dl:=aA (cp.o.fp (ao.trans a6.symm) (fun g cur _ hg=>ar.o.fp g _ hg (fun e=>I.1 cur 60 (by decide) (by rw[<-e];exact hg)) (fun e=>I.2 cur 60 (by rw[<-e];exact hg)) (fun cur' fr e=>by injection e with _ e _;exact absurd e (by decide)) (fun cur' fr e=>by injection e with _ e _;exact absurd e (by decide))));have F:Hid (Au.fS G cl (aZ qs,[]) (sy.take (j+1))=Au.jq G cl (Au.fS G cl (aZ qs,[]) (sy.take j)) sy[j]):=aA (by rw[AL b,Au.mJ]);have aa:Hid (Gm.In sy[j]):=aA (df.o _ (AE b));obtain⟨ml,O,ah,_⟩:=dl.o.m;have ab:tF.enc sy[j]=.int .i64 sy[j]:=rfl;have lk:=Mw.gH (E:=tF) O FY (t:=140) underlying140 (z:=.slice none 0 0) (by kernel_rfl) (x:=sy[j]) aa.o true;rw[ab]at lk;have bu:=ah sy[j];generalize sy[j]=s at *;generalize Au.fS G cl (aZ qs,[]) (sy.take j)=p at *;clear hc bf a6 ao O ah I ai ak ab;rcases bu with⟨e1,e2⟩|⟨v,e1,e2,e3⟩
     ·rw[e1]at lk;simp at lk;have HE:Hid (Au.jq G cl p s=p):=aA (by unfold Au.jq;rw[AC e2]);clear e1 e2;go_wp2;go_roundw
      case rel=>exact⟨j+1,new,b,by go_num,by omega,aA (by rw[F.o,HE.o];exact HL.o),aA (by rw[F.o,HE.o];exact HP.o),HN,HA,bo,a5,ar,aA (by rw[F.o,HE.o];have:=bp.o;omega)⟩
      case measure=>simp[intOf];omega
     ·rw[e1]at lk;simp at lk;obtain⟨Av,cv,rfl,cr,au,_⟩:=aJ.form e3 aI;have cs:∀x∈Au.mv G cl s,Au.gj G x=true:=fun x hx=>Au.xJ bT.o hx;have a9:=aA (PL (qs:=qs++new) Av cv HP.o e2);have cu:=aA (J4 wr base R M NE _ _ _ _ (qs++new) (Au.mv G cl s) Av cv HA.o ⟨cr,by unfold maxLen at au;omega,(aJ.rK e3).less (Aj (Aj N.o r.o.size) (Af _))⟩ (Au.zb J.o J.o.kz cs) (by have:=Au.sz G cl s;have:=bb.o;omega) (by have:=HQ.o;rw[AW];have:=cm.o;omega));obtain⟨new',cw,cx,dC⟩:=RE qs new (Au.mv G cl s) Av cv HN.o;rw[cw]at cu a9;have dm:=aA cx;have dn:Hid (p.2.length<=1000):=aA (by have:=bp.o;omega);generalize xy (qs++new) (Au.mv G cl s)=num at *;generalize (Au.mv G cl s).length=nv at *;clear e1 e2 e3 cs cw cx cr au;go_wp2_with fail
      refine cu.o.mono ?_;rintro _ w5 ⟨rfl,cy,cz,av⟩;have I:=HA.o.apart;have cA:=ON HL.o av (fun cur=>I.1 cur _ (by decide)) (fun cur=>I.2 cur _);have dp:=aA (cy.below ((AB w5.heap.size w5).alloc (Af _) (.cells #[.int .i64 s,.int .i64 num] 91)));have dq:Hid (Below base w (w5.alloc (.cells #[.int .i64 s,.int .i64 num] 91))):=aA ((bo.o.trans cz).alloc (Aj N.o (Aj a5.o.size av.size)) _);have bv:Hid (fQ R M w (w5.alloc (.cells #[.int .i64 s,.int .i64 num] 91))):=aA ((a5.o.trans av).trans (.below ((AB w5.heap.size w5).alloc (Af _) _)));have bw:Hid (jt R M w4 (w5.alloc (.cells #[.int .i64 s,.int .i64 num] 91))):=aA ((ar.o.trans (.of av)).trans (.of (.below ((AB w5.heap.size w5).alloc (Af _) _))));have aw:=aA (cA.alloc (.cells #[.int .i64 s,.int .i64 num] 91));have af:=aA (AG w5 (.cells #[.int .i64 s,.int .i64 num] 91));clear cy cz av cA I;go_wp2_with (at_builtin;refine xP (f:=fO) rfl (.tmp 68) (.tmp 74) _ rfl underlying54 _ 16 IY (by decide) (by decide) (by decide) aI sM w.heap.size _ p.2 rfl aw.o _ _ (s,num) rfl (Il (s,num) _ _ af.o) (by have:=dn.o;omega) bv.o.size ?_;intro v6 w6 cB H)
      have dr:=aA (dp.o.Hg aw.o H cD.o);have ds:Hid (Below base w w6):=aA (dq.o.grown H (Aj N.o bv.o.size) (fun k e=>Aj N.o (Bk aw.o k e).1));have dt:=aA (bv.o.Fj aw.o H (Af _));have bx:=aA (bw.o.trans (.own aw.o H));have du:=aA cB;clear cB H lk k0;go_roundw
      case rel=>exact⟨j+1,new',b,by go_num,by omega,aA (by rw[F.o,a9.o];exact du.o),aA (by rw[F.o,a9.o]),dm,dr,ds,dt,bx,aA (by rw[F.o,a9.o];have:=bp.o;simp;omega)⟩
      case measure=>simp[intOf];omega
    ·obtain rfl:j=sy.length:=by omega
     generalize (Au.fS G cl (aZ qs,[]) (sy.take sy.length)).2.length=nl at *;rw[Bn]at HL HP;generalize hp:Au.fS G cl (aZ qs,[]) sy=p at *;have cC:=aA hp;clear hp;go_wp2;go_ret
     exact⟨_,new,rfl,by rw[co.o,cC.o];exact HL.o,by rw[co.o,cC.o];exact HP.o,HN.o,HA.o,bo.o,a5.o⟩
namespace Au
noncomputable def jv (G:Gm.Gr):Int:=if Gm.jE G=true then(if(lK G).isSome=true then 0 else 5) else 1
noncomputable def lL (G:Gm.Gr):List qV:=if Gm.jE G=true then(match lK G with|some p=>p.1.zip p.2|none=>[]) else []
theorem kG (h:Gm.jE G=false):jv G=1/\lL G=[]:=by unfold jv lL;rw[h];exact⟨rfl,rfl⟩
theorem jw (h:Gm.jE G=true) (k:lK G=none):jv G=5/\lL G=[]:=by unfold jv lL;rw[h,k];exact⟨rfl,rfl⟩
theorem kH {ks:List (List It)} (h:Gm.jE G=true) (k:lK G=some (ks,es)):jv G=0/\lL G=ks.zip es:=by unfold jv lL;rw[h,k];exact⟨rfl,rfl⟩
end Au
theorem Gm.fY (h:Gm.jE G=true):Gm.right G=true:=by
 cases hr:Gm.right G
 ·unfold Gm.jE at h;rw[Gm.o9 hr]at h;cases h
 ·rfl
def tJ (G:Gm.Gr) (w:World) (e:Ending) (w':World):Prop :=
 ∃A c,e=.returned (.tuple #[.slice A (Au.lL G).length c,.int .i64 (Au.jv G)])/\(Au.lL G).length<=c/\c<=9223372036854775807/\bW w' w'.heap.size A (Au.lL G)/\Below w.heap.size w w'
theorem tJ.nil {G:Gm.Gr} {w w':World} {er:Int} (h:Au.jv G=er/\Au.lL G=[]) (hb:Below w.heap.size w w'):tJ G w (.returned (.tuple #[.slice none 0 0,.int .i64 er])) w':=by
 refine⟨none,0,?_,?_,by omega,?_,hb⟩
 ·rw[h.1,h.2];rfl
 ·rw[h.2];exact Af _
 ·rw[h.2];exact bW.nil _ _ _
section
variable {w:World} {base R M NE:Nat} {g0 g1 g2 g3:Value} {qs:List QS}
theorem lE.uT {vS:Value} {c:Nat} (h:lE w base R M NE g0 g1 g2 g3 qs) (hv:w.heap[R]?=some (.cells (E3 g0 g1 g2 g3 vS M) 102 (0,0))) (e:vS=.slice (some ⟨g,0,none⟩) n c) (i:Nat) (y:QS) (hi:i<qs.length) (hy:y.1=(qs[i]).1) (hq:xC w base w.heap.size NE y):lE (w.setCell ⟨g,i*2+1,none⟩ (rG y.2)) base R M NE g0 g1 g2 g3 (qs.set i y):=by
 obtain⟨⟨vS',h1,h2⟩,⟨l,h3,h4⟩,h5,h6⟩:=h
 have ev:vS'=vS:=by
  rw[h1]at hv;injection hv with hv;injection hv with hv _ _;unfold E3 at hv;injection hv with hv;injection hv with _ hv;injection hv with _ hv;injection hv with _ hv;injection hv with _ hv;injection hv with hv _
 subst ev;rw[e]at h2;have ac:=h2.xa i y hi hy hq
 obtain⟨cur,aa⟩:∃cur,w.heap[g]?=some (.cells cur 56 (0,0)):=by
  rcases h2.1.2 with⟨e,_⟩|⟨g2,cap,cur,e,_,hg,_⟩
  ·cases e
  ·injection e with e _ _;injection e with e;injection e with e;subst e;exact⟨cur,hg⟩
 have ad:R≠g:=fun e=>by rw[e,aa]at h1;injection h1 with h1;exact aG (by decide) h1
 have ae:M≠g:=fun e=>by rw[e]at h3;exact h3.is.fB aa
 have ek:aZ (qs.set i y)=aZ qs:=by
  unfold aZ;rw[Cv];refine CU fun j=>?_;rw[Db];by_cases ab:i=j
  ·subst ab;rw[AC rfl,AC (by simpa using hi),Bv,AD hi];simp[hy]
  ·rw[AI ab]
 refine⟨⟨vS',(AU w ⟨g,i*2+1,none⟩ _ R ad).trans h1,?_⟩,⟨l,h3.block (AU w ⟨g,i*2+1,none⟩ _ M ae),by rw[ek];exact h4⟩,h5,h6⟩;rw[e];have e2:(w.setCell ⟨g,i*2+1,none⟩ (rG y.2)).heap.size=w.heap.size:=by simp
 rw[e2];exact ac
end
theorem Pg {α:Type} (es:List (List α)) (m:Nat) (x:List α):(es++List.replicate (m+1) []).set es.length x=(es++[x])++List.replicate m []:=by
 rw[DB _ _ (Af _),Dg,CR,CB,Ci];rfl
theorem Pr {new:List QS} (h:∀q∈new,q.2.1=[]):new.map (fun q:QS=>q.2.1)=List.replicate new.length []:=by
 induction new with
 | nil=>rfl
 | cons x r ih =>
  rw[Bz,BC,CR,h x Br,ih fun q hq=>h q (Bo _ hq)]
theorem NR {qs new:List QS} {y:QS} (h:qs.map (fun q:QS=>q.2.1)=es++List.replicate (n-es.length) []) (aa:es.length<n) (hw:∀q∈new,q.2.1=[]):((qs++new).set es.length y).map (fun q:QS=>q.2.1)=(es++[y.2.1])++List.replicate ((n+new.length)-(es++[y.2.1]).length) []:=by
 rw[Cv,Bf,h,Pr hw,Ci,List.replicate_append_replicate,show n-es.length+new.length=(n+new.length-(es.length+1))+1 by omega,Pg,AW,BA]
theorem OU (v:Value) (G:Gm.Gr) (B:Nat) (w:World) (hg:aT w B v G) (hf:Gm.Fit G) (hB:B<=w.heap.size) :
  Calls prog 25 #[v] w (tJ G w):=by
 have ai:=aA (fun y (h:Below w.heap.size w y)=>QE v G B y (hg.below h hB) hf (Aj hB h.size));have HG:=aA hg;have HF:=aA hf;have bh:=aA hB;obtain⟨AT,cT,AN,cN,AR,cR,rfl,_⟩:=hg;have f:=aA (bE.start 26 w #[.slice AT G.ts.length cT,.slice AN G.ns.length cN,.slice AR G.rs.length cR,.int .i64 G.st]);have g0:=f.o.c 0 _ rfl;have g1:=f.o.c 1 _ rfl;have g2:=f.o.c 2 _ rfl;have g3:=f.o.c 3 _ rfl;clear hf hB;cases hr:Gm.jE G
 ·have HQ:=aA (Au.kG hr);rw[hr]at ai;clear hr
  go_enter func25,ntmps25
  go_wp2_with fail
  refine(ai.o _ f.o.below).mono ?_;rintro _ w2 ⟨rfl,hb⟩;have HB:=aA (f.o.on hb);clear hb g0 g1 g2 g3;go_wp2
  go_ret2
  exact tJ.nil HQ.o HB.o.below
 ·have HR:=aA hr;have au:=aA (Gm.ft.1 (Gm.fY hr));rw[hr]at ai;have bX:=fun t w=>ET (P:=prog) t w;clear hr
  go_enter func25,ntmps25
  go_wp2_with fail
  refine(ai.o _ f.o.below).mono ?_;rintro _ w2 ⟨rfl,hb⟩;have HB:=aA (f.o.on hb);have g0:=HB.o.c 0 _ rfl;have g1:=HB.o.c 1 _ rfl;have g2:=HB.o.c 2 _ rfl;have g3:=HB.o.c 3 _ rfl;clear hb;obtain⟨w3,n⟩:∃y,y=w2.alloc (.map #[] 0):=⟨_,rfl⟩
  have av:w3.heap.size=w2.heap.size+1:=by rw[n];simp
  have b3:Below w2.heap.size w2 w3:=by rw[n];exact(AB _ _).alloc (Af _) _
  have m3:Mw.iO sP w3 w2.heap.size []:=by rw[n];exact Mw.iO.made sP w2
  obtain⟨w4,b⟩:∃y,y=w3.alloc (.cells #[.slice AT G.ts.length cT,.slice AN G.ns.length cN,.slice AR G.rs.length cR,.int .i64 G.st,.slice none 0 0,.map (some w2.heap.size)] 102):=⟨_,rfl⟩
  have b0:w4.heap.size=w2.heap.size+2:=by rw[b];simp[av]
  have b4:Below w3.heap.size w3 w4:=by rw[b];exact(AB _ _).alloc (Af _) _
  have c4:w4.heap[w2.heap.size+1]?=some (.cells (E3 (.slice AT G.ts.length cT) (.slice AN G.ns.length cN) (.slice AR G.rs.length cR) (.int .i64 G.st) (.slice none 0 0) w2.heap.size) 102 (0,0)):=by rw[b,<-av];exact AG w3 _
  have b1:=HB.o.size;have d:Hid (lE w4 w.heap.size (w2.heap.size+1) w2.heap.size w.heap.size (.slice AT G.ts.length cT) (.slice AN G.ns.length cN) (.slice AR G.rs.length cR) (.int .i64 G.st) []):=aA ⟨⟨_,c4,pD.nil _ _ _ _⟩,⟨[],m3.block (b4.block _ m3.lt),Au.lW.nil⟩,by omega,by omega⟩;have b2:Hid (Below w.heap.size w w4):=aA ((HB.o.below.trans (b3.mono (by omega))).trans (b4.mono (by omega)));obtain⟨w5,aj⟩:∃y,y=w4.alloc (.cells #[.int .i64 (-1),.int .i64 0] 60):=⟨_,rfl⟩
  have b5:Below w4.heap.size w4 w5:=by rw[aj];exact(AB _ _).alloc (Af _) _
  have c5:w5.heap[w4.heap.size]?=some (.cells #[.int .i64 (-1),.int .i64 0] 60 (0,0)):=by rw[aj];exact AG w4 _
  have aw:=aA (d.o.below b5);have bi:Hid (Below w.heap.size w w5):=aA (b2.o.trans (b5.mono (by omega)))
  have ak:=aA (J4 w5 w.heap.size (w2.heap.size+1) w2.heap.size w.heap.size _ _ _ _ [] [(-1,0)] (some ⟨w4.heap.size,0,none⟩) 1 aw.o ⟨Af _,by simp,fun _=>⟨w4.heap.size,_,rfl,by omega,(Ad.1 c5).1,c5,fun i hi j u hu=>by
   have:i=0:=by simp at hi;omega
   subst this
   match j,hu with
   | 0,hu=>exact hu
   | 1,hu=>exact hu
   | j+2,hu=>simp[fO]at hu⟩⟩ (fun z hz=>by simp[Au.jL]at hz;omega) (by simp) (by simp))
  have hN:xy [] [((-1:Int),(0:Int))]=0:=rfl;have hS:vE [] [((-1:Int),(0:Int))] (some ⟨w4.heap.size,0,none⟩) 1=[bJ [(-1,0)] (some ⟨w4.heap.size,0,none⟩) 1]:=rfl;rw[hN,hS]at ak;clear b3 m3 b4 c4 b5 c5 b1 hN hS;obtain⟨R,ax⟩:∃R,R=w2.heap.size+1:=⟨_,rfl⟩
  rw[<-ax]at ak d aw;go_upto_region 3 with fail
  go_upto_region 4 with fail
  rw[<-n,<-b,<-ax];clear n b av b0 ax bX;obtain⟨M,ay⟩:∃M,M=w2.heap.size:=⟨_,rfl⟩
  rw[<-ay]at ak d aw;rw[<-ay];clear ay g0 g1 g2 g3;go_wp2_with fail
  rw[<-aj];clear aj;refine ak.o.mono ?_;rintro _ w6 ⟨rfl,bj,bk,bl⟩;have b6:=aA (bj.more (NE':=w6.heap.size) (Aj (Aj (Af _) bi.o.size) bl.size));have b7:=aA (bi.o.trans bk);have b9:Hid (Au.Inv G [[(-1,0)]] []):=aA (Au.Inv.start G);have az:Hid (Au.run G (302-([]:List (List (Int×Int))).length) [[(-1,0)]] []=Au.lK G):=aA rfl;have a0:Hid (aZ [bJ [((-1:Int),(0:Int))] (some ⟨w4.heap.size,0,none⟩) 1]=[[(-1,0)]]):=aA rfl;have ca:Hid ([bJ [((-1:Int),(0:Int))] (some ⟨w4.heap.size,0,none⟩) 1].map (fun q:QS=>q.2.1)=[]++List.replicate (1-0) []):=aA rfl;clear bj bk bl;generalize [bJ [((-1:Int),(0:Int))] (some ⟨w4.heap.size,0,none⟩) 1]=qs0 at *;go_wp2;go_loopw [5] (fun vi wr=>∃(ks:List (List Au.It)) (es:List (List (Int×Int))) (qs:List QS),vi=.int .i64 (es.length:Nat)/\ks.length<=300/\es.length<=ks.length/\Hid (Au.Inv G ks es)/\Hid (Au.run G (302-es.length) ks es=Au.lK G)/\Hid (aZ qs=ks)/\Hid (qs.map (fun q:QS=>q.2.1)=es++List.replicate (ks.length-es.length) [])/\Hid (lE wr w.heap.size R M wr.heap.size (.slice AT G.ts.length cT) (.slice AN G.ns.length cN) (.slice AR G.rs.length cR) (.int .i64 G.st) qs)/\Hid (Below w.heap.size w wr)) (fun vi _=>301-(intOf vi).toNat)
  case atStart=>exact⟨[[(-1,0)]],[],qs0,rfl,by simp,by simp,b9,az,a0,ca,b6,b7⟩
  case round =>
   obtain⟨ks,es,qs,rfl,al,bm,HI,a1,am,HE,HA,HW⟩:=hrel;obtain⟨⟨vS,h1,h2⟩,_⟩:=HA.o;have a2:qs.length=ks.length:=by rw[<-am.o];unfold aZ;rw[Bh]
   by_cases g:es.length<ks.length
   ·have ao:es.length<qs.length:=by omega
    obtain⟨gS,cS,rfl,ap,aq,_⟩:=aJ.addr h2.1 (by omega);have c4:=rU h1;have k0:wr.cell? ⟨gS,es.length*2,none⟩=some (.slice (qs[es.length]).1.2.1 (qs[es.length]).1.1.length (qs[es.length]).1.2.2):=aJ.cellAt h2.1 pj es.length 0 ao _ rfl
    have a3:ks.getD es.length []=(qs[es.length]).1.1:=by
     rw[<-am.o];unfold aZ;rw[Ag,Bv,AD ao];rfl
    have a4:(qs[es.length]).1.1∈ks:=by
     rw[<-a3,Ag,AD g];exact AE g
    have bo:=HI.o.it _ a4;have ar:=aA (OS G wr w.heap.size R M wr.heap.size B AT AN AR cT cN cR qs (qs[es.length]).1.1 (qs[es.length]).1.2.1 (qs[es.length]).1.2.2 (HG.o.below HW.o bh.o) HF.o au.o bh.o HA.o ((h2.2 _ (AE ao)).1) bo.2 (Aj (Au.lQ au.o au.o.kz HI.o a4) (by omega)) (by omega) (Af _));unfold IC at ar;rw[am.o]at ar;have cb:Hid (Au.fS G (Au.iU G (qs[es.length]).1.1) (ks,[]) (Au.syms G)=Au.one G ks es.length):=aA (by unfold Au.one;rw[a3]);rw[cb.o]at ar;have bp:=aA (Au.qo (G:=G) g al);have bq:=aA (HI.o.step g);generalize Au.one G ks es.length=O at *;generalize (qs[es.length]).1.1=k at *;generalize (qs[es.length]).1.2.1=Ak at *;generalize (qs[es.length]).1.2.2=ck at *;have cc:((es.length:Nat):Int)<((qs.length:Nat):Int):=by omega
    have br:=aA a2;have cd:=aA g;clear h1 h2 a3 a4 bo ap aq;go_wp2_with fail
    refine ar.o.mono ?_;rintro _ w3 ⟨v3,new,rfl,a5,ac,ae,bs,bu,af⟩;obtain⟨Ae,ce,rfl,a6,ag,_⟩:=aJ.form a5 aI;have bv:=aA (bs.more (NE':=w3.heap.size) af.size);have cf:=aA (HW.o.trans bu);obtain⟨⟨vS3,a9,l⟩,_⟩:=bv.o;have m:es.length<(qs++new).length:=by rw[AW];omega
    obtain⟨gS3,cS3,rfl,ba,bb,ah⟩:=aJ.addr l.1 (by omega);have c43:=rU a9;have d0:=aJ.cellAt l.1 pj es.length 1 m _ rfl;have cg:=aJ.lt l.1
    obtain⟨cur3,ab⟩:∃cur,w3.heap[gS3]?=some (.cells cur 56 (0,0)):=by
     rcases l.1.2 with⟨e,_⟩|⟨g2,cap,cur,e,_,hg,_⟩
     ·cases e
     ·injection e with e _ _;injection e with e;injection e with e;subst e;exact⟨cur,hg⟩
    have fz:=AH w3 gS3 (es.length*2+1) _ _ ab;have d:=aA (bv.o.uT a9 rfl es.length (((qs++new)[es.length]).1,(O.2,Ae,ce)) m rfl ⟨(l.2 _ (AE m)).1,⟨a6,by unfold maxLen at ag;exact(Aj ag (by omega)),(aJ.rK a5).less HW.o.size⟩⟩);have ch:Hid (((qs++new).set es.length (((qs++new)[es.length]).1,(O.2,Ae,ce))).map (fun q:QS=>q.2.1)=(es++[O.2])++List.replicate ((ks.length+new.length)-(es++[O.2]).length) []):=aA (NR (y:=(((qs++new)[es.length]).1,(O.2,Ae,ce))) HE.o cd.o ae)
    have ci:Hid (aZ ((qs++new).set es.length (((qs++new)[es.length]).1,(O.2,Ae,ce)))=O.1):=aA (by
     rw[<-ac];unfold aZ;rw[Cv];refine CU fun j=>?_;rw[Db];by_cases bw:es.length=j
     ·subst bw;rw[AC rfl,AC (by simpa using m),Bv,AD m];rfl
     ·rw[AI bw])
    have bx:Hid (O.1.length=ks.length+new.length):=aA (by rw[<-ac];unfold aZ;rw[Bh,AW,br.o]);have cj:Hid ((qs++new).length=ks.length+new.length):=aA (by rw[AW,br.o])
    change Hid (lE (w3.setCell ⟨gS3,es.length*2+1,none⟩ (.slice Ae O.2.length ce)) w.heap.size R M w3.heap.size (.slice AT G.ts.length cT) (.slice AN G.ns.length cN) (.slice AR G.rs.length cR) (.int .i64 G.st) ((qs++new).set es.length (((qs++new)[es.length]).1,(O.2,Ae,ce)))) at d
    obtain⟨u0,cl⟩:∃u,w3.cell? ⟨gS3,es.length*2+1,none⟩=some u:=⟨_,d0⟩
    have bc:Hid (Below w.heap.size w (w3.setCell ⟨gS3,es.length*2+1,none⟩ (.slice Ae O.2.length ce))):=aA (cf.o.setCell ah _);have ad:(w3.setCell ⟨gS3,es.length*2+1,none⟩ (.slice Ae O.2.length ce)).heap.size=w3.heap.size:=by simp
    obtain⟨w4,b⟩:∃y,y=w3.setCell ⟨gS3,es.length*2+1,none⟩ (.slice Ae O.2.length ce):=⟨_,rfl⟩
    rw[<-b]at d bc ad;rw[<-ad]at d;have cm:Hid (((qs++new).set es.length (((qs++new)[es.length]).1,(O.2,Ae,ce))).length=ks.length+new.length):=aA (by rw[BX];exact cj.o);generalize (qs++new).set es.length (((qs++new)[es.length]).1,(O.2,Ae,ce))=qs2 at *;have cv:((es.length:Nat):Int)<(((qs++new).length:Nat):Int):=by omega
    clear a9 l a5 ae bs bu af ac ba bb ah ab m ad c4 k0 d0;generalize (qs++new).length=nq at *;go_upto_region 10 with fail
    rw[<-b];clear b c43 cl fz cg;obtain⟨⟨vS4,bz,bD⟩,_⟩:=d.o;obtain⟨A4,c4',rfl,_,_,_⟩:=aJ.form bD.1 pj;have c44:=rU bz;rw[cm.o,<-bx.o]at c44;clear bz bD;by_cases aa:300<O.1.length
    ·have p:=aA (Au.jw HR.o (by rw[<-a1.o,bp.o,AC aa]));have cn:(300:Int)<((O.1.length:Nat):Int):=by omega
     clear aa al bm g ao a2;generalize O.1.length=no at *;go_wp2
     go_ret2
     exact tJ.nil p.o bc.o
    ·have bd:Hid (Au.run G (302-(es++[O.2]).length) O.1 (es++[O.2])=Au.lK G):=aA (by rw[<-a1.o,bp.o,AI aa]);have cn:((O.1.length:Nat):Int)<=(300:Int):=by omega
     have co:O.1.length<=300:=by omega
     have cp:Hid (qs2.map (fun q:QS=>q.2.1)=(es++[O.2])++List.replicate (O.1.length-(es++[O.2]).length) []):=aA (by rw[bx.o];exact ch.o);have cq:Hid ((es++[O.2]).length=es.length+1):=aA (by simp);have cr:Hid ((es++[O.2]).length<=O.1.length):=aA bq.o.le;clear aa;go_wp2;go_roundw
     case rel=>exact⟨O.1,es++[O.2],qs2,by rw[cq.o];go_num,co,cr.o,bq,bd,ci,cp,d,bc⟩
     case measure=>simp[intOf];omega
   ·have bf:es.length=ks.length:=by omega
    have p:=aA (Au.kH HR.o (by rw[<-a1.o];exact Au.ku bf al));obtain⟨AS,cS,rfl,ap,aq,_⟩:=aJ.form h2.1 pj;have c4:=rU h1
    have bg:qs.map yf=ks.zip es:=by
     have e1:=am.o;have e2:=HE.o;rw[bf,Dg,D7,CF]at e2;rw[<-e1,<-e2];unfold aZ;rw[List.zip_map'];rfl
    have bM:=aA (pD.rd h2 (Af _) (Af _));rw[bg]at bM;have bT:Hid ((Au.lL G).length=qs.length):=aA (by rw[p.o.2,<-bg,Bh]);have cs:=aA ap;have cu:=aA (show cS<=9223372036854775807 by unfold maxLen at aq;omega);have cw:¬((es.length:Nat):Int)<((qs.length:Nat):Int):=by omega
    clear h1 h2 bg ap aq g bf bm al a2;generalize es.length=ne at *;generalize qs.length=nq at *;go_wp2
    go_ret2
    refine⟨AS,cS,?_,by rw[bT.o];exact cs.o,cu.o,by rw[p.o.2];exact bM.o,HW.o⟩;rw[bT.o,p.o.1];rfl
theorem Gm.yu {A B:Gm.Gr} (h1:A.ts=B.ts) (h2:A.ns=B.ns) (h3:A.rs=B.rs) (h4:A.st=B.st):A=B:=by
 cases A
 cases B
 simp only at h1 h2 h3 h4;subst h1 h2 h3 h4;rfl
theorem Gm.sd (h:Gm.jE G=true):∀x∈G.rs,Gm.Rc G x.l/\Gm.Al true G.rs x.r:=by
 unfold Gm.jE at h;rw[Bb,Bi]at h;obtain⟨h1,h2⟩:=h;have hG:Gm.nV G=Gm.reduce G:=by unfold Gm.nV;rw[AC h1]
 rw[hG]at h2;have he:∀ {α:Type} {a b:α},jj a b=true->a=b:=fun {α a b} q=>BW fun k=>by rw[qF k]at q;cases q
 unfold Gm.same at h2;simp only[Bb]at h2;obtain⟨⟨⟨e1,e2⟩,e3⟩,e4⟩:=h2;have e:Gm.reduce G=G:=Gm.yu (he e1).symm (he e2).symm (he e3).symm (he e4).symm;intro x hx
 have:x∈(Gm.reduce G).rs:=by rw[e];exact hx
 have:=Gm.wY this
 rw[e]at this;exact Gm.fP.1 this
namespace Lk
open Au Gm Go.Mw
def TS (E:List (List (Int×Int))) (i j:Nat) (tl:List ((Int×Int)×Value)):Prop:=∀q s t,q<E.length->(s,t)∈E.getD q []->(q<i\/q=i/\(s,t)∈(E.getD i []).take j)->fF tl ((q:Int),s)=some (.int .i64 t)
theorem TS.start (E:List (List (Int×Int))):TS E 0 0 []:=fun q s t hq h k=>by
 rcases k with k|⟨_,k⟩
 ·omega
 ·simp at k
theorem TS.next {tl:List ((Int×Int)×Value)} (h:TS E i (E.getD i []).length tl):TS E (i+1) 0 tl:=fun q s t hq hm k=>by
 rcases k with k|⟨_,k⟩
 ·rcases Bx q i with k2|k2
  ·exact h q s t hq hm (.inl k2)
  ·obtain rfl:q=i:=by omega
   exact h q s t hq hm (.inr ⟨rfl,by rw[Bn];exact hm⟩)
 ·simp at k
theorem TS.put {j:Nat} {tl:List ((Int×Int)×Value)} (h:TS E i j tl) (hn:((E.getD i []).map (·.1)).Nodup) (hj:j<(E.getD i []).length):TS E i (j+1) (gZ tl ((i:Int),(E.getD i [])[j].1) (.int .i64 (E.getD i [])[j].2)):=fun q s t hq hm k=>by
 rw[j9];by_cases e:((i:Int),(E.getD i [])[j].1)=((q:Int),s)
 ·rw[AC e];injection e with e1 e2;have e1:i=q:=by omega
  subst e1 e2;have h1:((E.getD i [])[j].1,(E.getD i [])[j].2)∈E.getD i []:=AE hj;have a1:=FK hn h1;have a2:=FK hn hm;rw[a1]at a2;rw[a2]
 ·rw[AI e];refine h q s t hq hm ?_;rcases k with k|⟨rfl,k⟩
  ·exact .inl k
  ·refine .inr ⟨rfl,?_⟩;rw[AL hj]at k;rcases Bt.1 k with k|k
   ·exact k
   ·rw[AP]at k;exact absurd (by rw[<-k]) e
theorem TS.done {tl:List ((Int×Int)×Value)} (h:TS E E.length 0 tl) {j:Nat} (he:Ed E i s j):fF tl ((i:Int),s)=some (.int .i64 (j:Int)):=by
 obtain⟨hi,he⟩:=he;exact h i s j hi (by rw[Ag,AD hi];exact he) (.inl hi)
end Lk
structure EJ (w1:World) (G:Gm.Gr) (g0 g1 g2 g3:Value) (todo:List Nat) (wx:World) (x12 x13 x14 x15 x16 x5:Value) (At:Option Addr) (ct T M D c:Nat):Prop where
 t:∀k∈todo,k=2\/k=3\/k=4\/k=5\/k=6\/k=7
 b:Below w1.heap.size w1 wx
 h2:2 ∉ todo->x12=.slice At (Lk.fK G).length ct/\b8 wx At G
 h3:3 ∉ todo->x13=.map (some T)/\w1.heap.size<=T/\wx.heap[T]?=some (.map #[] 0)
 h4:4 ∉ todo->x14=.map (some M)/\w1.heap.size<=M/\wx.heap[M]?=some (.map #[] 0)
 h5:5 ∉ todo->x15=.map (some D)/\w1.heap.size<=D/\wx.heap[D]?=some (.map #[] 0)
 h6:6 ∉ todo->(2 ∉ todo/\3 ∉ todo/\4 ∉ todo/\5 ∉ todo)/\x16=.agg (qN g0 g1 g2 g3 (.slice At (Lk.fK G).length ct) T M D)
 h7:7 ∉ todo->x5=.pointer (some ⟨c,0,none⟩)/\w1.heap.size<=c/\wx.heap[c]?=some (.cells #[.slice none 0 0,.slice none 0 0,.slice none 0 0,.int .i64 0,.slice none 0 0,.map none,.map none,.map none] 110 (0,0))
 d34:3 ∉ todo->4 ∉ todo->T≠M
 d35:3 ∉ todo->5 ∉ todo->T≠D
 d45:4 ∉ todo->5 ∉ todo->M≠D
section
variable {w1:World} {G:Gm.Gr} {g0 g1 g2 g3:Value} {todo:List Nat} {wx w':World} {x12 x13 x14 x15 x16 x5:Value} {At:Option Addr} {ct T M D c:Nat}
theorem EJ.Hj (h:EJ w1 G g0 g1 g2 g3 todo wx x12 x13 x14 x15 x16 x5 At ct T M D c) (hm:2∈todo) (hb:Below wx.heap.size wx w') {A':Option Addr} {c':Nat} (ho:b8 w' A' G):EJ w1 G g0 g1 g2 g3 (todo.erase 2) w' (.slice A' (Lk.fK G).length c') x13 x14 x15 x16 x5 A' c' T M D c where
 t k hk:=h.t k (Bq hk)
 b:=h.b.trans (hb.mono h.b.size)
 h2 _:=⟨rfl,ho⟩
 h3 q:=by obtain⟨a1,a2,a3⟩:=h.h3 (aD q (by decide));exact⟨a1,a2,aC hb a3⟩
 h4 q:=by obtain⟨a1,a2,a3⟩:=h.h4 (aD q (by decide));exact⟨a1,a2,aC hb a3⟩
 h5 q:=by obtain⟨a1,a2,a3⟩:=h.h5 (aD q (by decide));exact⟨a1,a2,aC hb a3⟩
 h6 q:=absurd hm (h.h6 (aD q (by decide))).1.1
 h7 q:=by obtain⟨a1,a2,a3⟩:=h.h7 (aD q (by decide));exact⟨a1,a2,aC hb a3⟩
 d34 q1 q2:=h.d34 (aD q1 (by decide)) (aD q2 (by decide))
 d35 q1 q2:=h.d35 (aD q1 (by decide)) (aD q2 (by decide))
 d45 q1 q2:=h.d45 (aD q1 (by decide)) (aD q2 (by decide))
theorem rR (w:World):Below w.heap.size w (w.alloc (.map #[] 0))/\(w.alloc (.map #[] 0)).heap[w.heap.size]?=some (.map #[] 0):=⟨(AB _ _).alloc (Af _) _,AG w _⟩
theorem EJ.yP (h:EJ w1 G g0 g1 g2 g3 todo wx x12 x13 x14 x15 x16 x5 At ct T M D c) (hm:3∈todo):EJ w1 G g0 g1 g2 g3 (todo.erase 3) (wx.alloc (.map #[] 0)) x12 (.map (some wx.heap.size)) x14 x15 x16 x5 At ct wx.heap.size M D c where
 t k hk:=h.t k (Bq hk)
 b:=h.b.alloc h.b.size _
 h2 q:=by obtain⟨a1,a2⟩:=h.h2 (aD q (by decide));exact⟨a1,a2.below (rR wx).1⟩
 h3 _:=⟨rfl,h.b.size,(rR wx).2⟩
 h4 q:=by obtain⟨a1,a2,a3⟩:=h.h4 (aD q (by decide));exact⟨a1,a2,aC (rR wx).1 a3⟩
 h5 q:=by obtain⟨a1,a2,a3⟩:=h.h5 (aD q (by decide));exact⟨a1,a2,aC (rR wx).1 a3⟩
 h6 q:=absurd hm (h.h6 (aD q (by decide))).1.2.1
 h7 q:=by obtain⟨a1,a2,a3⟩:=h.h7 (aD q (by decide));exact⟨a1,a2,aC (rR wx).1 a3⟩
 d34 _ q:=by have:=(Ad.1 (h.h4 (aD q (by decide))).2.2).1;omega
 d35 _ q:=by have:=(Ad.1 (h.h5 (aD q (by decide))).2.2).1;omega
 d45 q1 q2:=h.d45 (aD q1 (by decide)) (aD q2 (by decide))
theorem EJ.Hk (h:EJ w1 G g0 g1 g2 g3 todo wx x12 x13 x14 x15 x16 x5 At ct T M D c) (hm:4∈todo):EJ w1 G g0 g1 g2 g3 (todo.erase 4) (wx.alloc (.map #[] 0)) x12 x13 (.map (some wx.heap.size)) x15 x16 x5 At ct T wx.heap.size D c where
 t k hk:=h.t k (Bq hk)
 b:=h.b.alloc h.b.size _
 h2 q:=by obtain⟨a1,a2⟩:=h.h2 (aD q (by decide));exact⟨a1,a2.below (rR wx).1⟩
 h3 q:=by obtain⟨a1,a2,a3⟩:=h.h3 (aD q (by decide));exact⟨a1,a2,aC (rR wx).1 a3⟩
 h4 _:=⟨rfl,h.b.size,(rR wx).2⟩
 h5 q:=by obtain⟨a1,a2,a3⟩:=h.h5 (aD q (by decide));exact⟨a1,a2,aC (rR wx).1 a3⟩
 h6 q:=absurd hm (h.h6 (aD q (by decide))).1.2.2.1
 h7 q:=by obtain⟨a1,a2,a3⟩:=h.h7 (aD q (by decide));exact⟨a1,a2,aC (rR wx).1 a3⟩
 d34 q _:=by have:=(Ad.1 (h.h3 (aD q (by decide))).2.2).1;omega
 d35 q1 q2:=h.d35 (aD q1 (by decide)) (aD q2 (by decide))
 d45 _ q:=by have:=(Ad.1 (h.h5 (aD q (by decide))).2.2).1;omega
theorem EJ.uJ (h:EJ w1 G g0 g1 g2 g3 todo wx x12 x13 x14 x15 x16 x5 At ct T M D c) (hm:5∈todo):EJ w1 G g0 g1 g2 g3 (todo.erase 5) (wx.alloc (.map #[] 0)) x12 x13 x14 (.map (some wx.heap.size)) x16 x5 At ct T M wx.heap.size c where
 t k hk:=h.t k (Bq hk)
 b:=h.b.alloc h.b.size _
 h2 q:=by obtain⟨a1,a2⟩:=h.h2 (aD q (by decide));exact⟨a1,a2.below (rR wx).1⟩
 h3 q:=by obtain⟨a1,a2,a3⟩:=h.h3 (aD q (by decide));exact⟨a1,a2,aC (rR wx).1 a3⟩
 h4 q:=by obtain⟨a1,a2,a3⟩:=h.h4 (aD q (by decide));exact⟨a1,a2,aC (rR wx).1 a3⟩
 h5 _:=⟨rfl,h.b.size,(rR wx).2⟩
 h6 q:=absurd hm (h.h6 (aD q (by decide))).1.2.2.2
 h7 q:=by obtain⟨a1,a2,a3⟩:=h.h7 (aD q (by decide));exact⟨a1,a2,aC (rR wx).1 a3⟩
 d34 q1 q2:=h.d34 (aD q1 (by decide)) (aD q2 (by decide))
 d35 q _:=by have:=(Ad.1 (h.h3 (aD q (by decide))).2.2).1;omega
 d45 q _:=by have:=(Ad.1 (h.h4 (aD q (by decide))).2.2).1;omega
theorem EJ.uK (h:EJ w1 G g0 g1 g2 g3 todo wx x12 x13 x14 x15 x16 x5 At ct T M D c) (m2:2 ∉ todo) (m3:3 ∉ todo) (m4:4 ∉ todo) (m5:5 ∉ todo):EJ w1 G g0 g1 g2 g3 (todo.erase 6) wx x12 x13 x14 x15 (.agg (qN g0 g1 g2 g3 (.slice At (Lk.fK G).length ct) T M D)) x5 At ct T M D c where
 t k hk:=h.t k (Bq hk)
 b:=h.b
 h2 _:=h.h2 m2
 h3 _:=h.h3 m3
 h4 _:=h.h4 m4
 h5 _:=h.h5 m5
 h6 _:=⟨⟨fun m=>m2 (Bq m),fun m=>m3 (Bq m),fun m=>m4 (Bq m),fun m=>m5 (Bq m)⟩,rfl⟩
 h7 q:=h.h7 (aD q (by decide))
 d34 _ _:=h.d34 m3 m4
 d35 _ _:=h.d35 m3 m5
 d45 _ _:=h.d45 m4 m5
theorem EJ.uL (h:EJ w1 G g0 g1 g2 g3 todo wx x12 x13 x14 x15 x16 x5 At ct T M D c):EJ w1 G g0 g1 g2 g3 (todo.erase 7) (wx.alloc (.cells #[.slice none 0 0,.slice none 0 0,.slice none 0 0,.int .i64 0,.slice none 0 0,.map none,.map none,.map none] 110)) x12 x13 x14 x15 x16 (.pointer (some ⟨wx.heap.size,0,none⟩)) At ct T M D wx.heap.size where
 t k hk:=h.t k (Bq hk)
 b:=h.b.alloc h.b.size _
 h2 q:=by obtain⟨a1,a2⟩:=h.h2 (aD q (by decide));exact⟨a1,a2.below ((AB _ wx).alloc (Af _) _)⟩
 h3 q:=by obtain⟨a1,a2,a3⟩:=h.h3 (aD q (by decide));exact⟨a1,a2,aC ((AB _ wx).alloc (Af _) _) a3⟩
 h4 q:=by obtain⟨a1,a2,a3⟩:=h.h4 (aD q (by decide));exact⟨a1,a2,aC ((AB _ wx).alloc (Af _) _) a3⟩
 h5 q:=by obtain⟨a1,a2,a3⟩:=h.h5 (aD q (by decide));exact⟨a1,a2,aC ((AB _ wx).alloc (Af _) _) a3⟩
 h6 q:=by obtain⟨⟨b1,b2,b3,b4⟩,a2⟩:=h.h6 (aD q (by decide));exact⟨⟨fun m=>b1 (Bq m),fun m=>b2 (Bq m),fun m=>b3 (Bq m),fun m=>b4 (Bq m)⟩,a2⟩
 h7 _:=⟨rfl,h.b.size,AG wx _⟩
 d34 q1 q2:=h.d34 (aD q1 (by decide)) (aD q2 (by decide))
 d35 q1 q2:=h.d35 (aD q1 (by decide)) (aD q2 (by decide))
 d45 q1 q2:=h.d45 (aD q1 (by decide)) (aD q2 (by decide))
end
theorem R8 {Aa:Option Addr} {ss:List qV} (h:bW w B Aa ss) (i:Nat) (hi:i<ss.length):∃g o,Aa=some ⟨g,o,none⟩/\g<B/\(∃A1 c1,w.cell? ⟨g,o+i*2,none⟩=some (.slice A1 ss[i].1.length c1))/\∃A2 c2,w.cell? ⟨g,o+i*2+1,none⟩=some (.slice A2 ss[i].2.length c2)/\jm 2 fO w B A2 ss[i].2:=by
 obtain⟨g,o,e,hg,hc⟩:=h (by omega);obtain⟨⟨A1,c1,a1,_⟩,A2,c2,a2,_,_,a3⟩:=hc i hi;exact⟨g,o,e,hg,⟨A1,c1,a1⟩,A2,c2,a2,a3⟩
theorem O3 (v:Value) (G:Gm.Gr) (B:Nat) (w:World) (Aa:Option Addr) (ca:Nat) (K:List (List Au.It)) (E:List (List (Int×Int))) (hg:aT w B v G) (hf:Gm.Fit G) (hB:B<=w.heap.size) (hb:Gm.jE G=true) (hk:Au.lK G=some (K,E)) (ha:bW w w.heap.size Aa (K.zip E)) :
  Calls prog 26 #[v,.slice Aa (K.zip E).length ca] w fun e w'=>∃D MM DD,e=.returned (.map (some D))/\Mw.fx qZ w' D (Lk.gV DD)/\Lk.WI G K E MM DD []/\Below w.heap.size w w':=by
 obtain⟨hi,hE,ai⟩:=Au.ji hk;have H:=Gm.ft.1 (Gm.fY hb);have aj:=((Gm.fZ G.ts).1 H.t)
 have ak:=((Gm.fG G).1 H.n)
 have hz:(K.zip E).length=K.length:=by rw[List.length_zip,hE,Nat.min_self]
 have b0:=aA (fun(tl:List ((Int×Int)×Value)) (h:Lk.TS E E.length 0 tl)=>(show G3 G K E tl from⟨hi,hE,H,fun x hx=>(Gm.sd hb x hx).2,by omega,by omega,ai,fun i s j he=>h.done he⟩));have HZ:=aA hz;have a0:=aA hE;have b1:=aA (show 0<K.length from(Bc.1 hi.h0).1);have b2:=aA ai;have b4:=aA (fun(i:Nat) (h:i<E.length)=>Lk.oP hi h)
 have b5:=aA (fun(i:Nat) (h:i<E.length) (e:Int×Int) (he:e∈E[i])=>(show Gm.In e.1 from by
  have h1:e.1∈E[i].map (·.1):=DK he;rw[(hi.ed i h).1,B7]at h1
  have:=Gm.iS.1 (Au.iZ.1 h1.1)
  unfold Gm.In
  omega))
 have b6:=aA (fun(i:Nat) (h:i<E.length)=>(show(E[i]).length<=100000 from by have:=Au.pO (by omega) (by omega) hi h;omega));have b7:=aA (fun(y:World) (h:Below w.heap.size w y)=>NI v G B y (hg.below h hB) hf H (Aj hB h.size) (by omega));have b9:=aA (fun(y:World) (h:Below w.heap.size w y)=>hg.below h hB);have HB:=aA hB;obtain⟨AT,cT,AN,cN,AR,cR,rfl,_⟩:=hg;obtain⟨w1,ab⟩:∃y,y=w.alloc (.cells #[.slice AT G.ts.length cT,.slice AN G.ns.length cN,.slice AR G.rs.length cR,.int .i64 G.st] 26):=⟨_,rfl⟩
 have q:Hid (Below w.heap.size w w1):=aA (by rw[ab];exact(AB _ _).alloc (Af _) _);have I:Hid (w1.heap[w.heap.size]?=some (.cells #[.slice AT G.ts.length cT,.slice AN G.ns.length cN,.slice AR G.rs.length cR,.int .i64 G.st] 26 (0,0))):=aA (by rw[ab];exact AG w _);have cB:Hid (w.heap.size<w1.heap.size):=aA (Ad.1 I.o).1;have HA:=aA ha;have cb:=fun t w=>ET (P:=prog) t w;clear hf hB hb hk ha hi hE H aj ak hz ai;generalize hn:(K.zip E).length=n at *;have HN:=aA hn;clear hn
 go_enter func26,ntmps26
 go_upto_region 1 with fail
 rw[<-ab];clear ab;have q0:=fun y:Calm.On w1.heap.size w1=>aS (aC y.2 I.o);have q1:=fun y:Calm.On w1.heap.size w1=>aX (aC y.2 I.o);have q2:=fun y:Calm.On w1.heap.size w1=>aY (aC y.2 I.o);have q3:=fun y:Calm.On w1.heap.size w1=>bI (aC y.2 I.o)
 refine CalmN.ng (fun x=>∃y:Calm.On w1.heap.size w1,x=y.1) [0,1] [2,3,4,5,6,7] [(6,2),(6,3),(6,4),(6,5)] (.one [] 8 (.fin []))
  (fun todo a wx=>∃x12 x13 x14 x15 x16 x5 At ct T M D c,a = {tmps:=#[.agg #[.slice AT G.ts.length cT,.slice AN G.ns.length cN,.slice AR G.rs.length cR,.int .i64 G.st],.slice Aa n ca,.pointer (some ⟨w.heap.size,0,none⟩),undef,.map none,x5,undef,undef,undef,undef,.agg #[.slice AT G.ts.length cT,.slice AN G.ns.length cN,.slice AR G.rs.length cR,.int .i64 G.st],.agg #[.slice AT G.ts.length cT,.slice AN G.ns.length cN,.slice AR G.rs.length cR,.int .i64 G.st],x12,x13,x14,x15,x16,undef,undef,undef,undef,undef,undef,undef,undef,undef,undef,undef,undef,undef,undef,undef,undef,undef,undef,undef,undef,undef,undef,undef,undef,undef,undef,undef,undef],defers:=[]}/\EJ w1 G (.slice AT G.ts.length cT) (.slice AN G.ns.length cN) (.slice AR G.rs.length cR) (.int .i64 G.st) todo wx x12 x13 x14 x15 x16 x5 At ct T M D c)
  (by kernel_rfl) (by kernel_rfl) (fun _ _ d _ _ h=>by cases d <;> exact h) ⟨⟨w1.drew,aB (AB _ _) 1⟩,rfl⟩ ?_ ?_ ?_
 ·simp only[CalmN.fo,Az,Am,Ap];repeat (go_big_quiet_step (fail))
  refine Aw ?_;exact⟨undef,undef,undef,undef,undef,undef,none,0,0,0,0,0,rfl,⟨by simp,aB (AB _ _) 1,fun h=>absurd (by simp) h,fun h=>absurd (by simp) h,fun h=>absurd (by simp) h,fun h=>absurd (by simp) h,fun h=>absurd (by simp) h,fun h=>absurd (by simp) h,fun h=>absurd (by simp) h,fun h=>absurd (by simp) h,fun _ h=>absurd (by simp) h⟩⟩
 ·intro todo k a wx hk hD hJ hS;obtain⟨x12,x13,x14,x15,x16,x5,At,ct,T,M,D,c,rfl,hJ⟩:=hJ;have HJ:=aA hJ;have aa:=hJ.t k hk;have HK:=aA hk;have HD:=aA hD;clear hJ hS hk hD q0 q1 q2 q3;rcases aa with rfl|rfl|rfl|rfl|rfl|rfl
  ·simp only[CalmN.fv,Az,Am,Ap];intro KK r;rw[AC (by rfl)];go_wp2_with fail
   refine(b7.o wx (q.o.trans (HJ.o.b.mono q.o.size))).mono ?_;rintro _ w' ⟨A',c',rfl,ho,hb⟩;have hj:=HJ.o.Hj HK.o hb (c':=c') ho;go_wp2_with fail
   exact r _ _ ⟨⟨w',hj.b⟩,rfl⟩ _ (fun _ h=>h) ⟨⟨w',hj.b⟩,rfl⟩ ⟨_,x13,x14,x15,x16,x5,_,_,T,M,D,c,rfl,hj⟩
  ·simp only[CalmN.fv,Az,Am,Ap];intro KK r;rw[AC (by rfl)];have hj:=HJ.o.yP HK.o;go_wp2_with fail
   exact r _ _ ⟨⟨_,hj.b⟩,rfl⟩ _ (fun _ h=>h) ⟨⟨_,hj.b⟩,rfl⟩ ⟨x12,_,x14,x15,x16,x5,At,ct,_,M,D,c,rfl,hj⟩
  ·simp only[CalmN.fv,Az,Am,Ap];intro KK r;rw[AC (by rfl)];have hj:=HJ.o.Hk HK.o;go_wp2_with fail
   exact r _ _ ⟨⟨_,hj.b⟩,rfl⟩ _ (fun _ h=>h) ⟨⟨_,hj.b⟩,rfl⟩ ⟨x12,x13,_,x15,x16,x5,At,ct,T,_,D,c,rfl,hj⟩
  ·simp only[CalmN.fv,Az,Am,Ap];intro KK r;rw[AC (by rfl)];have hj:=HJ.o.uJ HK.o;go_wp2_with fail
   exact r _ _ ⟨⟨_,hj.b⟩,rfl⟩ _ (fun _ h=>h) ⟨⟨_,hj.b⟩,rfl⟩ ⟨x12,x13,x14,_,x16,x5,At,ct,T,M,_,c,rfl,hj⟩
  ·have m2:=HD.o (6,2) (by simp) rfl;have m3:=HD.o (6,3) (by simp) rfl;have m4:=HD.o (6,4) (by simp) rfl;have m5:=HD.o (6,5) (by simp) rfl;obtain⟨rfl,_⟩:=HJ.o.h2 m2;obtain⟨rfl,_⟩:=HJ.o.h3 m3;obtain⟨rfl,_⟩:=HJ.o.h4 m4;obtain⟨rfl,_⟩:=HJ.o.h5 m5;have hj:=HJ.o.uK m2 m3 m4 m5;simp only[CalmN.fv,Az,Am,Ap];intro KK r;rw[AC (by rfl)];go_wp2_with fail
   exact r _ _ ⟨⟨_,hj.b⟩,rfl⟩ _ (fun _ h=>h) ⟨⟨_,hj.b⟩,rfl⟩ ⟨_,_,_,_,_,x5,At,ct,T,M,D,c,rfl,hj⟩
  ·simp only[CalmN.fv,Az,Am,Ap];intro KK r;rw[AC (by rfl)];have hj:=HJ.o.uL;go_wp2_with fail
   exact r _ _ ⟨⟨_,hj.b⟩,rfl⟩ _ (fun _ h=>h) ⟨⟨_,hj.b⟩,rfl⟩ ⟨x12,x13,x14,x15,x16,_,At,ct,T,M,D,_,rfl,hj⟩
 ·intro a wx hJ hS;obtain⟨x12,x13,x14,x15,x16,x5,At,ct,T,M,D,c,rfl,hJ⟩:=hJ;obtain⟨rfl,a4⟩:=hJ.h2 (by simp);obtain⟨rfl,a5,a6⟩:=hJ.h3 (by simp);obtain⟨rfl,a9,ba⟩:=hJ.h4 (by simp);obtain⟨rfl,bb,bc⟩:=hJ.h5 (by simp);obtain⟨_,rfl⟩:=hJ.h6 (by simp);obtain⟨rfl,al,l⟩:=hJ.h7 (by simp);have am:Hid (T≠M/\T≠D/\M≠D):=aA ⟨hJ.d34 (by simp) (by simp),hJ.d35 (by simp) (by simp),hJ.d45 (by simp) (by simp)⟩;have ao:=hJ.b;clear hS q0 q1 q2 q3 hJ;have lc:=(Ad.1 l).1;have f0:=AH wx _ 0 _ _ l;have f1:=AH wx _ 1 _ _ l;have f2:=AH wx _ 2 _ _ l;have f3:=AH wx _ 3 _ _ l;have f4:=AH wx _ 4 _ _ l;have f5:=AH wx _ 5 _ _ l;have f6:=AH wx _ 6 _ _ l;have f7:=AH wx _ 7 _ _ l;have k0:=AF wx _ 0 _ _ _ l;have k1:=AF wx _ 1 _ _ _ l;have k2:=AF wx _ 2 _ _ _ l;have k3:=AF wx _ 3 _ _ _ l;have k4:=AF wx _ 4 _ _ _ l;have k5:=AF wx _ 5 _ _ _ l;have k6:=AF wx _ 6 _ _ _ l;have k7:=AF wx _ 7 _ _ _ l;simp only[CalmN.fN,CalmN.fv,CalmN.fo,Az,Am,Ap];refine Aw ?_;intro KK r;rw[AC (by rfl)];unfold qN;go_wp2_with fail
  obtain⟨wy,ac⟩:∃y,y=(((((((wx.setCell ⟨c,0,none⟩ (.slice AT G.ts.length cT)).setCell ⟨c,1,none⟩ (.slice AN G.ns.length cN)).setCell ⟨c,2,none⟩ (.slice AR G.rs.length cR)).setCell ⟨c,3,none⟩ (.int .i64 G.st)).setCell ⟨c,4,none⟩ (.slice At (Lk.fK G).length ct)).setCell ⟨c,5,none⟩ (.map (some T))).setCell ⟨c,6,none⟩ (.map (some M))).setCell ⟨c,7,none⟩ (.map (some D)):=⟨_,rfl⟩
  have ad:wx.grownBy wy (some c):=by
   rw[ac];exact aF (aF (aF (aF (aF (aF (aF (aF (AJ _ _) _ _) _ _) _ _) _ _) _ _) _ _) _ _) _ _
  have bd:wy.heap[c]?=some (.cells (qN (.slice AT G.ts.length cT) (.slice AN G.ns.length cN) (.slice AR G.rs.length cR) (.int .i64 G.st) (.slice At (Lk.fK G).length ct) T M D) 110 (0,0)):=by
   rw[ac];exact AZ _ c 7 _ _ _ (AZ _ c 6 _ _ _ (AZ _ c 5 _ _ _ (AZ _ c 4 _ _ _ (AZ _ c 3 _ _ _ (AZ _ c 2 _ _ _ (AZ _ c 1 _ _ _ (AZ wx c 0 _ _ _ l)))))))
  rw[<-ac];have ae:Below w1.heap.size w1 wy:=pF ao ad al ao.size
  have u:∀(g:Nat) (o:Obj),wx.heap[g]?=some o->(∀cs t f,o=Obj.cells cs t f->t≠110)->wy.heap[g]?=some o:=fun g o h1 h2=>(ad.block g (Ad.1 h1).1 (fun e=>by
   injection e with e;rw[e,l]at h1;injection h1 with h1;exact h2 _ _ _ h1.symm rfl)).trans h1
  have af:Hid (Mw.fx qL wy T []):=aA ⟨#[],0,u _ _ a6 (fun _ _ _ e=>by cases e),rfl,by simp,by simp⟩;have bf:Hid (Mw.jM qL wy M (Lk.gV [])):=aA ⟨#[],0,u _ _ ba (fun _ _ _ e=>by cases e),rfl,by simp[Lk.gV],by simp[Lk.gV],by simp,by simp⟩;have bg:Hid (Mw.jM qZ wy D (Lk.gV [])):=aA ⟨#[],0,u _ _ bc (fun _ _ _ e=>by cases e),rfl,by simp[Lk.gV],by simp[Lk.gV],by simp,by simp⟩
  have cc:Hid (b8 wy At G):=aA (a4.fp ad.size fun g cur ty cd hc=>u _ _ hc (fun _ _ _ e=>by
   injection e with _ e _;rcases cd with rfl|rfl <;> rw[<-e] <;> decide))
  have A:=aA bd;have z:=aA ae;have C:Hid (w1.heap.size<=T/\w1.heap.size<=M/\w1.heap.size<=D/\w1.heap.size<=c):=aA ⟨a5,a9,bb,al⟩;refine r _ _ ⟨⟨wy,ae⟩,rfl⟩ _ (fun _ h=>h) ⟨⟨wy,ae⟩,rfl⟩ ?_;clear r k0 k1 k2 k3 k4 k5 k6 k7 f0 f1 f2 f3 f4 f5 f6 f7 lc ac ad bd ae u a4 a5 a6 a9 ba bb bc al l ao cb;refine Aw ?_;have ap:=aA (Lk.TS.start E);have cC:(n:Int)<=300:=by have:=HN.o;have:=HZ.o;have:=b2.o;omega
  go_wp2;go_loopw [19] (fun vi wr=>∃(i:Nat) (tl:List ((Int×Int)×Value)),i<=n/\vi=.int .i64 i/\Hid (Lk.TS E i 0 tl)/\Hid (Mw.fx qL wr T tl)/\Hid (wy.grownBy wr (some T))) (fun vi _=>n-(intOf vi).toNat)
  case atStart=>exact⟨0,[],AV _,rfl,ap,af,aA (AJ _ _)⟩
  case round =>
   obtain⟨i,tl,hi,rfl,bh,aq,HG⟩:=hrel;rename World=>wr;by_cases bi:i<n
   ·have bj:i<(K.zip E).length:=by rw[HN.o];exact bi
    obtain⟨ga,oa,rfl,bk,⟨A1,c1,a1⟩,A2,c2,a2,b3⟩:=R8 HA.o i bj;have J:i<E.length:=by have:=a0.o;have:=HZ.o;have:=HN.o;omega
    have ar:(K.zip E)[i].2=E[i]:=by rw[List.getElem_zip]
    have F:E.getD i []=E[i]:=by rw[Ag,AD J];rfl
    rw[ar,<-F]at a2;have a3:jm 2 fO w w.heap.size A2 (E.getD i []):=by rw[F,<-ar];exact b3
    have N:Hid (Below w.heap.size w wr):=aA (pF (q.o.trans (z.o.mono q.o.size)) HG.o (Aj q.o.size C.o.1) (Aj q.o.size z.o.size));have k0:=(N.o.cell (p:=⟨ga,oa+i*2,none⟩) bk).trans a1;have k1:=(N.o.cell (p:=⟨ga,oa+i*2+1,none⟩) bk).trans a2;have ce:=aA a3;have cf:=aA (fun(j:Nat) (tl2:List ((Int×Int)×Value)) (h:Lk.TS E i j tl2) (hj:j<(E.getD i []).length)=>h.put (by rw[F];exact b4.o i J) hj);have cg:=aA (fun(tl2:List ((Int×Int)×Value)) (h:Lk.TS E i (E.getD i []).length tl2)=>h.next);have ch:=aA (fun(e:Int×Int) (he:e∈E.getD i [])=>b5.o i J e (by rw[<-F];exact he))
    have au:Hid ((E.getD i []).length<=100000):=aA (by
     rw[F];exact b6.o i J)
    have ci:=aA bi;clear b3 a3 a1;generalize (K.zip E)[i].1.length=n1 at *;clear ar a2;clear bj J F;generalize E.getD i []=es at *;obtain⟨wi,ag⟩:∃y,y=wr.alloc (.cells #[.slice A1 n1 c1,.slice A2 es.length c2] 56):=⟨_,rfl⟩
    have bl:Hid (Below wr.heap.size wr wi):=aA (by rw[ag];exact(AB _ _).alloc (Af _) _);have bm:wi.heap[wr.heap.size]?=some (.cells #[.slice A1 n1 c1,.slice A2 es.length c2] 56 (0,0)):=by rw[ag];exact AG wr _
    have z1:=aX bm;have cj:=aA (aq.o.block (bl.o.block _ aq.o.lt));have cD:((i:Nat):Int)<((n:Nat):Int):=by omega
    have ck:(es.length:Int)<=100000:=by have:=au.o;omega
    go_upto_region 5 with fail
    rw[<-ag];clear ag k0 k1 bm;go_wp2;clear z1;go_loopw [27] (fun vj wz=>∃(j:Nat) (tl2:List ((Int×Int)×Value)),j<=es.length/\vj=.int .i64 j/\Hid (Lk.TS E i j tl2)/\Hid (Mw.fx qL wz T tl2)/\Hid (wi.grownBy wz (some T))) (fun vj _=>es.length-(intOf vj).toNat)
    case atStart=>exact⟨0,tl,AV _,rfl,bh,cj,aA (AJ _ _)⟩
    case round =>
     obtain⟨j,tl2,hj,rfl,bo,av,bp⟩:=hrel;rename World=>wz;have aw:Hid (wy.grownBy wz (some T)):=aA (qO (qO HG.o (aK bl.o _)) bp.o);by_cases O:j<es.length
     ·obtain⟨g3,o3,rfl,bq,ax⟩:=ce.o (by omega);have br:Hid (Below w.heap.size w wz):=aA (pF (q.o.trans (z.o.mono q.o.size)) aw.o (Aj q.o.size C.o.1) (Aj q.o.size z.o.size));have e0:=(br.o.cell (p:=⟨g3,o3+j*2+0,none⟩) bq).trans (ax j O 0 _ rfl);have e1:=(br.o.cell (p:=⟨g3,o3+j*2+1,none⟩) bq).trans (ax j O 1 _ rfl);rw[Dp]at e0;have cl:=aA (cf.o j tl2 bo.o O);have cm:Hid (Gm.In ((i:Int),(es[j]).1).1/\Gm.In ((i:Int),(es[j]).1).2):=aA ⟨by unfold Gm.In;simp only;omega,ch.o _ (AE O)⟩;have cE:((j:Nat):Int)<((es.length:Nat):Int):=by omega
      have cn:=aA O;clear ax;generalize (es[j]).1=s at *;generalize (es[j]).2=tz at *;obtain⟨wj,ah⟩:∃y,y=wz.alloc (.cells #[.int .i64 s,.int .i64 tz] 91):=⟨_,rfl⟩
      have ay:Hid (Below wz.heap.size wz wj):=aA (by rw[ah];exact(AB _ _).alloc (Af _) _);have az:wj.heap[wz.heap.size]?=some (.cells #[.int .i64 s,.int .i64 tz] 91 (0,0)):=by rw[ah];exact AG wz _
      have y0:=aS az;have y1:=aX az;have U:T≠c:=fun e=>by have:=af.o;rw[e]at this;exact this.fB A.o
      have m:wz.heap[c]?=some (.cells (qN (.slice AT G.ts.length cT) (.slice AN G.ns.length cN) (.slice AR G.rs.length cR) (.int .i64 G.st) (.slice At (Lk.fK G).length ct) T M D) 110 (0,0)):=(aw.o.block c (Ad.1 A.o).1 (fun e=>by injection e with e;exact U e.symm)).trans A.o;have x5:=rT (aC ay.o m);have co:=aA (av.o.block (ay.o.block _ av.o.lt));have cp:=aA (Mw.pf (x:=((i:Int),s)) co.o Fx underlying107 cm.o (.int .i64 tz));clear az U m;go_upto_region 8 with fail
      rw[<-ah];clear ah e0 e1;go_wp2_with (at_mapUpdate;refine Mw.iz rfl _ _ _ _ rfl cp.o rfl rfl rfl ?_;rintro w6 ⟨bs,bu⟩;have cq:=aA bs;have cr:=aA (qO (qO bp.o (aK ay.o (some T))) bu);clear bs bu)
      go_roundw
      case rel=>exact⟨j+1,_,cn.o,by go_num,cl,cq,cr⟩
      case measure=>simp[intOf];omega
     ·obtain rfl:j=es.length:=by omega
      have cu:=aA (cg.o _ bo.o);go_wp2;go_roundw
      case rel=>exact⟨i+1,tl2,ci.o,by go_num,cu,av,aw⟩
      case measure=>simp[intOf];omega
   ·obtain rfl:i=n:=by omega
    have cv:Hid (Lk.TS E E.length 0 tl):=aA (by have:=bh.o;rwa [show i=E.length by have:=a0.o;have:=HZ.o;have:=HN.o;omega]at this);have N:Hid (Below w.heap.size w wr):=aA (pF (q.o.trans (z.o.mono q.o.size)) HG.o (Aj q.o.size C.o.1) (Aj q.o.size z.o.size));have U:T≠c:=fun e=>by have:=af.o;rw[e]at this;exact this.fB A.o
    have m:wr.heap[c]?=some (.cells (qN (.slice AT G.ts.length cT) (.slice AN G.ns.length cN) (.slice AR G.rs.length cR) (.int .i64 G.st) (.slice At (Lk.fK G).length ct) T M D) 110 (0,0)):=(HG.o.block c (Ad.1 A.o).1 (fun e=>by injection e with e;exact U e.symm)).trans A.o;have bv:=aA m
    have cw:Hid (b8 wr At G):=aA (cc.o.fp HG.o.size fun g cur ty _ hc=>(HG.o.block g (Ad.1 hc).1 (fun e=>by
     injection e with e;rw[e]at hc;exact af.o.fB hc)).trans hc)
    have bw:=aA (bf.o.block (HG.o.block M bf.o.lt (fun e=>by injection e with e;exact am.o.1 e.symm)));have bx:=aA (bg.o.block (HG.o.block D bg.o.lt (fun e=>by injection e with e;exact am.o.2.1 e.symm)));have cx:=aA (O2 G K E wr w1.heap.size B T M D AT AN AR At cT cN cR ct tl (b0.o tl cv.o) b1.o (b9.o wr N.o) (Aj HB.o q.o.size) cw.o (Aj z.o.size HG.o.size) aq.o bw.o bx.o C.o.1 C.o.2.1 C.o.2.2.1 am.o);have k0:=aS m;have k1:=aX m;have k2:=aY m;have k3:=bI m;have k4:=rU m;have k5:=rT m;have k6:=xw m;have k7:=GX m;have bz:Hid (c≠M/\c≠D):=aA ⟨fun e=>by rw[e]at m;exact bw.o.is.fB m,fun e=>by rw[e]at m;exact bx.o.is.fB m⟩;clear U m;go_wp2_with fail
    refine cx.o.mono ?_;rintro _ w9 ⟨rfl,MM',DD',bD,bM,bT,bX⟩;have x7:=GX ((bX c (Ad.1 bv.o).1 bz.o.1 bz.o.2).trans bv.o);have cy:=aA bD.is;have cz:=aA bM;have cA:Hid (Below w.heap.size w w9):=aA (N.o.trans (bT.mono q.o.size));clear bD bM bT bX k0 k1 k2 k3 k4 k5 k6 k7;go_wp2;go_ret
    exact⟨D,MM',DD',rfl,cy.o,cz.o,cA.o⟩
end Go.Proofs.YtcmhaemaophplaaGreat
