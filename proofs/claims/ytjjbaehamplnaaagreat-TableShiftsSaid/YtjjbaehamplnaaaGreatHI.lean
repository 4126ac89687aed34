/- Part of the proofs over this program: Prod9, BldY, Build9, Rcopy, Rcopy2, TrimKept, TrimRed, TrimReduced. -/
import Derived.Test.YtjjbaehamplnaaaGreatHH
set_option linter.all false
namespace Go
def CB:=@Nat.add_zero
def Dv:=@List.map_singleton
def Fc:=@List.getElem_set
def DP:=@List.getElem_range
def Eo:=@List.map_congr_left
end Go
open Go.RowKit Go.Proofs.Tryz
set_option maxRecDepth 100000
set_option maxHeartbeats 40000000
namespace Go.Proofs.YtjjbaehamplnaaaGreat
variable {G:Gm.Gr} {base base' g i k n:Nat} {ds:List Y.jL} {j z:Int} {ns ns':List (List Int)} {ops:Array Go.Oper} {r zs:List Int} {rs:List Gm.Rl} {ts ts':List Gm.Tm} {v v' vN vT:Go.Value} {w w':Go.World} {x:fv} {xs:List Go.Value}
theorem Nh (h:Gm.sym ts x=.ok (ts',z)) (aa:ts.length<=24):Gm.In z/\ts'.length<=24:=by
 unfold Gm.sym at h;split at h
 ·refine⟨?_,No aa h⟩;unfold Gm.In;rcases Gm.ru h with⟨j,_,_,hj,hl,_⟩|⟨_,_,hj,_⟩ <;> omega
 ·cases h
theorem SK (h:Gm.tj ns ts x=.ok (ts',z)) (aa:ts.length<=24) (ab:ns.length<=16):Gm.In z/\ts'.length<=24:=by
 unfold Gm.tj at h;split at h
 ·rename_i h0
  injection h with h;injection h with h1 h2
  have:=Gm.j7 ns x.t
  subst h1;refine⟨?_,aa⟩;unfold Gm.In;omega
 ·exact Nh h aa
theorem SM (h:Gm.ti ns ts x=.ok (ts',z)) (aa:ts.length<=24):Gm.In z/\ts'.length<=24:=by
 unfold Gm.ti at h;split at h
 ·cases h
 ·exact Nh h aa
theorem Fit.more {r:Gm.Rl} (h:Gm.Fit ⟨ts,ns,rs,0⟩) (hr:Gm.In r.l/\Gm.In r.p/\∀z∈r.r,Gm.In z):Gm.Fit ⟨ts,ns,rs++[r],0⟩:=by
 refine⟨h.t,h.n,fun x hx=>?_,h.s⟩;rcases Bs.1 hx with q|q
 ·exact h.r x q
 ·simp at q;subst q;exact hr
theorem jz (ns:List (List Int)) (s:List Int) (h:ns.length<=16):Gm.In (Gm.find ns s):=by
 have h1:=Gm.j7 ns s;have h2:=Gm.sa ns s;unfold Gm.In;omega
theorem Lb {rs':List Gm.Rl} {pr:Y.iu} (h:Gm.nH ns ts rs pr=.ok (ts',rs')):rs.length≠40/\∃tz az pz,Gm.jC ns ts [] (-1) pr.r=.ok (tz,az,pz)/\((pr.p=none/\ts'=tz/\rs'=rs++[⟨Gm.find ns pr.l.t,az,pz⟩]) \/ ∃x z,pr.p=some x/\Gm.ti ns tz x=.ok (ts',z)/\rs'=rs++[⟨Gm.find ns pr.l.t,az,z⟩]):=by
 unfold Gm.nH at h;split at h
 ·cases h
 ·rename_i aa
  obtain⟨⟨tz,az,pz⟩,h1,h2⟩:=Gm.R.bind_eq h;refine⟨aa,tz,az,pz,h1,?_⟩;cases hp:pr.p with
  | none =>
   rw[hp]at h2;injection h2 with h2;injection h2 with a b;exact .inl ⟨rfl,a.symm,b.symm⟩
  | some x =>
   rw[hp]at h2;obtain⟨⟨t2,z⟩,h3,h4⟩:=Gm.R.bind_eq h2;injection h4 with h4;injection h4 with a b;simp only at a b;subst a;exact .inr ⟨x,z,rfl,h3,b.symm⟩
theorem Qu {s:List Int} (h:Gm.named s=true):(K.str s).toList.isEmpty=false:=by
 have aa:s≠[]:=fun e=>by rw[e]at h;simp[Gm.named,T.isName,T.isLit]at h
 have ab:¬(K.str s).toList=[]:=by rw[K.gw];intro e;exact aa (by simpa[K.bytes] using e)
 simpa using ab
theorem U8 (L:List Int) (B R:Nat) (ts ts':List Gm.Tm) (ns:List (List Int)) (rs rs':List Gm.Rl) (lv:Int) (pr:Y.iu) (A:Option Addr) (c:Nat) (w:World) (hw:Wk w B w.heap.size R ts ns rs lv) (hf:Gm.Fit ⟨ts,ns,rs,0⟩) (hr:By L w B A pr.r) (hx:K.Tx pr.l.t) (bu:∀x∈pr.r,K.Tx x.t/\Gm.named x.t=true/\x.t≠[101,114,114,111,114]) (bv:F4 pr) (hB:B<=w.heap.size) (bw:ts.length<=24) (bb:ns.length<=16) (cu:rs.length<=40) (cw:pr.r.length<=1000) (hp:Gm.nH ns ts rs pr=.ok (ts',rs')) :
  Calls prog 88 #[.pointer (some ⟨R,0,none⟩),.agg (GX L pr A c)] w fun e w'=>e=.returned (.tuple #[])/\(Wk w' B w'.heap.size R ts' ns rs' lv/\Gm.Fit ⟨ts',ns,rs',0⟩/\ts'.length<=24)/\Below B w w'/\l8 w w':=by
 have SC:=fun a w m X Y=>show(store a (.complex .f64 X Y) m).run prog w=stored prog w a (.complex .f64 X Y) m from run_store _ w a _ m rfl;obtain⟨cx,tz,az,pz,bx,ac⟩:=Lb hp;have cd:=aA bx;have ad:=aA ac;have ce:=aA bv;have HR:=aA hr;have cf:=aA (fun(i:Nat) (hi:i<pr.r.length)=>bu _ (AD hi));have HF:=aA hf;obtain⟨vT,vN,vR,aa⟩:=id hw;obtain⟨⟨AT,cT,rfl⟩,⟨AN,cN,rfl⟩,⟨AR,cR,rfl⟩⟩:=zU aa;have bz:=aA aa;have cy:=aa.lt;have aw:=aA (fun(y:World) (lv':Int) (h:gd y B w.heap.size R (wC (.slice AT ts.length cT) (.slice AN ns.length cN) (.slice AR rs.length cR) lv') (.slice AT ts.length cT) (.slice AN ns.length cN) (.slice AR rs.length cR) ts ns rs) (hy:w.heap.size<=y.heap.size)=>Jw hf hx h hy);obtain⟨lf,bg⟩:∃lf,lf=Gm.find ns pr.l.t:=⟨_,rfl⟩
 have bD:Hid (Gm.In lf):=aA (by rw[bg];exact jz ns _ bb);rw[<-bg]at aw ad;clear bg;obtain⟨w1,af⟩:∃w1,w1=w.alloc (.cells (GX L pr A c) 161):=⟨_,rfl⟩
 have C:Hid (gd w1 B w.heap.size R (wC (.slice AT ts.length cT) (.slice AN ns.length cN) (.slice AR rs.length cR) lv) (.slice AT ts.length cT) (.slice AN ns.length cN) (.slice AR rs.length cR) ts ns rs):=aA (by rw[af];exact aa.alloc _);have al:Hid (w1.heap[w.heap.size]?=some (.cells (GX L pr A c) 161 (0,0))):=aA (by rw[af];exact AI w _);have bM:w1.heap.size=w.heap.size+1:=by rw[af];simp
 have ag:Hid (β w w1):=aA (by rw[af];exact(AB _ w).alloc (Af _) _);have bT:R<w1.heap.size:=ω
 have am:w.heap.size<w1.heap.size:=ω
 have q0:∀y:Calm.On w1.heap.size w1,y.1.cell? ⟨R,0,none⟩=some (.slice AT ts.length cT):=fun y=>((C.o.below y.2).at 0).1;have q1:∀y:Calm.On w1.heap.size w1,y.1.cell? ⟨R,1,none⟩=some (.slice AN ns.length cN):=fun y=>((C.o.below y.2).at 1).1;have q2:∀y:Calm.On w1.heap.size w1,y.1.cell? ⟨R,2,none⟩=some (.slice AR rs.length cR):=fun y=>((C.o.below y.2).at 2).1;have q3:∀y:Calm.On w1.heap.size w1,y.1.cell? ⟨R,3,none⟩=some (.int .i64 0):=fun y=>((C.o.below y.2).at 3).1;have D0:=fun y:Calm.On w1.heap.size w1=>aQ ((y.2.block w.heap.size am).trans al.o);have bh:=aA (fun y=>RV lf y);unfold GX at al af ⊢;clear aa hw hf hr hx bu bv hp bx ac;generalize yq L pr.l=X0 at *;generalize yr L pr.l=Y0 at *;generalize K.str pr.l.t=s0 at *
 go_enter func88,ntmps88
 go_upto_region 1 with fail
 rw[<-af];clear af;have bi:=aA (aB (AB w1.heap.size w1) 1);have bc:=aA (fun o=>(aB (AB w1.heap.size w1) 1).alloc (Af _) o);have RB:=bh.o;refine CalmN.fk (γ w1) (.two [0,1,2,3,4,5,6] 7 (.one [8] 9 (.one [] 10 (.fin []))) 9 (.one [] 7 (.one [8] 10 (.fin [])))) ⟨⟨w1.drew,bi.o⟩,rfl⟩ ?_;simp only[CalmN.fS,CalmN.fu,CalmN.fo,Aq,Ai,Am];repeat (go_big_quiet_step (fail))
 refine Ap ?_;clear q0 q1 q2 q3 D0;refine⟨?_,?_⟩
 case' refine_1 =>
  intro KK s;rw[Az ε];go_wp2_with fail
  refine(aw.o w1.drew _ C.o.nB (by show w.heap.size<=w1.heap.size;omega)).mono ?_;rintro _ w2 ⟨rfl,N⟩;have O:=aA ((aB (AB w1.heap.size w1) 1).trans N);have ao:w1.heap.size<=w2.heap.size:=O.o.size;have U:=aA (fun o=>O.o.alloc ao o);clear N;go_wp2_with fail
  refine s _ _ ⟨⟨w2,O.o⟩,rfl⟩ _ ι ⟨⟨w2,O.o⟩,rfl⟩ ?_;repeat (go_big_quiet_step (fail))
  refine Ap ?_;intro KK s;rw[Az ε];go_wp2_with fail
  refine s _ _ ⟨⟨_,U.o _⟩,rfl⟩ _ ι ⟨⟨_,U.o _⟩,rfl⟩ ?_;refine Ap ?_;intro KK s;rw[Az ε];go_wp2_with fail
  refine s _ _ ⟨⟨_,U.o _⟩,rfl⟩ _ ι ⟨⟨_,U.o _⟩,rfl⟩ ?_;refine Ap ?_;clear s RB;obtain⟨wq,H⟩:∃x,x=w2.alloc (.cells #[.int .i64 lf,.slice none 0 0,.int .i64 (-1)] 74):=⟨_,rfl⟩
  rw[<-H];obtain⟨Q,hQ⟩:∃x,x=w2.heap.size:=⟨_,rfl⟩
  rw[<-hQ]
  have ax:Hid (ny w wq B R Q ns rs lv ts #[.string s0,.complex .f64 X0 Y0,.slice A pr.r.length c,.string (yt pr.p),.complex .f64 (yu L pr.p) (yv L pr.p)] lf (.slice none 0 0) [] (-1)):=aA (by
   have ay:β w wq:=by rw[H];exact(ag.o.trans (O.o.mono ag.o.size)).alloc (Ah ag.o.size ao) _
   have ap:β w1 wq:=by rw[H];exact U.o _
   exact⟨⟨_,_,_,C.o.below ap⟩,HF.o,bw,ay.mono hB,iF.below ay,ω,(ap.block w.heap.size am).trans al.o,by rw[H,hQ];exact AI w2 _,KB _ _⟩)
  clear H hQ O U ao aw C al ag bh bi bc bM bT am bz
 case' refine_2 =>
  intro KK s;rw[Az ε];go_wp2_with fail
  refine s _ _ ⟨⟨_,bc.o _⟩,rfl⟩ _ ι ⟨⟨_,bc.o _⟩,rfl⟩ ?_;refine Ap ?_;intro KK s;rw[Az ε];go_wp2_with fail
  have a0:Hid (Below w1.heap.size w1 (w1.alloc (.cells #[.int .i64 0,.slice none 0 0,.int .i64 0] 74)).drew):=aA (aB ((AB _ w1).alloc (Af _) _) 1);refine(aw.o _ _ (C.o.below a0.o) (by have:=a0.o.size;omega)).mono ?_;rintro _ w2 ⟨rfl,N⟩;have O:=aA (a0.o.trans (N.mono a0.o.size));have J:Hid (w2.heap[w1.heap.size]?=some (.cells #[.int .i64 0,.slice none 0 0,.int .i64 0] 74 (0,0))):=aA ((N.block w1.heap.size (by show w1.heap.size<(w1.alloc _).heap.size;simp)).trans (AI w1 _));have ao:w1.heap.size<w2.heap.size:=(Ad.1 J.o).1;clear N;go_wp2_with fail
  refine s _ _ ⟨⟨w2,O.o⟩,rfl⟩ _ ι ⟨⟨w2,O.o⟩,rfl⟩ ?_;repeat (go_big_quiet_step (fail))
  refine Ap ?_;intro KK s;rw[Az ε];obtain⟨Q,hQ⟩:∃x,x=w.heap.size+1:=⟨_,rfl⟩
  rw[<-hQ];have bX:w1.heap.size=Q:=ω
  rw[bX]at J O;have U:=aA (fun u0 u1 u2=>((O.o.setCell (p:=⟨Q,0,none⟩) (Af _) u0).setCell (p:=⟨Q,1,none⟩) (Af _) u1).setCell (p:=⟨Q,2,none⟩) (Af _) u2);have aq:Hid (w.heap.size<Q/\w1.heap.size=Q):=aA ω;have z0:=AM w2 _ 0 _ _ J.o;have z1:=AM w2 _ 1 _ _ J.o;have z2:=AM w2 _ 2 _ _ J.o;have y0:=aQ J.o;have y1:=aU J.o;have y2:=bB J.o;have ao:Q<w2.heap.size:=(Ad.1 J.o).1;clear hQ bX bM am;go_wp2_with fail
  refine s _ _ ⟨⟨_,by rw[aq.o.2];exact U.o _ _ _⟩,rfl⟩ _ ι ⟨⟨_,by rw[aq.o.2];exact U.o _ _ _⟩,rfl⟩ ?_;refine Ap ?_;clear s RB;obtain⟨wq,H⟩:∃x,x=((w2.setCell ⟨Q,0,none⟩ (.int .i64 lf)).setCell ⟨Q,1,none⟩ (.slice none 0 0)).setCell ⟨Q,2,none⟩ (.int .i64 (-1)):=⟨_,rfl⟩
  rw[<-H]
  have ax:Hid (ny w wq B R Q ns rs lv ts #[.string s0,.complex .f64 X0 Y0,.slice A pr.r.length c,.string (yt pr.p),.complex .f64 (yu L pr.p) (yv L pr.p)] lf (.slice none 0 0) [] (-1)):=aA (by
   have ap:Go.RowKit.Below w1.heap.size w1 wq:=by rw[H,aq.o.2];exact U.o _ _ _
   have ay:β w wq:=ag.o.trans (ap.mono ag.o.size);have am:w.heap.size<w1.heap.size:=by have:=aq.o;omega
   exact⟨⟨_,_,_,C.o.below ap⟩,HF.o,bw,ay.mono hB,iF.below ay,aq.o.1,(ap.block w.heap.size am).trans al.o,by rw[H];exact Ba _ _ 2 _ _ _ (Ba _ _ 1 _ _ _ (Ba _ _ 0 _ _ _ J.o)),KB _ _⟩)
  clear H O U ao aw C al ag bh bi bc bT bz z0 z1 z2 y0 y1 y2 J aq a0
 all_goals
  have cg:=aA (Ad.1 ax.o.pb).1;obtain⟨vTq,vNq,vRq,H⟩:=ax.o.b;obtain⟨_,_,⟨ARq,cRq,rfl⟩⟩:=zU H;obtain⟨k2,_,ch⟩:=H.at 2;simp only[wC,Aq,Ai,Am]at k2;have e40:((rs.length:Int)==40)=false:=Bc.2 ω;clear H;go_wp2;clear k2 ch e40;go_loopw [5] (fun vi wr=>∃(i:Nat) (tk:List Gm.Tm) (acc:List Int) (p:Int) (v:Value),i<=pr.r.length/\vi=.int .i64 i/\acc.length=i/\Hid (Gm.jC ns tk acc p (pr.r.drop i)=.ok (tz,az,pz))/\Hid ((∀z∈acc,Gm.In z)/\Gm.In p)/\Hid (ny w wr B R Q ns rs lv tk #[.string s0,.complex .f64 X0 Y0,.slice A pr.r.length c,.string (yt pr.p),.complex .f64 (yu L pr.p) (yv L pr.p)] lf v acc p)) (fun vi _=>pr.r.length-(intOf vi).toNat)
  case atStart=>exact⟨0,ts,[],-1,.slice none 0 0,Bb _,rfl,rfl,cd,aA ⟨σ,by unfold Gm.In;omega⟩,ax⟩
  case round =>
   clear ax cg;obtain⟨i,tk,acc,p,v,hi,rfl,b0,HE,a1,HP⟩:=hrel;have bj:=aA b0;have p2:=bB HP.o.pb;have cz:=(Ad.1 HP.o.pb).1;obtain⟨vTr,vNr,vRr,aa⟩:=HP.o.b;have f10:=(aa.at 10).1;have cA:=aa.lt;simp only[wC,Aq,Ai,Am]at f10;clear aa b0;by_cases a2:i<pr.r.length
   ·obtain⟨g,o,rfl,b1,hc⟩:=HR.o ω;have k0:=(HP.o.w.cell (p:=⟨g,o+i*2,none⟩) b1).trans (hc i a2).1;have k1:=(HP.o.w.cell (p:=⟨g,o+i*2+1,none⟩) b1).trans (hc i a2).2;have cC:=HP.o.w.size;have cE:g<wr.heap.size:=ω
    obtain⟨ab,ar,a3⟩:=cf.o i a2;have hE:=HE.o;rw[OZ a2]at hE;have h6:acc.length≠6:=fun q=>by rw[Az q]at hE;cases hE
    rw[AJ h6]at hE;obtain⟨⟨t2,zz⟩,hs,bk⟩:=Gm.R.bind_eq hE;simp only at bk;have ci:=aA bk;obtain⟨E,F⟩:=Pv hs ab HP.o.f;obtain⟨V,a4⟩:=SK hs HP.o.t bb;have ah:=aA (Ca F (Ca a4 V));have e6:((i:Int)==6)=false:=Bc.2 (by have:=bj.o;omega);have au:=aA (fun(y:World)=>Ic pr.r[i].t ab y);rw[ar]at au;have ai:=aA (fun(y:World) (h:Wk y B w.heap.size R tk ns rs lv) (hy:w.heap.size<=y.heap.size)=>Mu L B w.heap.size R tk t2 ns rs lv zz pr.r[i] true y h HP.o.f ab a3 hy (Ah hB hy) E HP.o.t bb);unfold cH at ai;clear hc hE bk hs E F V a4 ab ar a3 h6;unfold yq yr at k1;generalize K.str pr.r[i].t=sx at *;generalize Fl.fl (Pl.pos (L.take pr.r[i].o)).1=X at *;generalize Fl.fl (Pl.pos (L.take pr.r[i].o)).2=Y at *;have bl:=aA (HP.o.alloc (.cells #[.string sx,.complex .f64 X Y] 153) hB);have cG:=aA (AI wr (.cells #[.string sx,.complex .f64 X Y] 153));have HC:=aA (ai.o _ bl.o.b bl.o.w.size);go_wp2_with fail
    refine(au.o _).mono ?_;rintro _ _ ⟨rfl,rfl⟩;go_wp2_with fail
    refine HC.o.mono ?_;rintro _ w2 ⟨rfl,N,a5,a6⟩;have M:=aA (bl.o.call N a5 a6 ah.o.1 ah.o.2.1);obtain⟨Av,nv,cv,bm⟩:=Lr M.o.o;subst bm;have q1:=aU M.o.qb;have b3:=(Ad.1 M.o.qb).1;have b4:=aA (M.o.alloc (.cells #[.int .i64 zz] 3) hB);have cj:Hid (w.heap.size<=w2.heap.size):=aA M.o.w.size;have ck:acc.length<=1000000000000:=by have:=bj.o;omega
    clear N a5 a6 p2 f10 k0 k1 HC ai au;by_cases bd:0<=zz
    case' pos=>have e:decide (0<=zz)=true:=AV bd
    case' neg=>have e:decide (0<=zz)=false:=AU bd
    all_goals
     have HX:=ci.o
     first|rw[Az bd]at HX|rw[AJ bd]at HX
     have HX:=aA HX;go_wp2_with (refine yA rfl (.tmp 63) (.tmp 65) _ rfl underlying51 w.heap.size _ acc rfl b4.o.o _ _ zz rfl (tD w2 [.int .i64 zz] 3 0) ck (by have:=cj.o;simp;omega) ?_;intro v4 w4 bn b5;obtain⟨A4,n4,c4,rfl⟩:=Lr bn;have D:=aA (b4.o.app bn b5 hB);have q41:w4.cell? ⟨Q,1,none⟩=some (.slice Av nv cv):=AF w4 _ 1 _ _ _ D.o.1;have q42:w4.cell? ⟨Q,2,none⟩=some (.int .i64 p):=AF w4 _ 2 _ _ _ D.o.1;have f41:=AM w4 _ 1 _ _ D.o.1;have f42:=AM w4 _ 2 _ _ D.o.1;have cI:=(Ad.1 D.o.1).1;clear bn b5)
     go_roundw
     case rel=>exact⟨i+1,t2,acc++[zz],_,.slice A4 n4 c4,a2,ν,by rw[AZ,BC,bj.o],HX,aA ⟨fun z hz=>by rcases Bs.1 hz with q|q;exact a1.o.1 z q;rw[AW.1 q];exact ah.o.2.2,by first|exact ah.o.2.2|exact a1.o.2⟩,aA (by first|exact D.o.2|exact D.o.2.GD 2 (.int .i64 zz) rfl (D.o.2.o.mW D.o.2.qb 2 _) hB)⟩
     case measure=>simp[intOf];omega
   ·obtain rfl:i=pr.r.length:=ω
    have hE:=HE.o;rw[O8 (Af _)]at hE;injection hE with hE;injection hE with e1 hE;injection hE with e2 e3;subst e1;subst e2;subst e3;have p3:=bL HP.o.pb;have p4:=qJ HP.o.pb;rcases ad.o with⟨cl,e1,e2⟩|⟨x,zp,bo,bp,e2⟩
    case' inl =>
     subst e1;subst e2
     replace p3:wr.cell? ⟨w.heap.size,3,none⟩=some (.string ⟨#[]⟩):=by rw[p3,cl];rfl
     clear p4;go_wp2_with fail
     obtain⟨wz,aj⟩:∃x,x=wr:=⟨_,rfl⟩
     rw[<-aj];have I:Hid (ny w wz B R Q ns rs lv ts' #[.string s0,.complex .f64 X0 Y0,.slice A pr.r.length c,.string (yt pr.p),.complex .f64 (yu L pr.p) (yv L pr.p)] lf v acc p):=aA (by rw[aj];exact HP.o);clear aj p3;have b6:=aA (Fit.more (rs:=rs) (r:=⟨lf,acc,p⟩) HP.o.f ⟨bD.o,a1.o.2,a1.o.1⟩);obtain⟨zp,rfl⟩:∃x,x=p:=⟨_,rfl⟩
    case' inr =>
     subst e2;obtain⟨ab,ar,a3⟩:=ce.o x bo;obtain⟨E,F⟩:=Pw bp ab HP.o.f;obtain⟨V,a4⟩:=SM bp HP.o.t;have J:=aA V;have ah:=aA (Ca F a4);have au:=aA (fun(y:World)=>Ic x.t ab y);rw[ar]at au;have ai:=aA (fun(y:World) (h:Wk y B w.heap.size R tk ns rs lv) (hy:w.heap.size<=y.heap.size)=>Mu L B w.heap.size R tk ts' ns rs lv zp x false y h HP.o.f ab a3 hy (Ah hB hy) E HP.o.t bb);unfold cH at ai;have cJ:(K.str x.t).toList.isEmpty=false:=Qu ar
     replace p3:wr.cell? ⟨w.heap.size,3,none⟩=some (.string (K.str x.t)):=by rw[p3,bo];rfl
     replace p4:wr.cell? ⟨w.heap.size,4,none⟩=some (.complex .f64 (Fl.fl (Pl.pos (L.take x.o)).1) (Fl.fl (Pl.pos (L.take x.o)).2)):=by rw[p4,bo];rfl
     have HC:=aA (ai.o _ HP.o.b HP.o.w.size);clear ab ar a3 E F V a4 bp ai;generalize K.str x.t=sx at *;generalize Fl.fl (Pl.pos (L.take x.o)).1=X at *;generalize Fl.fl (Pl.pos (L.take x.o)).2=Y at *;go_wp2_with fail
     refine(au.o _).mono ?_;rintro _ _ ⟨rfl,rfl⟩;go_wp2_with fail
     refine HC.o.mono ?_;rintro _ w2 ⟨rfl,N,a5,a6⟩;have M:=aA (HP.o.call N a5 a6 ah.o.1 ah.o.2);have q2:=bB M.o.qb;have f2:=AM w2 _ 2 _ _ M.o.qb;have cm:=(Ad.1 M.o.qb).1;clear N a5 a6 p3 p4;go_upto_region 20 with fail
     obtain⟨wz,aj⟩:∃x,x=w2.setCell ⟨Q,2,none⟩ (.int .i64 zp):=⟨_,rfl⟩
     rw[<-aj];have I:Hid (ny w wz B R Q ns rs lv ts' #[.string s0,.complex .f64 X0 Y0,.slice A pr.r.length c,.string (yt pr.p),.complex .f64 (yu L pr.p) (yv L pr.p)] lf v acc zp):=aA (by rw[aj];exact M.o.GD 2 (.int .i64 zp) rfl (M.o.o.mW M.o.qb 2 _) hB);clear aj q2 f2 cm;have b6:=aA (Fit.more (rs:=rs) (r:=⟨lf,acc,zp⟩) M.o.f ⟨bD.o,J.o,a1.o.1⟩)
    all_goals
     obtain⟨vT',vN',vR',Z⟩:=I.o.b;have cn:=aA Z;obtain⟨_,_,⟨AR2,cR2,co⟩⟩:=zU Z;subst co;obtain⟨Av,cv,bm,b7,b8,a9⟩:=I.o.o.row hB;subst bm;have c2:wz.cell? ⟨R,2,none⟩=some (.slice AR2 rs.length cR2):=(Z.at 2).1;have cK:=(Z.at 2).2.2;have b3:=(Ad.1 I.o.qb).1;have ak:=aA (Ca b7 (Ca b8 a9));clear Z a9 b7 b8;have E0:=fun y:Calm.kC Q wz=>aQ (y.2.trans I.o.qb);have E1:=fun y:Calm.kC Q wz=>aU (y.2.trans I.o.qb);have E2:=fun y:Calm.kC Q wz=>bB (y.2.trans I.o.qb);refine CalmN.fk (fun x=>∃y:Calm.kC Q wz,x=y.1) (.two [0,1,2,3,4,6] 5 (.one [] 7 (.one [] 8 (.one [9,10,11] 12 (.fin [])))) 7 (.one [] 5 (.one [] 8 (.one [9,10,11] 12 (.fin []))))) ⟨⟨wz.drew,rfl⟩,rfl⟩ ?_;simp only[CalmN.fS,CalmN.fu,CalmN.fo,Aq,Ai,Am];repeat (go_big_quiet_step (fail))
     refine Ap ?_;clear E0 E1 E2;have ba:=aA (fun o=>(BD wz o Q b3));refine⟨?_,?_⟩
     all_goals
      intro KK s;rw[Az ε];go_wp2_with fail
      refine s _ _ ⟨⟨_,by first|rfl|exact ba.o _⟩,rfl⟩ _ ι ⟨⟨_,by first|rfl|exact ba.o _⟩,rfl⟩ ?_;refine Ap ?_;intro KK s;rw[Az ε];go_wp2_with fail
      refine s _ _ ⟨⟨(wz.alloc _).drew,ba.o _⟩,rfl⟩ _ ι ⟨⟨(wz.alloc _).drew,ba.o _⟩,rfl⟩ ?_;refine Ap ?_;intro KK s;rw[Az ε];obtain⟨wy,ae⟩:∃x,x=(wz.alloc (.cells #[.int .i64 lf,.slice Av acc.length cv,.int .i64 zp] 74)).drew:=⟨_,rfl⟩
      rw[<-ae];have A0:Hid (gd wy B w.heap.size R (wC vT' vN' (.slice AR2 rs.length cR2) lv) vT' vN' (.slice AR2 rs.length cR2) ts' ns rs):=aA (by rw[ae];exact(cn.o.alloc (.cells #[.int .i64 lf,.slice Av acc.length cv,.int .i64 zp] 74)).nB);have b9:Hid (Below B w wy):=aA (by rw[ae];exact aB (I.o.w.alloc (Ah hB I.o.w.size) _) 1);have cp:Hid (iF w wy):=aA (by rw[ae];exact I.o.k.trans (iF.below (aB ((AB _ _).alloc (Af _) _) 1)));have ca:Hid (wy.heap[Q]?=wz.heap[Q]?):=aA (by rw[ae];exact ba.o _);have cq:Hid (∀j u,(qF (⟨lf,acc,zp⟩,Av,cv))[j]?=some u->wy.cell? ⟨wz.heap.size,j,none⟩=some u):=aA (fun j u hj=>by rw[ae];exact(tD wz (qF (⟨lf,acc,zp⟩,Av,cv)) 74 j).trans hj)
      have bq:Hid (tH wy B wy.heap.size Av acc):=aA (by
       rw[ae];exact(ak.o.2.2.grown (w':=(wz.alloc (.cells #[.int .i64 lf,.slice Av acc.length cv,.int .i64 zp] 74)).drew) (row:=none) ((DY wz (.cells #[.int .i64 lf,.slice Av acc.length cv,.int .i64 zp] 74) none).trans (tC _ none)) (fun g e=>by cases e)).more (by show wz.heap.size<=(wz.alloc _).heap.size;simp))
      have bf:Hid (w.heap.size<=wy.heap.size):=aA b9.o.size;clear ae;refine JU (.tmp 102) (.tmp 104) _ rfl underlying24 B w.heap.size _ rs rfl A0.o.r _ _ (⟨lf,acc,zp⟩,Av,cv) rfl cq.o ⟨ak.o.1,ak.o.2.1,bq.o⟩ ω (Ah hB bf.o) bf.o ?_;intro v8 w8 br av;have A1:=aA ((A0.o.more (Ah bf.o av.size)).Gz br av);obtain⟨A8,c8,rfl,_,_⟩:=yF br
      have bs:Hid (w8.heap[Q]?=wz.heap[Q]?):=aA ((av.block Q (by have:=(Ad.1 (ca.o.trans I.o.qb)).1;exact this) (fun e=>by
       obtain⟨_,_,_,h3,_⟩:=A0.o.r
       have:=h3 _ e.symm
       have:=I.o.q
       omega)).trans ca.o)
      have cr:Hid (l8 w w8):=aA (cp.o.a.trans (by obtain⟨_,_,h2,_⟩:=A0.o.r;exact l8.own h2 av (.inr (.inr rfl))));have cs:Hid (Below B w w8):=aA (b9.o.grown av (Ah hB bf.o) (fun k e=>by obtain⟨_,_,h2,_⟩:=A0.o.r;exact(aN h2 e).1));obtain⟨n8,cb⟩:∃n,n=(rs++[(⟨lf,acc,zp⟩:Gm.Rl)]).length:=⟨_,rfl⟩
      have c28:w8.cell? ⟨R,2,none⟩=some (.slice AR2 rs.length cR2):=(A1.o.at 2).1;have f28:=(A1.o.at 2).2.1;have cL:=(A1.o.at 2).2.2;rw[<-cb]at A1 ⊢;clear br av A0 cb;refine s _ _ ⟨⟨w8,bs.o⟩,rfl⟩ _ ι ⟨⟨w8,bs.o⟩,rfl⟩ ?_
      go_frame
      repeat (go_big_quiet_step (fail))
      refine Ap ?_;intro KK s;rw[Az ε];go_wp2_with fail
      have cc:=aA (fun u=>(AQ w8 ⟨R,2,none⟩ u Q (by simp only;have:=I.o.q;omega)).trans bs.o);refine s _ _ ⟨⟨w8.setCell ⟨R,2,none⟩ _,cc.o _⟩,rfl⟩ _ ι ⟨⟨w8.setCell ⟨R,2,none⟩ _,cc.o _⟩,rfl⟩ ?_;refine Ap ?_;clear s;go_wp2;go_end0
      refine⟨rfl,⟨?_,b6.o,I.o.t⟩,cs.o.setCell A1.o.hR _,cr.o.trans (iF.set A1.o 2 _).a⟩;rw[Q6];exact⟨vT',vN',_,A1.o.set 2 _⟩
def Hh:Array Value:=#[.slice none 0 0,.slice none 0 0,.slice none 0 0,.int .i64 0]
structure Ez (ds:List Y.jL) (ps:List Y.iu):Prop where
 k:F0 ds
 d:∀d∈ds,(∀x∈d.ns,K.Tx x.t/\Gm.named x.t=true)/\d.ns.length<=1000000
 l:∀p∈ps,K.Tx p.l.t/\T.isName p.l.t=true
 r:∀p∈ps,(∀x∈p.r,Kq x)/\F4 p/\p.r.length<=1000
 dl:ds.length<=1000
 pl:ps.length<=1000
 pn:0<ps.length
theorem OQ {ps:List Y.iu} (hk:F0 ds) (h:Gm.build ds ps=.ok G):∃S ns q,Gm.decls ⟨[],[],none,0⟩ ds=.ok S/\Gm.kE S.ts [] ps=.ok ns/\Gm.lT ns S.ts [] ps=.ok q/\G=⟨q.1,ns,q.2,0⟩:=by
 unfold Gm.build at h;obtain⟨S,h1,h⟩:=Gm.R.bind_eq h;obtain⟨ns,h2,h⟩:=Gm.R.bind_eq h;obtain⟨q,h3,h⟩:=Gm.R.bind_eq h;have hs:S.st=none:=K8 ds hk h1;rw[hs]at h;injection h with h;exact⟨S,ns,q,h1,h2,h3,h.symm⟩
theorem O5 {ps:List Y.iu} (h:i<ps.length):Gm.lT ns ts rs (ps.drop i)=(Gm.nH ns ts rs ps[i]).bind fun q=>Gm.lT ns q.1 q.2 (ps.drop (i+1)):=by
 rw[BJ h,Gm.lT]
theorem RF (w:World):(Instr.build 155 #[]).run prog w=.ok (.agg (wC (.slice none 0 0) (.slice none 0 0) (.slice none 0 0) 0)) w:=EC w 155 _ _ κ
theorem Ql {rs':List Gm.Rl} {pr:Y.iu} (h:Gm.nH ns ts rs pr=.ok (ts',rs')) (hl:rs.length<=40):rs'.length<=40:=by
 obtain⟨aa,tz,az,pz,_,q⟩:=Lb h;rcases q with⟨_,_,rfl⟩|⟨x,z,_,_,rfl⟩ <;> simp <;> omega
def IS (w:World) (v:Value) (G:Gm.Gr):Prop:=∃B N R cs vT vN vR,v=.agg #[vT,vN,vR,.int .i64 G.st]/\gd w B N R cs vT vN vR G.ts G.ns G.rs/\N<=w.heap.size
theorem IS.rd {w:World} {v:Value} {G:Gm.Gr} (h:IS w v G):aT w w.heap.size v G:=by
 obtain⟨B,N,R,cs,vT,vN,vR,rfl,h,hN⟩:=h;exact h.rd hN G.st
theorem To (w:World) (A1 A2:Option Addr) (n1 n2 c1 c2:Nat) (wb:World) (h:wb=((w.alloc (.cells #[.slice A1 n1 c1,.slice A2 n2 c2] 114)).alloc (.cells #[.slice none 0 0,.slice none 0 0,.slice none 0 0,.int .i64 0] 26)).alloc (.cells (wC (.slice none 0 0) (.slice none 0 0) (.slice none 0 0) 0) 155)) :
  β w wb/\wb.heap.size=w.heap.size+3/\wb.heap[w.heap.size]?=some (.cells #[.slice A1 n1 c1,.slice A2 n2 c2] 114 (0,0))/\wb.heap[w.heap.size+1]?=some (.cells #[.slice none 0 0,.slice none 0 0,.slice none 0 0,.int .i64 0] 26 (0,0))/\Wk wb w.heap.size (w.heap.size+3) (w.heap.size+1+1) [] [] [] 0:=by
 obtain⟨o0,h0⟩:∃o,o=Obj.cells #[.slice A1 n1 c1,.slice A2 n2 c2] 114:=⟨_,rfl⟩
 obtain⟨o1,h1⟩:∃o,o=Obj.cells #[.slice none 0 0,.slice none 0 0,.slice none 0 0,.int .i64 0] 26:=⟨_,rfl⟩
 obtain⟨o2,h2⟩:∃o,o=Obj.cells (wC (.slice none 0 0) (.slice none 0 0) (.slice none 0 0) 0) 155:=⟨_,rfl⟩
 rw[<-h0,<-h1,<-h2]at h;subst h;have s1:(w.alloc o0).heap.size=w.heap.size+1:=σ
 have s2:((w.alloc o0).alloc o1).heap.size=w.heap.size+1+1:=σ
 refine⟨(((AB _ w).alloc (Af _) o0).alloc ω o1).alloc ω o2,σ,?_,?_,.slice none 0 0,.slice none 0 0,.slice none 0 0,?_,bE.nil _ _,bQ.nil _ _,bF.nil _ _ _,ω⟩
 ·rw[BD _ _ _ ω,BD _ _ _ ω,h0];exact AI w _
 ·rw[BD _ _ _ ω,<-s1,h1];exact AI _ _
 ·rw[<-s2,h2];exact AI _ _
theorem Vi (L:List Int) (ds:List Y.jL) (ps:List Y.iu) (A1 A2:Option Addr) (c1 c2:Nat) (G:Gm.Gr) (w:World) (hd:DO L w w.heap.size A1 ds) (hp:BE L w w.heap.size A2 ps) (hz:Ez ds ps) (hb:Gm.build ds ps=.ok G) :
  Calls prog 54 #[.agg #[.slice A1 ds.length c1,.slice A2 ps.length c2]] w fun e w'=>(∃g,e=.returned (.tuple #[g,.complex .f64 0 0,.int .i64 0])/\IS w' g G/\Gm.Fit G)/\β w w':=by
 obtain⟨S,ns,⟨tz,rz⟩,h1,h2,h3,hG⟩:=OQ hz.k hb;have ax:=fun w=>RF w;unfold wC at ax;have ay:=aA hd;have ai:=aA hp;have HZ:=aA hz;have H1:=aA h1;have H2:=aA h2;have H3:=aA h3;have HG:=aA hG;have bl:Hid (0<ps.length):=aA hz.pn;clear hd hp hz hb h1 h2 h3 hG
 go_enter func54,ntmps54
 go_wp2_with fail
 obtain⟨wb,ae⟩:∃x,x=((w.alloc (.cells #[.slice A1 ds.length c1,.slice A2 ps.length c2] 114)).alloc (.cells #[.slice none 0 0,.slice none 0 0,.slice none 0 0,.int .i64 0] 26)).alloc (.cells (wC (.slice none 0 0) (.slice none 0 0) (.slice none 0 0) 0) 155):=⟨_,rfl⟩
 have bm:=To w A1 A2 ds.length ps.length c1 c2 wb ae;unfold wC at ae;rw[<-ae];obtain⟨b1,b2,b3,b4,b5⟩:=bm;have z:Hid (Go.RowKit.Below w.heap.size w wb):=aA b1;have aj:=aA b3;have az:=aA b4;have ak:=aA b5;have s:Hid (w.heap.size<=wb.heap.size/\w.heap.size+3<=wb.heap.size):=aA ω;clear ae b1 b2 b3 b4 b5 ax;obtain⟨n,hn⟩:∃n,n=w.heap.size:=⟨_,rfl⟩
 have bn:=aA hn;rw[<-hn]at ay ai z aj az ak s ⊢;clear hn;obtain⟨R,hR⟩:∃R,R=n+1+1:=⟨_,rfl⟩
 rw[<-hR]at ak ⊢;have b9:=aA hR;clear hR;have bo:Hid (Gm.Fit ⟨[],[],[],0⟩):=aA ⟨σ,σ,σ,by unfold Gm.In;simp⟩;have HC:=aA (Ve L n (n+3) R [] [] ds ⟨[],[],none,0⟩ S A1 c1 wb ak.o ⟨bo.o,σ,σ⟩ HZ.o.k HZ.o.d (ay.o.fp z.o) s.o.2 s.o.1 rfl HZ.o.dl H1.o);refine HC.o.mono ?_;rintro _ w2 ⟨rfl,⟨a0,a1⟩,a2,al⟩;have a3:=aA a0;have am:=aA a1;have u:=aA a2;have a4:=aA (iF.a al);have ab:=aA (al _ _ _ aj.o δ δ);have s1:=aU ab.o;have aa:=(Ad.1 ab.o).1;have a5:=aA (Ug L n (n+3) R S.ts [] ps [] ns S.lv A2 c2 w2 a3.o am.o.f HZ.o.l ((ai.o.fp z.o).fp u.o) (Ah s.o.2 u.o.size) (Ah s.o.1 u.o.size) σ HZ.o.pl H2.o);clear a0 a1 a2 al HC;go_wp2_with fail
 refine a5.o.mono ?_;rintro _ w3 ⟨rfl,⟨a6,a9,ba⟩,ao,bb⟩;have bp:Hid (Wk w3 n w3.heap.size R S.ts ns [] S.lv):=aA (a6.more (Ah s.o.2 (Ah u.o.size ao.size)));have bq:=aA a9;have br:=aA (u.o.trans ao);have bs:=aA (a4.o.trans bb);have bu:=aA ba;have bv:=aA am.o.h;clear a6 a9 ao bb a5 s1 ba aa a3 u a4 ab am;go_wp2;go_loopw [6] (fun vi wr=>∃(i:Nat) (ts:List Gm.Tm) (rs:List Gm.Rl),i<=ps.length/\vi=.int .i64 i/\Hid (Gm.lT ns ts rs (ps.drop i)=.ok (tz,rz))/\Hid (Wk wr n wr.heap.size R ts ns rs S.lv)/\Hid (Gm.Fit ⟨ts,ns,rs,0⟩)/\Hid (ts.length<=24)/\Hid (rs.length<=40)/\Hid (Below n wb wr)/\Hid (l8 wb wr)) (fun vi _=>ps.length-(intOf vi).toNat)
 case atStart=>exact⟨0,S.ts,[],Bb _,rfl,H3,bp,bq,bv,aA σ,br,bs⟩
 case round =>
  obtain⟨i,ts,rs,hi,rfl,HE,HW,HF,HT,bc,af,ap⟩:=hrel;have ag:=aA (ap.o _ _ _ aj.o δ δ δ δ);have s1:=aU ag.o;have aa:=(Ad.1 ag.o).1;obtain⟨vTr,vNr,vRr,aq⟩:=HW.o;have f10:=(aq.at 10).1;have bw:=aq.lt;simp only[wC,Aq,Ai,Am]at f10;clear aq;have ca:=af.o.size;have cb:=HZ.o.pl;have ar:n<=wr.heap.size:=by have:=s.o;omega
  by_cases A:i<ps.length
  ·have bx:=aA ((ai.o.fp z.o).fp af.o);obtain⟨g,o,rfl,cc,hc⟩:=bx.o ω;obtain⟨k0,k1,⟨A',c',k2,bd⟩,k3,k4⟩:=hc i A;have cd:g<wr.heap.size:=by have:=s.o;omega
   have hE:=HE.o;rw[O5 A]at hE;obtain⟨⟨t2,r2⟩,au,av⟩:=Gm.R.bind_eq hE;simp only at av;have bz:=aA av;obtain⟨z1,z2,z3⟩:=HZ.o.r _ (AD A);have HC:=aA (U8 L n R ts t2 ns rs r2 S.lv ps[i] A' c' wr HW.o HF.o bd (HZ.o.l _ (AD A)).1 z1 z2 (by have:=s.o;omega) HT.o bu.o bc.o z3 au);have bD:=aA (Ql au bc.o);unfold GX at HC;clear hc bd hE av au z1 z2 z3;generalize ps[i]=p at *;generalize yq L p.l=X0 at *;generalize yr L p.l=Y0 at *;generalize K.str p.l.t=s0 at *;generalize yu L p.p=X1 at *;generalize yv L p.p=Y1 at *;generalize yt p.p=s1 at *;go_wp2_with fail
   refine HC.o.mono ?_;rintro _ w4 ⟨rfl,⟨bf,bg,bh⟩,bi,bj⟩;have H4:=aA (Ca bf (Ca bg (Ca bh (Ca (af.o.trans bi) (ap.o.trans bj)))));clear bf bg bh bi bj HC;go_wp2;go_roundw
   case rel=>exact⟨i+1,t2,r2,A,ν,bz,aA H4.o.1,aA H4.o.2.1,aA H4.o.2.2.1,bD,aA H4.o.2.2.2.1,aA H4.o.2.2.2.2⟩
   case measure=>simp[intOf];omega
  ·obtain rfl:i=ps.length:=ω
   have hE:=HE.o;rw[Et,Gm.lT]at hE;injection hE with hE;injection hE with e1 e2;subst e1;subst e2;have e0:((ps.length:Int)==0)=false:=Bc.2 (by have:=bl.o;omega);go_wp2_with fail
   have f7:=fun y:Calm.On wr.heap.size wr=>(show y.1.cell? ⟨R,7,none⟩=some (.bool false) by obtain⟨a,b,c,h⟩:=HW.o.below y.2;exact(h.at 7).1)
   refine CalmN.fk (γ wr) (.one [0,1,2,3,4,5,6,7,8,9,10,11,12,13] 14 (.fin [15,16])) ⟨⟨wr.drew,aB (AB _ _) 1⟩,rfl⟩ ?_;simp only[CalmN.fS,CalmN.fu,CalmN.fo,Aq,Ai,Am];repeat (go_big_quiet_step (fail))
   refine Ap ?_;intro KK2 ac;rw[AJ (by exact(fun h=>absurd (show false=true from h) δ))];refine ac _ _ ⟨⟨wr.drew,aB (AB _ _) 1⟩,rfl⟩ _ ι ⟨⟨wr.drew,aB (AB _ _) 1⟩,rfl⟩ ?_;simp only[Act.put,D7,DM,DN];repeat (go_big_quiet_step (fail))
   refine Ap ?_;clear f7 s1 aa f10 bw ac;obtain⟨wz,ah⟩:∃x,x=wr.drew:=⟨_,rfl⟩
   rw[<-ah];have B:β wr wz:=by rw[ah];exact aB (AB _ _) 1
   have bM:=aA (HW.o.below B);have bk:wz.heap.size=wr.heap.size:=by rw[ah];rfl
   have bT:=aA ((z.o.trans af.o).trans (B.mono ar));have ad:=aA ((B.block _ (Ad.1 ag.o).1).trans ag.o);have aw:=ap.o _ _ _ az.o δ δ δ δ;have j:=aA ((B.block _ (Ad.1 aw).1).trans aw);clear ah aw B;have s1:=aU ad.o;have aa:=(Ad.1 ad.o).1;obtain⟨vTz,vNz,vRz,m⟩:=bM.o;obtain⟨⟨AT,cT,rfl⟩,⟨AN,cN,rfl⟩,⟨AR,cR,rfl⟩⟩:=zU m;have bX:=aA m;have b0:=(m.at 0).1;have b1:=(m.at 1).1;have b2:=(m.at 2).1;have b3:=(m.at 3).1;have b7:=(m.at 7).1;have b10:=(m.at 10).1;have ce:=m.lt;simp only[wC,Aq,Ai,Am]at b0 b1 b2 b3 b7 b10;have g0:=aQ j.o;have g1:=aU j.o;have g2:=bB j.o;have g3:=bL j.o;have f0:=AM wz _ 0 _ _ j.o;have f1:=AM wz _ 1 _ _ j.o;have f2:=AM wz _ 2 _ _ j.o;have f3:=AM wz _ 3 _ _ j.o;have cf:=(Ad.1 j.o).1;have b6:Hid (nW wz wz.heap.size (some (n+1))):=aA ⟨fun g e=>by injection e with e;subst e;exact⟨_,_,j.o,δ,δ,δ,.inl ⟨δ,δ⟩⟩⟩;have b8:=aA (fun u0 u1 u2 u3=>(bX.o.more (N':=wz.heap.size) (by rw[bk];exact Af _)).grown (aF (aF (aF (aF (AO wz (some (n+1))) 0 u0) 1 u1) 2 u2) 3 u3) b6.o);clear m bk;go_wp2;refine B3 (v:=.tuple #[.agg #[.slice AT ts.length cT,.slice AN ns.length cN,.slice AR rs.length cR,.int .i64 0],.complex .f64 0 0,.int .i64 0]) (by simp[results,results54,go_sem,g0,g1,g2,g3]) rfl ?_;rw[HG.o];refine⟨⟨_,rfl,⟨_,_,_,_,_,_,_,rfl,b8.o _ _ _ _,σ⟩,HF.o⟩,?_⟩;show Go.RowKit.Below w.heap.size w _;rw[<-bn.o];exact(((bT.o.setCell (by simp only;omega) _).setCell (by simp only;omega) _).setCell (by simp only;omega) _).setCell (by simp only;omega) _
theorem LV {rest:List Oper} {o:Oper} {a:Act} {Q:Exit->Act->World->Prop} (af:o.guard=none) (s x:Operand) (t:TypeId) (ho:o.op=.call {callee:=.builtin .append,args:=#[s,x],argTypes:=#[t,t]}) (ht:prog.underlying t=some (.slice 85)) (base:Nat) (v:Value) (xs:List Gm.Tm) (hs:a.eval s=v) (aa:bE w base v xs) (B m c:Nat) (A:Option Addr) (zs:List Gm.Tm) (hx:a.eval x=.slice A m c) (hm:m=zs.length) (hr:rO w B A zs) (aj:xs.length+zs.length<=1000000) (ab:base<=w.heap.size) (hK:∀v' w',bE w' base v' (xs++zs)->w.grownBy w' v.ownBlock->wpList prog ops Q rest (a.put o.dst v') w') :
  wpList prog ops Q (o::rest) a w:=by
 obtain⟨i,hi,ak,al,am⟩:=CF Nt;subst hm;rcases A with _|ad
 ·have hz:zs=[]:=by
   rcases Di zs.length with h0|h0
   ·exact BI h0
   ·obtain⟨g,o',h,_⟩:=hr ω;cases h
  subst hz;have ac:=Fx (P:=prog) w base t o.type 85 i 3 ht hi v xs.length _ aa c;refine E5 af fun K ao=>?_;unfold Oper.wp;simp[execOp,ho,resolve,invoke,builtin,hs,hx,ac,Result.andThen];exact ao _ _ (hK v w (by simpa using aa) (AO _ _))
 ·refine Dp w af s x t ho base 85 i _ 3 32 ht hi ak al am rfl δ v xs.length (rQ xs) hs aa ad zs.length c (rQ zs) hx (Lx kO (fun _=>rfl) zs) ?_ ?_ (by unfold maxLen;omega) ω ab fun v' w' h1 h2 _=>hK v' w' ?_ h2
  ·intro j u hj;have ap:j<zs.length*3:=by have:=(Bk.1 hj).1;rw[<-Lx kO (fun _=>rfl) zs];exact this
   obtain⟨g,o',h,_,hc⟩:=hr ω
   replace h:=DG h
   subst h;have e:((⟨g,o',none⟩:Addr).add j)=⟨g,o'+j,none⟩:=by unfold Addr.add;by_cases h0:j=0 <;> simp[h0]
   rw[e];have ag:j / 3<zs.length:=ω
   have ah:j % 3<3:=Nat.mod_lt _ δ;have ai:j=j / 3*3+j % 3:=ω
   have hk:=GP kO (fun _=>rfl) zs (j / 3) (j % 3) ag ah;rw[<-ai]at hk;have ae:(kO zs[j / 3])[j % 3]?=some u:=hk.symm.trans hj;obtain⟨k0,k1,k2⟩:=hc (j / 3) ag;rw[ai];generalize j % 3=q at *
   match q,ah with
   | 0,_=>rw[CB,k0];exact ae
   | 1,_=>rw[<-Nat.add_assoc,k1];exact ae
   | 2,_=>rw[<-Nat.add_assoc,k2];exact ae
  ·intro u hu;unfold rQ at hu;obtain⟨y,_,hy⟩:=CJ.1 hu;simp[kO]at hy;rcases hy with rfl|rfl|rfl <;> rfl
  ·unfold bE rQ;rw[AZ,BW];exact h1
theorem Hn (w:World):bE (w.alloc (.cells #[] 85)) w.heap.size (.slice (some ⟨w.heap.size,0,none⟩) 0 0) []:=by
 have:=World.ownsRow_made (base:=w.heap.size) (e:=85) (size:=3) w #[] 0 (Af _) (by unfold maxLen;omega) rfl
 exact this
section
variable {w0 wr w':World} {n:Nat} {cs:Array Value} {vT vN v:Value} {ts:List Gm.Tm} {ns:List (List Int)} {rs:List Gm.Rl}
end
theorem FD {e:TypeId} {size:Nat} (h:w.ownsRow base e size v n xs) (hb:base'<=base):w.ownsRow base' e size v n xs:=by
 refine⟨h.1,?_⟩;rcases h.2 with h0|⟨g,cap,cur,e,aa,hr⟩
 ·exact .inl h0
 ·exact .inr ⟨g,cap,cur,e,ω,hr⟩
structure Gx (w:World) (n:Nat) (vT vN v:Value) (ts:List Gm.Tm) (ns:List (List Int)) (rs:List Gm.Rl):Prop where
 a:∃cs,w.heap[n]?=some (.cells cs 26 (0,0))
 b:∃cs,w.heap[n+1]?=some (.cells cs 26 (0,0))
 t:bE w n vT ts
 nn:bQ w n vN ns
 r:bF w n w.heap.size v rs
theorem Gx.set (h:Gx w n vT vN v ts ns rs) (g j:Nat) (u:Value) (hg:g=n\/g=n+1):Gx (w.setCell ⟨g,j,none⟩ u) n vT vN v ts ns rs:=by
 have hc:∃cs,w.heap[g]?=some (.cells cs 26 (0,0)):=by rcases hg with rfl|rfl;exact h.a;exact h.b
 obtain⟨cs,hc⟩:=hc;have hs:w.grownBy (w.setCell ⟨g,j,none⟩ u) (some g):=aF (AO _ _) j u
 have key:∀m:Nat,(∃cs,w.heap[m]?=some (.cells cs 26 (0,0)))->∃cs,(w.setCell ⟨g,j,none⟩ u).heap[m]?=some (.cells cs 26 (0,0)):=fun m ⟨c2,h2⟩=>by
  by_cases e:m=g
  ·subst e;exact⟨_,Ba w m j _ _ u h2⟩
  ·exact⟨c2,(AQ w ⟨g,j,none⟩ u m (by simp only;omega)).trans h2⟩
 refine⟨key n h.a,key (n+1) h.b,Bf h.t hs (aP h.t hc (fun cur e=>by injection e with _ e;cases e)),Bf h.nn hs (aP h.nn hc (fun cur e=>by injection e with _ e;cases e)),(h.r.grown hs (fun g' e=>?_)).more hs.size⟩;injection e with e;subst e;exact .inl ⟨aS hc δ,aS hc δ⟩
theorem Gx.rd (h:Gx w n vT vN v ts ns rs) (z:Int):aT w w.heap.size (.agg #[vT,vN,v,.int .i64 z]) ⟨ts,ns,rs,z⟩:=by
 obtain⟨AT,cT,rfl,h1,h2⟩:=Ii h.t;obtain⟨AN,cN,rfl,h3,h4⟩:=H8 h.nn;obtain⟨AR,cR,rfl,h5,h6⟩:=Ij h.r (Af _);exact⟨AT,cT,AN,cN,AR,cR,rfl,h1,h3,h5,h2,h4,h6⟩
theorem Gm.mo (h:Gm.Ok G) {x:Gm.Rl} (hx:x∈G.rs):Gm.oJ (Gm.gn true G.rs G.ns.length) (Gm.rc G) x=Gm.use G x:=by
 unfold Gm.oJ Gm.use;rw[Bx,Bd,Gm.fV,Gm.kR h.iO];have hl:=h.iO x hx;rw[Gm.yn G x.l.toNat ω,Gm.fV,BH hl.1]
noncomputable def Gm.kl (G:Gm.Gr) (i:Nat):List Int:=((List.range i).filter fun j=>(G.rs[j]?).any (Gm.use G)).map fun j:Nat=>(j:Int)
theorem Gm.sj (h:i<G.rs.length):Gm.kl G (i+1)=if Gm.use G G.rs[i]=true then Gm.kl G i++[(i:Int)] else Gm.kl G i:=by
 unfold Gm.kl;rw[CM,CH,Bi];have e:(G.rs[i]?).any (Gm.use G)=Gm.use G G.rs[i]:=by rw[AH h];rfl
 cases hu:Gm.use G G.rs[i]
 ·simp[e,hu]
 ·simp[e,hu]
theorem Gm.uA (G:Gm.Gr) (i:Nat):(Gm.kl G i).length<=i:=by
 unfold Gm.kl;rw[Bh]
 have:=CD (fun j=>(G.rs[j]?).any (Gm.use G)) (List.range i)
 simpa using this
theorem Gm.ze (G:Gm.Gr):Gm.kl G G.rs.length=(Gm.kept G).map fun j:Nat=>(j:Int):=rfl
theorem UF (c:Nat) (w:World):(binOp .eql 22 (.slice none 0 c) (.slice none 0 0)).run prog w=.ok (.bool true) w:=κ
theorem SN (ad:Addr) (n c:Nat) (w:World):(binOp .eql 22 (.slice (some ad) n c) (.slice none 0 0)).run prog w=.ok (.bool false) w:=κ
theorem RD (A:Option Addr) (c B:Nat) (ts:List Gm.Tm) (w:World) (hr:rO w B A ts) (hB:B<=w.heap.size) (hl:ts.length<=1000) :
  Calls prog 180 #[.slice A ts.length c] w fun e w'=>∃v,e=.returned v/\bE w' w.heap.size v ts/\β w w':=by
 have HR:=aA (fun o=>(show rO (w.alloc o) w.heap.size A ts from(hr.fp fun g o' hg=>(Below.cell ((AB w.heap.size w).alloc (Af _) o) (p:=⟨g,o',none⟩) (by simp only;omega))).more hB));have HL:=aA hl;cases A with
 | none =>
  have h0:ts=[]:=by
   rcases Di ts.length with h|h
   ·exact BI h
   ·obtain⟨g,o,e,_⟩:=hr ω;cases e
  subst h0;have hq:=fun w=>UF c w;clear hr hl HR HL hB
  go_enter func180,ntmps180
  go_wp2;go_ret
  exact⟨_,rfl,bE.nil _ _,AB _ _⟩
 | some ad =>
  have hq:=fun w=>SN ad ts.length c w;clear hr hl hB
  go_enter func180,ntmps180
  go_wp2_with (at_builtin;refine LV rfl (.tmp 5) (.tmp 6) _ rfl underlying22 w.heap.size _ [] rfl (Hn w) w.heap.size ts.length c (some ad) ts rfl rfl (HR.o _) (by have:=HL.o;simp;omega) σ ?_;intro v2 w2 aa ab)
  go_ret
  exact⟨_,rfl,aa,((AB w.heap.size w).alloc (Af _) _).grown ab σ (fun k e=>(aN (Hn w) e).1)⟩
def Gm.rS (an:List Int) (z:Int):Int:=if z<0 then -1-an.getD (-1-z).toNat 0 else z
theorem Gm.ug (f:Int->Int) (h:k<r.length):((r.take k).map f++List.replicate (r.length-k) 0).set k (f r[k])=(r.take (k+1)).map f++List.replicate (r.length-(k+1)) 0:=by
 rw[De _ _ (by simp;omega)];rw[AP h,Bi,Cd]
 congr 1
 rw[show k-((r.take k).map f).length=0 by simp;omega,show r.length-k=(r.length-(k+1))+1 by omega,CY];rfl
theorem Om (x:Gm.Rl) (an:List Int) (A A2:Option Addr) (c c2 B B2:Nat) (w:World) (hr:gg w B A x.r) (h2:gg w B2 A2 an) (hB:B<=w.heap.size) (ae:B2<=w.heap.size) (f:∀z∈x.r,Gm.In z) (hs:∀z∈x.r,z<0->-1-z<(an.length:Int)) (hx:0<=x.l/\x.l<an.length) (hl:x.r.length<=1000) (ao:∀i:Nat,i<an.length->0<=an.getD i 0/\an.getD i 0<=1000) :
  Calls prog 181 #[.agg #[.int .i64 x.l,.slice A x.r.length c,.int .i64 x.p],.slice A2 an.length c2] w fun e w'=>∃g,e=.returned (.agg #[.int .i64 (an.getD x.l.toNat 0),.slice (some ⟨g,0,none⟩) x.r.length x.r.length,.int .i64 x.p])/\w.heap.size<=g/\gJ w' g (x.r.map (Gm.rS an))/\β w w':=by
 obtain⟨l,r,pz⟩:=x;simp only at hr f hs hx hl ⊢;obtain⟨ml,rfl⟩:∃m:Nat,l=(m:Int):=⟨l.toNat,ω⟩
 rw[Cj];obtain⟨w1,C⟩:∃y,y=(w.alloc (.cells #[.int .i64 ml,.slice A r.length c,.int .i64 pz] 74)).alloc (.cells #[.int .i64 0,.slice none 0 0,.int .i64 0] 74):=⟨_,rfl⟩
 have ap:w1.heap.size=w.heap.size+2:=by rw[C];simp
 have az:Hid (β w w1):=aA (by rw[C];exact((AB _ w).alloc (Af _) _).alloc σ _);have x0:w1.heap[w.heap.size]?=some (.cells #[.int .i64 ml,.slice A r.length c,.int .i64 pz] 74 (0,0)):=by rw[C,BD _ _ _ σ];exact AI w _
 have x1:w1.heap[w.heap.size+1]?=some (.cells #[.int .i64 0,.slice none 0 0,.int .i64 0] 74 (0,0)):=by rw[C];have:=AI (w.alloc (.cells #[.int .i64 ml,.slice A r.length c,.int .i64 pz] 74)) (.cells #[.int .i64 0,.slice none 0 0,.int .i64 0] 74);simpa using this
 have c1:=aU x0;have af:=aA x0;have ag:=aA x1;have n:=aA ap;have a0:w.heap.size<w1.heap.size:=ω
 have HR:=aA (fun(y:World) (h:β w y)=>hr.below h hB);have H2:=aA (fun(y:World) (h:β w y)=>h2.below h ae);have HI:=aA (fun z w=>Ik z w);have HN:=aA (fun z h1 h2 w=>Ht z h1 h2 w);have a1:=aA f;have a2:=aA hs;have a3:=aA ao;have a4:ml<an.length:=ω
 have bi:(ml:Int)<(an.length:Int):=ω
 have a5:=aA (Ca hB ae);have a6:(r.length:Int)<=9223372036854775807:=ω
 clear hr h2 f hs hx hB ae ao x0 x1 ap
 go_enter func181,ntmps181
 go_upto_region 1 with fail
 rw[<-C];clear C;go_upto_region 2 with(at_make;refine Is rfl (.tmp 10) (.tmp 10) _ rfl underlying51 r.length _ _ rfl rfl rfl rfl ω ?_;intro w2 aq D a9)
 have ah:=aA aq;have c1:=(D.cell (p:=⟨w.heap.size,1,none⟩) (by simp only;omega)).trans c1;have ba:w.heap.size<w2.heap.size:=ω
 have ar:=aA (az.o.trans (D.mono (by have:=n.o;omega)));have af:=aA ((D.block w.heap.size a0).trans af.o);have ag:=aA ((D.block (w.heap.size+1) (by have:=n.o;omega)).trans ag.o);clear aq D;go_wp2;go_loopw [15] (fun vk wr=>∃k:Nat,k<=r.length/\vk=.int .i64 k/\Hid (gJ wr w1.heap.size ((r.take k).map (Gm.rS an)++List.replicate (r.length-k) 0))/\Hid (w2.grownBy wr (some w1.heap.size))) (fun vk _=>r.length-(intOf vk).toNat)
 case atStart=>exact⟨0,Bb _,rfl,by simpa using ah,aA (AO _ _)⟩
 case round =>
  obtain⟨k,hk,rfl,HU,HW⟩:=hrel;have E:=aA (aM ar.o HW.o (by have:=n.o;omega) ar.o.size);by_cases s:k<r.length
  ·obtain⟨g,o,rfl,bj,hc⟩:=HR.o wr E.o ω;have k0:=hc k s;rw[L.fy s]at k0;have bl:=Bl k0;have f:=a1.o _ (AD s);have ai:=a2.o _ (AD s);have aa:=aA (Gm.ug (Gm.rS an) s);have bm:=HU.o.lt;have bn:=HU.o.frozen k;have bo:=HU.o.cell k (by simp;omega);have bp:=HU;generalize r[k]=z at *;unfold Gm.In at f;have ab:=aA (fun w=>HI.o z w);have aj:=aA (fun w=>HN.o z f.1 f.2 w);have au:=aA (fun u=>HU.o.ky k u);have av:=aA (fun u=>aF HW.o k (Value.int .i64 u));clear hc;by_cases hz:z<0
   ·have bb:=ai hz;obtain⟨j,hj⟩:∃j:Nat,-1-z=(j:Int):=⟨(-1-z).toNat,ω⟩
    rw[hj]at bb;have ak:Hid (Gm.rS an z = -1-an.getD j 0):=aA (by unfold Gm.rS;rw[Az hz,hj];simp);obtain⟨g2,o2,rfl,bc,F⟩:=H2.o wr E.o ω;have k2:=F j ω;have hq:=a3.o j ω;have bq:j<an.length:=ω
    have bd:=aA (fun w=>HN.o (an.getD j 0) ω ω w);rw[hj]at aj;rw[AV hz]at ab;rw[ak.o]at aa;generalize an.getD j 0=qv at *;have l2:=Bl k2;clear hz hj ai F f hq;go_wp2_with fail
    refine(ab.o _).mono ?_;rintro _ w3 ⟨rfl,t⟩;subst t;go_wp2_with fail
    refine(aj.o _).mono ?_;rintro _ w3 ⟨rfl,t⟩;subst t;go_wp2_with fail
    refine(bd.o _).mono ?_;rintro _ w3 ⟨rfl,t⟩;subst t;generalize -1-qv=nv at *;go_wp2;go_roundw
    case rel=>exact⟨k+1,s,ν,by rw[<-aa.o];exact au.o nv,av.o nv⟩
    case measure=>simp[intOf];omega
   ·have ak:Hid (Gm.rS an z=z):=aA (by unfold Gm.rS;rw[AJ hz]);rw[AU hz]at ab;rw[ak.o]at aa;clear hz ai f aj;go_wp2_with fail
    refine(ab.o _).mono ?_;rintro _ w3 ⟨rfl,t⟩;subst t;go_wp2;go_roundw
    case rel=>exact⟨k+1,s,ν,by rw[<-aa.o];exact au.o z,av.o z⟩
    case measure=>simp[intOf];omega
  ·obtain rfl:k=r.length:=ω
   have ah:Hid (gJ wr w1.heap.size (r.map (Gm.rS an))):=aA (by have:=HU.o;simpa using this);have ac:=aA ((HW.o.block w.heap.size ba (fun e=>by injection e with e;omega)).trans af.o);have bf:=aA ((HW.o.block (w.heap.size+1) (by have:=n.o;omega) (fun e=>by injection e with e;have:=n.o;omega)).trans ag.o);obtain⟨g2,o2,rfl,bc,F⟩:=H2.o wr E.o ω;have k2:=F ml a4;obtain⟨qv,al⟩:∃q,q=an.getD ml 0:=⟨_,rfl⟩
   rw[<-al]at k2;have HQ:=aA al;clear F HU al;go_upto_region 9 with fail
   have br:w.heap.size≠w.heap.size+1:=ω
   have lg2:g2<w.heap.size:=by have:=a5.o;omega
   have b0:=fun y:Calm.wJ (w.heap.size+1) wr=>aQ ((y.2.block w.heap.size (Ad.1 ac.o).1 (fun e=>by injection e with e;omega)).trans ac.o);have b2:=fun y:Calm.wJ (w.heap.size+1) wr=>bB ((y.2.block w.heap.size (Ad.1 ac.o).1 (fun e=>by injection e with e;omega)).trans ac.o);have bk:=fun y:Calm.wJ (w.heap.size+1) wr=>xU y.2 k2 ω;have ad:wr.grownBy wr.drew (some (w.heap.size+1)):=tC wr _;have bg:Hid (w.heap.size+1≠w1.heap.size):=aA (by have:=n.o;omega);refine CalmN.fk (fun x=>∃y:Calm.wJ (w.heap.size+1) wr,x=y.1) (.one [0,1,2,3,4,5,6,7,8] 9 (.fin [])) ⟨⟨wr.drew,ad⟩,rfl⟩ ?_;simp only[CalmN.fS,CalmN.fu,CalmN.fo,Aq,Ai,Am];repeat (go_big_quiet_step (fail))
   refine Ap ?_;intro KK aw;rw[Az ε];clear b0 b2 bk;have b:=show wr.drew.heap[w.heap.size+1]?=_ from bf.o;obtain⟨wd,ax⟩:∃y,y=wr.drew:=⟨_,rfl⟩
   rw[<-ax]at ad b ⊢;have e0:=AF wd _ 0 _ _ _ b;have e1:=AF wd _ 1 _ _ _ b;have e2:=AF wd _ 2 _ _ _ b;have f0:=AM wd _ 0 _ _ b;have f1:=AM wd _ 1 _ _ b;have f2:=AM wd _ 2 _ _ b;have ld1:=(Ad.1 b).1;have bh:=aA ad;have HY:=aA b;clear ad b ax;go_wp2_with fail
   have H:=bh.o.trans (aF (aF (aF (AO wd (some (w.heap.size+1))) 0 (.int .i64 qv)) 1 (.slice (some ⟨w1.heap.size,0,none⟩) r.length r.length)) 2 (.int .i64 pz));have am:=aA H;have h0:=Ba _ _ 2 _ _ (.int .i64 pz) (Ba _ _ 1 _ _ (.slice (some ⟨w1.heap.size,0,none⟩) r.length r.length) (Ba wd _ 0 _ _ (.int .i64 qv) HY.o));obtain⟨wf,ay⟩:∃y,y=((wd.setCell ⟨w.heap.size+1,0,none⟩ (.int .i64 qv)).setCell ⟨w.heap.size+1,1,none⟩ (.slice (some ⟨w1.heap.size,0,none⟩) r.length r.length)).setCell ⟨w.heap.size+1,2,none⟩ (.int .i64 pz):=⟨_,rfl⟩
   rw[<-ay]at H h0 am ⊢;refine aw _ _ ⟨⟨wf,H⟩,rfl⟩ (fun x=>∃y:Calm.wJ (w.heap.size+1) wr,x=y.1) ι ⟨⟨wf,H⟩,rfl⟩ ?_;have j0:=aQ h0;have j1:=aU h0;have j2:=bB h0;have lf:=(Ad.1 h0).1;clear H e0 e1 e2 f0 f1 f2 ay aw h0 ld1;refine Ap ?_;go_wp2;refine B3 (v:=.agg #[.int .i64 qv,.slice (some ⟨w1.heap.size,0,none⟩) r.length r.length,.int .i64 pz]) (by simp[results,results181,go_sem,j0,j1,j2]) rfl ?_;exact⟨w1.heap.size,by rw[HQ.o],by have:=n.o;omega,ah.o.grown am.o (fun e=>by injection e with e;exact bg.o e.symm),aM E.o am.o ω E.o.size⟩
theorem Sw (v:Value) (G:Gm.Gr) (B:Nat) (w:World) (hg:aT w B v G) (hf:Gm.Fit G) (t:Gm.Ok G) (hB:B<=w.heap.size) :
  Calls prog 132 #[v] w fun e w'=>∃u,e=.returned u/\aV w' w.heap.size u (Gm.kl G G.rs.length)/\β w w':=by
 have q:=Gm.fq.2 t;have ai:=aA (fun(x:World) (h:β w x)=>(show Calls _ _ _ _ (wI _ _) from(Jk v G B x (hg.below h hB) hf (Ah hB h.size)).mono fun e w' k=>k.1 q));have aj:=aA (fun(x:World) (h:β w x)=>(show Calls _ _ _ _ (wI _ _) from(OE v G B x (hg.below h hB) hf (Ah hB h.size)).mono fun e w' k=>k.1 q));clear q;obtain⟨AT,cT,AN,cN,AR,cR,rfl,_,⟨bm,bn⟩,_,_,_,hR⟩:=hg;have bb:=aA (One.start w #[.slice AT G.ts.length cT,.slice AN G.ns.length cN,.slice AR G.rs.length cR,.int .i64 G.st]);have bc:=aA hR;have HB:=aA hB;have bd:=aA hf;have ak:=aA t;have al:Hid (G.rs.length<=40):=aA t.kL;have ad:=aA (fun x hx=>Gm.mo t (x:=x) hx);obtain⟨T,hT⟩:∃x,x=Gm.gn true G.rs G.ns.length:=⟨_,rfl⟩
 have am:Hid (T.length=G.ns.length):=aA (by rw[hT,Gm.iJ]);rw[<-hT]at ai ad;obtain⟨R,ao⟩:∃x,x=Gm.rc G:=⟨_,rfl⟩
 have ax:Hid (R.length=G.ns.length):=aA (by rw[ao,Gm.mR]);rw[<-ao]at aj ad;have ay:(G.rs.length:Int)<=9223372036854775807:=by have:=t.kL;omega
 clear hf t hR hB hT ao
 go_enter func132,ntmps132
 go_upto_region 1 with fail
 obtain⟨w1,ap⟩:=χ (w.alloc (.cells #[.slice AT G.ts.length cT,.slice AN G.ns.length cN,.slice AR G.rs.length cR,.int .i64 G.st] 26))
 have b:Hid (One w #[.slice AT G.ts.length cT,.slice AN G.ns.length cN,.slice AR G.rs.length cR,.int .i64 G.st] w1):=aA (by rw[ap];exact One.start _ _);rw[<-ap];clear ap bb
 go_cut [3,4] (fun v3 v4 wx=>∃gp gr,v3=.slice (some ⟨gp,0,none⟩) G.ns.length G.ns.length/\v4=.slice (some ⟨gr,0,none⟩) G.ns.length G.ns.length/\fU wx gp T/\fU wx gr R/\One w #[.slice AT G.ts.length cT,.slice AN G.ns.length cN,.slice AR G.rs.length cR,.int .i64 G.st] wx)
 case first =>
  have q0:=fun y:Calm.On w1.heap.size w1=>(b.o.on y.2).c 0 _ rfl;have q1:=fun y:Calm.On w1.heap.size w1=>(b.o.on y.2).c 1 _ rfl;have q2:=fun y:Calm.On w1.heap.size w1=>(b.o.on y.2).c 2 _ rfl;have q3:=fun y:Calm.On w1.heap.size w1=>(b.o.on y.2).c 3 _ rfl;have E:Hid (β w1 w1.drew):=aA (aB (AB _ _) 1);refine CalmN.fk (γ w1) (.one [0,2] 1 (.one [] 3 (.fin [4,5]))) ⟨⟨w1.drew,E.o⟩,rfl⟩ ?_;simp only[CalmN.fS,CalmN.fu,CalmN.fo,Aq,Ai,Am];repeat (go_big_quiet_step (fail))
  refine Ap ?_;clear q0 q1 q2 q3;have af:=aA (b.o.below.trans (E.o.mono b.o.below.size));obtain⟨wd,az⟩:∃y,y=w1.drew:=⟨_,rfl⟩
  rw[<-az]at E af ⊢;clear az;intro KK aq;rw[Az ε];go_wp2_with fail
  refine(ai.o wd af.o).mono ?_;rintro _ w3 ⟨ga,rfl,bo,a0,a1⟩;rw[am.o];have aa:β w1 w3:=E.o.trans (a1.mono E.o.size);have bf:=aA (af.o.trans (a1.mono af.o.size));go_wp2_with fail
  refine aq _ _ ⟨⟨w3,aa⟩,rfl⟩ _ ι ⟨⟨w3,aa⟩,rfl⟩ ?_;refine Ap ?_;intro KK aq;rw[Az ε];go_wp2_with fail
  refine(aj.o w3 bf.o).mono ?_;rintro _ w4 ⟨gb,rfl,bp,bg,a2⟩;rw[ax.o];have ae:β w1 w4:=aa.trans (a2.mono aa.size);go_wp2_with fail
  refine aq _ _ ⟨⟨w4,ae⟩,rfl⟩ _ ι ⟨⟨w4,ae⟩,rfl⟩ ?_;repeat (go_big_quiet_step (fail))
  refine Ap ?_;go_wp2_with fail
  go_meet
  case rel=>exact⟨ga,gb,rfl,rfl,a0.below a2 a0.lt,bg,b.o.on ae⟩
 case rest =>
  obtain⟨gp,gr,rfl,rfl,a3,a4,ac⟩:=hcut;have ag:=aA a3;have a5:=aA a4;have HW:=aA ac;have q2:=ac.c 2 _ rfl;have ld:w.heap.size<wc.heap.size:=ac.size;clear a3 a4 ac ai aj b;go_wp2;go_loopw [5,15] (fun vl vi wr=>∃i:Nat,i<=G.rs.length/\vi=.int .i64 i/\Hid (aV wr wc.heap.size vl (Gm.kl G i))/\Hid (β wc wr)) (fun _ vi _=>G.rs.length-(intOf vi).toNat)
  case atStart=>exact⟨0,Bb _,rfl,aA (aV.nil _ _),aA (AB _ _)⟩
  case round =>
   obtain⟨i,hi,rfl,HO,f⟩:=hrel;by_cases hlt:i<G.rs.length
   ·obtain⟨g,o,rfl,ar,hc⟩:=bc.o ω;obtain⟨k0,⟨A',c',k1,_,_,a6⟩,k2⟩:=hc i hlt;have j:=aA (HW.o.below.trans (f.o.mono HW.o.below.size));have k0:=(j.o.cell (p:=⟨g,o+i*3,none⟩) (Aj ar HB.o)).trans k0;have k1:=(j.o.cell (p:=⟨g,o+i*3+1,none⟩) (Aj ar HB.o)).trans k1;have k2:=(j.o.cell (p:=⟨g,o+i*3+2,none⟩) (Aj ar HB.o)).trans k2;have bq:g<wr.heap.size:=Bl k0;have A:G.rs[i]∈G.rs:=AD hlt;have e:=bd.o.r _ A;have au:=ak.o.iO _ A;have bh:=(Gm.fT (ak.o.rr _ A)).1;have n:=aA (Gm.sj hlt);have av:=aA (ad.o _ A);have F:=aA (fun(y:World) (h:β wr y)=>Kx G.rs[i] T A' (some ⟨gp,0,none⟩) c' G.ns.length y.heap.size y ((a6.fp fun g o hg=>(j.o.trans (h.mono j.o.size)).cell (p:=⟨g,o,none⟩) (Aj hg HB.o)).more (Ah HB.o (j.o.trans (h.mono j.o.size)).size)) e.2.2 (fun z hz h=>by rw[am.o];exact ak.o.sin _ A z hz h) ((((ag.o.below f.o ag.o.lt).below h (Aj ag.o.lt f.o.size))).p7 (Aj ag.o.lt (Ah f.o.size h.size))) (Af _) ω);rw[am.o]at F;have bi:=aA (Ah (Gm.uA G i) hi);generalize G.rs[i]=x at *;obtain⟨l,r,pz⟩:=x;simp only at k0 k1 k2 F au bh;obtain⟨m,rfl⟩:∃m:Nat,l=(m:Int):=⟨l.toNat,ω⟩
    have br:=au.2;have a9:Hid (Gm.oJ T R ⟨m,r,pz⟩=(R.getD m false&&Gm.iv true T r)):=aA (by simp[Gm.oJ]);have bj:=aA ((AB wr.heap.size wr).alloc (Af _) (.cells #[.int .i64 m,.slice A' r.length c',.int .i64 pz] 74));have km:=((f.o.cell (p:=⟨gr,m,none⟩) a5.o.lt).trans (a5.o.cell m (by rw[ax.o];omega)))
    have lgr:gr<wr.heap.size:=Bl km;clear hc a6 e A au;unfold Gm.use at n av;have C:=aA (av.o.symm.trans a9.o);generalize Gm.tr (Gm.Rc G _/\Gm.Al true G.rs _)=ub at *;clear av a9;have H:=aA (f.o.alloc f.o.size (.cells #[.int .i64 m,.slice A' r.length c',.int .i64 pz] 74));have aw:=aA (HO.o.alloc (.cells #[.int .i64 m,.slice A' r.length c',.int .i64 pz] 74));generalize R.getD m false=rb at *;cases rb
    ·obtain rfl:ub=false:=C.o;have HX:Hid (Gm.kl G (i+1)=Gm.kl G i):=aA (n.o.trans (AJ σ));clear n C;go_wp2;go_roundw
     case rel=>exact⟨i+1,hlt,ν,by rw[HX.o];exact aw,H⟩
     case measure=>simp[intOf];omega
    ·have ba:=aA (F.o _ bj.o);generalize Gm.iv true T r=ab at *;cases ab
     ·obtain rfl:ub=false:=C.o;have HX:Hid (Gm.kl G (i+1)=Gm.kl G i):=aA (n.o.trans (AJ σ));clear n C F;go_wp2_with fail
      refine ba.o.mono ?_;rintro _ w2 ⟨rfl,s⟩;have D:=aA (H.o.trans (s.mono H.o.size));have ah:=aA (aw.o.below s (Af _));clear s;go_wp2;go_roundw
      case rel=>exact⟨i+1,hlt,ν,by rw[HX.o];exact ah,D⟩
      case measure=>simp[intOf];omega
     ·obtain rfl:ub=true:=C.o;have HX:Hid (Gm.kl G (i+1)=Gm.kl G i++[(i:Int)]):=aA (n.o.trans (Az rfl));clear n C F;go_wp2_with fail
      refine ba.o.mono ?_;rintro _ w2 ⟨rfl,s⟩;have D:=aA (H.o.trans (s.mono H.o.size));have ah:=aA (aw.o.below s (Af _));clear s;go_wp2_with (at_builtin;refine yA rfl (.tmp 30) (.tmp 32) _ rfl underlying51 wc.heap.size _ _ rfl (ah.o.alloc _) _ 1 i rfl (Df _ _ _ 0) (by have:=bi.o;have:=al.o;omega) (by have:=D.o.size;simp;omega) ?_;intro v' w3 bk bl)
      go_roundw
      case rel=>exact⟨i+1,hlt,ν,by rw[HX.o];exact bk,KC (D.o.alloc D.o.size _) (ah.o.alloc _) bl (by have:=D.o.size;simp;omega)⟩
      case measure=>simp[intOf];omega
   ·obtain rfl:i=G.rs.length:=ω
    go_wp2;go_ret
    exact⟨_,rfl,HO.o.mono HW.o.below.size,HW.o.below.trans (f.o.mono HW.o.below.size)⟩
theorem Gm.mN:∀(ls acc:List Int) (l:Int),Gm.ord acc (ls++[l])=if l∈Gm.ord acc ls then Gm.ord acc ls else Gm.ord acc ls++[l]
 | [],acc,l=>by rw[CS,Gm.ord,Gm.ord,Gm.ord]
 | x::r,acc,l=>by rw[Ct,Gm.ord,Gm.ord,Gm.mN r]
noncomputable def Gm.oK (G:Gm.Gr) (k:Nat):List Int:=Gm.ord [] (((Gm.iB G).take k).map Gm.Rl.l)
theorem Gm.xz (h:k<(Gm.iB G).length):Gm.oK G (k+1)=if((Gm.iB G)[k]).l∈Gm.oK G k then Gm.oK G k else Gm.oK G k++[((Gm.iB G)[k]).l]:=by
 unfold Gm.oK;rw[AP h,Bi,Dv,Gm.mN]
theorem Gm.zn (G:Gm.Gr):Gm.oK G (Gm.iB G).length=Gm.ft G:=by unfold Gm.oK Gm.ft;rw[Bp]
theorem Gm.zr (h:Gm.Ok G) (hj:j∈Gm.oK G k):0<=j/\j<G.ns.length:=by
 unfold Gm.oK at hj;rw[Gm.mi]at hj;rcases hj with hj|hj
 ·simp at hj
 ·obtain⟨x,hx,rfl⟩:=Bo.1 hj;exact h.iO x (Gm.iG.1 (EM hx)).1
theorem Gm.zq (h:Gm.Ok G) (k:Nat):(Gm.oK G k).length<=G.ns.length:=by
 have h1:=Gm.ke G.ns.length ((Gm.oK G k).map (· + 1)) ?_ ?_
 ·simpa using h1.1
 ·refine BZ.2 ?_;rw[Dr]
  have:(Gm.oK G k).Nodup:=Gm.j9 _ _ σ
  exact(BZ.1 this).imp fun h e=>h ω
 ·intro x hx;obtain⟨y,hy,rfl⟩:=Bo.1 hx
  have:=Gm.zr h hy
  omega
def Gm.lI (n:Nat) (o:List Int):List Int:=(List.range n).map fun j:Nat=>if(j:Int)∈o then Gm.pos o j else 0
def Gm.nU (n:Nat) (o:List Int):List Int:=(List.range n).map fun j:Nat=>Gm.pos o j
def Gm.qC (n:Nat) (o:List Int):List Bool:=(List.range n).map fun j:Nat=>decide ((j:Int)∈o)
theorem Gm.j5 (n:Nat) (o:List Int):(Gm.lI n o).length=n:=by simp[Gm.lI]
theorem Gm.mm (n:Nat) (o:List Int):(Gm.nU n o).length=n:=by simp[Gm.nU]
theorem Gm.r4 (n:Nat) (o:List Int):(Gm.qC n o).length=n:=by simp[Gm.qC]
theorem Gm.nZ {j:Nat} (h:j<n) (o:List Int):(Gm.lI n o).getD j 0=if(j:Int)∈o then Gm.pos o j else 0:=by simp[Gm.lI,h]
theorem Gm.mZ {j:Nat} (h:j<n) (o:List Int):(Gm.nU n o).getD j 0=Gm.pos o j:=by simp[Gm.nU,h]
theorem Gm.y6 {j:Nat} (h:j<n) (o:List Int):(Gm.qC n o).getD j false=decide ((j:Int)∈o):=by simp[Gm.qC,h]
theorem Gm.wO (n:Nat):Gm.lI n []=List.replicate n 0:=by
 refine Cu (by simp[Gm.lI]) fun i h1 h2=>?_;simp[Gm.lI]
theorem Gm.xQ (n:Nat):Gm.nU n []=List.replicate n (-1):=by
 refine Cu (by simp[Gm.nU]) fun i h1 h2=>?_;simp[Gm.nU,Gm.pos]
theorem Gm.wZ (n:Nat):Gm.qC n []=List.replicate n false:=by
 refine Cu (by simp[Gm.qC]) fun i h1 h2=>?_;simp[Gm.qC]
theorem Gm.oF {o:List Int} {l:Int} (h:l ∉ o):Gm.pos o l = -1:=by unfold Gm.pos;rw[AJ h]
theorem Gm.lo {o:List Int} {l:Int} (hj:j≠l):Gm.pos (o++[l]) j=Gm.pos o j:=by
 by_cases h:j∈o
 ·exact Gm.xC h
 ·rw[Gm.oF h,Gm.oF (by simp[h,hj])]
theorem Gm.sC {o:List Int} {l:Int} (hn:l ∉ o):Gm.pos (o++[l]) l=o.length:=Gm.xD (t:=[]) hn
theorem Gm.tY {l:Nat} {o:List Int} (hn:(l:Int) ∉ o):(Gm.lI n o).set l o.length=Gm.lI n (o++[(l:Int)]):=by
 refine Cu (by simp[Gm.lI]) fun i h1 h2=>?_;rw[Fc];by_cases e:l=i
 ·subst e;rw[Az rfl];simp[Gm.lI,Gm.sC hn]
 ·rw[AJ e];have e2:¬(i:Int)=(l:Int):=ω
  simp only[Gm.lI,Cg,DP,Bs,AW,e2,or_false];rw[Gm.lo e2]
theorem Gm.vE {l:Nat} {o:List Int} (hn:(l:Int) ∉ o):(Gm.nU n o).set l o.length=Gm.nU n (o++[(l:Int)]):=by
 refine Cu (by simp[Gm.nU]) fun i h1 h2=>?_;rw[Fc];by_cases e:l=i
 ·subst e;rw[Az rfl];simp[Gm.nU,Gm.sC hn]
 ·rw[AJ e];have e2:¬(i:Int)=(l:Int):=ω
  simp only[Gm.nU,Cg,DP];rw[Gm.lo e2]
theorem Gm.ue {l:Nat} {o:List Int}:(Gm.qC n o).set l true=Gm.qC n (o++[(l:Int)]):=by
 refine Cu (by simp[Gm.qC]) fun i h1 h2=>?_;rw[Fc];by_cases e:l=i
 ·subst e;simp[Gm.qC]
 ·rw[AJ e];have e2:¬(i:Int)=(l:Int):=ω
  simp[Gm.qC,e2]
def Gm.gZ (G:Gm.Gr) (o:List Int):List (List Int):=o.map fun l=>G.ns.getD l.toNat []
structure jn (w1 wr:World) (H gA:Nat) (cs:Array Value) (vT vN vR:Value) (ts:List Gm.Tm) (ns:List (List Int)) (rs:List Gm.Rl) (an:List Int):Prop where
 h:wr.heap[H]?=some (.cells cs 26 (0,0))
 t:bE wr w1.heap.size vT ts
 nn:bQ wr w1.heap.size vN ns
 r:bF wr w1.heap.size wr.heap.size vR rs
 a:gJ wr gA an
 w:β w1 wr
 hH:w1.heap.size<=H
 hA:w1.heap.size<=gA
section
variable {w1 wr w':World} {H gA:Nat} {cs:Array Value} {vT vN vR:Value} {ts:List Gm.Tm} {ns:List (List Int)} {rs:List Gm.Rl} {an:List Int}
theorem jn.grown (h:jn w1 wr H gA cs vT vN vR ts ns rs an) {row:Option Nat} (hg:wr.grownBy w' row) (ho:∀g,row=some g->g≠H/\w1.heap.size<=g/\∃cs T,wr.heap[g]?=some (.cells cs T (0,0))/\T≠85/\T≠9/\T≠3/\T≠74):jn w1 w' H gA cs vT vN vR ts ns rs an:=by
 refine⟨(hg.block H (Ad.1 h.h).1 (fun e=>(ho H e.symm).1 rfl)).trans h.h,Bf h.t hg ?_,Bf h.nn hg ?_,(h.r.grown hg ?_).more hg.size,?_,h.w.grown hg h.w.size (fun k e=>(ho k e).2.1),h.hH,h.hA⟩
 ·rcases row with _|g
  ·exact yG _
  ·obtain⟨_,_,cs,T,h1,h2,_⟩:=ho g rfl;exact aP h.t h1 (fun cur e=>by injection e with _ e;exact h2 e)
 ·rcases row with _|g
  ·exact yG _
  ·obtain⟨_,_,cs,T,h1,_,h2,_⟩:=ho g rfl;exact aP h.nn h1 (fun cur e=>by injection e with _ e;exact h2 e)
 ·intro g e;obtain⟨_,_,cs,T,h1,_,_,h2,h3⟩:=ho g e;exact .inl ⟨aS h1 h2,aS h1 h3⟩
 ·refine h.a.grown hg fun e=>?_;obtain⟨_,_,cs,T,h1,_,_,h2,_⟩:=ho gA e.symm;exact aS h1 h2 _ h.a
theorem jn.alloc (h:jn w1 wr H gA cs vT vN vR ts ns rs an) (o:Obj):jn w1 (wr.alloc o) H gA cs vT vN vR ts ns rs an:=h.grown (DY wr o .none) (fun g e=>by cases e)
theorem jn.below (h:jn w1 wr H gA cs vT vN vR ts ns rs an) (hb:β wr w'):jn w1 w' H gA cs vT vN vR ts ns rs an:=h.grown (aL hb .none) (fun g e=>by cases e)
theorem jn.drew (h:jn w1 wr H gA cs vT vN vR ts ns rs an):jn w1 wr.drew H gA cs vT vN vR ts ns rs an:=h.grown (tC wr .none) (fun g e=>by cases e)
theorem jn.set (h:jn w1 wr H gA cs vT vN vR ts ns rs an) {cs':Array Value} {T:TypeId} (hT:wr.heap[g]?=some (.cells cs' T (0,0))) (h1:T≠85) (h2:T≠9) (h3:T≠3) (h4:T≠74) (hH:g≠H) (hb:w1.heap.size<=g) (j:Nat) (u:Value):jn w1 (wr.setCell ⟨g,j,none⟩ u) H gA cs vT vN vR ts ns rs an :=
 h.grown (aF (AO wr (some g)) j u) (fun g' e=>by injection e with e;subst e;exact⟨hH,hb,cs',T,hT,h1,h2,h3,h4⟩)
theorem jn.rF (h:jn w1 wr H gA cs vT vN vR ts ns rs an) (j:Nat) (u:Value):jn w1 (wr.setCell ⟨H,j,none⟩ u) H gA (cs.setIfInBounds j u) vT vN vR ts ns rs an:=by
 have hs:wr.grownBy (wr.setCell ⟨H,j,none⟩ u) (some H):=aF (AO wr (some H)) j u;refine⟨Ba wr H j _ _ u h.h,Bf h.t hs (aP h.t h.h (fun cur e=>by injection e with _ e;cases e)),Bf h.nn hs (aP h.nn h.h (fun cur e=>by injection e with _ e;cases e)),(h.r.grown hs ?_).more hs.size,h.a.grown hs ?_,h.w.grown hs h.w.size (fun k e=>by injection e with e;rw[<-e];exact h.hH),h.hH,h.hA⟩
 ·intro g e;injection e with e;subst e;exact .inl ⟨aS h.h δ,aS h.h δ⟩
 ·intro e;injection e with e
  have:=h.a
  unfold gJ at this;rw[e,h.h]at this;injection this with this;injection this with _ this;cases this
theorem jn.zF (h:jn w1 wr H gA cs vT vN (.slice none 0 0) ts ns [] an) (j:Nat) (z:Int):jn w1 (wr.setCell ⟨gA,j,none⟩ (.int .i64 z)) H gA cs vT vN (.slice none 0 0) ts ns [] (an.set j z):=by
 have hs:wr.grownBy (wr.setCell ⟨gA,j,none⟩ (.int .i64 z)) (some gA):=aF (AO wr (some gA)) j _;have ha:=h.a;unfold gJ at ha;refine⟨(hs.block H (Ad.1 h.h).1 (fun e=>?_)).trans h.h,Bf h.t hs (aP h.t ha (fun cur e=>by injection e with _ e;cases e)),Bf h.nn hs (aP h.nn ha (fun cur e=>by injection e with _ e;cases e)),bF.nil _ _ _,h.a.ky j z,h.w.grown hs h.w.size (fun k e=>by injection e with e;rw[<-e];exact h.hA),h.hH,h.hA⟩;injection e with e;rw[<-e,h.h]at ha;injection ha with ha;injection ha with _ ha;cases ha
theorem jn.Gw (h:jn w1 wr H gA cs vT vN vR ts ns rs an) (ho:bQ w' w1.heap.size v' ns') (hg:wr.grownBy w' vN.ownBlock):jn w1 w' H gA cs vT v' vR ts ns' rs an:=by
 have hn:=h.nn;have hh:=h.h;have ha:=h.a;unfold gJ at ha;refine⟨rK hh hn δ hg,Bf h.t hg (vO h.t hn δ),ho,(h.r.grown hg fun g e=>?_).more hg.size,?_,h.w.grown hg h.w.size (fun k e=>(aN hn e).1),h.hH,h.hA⟩
 ·obtain⟨_,cur,hc⟩:=aN hn e;exact .inl ⟨aS hc δ,aS hc δ⟩
 ·exact rK ha hn δ hg
theorem jn.zD (h:jn w1 wr H gA cs vT vN vR ts ns rs an) {rs':List Gm.Rl} (ho:bF w' w1.heap.size w'.heap.size v' rs') (hg:wr.grownBy w' vR.ownBlock):jn w1 w' H gA cs vT vN v' ts ns rs' an:=by
 obtain⟨qs,_,h2,_⟩:=id h.r;have hh:=h.h;have ha:=h.a;unfold gJ at ha;exact⟨rK hh h2 δ hg,Bf h.t hg (vO h.t h2 δ),Bf h.nn hg (vO h.nn h2 δ),ho,rK ha h2 δ hg,h.w.grown hg h.w.size (fun k e=>(aN h2 e).1),h.hH,h.hA⟩
theorem jn.rd (h:jn w1 wr H gA cs vT vN vR ts ns rs an) (z:Int):aT wr wr.heap.size (.agg #[vT,vN,vR,.int .i64 z]) ⟨ts,ns,rs,z⟩:=by
 obtain⟨AT,cT,rfl,h1,h2⟩:=Ii h.t;obtain⟨AN,cN,rfl,h3,h4⟩:=H8 h.nn;obtain⟨AR,cR,rfl,h5,h6⟩:=Ij h.r (Af _);exact⟨AT,cT,AN,cN,AR,cR,rfl,h1,h3,h5,h2,h4,h6⟩
end
theorem NL {o:Oper} {a:Act} {KK:Act->World->Prop} {Q:Exit->Act->World->Prop} (s x:Operand) (t:TypeId) (ho:o.op=.call {callee:=.builtin .append,args:=#[s,x],argTypes:=#[t,t]}) (ht:prog.underlying t=some (.slice 9)) (base:Nat) (v:Value) (ts:List (List Int)) (hs:a.eval s=v) (ab:bQ w base v ts) (g c:Nat) (y:List Int) (hx:a.eval x=.slice (some ⟨g,0,none⟩) 1 c) (hz:w.cell? ⟨g,0,none⟩=some (.string (K.str y))) (ac:ts.length<=1000000) (aa:base<=w.heap.size) (hK:∀v' w',bQ w' base v' (ts++[y])->w.grownBy w' v.ownBlock->KK (a.put o.dst v') w') :
  o.wp prog a w KK Q:=by
 obtain⟨i,hi,ad,ae,af⟩:=CF Ny;refine En w s x t ho base 9 i _ 1 16 ht hi ad ae af rfl δ v ts.length (FW ts) hs ab ⟨g,0,none⟩ 1 c [.string (K.str y)] hx rfl ?_ ?_ (by unfold maxLen;omega) ω aa fun v' w' h1 h2 _=>hK v' w' ?_ h2
 ·intro j u hj;rw[qq,BF];rcases j with _|j
  ·simp at hj;rw[<-hj];exact hz
  ·simp at hj
 ·intro u hu;simp at hu;rcases hu with rfl;rfl
 ·unfold bQ FW;rw[AZ,Bi];exact h1
theorem Gm.yX (h:Gm.Ok G) {x:Gm.Rl} (hx:x∈Gm.iB G):(⟨(Gm.lI G.ns.length (Gm.ft G)).getD x.l.toNat 0,x.r.map (Gm.rS (Gm.lI G.ns.length (Gm.ft G))),x.p⟩:Gm.Rl)=Gm.re (Gm.ft G) x:=by
 have aa:=(Gm.iG.1 hx).1;have hl:=h.iO x aa;unfold Gm.re
 congr 1
 ·rw[Gm.nZ ω,BH hl.1,Az (Gm.qj hx)]
 ·refine Eo fun z hz=>?_;unfold Gm.rS Gm.lY;by_cases h0:z<0
  ·have:=h.sin x aa z hz h0
   rw[Az h0,Az h0,Gm.nZ ω,BH ω,Az (Gm.oW hx hz h0)]
  ·rw[AJ h0,AJ h0]
theorem Gm.uy (h:k<(Gm.kl G G.rs.length).length):∃i:Nat,(Gm.kl G G.rs.length)[k]=(i:Int)/\∃hi:i<G.rs.length,∃hk:k<(Gm.iB G).length,(Gm.iB G)[k]=G.rs[i]:=by
 have e:Gm.kl G G.rs.length=(Gm.kept G).map fun j:Nat=>(j:Int):=rfl;have h2:k<(Gm.kept G).length:=by rw[e,Bh]at h;exact h
 have h3:=Gm.xi (AD h2);refine⟨(Gm.kept G)[k],by simp[e],h3,by rw[<-Gm.kY];exact h2,Gm.xh k h2 h3⟩
theorem Gm.uz (G:Gm.Gr):(Gm.kl G G.rs.length).length=(Gm.iB G).length:=by rw[<-Gm.kY,Gm.ze,Bh]
theorem Gm.mh (G:Gm.Gr):(Gm.iB G).length<=G.rs.length:=CD _ _
def wF (w:World) (base:Nat) (v:Value) (G:Gm.Gr):Prop:=∃vT vN vR,v=.agg #[vT,vN,vR,.int .i64 G.st]/\bE w base vT G.ts/\bQ w base vN G.ns/\bF w base w.heap.size vR G.rs
theorem wF.rd (h:wF w base v G):aT w w.heap.size v G:=by
 obtain⟨vT,vN,vR,rfl,h1,h2,h3⟩:=h;obtain⟨AT,cT,rfl,a1,a2⟩:=Ii h1;obtain⟨AN,cN,rfl,a3,a4⟩:=H8 h2;obtain⟨AR,cR,rfl,a5,a6⟩:=Ij h3 (Af _);exact⟨AT,cT,AN,cN,AR,cR,rfl,a1,a3,a5,a2,a4,a6⟩
theorem JJ {e:TypeId} {size:Nat} {row:Option Nat} (h:w.ownsRow base e size v n xs) (hg:w.grownBy w' row) (hr:∀g,row=some g->g<base):w'.ownsRow base e size v n xs :=
 Bf h hg (by
  cases hv:v.ownBlock with
  | none=>exact .inl rfl
  | some k=>exact .inr (fun e=>by have:=(aN h hv).1;have:=hr k e.symm;omega))
theorem wF.grown {row:Option Nat} (h:wF w base v G) (hg:w.grownBy w' row) (hr:∀g,row=some g->g<base):wF w' base v G:=by
 obtain⟨vT,vN,vR,rfl,h1,h2,qs,a1,a2,a3,a4⟩:=h;refine⟨vT,vN,vR,rfl,JJ h1 hg hr,JJ h2 hg hr,qs,a1,JJ a2 hg hr,fun k hk=>Aj (a3 k hk) hg.size,fun q hq=>⟨(a4 q hq).1,(a4 q hq).2.1,fun hn=>?_⟩⟩;obtain⟨g,cur,e,hb,hN,hh,hc⟩:=(a4 q hq).2.2 hn;exact⟨g,cur,e,hb,Aj hN hg.size,(hg.block g (Ad.1 hh).1 (fun e=>by have:=hr g e.symm;omega)).trans hh,hc⟩
theorem wF.less (h:wF w base v G) (hb:base'<=base):wF w base' v G:=by
 obtain⟨vT,vN,vR,rfl,h1,h2,qs,a1,a2,a3,a4⟩:=h;refine⟨vT,vN,vR,rfl,FD h1 hb,FD h2 hb,qs,a1,FD a2 hb,a3,fun q hq=>⟨(a4 q hq).1,(a4 q hq).2.1,fun hn=>?_⟩⟩;obtain⟨g,cur,e,aa,hN,hh⟩:=(a4 q hq).2.2 hn;exact⟨g,cur,e,Ah hb aa,hN,hh⟩
theorem gJ.row (h:gJ w g zs) (hb:base<=g):tH w base w.heap.size (some ⟨g,0,none⟩) zs:=fun _ =>
 ⟨g,_,rfl,hb,h.lt,h,fun j hj=>by simp[hj]⟩
theorem Gm.yY (h:Gm.Ok G) (n i:Nat) (hi:i<n):0<=(Gm.lI n (Gm.ft G)).getD i 0/\(Gm.lI n (Gm.ft G)).getD i 0<=1000:=by
 rw[Gm.nZ hi];split
 ·rename_i hm
  have h1:=Gm.kJ hm;have h2:=Gm.oD h;have h3:=(Gm.fF G).1 h.n;omega
 ·omega
theorem Gm.pI (h:k<(Gm.iB G).length):((Gm.iB G).take (k+1)).map (Gm.re (Gm.ft G))=((Gm.iB G).take k).map (Gm.re (Gm.ft G))++[Gm.re (Gm.ft G) (Gm.iB G)[k]]:=by
 rw[AP h,Bi,Dv]
theorem O0 (v:Value) (G:Gm.Gr) (B BK:Nat) (AK:Option Addr) (cK:Nat) (w:World) (hg:aT w B v G) (hf:Gm.Fit G) (ab:Gm.Ok G) (hp:Gm.Gn true G.rs G.st) (hB:B<=w.heap.size) (hk:gg w BK AK (Gm.kl G G.rs.length)) (b7:BK<=w.heap.size) :
  Calls prog 133 #[v,.slice AK (Gm.kl G G.rs.length).length cK] w fun e w'=>∃g,e=.returned g/\wF w' w.heap.size g (Gm.reduce G)/\β w w':=by
 obtain⟨AT,cT,AN,cN,AR,cR,rfl,_,⟨c7,c8⟩,_,hT,hN,hR⟩:=hg;obtain⟨w1,ac⟩:∃y,y=(w.alloc (.cells #[.slice AT G.ts.length cT,.slice AN G.ns.length cN,.slice AR G.rs.length cR,.int .i64 G.st] 26)).alloc (.cells #[.slice none 0 0,.slice none 0 0,.slice none 0 0,.int .i64 0] 26):=⟨_,rfl⟩
 have b8:w1.heap.size=w.heap.size+2:=by rw[ac];simp
 have bc:Hid (β w w1):=aA (by rw[ac];exact((AB _ w).alloc (Af _) _).alloc σ _);have b9:Hid (w1.heap[w.heap.size]?=some (.cells #[.slice AT G.ts.length cT,.slice AN G.ns.length cN,.slice AR G.rs.length cR,.int .i64 G.st] 26 (0,0))):=aA (by rw[ac,BD _ _ _ σ];exact AI w _);have cJ:Hid (w1.heap[w.heap.size+1]?=some (.cells #[.slice none 0 0,.slice none 0 0,.slice none 0 0,.int .i64 0] 26 (0,0))):=aA (by rw[ac];have:=AI (w.alloc (.cells #[.slice AT G.ts.length cT,.slice AN G.ns.length cN,.slice AR G.rs.length cR,.int .i64 G.st] 26)) (.cells #[.slice none 0 0,.slice none 0 0,.slice none 0 0,.int .i64 0] 26);simpa using this);have ag:=aA b8;have V:=aA ab;have cL:=aA hf;have cM:=aA hp;have ah:Hid (G.ns.length<=40):=aA (by have:=(Gm.fF G).1 ab.n;omega);have bd:Hid (G.ts.length<=24):=aA (by have:=ab.t;unfold Gm.gW at this;rw[Bd]at this;exact CN this.1);have bf:Hid (G.rs.length<=40):=aA ab.kL;have a3:Hid ((Gm.kl G G.rs.length).length=(Gm.iB G).length):=aA (Gm.uz G);have HB:=aA hB;have ca:=aA (fun(y:World) (h:β w y)=>hR.fp fun g o hg=>h.cell (p:=⟨g,o,none⟩) (Aj hg hB));have cO:=aA (fun(y:World) (h:β w y)=>hN.fp fun g o hg=>h.cell (p:=⟨g,o,none⟩) (Aj hg hB));have bg:=aA (fun(y:World) (h:β w y)=>hk.below h b7);have ad:=aA (fun(y:World) (h:β w1 y)=>bc.o.trans (h.mono ω));have cb:=aA (RD AT cT w.heap.size G.ts w1 ((hT.fp fun g o hg=>bc.o.cell (p:=⟨g,o,none⟩) (Aj hg hB)).more hB) ω (by have:=bd.o;omega));have HQ:=aA (fun(y:World) (h:β w1 y)=>(h.block w.heap.size ω).trans b9.o);have c0:=aQ b9.o;have c9:w.heap.size<w1.heap.size:=ω
 have cP:(G.ns.length:Int)<=9223372036854775807:=ω
 have ai:((Gm.kl G G.rs.length).length:Int)<=9223372036854775807:=by have:=a3.o;have:=Gm.mh G;have:=ab.kL;omega
 have da:=ah.o;clear hT hN hR b8 ab hf hp hB hk b7;obtain⟨ks,hL⟩:∃ks,ks=Gm.kl G G.rs.length:=⟨_,rfl⟩
 rw[<-hL]at bg a3 ai ⊢;have HL:=aA hL;clear hL
 go_enter func133,ntmps133
 go_upto_region 1 with fail
 rw[<-ac];clear ac;go_upto_region 2 with fail
 refine cb.o.mono ?_;rintro _ w2 ⟨v2,rfl,bi,cc⟩;obtain⟨A2,c2,rfl,_,_⟩:=aO bi;have cd:=aA bi;have a4:=aA cc;clear bi cc cb c0;go_upto_region 2 with fail
 obtain⟨w3,aj⟩:=χ (w2.alloc (.cells #[.slice A2 G.ts.length c2,.slice none 0 0,.slice none 0 0,.int .i64 0] 26))
 have ak:Hid (β w1 w3):=aA (by rw[aj];exact a4.o.alloc a4.o.size _);have ce:Hid (bE w3 w1.heap.size (.slice A2 G.ts.length c2) G.ts):=aA (by rw[aj];exact Dm cd.o _);have bj:Hid (w3.heap[w2.heap.size]?=some (.cells #[.slice A2 G.ts.length c2,.slice none 0 0,.slice none 0 0,.int .i64 0] 26 (0,0))):=aA (by rw[aj];exact AI w2 _);rw[<-aj];clear aj cd;have c1:=aU (HQ.o w3 ak.o);have l3:=Bl c1;go_upto_region 3 with(at_make;refine Is rfl (.tmp 19) (.tmp 19) _ rfl underlying51 G.ns.length _ _ rfl rfl rfl rfl ω ?_;intro w4 cf a5 bk)
 have al:=aA (ak.o.trans (a5.mono ak.o.size));have bl:=aA cf;have cg:Hid (bE w4 w1.heap.size (.slice A2 G.ts.length c2) G.ts):=aA (Bf ce.o (aL a5 .none) (yG _));have ch:=aA (aC a5 bj.o);have ci:Hid (w1.heap.size<=w3.heap.size):=aA ak.o.size;have cj:Hid (w2.heap.size<w3.heap.size):=aA (Ad.1 bj.o).1;clear cf a5 c1 l3 ce bj ak;have c1:=aU (HQ.o w4 al.o);have l4:=Bl c1;go_upto_region 4 with(at_make;refine Ir rfl (.tmp 23) (.tmp 23) _ rfl underlying188 G.ns.length _ _ rfl rfl rfl rfl ω ?_;intro w5 ck am bm)
 have bn:Hid (jn w1 w5 w2.heap.size w3.heap.size #[.slice A2 G.ts.length c2,.slice none 0 0,.slice none 0 0,.int .i64 0] (.slice A2 G.ts.length c2) (.slice none 0 0) (.slice none 0 0) G.ts (Gm.gZ G (Gm.oK G 0)) [] (Gm.lI G.ns.length (Gm.oK G 0))):=aA
  ⟨aC am ch.o,Bf cg.o (aL am .none) (yG _),bQ.nil _ _,bF.nil _ _ _,by rw[show Gm.oK G 0=[] from rfl,Gm.wO];exact bl.o.below am bl.o.lt,al.o.trans (am.mono al.o.size),a4.o.size,ci.o⟩
 have bo:Hid (fU w5 w4.heap.size (Gm.qC G.ns.length (Gm.oK G 0))):=aA (by rw[show Gm.oK G 0=[] from rfl,Gm.wZ];exact ck);have bp:Hid (w1.heap.size<=w4.heap.size):=aA al.o.size;have ao:Hid (w2.heap.size≠w4.heap.size):=aA (by have:=cj.o;omega);obtain⟨vT,br⟩:∃v,v=Value.slice A2 G.ts.length c2:=⟨_,rfl⟩
 obtain⟨H,hH⟩:∃x,x=w2.heap.size:=⟨_,rfl⟩
 obtain⟨gA,bs⟩:∃x,x=w3.heap.size:=⟨_,rfl⟩
 obtain⟨gC,a6⟩:∃x,x=w4.heap.size:=⟨_,rfl⟩
 rw[<-br,<-hH,<-bs]at bn;rw[<-a6]at bo bp;rw[<-hH,<-a6]at ao;rw[<-br,<-hH,<-bs,<-a6];clear br hH bs a6 ck am c1 l4 bk bm bl cg ch al a4 ci cj;go_wp2;go_loopw [27] (fun vk wr=>∃(k:Nat) (vN:Value),k<=ks.length/\vk=.int .i64 k/\Hid (jn w1 wr H gA #[vT,vN,.slice none 0 0,.int .i64 0] vT vN (.slice none 0 0) G.ts (Gm.gZ G (Gm.oK G k)) [] (Gm.lI G.ns.length (Gm.oK G k)))/\Hid (fU wr gC (Gm.qC G.ns.length (Gm.oK G k)))) (fun vk _=>ks.length-(intOf vk).toNat)
 case atStart=>exact⟨0,_,Bb _,rfl,bn,bo⟩
 case round =>
  clear bn bo;obtain⟨k,vN,hk,rfl,HS,HC⟩:=hrel;by_cases N:k<ks.length
  ·obtain⟨gk,ok,rfl,cQ,ap⟩:=bg.o wr (ad.o wr HS.o.w) ω;have kk:=ap k N;rw[L.fy N]at kk;have lk:=Bl kk;obtain⟨i,aq,hi,hkk,ar⟩:=Gm.uy (G:=G) (k:=k) (by rw[<-HL.o];exact N);have O:ks[k]=(i:Int):=by simp only[HL.o];exact aq
   rw[O]at kk;have au:=aA (Gm.xz hkk);rw[ar]at au;obtain⟨g,o,rfl,cS,hc⟩:=ca.o wr (ad.o wr HS.o.w) ω;have k0:=(hc i hi).1;have lg:=Bl k0;have aw:=V.o.iO _ (AD hi);have q1:=aU (HQ.o wr HS.o.w);have q2:=bB (HQ.o wr HS.o.w);have lq:=Bl q2;have cU:=aA (Gm.zq V.o k);generalize (G.rs[i]).l=l at *;obtain⟨m,rfl⟩:∃m:Nat,l=(m:Int):=⟨l.toNat,ω⟩
   have db:=aw.2;have ae:m<G.ns.length:=ω
   have cl:(i:Int)<(G.rs.length:Int):=ω
   have km:=HC.o.cell m (by rw[Gm.r4];exact ae);rw[Gm.y6 ae]at km;have lc:=HC.o.lt;clear ap hc ar hkk aq O aw;by_cases Z:(m:Int)∈Gm.oK G k
   ·rw[AV Z]at km;have HX:=aA (au.o.trans (Az Z));clear au Z;go_wp2;go_roundw
    case rel=>exact⟨k+1,vN,N,ν,by rw[HX.o];exact HS,by rw[HX.o];exact HC⟩
    case measure=>simp[intOf];omega
   ·rw[AU Z]at km;have HX:=aA (au.o.trans (AJ Z));have cV:=aA Z;clear au Z;have cm:Hid (Gm.gZ G (Gm.oK G (k+1))=Gm.gZ G (Gm.oK G k)++[G.ns.getD m []]):=aA (by rw[HX.o];simp[Gm.gZ]);obtain⟨A',c',rfl,_,_⟩:=aO HS.o.nn;go_upto_region 9 with fail
    clear kk lk k0 lg q1 q2 lq km lc cl;have bh:=fun y:Calm.kC H wr=>aU (y.2.trans HS.o.h);refine CalmN.fk (fun x=>∃y:Calm.kC H wr,x=y.1) (.one [0,1,2,3,4,5,6,7] 8 (.one [9] 10 (.fin []))) ⟨⟨wr.drew,rfl⟩,rfl⟩ ?_;simp only[CalmN.fS,CalmN.fu,CalmN.fo,Aq,Ai,Am];repeat (go_big_quiet_step (fail))
    refine Ap ?_;clear bh;have bu:=aA HS.o.drew;have aa:=aA (HC.o.drew);have bv:wr.drew.heap[H]?=wr.heap[H]?:=rfl;obtain⟨wd,cn⟩:∃y,y=wr.drew:=⟨_,rfl⟩
    rw[<-cn]at bu aa bv ⊢;clear cn;have kc:=aa.o.cell m (by rw[Gm.r4];exact ae);have fc:=aa.o.frozen m;have lc:=aa.o.lt;have ax:(wd.setCell ⟨gC,m,none⟩ (.bool true)).heap[H]?=wr.heap[H]?:=(AQ wd ⟨gC,m,none⟩ (.bool true) H ao.o).trans bv;have X:=aA (bu.o.set aa.o δ δ δ δ (fun e=>ao.o e.symm) bp.o m (.bool true));have a9:Hid (fU (wd.setCell ⟨gC,m,none⟩ (.bool true)) gC (Gm.qC G.ns.length (Gm.oK G (k+1)))):=aA (by rw[HX.o,<-Gm.ue];exact aa.o.ky m true);intro KK f;rw[Az ε];go_wp2_with fail
    refine f _ _ ⟨⟨_,ax⟩,rfl⟩ _ ι ⟨⟨_,ax⟩,rfl⟩ ?_;obtain⟨w6,co⟩:∃y,y=wd.setCell ⟨gC,m,none⟩ (.bool true):=⟨_,rfl⟩
    rw[<-co]at X a9 ax ⊢;clear co kc fc lc bu aa bv f;repeat (go_big_quiet_step (fail))
    refine Ap ?_;have ka:=X.o.a.cell m (by rw[Gm.j5];exact ae);have fa:=X.o.a.frozen m;have la:=X.o.a.lt;have cp:H≠gA:=fun e=>by have h1:=X.o.h;have h2:=X.o.a;unfold gJ at h2;rw[<-e,h1]at h2;injection h2 with h2;injection h2 with _ h2;cases h2
    have cq:gC≠gA:=fun e=>by have h1:=a9.o;have h2:=X.o.a;unfold fU at h1;unfold gJ at h2;rw[<-e,h1]at h2;injection h2 with h2;injection h2 with _ h2;cases h2
    have bw:(Gm.gZ G (Gm.oK G k)).length=(Gm.oK G k).length:=by simp[Gm.gZ]
    have bx:(w6.setCell ⟨gA,m,none⟩ (.int .i64 (Gm.gZ G (Gm.oK G k)).length)).heap[H]?=wr.heap[H]?:=(AQ w6 ⟨gA,m,none⟩ _ H cp).trans ax
    have ay:Hid (jn w1 (w6.setCell ⟨gA,m,none⟩ (.int .i64 (Gm.gZ G (Gm.oK G k)).length)) H gA #[vT,.slice A' (Gm.gZ G (Gm.oK G k)).length c',.slice none 0 0,.int .i64 0] vT (.slice A' (Gm.gZ G (Gm.oK G k)).length c') (.slice none 0 0) G.ts (Gm.gZ G (Gm.oK G k)) [] (Gm.lI G.ns.length (Gm.oK G (k+1)))):=aA (by
     have q:=X.o.zF m ((Gm.gZ G (Gm.oK G k)).length:Int);rw[bw]at q;rw[HX.o,<-Gm.tY cV.o];rw[bw];exact q)
    have bz:=aA (a9.o.jv (p:=⟨gA,m,none⟩) cq (.int .i64 (Gm.gZ G (Gm.oK G k)).length));clear bw cp cq;intro KK f;rw[Az ε];go_wp2_with fail
    refine f _ _ ⟨⟨_,bx⟩,rfl⟩ _ ι ⟨⟨_,bx⟩,rfl⟩ ?_;obtain⟨w7,cr⟩:∃y,y=w6.setCell ⟨gA,m,none⟩ (.int .i64 (Gm.gZ G (Gm.oK G k)).length):=⟨_,rfl⟩
    rw[<-cr]at ay bz ⊢;clear cr ka fa la X a9 ax bx f;refine Ap ?_;go_upto_region 10 with fail
    obtain⟨gN,oN,rfl,dc,cs⟩:=cO.o w7 (ad.o w7 ay.o.w) ω;have kN:=cs m ae;rw[show G.ns[m]=G.ns.getD m [] by rw[Aw,AH ae];rfl]at kN;obtain⟨nm,cu⟩:∃s,s=G.ns.getD m []:=⟨_,rfl⟩
    rw[<-cu]at kN cm;clear cu;have af:gN<w1.heap.size:=by have:=HB.o;have:=ag.o;omega
    have bN:=fun y:Calm.On w1.heap.size w1=>(y.2.cell (p:=⟨gN,oN+m,none⟩) af).trans ((ay.o.w.cell (p:=⟨gN,oN+m,none⟩) af).symm.trans kN);have bq:=fun y:Calm.On w1.heap.size w1=>aU (HQ.o y.1 y.2);have E:=aA ay.o.drew;have cv:=aA bz.o.drew;refine CalmN.fk (γ w1) (.two [0,2,3,4,5,6] 1 (.one [] 7 (.one [] 8 (.one [9] 10 (.fin [])))) 7 (.one [] 1 (.one [] 8 (.one [9] 10 (.fin []))))) ⟨⟨w7.drew,E.o.w⟩,rfl⟩ ?_;simp only[CalmN.fS,CalmN.fu,CalmN.fo,Aq,Ai,Am];repeat (go_big_quiet_step (fail))
    refine Ap ?_;clear bN bq kN cs;obtain⟨w8,az⟩:∃y,y=w7.drew:=⟨_,rfl⟩
    rw[<-az]at E cv ⊢;clear az ay bz;have F:=aA (E.o.alloc (.cells #[.string (K.str nm)] 9));have cW:=aA (cv.o.alloc (.cells #[.string (K.str nm)] 9));have cX:Hid ((w8.alloc (.cells #[.string (K.str nm)] 9)).cell? ⟨w8.heap.size,0,none⟩=some (.string (K.str nm))):=aA (Df _ _ _ 0);have n8:=AF w8 _ 1 _ _ _ E.o.h;have n9:=AF _ _ 1 _ _ _ F.o.h;have lh8:=(Ad.1 E.o.h).1;have lh9:=(Ad.1 F.o.h).1;refine⟨?_,?_⟩
    focus
     intro KK f;rw[Az ε];go_wp2_with fail
     refine f _ _ ⟨⟨_,E.o.w⟩,rfl⟩ _ ι ⟨⟨_,E.o.w⟩,rfl⟩ ?_
    rotate_left
    focus
     intro KK f;rw[Az ε];go_wp2_with fail
     refine f _ _ ⟨⟨_,F.o.w⟩,rfl⟩ _ ι ⟨⟨_,F.o.w⟩,rfl⟩ ?_
    all_goals
     refine Ap ?_;intro KK f;rw[Az ε];go_wp2_with fail
     refine f _ _ ⟨⟨_,F.o.w⟩,rfl⟩ _ ι ⟨⟨_,F.o.w⟩,rfl⟩ ?_;refine Ap ?_;intro KK f;rw[Az ε];refine NL (.tmp 52) (.tmp 58) _ rfl underlying23 w1.heap.size _ _ rfl F.o.nn w8.heap.size 1 _ rfl cX.o (by have:=cU.o;have:=ah.o;unfold Gm.gZ;rw[Bh];omega) F.o.w.size ?_;intro v' w10 A D;have b:=aA (F.o.Gw A D);have bD:Hid (fU w10 gC (Gm.qC G.ns.length (Gm.oK G (k+1)))):=aA (rK cW.o F.o.nn δ D);obtain⟨A10,c10,rfl,_,_⟩:=aO A;clear A D;obtain⟨n10,I⟩:∃n,n=(Gm.gZ G (Gm.oK G k)++[nm]).length:=⟨_,rfl⟩
     rw[<-I]at b ⊢;clear I;refine f _ _ ⟨⟨w10,b.o.w⟩,rfl⟩ _ ι ⟨⟨w10,b.o.w⟩,rfl⟩ ?_
     go_frame
     repeat (go_big_quiet_step (fail))
     refine Ap ?_;intro KK f;rw[Az ε];have j1:=AF w10 _ 1 _ _ _ b.o.h;have f1:=AM w10 _ 1 _ _ b.o.h;have lh:=(Ad.1 b.o.h).1;have C:=aA (b.o.rF 1 (.slice A10 n10 c10));have bM:=aA (fU.jv bD.o (p:=⟨H,1,none⟩) (fun e=>ao.o e.symm) (.slice A10 n10 c10));go_wp2_with fail
     refine f _ _ ⟨⟨_,C.o.w⟩,rfl⟩ _ ι ⟨⟨_,C.o.w⟩,rfl⟩ ?_;clear j1 f1 lh;refine Ap ?_;go_wp2;go_roundw
     case rel=>exact⟨k+1,_,N,ν,by rw[<-cm.o,HX.o]at C;rw[HX.o];exact C,bM⟩
     case measure=>simp[intOf];omega
  ·obtain rfl:k=ks.length:=ω
   have cY:Hid (Gm.oK G ks.length=Gm.ft G):=aA (by rw[a3.o];exact Gm.zn G);rw[cY.o]at HS;clear HC bp ao;go_wp2;go_loopw [64] (fun vk wr=>∃(k:Nat) (vR:Value),k<=ks.length/\vk=.int .i64 k/\Hid (jn w1 wr H gA #[vT,vN,vR,.int .i64 0] vT vN vR G.ts (Gm.gZ G (Gm.ft G)) (((Gm.iB G).take k).map (Gm.re (Gm.ft G))) (Gm.lI G.ns.length (Gm.ft G)))) (fun vk _=>ks.length-(intOf vk).toNat)
   case atStart=>exact⟨0,_,Bb _,rfl,HS⟩
   case round =>
    clear HS N;obtain⟨k,vR,hk,rfl,HS⟩:=hrel;by_cases N:k<ks.length
    ·obtain⟨gk,ok,rfl,cQ,ap⟩:=bg.o wr (ad.o wr HS.o.w) ω;have kk:=ap k N;rw[L.fy N]at kk;have lk:=Bl kk;obtain⟨i,aq,hi,hkk,ar⟩:=Gm.uy (G:=G) (k:=k) (by rw[<-HL.o];exact N);have O:ks[k]=(i:Int):=by simp only[HL.o];exact aq
     rw[O]at kk;have bT:=aA (Gm.pI hkk);have bX:(Gm.iB G)[k]∈Gm.iB G:=AD hkk;rw[ar]at bT bX;have ba:=aA (Gm.yX V.o bX);have a0:G.rs[i]∈G.rs:=AD hi;have e:=cL.o.r _ a0;have aw:=V.o.iO _ a0;have cZ:=(Gm.fT (V.o.rr _ a0)).1;obtain⟨g,o,rfl,cS,hc⟩:=ca.o w1 bc.o ω;obtain⟨k0,⟨A',c',k1,_,_,cw⟩,k2⟩:=hc i hi;have bb:=aA (fun(y:World) (h:β w1 y) (hu:gJ y gA (Gm.lI G.ns.length (Gm.ft G)))=>Om G.rs[i] (Gm.lI G.ns.length (Gm.ft G)) A' (some ⟨gA,0,none⟩) c' G.ns.length B y.heap.size y (cw.fp fun g o hg=>h.cell (p:=⟨g,o,none⟩) (by have:=HB.o;have:=ag.o;simp only;omega)) (hu.p7 hu.lt) (Ah HB.o (ad.o y h).size) (Af _) e.2.2 (fun z hz h0=>by rw[Gm.j5];exact V.o.sin _ a0 z hz h0) (by rw[Gm.j5];exact aw) ω (fun i hi=>Gm.yY V.o _ i (by rwa [Gm.j5]at hi)));rw[Gm.j5]at bb;have af:g<w1.heap.size:=by have:=HB.o;have:=ag.o;omega
     have cx:Hid (((Gm.iB G).take k).length<=40):=aA (by rw[Bm];have:=Gm.mh G;have:=bf.o;omega);generalize G.rs[i]=x at *;obtain⟨l,r,pz⟩:=x;simp only at k0 k1 k2 bb ba cZ;have cl:(i:Int)<(G.rs.length:Int):=ω
     go_upto_region 15 with fail
     have b0:=fun y:Calm.On w1.heap.size w1=>(y.2.cell (p:=⟨g,o+i*3,none⟩) af).trans k0;have b1:=fun y:Calm.On w1.heap.size w1=>(y.2.cell (p:=⟨g,o+i*3+1,none⟩) af).trans k1;have b2:=fun y:Calm.On w1.heap.size w1=>(y.2.cell (p:=⟨g,o+i*3+2,none⟩) af).trans k2;have bq:=fun y:Calm.On w1.heap.size w1=>bB (HQ.o y.1 y.2);have E:=aA HS.o.drew;clear kk lk ap hc cw hkk ar aq O bX a0 e aw k0 k1 k2;refine CalmN.fk (γ w1) (.two [0,2,3,4,5,6,7] 1 (.one [] 8 (.one [] 9 (.one [] 10 (.one [11] 12 (.fin []))))) 8 (.two [] 1 (.one [] 9 (.one [] 10 (.one [11] 12 (.fin [])))) 9 (.one [] 1 (.one [] 10 (.one [11] 12 (.fin [])))))) ⟨⟨wr.drew,E.o.w⟩,rfl⟩ ?_;simp only[CalmN.fS,CalmN.fu,CalmN.fo,Aq,Ai,Am];repeat (go_big_quiet_step (fail))
     refine Ap ?_;clear b0 b1 b2 bq;obtain⟨w8,az⟩:∃y,y=wr.drew:=⟨_,rfl⟩
     rw[<-az]at E ⊢;clear az HS;have n8:=AF w8 _ 2 _ _ _ E.o.h;have lh8:=(Ad.1 E.o.h).1;obtain⟨av,cy⟩:∃a,a=(Gm.lI G.ns.length (Gm.ft G)).getD l.toNat 0:=⟨_,rfl⟩
     rw[<-cy]at bb ba;clear cy;refine⟨?_,?_⟩
     focus
      intro KK f;rw[Az ε];go_wp2_with fail
      refine f _ _ ⟨⟨_,E.o.w⟩,rfl⟩ _ ι ⟨⟨_,E.o.w⟩,rfl⟩ ?_;refine Ap ?_
     rotate_left
     rotate_left
     all_goals
      intro KK f;rw[Az ε];go_wp2_with fail
      refine(bb.o w8 E.o.w E.o.a).mono ?_;rintro _ w9 ⟨g9,rfl,cz,cA,cC⟩;have F:=aA (E.o.below cC);have cE:=aA cA;have cG:=aA (Ah E.o.w.size cz);have n9:=AF w9 _ 2 _ _ _ F.o.h;have lh9:=(Ad.1 F.o.h).1;have J:=aA (F.o.alloc (.cells #[.int .i64 av,.slice (some ⟨g9,0,none⟩) r.length r.length,.int .i64 pz] 74));have na:=AF _ _ 2 _ _ _ J.o.h;have lha:=(Ad.1 J.o.h).1;clear cC cA cz;go_wp2_with fail
      refine f _ _ ⟨⟨w9,F.o.w⟩,rfl⟩ _ ι ⟨⟨w9,F.o.w⟩,rfl⟩ ?_;refine Ap ?_
     focus
      intro KK f;rw[Az ε];go_wp2_with fail
      refine f _ _ ⟨⟨_,J.o.w⟩,rfl⟩ _ ι ⟨⟨_,J.o.w⟩,rfl⟩ ?_;refine Ap ?_;intro KK f;rw[Az ε];have U:=(cE.o.alloc (.cells #[.int .i64 av,.slice (some ⟨g9,0,none⟩) r.length r.length,.int .i64 pz] 74)).row cG.o
      have a1:∀j u,(qF (⟨av,r.map (Gm.rS (Gm.lI G.ns.length (Gm.ft G))),pz⟩,some ⟨g9,0,none⟩,r.length))[j]?=some u->(w9.alloc (.cells #[.int .i64 av,.slice (some ⟨g9,0,none⟩) r.length r.length,.int .i64 pz] 74)).cell? ⟨w9.heap.size,j,none⟩=some u:=fun j u hj=>by
       have h:=tD w9 [.int .i64 av,.slice (some ⟨g9,0,none⟩) r.length r.length,.int .i64 pz] 74 j;refine h.trans ?_
       simpa[qF] using hj
      refine JU (.tmp 69) (.tmp 77) _ rfl underlying24 w1.heap.size _ _ _ rfl J.o.r w9.heap.size 1 (⟨av,r.map (Gm.rS (Gm.lI G.ns.length (Gm.ft G))),pz⟩,some ⟨g9,0,none⟩,r.length) rfl a1 ⟨σ,by simp only;omega,U⟩ (by have:=cx.o;rw[Bh];omega) J.o.w.size (Af _) ?_;intro v' w10 A D;rw[ba.o,<-bT.o]at A;have b:=aA (J.o.zD A D);obtain⟨A10,c10,rfl,_,_⟩:=yF A;clear A D;obtain⟨n10,I⟩:∃n,n=(((Gm.iB G).take (k+1)).map (Gm.re (Gm.ft G))).length:=⟨_,rfl⟩
      rw[<-I]at b ⊢;clear I a1 U;refine f _ _ ⟨⟨w10,b.o.w⟩,rfl⟩ _ ι ⟨⟨w10,b.o.w⟩,rfl⟩ ?_
      go_frame
      repeat (go_big_quiet_step (fail))
      refine Ap ?_;intro KK f;rw[Az ε];have j2:=AF w10 _ 2 _ _ _ b.o.h;have f2:=AM w10 _ 2 _ _ b.o.h;have lh:=(Ad.1 b.o.h).1;have C:=aA (b.o.rF 2 (.slice A10 n10 c10));go_wp2_with fail
      refine f _ _ ⟨⟨_,C.o.w⟩,rfl⟩ _ ι ⟨⟨_,C.o.w⟩,rfl⟩ ?_;clear j2 f2 lh;refine Ap ?_;go_wp2;go_roundw
      case rel=>exact⟨k+1,_,N,ν,C⟩
      case measure=>simp[intOf];omega
     focus
      refine⟨?_,?_⟩
      focus
       intro KK f;rw[Az ε];go_wp2_with fail
       refine f _ _ ⟨⟨_,F.o.w⟩,rfl⟩ _ ι ⟨⟨_,F.o.w⟩,rfl⟩ ?_
      rotate_left
      focus
       intro KK f;rw[Az ε];go_wp2_with fail
       refine f _ _ ⟨⟨_,J.o.w⟩,rfl⟩ _ ι ⟨⟨_,J.o.w⟩,rfl⟩ ?_
      all_goals
       refine Ap ?_;intro KK f;rw[Az ε];go_wp2_with fail
       refine f _ _ ⟨⟨_,J.o.w⟩,rfl⟩ _ ι ⟨⟨_,J.o.w⟩,rfl⟩ ?_;refine Ap ?_;intro KK f;rw[Az ε];have U:=(cE.o.alloc (.cells #[.int .i64 av,.slice (some ⟨g9,0,none⟩) r.length r.length,.int .i64 pz] 74)).row cG.o
       have a1:∀j u,(qF (⟨av,r.map (Gm.rS (Gm.lI G.ns.length (Gm.ft G))),pz⟩,some ⟨g9,0,none⟩,r.length))[j]?=some u->(w9.alloc (.cells #[.int .i64 av,.slice (some ⟨g9,0,none⟩) r.length r.length,.int .i64 pz] 74)).cell? ⟨w9.heap.size,j,none⟩=some u:=fun j u hj=>by
        have h:=tD w9 [.int .i64 av,.slice (some ⟨g9,0,none⟩) r.length r.length,.int .i64 pz] 74 j;refine h.trans ?_
        simpa[qF] using hj
       refine JU (.tmp 69) (.tmp 77) _ rfl underlying24 w1.heap.size _ _ _ rfl J.o.r w9.heap.size 1 (⟨av,r.map (Gm.rS (Gm.lI G.ns.length (Gm.ft G))),pz⟩,some ⟨g9,0,none⟩,r.length) rfl a1 ⟨σ,by simp only;omega,U⟩ (by have:=cx.o;rw[Bh];omega) J.o.w.size (Af _) ?_;intro v' w10 A D;rw[ba.o,<-bT.o]at A;have b:=aA (J.o.zD A D);obtain⟨A10,c10,rfl,_,_⟩:=yF A;clear A D;obtain⟨n10,I⟩:∃n,n=(((Gm.iB G).take (k+1)).map (Gm.re (Gm.ft G))).length:=⟨_,rfl⟩
       rw[<-I]at b ⊢;clear I a1 U;refine f _ _ ⟨⟨w10,b.o.w⟩,rfl⟩ _ ι ⟨⟨w10,b.o.w⟩,rfl⟩ ?_
       go_frame
       repeat (go_big_quiet_step (fail))
       refine Ap ?_;intro KK f;rw[Az ε];have j2:=AF w10 _ 2 _ _ _ b.o.h;have f2:=AM w10 _ 2 _ _ b.o.h;have lh:=(Ad.1 b.o.h).1;have C:=aA (b.o.rF 2 (.slice A10 n10 c10));go_wp2_with fail
       refine f _ _ ⟨⟨_,C.o.w⟩,rfl⟩ _ ι ⟨⟨_,C.o.w⟩,rfl⟩ ?_;clear j2 f2 lh;refine Ap ?_;go_wp2;go_roundw
       case rel=>exact⟨k+1,_,N,ν,C⟩
       case measure=>simp[intOf];omega
    ·obtain rfl:k=ks.length:=ω
     rw[a3.o,Bp]at HS;obtain⟨AT5,cT5,rfl,_,_⟩:=aO HS.o.t;obtain⟨AN5,cN5,rfl,_,_⟩:=aO HS.o.nn;obtain⟨AR5,cR5,rfl,_,_⟩:=yF HS.o.r;have c3:=V.o.s0;have b3:=V.o.s1;obtain⟨m,hm⟩:∃m:Nat,G.st=(m:Int):=⟨G.st.toNat,ω⟩
     have HP:Hid ((Gm.lI G.ns.length (Gm.ft G)).getD m 0=Gm.pos (Gm.ft G) G.st):=aA (by rw[Gm.nZ ω,<-hm,Az (Gm.yw cM.o)]);have q3:=bL (HQ.o wr HS.o.w);rw[hm]at q3;rw[hm]at b3;have km:=HS.o.a.cell m (by rw[Gm.j5];omega);rw[HP.o]at km;have la:=HS.o.a.lt;have lq:=Bl q3;have j3:=AF wr _ 3 _ _ _ HS.o.h;have f3:=AM wr _ 3 _ _ HS.o.h;have lh:=(Ad.1 HS.o.h).1;obtain⟨pp,b4⟩:∃z,z=Gm.pos (Gm.ft G) G.st:=⟨_,rfl⟩
     rw[<-b4]at km;have c4:=aA b4;have M:=aA (HS.o.rF 3 (.int .i64 pp));obtain⟨wy,b5⟩:∃y,y=wr.setCell ⟨H,3,none⟩ (.int .i64 pp):=⟨_,rfl⟩
     rw[<-b5]at M;clear b4 hm c3 HP;go_upto_region 18 with fail
     rw[<-b5];clear b5 q3 km la lq j3 f3 lh;have j0:=aQ M.o.h;have j1:=aU M.o.h;have j2:=bB M.o.h;have j3:=bL M.o.h;have lh:=(Ad.1 M.o.h).1;have hz:=(M.o.w.block (w.heap.size+1) (by have:=ag.o;omega)).trans cJ.o;have g0:=aQ hz;have g1:=aU hz;have g2:=bB hz;have g3:=bL hz;have e0:=AM wy _ 0 _ _ hz;have e1:=AM wy _ 1 _ _ hz;have e2:=AM wy _ 2 _ _ hz;have e3:=AM wy _ 3 _ _ hz;have lz:=(Ad.1 hz).1;have a2:w.heap.size<=w1.heap.size:=by have:=ag.o;omega
     have cI:Hid (Gx wy w.heap.size (.slice AT5 G.ts.length cT5) (.slice AN5 (Gm.gZ G (Gm.ft G)).length cN5) (.slice AR5 ((Gm.iB G).map (Gm.re (Gm.ft G))).length cR5) G.ts (Gm.gZ G (Gm.ft G)) ((Gm.iB G).map (Gm.re (Gm.ft G)))):=aA ⟨⟨_,HQ.o wy M.o.w⟩,⟨_,hz⟩,FD M.o.t a2,FD M.o.nn a2,by
      obtain⟨qs,h1,h2,h3,h4⟩:=M.o.r
      exact⟨qs,h1,FD h2 a2,h3,fun q hq=>⟨(h4 q hq).1,(h4 q hq).2.1,fun hn=>by
       obtain⟨g,cur,e,hb,hN,hh⟩:=(h4 q hq).2.2 hn;exact⟨g,cur,e,Ah a2 hb,hN,hh⟩⟩⟩⟩
     have b6:=aA (fun u1 u2 u3 u4=>(((cI.o.set (w.heap.size+1) 0 u1 (.inr rfl)).set (w.heap.size+1) 1 u2 (.inr rfl)).set (w.heap.size+1) 2 u3 (.inr rfl)).set (w.heap.size+1) 3 u4 (.inr rfl));have c5:=aA (fun u1 u2 u3 u4=>((((ad.o wy M.o.w).setCell (p:=⟨w.heap.size+1,0,none⟩) (by simp only;omega) u1).setCell (p:=⟨w.heap.size+1,1,none⟩) (by simp only;omega) u2).setCell (p:=⟨w.heap.size+1,2,none⟩) (by simp only;omega) u3).setCell (p:=⟨w.heap.size+1,3,none⟩) (by simp only;omega) u4);have c6:Hid (Gm.reduce G=⟨G.ts,Gm.gZ G (Gm.ft G),(Gm.iB G).map (Gm.re (Gm.ft G)),pp⟩):=aA (by rw[c4.o];rfl);generalize Gm.gZ G (Gm.ft G)=nms at *;generalize (Gm.iB G).map (Gm.re (Gm.ft G))=tO at *;clear cI hz a2 HS M;go_wp2;refine B3 (v:=.agg #[.slice AT5 G.ts.length cT5,.slice AN5 nms.length cN5,.slice AR5 tO.length cR5,.int .i64 pp]) (by simp[results,results133,go_sem,g0,g1,g2,g3]) rfl ?_;exact⟨_,rfl,by rw[c6.o];exact⟨_,_,_,rfl,(b6.o _ _ _ _).t,(b6.o _ _ _ _).nn,(b6.o _ _ _ _).r⟩,c5.o _ _ _ _⟩
end Go.Proofs.YtjjbaehamplnaaaGreat
