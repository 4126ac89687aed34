/- Part of the proofs over this program: Ref8M, Read9, Src9, Alive15T, Alive16T, SetW2, LkRules, RfA, RfHas, RfPut, RfClos, RfMov. -/
import Derived.Lib.Tables
import Derived.Lib.BitFns
import Derived.Lib.TrailingZeros
import Derived.Lib.LaidTab
import Derived.Test.YtcmhaemaophplaaGreatW2M
set_option linter.all false
namespace Go
def Eu:=@Nat.le_add_right
end Go
set_option maxRecDepth 100000
set_option maxHeartbeats 40000000
variable {B base base' i n px py:Nat} {G:Go.Proofs.YtcmhaemaophplaaGreat.Gm.Gr} {ds:List Go.Proofs.YtcmhaemaophplaaGreat.Y.Dcl} {v v':Go.Value} {w:Go.World} {x:Go.Proofs.YtcmhaemaophplaaGreat.Gm.Rl} {xs:List Go.Value}
namespace Go.Proofs.YtcmhaemaophplaaGreat
open Go.RowKit
def Y.more:Nat->List Prd->List Tok->Res (List Prd)
 | 0,acc,ts=>.ok acc ts
 | _+1,acc,[]=>.ok acc []
 | f+1,acc,t::ts=>(group [] (t::ts)).bind fun ps r=>Y.more f (acc++ps) r
theorem Y.group_kind {t:Tok} {ts r:List Tok} {ps:List Y.Prd} (h:Y.group [] (t::ts)=.ok ps r):t.k=1:=by
 unfold Y.group at h;obtain⟨left,m,h1,h⟩:=Y.bind_eq_ok h;obtain⟨e,hk⟩:=Y.take_ok h1;injection e with e _;subst e
 simpa using hk
theorem zmU {o:Oper} {a:Act} {K:Act->World->Prop} {Q:Exit->Act->World->Prop} (s x:Operand) (t:TypeId) (ho:o.op=.call {callee:=.builtin .append,args:=#[s,x],argTypes:=#[t,t]}) (ht:Tryz.prog.underlying t=some (.slice 135)) (L:List Int) (base bu:Nat) (v u:Value) (xs ys:List Y.Prd) (hs:a.eval s=v) (aa:bH L w base v xs) (hx:a.eval x=u) (ad:bH L w bu u ys) (ak:base<=bu) (al:xs.length+ys.length<=1000000) (ab:base<=w.heap.size) (hK:∀v' w',bH L w' base v' (xs++ys)->w.grownBy w' v.ownBlock->K (a.put o.dst v') w') :
  o.wp Tryz.prog a w K Q:=by
 obtain⟨i,hi,am,ao,ap⟩:=Cv zmp;have ac:=aa;obtain⟨qs,ag,ae,aq⟩:=aa;obtain⟨qy,ah,ai,ar⟩:=ad;have ax:qs.length=xs.length:=by rw[<-ag,Bd]
 have ay:qy.length=ys.length:=by rw[<-ah,Bd]
 have au:(ziT L qy).length=ys.length*5:=ai.1;rcases ai.2 with⟨rfl,h0⟩|⟨g,cap,cur,rfl,hb,hg,hn,hm,hc,av⟩
 ·have hz:ys=[]:=BC h0;subst hz;have af:=zal (P:=Tryz.prog) w base t o.type 135 i 5 ht hi v xs.length _ ae 0;unfold Oper.wp;simp[execOp,ho,resolve,invoke,builtin,hs,hx,af,Result.andThen];exact hK v w (by simpa using ac) (AM _ _)
 ·refine EA w s x t ho base 135 i _ 5 88 ht hi am ao ap rfl (by decide) v xs.length (ziT L qs) hs ae ⟨g,0,none⟩ ys.length cap (ziT L qy) hx au ?_ ?_ (by unfold maxLen;omega) (by omega) ab fun v' w' h1 h2 _=>hK v' w' ?_ h2
  ·intro j z hj;have aw:j<ys.length*5:=by have:=(AZ.1 hj).1;omega
   rw[zeN,BA,AD w g _ _ _ _ hg];rw[<-av,CX aw]at hj
   simpa using hj
  ·intro z hz;obtain⟨q,_,hz⟩:=CE.1 hz;exact zcP L q.1 q.2.1 q.2.2 z hz
  ·have aj:=zaN ae (by decide);refine⟨qs++qy,by rw[Bf,ag,ah],?_,fun q hq=>?_⟩
   ·rw[AQ];unfold ziT at h1 ⊢;rw[B9];exact h1
   ·rcases Bs.1 hq with h|h
    ·exact(aq q h).grown h2 aj
    ·exact((ar q h).less ak).grown h2 aj
theorem Rd8.dlen {L:List Int} {R:Nat} {ts:List Tok} (h:Rd8 L B R px py w ts):zds R w=ts.length:=by
 obtain⟨A,c,h0,_⟩:=h.cell0;unfold zds;rw[h0]
theorem zho {n' size size':Nat} {e e':TypeId} {xs':List Value} (h:w.ownsRow base e size v n xs) (h':w.ownsRow base' e' size' v' n' xs') (he:e≠e'):v.ownBlock=none\/v.ownBlock≠v'.ownBlock:=by
 rcases h'.2 with⟨rfl,_⟩|⟨g,cap,cur,rfl,_,hg,_⟩
 ·rcases hv:v.ownBlock with _|k
  ·exact .inl rfl
  ·exact .inr (by simp[Value.ownBlock])
 ·exact .inr (ze7 h hg he)
theorem of8m (L:List Int) (A:Option Addr) (c px py:Nat) (ts:List Tok) (ds:List Y.Dcl) (p1 ps:List Y.Prd) (f1:Nat) (m m2 r1:List Tok) (t9:Tok) (w:World) (hr:RdT L w w.heap.size A ts) (hc:ts.length<=c) (h4:ts.length<=4000) (hd:Y.decls (ts.length+1) [] ts=.ok ds m) (hk:zjB ds) (h9:Y.take [9] m=.ok t9 m2) (hg:Y.group [] m2=.ok p1 r1) (bq:Y.more f1 p1 r1=.ok ps []) :
  Calls Tryz.prog 63 #[.slice A ts.length c,.complex .f64 px py] w fun e w'=>∃dv pv,e=.returned (.tuple #[.agg #[dv,pv],.complex .f64 0 0,.int .i64 0])/\bL L w' w.heap.size dv ds/\bH L w' w.heap.size pv ps/\Below w.heap.size w w':=by
 have SC:=fun a w m X Y=>show(store a (.complex .f64 X Y) m).run Tryz.prog w=stored Tryz.prog w a (.complex .f64 X Y) m from run_store _ w a _ m rfl;have BR:=fun A (n c:Nat) X Y w=>(EN w 162 _ _ (by kernel_rfl):(Instr.build 162 #[(0,.slice A n c),(1,.complex .f64 X Y)]).run Tryz.prog w=.ok (.agg #[.slice A n c,.complex .f64 X Y,.complex .f64 0 0,.int .i64 0]) w)
 have BS:=fun A (n c:Nat) w=>(EN w 96 _ _ (by kernel_rfl):(Instr.build 96 #[(0,.slice A n c)]).run Tryz.prog w=.ok (.agg #[.slice A n c,.slice none 0 0]) w)
 have br:=aA (((AB w.heap.size w).alloc (Af _) (.cells #[.slice none 0 0,.slice none 0 0] 96)).alloc (by simp) (.cells #[.slice A ts.length c,.complex .f64 px py,.complex .f64 0 0,.int .i64 0] 162));have b9:Hid (Rd8 L w.heap.size (w.heap.size+1) px py ((w.alloc (.cells #[.slice none 0 0,.slice none 0 0] 96)).alloc (.cells #[.slice A ts.length c,.complex .f64 px py,.complex .f64 0 0,.int .i64 0] 162)) ts):=aA ⟨A,c,by have:=AE (w.alloc (.cells #[.slice none 0 0,.slice none 0 0] 96)) (.cells #[.slice A ts.length c,.complex .f64 px py,.complex .f64 0 0,.int .i64 0] 162);rwa [show(w.alloc (.cells #[.slice none 0 0,.slice none 0 0] 96)).heap.size=w.heap.size+1 by simp]at this,hc,h4,hr.below br.o (Af _),by omega⟩;have HD:=aA (fun(x:World) (B R:Nat) (h:Rd8 L B R px py x ts)=>zmH L B R px py (ts.length+1) ts ds m x h hd (by omega) hk);have H9:=aA (fun(x:World) (B R:Nat) (h:Rd8 L B R px py x m)=>zdC L B R px py m 9 9 x h t9 m2 ((zbS 9 m).trans h9));have HG:=aA (fun(x:World) (B R:Nat) (h:Rd8 L B R px py x m2)=>zjW L B R px py m2 p1 r1 x h hg);have bs:=aA bq;have ca:=aA (Y.group_len hg);unfold ze1 at H9;clear hr hc h4 hd hk h9 hg bq
 go_enter Tryz.func63,Tryz.ntmps63
 go_wp2_with fail
 refine(HD.o _ _ _ b9.o).mono ?_;rintro _ w2 ⟨aw,v2,rfl,a4,a5⟩;have bu:=zaf aw ((DV (B:=w.heap.size+1) ((AB _ (w.alloc (.cells #[.slice none 0 0,.slice none 0 0] 96))).alloc (by simp) (.cells #[.slice A ts.length c,.complex .f64 px py,.complex .f64 0 0,.int .i64 0] 162)) w.heap.size (by omega)).trans (AE w _)) (by omega);obtain⟨A2,c2,rfl,_,_⟩:=a4.form;have cb:=aA aw;have cp:w.heap.size+2<=w2.heap.size:=by have:=aw.size;simpa using this
 have bv:=aA a4;have cc:=aA a5.other;have cd:=aA (a5.alloc (.cells #[.slice A2 ds.length c2,.slice none 0 0] 96));have ce:=aA ((Bu w2 (.cells #[.slice A2 ds.length c2,.slice none 0 0] 96) w.heap.size (by omega)).trans bu);clear aw a4 a5 bu;go_wp2_with fail
 refine(H9.o _ _ _ cd.o).mono ?_;rintro _ w3 ⟨rfl,b,y⟩;have a6:=aA b;have bw:=aA y;have cf:=aA (zaf b ce.o (by omega));have cg:=aA (zcZ b (by omega:w.heap.size+1<w2.heap.size));clear b y;go_wp2_with fail
 have bx:Hid (p1.length+r1.length<=4000):=aA (by have h1:=ca.o;have h2:=bw.o.len;simp at h1;omega);refine(HG.o _ _ _ bw.o).mono ?_;rintro _ w4 ⟨g,v4,rfl,C,a9⟩;obtain⟨A4,c4,rfl,_,_⟩:=C.form;have cq:w2.heap.size+1<=w3.heap.size:=by have:=a6.o.size;simpa using this
 have cr:w3.heap.size<=w4.heap.size:=g.size;have s:=zaf g cg.o (by omega);have H:=zaf g cf.o (by omega);have ch:=aA ((aK cb.o (.cells #[.slice A2 ds.length c2,.slice none 0 0] 96)).trans (a6.o.trans g));have b0:=AD w4 _ 0 _ _ _ s;have b1:=AD w4 _ 1 _ _ _ s;have fb1:=AH w4 _ 1 _ _ s;have z0:=AD w4 _ 0 _ _ _ H;have z1:=AD w4 _ 1 _ _ _ H;have fz0:=AH w4 _ 0 _ _ H;have fz1:=AH w4 _ 1 _ _ H;have cs:=a9.lt;have J:=aA C;have l:=aA (bv.o.grown ((aK (AM w2 (some (w.heap.size+1))) (.cells #[.slice A2 ds.length c2,.slice none 0 0] 96)).trans (a6.o.trans g)) ⟨cc.o,by obtain⟨z,hz⟩:=bv.o.own;simp at hz;exact zaK hz (by omega)⟩);have ci:∃w5:World,w5=w4.setCell ⟨w2.heap.size,1,none⟩ (.slice A4 p1.length c4):=⟨_,rfl⟩
 obtain⟨w5,u⟩:=ci;have bz:w5.heap[w2.heap.size]?=some (.cells #[.slice A2 ds.length c2,.slice A4 p1.length c4] 96 (0,0)):=by rw[u,AW w4 _ 1 _ _ _ s];rfl
 have bD:w5.heap[w.heap.size]?=some (.cells #[.slice none 0 0,.slice none 0 0] 96 (0,0)):=by rw[u,AP _ _ _ _ (by simp only;omega)];exact H
 have bM:Hid (Rd8 L w.heap.size (w.heap.size+1) px py w5 r1):=aA (by rw[u];exact a9.far _ _ _ (by omega));have al:Hid (bL L w5 (w.heap.size+2) (.slice A2 ds.length c2) ds):=aA (by rw[u];have h:=l.o.grown (aF (AM w4 (some w2.heap.size)) 1 (.slice A4 p1.length c4)) ⟨zaM s,by obtain⟨z,hz⟩:=l.o.own;exact aO hz s (fun cur e=>by injection e with _ e;exact absurd e (by decide))⟩;simpa using h);have am:Hid (bH L w5 w3.heap.size (.slice A4 p1.length c4) p1):=aA (by rw[u];exact C.grown (aF (AM w4 (some w2.heap.size)) 1 (.slice A4 p1.length c4)) ⟨zaM s,by obtain⟨z,hz⟩:=C.own;exact aO hz s (fun cur e=>by injection e with _ e;exact absurd e (by decide))⟩)
 have E:Hid (Below w.heap.size w w5):=aA (by
  rw[u];refine Eh ?_ (p:=⟨w2.heap.size,1,none⟩) (by simp only;omega) _;exact br.o.grown ch.o (by simp;omega) (fun k e=>by injection e with e;omega))
 clear g C a9;go_wp2_with fail
 rw[<-u];have bT:=aA bz;have bX:=aA bD;have ao:w3.heap.size<=w5.heap.size:=by rw[u];simp;omega
 clear u bz bD b0 b1 fb1 z0 z1 fz0 fz1 s H J l;go_loopw [] (fun wt=>∃(f:Nat) (acc:List Y.Prd) (rest:List Tok) (A:Option Addr) (c:Nat),Hid (Y.more f acc rest=.ok ps [])/\acc.length+rest.length<=4000/\wt.heap[w2.heap.size]?=some (.cells #[.slice A2 ds.length c2,.slice A acc.length c] 96 (0,0))/\wt.heap[w.heap.size]?=some (.cells #[.slice none 0 0,.slice none 0 0] 96 (0,0))/\Rd8 L w.heap.size (w.heap.size+1) px py wt rest/\bL L wt (w.heap.size+2) (.slice A2 ds.length c2) ds/\bH L wt w3.heap.size (.slice A acc.length c) acc/\Below w.heap.size w wt/\w3.heap.size<=wt.heap.size) (fun wt=>zds (w.heap.size+1) wt)
 case atStart=>exact⟨f1,p1,r1,A4,c4,bs,bx.o,bT.o,bX.o,bM.o,al.o,am.o,E.o,ao⟩
 case round =>
  clear bs bx bT bX bM al am E ao;obtain⟨f,acc,rest,A,c,HM,ba,I,D,ax,bb,bc,bd,bf⟩:=hrel;obtain⟨Ax,cx,r0,r3,_⟩:=ax.cell0;have bY:=aA I;have ay:=aA D;have az:=aA ax;have a0:=aA bb;have a1:=aA bc;have E:=aA bd;have bZ:=aA bf;have b2:=aA ba;have cj:w.heap.size<wr.heap.size:=(Ad.1 D).1;have bg:w2.heap.size<wr.heap.size:=(Ad.1 I).1;rcases rest with _|⟨t,m1⟩
  ·have bh:Hid (acc=ps):=aA (by
    have h:=HM.o;cases f with
    | zero=>injection h
    | succ f=>injection h)
   have p0:=AD wr _ 0 _ _ _ I;have p1':=AD wr _ 1 _ _ _ I;have y0:=AD wr _ 0 _ _ _ D;have y1:=AD wr _ 1 _ _ _ D;have gz0:=AH wr _ 0 _ _ D;have gz1:=AH wr _ 1 _ _ D;clear I D ax bb bc bd bf ba HM;go_wp2;have bi:=aF (aF (AM wr (some w.heap.size)) 0 (.slice A2 ds.length c2)) 1 (.slice A acc.length c);refine Cj (v:=.tuple #[.agg #[.slice A2 ds.length c2,.slice A acc.length c],.complex .f64 0 0,.int .i64 0]) (by simp[results,Tryz.results63,go_sem,y0,y1]) rfl ⟨_,_,rfl,?_,?_,?_⟩
   ·exact(a0.o.grown bi ⟨zaM ay.o,by obtain⟨z,hz⟩:=a0.o.own;exact zaK hz (by omega)⟩).less5 (by omega)
   ·rw[<-bh.o];exact(a1.o.grown bi ⟨zaM ay.o,by obtain⟨z,hz⟩:=a1.o.own;exact zaK hz (by omega)⟩).less5 (by omega)
   ·exact E.o.grown bi E.o.size (fun k e=>by injection e with e;omega)
  ·obtain⟨f,rfl⟩:∃f',f=f'+1:=by
    cases f with
    | zero=>have h:=HM.o;injection h with _ h;cases h
    | succ f=>exact⟨f,rfl⟩
   have hY:=HM.o;rw[Y.more]at hY;obtain⟨p2,r2,a2,ap⟩:=Y.bind_eq_ok hY;have bj:=aA ap;have ae:=aA (Y.group_len a2);have b3:=aA (fun(x:World) (h:Rd8 L w.heap.size (w.heap.size+1) px py x (t::m1))=>zkQ L w.heap.size (w.heap.size+1) px py (t::m1) x h);have b4:=aA (fun(x:World) (h:Rd8 L w.heap.size (w.heap.size+1) px py x (t::m1))=>zjW L w.heap.size (w.heap.size+1) px py (t::m1) p2 r2 x h a2);rw[show kd (t::m1)=1 from Y.group_kind a2]at b3;have ck:0<((t::m1).length:Int):=by simp
   have cl:Hid ((t::m1).length=m1.length+1):=aA rfl;clear hY a2 ap HM I D ax bb bc bd bf ba;have cm:Hid ((t::m1).length=zds (w.heap.size+1) wr):=aA az.o.dlen.symm;generalize cn:t::m1=rst at *;clear cn;go_wp2_with fail
   refine(b3.o _ az.o).mono ?_;rintro _ _ ⟨rfl,rfl⟩;go_upto_region 6 with fail
   refine Calm.region_tree (fun _=>True) (.two [0,2] 1 (.one [] 3 (.one [] 4 (.one [5] 6 (.fin [])))) 3 (.one [] 1 (.one [] 4 (.one [5] 6 (.fin []))))) (by kernel_rfl) (by kernel_rfl) (fun _ _ d _ _ h=>by cases d <;> exact h) trivial ?_;obtain⟨x2,a3⟩:∃x,x=wr.drew:=⟨_,rfl⟩
   rw[<-a3];have F:wr.grownBy x2 .none:=by rw[a3];exact zap _ _
   have b5:Below w.heap.size w x2:=by rw[a3];exact aB E.o 1
   have af:=aA ((F.block w2.heap.size bg (by simp)).trans bY.o);have aq:=aA ((F.block w.heap.size cj (by simp)).trans ay.o);have q:=aA (az.o.row F);have aa:=aA (a0.o.grown F (zlh.none _ _));have ab:=aA (a1.o.grown F (zlh.none _ _));have ac:=aA b5;have ad:Hid (w3.heap.size<=x2.heap.size):=aA (Am bZ.o F.size);clear a3 F b5 bY ay az a0 a1 E bZ;simp only[Calm.wpT,Calm.wpSt,Calm.pickOps,Aw,Ah,Aj];repeat (go_big_quiet_step (fail))
   refine Aq ?_;refine⟨?_,?_⟩
   focus
    intro KK r;try rw[Az (by rfl)]
    have c1:=AD x2 _ 1 _ _ _ af.o;go_wp2_with fail
    clear c1;refine r _ _ trivial (fun _=>True) (fun _ _=>trivial) trivial ?_;repeat (go_big_quiet_step (fail))
    refine Aq ?_;intro KK r;try rw[Az (by rfl)]
    go_wp2_with fail
    refine(b4.o _ q.o).mono ?_;rintro _ x3 ⟨b,v3,rfl,M,y⟩;have ag:=aA (zaf b af.o (by omega));have ar:=aA (zaf b aq.o (by omega));have au:=aA y;have ah:=aA (aa.o.grown b ⟨q.o.other,by obtain⟨z,hz⟩:=aa.o.own;exact zaK hz (by omega)⟩);have ai:=aA (ab.o.grown b ⟨q.o.other,by obtain⟨z,hz⟩:=ab.o.own;exact zaK hz (by omega)⟩);have aj:=aA (ac.o.grown b ac.o.size (fun k e=>by injection e with e;omega));have ak:=aA (Am ad.o b.size);have b6:=aA (M.less5 ad.o);have bk:x2.heap.size<=x3.heap.size:=b.size;clear b M y;go_wp2_with fail
   rotate_left
   focus
    intro KK r;try rw[Az (by rfl)]
    go_wp2_with fail
    refine(b4.o _ q.o).mono ?_;rintro _ x3 ⟨b,v3,rfl,M,y⟩;have ag:=aA (zaf b af.o (by omega));have ar:=aA (zaf b aq.o (by omega));have au:=aA y;have ah:=aA (aa.o.grown b ⟨q.o.other,by obtain⟨z,hz⟩:=aa.o.own;exact zaK hz (by omega)⟩);have ai:=aA (ab.o.grown b ⟨q.o.other,by obtain⟨z,hz⟩:=ab.o.own;exact zaK hz (by omega)⟩);have aj:=aA (ac.o.grown b ac.o.size (fun k e=>by injection e with e;omega));have ak:=aA (Am ad.o b.size);have b6:=aA (M.less5 ad.o);have bk:x2.heap.size<=x3.heap.size:=b.size;clear b M y;go_wp2_with fail
    refine r _ _ trivial (fun _=>True) (fun _ _=>trivial) trivial ?_;repeat (go_big_quiet_step (fail))
    refine Aq ?_;intro KK r;try rw[Az (by rfl)]
    have c1:=AD x3 _ 1 _ _ _ ag.o;go_wp2_with fail
    clear c1
   all_goals
    refine r _ _ trivial (fun _=>True) (fun _ _=>trivial) trivial ?_;repeat (go_big_quiet_step (fail))
    refine Aq ?_;intro KK r;try rw[Az (by rfl)]
    refine zmU (.tmp 40) (.tmp 42) _ rfl Tryz.underlying94 L w3.heap.size w3.heap.size _ v3 acc p2 rfl ai.o rfl b6.o (Af _) (by have h1:=b2.o;have h2:=ae.o;simp at h2;omega) ak.o ?_;intro v4 x4 C g;obtain⟨zo,i⟩:=ai.o.own;have j:=aA (ze8 i ag.o (by decide) g);have bl:=aA (ze8 i ar.o (by decide) g);have bm:=aA (au.o.own i g (by omega));have l:=aA (ah.o.grown g ⟨zaN i (by decide),by obtain⟨z,hz⟩:=ah.o.own;exact zho hz i (by decide)⟩);have bo:=aA (aj.o.grown g aj.o.size (fun k e=>by have:=(Bn i k e).1;omega));have bp:=aA (Am ak.o g.size);have co:x3.heap.size<=x4.heap.size:=g.size;have J:=aA C;clear C g i;obtain⟨A4',c4',b7,_,_⟩:=J.o.form;rw[AQ]at b7;subst b7;go_wp2_with fail
    refine r _ _ trivial (fun _=>True) (fun _ _=>trivial) trivial ?_;repeat (go_big_quiet_step (fail))
    refine Aq ?_;intro KK r;try rw[Az (by rfl)]
    have c1:=AD x4 _ 1 _ _ _ j.o;have f1':=AH x4 _ 1 _ _ j.o;go_wp2_with fail
    refine r _ _ trivial (fun _=>True) (fun _ _=>trivial) trivial ?_;refine Aq ?_;go_wp2_with fail
    have b8:=aF (AM x4 (some w2.heap.size)) 1 (.slice A4' (acc.length+p2.length) c4');have av:=aA (bm.o.far w2.heap.size 1 (.slice A4' (acc.length+p2.length) c4') (by omega));go_roundw
    case rel =>
     refine⟨f,acc++p2,r2,A4',c4',bj,by have h1:=b2.o;have h2:=ae.o;simp at h2 ⊢;omega,?_,?_,av.o,?_,?_,?_,?_⟩
     ·rw[AQ,AW x4 _ 1 _ _ _ j.o];rfl
     ·rw[AP _ _ _ _ (by simp only;omega)];exact bl.o
     ·exact l.o.grown b8 ⟨zaM j.o,by obtain⟨z,hz⟩:=l.o.own;exact aO hz j.o (fun cur e=>by injection e with _ e;exact absurd e (by decide))⟩
     ·rw[AQ];exact J.o.grown b8 ⟨zaM j.o,by obtain⟨z,hz⟩:=J.o.own;exact aO hz j.o (fun cur e=>by injection e with _ e;exact absurd e (by decide))⟩
     ·exact Eh bo.o (p:=⟨w2.heap.size,1,none⟩) (by simp only;omega) _
     ·simpa using bp.o
    case measure =>
     rw[av.o.dlen,<-cm.o];have h2:=ae.o;have h3:=cl.o;simp at h2;omega
structure Sr9 (L:List Int) (xs:List Tok) (ds:List Y.Dcl) (ps:List Y.Prd) (G:Gm.Gr):Prop where
 b:K.Bytes L
 n:L.length<=2000
 t:zki L=.ok xs
 s:∃m t9 m2 p1 r1 f1,Y.decls (xs.length+1) [] xs=.ok ds m/\Y.take [9] m=.ok t9 m2/\Y.group [] m2=.ok p1 r1/\Y.more f1 p1 r1=.ok ps []
 z:Ez ds ps
 g:Gm.build ds ps=.ok G
theorem zlM (A:Option Addr) (c:Nat) (L:List Int) (xs:List Tok) (ds:List Y.Dcl) (ps:List Y.Prd) (G:Gm.Gr) (w:World) (hr:RdB w w.heap.size A L) (hc:L.length<=c) (hs:Sr9 L xs ds ps G) :
  Calls Tryz.prog 43 #[.slice A L.length c] w fun e w'=>∃dv pv,e=.returned (.tuple #[.agg #[dv,pv],.complex .f64 0 0,.int .i64 0])/\bL L w' w.heap.size dv ds/\bH L w' w.heap.size pv ps/\Below w.heap.size w w':=by
 have SC:=fun a w m X Y=>show(store a (.complex .f64 X Y) m).run Tryz.prog w=stored Tryz.prog w a (.complex .f64 X Y) m from run_store _ w a _ m rfl;have HT:=aA (fun(w1:World) (h1:Below w.heap.size w w1)=>zg1 A c L xs w1 (hr.up h1) hs.b hc hs.n hs.t);have aa:=aA (fun o=>((AB w.heap.size w).alloc (Af _) o));obtain⟨m,t9,m2,p1,r1,f1,s1,s2,s3,s4⟩:=hs.s;have aj:xs.length<=4000:=by have:=(zgJ L hs.b xs hs.t).count;have:=hs.n;omega
 have af:=aA (fun(w1:World) (A':Option Addr) (c':Nat) (h1:RdT L w1 w1.heap.size A' xs) (h2:xs.length<=c')=>of8m L A' c' (Fl.fl (Pl.pos L).1) (Fl.fl (Pl.pos L).2) xs ds p1 ps f1 m m2 r1 t9 w1 h1 h2 aj s1 hs.z.k s2 s3 s4);clear hr hc hs s1 s2 s3 s4
 go_enter Tryz.func43,Tryz.ntmps43
 go_wp2_with fail
 refine(HT.o _ (aa.o _)).mono ?_;rintro _ w2 ⟨v,rfl,ho,hb⟩;obtain⟨A',c',rfl,ag,_,ah⟩:=ho.rd;have h2:w2.heap[w.heap.size]?=some (.cells #[.slice none 0 0,.slice none 0 0] 96 (0,0)):=(hb.block w.heap.size (by simp)).trans (AE w _);have ab:=aA ((aa.o (.cells #[.slice none 0 0,.slice none 0 0] 96)).trans (hb.mono (aa.o _).size));have ai:=aA (af.o w2 A' c' ah ag);clear ho hb HT aa af ah ag;go_wp2_with fail
 refine ai.o.mono ?_;rintro _ w3 ⟨dv,pv,rfl,ac,ad,ae⟩;have h3:=(ae.block w.heap.size (Ad.1 h2).1).trans h2;have c0:=AD w3 _ 0 _ _ _ h3;have c1:=AD w3 _ 1 _ _ _ h3;have f0:=AH w3 _ 0 _ _ h3;have f1:=AH w3 _ 1 _ _ h3;have ak:=aA (ab.o.trans (ae.mono ab.o.size));have HX:=aA (zbU h3 (by decide));obtain⟨DA,DC,rfl,_,_⟩:=ac.form;obtain⟨PA',PC,rfl,_,_⟩:=ad.form
 have al:Hid (bL L ((w3.setCell ⟨w.heap.size,0,none⟩ (.slice DA ds.length DC)).setCell ⟨w.heap.size,1,none⟩ (.slice PA' ps.length PC)) w.heap.size (.slice DA ds.length DC) ds):=aA (by
  obtain⟨zs,hz⟩:=ac.own;exact(ac.less ab.o.size).grown (aF (aF (AM _ _) _ _) _ _) ⟨HX.o,.inr (ze7 hz h3 (by decide))⟩)
 have am:Hid (bH L ((w3.setCell ⟨w.heap.size,0,none⟩ (.slice DA ds.length DC)).setCell ⟨w.heap.size,1,none⟩ (.slice PA' ps.length PC)) w.heap.size (.slice PA' ps.length PC) ps):=aA (by
  obtain⟨zs,hz⟩:=ad.own;exact(ad.less ab.o.size).grown (aF (aF (AM _ _) _ _) _ _) ⟨HX.o,.inr (ze7 hz h3 (by decide))⟩)
 clear ac ad ae ai h2 h3;go_wp2;refine Cj (v:=.tuple #[.agg #[.slice DA ds.length DC,.slice PA' ps.length PC],.complex .f64 0 0,.int .i64 0]) (by simp[results,Tryz.results43,go_sem,c0,c1]) rfl ?_;exact⟨_,_,rfl,al.o,am.o,zaR (zaR ak.o _ (Af _)) _ (Af _)⟩
theorem zmu (A:Option Addr) (c:Nat) (L:List Int) (xs:List Tok) (ds:List Y.Dcl) (ps:List Y.Prd) (G:Gm.Gr) (w:World) (hr:RdB w w.heap.size A L) (hc:L.length<=c) (hs:Sr9 L xs ds ps G) :
  Calls Tryz.prog 23 #[.slice A L.length c] w fun e w'=>(∃g,e=.returned (.tuple #[g,.complex .f64 0 0,.int .i64 0])/\aR w' w'.heap.size g G/\Gm.Fit G)/\Below w.heap.size w w':=by
 have SC:=fun a w m X Y=>show(store a (.complex .f64 X Y) m).run Tryz.prog w=stored Tryz.prog w a (.complex .f64 X Y) m from run_store _ w a _ m rfl;have ac:Below w.heap.size w (w.alloc (.cells grC 26)):=(AB w.heap.size w).alloc (Af _) _;have HP:=aA (zlM A c L xs ds ps G _ (hr.up ac) hc hs);have ad:=aA ac;have ap:=aA (AE w (.cells grC 26));have ah:=aA (fun(x:World) (A1 A2:Option Addr) (c1 c2:Nat) (h1:zle L x x.heap.size A1 ds) (h2:zld L x x.heap.size A2 ps)=>zmL L ds ps A1 A2 c1 c2 G x h1 h2 hs.z hs.g);unfold grC at HP ad;clear hr hc hs ac
 go_enter Tryz.func23,Tryz.ntmps23
 go_wp2_with fail
 refine HP.o.mono ?_;rintro _ w2 ⟨dv,pv,rfl,ai,aj,ae⟩;obtain⟨A1,c1,rfl,ak⟩:=zh9 ai;obtain⟨A2,c2,rfl,al⟩:=zhj aj;have b:=(ae.block w.heap.size (by simp)).trans ap.o;have az:=aA b;have am:=aA (ad.o.trans (ae.mono ad.o.size));have aq:=(Ad.1 b).1;obtain⟨w3,ab⟩:∃x,x=w2.alloc (.cells #[.slice A1 ds.length c1,.slice A2 ps.length c2] 96):=⟨_,rfl⟩
 have af:Hid (Below w.heap.size w w3):=aA (by rw[ab];exact am.o.alloc am.o.size _);have d:Below w2.heap.size w2 w3:=by rw[ab];exact(AB _ _).alloc (Af _) _
 have ao:Hid (w3.heap[w.heap.size]?=some (.cells grC 26 (0,0))):=aA ((d.block _ aq).trans b);have ar:w2.heap.size<=w3.heap.size:=d.size
 have HC:=aA (ah.o w3 A1 A2 c1 c2 (fun hn=>by
   obtain⟨g,o,e,h1,h2⟩:=(ak.keep d) hn;refine⟨g,o,e,by omega,fun i hi=>?_⟩;obtain⟨k1,A',c',k2,k3⟩:=h2 i hi;exact⟨k1,A',c',k2,fun hn=>by obtain⟨g,o,e,q1,q2⟩:=k3 hn;exact⟨g,o,e,by omega,q2⟩⟩) (fun hn=>by
   obtain⟨g,o,e,h1,h2⟩:=(al.keep d) hn;refine⟨g,o,e,by omega,fun i hi=>?_⟩;obtain⟨k1,k2,⟨A',c',k3,k4⟩,k5⟩:=h2 i hi;exact⟨k1,k2,⟨A',c',k3,fun hn=>by obtain⟨g,o,e,q1,q2⟩:=k4 hn;exact⟨g,o,e,by omega,q2⟩⟩,k5⟩))
 rw[ab]at HC af ao;clear ae b ai aj ak al ab d ar ah;go_wp2_with fail
 refine HC.o.mono ?_;rintro _ w4 ⟨⟨g,rfl,au,aa⟩,ag⟩;have b:=(ag.block w.heap.size (by simp;omega)).trans ao.o;have g0:=aT b;have g1:=aU b;have g2:=aZ b;have g3:=bG b;have f0:=AH w4 _ 0 _ _ b;have f1:=AH w4 _ 1 _ _ b;have f2:=AH w4 _ 2 _ _ b;have f3:=AH w4 _ 3 _ _ b;have av:=(Ad.1 b).1;have aw:=aA (af.o.trans (ag.mono af.o.size));obtain⟨B,N,R,cs,vT,vN,vR,rfl,h,hN⟩:=au;obtain⟨⟨AT,cT,rfl⟩,⟨AN,cN,rfl⟩,⟨AR,cR,rfl⟩⟩:=zax h;have ax:=aA (fun u0 u1 u2 u3=>(h.more hN).grown (aF (aF (aF (aF (AM w4 (some w.heap.size)) 0 u0) 1 u1) 2 u2) 3 u3) (⟨fun g e=>by injection e with e;subst e;exact⟨_,_,b,by decide,by decide,by decide,.inl ⟨by decide,by decide⟩⟩⟩));have ay:=aA aa;clear ag b h hN aa;go_wp2;refine Cj (v:=.tuple #[.agg #[.slice AT G.ts.length cT,.slice AN G.ns.length cN,.slice AR G.rs.length cR,.int .i64 G.st],.complex .f64 0 0,.int .i64 0]) (by simp[results,Tryz.results23,go_sem,g0,g1,g2,g3]) rfl ?_;exact⟨⟨_,rfl,(ax.o _ _ _ _).rd (by simp) G.st,ay.o⟩,zaR (zaR (zaR (zaR aw.o _ (Af _)) _ (Af _)) _ (Af _)) _ (Af _)⟩
def txB (s:List Int):Bool:=(s.all fun z=>decide (0<=z)&&decide (z<256))&&decide (s.length<=100)
def znb (x:Tok):Bool:=txB x.t&&Gm.named x.t && !(x.t==[101,114,114,111,114])
def pdB (p:Y.Prd):Bool:=txB p.l.t&&T.isName p.l.t&&(p.r.all znb)&&p.p.isNone&&decide (p.r.length<=1000)
def ezB (ds:List Y.Dcl) (ps:List Y.Prd):Bool:=ds.isEmpty&&ps.all pdB&&decide (ds.length<=1000)&&decide (ps.length<=1000)&&decide (0<ps.length)
theorem zjC {s:List Int} (h:txB s=true):K.Tx s:=by
 unfold txB at h;rw[AV,Bc]at h;exact⟨zar _ h.1,by omega⟩
theorem zkv {x:Tok} (h:znb x=true):Ref9 x:=by
 unfold znb at h;simp only[AV]at h;exact⟨zjC h.1.1,h.1.2,by simpa using h.2⟩
theorem zmC {ps:List Y.Prd} (h:ezB ds ps=true):Ez ds ps:=by
 unfold ezB at h;simp only[AV,Bc,BW,Es]at h;obtain⟨⟨⟨⟨h1,h2⟩,h3⟩,h4⟩,h5⟩:=h;refine⟨h1,fun d hd=>(by rw[h1]at hd;cases hd),fun p hp=>?_,fun p hp=>?_,h3,h4,h5⟩
 all_goals
  have:=h2 p hp
  unfold pdB at this;simp only[AV,BW,Bc,Dw]at this
 ·exact⟨zjC this.1.1.1.1,this.1.1.1.2⟩
 ·exact⟨fun x hx=>zkv (this.1.1.2 x hx),this.1.2,this.2⟩
def gr9 (L:List Int):Option Gm.Gr :=
 match zki L with
 | .ok xs=>match Y.decls (xs.length+1) [] xs with
  | .ok ds m=>match Y.take [9] m with
   | .ok _ m2=>match Y.group [] m2 with
    | .ok p1 r1=>match Y.more (r1.length+1) p1 r1 with
     | .ok ps []=>match ezB ds ps,Gm.build ds ps with
      | true,.ok G=>some G
      | _,_=>none
     | _=>none
    | _=>none
   | _=>none
  | _=>none
 | _=>none
theorem zmv {L:List Int} (hb:(L.all fun z=>decide (0<=z)&&decide (z<256))=true) (hn:L.length<=2000) (h:gr9 L=some G):∃xs ds ps,Sr9 L xs ds ps G:=by
 unfold gr9 at h;split at h
 ·rename_i xs h1
  split at h
  ·rename_i ds m h2
   split at h
   ·rename_i t9 m2 h3
    split at h
    ·rename_i p1 r1 h4
     split at h
     ·rename_i ps h7
      split at h
      ·rename_i h5 h6
       injection h with h;subst h;exact⟨xs,ds,ps,zar _ hb,hn,h1,⟨m,t9,m2,p1,r1,_,h2,h3,h4,h7⟩,zmC h5,h6⟩
      ·cases h
     ·cases h
    ·cases h
   ·cases h
  ·cases h
 ·cases h
theorem zcu (L:List Int) (G:Gm.Gr) (hb:(L.all fun z=>decide (0<=z)&&decide (z<256))=true) (hl:L.length<=2000) (hg:gr9 L=some G) (w:World) (n:Nat) (hw:n=w.heap.size) :
  Calls Tryz.prog 23 #[.slice (some ⟨n,0,none⟩) L.length L.length] (w.alloc (zby L)) fun e w'=>(∃g,e=.returned (.tuple #[g,.complex .f64 0 0,.int .i64 0])/\aR w' w'.heap.size g G/\Gm.Fit G)/\Below w.heap.size w w':=by
 subst hw;obtain⟨xs,ds,ps,hs⟩:=zmv hb hl hg;obtain⟨r1,r2⟩:=litM w L;exact(zmu _ L.length L xs ds ps G _ r1 (Af _) hs).mono fun e w' h=>⟨h.1,r2.trans (h.2.mono r2.size)⟩
def zmE:List Int:=[37,37,32,115,32,58,32,39,97,39,32,115,32,124,32,59]
def bB:Gm.Gr:=⟨[⟨[39,97,39],0,0⟩],[[115]],[⟨0,[0,-1],0⟩,⟨0,[],-1⟩],0⟩
theorem znx:gr9 zmE=some bB:=by kernel_rfl
theorem zbj:Gm.right bB=true:=by decide +kernel
theorem zkz:Gm.gn true bB.rs bB.ns.length=[true]:=by
 rw[<-Gm.grow_gn (Gm.right_ok.1 zbj).lin];decide +kernel
theorem znf:Gm.rc bB=[true]:=by
 have h:=Gm.right_ok.1 zbj;rw[<-Gm.reach_rc h.lin h.sin h.s0 h.s1,zkz];decide +kernel
theorem zlF:Gm.rdE bB=0:=Gm.rdE_ok zbj (by
 have aa:=Gm.right_ok.1 zbj;have h0:=aa.s0;have h1:=aa.s1
 have e:Gm.tr (Gm.Gn true bB.rs bB.st)=(Gm.gn true bB.rs bB.ns.length).getD bB.st.toNat false:=by
  rw[Gm.gn_at _ _ _ _ (by omega),Bq h0]
 rw[e,zkz];decide)
theorem zm5 (hx:x∈bB.rs):Gm.use bB x=Gm.rcB [true] [true] x:=by
 rw[<-Gm.use_rcB (Gm.right_ok.1 zbj) hx,zkz,znf]
theorem zmh:Gm.krs bB=[⟨0,[0,-1],0⟩,⟨0,[],-1⟩]:=by
 have e:Gm.krs bB=bB.rs.filter (Gm.rcB [true] [true]):=List.filter_congr fun x hx=>zm5 hx;exact e.trans (by kernel_rfl)
theorem zlP:Gm.olds bB=[0]:=by unfold Gm.olds;rw[zmh];decide +kernel
theorem znd:Gm.reduce bB=bB:=by unfold Gm.reduce;rw[zmh,zlP];rfl
theorem zmk:Gm.isB bB=true:=by
 unfold Gm.isB Gm.rdG;rw[Az zlF,znd,zlF,Gm.same_self];rfl
def zns:List (List Au.It):=[[(-1,0)],[(0,1)],[(-1,1)],[(0,2)]]
def es15:List (List (Int×Int)):=[[(0,1),(-1,2)],[(0,1),(-1,3)],[],[]]
theorem zmQ:Au.bld bB=some (zns,es15):=Au.bld_c (by decide +kernel)
theorem zmO:Au.bldE bB=0:=(Au.bld_ok zmk zmQ).1
theorem zlD:Gm.right Gm.gr0=false:=by decide +kernel
theorem isB0:Gm.isB Gm.gr0=false:=by
 cases h:Gm.isB Gm.gr0
 ·rfl
 ·have:=Gm.isB_right h
  rw[zlD]at this;cases this
theorem znG:Au.bldE Gm.gr0=1:=(Au.bld_no isB0).1
theorem nu15:Gm.gn false bB.rs bB.ns.length=[true]:=by
 rw[<-Gm.grow_gn (Gm.right_ok.1 zbj).lin];decide +kernel
theorem znB:Gm.fst bB=[1]:=by
 unfold Gm.fst;rw[nu15];decide +kernel
def ls15:List (List Au.It):=[[(-1,0),(0,0),(1,0)],[(0,0),(0,1),(1,0)],[(-1,1)],[(0,2)]]
theorem zlz:Lk.rowsL bB zns=ls15:=by
 unfold Lk.rowsL zns ls15;rw[Bw,Bw,Bw,Bw,Dr];rw[(Au.clo_c (G:=bB) (l:=[(-1,0)]) (by decide +kernel) (by decide +kernel)),(Au.clo_c (G:=bB) (l:=[(0,1)]) (by decide +kernel) (by decide +kernel)),(Au.clo_c (G:=bB) (l:=[(-1,1)]) (by decide +kernel) (by decide +kernel)),(Au.clo_c (G:=bB) (l:=[(0,2)]) (by decide +kernel) (by decide +kernel))];decide +kernel
def lk15:List (List (Int×Int)):=[[(1,2)],[(1,2)],[],[(0,2)]]
theorem zl7:Lk.lkS bB=lk15 :=
 (Lk.lkS_c2 zmk zmQ (Gm.right_ok.1 zbj) zlz nu15 znB 1 (S:=[[2,2,2],[2,2,2],[2],[2]]) (by decide +kernel) (by decide +kernel)).trans (by decide +kernel)
def zmD:List Int:=[37,37,32,115,32,58,32,108,32,39,61,39,32,114,32,124,32,114,32,59,32,108,32,58,32,39,42,39,32,114,32,124,32,39,105,39,32,59,32,114,32,58,32,108,32,59]
def a8:Gm.Gr:=⟨[⟨[39,61,39],0,0⟩,⟨[39,42,39],0,0⟩,⟨[39,105,39],0,0⟩],[[115],[108],[114]],[⟨0,[-2,0,-3],0⟩,⟨0,[-3],-1⟩,⟨1,[1,-3],1⟩,⟨1,[2],2⟩,⟨2,[-2],-1⟩],0⟩
theorem znw:gr9 zmD=some a8:=by kernel_rfl
theorem zbi:Gm.right a8=true:=by decide +kernel
theorem zky:Gm.gn true a8.rs a8.ns.length=[true,true,true]:=by
 rw[<-Gm.grow_gn (Gm.right_ok.1 zbi).lin];decide +kernel
theorem zne:Gm.rc a8=[true,true,true]:=by
 have h:=Gm.right_ok.1 zbi;rw[<-Gm.reach_rc h.lin h.sin h.s0 h.s1,zky];decide +kernel
theorem zlE:Gm.rdE a8=0:=Gm.rdE_ok zbi (by
 have aa:=Gm.right_ok.1 zbi;have h0:=aa.s0;have h1:=aa.s1
 have e:Gm.tr (Gm.Gn true a8.rs a8.st)=(Gm.gn true a8.rs a8.ns.length).getD a8.st.toNat false:=by
  rw[Gm.gn_at _ _ _ _ (by omega),Bq h0]
 rw[e,zky];decide)
theorem zm4 (hx:x∈a8.rs):Gm.use a8 x=Gm.rcB [true,true,true] [true,true,true] x:=by
 rw[<-Gm.use_rcB (Gm.right_ok.1 zbi) hx,zky,zne]
theorem zmg:Gm.krs a8=a8.rs:=by
 have e:Gm.krs a8=a8.rs.filter (Gm.rcB [true,true,true] [true,true,true]):=List.filter_congr fun x hx=>zm4 hx;exact e.trans (by kernel_rfl)
theorem zlO:Gm.olds a8=[0,1,2]:=by unfold Gm.olds;rw[zmg];decide +kernel
theorem znc:Gm.reduce a8=a8:=by unfold Gm.reduce;rw[zmg,zlO];rfl
theorem zmj:Gm.isB a8=true:=by
 unfold Gm.isB Gm.rdG;rw[Az zlE,znc,zlE,Gm.same_self];rfl
def zmf:List (List Au.It):=[[(-1,0)],[(2,1)],[(3,1)],[(-1,1)],[(0,1),(4,1)],[(1,1)],[(4,1)],[(2,2)],[(0,2)],[(0,3)]]
def es16:List (List (Int×Int)):=[[(1,1),(2,2),(-1,3),(-2,4),(-3,5)],[(1,1),(2,2),(-2,6),(-3,7)],[],[],[(0,8)],[],[],[],[(1,1),(2,2),(-2,6),(-3,9)],[]]
theorem zmP:Au.bld a8=some (zmf,es16):=Au.bld_c (by decide +kernel)
theorem zmN:Au.bldE a8=0:=(Au.bld_ok zmj zmP).1
theorem nu16:Gm.gn false a8.rs a8.ns.length=[false,false,false]:=by
 rw[<-Gm.grow_gn (Gm.right_ok.1 zbi).lin];decide +kernel
theorem znA:Gm.fst a8=[6,6,6]:=by
 unfold Gm.fst;rw[nu16];decide +kernel
def ls16:List (List Au.It):=[[(-1,0),(0,0),(1,0),(2,0),(3,0),(4,0)],[(2,0),(2,1),(3,0),(4,0)],[(3,1)],[(-1,1)],[(0,1),(4,1)],[(1,1)],[(4,1)],[(2,2)],[(0,2),(2,0),(3,0),(4,0)],[(0,3)]]
theorem zly:Lk.rowsL a8 zmf=ls16:=by
 have key:∀l∈zmf,Au.clo a8 l=Au.cloC a8 l:=fun l hl=>Au.clo_c (by
  have h:(zmf.all fun l=>l.all (Au.isI a8))=true:=by decide +kernel
  exact fun x hx=>BW.1 (BW.1 h l hl) x hx) (by
  have h:(zmf.all fun l=>Au.addA a8 (Au.cloC a8 l)==Au.cloC a8 l)=true:=by decide +kernel
  exact eq_of_beq (BW.1 h l hl))
 unfold Lk.rowsL;rw[List.map_congr_left key];decide +kernel
def zix:List (List (Int×Int)):=[[],[],[(3,9)],[],[(4,8)],[(1,8)],[(4,9)],[(2,9)],[],[(0,8)]]
theorem zl6:Lk.lkS a8=zix :=
 (Lk.lkS_c2 zmj zmP (Gm.right_ok.1 zbi) zly nu16 znA 2 (S:=[[8,8,8,9,9,8],[9,9,9,9],[9],[8],[8,8],[8],[9],[9],[8,8,8,8],[8]]) (by decide +kernel) (by decide +kernel)).trans (by decide +kernel)
theorem lkS0:Lk.lkS Gm.gr0=[]:=Lk.lk_no isB0
namespace S
def has (s:Nat) (n:Int):Bool:=decide (0<=n/\n<=31)&&s.testBit n.toNat
theorem and_bit (s:Nat) (n:Int):(s &&& bit n != 0)=has s n:=by
 unfold has bit;split
 ·rename_i h
  cases hb:s.testBit n.toNat
  ·have e:s &&& 2 ^ n.toNat=0:=by
    apply CH;intro i;rw[DS,Ca,CR];by_cases hi:n.toNat=i
    ·rw[<-hi,hb];rfl
    ·simp[hi]
   rw[e];simp
  ·have e:s &&& 2 ^ n.toNat≠0:=by
    intro e
    have:=congrArg (fun z=>Nat.testBit z n.toNat) e
    simp only[DS,Ca,hb,CR]at this;simp at this
   simp[h,e]
 ·rename_i h;simp[h]
end S
namespace Lk
def rl (l:List (Int×Int)) (n:Int):List Int:=(l.filter fun x=>S.has x.2.toNat n).map (·.1)
theorem rl_step {l:List (Int×Int)} {n:Int} (h:i<l.length):rl (l.take (i+1)) n=rl (l.take i) n++if S.has (l[i]).2.toNat n=true then [(l[i]).1] else []:=by
 unfold rl;rw[AI h,B3,Bf]
 congr 1
 rw[BX];split <;> rfl
theorem rl_len (l:List (Int×Int)) (n:Int):(rl l n).length<=l.length:=by
 unfold rl;rw[Bd];exact B7 _ _
end Lk
def znL (x:Int×Int):Prop:=Gm.In x.1/\0<=x.2/\x.2<4294967296
theorem zf9 (l:List (Int×Int)) (n:Int) (A:Option Addr) (c B:Nat) (w:World) (hr:RdQ 2 lkF w B A l) (hB:B<=w.heap.size) (ak:∀x∈l,znL x) (aa:l.length<=100000) :
  Calls Tryz.prog 15 #[.slice A l.length c,.int .i64 n] w fun e w'=>∃u,e=.returned u/\aS w' w.heap.size u (Lk.rl l n)/\Below w.heap.size w w':=by
 have HR:=aA hr;have HB:=aA hB;have ay:=aA ak;have ac:=aA aa;have a9:(l.length:Int)<=100000:=by omega
 have az:Hid (aS w w.heap.size (.slice none 0 0) (Lk.rl (l.take 0) n)):=aA (aS.nil _ _);clear hr hB ak aa
 go_enter Tryz.func15,Tryz.ntmps15
 go_wp2;go_loopw [10,5] (fun vi vu wr=>∃i:Nat,i<=l.length/\vi=.int .i64 i/\Hid (aS wr w.heap.size vu (Lk.rl (l.take i) n))/\Hid (Below w.heap.size w wr)) (fun vi _ _=>l.length-(intOf vi).toNat)
 case atStart=>exact⟨0,AU _,rfl,az,aA (AB _ _)⟩
 case round =>
  obtain⟨i,hi,rfl,HO,HW⟩:=hrel;rename World=>wr;obtain⟨Au,cu,rfl,_,_,_⟩:=aS.form HO.o;by_cases d:i<l.length
  ·obtain⟨g,o,rfl,a0,hc⟩:=HR.o (by omega);have al:g<w.heap.size:=Ag a0 HB.o;have k0:=(HW.o.cell (p:=⟨g,o+i*2+0,none⟩) al).trans (hc i d 0 (.int .i64 (l[i]).1) rfl);have k1:=(HW.o.cell (p:=⟨g,o+i*2+1,none⟩) al).trans (hc i d 1 (.int .u32 (l[i]).2) rfl);rw[Ea]at k0;have hx:=ay.o _ (AC d);have b:=aA (Lk.rl_step (n:=n) d);have ad:=aA (Am (Lk.rl_len (l.take i) n) (by rw[Bb];omega:(l.take i).length<=l.length));have am:=aA d;have ba:((i:Nat):Int)<((l.length:Nat):Int):=by omega
   have ae:0<=(l[i]).2/\(l[i]).2<4294967296:=hx.2;clear hx;clear hc;generalize (l[i]).2=zi at *;obtain⟨z,rfl⟩:∃z:Nat,zi=(z:Int):=⟨zi.toNat,by have:=ae.1;omega⟩
   have a1:z<4294967296:=by have:=ae.2;omega
   rw[BP]at b;clear ae;generalize (l[i]).1=r at *;obtain⟨wi,ab⟩:∃y,y=wr.alloc (.cells #[.int .i64 r,.int .u32 (z:Int)] 46):=⟨_,rfl⟩
   have ao:Hid (Below wr.heap.size wr wi):=aA (by rw[ab];exact(AB _ _).alloc (Af _) _);have ap:Hid (wi.heap[wr.heap.size]?=some (.cells #[.int .i64 r,.int .u32 (z:Int)] 46 (0,0))):=aA (by rw[ab];exact AE wr _);have y1:=aU ap.o;have aq:=aA (HW.o.trans (ao.o.mono HW.o.size));have a2:=aA (HO.o.below ao.o (Af _));have e:=u32_and_nat z (S.bit n) a1 (S.bit_lt n)
   have ar:(((z &&& S.bit n:Nat):Int) != 0)=S.has z n:=by
    rw[<-S.and_bit,Bt,DZ,DZ];omega
   go_upto_region 5 with fail
   rw[<-ab];clear ab k0 k1;go_quiet ((go_at_call 30;exact Du (zcr _ _)))
   obtain⟨wq,af⟩:∃y,y=wi.drewN nq:=⟨_,rfl⟩
   rw[<-af];have ag:Hid (Below wi.heap.size wi wq):=aA (by rw[af];exact aB (AB _ _) _);clear af y1;have ah:=aA (aq.o.trans (ag.o.mono aq.o.size));have au:=aA (a2.o.below ag.o (Af _));cases hh:S.has z n
   ·rw[hh]at b;have ai:Hid (Lk.rl (l.take (i+1)) n=Lk.rl (l.take i) n):=aA (by rw[b.o];simp);rw[hh]at ar;clear hh b;go_wp2;go_roundw
    case rel=>exact⟨i+1,am.o,by go_num,by rw[ai.o];exact au,ah⟩
    case measure=>simp[intOf];omega
   ·rw[hh]at b;have ai:Hid (Lk.rl (l.take (i+1)) n=Lk.rl (l.take i) n++[r]):=aA (by rw[b.o];simp);rw[hh]at ar;clear hh b;have y0:=aT (aC ag.o ap.o);have a3:Hid (Below wq.heap.size wq (wq.alloc (.cells #[.int .i64 r] 3))):=aA ((AB _ _).alloc (Af _) _);have av:=aA (au.o.alloc (.cells #[.int .i64 r] 3));have a4:Hid ((wq.alloc (.cells #[.int .i64 r] 3)).cell? ⟨wq.heap.size,0,none⟩=some (.int .i64 r)):=aA (AD _ _ 0 _ _ _ (AE wq _));have aj:=aA (ah.o.trans (a3.o.mono ah.o.size));generalize Lk.rl (l.take i) n=xs at *;go_wp2_with (at_builtin;refine za4 rfl (.tmp 20) (.tmp 23) _ rfl Tryz.underlying38 w.heap.size _ xs rfl av.o _ _ r rfl a4.o (by have:=ad.o;have:=ac.o;omega) aj.o.size ?_;intro v5 w5 aw ax;have a5:=aA aw;have a6:=aA (aj.o.grown ax aj.o.size (fun k e=>(Bn av.o k e).1));clear aw ax)
    go_roundw
    case rel=>exact⟨i+1,am.o,by go_num,by rw[ai.o];exact a5,a6⟩
    case measure=>simp[intOf];omega
  ·obtain rfl:i=l.length:=by omega
   rw[Bk]at HO ⊢;go_wp2;go_ret
   refine⟨_,?_,HO.o,HW.o⟩;rfl
def zb2 (L:List Int) (w:World) (e:Ending) (w':World):Prop:=∃A c,e=.returned (.slice A L.length c)/\L.length<=c/\c<=9223372036854775807/\RdI w' w'.heap.size A L/\Below w.heap.size w w'
theorem zbL (v:Value) (G:Gm.Gr) (B:Nat) (r:Int) (w:World) (hg:aR w B v G) (hf:Gm.Fit G) (hB:B<=w.heap.size) (hr:Au.rOk G r=true) :
  Calls Tryz.prog 61 #[v,.int .i64 r] w (zb2 (Au.sy G r) w):=by
 have hr:=Au.rOk_iff.1 hr;have aa:=hf.s;unfold Gm.In at aa;obtain⟨AT,cT,AN,cN,AR,cR,rfl,⟨ah,ai⟩,⟨aj,ak⟩,⟨al,am⟩,_,_,hR⟩:=hg;have b:=aA (aY.start 26 w #[.slice AT G.ts.length cT,.slice AN G.ns.length cN,.slice AR G.rs.length cR,.int .i64 G.st]);have x2:=b.o.c 2 _ rfl;have x3:=b.o.c 3 _ rfl;unfold zb2;by_cases h1:r = -1
 ·subst h1;have e:Au.sy G (-1)=[-1-G.st]:=rfl;have hw:IntKind.i64.wrap (-1-G.st) = -1-G.st:=B5 _ (by omega);have HL:=aA (zhD (w.alloc (.cells #[.slice AT G.ts.length cT,.slice AN G.ns.length cN,.slice AR G.rs.length cR,.int .i64 G.st] 26)) [-1-G.st]);rw[e];clear hr hR e hf aa
  go_enter Tryz.func61,Tryz.ntmps61
  go_wp2;go_ret
  exact⟨_,_,rfl,by simp,by simp,by simpa[zbz] using HL.o.1,b.o.below.trans (HL.o.2.mono (by simp))⟩
 ·obtain⟨k,rfl⟩:∃k:Nat,r=(k:Int):=⟨r.toNat,by omega⟩
  have ab:k<G.rs.length:=by omega
  obtain⟨g,o,rfl,ad,hc⟩:=hR (by omega);obtain⟨A',c',k1,ae,af,ac⟩:=(hc k ab).2.1;have k1:=(b.o.below.cell (p:=⟨g,o+k*3+1,none⟩) (Ag ad hB)).trans k1;have ag:=aA ((ac.below b.o.below hB).more (B':=w.heap.size+1) (by omega));have h2:((k:Int) == -1)=false:=by rw[AY];omega
  have h3:(k:Int)<(G.rs.length:Int):=by omega
  rw[Au.sy_non ab];clear hc ac hR hr h1 hf aa;generalize (G.rs[k]).r=L at *
  go_enter Tryz.func61,Tryz.ntmps61
  go_wp2;go_ret
  exact⟨_,_,rfl,ae,af,by simpa using ag.o,b.o.below⟩
theorem zbC (v:Value) (G:Gm.Gr) (B:Nat) (x:Au.It) (w:World) (hg:aR w B v G) (hf:Gm.Fit G) (hB:B<=w.heap.size) (hx:Au.isI G x=true) :
  Calls Tryz.prog 42 #[v,itV x] w fun e w'=>e=.returned (.tuple #[.int .i64 ((Au.nx G x).getD 0),.bool (Au.nx G x).isSome])/\Below w.heap.size w w':=by
 have hi:=Au.isI_iff.1 hx;have HR:=aA (fun y (h:Below w.heap.size w y)=>zbL v G B x.1 y (hg.below h hB) hf (Am hB h.size) (Au.rOk_iff.2 hi.1));unfold zb2 at HR;have HI:=aA (Au.nx_at (G:=G) (x:=x) hi.2.1);have HO:=aA (fun(h:x.2=(Au.sy G x.1).length)=>show Au.nx G x=none from BD (by omega));obtain⟨AT,cT,AN,cN,AR,cR,rfl,_⟩:=hg;have b:=aA (bK.start 26 60 w #[.slice AT G.ts.length cT,.slice AN G.ns.length cN,.slice AR G.rs.length cR,.int .i64 G.st] #[.int .i64 x.1,.int .i64 x.2]);have g0:=b.o.c1 0 _ rfl;have g1:=b.o.c1 1 _ rfl;have g2:=b.o.c1 2 _ rfl;have g3:=b.o.c1 3 _ rfl;have i0:=b.o.c2 0 _ rfl;have i1:=b.o.c2 1 _ rfl;have h0:=hi.2.1;have h2:=hi.2.2;clear hf hx hi;generalize Au.nx G x=q at *;generalize Au.sy G x.1=L at *
 go_enter Tryz.func42,Tryz.ntmps42
 go_wp2_with fail
 refine(HR.o _ b.o.below).mono ?_;rintro _ w2 ⟨A,c,rfl,hl,hm,aa,hb⟩;have HB:=aA (b.o.on hb);have j1:=HB.o.c2 1 _ rfl;clear hb g0 g1 g2 g3 i0 i1;by_cases h1:x.2=(L.length:Int)
 ·have HQ:=aA (HO.o h1);have he:(x.2==(L.length:Int))=true:=by rw[BI];exact h1
  clear HO HI aa h0 h2 h1;go_wp2
  go_ret2
  exact⟨by rw[HQ.o];rfl,HB.o.below⟩
 ·have HQ:=HI.o (by omega);obtain⟨g,o,rfl,ad,hc⟩:=aa (by omega);obtain⟨k,hk⟩:∃k:Nat,x.2=(k:Int):=⟨x.2.toNat,by omega⟩
  rw[hk]at j1 h0 h1 h2 HQ;have ab:k<L.length:=by omega
  have k0:=hc k ab;rw[show((k:Int)).toNat=k by omega]at HQ;generalize L.getD k 0=z at *;have HQ:=aA HQ;have he:((k:Int)==(L.length:Int))=false:=by rw[AY];exact h1
  clear HO HI hc hk h0 h1 h2;have ac:(k:Int)<(L.length:Int):=by omega
  go_wp2
  go_ret2
  exact⟨by rw[HQ.o];rfl,HB.o.below⟩
theorem zhe (x y:Au.It) (w:World) :
  Calls Tryz.prog 85 #[itV x,itV y] w fun e w'=>e=.returned (.bool (Au.lt x y))/\Below w.heap.size w w':=by
 have d:=aA (bK.start 60 60 w #[.int .i64 x.1,.int .i64 x.2] #[.int .i64 y.1,.int .i64 y.2]);have g0:=d.o.c1 0 _ rfl;have g1:=d.o.c1 1 _ rfl;have i0:=d.o.c2 0 _ rfl;have i1:=d.o.c2 1 _ rfl;obtain⟨b,hb⟩:∃b,b=Au.lt x y:=⟨_,rfl⟩
 rw[<-hb];unfold Au.lt at hb;by_cases h1:x.1<y.1
 ·rw[AL h1,DB]at hb;subst hb
  go_enter Tryz.func85,Tryz.ntmps85
  go_wp2;go_ret
  exact⟨rfl,d.o.below⟩
 ·rw[AO h1,EO]at hb;by_cases h2:x.1=y.1
  ·rw[AL h2,Cg]at hb;have he:(x.1==y.1)=true:=by rw[BI];exact h2
   by_cases h3:x.2<y.2
   ·rw[AL h3]at hb;subst hb;clear h2
    go_enter Tryz.func85,Tryz.ntmps85
    go_wp2;go_ret
    exact⟨rfl,d.o.below⟩
   ·rw[AO h3]at hb;subst hb;clear h2;have HF:=aA (AO h3)
    go_enter Tryz.func85,Tryz.ntmps85
    go_wp2;go_ret
    exact⟨aE (by first|rfl|exact HF.o),d.o.below⟩
  ·rw[AO h2,C5]at hb;have he:(x.1==y.1)=false:=by rw[AY];exact h2
   subst hb;clear h2
   go_enter Tryz.func85,Tryz.ntmps85
   go_wp2;go_ret
   exact⟨rfl,d.o.below⟩
theorem zcN (v:Value) (G:Gm.Gr) (B:Nat) (x:Au.It) (w:World) (hg:aR w B v G) (hf:Gm.Fit G) (hB:B<=w.heap.size) :
  Calls Tryz.prog 41 #[v,itV x] w fun e w'=>e=.returned (.bool (Au.hasB G x))/\Below w.heap.size w w':=by
 have HR:=aA (fun y (h:Below w.heap.size w y)=>zaw v G B y (hg.below h hB) hf (Am hB h.size));have l:=aA (fun(hr:Au.rOk G x.1=true) y (h:Below w.heap.size w y)=>zbL v G B x.1 y (hg.below h hB) hf (Am hB h.size) hr);unfold zb2 at l;have m:=aA (fun(h1:-1<=x.1) (h2:x.1<(G.rs.length:Int))=>Au.rOk_iff.2 (⟨h1,h2⟩:-1<=x.1/\x.1<(G.rs.length:Int)));obtain⟨AT,cT,AN,cN,AR,cR,rfl,_⟩:=hg;obtain⟨bo,i⟩:∃bo,bo=Au.hasB G x:=⟨_,rfl⟩
 rw[<-i];unfold Au.hasB Au.isI at i;obtain⟨wb,k⟩:∃z,z=(w.alloc (.cells #[.slice AT G.ts.length cT,.slice AN G.ns.length cN,.slice AR G.rs.length cR,.int .i64 G.st] 26)).alloc (.cells #[.int .i64 x.1,.int .i64 x.2] 60):=⟨_,rfl⟩
 have HT:Hid (bK 26 60 w #[.slice AT G.ts.length cT,.slice AN G.ns.length cN,.slice AR G.rs.length cR,.int .i64 G.st] #[.int .i64 x.1,.int .i64 x.2] wb):=aA (by rw[k];exact bK.start _ _ _ _ _);have q0:∀z:Calm.On wb.heap.size wb,z.1.cell? ⟨w.heap.size,0,none⟩=some (.slice AT G.ts.length cT):=fun z=>(HT.o.on z.2).c1 0 _ rfl;have q1:∀z:Calm.On wb.heap.size wb,z.1.cell? ⟨w.heap.size,1,none⟩=some (.slice AN G.ns.length cN):=fun z=>(HT.o.on z.2).c1 1 _ rfl;have q2:∀z:Calm.On wb.heap.size wb,z.1.cell? ⟨w.heap.size,2,none⟩=some (.slice AR G.rs.length cR):=fun z=>(HT.o.on z.2).c1 2 _ rfl;have q3:∀z:Calm.On wb.heap.size wb,z.1.cell? ⟨w.heap.size,3,none⟩=some (.int .i64 G.st):=fun z=>(HT.o.on z.2).c1 3 _ rfl;have j0:∀z:Calm.On wb.heap.size wb,z.1.cell? ⟨w.heap.size+1,0,none⟩=some (.int .i64 x.1):=fun z=>(HT.o.on z.2).c2 0 _ rfl;have j1:∀z:Calm.On wb.heap.size wb,z.1.cell? ⟨w.heap.size+1,1,none⟩=some (.int .i64 x.2):=fun z=>(HT.o.on z.2).c2 1 _ rfl;have aa:=zam wb;clear hf hB;cases hr:Gm.right G
 ·rw[hr]at HR i;rw[C5]at i;subst i;clear hr l m
  go_enter Tryz.func41,Tryz.ntmps41
  go_upto_region 1 with fail
  rw[<-k];clear k;refine CalmN.region_tree (fun x=>∃z:Calm.On wb.heap.size wb,x=z.1) (.one [0] 1 (.one [2,3,4,5,6,7,8,9,10,11,12,13,14,15,16,17,18,19,20,21,22,23,24,25] 26 (.fin [27,28,29,30]))) (by kernel_rfl) (by kernel_rfl) (fun _ _ d _ _ h=>by cases d <;> exact h) aa.o ?_;simp only[CalmN.wpT,CalmN.wpSt,CalmN.pickOps,Aw,Ah,Aj];repeat (go_big_quiet_step (fail))
  refine Aq ?_;intro KK b;rw[Az (by rfl)];go_wp2_with fail
  refine(HR.o wb.drew (aB HT.o.below 1)).mono ?_;rintro _ w2 ⟨rfl,f⟩;have f:Below wb.heap.size wb w2:=(aB (AB _ wb) 1).trans f;have g:=zbk f;have j:Hid (Below w.heap.size w w2):=aA (HT.o.below.trans (f.mono HT.o.below.size));clear f;go_wp2_with fail
  refine b _ _ g.o _ (fun _ h=>h) g.o ?_;clear b;repeat (go_big_quiet_step (fail))
  refine Aq ?_;intro KK b;rw[AG (by exact(fun h=>absurd (show false=true from h) (by decide)))];refine b _ _ g.o _ (fun _ h=>h) g.o ?_;clear b;simp only[Act.put,Cw,CJ,CK];repeat (go_big_quiet_step (fail))
  refine Aq ?_;go_wp2;go_ret
  exact⟨rfl,j.o⟩
 ·rw[hr]at HR i;rw[Cg]at i;clear hr;by_cases h1:-1<=x.1
  ·have d1:=AL h1;rw[d1,Cg]at i;by_cases h2:x.1<(G.rs.length:Int)
   ·have d2:=AL h2;rw[d2,Cg]at i;have af:=aA (l.o (m.o h1 h2));clear l m h1 h2;by_cases h3:0<=x.2
    focus
     have d3:=AL h3;rw[d3,Cg]at i;clear h3;generalize Au.sy G x.1=L at *
    rotate_left
    focus
     have d3:=AO h3;rw[d3,C5]at i;subst i;clear h3 af
    rotate_left
    all_goals
     go_enter Tryz.func41,Tryz.ntmps41
     go_upto_region 1 with fail
     rw[<-k];clear k;refine CalmN.region_tree (fun x=>∃z:Calm.On wb.heap.size wb,x=z.1) (.one [0] 1 (.one [2,3,4,5,6,7,8,9,10,11,12,13,14,15,16,17,18,19,20,21,22,23,24,25] 26 (.fin [27,28,29,30]))) (by kernel_rfl) (by kernel_rfl) (fun _ _ d _ _ h=>by cases d <;> exact h) aa.o ?_;simp only[CalmN.wpT,CalmN.wpSt,CalmN.pickOps,Aw,Ah,Aj];repeat (go_big_quiet_step (fail))
     refine Aq ?_;intro KK b;rw[Az (by rfl)];go_wp2_with fail
     refine(HR.o wb.drew (aB HT.o.below 1)).mono ?_;rintro _ w2 ⟨rfl,f⟩;have f:Below wb.heap.size wb w2:=(aB (AB _ wb) 1).trans f;have g:=zbk f;have j:Hid (Below w.heap.size w w2):=aA (HT.o.below.trans (f.mono HT.o.below.size));clear f;go_wp2_with fail
     refine b _ _ g.o _ (fun _ h=>h) g.o ?_;clear b;repeat (go_big_quiet_step (fail))
     refine Aq ?_;intro KK b
    focus
     rw[Az (by rfl)];go_wp2_with fail
     refine(af.o w2 j.o).mono ?_;rintro _ w3 ⟨A,c,rfl,hl,hm,_,ab⟩;have ad:=ab
     have ac:Hid (∃z:Calm.On wb.heap.size wb,w3=z.1):=aA (by
      obtain⟨z,hz⟩:=g.o;refine⟨⟨w3,?_⟩,rfl⟩;have h1:Below wb.heap.size wb w2:=by rw[hz];exact z.2
      exact h1.trans (ab.mono h1.size))
     have ag:=aA (j.o.trans (ab.mono j.o.size));have ah:=aA i;clear ab ad i;generalize L.length=nl at *;by_cases h4:x.2<=(nl:Int)
     ·have ae:=aA (ah.o.trans (AL h4));have d4:=AL h4;clear h4;go_wp2_with fail
      refine b _ _ ac.o _ (fun _ h=>h) ac.o ?_;clear b;repeat (go_big_quiet_step (fail))
      refine Aq ?_;go_wp2;go_ret
      exact⟨aE ae.o.symm,ag.o⟩
     ·have ae:=aA (ah.o.trans (AO h4));have d4:=AO h4;clear h4;go_wp2_with fail
      refine b _ _ ac.o _ (fun _ h=>h) ac.o ?_;clear b;repeat (go_big_quiet_step (fail))
      refine Aq ?_;go_wp2;go_ret
      exact⟨aE ae.o.symm,ag.o⟩
    focus
     rw[AG (by exact(fun h=>absurd (show false=true from h) (by decide)))];refine b _ _ g.o _ (fun _ h=>h) g.o ?_;clear b;simp only[Act.put,Cw,CJ,CK];repeat (go_big_quiet_step (fail))
     refine Aq ?_;go_wp2;go_ret
     exact⟨rfl,j.o⟩
   ·have d2:=AO h2;rw[d2,C5,C5]at i;subst i;clear h1 h2 l m
    go_enter Tryz.func41,Tryz.ntmps41
    go_upto_region 1 with fail
    rw[<-k];clear k;refine CalmN.region_tree (fun x=>∃z:Calm.On wb.heap.size wb,x=z.1) (.one [0] 1 (.one [2,3,4,5,6,7,8,9,10,11,12,13,14,15,16,17,18,19,20,21,22,23,24,25] 26 (.fin [27,28,29,30]))) (by kernel_rfl) (by kernel_rfl) (fun _ _ d _ _ h=>by cases d <;> exact h) aa.o ?_;simp only[CalmN.wpT,CalmN.wpSt,CalmN.pickOps,Aw,Ah,Aj];repeat (go_big_quiet_step (fail))
    refine Aq ?_;intro KK b;rw[Az (by rfl)];go_wp2_with fail
    refine(HR.o wb.drew (aB HT.o.below 1)).mono ?_;rintro _ w2 ⟨rfl,f⟩;have f:Below wb.heap.size wb w2:=(aB (AB _ wb) 1).trans f;have g:=zbk f;have j:Hid (Below w.heap.size w w2):=aA (HT.o.below.trans (f.mono HT.o.below.size));clear f;go_wp2_with fail
    refine b _ _ g.o _ (fun _ h=>h) g.o ?_;clear b;repeat (go_big_quiet_step (fail))
    refine Aq ?_;intro KK b;rw[AG (by exact(fun h=>absurd (show false=true from h) (by decide)))];refine b _ _ g.o _ (fun _ h=>h) g.o ?_;clear b;simp only[Act.put,Cw,CJ,CK];repeat (go_big_quiet_step (fail))
    refine Aq ?_;go_wp2;go_ret
    exact⟨rfl,j.o⟩
  ·have d1:=AO h1;rw[d1,C5,C5,C5]at i;subst i;clear h1 l m
   go_enter Tryz.func41,Tryz.ntmps41
   go_upto_region 1 with fail
   rw[<-k];clear k;refine CalmN.region_tree (fun x=>∃z:Calm.On wb.heap.size wb,x=z.1) (.one [0] 1 (.one [2,3,4,5,6,7,8,9,10,11,12,13,14,15,16,17,18,19,20,21,22,23,24,25] 26 (.fin [27,28,29,30]))) (by kernel_rfl) (by kernel_rfl) (fun _ _ d _ _ h=>by cases d <;> exact h) aa.o ?_;simp only[CalmN.wpT,CalmN.wpSt,CalmN.pickOps,Aw,Ah,Aj];repeat (go_big_quiet_step (fail))
   refine Aq ?_;intro KK b;rw[Az (by rfl)];go_wp2_with fail
   refine(HR.o wb.drew (aB HT.o.below 1)).mono ?_;rintro _ w2 ⟨rfl,f⟩;have f:Below wb.heap.size wb w2:=(aB (AB _ wb) 1).trans f;have g:=zbk f;have j:Hid (Below w.heap.size w w2):=aA (HT.o.below.trans (f.mono HT.o.below.size));clear f;go_wp2_with fail
   refine b _ _ g.o _ (fun _ h=>h) g.o ?_;clear b;repeat (go_big_quiet_step (fail))
   refine Aq ?_;intro KK b;rw[AG (by exact(fun h=>absurd (show false=true from h) (by decide)))];refine b _ _ g.o _ (fun _ h=>h) g.o ?_;clear b;simp only[Act.put,Cw,CJ,CK];repeat (go_big_quiet_step (fail))
   refine Aq ?_;go_wp2;go_ret
   exact⟨rfl,j.o⟩
theorem zeo (v:Value) (G:Gm.Gr) (B:Nat) (x:Au.It) (w:World) (hg:aR w B v G) (hf:Gm.Fit G) (hB:B<=w.heap.size) :
  Calls Tryz.prog 21 #[v,itV x] w fun e w'=>e=.returned (.tuple #[.int .i64 ((Au.nextO G x).getD 0),.bool (Au.nextO G x).isSome])/\Below w.heap.size w w':=by
 have HR:=aA (fun y (h:Below w.heap.size w y)=>zcN v G B x y (hg.below h hB) hf (Am hB h.size));have HA:=aA (fun hx y (h:Below w.heap.size w y)=>zbC v G B x y (hg.below h hB) hf (Am hB h.size) hx);obtain⟨AT,cT,AN,cN,AR,cR,rfl,_⟩:=hg;have d:=aA (bK.start 26 60 w #[.slice AT G.ts.length cT,.slice AN G.ns.length cN,.slice AR G.rs.length cR,.int .i64 G.st] #[.int .i64 x.1,.int .i64 x.2]);have g0:=d.o.c1 0 _ rfl;have g1:=d.o.c1 1 _ rfl;have g2:=d.o.c1 2 _ rfl;have g3:=d.o.c1 3 _ rfl;have i0:=d.o.c2 0 _ rfl;have i1:=d.o.c2 1 _ rfl;clear hf;cases hr:Au.hasB G x
 ·have hq:Au.nextO G x=none:=by
   unfold Au.nextO Au.nxP;unfold Au.hasB at hr;cases h1:Gm.right G
   ·rfl
   ·rw[h1,Cg]at hr;rw[hr];rfl
  rw[hr]at HR;rw[hq];clear hr HA hq
  go_enter Tryz.func21,Tryz.ntmps21
  go_wp2_with fail
  refine(HR.o _ d.o.below).mono ?_;rintro _ w2 ⟨rfl,hb⟩;have HB:=aA (d.o.on hb);clear hb g0 g1 g2 g3 i0 i1;go_wp2
  go_ret2
  exact⟨rfl,HB.o.below⟩
 ·have hx:Au.isI G x=true:=by
   unfold Au.hasB at hr;cases h1:Gm.right G
   ·rw[h1,C5]at hr;cases hr
   ·rw[h1,Cg]at hr;exact hr
  have hq:Au.nextO G x=Au.nx G x:=by
   unfold Au.nextO Au.nxP;unfold Au.hasB at hr;cases h1:Gm.right G
   ·rw[h1,C5]at hr;cases hr
   ·rw[hx];rfl
  have HA:=aA (HA.o hx);rw[hr]at HR;rw[hq];clear hr hq hx;generalize Au.nx G x=b at *
  go_enter Tryz.func21,Tryz.ntmps21
  go_wp2_with fail
  refine(HR.o _ d.o.below).mono ?_;rintro _ w2 ⟨rfl,hb⟩;have HB:=aA (d.o.on hb);have g0:=HB.o.c1 0 _ rfl;have g1:=HB.o.c1 1 _ rfl;have g2:=HB.o.c1 2 _ rfl;have g3:=HB.o.c1 3 _ rfl;have i0:=HB.o.c2 0 _ rfl;have i1:=HB.o.c2 1 _ rfl;clear hb;go_wp2_with fail
  refine(HA.o _ HB.o.below).mono ?_;rintro _ w3 ⟨rfl,hb⟩;have aa:=aA (HB.o.on hb);clear hb g0 g1 g2 g3 i0 i1;go_wp2
  go_ret2
  exact⟨rfl,aa.o.below⟩
theorem zhq {a b c:World} {row aZ:Option Nat} (h:a.grownBy b row) (k:b.grownBy c aZ) (hr:∀j,aZ=some j->row=some j\/a.heap.size<=j):a.grownBy c row :=
 ⟨k.os.trans h.os,k.tape.trans h.tape,k.output.trans h.output,Am h.size k.size,fun i hi aa=>(k.block i (Ag hi h.size) (fun e=>by
  rcases hr i e.symm with q|q
  ·exact aa q.symm
  ·omega)).trans (h.block i hi aa)⟩
theorem zbH (w:World):(sizeOf (Tryz.prog.elem 52)).run Tryz.prog w=.ok 2 w:=by kernel_rfl
theorem zbc:Tryz.prog.underlying 52=some (.slice (Tryz.prog.elem 52)):=by kernel_rfl
theorem zde (w:World) (base:Nat) (v:Value) (xs:List Au.It) (x:Au.It) (ho:aJ 60 2 prF w base v xs) (hB:base<=w.heap.size) (ad:xs.length<=100000) :
  Calls Tryz.prog 59 #[v,itV x] w fun e w'=>∃v',e=.returned v'/\aJ 60 2 prF w' base v' (Au.put xs x)/\w.grownBy w' v.ownBlock:=by
 obtain⟨A,c,rfl,bg,bw,bc⟩:=aJ.form ho aG;have HO:=aA ho;have au:=aA bc;have HB:=aA hB;have ar:=aA bg;have bd:=aA (fun k (e:(Value.slice A xs.length c).ownBlock=some k)=>(Bn ho k e).2);obtain⟨wb,av⟩:∃z,z=w.alloc (.cells #[.int .i64 x.1,.int .i64 x.2] 60):=⟨_,rfl⟩
 have HT:Hid (aY 60 w #[.int .i64 x.1,.int .i64 x.2] wb):=aA (by rw[av];exact aY.start _ _ _);have bx:(xs.length:Int)<=100000:=by omega
 have bh:=aA (fun(a:Au.It) (y:World)=>zhe a x y);clear ho bc hB
 go_enter Tryz.func59,Tryz.ntmps59
 go_upto_region 1 with fail
 rw[<-av];clear av;go_wp2;go_loopw [5] (fun vi wr=>∃k:Nat,k<=xs.length/\vi=.int .i64 k/\Hid (∀j (_:j<k) (h:j<xs.length),Au.lt xs[j] x=true)/\Hid (aY 60 w #[.int .i64 x.1,.int .i64 x.2] wr)) (fun vi _=>xs.length-(intOf vi).toNat)
 case atStart=>exact⟨0,AU _,rfl,aA (fun j h=>absurd h (CQ _)),HT⟩
 case round =>
  obtain⟨k,hk,rfl,HK,HW⟩:=hrel;have i0:∀z:Calm.On wr.heap.size wr,z.1.cell? ⟨w.heap.size,0,none⟩=some (.int .i64 x.1):=fun z=>(HW.o.on z.2).c 0 _ rfl;have i1:∀z:Calm.On wr.heap.size wr,z.1.cell? ⟨w.heap.size,1,none⟩=some (.int .i64 x.2):=fun z=>(HW.o.on z.2).c 1 _ rfl;have U:=zam wr;by_cases F:k<xs.length
  focus
   obtain⟨g,o,rfl,bf,hc⟩:=au.o (by omega);have bi:(k:Int)<(xs.length:Int):=by omega
   have kk0:∀y:World,Below w.heap.size w y->y.cell? ⟨g,o+k*2,none⟩=some (.int .i64 (xs[k]).1):=fun y h=>(h.cell (p:=⟨g,o+k*2,none⟩) bf).trans (hc k F 0 _ rfl);have kk1:∀y:World,Below w.heap.size w y->y.cell? ⟨g,o+k*2+1,none⟩=some (.int .i64 (xs[k]).2):=fun y h=>(h.cell (p:=⟨g,o+k*2+1,none⟩) bf).trans (hc k F 1 _ rfl);have k0:∀z:Calm.On wr.heap.size wr,z.1.cell? ⟨g,o+k*2,none⟩=some (.int .i64 (xs[k]).1):=fun z=>kk0 z.1 (HW.o.on z.2).below;have k1:∀z:Calm.On wr.heap.size wr,z.1.cell? ⟨g,o+k*2+1,none⟩=some (.int .i64 (xs[k]).2):=fun z=>kk1 z.1 (HW.o.on z.2).below;have KK0:=aA kk0;have KK1:=aA kk1
   have aw:Hid (Au.lt xs[k] x=true->∀j (_:j<k+1) (h:j<xs.length),Au.lt xs[j] x=true):=aA (fun h1 j hj h=>by
    rcases Bx j k with h3|h3
    ·exact HK.o j h3 h
    ·obtain rfl:j=k:=by omega
     exact h1)
   have ax:Hid (xs[k]=x->Au.put xs x=xs):=aA (fun e=>Au.put_there F HK.o e);have ay:Hid (Au.lt xs[k] x=false->xs[k]≠x->Au.put xs x=xs.take k++[x]++xs.drop k):=aA (fun e1 e2=>Au.put_here hk HK.o (fun _=>⟨e1,e2⟩));clear hc kk0 kk1;generalize xs[k]=y at *
  rotate_left
  focus
   have V:Hid (Au.put xs x=xs.take k++[x]++xs.drop k):=aA (Au.put_here hk HK.o (fun h=>absurd h F));have bj:¬((k:Int)<(xs.length:Int)):=by omega
   have bk:decide (k<xs.length)=false:=AO F
  rotate_left
  all_goals
   go_wp2_with fail
   refine CalmN.region_tree (fun x=>∃z:Calm.On wr.heap.size wr,x=z.1) (.one [0,1,2,3,4,5,6,7,8,9] 10 (.fin [11])) (by kernel_rfl) (by kernel_rfl) (fun _ _ d _ _ h=>by cases d <;> exact h) U.o ?_;simp only[CalmN.wpT,CalmN.wpSt,CalmN.pickOps,Aw,Ah,Aj];repeat (go_big_quiet_step (fail))
   refine Aq ?_;intro KK i
  focus
   rw[Az (by rfl)];go_wp2_with fail
   refine(bh.o y _).mono ?_;rintro _ w2 ⟨rfl,X⟩;have X:Below wr.heap.size wr w2:=(aB (AB _ wr) 1).trans X;have s:=zbk X;have r:=aA (HW.o.on X);clear X i0 i1 k0 k1;cases hl:Au.lt y x
   ·have HL:=aA hl;clear hl;go_wp2_with fail
    refine i _ _ s.o _ (fun _ h=>h) s.o ?_;clear i;repeat (go_big_quiet_step (fail))
    refine Aq ?_;clear U s;have i0:∀z:Calm.On w2.heap.size w2,z.1.cell? ⟨w.heap.size,0,none⟩=some (.int .i64 x.1):=fun z=>(r.o.on z.2).c 0 _ rfl;have i1:∀z:Calm.On w2.heap.size w2,z.1.cell? ⟨w.heap.size,1,none⟩=some (.int .i64 x.2):=fun z=>(r.o.on z.2).c 1 _ rfl;have k0:∀z:Calm.On w2.heap.size w2,z.1.cell? ⟨g,o+k*2,none⟩=some (.int .i64 y.1):=fun z=>KK0.o z.1 (r.o.on z.2).below;have k1:∀z:Calm.On w2.heap.size w2,z.1.cell? ⟨g,o+k*2+1,none⟩=some (.int .i64 y.2):=fun z=>KK1.o z.1 (r.o.on z.2).below;have s:=zam w2;by_cases he:y=x
    ·subst he;have V:=aA (ax.o rfl);have az:(y.1==y.1)=true:=by simp
     have a0:(y.2==y.2)=true:=by simp
     clear ay aw ax;go_wp2_with fail
     refine CalmN.region_tree (fun x=>∃z:Calm.On w2.heap.size w2,x=z.1) (.fin [0,1,2,3,4,5,6,7,8,9,10,11]) (by kernel_rfl) (by kernel_rfl) (fun _ _ d _ _ h=>by cases d <;> exact h) s.o ?_;simp only[CalmN.wpT,CalmN.pickOps,Aw,Ah,Aj];repeat (go_big_quiet_step (fail))
     refine Aq ?_;have bl:=aA ((HO.o.below r.o.below (Af _)).drewN 1);have bm:Hid (w.grownBy w2.drew (Value.slice (some ⟨g,o,none⟩) xs.length c).ownBlock):=aA (zba (aL r.o.below _) 1);clear i0 i1 k0 k1;go_wp2;go_ret
     exact⟨_,rfl,by rw[V.o];exact bl.o,bm.o⟩
    ·have V:=aA (ay.o HL.o he)
     have bo:(∃b,((y.1==x.1)=false/\(y.2==x.2)=b))\/((y.1==x.1)=true/\(y.2==x.2)=false):=by
      by_cases e1:y.1=x.1
      ·refine .inr ⟨by rw[BI];exact e1,?_⟩;rw[AY];exact fun e2=>he (Ef e1 e2)
      ·exact .inl ⟨_,by rw[AY];exact e1,rfl⟩
     clear ay aw ax he;rcases bo with⟨b,az,a0⟩|⟨az,a0⟩
     all_goals
      go_wp2_with fail
      refine CalmN.region_tree (fun x=>∃z:Calm.On w2.heap.size w2,x=z.1) (.fin [0,1,2,3,4,5,6,7,8,9,10,11]) (by kernel_rfl) (by kernel_rfl) (fun _ _ d _ _ h=>by cases d <;> exact h) s.o ?_;simp only[CalmN.wpT,CalmN.pickOps,Aw,Ah,Aj];repeat (go_big_quiet_step (fail))
      refine Aq ?_;have D:Hid (aY 60 w #[.int .i64 x.1,.int .i64 x.2] w2.drew):=aA (r.o.drewN 1);clear i0 i1 k0 k1 s r az a0 KK0 KK1;generalize w2.drew=w3 at *;generalize Z:(some (⟨g,o,none⟩:Addr))=AA at *;have a1:=aA Z;clear Z;have bp:Hid (k<=xs.length):=aA hk;have a2:=aA ((au.o.dropQ ar.o k).below D.o.below (Af _));have ae:=zaS w3 52 zbc zbH AA c xs.length k hk;have bq:=aA (D.o.alloc (.cells #[] 60));have ae:=zaS (w3.alloc (.cells #[] 60)) 52 zbc zbH AA c xs.length k hk;have af:=aA (zcR (m:=2) (f:=prF) (T:=60) w3);have H:Hid (w.heap.size+1<=w3.heap.size):=aA D.o.size;have a3:=aA (a2.o.alloc (by have:=H.o;omega) (.cells #[] 60));have I:Hid ((xs.drop k).length=xs.length-k):=aA Bl;have J:Hid (xs.length<=100000):=aA ad;go_wp2_with (at_builtin;refine zfz (f:=prF) rfl (.tmp 34) (.tmp 37) _ rfl Tryz.underlying52 _ 16 zbu (by decide) (by decide) (by decide) aG zaG w3.heap.size _ [] rfl af.o w.heap.size (xs.length-k) (c-k) _ (xs.drop k) rfl I.o.symm a3.o (by have:=J.o;rw[I.o];simp;omega) (by simp) ?_;intro v6 w6 t ag)
      rw[C7]at t;obtain⟨A6,c6,rfl,_,_,aa⟩:=aJ.form t aG;have ah:Hid (Below w3.heap.size w3 w6):=aA (((AB w3.heap.size w3).alloc (Af _) _).grown ag (by simp) (fun k e=>(Bn af.o k e).1));have u:=aA (D.o.on ah.o);have br:=aA t;have M:=aA ((aJ.rowP t));have x0:w6.drew.cell? ⟨w.heap.size,0,none⟩=some (.int .i64 x.1):=u.o.c 0 _ rfl;have x1:w6.drew.cell? ⟨w.heap.size,1,none⟩=some (.int .i64 x.2):=u.o.c 1 _ rfl;have N:=aA (aJ.take (HO.o.below u.o.below (Af _)) aG k hk);have bs:=fun w=>zb8 w 52 zbc zbH AA c xs.length k (Am hk ar.o);have ai:Hid ((xs.take k).length=k):=aA (by rw[Bb];omega);clear t ag aa ae;go_upto_region 7 with fail
      refine CalmN.region_tree (fun x=>∃z:OnP [] w6,x=z.1) (.one [0,1,2,6] 3 (.one [] 4 (.one [] 5 (.one [] 7 (.fin [8]))))) (by kernel_rfl) (by kernel_rfl) (fun _ _ d _ _ h=>by cases d <;> exact h) ⟨⟨w6.drew,fun _ h=>by cases h⟩,rfl⟩ ?_;simp only[CalmN.wpT,CalmN.wpSt,CalmN.pickOps,Aw,Ah,Aj];repeat (go_big_quiet_step (fail))
      refine Aq ?_;have l:Hid (∀y:World,∃z:OnP [] w6,y=z.1):=aA (fun y=>⟨⟨y,fun _ h=>by cases h⟩,rfl⟩);have bu:=aA (u.o.drewN 1);have N:Hid (aJ 60 2 prF w6.drew base (.slice AA k c) (xs.take k)):=N;have M:Hid (bJ 60 w6.drew w3.heap.size w6.drew.heap.size A6 (xs.drop k)):=M;have aj:Hid (w.grownBy w6.drew (Value.slice AA xs.length c).ownBlock):=aA (zba (aL u.o.below _) 1);have a4:Hid (w3.heap.size<=w6.drew.heap.size):=aA ah.o.size;generalize w6.drew=w7 at *;have E:Hid (Below w7.heap.size w7 (w7.alloc (.cells #[.int .i64 x.1,.int .i64 x.2] 60))):=aA ((AB _ _).alloc (Af _) _);intro KK i;rw[Az (by rfl)];go_wp2_with fail
      refine i _ _ (l.o _) _ (fun _ h=>h) (l.o _) ?_;clear i;refine Aq ?_;intro KK i;rw[Az (by rfl)];go_wp2_with fail
      refine i _ _ (l.o _) _ (fun _ h=>h) (l.o _) ?_;clear i;refine Aq ?_;intro KK i;rw[Az (by rfl)];have B:=AE w7 (.cells #[.int .i64 x.1,.int .i64 x.2] 60);have ak:(Value.slice AA k c).ownBlock=(Value.slice AA xs.length c).ownBlock:=by cases AA <;> rfl
      refine zfB (f:=prF) (.tmp 41) (.tmp 43) _ rfl Tryz.underlying52 _ 16 zbu (by decide) (by decide) (by decide) aG zaG base (.slice AA k c) (xs.take k) rfl (N.o.alloc _) _ _ x rfl (zbs x _ _ B) (by have:=J.o;rw[ai.o];omega) (Am HB.o (Am aj.o.size E.o.size)) ?_;intro v8 w8 al C n;rw[ak]at C n;have O:=E.o.size;have am:Hid (w.grownBy w8 (Value.slice AA xs.length c).ownBlock):=aA (zab (zab aj.o (aL E.o _)) C);have a5:=aA al
      have ab:Hid (RdQ 2 prF w8 w8.heap.size A6 (xs.drop k)):=aA (((M.o.keepLo fun g cur bv ao hc=>by
       refine(C.block g (Ag ao O) (fun e=>?_)).trans ((E.o.block g ao).trans hc)
       have:=bd.o g e.symm
       have:=H.o
       omega).rd).more (Am O C.size))
      have ac:Hid (∀j,v8.ownBlock=some j->(Value.slice AA xs.length c).ownBlock=some j\/w.heap.size<=j):=aA (fun j e=>by
       rcases n with q|q
       ·exact .inl (q.symm.trans e)
       ·rw[q]at e;injection e with e;exact .inr (by have:=a4.o;have:=H.o;omega))
      have a6:Hid ((xs.take k++[x]).length+(xs.drop k).length<=1000000):=aA (by have:=J.o;rw[AQ,ai.o,I.o,BB];omega);have a9:Hid (base<=w8.heap.size):=aA (Am HB.o am.o.size);clear al C n ak O B x0 x1;refine i _ _ (l.o _) _ (fun _ h=>h) (l.o _) ?_;clear i
      go_frame
      repeat (go_big_quiet_step (fail))
      refine Aq ?_;intro KK i;rw[Az (by rfl)];refine zim (f:=prF) (.tmp 44) (.tmp 45) _ rfl Tryz.underlying52 _ 16 zbu (by decide) (by decide) (by decide) aG zaG base v8 (xs.take k++[x]) rfl a5.o w8.heap.size (xs.drop k).length c6 A6 (xs.drop k) rfl rfl ab.o a6.o a9.o ?_;intro v9 w9 ap aq;have ba:=aA ap;have bb:=aA (zhq am.o aq ac.o);clear ap aq;refine i _ _ (l.o _) _ (fun _ h=>h) (l.o _) ?_;clear i
      go_frame
      repeat (go_big_quiet_step (fail))
      refine Aq ?_;go_wp2;go_ret
      exact⟨_,rfl,by rw[V.o];exact ba.o,by rw[a1.o];exact bb.o⟩
   ·have HN:=aA (aw.o hl);go_wp2_with fail
    refine i _ _ s.o _ (fun _ h=>h) s.o ?_;clear i;repeat (go_big_quiet_step (fail))
    refine Aq ?_;go_wp2;go_roundw
    case rel=>exact⟨k+1,F,by go_num,HN,r⟩
    case measure=>simp[intOf];omega
  focus
   rw[AG (by exact(fun h=>absurd (show false=true from h) (by decide)))];refine i _ _ U.o _ (fun _ h=>h) U.o ?_;clear i;simp only[Act.put,Cw,CJ,CK];repeat (go_big_quiet_step (fail))
   refine Aq ?_;have r:Hid (aY 60 w #[.int .i64 x.1,.int .i64 x.2] wr.drew):=aA (HW.o.drewN 1);clear i0 i1 U;generalize wr.drew=w2 at *;have i0:∀z:Calm.On w2.heap.size w2,z.1.cell? ⟨w.heap.size,0,none⟩=some (.int .i64 x.1):=fun z=>(r.o.on z.2).c 0 _ rfl;have i1:∀z:Calm.On w2.heap.size w2,z.1.cell? ⟨w.heap.size,1,none⟩=some (.int .i64 x.2):=fun z=>(r.o.on z.2).c 1 _ rfl;have s:=zam w2;go_wp2_with fail
   refine CalmN.region_tree (fun x=>∃z:Calm.On w2.heap.size w2,x=z.1) (.fin [0,1,2,3,4,5,6,7,8,9,10,11]) (by kernel_rfl) (by kernel_rfl) (fun _ _ d _ _ h=>by cases d <;> exact h) s.o ?_;simp only[CalmN.wpT,CalmN.pickOps,Aw,Ah,Aj];repeat (go_big_quiet_step (fail))
   refine Aq ?_;have D:Hid (aY 60 w #[.int .i64 x.1,.int .i64 x.2] w2.drew):=aA (r.o.drewN 1);clear i0 i1 s r bj bk F;generalize w2.drew=w3 at *;generalize Z:A=AA at *;have a1:=aA Z;clear Z;have bp:Hid (k<=xs.length):=aA hk;have a2:=aA ((au.o.dropQ ar.o k).below D.o.below (Af _));have ae:=zaS w3 52 zbc zbH AA c xs.length k hk;have bq:=aA (D.o.alloc (.cells #[] 60));have ae:=zaS (w3.alloc (.cells #[] 60)) 52 zbc zbH AA c xs.length k hk;have af:=aA (zcR (m:=2) (f:=prF) (T:=60) w3);have H:Hid (w.heap.size+1<=w3.heap.size):=aA D.o.size;have a3:=aA (a2.o.alloc (by have:=H.o;omega) (.cells #[] 60));have I:Hid ((xs.drop k).length=xs.length-k):=aA Bl;have J:Hid (xs.length<=100000):=aA ad;go_wp2_with (at_builtin;refine zfz (f:=prF) rfl (.tmp 34) (.tmp 37) _ rfl Tryz.underlying52 _ 16 zbu (by decide) (by decide) (by decide) aG zaG w3.heap.size _ [] rfl af.o w.heap.size (xs.length-k) (c-k) _ (xs.drop k) rfl I.o.symm a3.o (by have:=J.o;rw[I.o];simp;omega) (by simp) ?_;intro v6 w6 t ag)
   rw[C7]at t;obtain⟨A6,c6,rfl,_,_,aa⟩:=aJ.form t aG;have ah:Hid (Below w3.heap.size w3 w6):=aA (((AB w3.heap.size w3).alloc (Af _) _).grown ag (by simp) (fun k e=>(Bn af.o k e).1));have u:=aA (D.o.on ah.o);have br:=aA t;have M:=aA ((aJ.rowP t));have x0:w6.drew.cell? ⟨w.heap.size,0,none⟩=some (.int .i64 x.1):=u.o.c 0 _ rfl;have x1:w6.drew.cell? ⟨w.heap.size,1,none⟩=some (.int .i64 x.2):=u.o.c 1 _ rfl;have N:=aA (aJ.take (HO.o.below u.o.below (Af _)) aG k hk);have bs:=fun w=>zb8 w 52 zbc zbH AA c xs.length k (Am hk ar.o);have ai:Hid ((xs.take k).length=k):=aA (by rw[Bb];omega);clear t ag aa ae;go_upto_region 7 with fail
   refine CalmN.region_tree (fun x=>∃z:OnP [] w6,x=z.1) (.one [0,1,2,6] 3 (.one [] 4 (.one [] 5 (.one [] 7 (.fin [8]))))) (by kernel_rfl) (by kernel_rfl) (fun _ _ d _ _ h=>by cases d <;> exact h) ⟨⟨w6.drew,fun _ h=>by cases h⟩,rfl⟩ ?_;simp only[CalmN.wpT,CalmN.wpSt,CalmN.pickOps,Aw,Ah,Aj];repeat (go_big_quiet_step (fail))
   refine Aq ?_;have l:Hid (∀y:World,∃z:OnP [] w6,y=z.1):=aA (fun y=>⟨⟨y,fun _ h=>by cases h⟩,rfl⟩);have bu:=aA (u.o.drewN 1);have N:Hid (aJ 60 2 prF w6.drew base (.slice AA k c) (xs.take k)):=N;have M:Hid (bJ 60 w6.drew w3.heap.size w6.drew.heap.size A6 (xs.drop k)):=M;have aj:Hid (w.grownBy w6.drew (Value.slice AA xs.length c).ownBlock):=aA (zba (aL u.o.below _) 1);have a4:Hid (w3.heap.size<=w6.drew.heap.size):=aA ah.o.size;generalize w6.drew=w7 at *;have E:Hid (Below w7.heap.size w7 (w7.alloc (.cells #[.int .i64 x.1,.int .i64 x.2] 60))):=aA ((AB _ _).alloc (Af _) _);intro KK i;rw[Az (by rfl)];go_wp2_with fail
   refine i _ _ (l.o _) _ (fun _ h=>h) (l.o _) ?_;clear i;refine Aq ?_;intro KK i;rw[Az (by rfl)];go_wp2_with fail
   refine i _ _ (l.o _) _ (fun _ h=>h) (l.o _) ?_;clear i;refine Aq ?_;intro KK i;rw[Az (by rfl)];have B:=AE w7 (.cells #[.int .i64 x.1,.int .i64 x.2] 60);have ak:(Value.slice AA k c).ownBlock=(Value.slice AA xs.length c).ownBlock:=by cases AA <;> rfl
   refine zfB (f:=prF) (.tmp 41) (.tmp 43) _ rfl Tryz.underlying52 _ 16 zbu (by decide) (by decide) (by decide) aG zaG base (.slice AA k c) (xs.take k) rfl (N.o.alloc _) _ _ x rfl (zbs x _ _ B) (by have:=J.o;rw[ai.o];omega) (Am HB.o (Am aj.o.size E.o.size)) ?_;intro v8 w8 al C n;rw[ak]at C n;have O:=E.o.size;have am:Hid (w.grownBy w8 (Value.slice AA xs.length c).ownBlock):=aA (zab (zab aj.o (aL E.o _)) C);have a5:=aA al
   have ab:Hid (RdQ 2 prF w8 w8.heap.size A6 (xs.drop k)):=aA (((M.o.keepLo fun g cur bv ao hc=>by
    refine(C.block g (Ag ao O) (fun e=>?_)).trans ((E.o.block g ao).trans hc)
    have:=bd.o g e.symm
    have:=H.o
    omega).rd).more (Am O C.size))
   have ac:Hid (∀j,v8.ownBlock=some j->(Value.slice AA xs.length c).ownBlock=some j\/w.heap.size<=j):=aA (fun j e=>by
    rcases n with q|q
    ·exact .inl (q.symm.trans e)
    ·rw[q]at e;injection e with e;exact .inr (by have:=a4.o;have:=H.o;omega))
   have a6:Hid ((xs.take k++[x]).length+(xs.drop k).length<=1000000):=aA (by have:=J.o;rw[AQ,ai.o,I.o,BB];omega);have a9:Hid (base<=w8.heap.size):=aA (Am HB.o am.o.size);clear al C n ak O B x0 x1;refine i _ _ (l.o _) _ (fun _ h=>h) (l.o _) ?_;clear i
   go_frame
   repeat (go_big_quiet_step (fail))
   refine Aq ?_;intro KK i;rw[Az (by rfl)];refine zim (f:=prF) (.tmp 44) (.tmp 45) _ rfl Tryz.underlying52 _ 16 zbu (by decide) (by decide) (by decide) aG zaG base v8 (xs.take k++[x]) rfl a5.o w8.heap.size (xs.drop k).length c6 A6 (xs.drop k) rfl rfl ab.o a6.o a9.o ?_;intro v9 w9 ap aq;have ba:=aA ap;have bb:=aA (zhq am.o aq ac.o);clear ap aq;refine i _ _ (l.o _) _ (fun _ h=>h) (l.o _) ?_;clear i
   go_frame
   repeat (go_big_quiet_step (fail))
   refine Aq ?_;go_wp2;go_ret
   exact⟨_,rfl,by rw[V.o];exact ba.o,by rw[a1.o];exact bb.o⟩
namespace Au
theorem ze3:∀ {zs out:List It},out.length<=(puts out zs).length
 | [],_=>Af _
 | z::zs,out=>by
  have h:out.length<=(put out z).length:=by
   by_cases hz:z∈out
   ·induction out with
    | nil=>simp
    | cons y l ih =>
     rw[put];split
     ·rw[Bv,Bv];by_cases hl:z∈l
      ·have:=ih hl;omega
      ·have:=zdg hl;omega
     ·split <;> simp
   ·have:=zdg hz;omega
  exact Am h (ze3 (zs:=zs) (out:=put out z))
theorem puts_same:∀ {zs out:List It},Srt out->(puts out zs).length<=out.length->puts out zs=out/\∀z∈zs,z∈out
 | [],_,_,_=>⟨rfl,fun _ h=>by cases h⟩
 | z::zs,out,hs,h=>by
  have e:puts out (z::zs)=puts (put out z) zs:=rfl;rw[e]at h ⊢;have h1:=ze3 (zs:=zs) (out:=put out z);have hz:z∈out:=ziQ (by omega);rw[zjL hs hz]at h ⊢;obtain⟨h2,h3⟩:=puts_same hs h;refine⟨h2,fun y hy=>?_⟩;rcases Br.1 hy with rfl|hy
  ·exact hz
  ·exact h3 y hy
theorem CInv.putsE {l out:List It} (k:CInv G l out) {x:It} (hx:x∈out):CInv G l (puts out (addE G x)) :=
 ⟨zbT k.s,fun y hy=>zaF.2 (.inl (k.h y hy)),fun y hy=>(zaF.1 hy).elim (k.c y) fun h=>by
  obtain⟨s,hs,h0,j,hj,hl,rfl⟩:=zbf.1 h;exact .on x (k.c x hx) s hs h0 j hj hl⟩
def ClTo (G:Gm.Gr) (out:List It) (i:Nat):Prop:=∀j (h:j<out.length),j<i->∀z∈addE G out[j],z∈out
theorem ClTo.zero (G:Gm.Gr) (out:List It):ClTo G out 0:=fun _ _ h=>absurd h (CQ _)
theorem ClTo.next {out:List It} (h:ClTo G out i) (hi:i<out.length) (hz:∀z∈addE G out[i],z∈out):ClTo G out (i+1):=fun j hj ab z aa=>by
 rcases Bx j i with h1|h1
 ·exact h j hj h1 z aa
 ·obtain rfl:j=i:=by omega
  exact hz z aa
theorem CInv.end_ {l out:List It} (hl:∀x∈l,isI G x=true) (k:CInv G l out) (h:ClTo G out out.length):out=clo G l :=
 k.done hl fun x hx s hs h0 j hj he=>by
  obtain⟨q,hq,rfl⟩:=Bz hx;exact h q hq hq _ (zbf.2 ⟨s,hs,h0,j,hj,he,rfl⟩)
theorem puts_up:∀ {zs out:List It},(puts out zs).length<=out.length+zs.length
 | [],_=>Af _
 | z::zs,out=>by
  have h1:=zlJ out z;have h2:=puts_up (zs:=zs) (out:=put out z);have e:puts out (z::zs)=puts (put out z) zs:=rfl;rw[e,Bv];omega
end Au
def zcI:Value->Nat
 | .slice _ n _=>n
 | _=>0
theorem zcO (v:Value) (G:Gm.Gr) (B:Nat) (l:List Au.It) (A:Option Addr) (c BL:Nat) (w:World) (hg:aR w B v G) (hf:Gm.Fit G) (ag:Gm.Ok G) (hB:B<=w.heap.size) (hl:RdQ 2 prF w BL A l) (ap:BL<=w.heap.size) (hi:∀x∈l,Au.isI G x=true) (a1:l.length<=1000) :
  Calls Tryz.prog 37 #[v,.slice A l.length c] w fun e w'=>∃v',e=.returned v'/\aJ 60 2 prF w' w.heap.size v' (Au.clo G l)/\Below w.heap.size w w':=by
 have HG:=aA hg;have HF:=aA hf;have m:=aA ag;have ah:=aA hB;have HL:=aA hl;have a2:=aA ap;have aa:=aA hi;obtain⟨AT,cT,AN,cN,AR,cR,rfl,_,_,⟨bq,br⟩,_,_,hR⟩:=hg;have HR:=aA hR;have ab:=aA (aY.start 26 w #[.slice AT G.ts.length cT,.slice AN G.ns.length cN,.slice AR G.rs.length cR,.int .i64 G.st]);have bs:(l.length:Int)<=1000:=by omega
 have bu:(G.rs.length:Int)<=40:=by have:=ag.r40;omega
 clear hf ag hB hl ap hi hR
 go_enter Tryz.func37,Tryz.ntmps37
 go_wp2;go_loopw [5,6] (fun vo vi wr=>∃i:Nat,i<=l.length/\vi=.int .i64 i/\Hid (aJ 60 2 prF wr (w.heap.size+1) vo (Au.puts [] (l.take i)))/\Hid (aY 26 w #[.slice AT G.ts.length cT,.slice AN G.ns.length cN,.slice AR G.rs.length cR,.int .i64 G.st] wr)) (fun _ vi _=>l.length-(intOf vi).toNat)
 case atStart=>exact⟨0,AU _,rfl,aA (aJ.nil _ _),ab⟩
 case round =>
  obtain⟨i,hi,rfl,HO,HW⟩:=hrel;obtain⟨Ao,co,rfl,_,_,_⟩:=aJ.form HO.o aG;by_cases hlt:i<l.length
  ·obtain⟨g,o,rfl,ac,hc⟩:=HL.o (by omega);have aq:g<w.heap.size:=Ag ac a2.o;have k0:wr.cell? ⟨g,o+i*2,none⟩=some (.int .i64 (l[i]).1):=(HW.o.below.cell (p:=⟨g,o+i*2,none⟩) aq).trans (hc i hlt 0 _ rfl);have k1:wr.cell? ⟨g,o+i*2+1,none⟩=some (.int .i64 (l[i]).2):=(HW.o.below.cell (p:=⟨g,o+i*2+1,none⟩) aq).trans (hc i hlt 1 _ rfl);have a3:Hid (Au.puts [] (l.take (i+1))=Au.put (Au.puts [] (l.take i)) l[i]):=aA (by rw[AI hlt,Au.puts_snoc]);have ad:=aA (zde wr (w.heap.size+1) _ _ l[i] HO.o HW.o.size (by have:=Au.puts_up (zs:=l.take i) (out:=[]);rw[Bb]at this;simp only[Ee]at this;omega));have ai:=aA (fun k e=>(Bn HO.o k e).1);clear hc;generalize l[i]=x at *;generalize (Au.puts [] (l.take i)).length=n at *;go_wp2_with fail
   refine ad.o.mono ?_;rintro _ w2 ⟨v2,rfl,aj,ar⟩;have C:=aA aj;have D:Hid (aY 26 w #[.slice AT G.ts.length cT,.slice AN G.ns.length cN,.slice AR G.rs.length cR,.int .i64 G.st] w2):=aA (DM HW.o ar HW.o.size (fun k e=>ai.o k e));obtain⟨A2,c2,rfl,_,_,_⟩:=aJ.form aj aG;clear aj ar k0 k1;go_wp2;go_roundw
   case rel=>exact⟨i+1,hlt,by go_num,aA (by rw[a3.o];exact C.o),D⟩
   case measure=>simp[intOf];omega
  ·obtain rfl:i=l.length:=by omega
   generalize (Au.puts [] (l.take l.length)).length=n0 at *;rw[Bk]at HO;have HC:=aA (Au.CInv.start (G:=G) l);generalize Au.puts [] l=out0 at *;obtain⟨wo,a4⟩:∃wo:World,wo=wr:=⟨_,rfl⟩
   subst a4;go_wp2;go_loopw [5,7] (fun vo vi wr=>∃(i:Nat) (out:List Au.It),i<=out.length/\vi=.int .i64 i/\zcI vo=out.length/\Hid (Au.CInv G l out)/\Hid (Au.ClTo G out i)/\Hid (aJ 60 2 prF wr (w.heap.size+1) vo out)/\Hid (aY 26 w #[.slice AT G.ts.length cT,.slice AN G.ns.length cN,.slice AR G.rs.length cR,.int .i64 G.st] wr)) (fun vo vi _=>(288-zcI vo)*400+(399-(intOf vi).toNat))
   case atStart =>
    obtain⟨A3,c3,e,_⟩:=aJ.form HO.o aG;exact⟨0,out0,AU _,rfl,by rw[e];rfl,HC,aA (Au.ClTo.zero _ _),HO,HW⟩
   case round =>
    obtain⟨i,out,hi,rfl,a5,HC,au,HO,HW⟩:=hrel;have a6:out.length<=287:=Am (HC.o.le aa.o) (Au.allI_le m.o m.o.r40);obtain⟨Ao,co,rfl,_,_,_⟩:=aJ.form HO.o aG;have a9:(out.length:Int)<=287:=by omega
    clear a5;by_cases hlt:i<out.length
    ·obtain⟨g,c1,he,bv,bw,_⟩:=aJ.addr HO.o (by omega);injection he with ba bb bc;subst ba;clear bb bc;have k0:wr.cell? ⟨g,i*2,none⟩=some (.int .i64 (out[i]).1):=aJ.cellAt HO.o aG i 0 hlt _ rfl;have k1:wr.cell? ⟨g,i*2+1,none⟩=some (.int .i64 (out[i]).2):=aJ.cellAt HO.o aG i 1 hlt _ rfl;have ak:=aJ.lt HO.o;have bd:(i:Int)<(out.length:Int):=by omega
     have av:Hid (Au.isI G out[i]=true):=aA (HC.o.is aa.o _ (AC hlt));have bf:Hid (out[i]∈out):=aA (AC hlt);have ae:=aA (fun(y:World) (h:Below wr.heap.size wr y)=>zbC _ G B out[i] y (HG.o.below (HW.o.below.trans (h.mono (Am (Eu _ 1) HW.o.size))) ah.o) HF.o (Am ah.o (Am (Am (Eu _ 1) HW.o.size) h.size)) av.o);have af:=aA (fun(h:∀z∈Au.addE G out[i],z∈out)=>au.o.next hlt h)
     have bg:Hid (∀s,Au.nx G out[i]=some s->-1000<=s/\s<=1000):=aA (fun s hs=>by
      have h1:=Gm.has_iff.1 (Au.syms_mem.1 (Au.nx_in m.o av.o hs));have h2:=(Gm.nons_iff G).1 m.o.n;have h3:=(Gm.terms_iff G.ts).1 m.o.t
      omega)
     generalize out[i]=x at *;go_upto_region 9 with fail
     have z0:∀z:Calm.On wr.heap.size wr,z.1.cell? ⟨w.heap.size,0,none⟩=some (.slice AT G.ts.length cT):=fun z=>(HW.o.on z.2).c 0 _ rfl;have z1:∀z:Calm.On wr.heap.size wr,z.1.cell? ⟨w.heap.size,1,none⟩=some (.slice AN G.ns.length cN):=fun z=>(HW.o.on z.2).c 1 _ rfl;have z2:∀z:Calm.On wr.heap.size wr,z.1.cell? ⟨w.heap.size,2,none⟩=some (.slice AR G.rs.length cR):=fun z=>(HW.o.on z.2).c 2 _ rfl;have z3:∀z:Calm.On wr.heap.size wr,z.1.cell? ⟨w.heap.size,3,none⟩=some (.int .i64 G.st):=fun z=>(HW.o.on z.2).c 3 _ rfl;have q0:∀z:Calm.On wr.heap.size wr,z.1.cell? ⟨g,i*2,none⟩=some (.int .i64 x.1):=fun z=>(z.2.cell (p:=⟨g,i*2,none⟩) ak).trans k0;have q1:∀z:Calm.On wr.heap.size wr,z.1.cell? ⟨g,i*2+1,none⟩=some (.int .i64 x.2):=fun z=>(z.2.cell (p:=⟨g,i*2+1,none⟩) ak).trans k1;have ab:=zam wr;clear k0 k1;refine CalmN.region_tree (fun x=>∃z:Calm.On wr.heap.size wr,x=z.1) (.one [0,1,2,3,4] 5 (.fin [6,7,8,9,10])) (by kernel_rfl) (by kernel_rfl) (fun _ _ d _ _ h=>by cases d <;> exact h) ab.o ?_;simp only[CalmN.wpT,CalmN.wpSt,CalmN.pickOps,Aw,Ah,Aj];repeat (go_big_quiet_step (fail))
     refine Aq ?_;intro KK q;rw[Az (by rfl)];go_wp2_with fail
     refine(ae.o wr.drew (aB (AB _ _) 1)).mono ?_;rintro _ w2 ⟨rfl,r⟩;have r:Below wr.heap.size wr w2:=(aB (AB _ wr) 1).trans r;have u:=zbk r;have D:=aA (HW.o.on r);have C:=aA (HO.o.below r (Af _));clear r z0 z1 z2 z3 q0 q1 ak ae ab;cases hq:Au.nx G x with
     | none =>
      have hE:=Au.addE_no (G:=G) (x:=x) (fun s hs=>by rw[hq]at hs;cases hs);have f:=aA (af.o (by rw[hE];intro z hz;cases hz));clear hE hq;go_wp2_with fail
      refine q _ _ u.o _ (fun _ h=>h) u.o ?_;clear q;repeat (go_big_quiet_step (fail))
      refine Aq ?_;go_wp2;go_loopw [5,11] (fun vo vk wy=>vo=.slice (some ⟨g,0,none⟩) out.length co/\vk=.int .i64 0/\wy=w2) (fun _ _ _=>0)
      case atStart=>exact⟨rfl,rfl,by trivial⟩
      case round =>
       obtain⟨rfl,rfl,rfl⟩:=hrel;go_wp2;go_roundw
       case rel=>exact⟨i+1,out,hlt,by go_num,rfl,HC,f,C,D⟩
       case measure=>simp[intOf,zcI];omega
     | some s =>
      have aw:=bg.o s hq;by_cases h0:s<0
      ·have hE:=Au.addE_beg hq h0;have bx:IntKind.i64.wrap (-1-s) = -1-s:=B5 _ (by omega);have al:=aA (HC.o.putsE bf.o);have ax:=aA (fun h=>Au.puts_same (zs:=Au.addE G x) HC.o.s h);rw[hE]at al ax af;have bz:Hid (Au.puts out (Au.begT G (-1-s) 0)=out):=aA rfl
       have bh:Hid (∀k,(Au.puts out (Au.begT G (-1-s) k)).length<=287+k):=aA (fun k=>by
        have h1:=Au.puts_up (zs:=Au.begT G (-1-s) k) (out:=out);have h2:=Au.begT_len G (-1-s) k
        omega)
       have ay:=aA hi;have bD:=aA a6;clear hE hq aw;go_wp2_with fail
       refine q _ _ u.o _ (fun _ h=>h) u.o ?_;clear q;repeat (go_big_quiet_step (fail))
       refine Aq ?_;go_wp2;go_loopw [5,11] (fun vo vk wy=>∃k:Nat,k<=G.rs.length/\vk=.int .i64 k/\Hid (aJ 60 2 prF wy (w.heap.size+1) vo (Au.puts out (Au.begT G (-1-s) k)))/\Hid (aY 26 w #[.slice AT G.ts.length cT,.slice AN G.ns.length cN,.slice AR G.rs.length cR,.int .i64 G.st] wy)) (fun _ vk _=>G.rs.length-(intOf vk).toNat)
       case atStart=>exact⟨0,AU _,rfl,C,D⟩
       case round =>
        obtain⟨k,hk,rfl,b,j⟩:=hrel;rename World=>wy;obtain⟨Ak,ck,rfl,_,_,_⟩:=aJ.form b.o aG;have r2:=j.o.c 2 _ rfl;by_cases E:k<G.rs.length
        ·obtain⟨gr,or,rfl,ac,hc⟩:=HR.o (by omega);have k0:=(j.o.below.cell (p:=⟨gr,or+k*3,none⟩) (Ag ac ah.o)).trans (hc k E).1;have hY:=Au.begT_yes (left:=-1-s) E;have hN:=Au.begT_no (left:=-1-s) E;have bi:(k:Int)<(G.rs.length:Int):=by omega
         have ad:=aA (zde wy (w.heap.size+1) _ _ ((k:Int),0) b.o j.o.size (by have:=bh.o k;omega));have ai:=aA (fun k e=>(Bn b.o k e).1);clear hc ac;generalize (G.rs[k]).l=lf at *;generalize (Au.puts out (Au.begT G (-1-s) k)).length=nk at *;by_cases he:lf = -1-s
         ·have bj:=aA (hY he);have hq:(lf == -1-s)=true:=by rw[BI];exact he
          clear hY hN he;go_wp2_with fail
          refine ad.o.mono ?_;rintro _ w5 ⟨v5,rfl,am,az⟩;have bk:=aA am;have bl:=aA (show aY 26 w _ w5 from DM j.o az j.o.size (fun k e=>ai.o k e));obtain⟨A5,c5,rfl,_,_,_⟩:=aJ.form am aG;clear am az k0 r2;go_wp2;go_roundw
          case rel=>exact⟨k+1,E,by go_num,aA (by rw[bj.o,Au.puts_snoc];exact bk.o),bl⟩
          case measure=>simp[intOf];omega
         ·have ae:=aA (hN he);have hq:(lf == -1-s)=false:=by rw[AY];exact he
          clear hY hN he ad;go_wp2;go_roundw
          case rel=>exact⟨k+1,E,by go_num,aA (by rw[ae.o];exact b.o),j⟩
          case measure=>simp[intOf];omega
        ·obtain rfl:k=G.rs.length:=by omega
         have ao:=aA (al.o.le aa.o);have bm:=aA (Au.allI_le m.o m.o.r40);generalize a0:Au.puts out (Au.begT G (-1-s) G.rs.length)=out2 at *;have bM:=aA a0;clear a0;by_cases bo:out.length<out2.length
         ·have bp:(out.length:Int)<(out2.length:Int):=by omega
          go_wp2;go_roundw
          case rel=>exact⟨0,out2,AU _,by go_num,rfl,al,aA (Au.ClTo.zero _ _),b,j⟩
          case measure=>have h1:=ao.o;have h2:=bm.o;have h3:=ay.o;simp[intOf,zcI];omega
         ·obtain⟨e1,e2⟩:=ax.o (by omega);have f:=aA (af.o e2);have bp:¬((out.length:Int)<(out2.length:Int)):=by omega
          subst e1;clear bo e2;go_wp2;go_roundw
          case rel=>exact⟨i+1,out2,hlt,by go_num,rfl,HC,f,b,j⟩
          case measure=>have h3:=ay.o;simp[intOf,zcI];omega
      ·have hE:=Au.addE_no (G:=G) (x:=x) (fun s' hs=>by rw[hq]at hs;injection hs with hs;omega);have f:=aA (af.o (by rw[hE];intro z hz;cases hz));clear hE hq aw;go_wp2_with fail
       refine q _ _ u.o _ (fun _ h=>h) u.o ?_;clear q;repeat (go_big_quiet_step (fail))
       refine Aq ?_;go_wp2;go_loopw [5,11] (fun vo vk wy=>vo=.slice (some ⟨g,0,none⟩) out.length co/\vk=.int .i64 0/\wy=w2) (fun _ _ _=>0)
       case atStart=>exact⟨rfl,rfl,by trivial⟩
       case round =>
        obtain⟨rfl,rfl,rfl⟩:=hrel;go_wp2;go_roundw
        case rel=>exact⟨i+1,out,hlt,by go_num,rfl,HC,f,C,D⟩
        case measure=>simp[intOf,zcI];omega
    ·obtain rfl:i=out.length:=by omega
     have HE:=aA (HC.o.end_ aa.o au.o);have HX:=aA (HO.o.mono (base':=w.heap.size) (by omega));generalize out.length=nn at *;go_wp2;go_ret
     exact⟨_,rfl,by rw[<-HE.o];exact HX.o,HW.o.below⟩
theorem Au.clo_nil (G:Gm.Gr):Au.clo G []=[]:=by
 refine List.eq_nil_iff_forall_not_mem.2 fun x hx=>?_;have h:=(Au.clo_mem (G:=G) (l:=[]) (fun _ h=>by cases h)).1 hx
 have key:∀x,Au.Cl G [] x->False:=fun x h=>by
  induction h with
  | of _ h=>cases h
  | on _ _ _ _ _ _ _ _ ih=>exact ih
 exact key x h
theorem zep (v:Value) (G:Gm.Gr) (B:Nat) (l:List Au.It) (A:Option Addr) (c BL:Nat) (w:World) (hg:aR w B v G) (hf:Gm.Fit G) (hB:B<=w.heap.size) (hl:RdQ 2 prF w BL A l) (ao:BL<=w.heap.size) (aa:l.length<=1000) :
  Calls Tryz.prog 20 #[v,.slice A l.length c] w fun e w'=>∃v',e=.returned v'/\aJ 60 2 prF w' w.heap.size v' (Au.closL G l)/\Below w.heap.size w w':=by
 have HG:=aA hg;have HF:=aA hf;have ab:=aA hB;have HL:=aA hl;have a1:=aA ao;have a2:=aA aa;obtain⟨AT,cT,AN,cN,AR,cR,rfl,_⟩:=hg;have ac:=aA (aY.start 26 w #[.slice AT G.ts.length cT,.slice AN G.ns.length cN,.slice AR G.rs.length cR,.int .i64 G.st]);have bb:(l.length:Int)<=1000:=by omega
 clear hf hB hl ao aa
 go_enter Tryz.func20,Tryz.ntmps20
 go_wp2;go_loopw [5,6] (fun vo vi wr=>∃i:Nat,i<=l.length/\vi=.int .i64 i/\Hid (aJ 60 2 prF wr (w.heap.size+1) vo ((l.take i).filter (Au.hasB G)))/\Hid (aY 26 w #[.slice AT G.ts.length cT,.slice AN G.ns.length cN,.slice AR G.rs.length cR,.int .i64 G.st] wr)) (fun _ vi _=>l.length-(intOf vi).toNat)
 case atStart=>exact⟨0,AU _,rfl,aA (aJ.nil _ _),ac⟩
 case round =>
  obtain⟨i,hi,rfl,HO,HW⟩:=hrel;obtain⟨Ao,co,rfl,_,_,_⟩:=aJ.form HO.o aG;by_cases n:i<l.length
  ·obtain⟨g,o,rfl,a3,hc⟩:=HL.o (by omega);have ap:g<w.heap.size:=Ag a3 a1.o;have a4:(i:Int)<(l.length:Int):=by omega
   have kk0:∀y:World,Below w.heap.size w y->y.cell? ⟨g,o+i*2,none⟩=some (.int .i64 (l[i]).1):=fun y h=>(h.cell (p:=⟨g,o+i*2,none⟩) ap).trans (hc i n 0 _ rfl);have kk1:∀y:World,Below w.heap.size w y->y.cell? ⟨g,o+i*2+1,none⟩=some (.int .i64 (l[i]).2):=fun y h=>(h.cell (p:=⟨g,o+i*2+1,none⟩) ap).trans (hc i n 1 _ rfl);have aq:Hid (l.take (i+1)=l.take i++[l[i]]):=aA (AI n)
   have ad:Hid (((l.take i).filter (Au.hasB G)).length<=1000):=aA (by
    have h1:=B7 (Au.hasB G) (l.take i);rw[Bb]at h1
    omega)
   have a5:=aA (fun(y:World) (h:Below w.heap.size w y)=>zcN _ G B l[i] y (HG.o.below h ab.o) HF.o (Am ab.o h.size));have z0:∀z:Calm.On wr.heap.size wr,z.1.cell? ⟨w.heap.size,0,none⟩=some (.slice AT G.ts.length cT):=fun z=>(HW.o.on z.2).c 0 _ rfl;have z1:∀z:Calm.On wr.heap.size wr,z.1.cell? ⟨w.heap.size,1,none⟩=some (.slice AN G.ns.length cN):=fun z=>(HW.o.on z.2).c 1 _ rfl;have z2:∀z:Calm.On wr.heap.size wr,z.1.cell? ⟨w.heap.size,2,none⟩=some (.slice AR G.rs.length cR):=fun z=>(HW.o.on z.2).c 2 _ rfl;have z3:∀z:Calm.On wr.heap.size wr,z.1.cell? ⟨w.heap.size,3,none⟩=some (.int .i64 G.st):=fun z=>(HW.o.on z.2).c 3 _ rfl;have q0:∀z:Calm.On wr.heap.size wr,z.1.cell? ⟨g,o+i*2,none⟩=some (.int .i64 (l[i]).1):=fun z=>kk0 z.1 (HW.o.on z.2).below;have q1:∀z:Calm.On wr.heap.size wr,z.1.cell? ⟨g,o+i*2+1,none⟩=some (.int .i64 (l[i]).2):=fun z=>kk1 z.1 (HW.o.on z.2).below;have ac:=zam wr;have KK0:=aA kk0;have KK1:=aA kk1;clear hc kk0 kk1;generalize l[i]=x at *;generalize ar:(l.take i).filter (Au.hasB G)=tt at *;have au:=aA ar;clear ar;go_wp2_with fail
   refine CalmN.region_tree (fun x=>∃z:Calm.On wr.heap.size wr,x=z.1) (.one [0,1,2,3,4] 5 (.fin [])) (by kernel_rfl) (by kernel_rfl) (fun _ _ d _ _ h=>by cases d <;> exact h) ac.o ?_;simp only[CalmN.wpT,CalmN.wpSt,CalmN.pickOps,Aw,Ah,Aj];repeat (go_big_quiet_step (fail))
   refine Aq ?_;intro KK ae;rw[Az (by rfl)];go_wp2_with fail
   refine(a5.o wr.drew (aB HW.o.below 1)).mono ?_;rintro _ w2 ⟨rfl,j⟩;have j:Below wr.heap.size wr w2:=(aB (AB _ wr) 1).trans j;have af:=zbk j;have ag:=aA (HW.o.on j);have av:=aA (HO.o.below j (Af _));clear j z0 z1 z2 z3 q0 q1 ac;cases hh:Au.hasB G x
   ·have HE:Hid ((l.take (i+1)).filter (Au.hasB G)=tt):=aA (by rw[aq.o,B3,au.o,BX,AG (by rw[hh];decide)];simp);clear hh;go_wp2_with fail
    refine ae _ _ af.o _ (fun _ h=>h) af.o ?_;clear ae;refine Aq ?_;go_wp2;go_roundw
    case rel=>exact⟨i+1,n,by go_num,aA (by rw[HE.o];exact av.o),ag⟩
    case measure=>simp[intOf];omega
   ·have HE:Hid ((l.take (i+1)).filter (Au.hasB G)=tt++[x]):=aA (by rw[aq.o,B3,au.o,BX,Az hh];simp);clear hh;have k0:=KK0.o w2 ag.o.below;have k1:=KK1.o w2 ag.o.below;have aw:=aA (av.o.alloc (.cells #[.int .i64 x.1,.int .i64 x.2] 60));have ah:=aA (ag.o.alloc (.cells #[.int .i64 x.1,.int .i64 x.2] 60));have ai:=aA (AE w2 (.cells #[.int .i64 x.1,.int .i64 x.2] 60));go_wp2_with fail
    refine ae _ _ af.o _ (fun _ h=>h) af.o ?_;clear ae;refine Aq ?_;go_wp2_with (at_builtin;refine zbK (f:=prF) rfl (.tmp 19) (.tmp 24) _ rfl Tryz.underlying52 _ 16 zbu (by decide) (by decide) (by decide) aG zaG (w.heap.size+1) _ tt rfl aw.o _ _ x rfl (zbs x _ _ ai.o) (by have:=ad.o;omega) ah.o.size ?_;intro v5 w5 m ax)
    have aj:=aA m;have ak:=aA (show aY 26 w _ w5 from DM ah.o ax ah.o.size (fun k e=>(Bn aw.o k e).1));clear m ax k0 k1;go_roundw
    case rel=>exact⟨i+1,n,by go_num,aA (by rw[HE.o];exact aj.o),ak⟩
    case measure=>simp[intOf];omega
  ·obtain rfl:i=l.length:=by omega
   generalize ((l.take l.length).filter (Au.hasB G)).length=n0 at *;rw[Bk]at HO;have ad:Hid ((l.filter (Au.hasB G)).length<=1000):=aA (Am (B7 _ _) a2.o);by_cases ht:l.filter (Au.hasB G)=[]
   ·have HE:Hid (Au.closL G l=[]):=aA (by
     unfold Au.closL;by_cases hr:Gm.right G=true
     ·rw[Az hr]
      have e:l.filter (Au.isI G)=[]:=by
       rw[<-ht]
       congr 1
       funext x
       unfold Au.hasB;rw[hr,Cg]
      rw[e,Au.clo_nil]
     ·rw[AG hr])
    rw[ht]at HO;obtain⟨A9,c9,he,_⟩:=aJ.form HO.o aG;injection he with al b am;have b:n0=0:=b;have a6:((n0:Int)==0)=true:=by rw[BI];omega
    clear al b am ht hi;go_wp2;go_ret
    exact⟨_,rfl,by rw[HE.o];exact aJ.nil _ _,HW.o.below⟩
   ·have hr:Gm.right G=true:=by
     by_cases hr:Gm.right G=true
     ·exact hr
     ·exfalso
      refine ht (List.filter_eq_nil_iff.2 fun x _=>?_);unfold Au.hasB;cases h:Gm.right G
      ·simp
      ·exact absurd h hr
    have e:l.filter (Au.hasB G)=l.filter (Au.isI G):=by
     congr 1
     funext x
     unfold Au.hasB;rw[hr,Cg]
    have HE:Hid (Au.closL G l=Au.clo G (l.filter (Au.isI G))):=aA (by unfold Au.closL;rw[Az hr]);have a9:=aA (Gm.right_ok.1 hr);rw[e]at HO ad ht;have ay:∀x∈l.filter (Au.isI G),Au.isI G x=true:=fun x hx=>(BU.1 hx).2;generalize l.filter (Au.isI G)=tt at *;obtain⟨A9,c9,he,_,_,az⟩:=aJ.form HO.o aG;injection he with al b am;have b:n0=tt.length:=b;subst al b;have bc:0<tt.length:=List.length_pos_iff.2 ht;have a6:((tt.length:Int)==0)=false:=by rw[AY];omega
    have ba:=aA (zcO _ G B tt Ao co wr.heap.size wr (HG.o.below HW.o.below ab.o) HF.o a9.o (Am ab.o (Am (Eu _ 1) HW.o.size)) az (Af _) ay ad.o);have z0:=HW.o.c 0 _ rfl;have z1:=HW.o.c 1 _ rfl;have z2:=HW.o.c 2 _ rfl;have z3:=HW.o.c 3 _ rfl;clear am ht e hr ay az;go_wp2_with fail
    refine ba.o.mono ?_;rintro _ w5 ⟨v5,rfl,m,a0⟩;obtain⟨A5,c5,rfl,_,_,_⟩:=aJ.form m aG;have aj:=aA (m.mono (base':=w.heap.size) (Am (Eu _ 1) HW.o.size));have ak:=aA (HW.o.on a0);clear m a0 z0 z1 z2 z3;go_wp2;go_ret
    exact⟨_,rfl,by rw[HE.o];exact aj.o,ak.o.below⟩
end Go.Proofs.YtcmhaemaophplaaGreat
