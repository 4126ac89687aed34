/- Part of the proofs over this program: Ref8M, Read9, Src9, Alive15T, TableL, TbFn, RepN, TbShift, TbW. -/
import Derived.Test.YtjjbaehamplnaaaGreatMM
set_option linter.all false
namespace Go
def EO:=@Go.RowKit.Below.setCell
end Go
set_option maxRecDepth 100000
set_option maxHeartbeats 40000000
variable {B N base base' g i k m n px py:Nat} {G:Go.Proofs.YtjjbaehamplnaaaGreat.Gm.Gr} {cs:Array Go.Value} {ds:List Go.Proofs.YtjjbaehamplnaaaGreat.Y.Dcl} {l:List Int} {s t z:Int} {v v':Go.Value} {w:Go.World} {x:Go.Proofs.YtjjbaehamplnaaaGreat.Tok} {xs:List Go.Value}
namespace Go.Proofs.YtjjbaehamplnaaaGreat
open Go.RowKit
def Y.more:Nat->List Prd->List Tok->Res (List Prd)
 | 0,acc,ts=>.ok acc ts
 | _+1,acc,[]=>.ok acc []
 | f+1,acc,t::ts=>(group [] (t::ts)).bind fun ps r=>Y.more f (acc++ps) r
theorem Y.group_kind {t:Tok} {ts r:List Tok} {ps:List Y.Prd} (h:Y.group [] (t::ts)=.ok ps r):t.k=1:=by
 unfold Y.group at h;obtain⟨left,m,h1,h⟩:=Y.bind_eq_ok h;obtain⟨e,hk⟩:=Y.take_ok h1;injection e with e _;subst e
 simpa using hk
theorem zmT {o:Oper} {a:Act} {K:Act->World->Prop} {Q:Exit->Act->World->Prop} (s x:Operand) (t:TypeId) (ho:o.op=.call {callee:=.builtin .append,args:=#[s,x],argTypes:=#[t,t]}) (ht:Tryz.prog.underlying t=some (.slice 161)) (L:List Int) (base bu:Nat) (v u:Value) (xs ys:List Y.Prd) (hs:a.eval s=v) (aa:bH L w base v xs) (hx:a.eval x=u) (ad:bH L w bu u ys) (ak:base<=bu) (al:xs.length+ys.length<=1000000) (ab:base<=w.heap.size) (hK:∀v' w',bH L w' base v' (xs++ys)->w.grownBy w' v.ownBlock->K (a.put o.dst v') w') :
  o.wp Tryz.prog a w K Q:=by
 obtain⟨i,hi,am,ao,ap⟩:=CD zmq;have ac:=aa;obtain⟨qs,ag,ae,aq⟩:=aa;obtain⟨qy,ah,ai,ar⟩:=ad;have ax:qs.length=xs.length:=by rw[<-ag,Bb]
 have ay:qy.length=ys.length:=by rw[<-ah,Bb]
 have au:(ziO L qy).length=ys.length*5:=ai.1;rcases ai.2 with⟨rfl,h0⟩|⟨g,cap,cur,rfl,hb,hg,hn,hm,hc,av⟩
 ·have hz:ys=[]:=Bv h0;subst hz;have af:=zar (P:=Tryz.prog) w base t o.type 161 i 5 ht hi v xs.length _ ae 0;unfold Oper.wp;simp[execOp,ho,resolve,invoke,builtin,hs,hx,af,Result.andThen];exact hK v w (by simpa using ac) (AI _ _)
 ·refine D5 w s x t ho base 161 i _ 5 88 ht hi am ao ap rfl (by decide) v xs.length (ziO L qs) hs ae ⟨g,0,none⟩ ys.length cap (ziO L qy) hx au ?_ ?_ (by unfold maxLen;omega) (by omega) ab fun v' w' h1 h2 _=>hK v' w' ?_ h2
  ·intro j z hj;have aw:j<ys.length*5:=by have:=(Ba.1 hj).1;omega
   rw[zd1,Bu,Aw w g _ _ _ _ hg];rw[<-av,CP aw]at hj
   simpa using hj
  ·intro z hz;obtain⟨q,_,hz⟩:=CK.1 hz;exact zcB L q.1 q.2.1 q.2.2 z hz
  ·have aj:=zat ae (by decide);refine⟨qs++qy,by rw[AW,ag,ah],?_,fun q hq=>?_⟩
   ·rw[AU];unfold ziO at h1 ⊢;rw[BX];exact h1
   ·rcases Bj.1 hq with h|h
    ·exact(aq q h).grown h2 aj
    ·exact((ar q h).less ak).grown h2 aj
theorem Rd8.dlen {L:List Int} {R:Nat} {ts:List Tok} (h:Rd8 L B R px py w ts):zc9 R w=ts.length:=by
 obtain⟨A,c,h0,_⟩:=h.cell0;unfold zc9;rw[h0]
theorem zhf {n' size size':Nat} {e e':TypeId} {xs':List Value} (h:w.ownsRow base e size v n xs) (h':w.ownsRow base' e' size' v' n' xs') (he:e≠e'):v.ownBlock=none\/v.ownBlock≠v'.ownBlock:=by
 rcases h'.2 with⟨rfl,_⟩|⟨g,cap,cur,rfl,_,hg,_⟩
 ·rcases hv:v.ownBlock with _|k
  ·exact .inl rfl
  ·exact .inr (by simp[Value.ownBlock])
 ·exact .inr (zeV h hg he)
theorem of8m (L:List Int) (A:Option Addr) (c px py:Nat) (ts:List Tok) (ds:List Y.Dcl) (p1 ps:List Y.Prd) (f1:Nat) (m m2 r1:List Tok) (t9:Tok) (w:World) (hr:RdT L w w.heap.size A ts) (hc:ts.length<=c) (h4:ts.length<=4000) (hd:Y.decls (ts.length+1) [] ts=.ok ds m) (hk:zlq ds) (h9:Y.take [9] m=.ok t9 m2) (hg:Y.group [] m2=.ok p1 r1) (bp:Y.more f1 p1 r1=.ok ps []) :
  Calls Tryz.prog 85 #[.slice A ts.length c,.complex .f64 px py] w fun e w'=>∃dv pv,e=.returned (.tuple #[.agg #[dv,pv],.complex .f64 0 0,.int .i64 0])/\bI L w' w.heap.size dv ds/\bH L w' w.heap.size pv ps/\Below w.heap.size w w':=by
 have SC:=fun a w m X Y=>show(store a (.complex .f64 X Y) m).run Tryz.prog w=stored Tryz.prog w a (.complex .f64 X Y) m from run_store _ w a _ m rfl;have BR:=fun A (n c:Nat) X Y w=>(D6 w 203 _ _ (by kernel_rfl):(Instr.build 203 #[(0,.slice A n c),(1,.complex .f64 X Y)]).run Tryz.prog w=.ok (.agg #[.slice A n c,.complex .f64 X Y,.complex .f64 0 0,.int .i64 0]) w)
 have BS:=fun A (n c:Nat) w=>(D6 w 114 _ _ (by kernel_rfl):(Instr.build 114 #[(0,.slice A n c)]).run Tryz.prog w=.ok (.agg #[.slice A n c,.slice none 0 0]) w)
 have bq:=aA (((Aq w.heap.size w).alloc (Ad _) (.cells #[.slice none 0 0,.slice none 0 0] 114)).alloc (by simp) (.cells #[.slice A ts.length c,.complex .f64 px py,.complex .f64 0 0,.int .i64 0] 203));have ca:Hid (Rd8 L w.heap.size (w.heap.size+1) px py ((w.alloc (.cells #[.slice none 0 0,.slice none 0 0] 114)).alloc (.cells #[.slice A ts.length c,.complex .f64 px py,.complex .f64 0 0,.int .i64 0] 203)) ts):=aA ⟨A,c,by have:=Az (w.alloc (.cells #[.slice none 0 0,.slice none 0 0] 114)) (.cells #[.slice A ts.length c,.complex .f64 px py,.complex .f64 0 0,.int .i64 0] 203);rwa [show(w.alloc (.cells #[.slice none 0 0,.slice none 0 0] 114)).heap.size=w.heap.size+1 by simp]at this,hc,h4,hr.below bq.o (Ad _),by omega⟩;have HD:=aA (fun(x:World) (B R:Nat) (h:Rd8 L B R px py x ts)=>zmH L B R px py (ts.length+1) ts ds m x h hd (by omega) hk);have H9:=aA (fun(x:World) (B R:Nat) (h:Rd8 L B R px py x m)=>zct L B R px py m 9 9 x h t9 m2 ((zbJ 9 m).trans h9));have HG:=aA (fun(x:World) (B R:Nat) (h:Rd8 L B R px py x m2)=>zjS L B R px py m2 p1 r1 x h hg);have br:=aA bp;have cb:=aA (Y.group_len hg);unfold bW at H9;clear hr hc h4 hd hk h9 hg bp
 go_enter Tryz.func85,Tryz.ntmps85
 go_wp2_with fail
 refine(HD.o _ _ _ ca.o).mono ?_;rintro _ w2 ⟨aw,v2,rfl,a4,a5⟩;have bs:=zag aw ((Ei (B:=w.heap.size+1) ((Aq _ (w.alloc (.cells #[.slice none 0 0,.slice none 0 0] 114))).alloc (by simp) (.cells #[.slice A ts.length c,.complex .f64 px py,.complex .f64 0 0,.int .i64 0] 203)) w.heap.size (by omega)).trans (Az w _)) (by omega);obtain⟨A2,c2,rfl,_,_⟩:=a4.form;have cc:=aA aw;have cq:w.heap.size+2<=w2.heap.size:=by have:=aw.size;simpa using this
 have bu:=aA a4;have cd:=aA a5.other;have ce:=aA (a5.alloc (.cells #[.slice A2 ds.length c2,.slice none 0 0] 114));have cf:=aA ((BI w2 (.cells #[.slice A2 ds.length c2,.slice none 0 0] 114) w.heap.size (by omega)).trans bs);clear aw a4 a5 bs;go_wp2_with fail
 refine(H9.o _ _ _ ce.o).mono ?_;rintro _ w3 ⟨rfl,b,C⟩;have a6:=aA b;have bv:=aA C;have cg:=aA (zag b cf.o (by omega));have ch:=aA (zcM b (by omega:w.heap.size+1<w2.heap.size));clear b C;go_wp2_with fail
 have bw:Hid (p1.length+r1.length<=4000):=aA (by have h1:=cb.o;have h2:=bv.o.len;simp at h1;omega);refine(HG.o _ _ _ bv.o).mono ?_;rintro _ w4 ⟨g,v4,rfl,D,a9⟩;obtain⟨A4,c4,rfl,_,_⟩:=D.form;have cr:w2.heap.size+1<=w3.heap.size:=by have:=a6.o.size;simpa using this
 have cs:w3.heap.size<=w4.heap.size:=g.size;have u:=zag g ch.o (by omega);have I:=zag g cg.o (by omega);have ci:=aA ((aG cc.o (.cells #[.slice A2 ds.length c2,.slice none 0 0] 114)).trans (a6.o.trans g));have b0:=Aw w4 _ 0 _ _ _ u;have b1:=Aw w4 _ 1 _ _ _ u;have fb1:=AD w4 _ 1 _ _ u;have z0:=Aw w4 _ 0 _ _ _ I;have z1:=Aw w4 _ 1 _ _ _ I;have fz0:=AD w4 _ 0 _ _ I;have fz1:=AD w4 _ 1 _ _ I;have cu:=a9.lt;have M:=aA D;have l:=aA (bu.o.grown ((aG (AI w2 (some (w.heap.size+1))) (.cells #[.slice A2 ds.length c2,.slice none 0 0] 114)).trans (a6.o.trans g)) ⟨cd.o,by obtain⟨z,hz⟩:=bu.o.own;simp at hz;exact zau hz (by omega)⟩);have cj:∃w5:World,w5=w4.setCell ⟨w2.heap.size,1,none⟩ (.slice A4 p1.length c4):=⟨_,rfl⟩
 obtain⟨w5,y⟩:=cj;have bx:w5.heap[w2.heap.size]?=some (.cells #[.slice A2 ds.length c2,.slice A4 p1.length c4] 114 (0,0)):=by rw[y,AP w4 _ 1 _ _ _ u];rfl
 have bz:w5.heap[w.heap.size]?=some (.cells #[.slice none 0 0,.slice none 0 0] 114 (0,0)):=by rw[y,AH _ _ _ _ (by simp only;omega)];exact I
 have bD:Hid (Rd8 L w.heap.size (w.heap.size+1) px py w5 r1):=aA (by rw[y];exact a9.far _ _ _ (by omega));have al:Hid (bI L w5 (w.heap.size+2) (.slice A2 ds.length c2) ds):=aA (by rw[y];have h:=l.o.grown (aF (AI w4 (some w2.heap.size)) 1 (.slice A4 p1.length c4)) ⟨zaM u,by obtain⟨z,hz⟩:=l.o.own;exact aN hz u (fun cur e=>by injection e with _ e;exact absurd e (by decide))⟩;simpa using h);have am:Hid (bH L w5 w3.heap.size (.slice A4 p1.length c4) p1):=aA (by rw[y];exact D.grown (aF (AI w4 (some w2.heap.size)) 1 (.slice A4 p1.length c4)) ⟨zaM u,by obtain⟨z,hz⟩:=D.own;exact aN hz u (fun cur e=>by injection e with _ e;exact absurd e (by decide))⟩)
 have F:Hid (Below w.heap.size w w5):=aA (by
  rw[y];refine EO ?_ (p:=⟨w2.heap.size,1,none⟩) (by simp only;omega) _;exact bq.o.grown ci.o (by simp;omega) (fun k e=>by injection e with e;omega))
 clear g D a9;go_wp2_with fail
 rw[<-y];have bM:=aA bx;have bT:=aA bz;have ao:w3.heap.size<=w5.heap.size:=by rw[y];simp;omega
 clear y bx bz b0 b1 fb1 z0 z1 fz0 fz1 u I M l;go_loopw [] (fun wt=>∃(f:Nat) (acc:List Y.Prd) (rest:List Tok) (A:Option Addr) (c:Nat),Hid (Y.more f acc rest=.ok ps [])/\acc.length+rest.length<=4000/\wt.heap[w2.heap.size]?=some (.cells #[.slice A2 ds.length c2,.slice A acc.length c] 114 (0,0))/\wt.heap[w.heap.size]?=some (.cells #[.slice none 0 0,.slice none 0 0] 114 (0,0))/\Rd8 L w.heap.size (w.heap.size+1) px py wt rest/\bI L wt (w.heap.size+2) (.slice A2 ds.length c2) ds/\bH L wt w3.heap.size (.slice A acc.length c) acc/\Below w.heap.size w wt/\w3.heap.size<=wt.heap.size) (fun wt=>zc9 (w.heap.size+1) wt)
 case atStart=>exact⟨f1,p1,r1,A4,c4,br,bw.o,bM.o,bT.o,bD.o,al.o,am.o,F.o,ao⟩
 case round =>
  clear br bw bM bT bD al am F ao;obtain⟨f,acc,rest,A,c,HM,ba,J,E,ax,bb,bc,bd,bf⟩:=hrel;obtain⟨Ax,cx,r0,r3,_⟩:=ax.cell0;have bX:=aA J;have ay:=aA E;have az:=aA ax;have a0:=aA bb;have a1:=aA bc;have F:=aA bd;have bZ:=aA bf;have b3:=aA ba;have ck:w.heap.size<wr.heap.size:=(Ac.1 E).1;have bg:w2.heap.size<wr.heap.size:=(Ac.1 J).1;rcases rest with _|⟨t,m1⟩
  ·have bh:Hid (acc=ps):=aA (by
    have h:=HM.o;cases f with
    | zero=>injection h
    | succ f=>injection h)
   have p0:=Aw wr _ 0 _ _ _ J;have p1':=Aw wr _ 1 _ _ _ J;have y0:=Aw wr _ 0 _ _ _ E;have y1:=Aw wr _ 1 _ _ _ E;have gz0:=AD wr _ 0 _ _ E;have gz1:=AD wr _ 1 _ _ E;clear J E ax bb bc bd bf ba HM;go_wp2;have bi:=aF (aF (AI wr (some w.heap.size)) 0 (.slice A2 ds.length c2)) 1 (.slice A acc.length c);refine BM (v:=.tuple #[.agg #[.slice A2 ds.length c2,.slice A acc.length c],.complex .f64 0 0,.int .i64 0]) (by simp[results,Tryz.results85,go_sem,y0,y1]) rfl ⟨_,_,rfl,?_,?_,?_⟩
   ·exact(a0.o.grown bi ⟨zaM ay.o,by obtain⟨z,hz⟩:=a0.o.own;exact zau hz (by omega)⟩).less5 (by omega)
   ·rw[<-bh.o];exact(a1.o.grown bi ⟨zaM ay.o,by obtain⟨z,hz⟩:=a1.o.own;exact zau hz (by omega)⟩).less5 (by omega)
   ·exact F.o.grown bi F.o.size (fun k e=>by injection e with e;omega)
  ·obtain⟨f,rfl⟩:∃f',f=f'+1:=by
    cases f with
    | zero=>have h:=HM.o;injection h with _ h;cases h
    | succ f=>exact⟨f,rfl⟩
   have hY:=HM.o;rw[Y.more]at hY;obtain⟨p2,r2,a2,ap⟩:=Y.bind_eq_ok hY;have bj:=aA ap;have ae:=aA (Y.group_len a2);have b4:=aA (fun(x:World) (h:Rd8 L w.heap.size (w.heap.size+1) px py x (t::m1))=>zkK L w.heap.size (w.heap.size+1) px py (t::m1) x h);have b5:=aA (fun(x:World) (h:Rd8 L w.heap.size (w.heap.size+1) px py x (t::m1))=>zjS L w.heap.size (w.heap.size+1) px py (t::m1) p2 r2 x h a2);rw[show kd (t::m1)=1 from Y.group_kind a2]at b4;have cl:0<((t::m1).length:Int):=by simp
   have cm:Hid ((t::m1).length=m1.length+1):=aA rfl;clear hY a2 ap HM J E ax bb bc bd bf ba;have cn:Hid ((t::m1).length=zc9 (w.heap.size+1) wr):=aA az.o.dlen.symm;generalize co:t::m1=rst at *;clear co;go_wp2_with fail
   refine(b4.o _ az.o).mono ?_;rintro _ _ ⟨rfl,rfl⟩;go_upto_region 6 with fail
   refine Calm.region_tree (fun _=>True) (.two [0,2] 1 (.one [] 3 (.one [] 4 (.one [5] 6 (.fin [])))) 3 (.one [] 1 (.one [] 4 (.one [5] 6 (.fin []))))) (by kernel_rfl) (by kernel_rfl) (fun _ _ d _ _ h=>by cases d <;> exact h) trivial ?_;obtain⟨x2,a3⟩:∃x,x=wr.drew:=⟨_,rfl⟩
   rw[<-a3];have H:wr.grownBy x2 .none:=by rw[a3];exact zad _ _
   have b6:Below w.heap.size w x2:=by rw[a3];exact aB F.o 1
   have af:=aA ((H.block w2.heap.size bg (by simp)).trans bX.o);have aq:=aA ((H.block w.heap.size ck (by simp)).trans ay.o);have r:=aA (az.o.row H);have aa:=aA (a0.o.grown H (zj5.none _ _));have ab:=aA (a1.o.grown H (zj5.none _ _));have ac:=aA b6;have ad:Hid (w3.heap.size<=x2.heap.size):=aA (Ag bZ.o H.size);clear a3 H b6 bX ay az a0 a1 F bZ;simp only[Calm.wpT,Calm.wpSt,Calm.pickOps,Am,Af,Ah];repeat (go_big_quiet_step (fail))
   refine Aj ?_;refine⟨?_,?_⟩
   focus
    intro KK s;try rw[Ap (by rfl)]
    have c1:=Aw x2 _ 1 _ _ _ af.o;go_wp2_with fail
    clear c1;refine s _ _ trivial (fun _=>True) (fun _ _=>trivial) trivial ?_;repeat (go_big_quiet_step (fail))
    refine Aj ?_;intro KK s;try rw[Ap (by rfl)]
    go_wp2_with fail
    refine(b5.o _ r.o).mono ?_;rintro _ x3 ⟨b,v3,rfl,N,C⟩;have ag:=aA (zag b af.o (by omega));have ar:=aA (zag b aq.o (by omega));have au:=aA C;have ah:=aA (aa.o.grown b ⟨r.o.other,by obtain⟨z,hz⟩:=aa.o.own;exact zau hz (by omega)⟩);have ai:=aA (ab.o.grown b ⟨r.o.other,by obtain⟨z,hz⟩:=ab.o.own;exact zau hz (by omega)⟩);have aj:=aA (ac.o.grown b ac.o.size (fun k e=>by injection e with e;omega));have ak:=aA (Ag ad.o b.size);have b7:=aA (N.less5 ad.o);have bk:x2.heap.size<=x3.heap.size:=b.size;clear b N C;go_wp2_with fail
   rotate_left
   focus
    intro KK s;try rw[Ap (by rfl)]
    go_wp2_with fail
    refine(b5.o _ r.o).mono ?_;rintro _ x3 ⟨b,v3,rfl,N,C⟩;have ag:=aA (zag b af.o (by omega));have ar:=aA (zag b aq.o (by omega));have au:=aA C;have ah:=aA (aa.o.grown b ⟨r.o.other,by obtain⟨z,hz⟩:=aa.o.own;exact zau hz (by omega)⟩);have ai:=aA (ab.o.grown b ⟨r.o.other,by obtain⟨z,hz⟩:=ab.o.own;exact zau hz (by omega)⟩);have aj:=aA (ac.o.grown b ac.o.size (fun k e=>by injection e with e;omega));have ak:=aA (Ag ad.o b.size);have b7:=aA (N.less5 ad.o);have bk:x2.heap.size<=x3.heap.size:=b.size;clear b N C;go_wp2_with fail
    refine s _ _ trivial (fun _=>True) (fun _ _=>trivial) trivial ?_;repeat (go_big_quiet_step (fail))
    refine Aj ?_;intro KK s;try rw[Ap (by rfl)]
    have c1:=Aw x3 _ 1 _ _ _ ag.o;go_wp2_with fail
    clear c1
   all_goals
    refine s _ _ trivial (fun _=>True) (fun _ _=>trivial) trivial ?_;repeat (go_big_quiet_step (fail))
    refine Aj ?_;intro KK s;try rw[Ap (by rfl)]
    refine zmT (.tmp 40) (.tmp 42) _ rfl Tryz.underlying112 L w3.heap.size w3.heap.size _ v3 acc p2 rfl ai.o rfl b7.o (Ad _) (by have h1:=b3.o;have h2:=ae.o;simp at h2;omega) ak.o ?_;intro v4 x4 D g;obtain⟨zo,i⟩:=ai.o.own;have j:=aA (zeW i ag.o (by decide) g);have bl:=aA (zeW i ar.o (by decide) g);have bm:=aA (au.o.own i g (by omega));have l:=aA (ah.o.grown g ⟨zat i (by decide),by obtain⟨z,hz⟩:=ah.o.own;exact zhf hz i (by decide)⟩);have bn:=aA (aj.o.grown g aj.o.size (fun k e=>by have:=(Bs i k e).1;omega));have bo:=aA (Ag ak.o g.size);have cp:x3.heap.size<=x4.heap.size:=g.size;have M:=aA D;clear D g i;obtain⟨A4',c4',b8,_,_⟩:=M.o.form;rw[AU]at b8;subst b8;go_wp2_with fail
    refine s _ _ trivial (fun _=>True) (fun _ _=>trivial) trivial ?_;repeat (go_big_quiet_step (fail))
    refine Aj ?_;intro KK s;try rw[Ap (by rfl)]
    have c1:=Aw x4 _ 1 _ _ _ j.o;have f1':=AD x4 _ 1 _ _ j.o;go_wp2_with fail
    refine s _ _ trivial (fun _=>True) (fun _ _=>trivial) trivial ?_;refine Aj ?_;go_wp2_with fail
    have b9:=aF (AI x4 (some w2.heap.size)) 1 (.slice A4' (acc.length+p2.length) c4');have av:=aA (bm.o.far w2.heap.size 1 (.slice A4' (acc.length+p2.length) c4') (by omega));go_roundw
    case rel =>
     refine⟨f,acc++p2,r2,A4',c4',bj,by have h1:=b3.o;have h2:=ae.o;simp at h2 ⊢;omega,?_,?_,av.o,?_,?_,?_,?_⟩
     ·rw[AU,AP x4 _ 1 _ _ _ j.o];rfl
     ·rw[AH _ _ _ _ (by simp only;omega)];exact bl.o
     ·exact l.o.grown b9 ⟨zaM j.o,by obtain⟨z,hz⟩:=l.o.own;exact aN hz j.o (fun cur e=>by injection e with _ e;exact absurd e (by decide))⟩
     ·rw[AU];exact M.o.grown b9 ⟨zaM j.o,by obtain⟨z,hz⟩:=M.o.own;exact aN hz j.o (fun cur e=>by injection e with _ e;exact absurd e (by decide))⟩
     ·exact EO bn.o (p:=⟨w2.heap.size,1,none⟩) (by simp only;omega) _
     ·simpa using bo.o
    case measure =>
     rw[av.o.dlen,<-cn.o];have h2:=ae.o;have h3:=cm.o;simp at h2;omega
structure Sr9 (L:List Int) (xs:List Tok) (ds:List Y.Dcl) (ps:List Y.Prd) (G:Gm.Gr):Prop where
 b:K.Bytes L
 n:L.length<=2000
 t:zkb L=.ok xs
 s:∃m t9 m2 p1 r1 f1,Y.decls (xs.length+1) [] xs=.ok ds m/\Y.take [9] m=.ok t9 m2/\Y.group [] m2=.ok p1 r1/\Y.more f1 p1 r1=.ok ps []
 z:Ez ds ps
 g:Gm.build ds ps=.ok G
theorem zlS (A:Option Addr) (c:Nat) (L:List Int) (xs:List Tok) (ds:List Y.Dcl) (ps:List Y.Prd) (G:Gm.Gr) (w:World) (hr:RdB w w.heap.size A L) (hc:L.length<=c) (hs:Sr9 L xs ds ps G) :
  Calls Tryz.prog 53 #[.slice A L.length c] w fun e w'=>∃dv pv,e=.returned (.tuple #[.agg #[dv,pv],.complex .f64 0 0,.int .i64 0])/\bI L w' w.heap.size dv ds/\bH L w' w.heap.size pv ps/\Below w.heap.size w w':=by
 have SC:=fun a w m X Y=>show(store a (.complex .f64 X Y) m).run Tryz.prog w=stored Tryz.prog w a (.complex .f64 X Y) m from run_store _ w a _ m rfl;have HT:=aA (fun(w1:World) (h1:Below w.heap.size w w1)=>zgS A c L xs w1 (hr.up h1) hs.b hc hs.n hs.t);have aa:=aA (fun o=>((Aq w.heap.size w).alloc (Ad _) o));obtain⟨m,t9,m2,p1,r1,f1,s1,s2,s3,s4⟩:=hs.s;have aj:xs.length<=4000:=by have:=(zgr L hs.b xs hs.t).count;have:=hs.n;omega
 have af:=aA (fun(w1:World) (A':Option Addr) (c':Nat) (h1:RdT L w1 w1.heap.size A' xs) (h2:xs.length<=c')=>of8m L A' c' (Fl.fl (Pl.pos L).1) (Fl.fl (Pl.pos L).2) xs ds p1 ps f1 m m2 r1 t9 w1 h1 h2 aj s1 hs.z.k s2 s3 s4);clear hr hc hs s1 s2 s3 s4
 go_enter Tryz.func53,Tryz.ntmps53
 go_wp2_with fail
 refine(HT.o _ (aa.o _)).mono ?_;rintro _ w2 ⟨v,rfl,ho,hb⟩;obtain⟨A',c',rfl,ag,_,ah⟩:=ho.rd;have h2:w2.heap[w.heap.size]?=some (.cells #[.slice none 0 0,.slice none 0 0] 114 (0,0)):=(hb.block w.heap.size (by simp)).trans (Az w _);have ab:=aA ((aa.o (.cells #[.slice none 0 0,.slice none 0 0] 114)).trans (hb.mono (aa.o _).size));have ai:=aA (af.o w2 A' c' ah ag);clear ho hb HT aa af ah ag;go_wp2_with fail
 refine ai.o.mono ?_;rintro _ w3 ⟨dv,pv,rfl,ac,ad,ae⟩;have h3:=(ae.block w.heap.size (Ac.1 h2).1).trans h2;have c0:=Aw w3 _ 0 _ _ _ h3;have c1:=Aw w3 _ 1 _ _ _ h3;have f0:=AD w3 _ 0 _ _ h3;have f1:=AD w3 _ 1 _ _ h3;have ak:=aA (ab.o.trans (ae.mono ab.o.size));have HX:=aA (zbK h3 (by decide));obtain⟨DA,DC,rfl,_,_⟩:=ac.form;obtain⟨PA',PC,rfl,_,_⟩:=ad.form
 have al:Hid (bI L ((w3.setCell ⟨w.heap.size,0,none⟩ (.slice DA ds.length DC)).setCell ⟨w.heap.size,1,none⟩ (.slice PA' ps.length PC)) w.heap.size (.slice DA ds.length DC) ds):=aA (by
  obtain⟨zs,hz⟩:=ac.own;exact(ac.less ab.o.size).grown (aF (aF (AI _ _) _ _) _ _) ⟨HX.o,.inr (zeV hz h3 (by decide))⟩)
 have am:Hid (bH L ((w3.setCell ⟨w.heap.size,0,none⟩ (.slice DA ds.length DC)).setCell ⟨w.heap.size,1,none⟩ (.slice PA' ps.length PC)) w.heap.size (.slice PA' ps.length PC) ps):=aA (by
  obtain⟨zs,hz⟩:=ad.own;exact(ad.less ab.o.size).grown (aF (aF (AI _ _) _ _) _ _) ⟨HX.o,.inr (zeV hz h3 (by decide))⟩)
 clear ac ad ae ai h2 h3;go_wp2;refine BM (v:=.tuple #[.agg #[.slice DA ds.length DC,.slice PA' ps.length PC],.complex .f64 0 0,.int .i64 0]) (by simp[results,Tryz.results53,go_sem,c0,c1]) rfl ?_;exact⟨_,_,rfl,al.o,am.o,zaP (zaP ak.o _ (Ad _)) _ (Ad _)⟩
theorem zmv (A:Option Addr) (c:Nat) (L:List Int) (xs:List Tok) (ds:List Y.Dcl) (ps:List Y.Prd) (G:Gm.Gr) (w:World) (hr:RdB w w.heap.size A L) (hc:L.length<=c) (hs:Sr9 L xs ds ps G) :
  Calls Tryz.prog 25 #[.slice A L.length c] w fun e w'=>(∃g,e=.returned (.tuple #[g,.complex .f64 0 0,.int .i64 0])/\aQ w' w'.heap.size g G/\Gm.Fit G)/\Below w.heap.size w w':=by
 have SC:=fun a w m X Y=>show(store a (.complex .f64 X Y) m).run Tryz.prog w=stored Tryz.prog w a (.complex .f64 X Y) m from run_store _ w a _ m rfl;have ac:Below w.heap.size w (w.alloc (.cells grC 26)):=(Aq w.heap.size w).alloc (Ad _) _;have HP:=aA (zlS A c L xs ds ps G _ (hr.up ac) hc hs);have ad:=aA ac;have ap:=aA (Az w (.cells grC 26));have ah:=aA (fun(x:World) (A1 A2:Option Addr) (c1 c2:Nat) (h1:zli L x x.heap.size A1 ds) (h2:zlh L x x.heap.size A2 ps)=>zmL L ds ps A1 A2 c1 c2 G x h1 h2 hs.z hs.g);unfold grC at HP ad;clear hr hc hs ac
 go_enter Tryz.func25,Tryz.ntmps25
 go_wp2_with fail
 refine HP.o.mono ?_;rintro _ w2 ⟨dv,pv,rfl,ai,aj,ae⟩;obtain⟨A1,c1,rfl,ak⟩:=zhX ai;obtain⟨A2,c2,rfl,al⟩:=zhb aj;have b:=(ae.block w.heap.size (by simp)).trans ap.o;have az:=aA b;have am:=aA (ad.o.trans (ae.mono ad.o.size));have aq:=(Ac.1 b).1;obtain⟨w3,ab⟩:∃x,x=w2.alloc (.cells #[.slice A1 ds.length c1,.slice A2 ps.length c2] 114):=⟨_,rfl⟩
 have af:Hid (Below w.heap.size w w3):=aA (by rw[ab];exact am.o.alloc am.o.size _);have d:Below w2.heap.size w2 w3:=by rw[ab];exact(Aq _ _).alloc (Ad _) _
 have ao:Hid (w3.heap[w.heap.size]?=some (.cells grC 26 (0,0))):=aA ((d.block _ aq).trans b);have ar:w2.heap.size<=w3.heap.size:=d.size
 have HC:=aA (ah.o w3 A1 A2 c1 c2 (fun hn=>by
   obtain⟨g,o,e,h1,h2⟩:=(ak.keep d) hn;refine⟨g,o,e,by omega,fun i hi=>?_⟩;obtain⟨k1,A',c',k2,k3⟩:=h2 i hi;exact⟨k1,A',c',k2,fun hn=>by obtain⟨g,o,e,q1,q2⟩:=k3 hn;exact⟨g,o,e,by omega,q2⟩⟩) (fun hn=>by
   obtain⟨g,o,e,h1,h2⟩:=(al.keep d) hn;refine⟨g,o,e,by omega,fun i hi=>?_⟩;obtain⟨k1,k2,⟨A',c',k3,k4⟩,k5⟩:=h2 i hi;exact⟨k1,k2,⟨A',c',k3,fun hn=>by obtain⟨g,o,e,q1,q2⟩:=k4 hn;exact⟨g,o,e,by omega,q2⟩⟩,k5⟩))
 rw[ab]at HC af ao;clear ae b ai aj ak al ab d ar ah;go_wp2_with fail
 refine HC.o.mono ?_;rintro _ w4 ⟨⟨g,rfl,au,aa⟩,ag⟩;have b:=(ag.block w.heap.size (by simp;omega)).trans ao.o;have g0:=aM b;have g1:=aR b;have g2:=bF b;have g3:=bQ b;have f0:=AD w4 _ 0 _ _ b;have f1:=AD w4 _ 1 _ _ b;have f2:=AD w4 _ 2 _ _ b;have f3:=AD w4 _ 3 _ _ b;have av:=(Ac.1 b).1;have aw:=aA (af.o.trans (ag.mono af.o.size));obtain⟨B,N,R,cs,vT,vN,vR,rfl,h,hN⟩:=au;obtain⟨⟨AT,cT,rfl⟩,⟨AN,cN,rfl⟩,⟨AR,cR,rfl⟩⟩:=zas h;have ax:=aA (fun u0 u1 u2 u3=>(h.more hN).grown (aF (aF (aF (aF (AI w4 (some w.heap.size)) 0 u0) 1 u1) 2 u2) 3 u3) (⟨fun g e=>by injection e with e;subst e;exact⟨_,_,b,by decide,by decide,by decide,.inl ⟨by decide,by decide⟩⟩⟩));have ay:=aA aa;clear ag b h hN aa;go_wp2;refine BM (v:=.tuple #[.agg #[.slice AT G.ts.length cT,.slice AN G.ns.length cN,.slice AR G.rs.length cR,.int .i64 G.st],.complex .f64 0 0,.int .i64 0]) (by simp[results,Tryz.results25,go_sem,g0,g1,g2,g3]) rfl ?_;exact⟨⟨_,rfl,(ax.o _ _ _ _).rd (by simp) G.st,ay.o⟩,zaP (zaP (zaP (zaP aw.o _ (Ad _)) _ (Ad _)) _ (Ad _)) _ (Ad _)⟩
def txB (s:List Int):Bool:=(s.all fun z=>decide (0<=z)&&decide (z<256))&&decide (s.length<=100)
def zm4 (x:Tok):Bool:=txB x.t&&Gm.named x.t && !(x.t==[101,114,114,111,114])
def dcB (d:Y.Dcl):Bool:=(d.k==4||d.k==5)&&(d.ns.all fun x=>txB x.t&&Gm.named x.t)&&decide (d.ns.length<=1000)
def pdB (p:Y.Prd):Bool:=txB p.l.t&&T.isName p.l.t&&(p.r.all zm4)&&(match p.p with|none=>true|some x=>zm4 x)&&decide (p.r.length<=1000)
def ezB (ds:List Y.Dcl) (ps:List Y.Prd):Bool:=ds.all dcB&&ps.all pdB&&decide (ds.length<=1000)&&decide (ps.length<=1000)&&decide (0<ps.length)
theorem zgp {s:List Int} (h:txB s=true):K.Tx s:=by
 unfold txB at h;rw[AQ,AV]at h;exact⟨zan _ h.1,by omega⟩
theorem zg5 (h:zm4 x=true):znX x:=by
 unfold zm4 at h;simp only[AQ]at h;exact⟨zgp h.1.1,h.1.2,by simpa using h.2⟩
theorem zmB {ps:List Y.Prd} (h:ezB ds ps=true):Ez ds ps:=by
 unfold ezB at h;simp only[AQ,AV,BP]at h;obtain⟨⟨⟨⟨h1,h2⟩,h3⟩,h4⟩,h5⟩:=h;refine⟨fun d hd=>?_,fun d hd=>?_,fun p hp=>?_,fun p hp=>?_,h3,h4,h5⟩
 ·have:=h1 d hd
  unfold dcB at this;simp only[AQ,CI,BH]at this;exact this.1.1
 ·have:=h1 d hd
  unfold dcB at this;simp only[AQ,BP,AV]at this;exact⟨fun x hx=>⟨zgp (this.1.2 x hx).1,(this.1.2 x hx).2⟩,by omega⟩
 ·have:=h2 p hp
  unfold pdB at this;simp only[AQ]at this;exact⟨zgp this.1.1.1.1,this.1.1.1.2⟩
 ·have:=h2 p hp
  unfold pdB at this;simp only[AQ,BP,AV]at this;refine⟨fun x hx=>zg5 (this.1.1.2 x hx),fun x hx=>?_,this.2⟩;have h6:=this.1.2;rw[hx]at h6;exact zg5 h6
def gr9 (L:List Int):Option Gm.Gr :=
 match zkb L with
 | .ok xs=>match Y.decls (xs.length+1) [] xs with
  | .ok ds m=>match Y.take [9] m with
   | .ok _ m2=>match Y.group [] m2 with
    | .ok p1 r1=>match Y.more (r1.length+1) p1 r1 with
     | .ok ps []=>match ezB ds ps,Gm.build ds ps with
      | true,.ok G=>some G
      | _,_=>none
     | _=>none
    | _=>none
   | _=>none
  | _=>none
 | _=>none
theorem zmw {L:List Int} (hb:(L.all fun z=>decide (0<=z)&&decide (z<256))=true) (hn:L.length<=2000) (h:gr9 L=some G):∃xs ds ps,Sr9 L xs ds ps G:=by
 unfold gr9 at h;split at h
 ·rename_i xs h1
  split at h
  ·rename_i ds m h2
   split at h
   ·rename_i t9 m2 h3
    split at h
    ·rename_i p1 r1 h4
     split at h
     ·rename_i ps h7
      split at h
      ·rename_i h5 h6
       injection h with h;subst h;exact⟨xs,ds,ps,zan _ hb,hn,h1,⟨m,t9,m2,p1,r1,_,h2,h3,h4,h7⟩,zmB h5,h6⟩
      ·cases h
     ·cases h
    ·cases h
   ·cases h
  ·cases h
 ·cases h
theorem zcd (L:List Int) (G:Gm.Gr) (hb:(L.all fun z=>decide (0<=z)&&decide (z<256))=true) (hl:L.length<=2000) (hg:gr9 L=some G) (w:World) (n:Nat) (hw:n=w.heap.size) :
  Calls Tryz.prog 25 #[.slice (some ⟨n,0,none⟩) L.length L.length] (w.alloc (zbq L)) fun e w'=>(∃g,e=.returned (.tuple #[g,.complex .f64 0 0,.int .i64 0])/\aQ w' w'.heap.size g G/\Gm.Fit G)/\Below w.heap.size w w':=by
 subst hw;obtain⟨xs,ds,ps,hs⟩:=zmw hb hl hg;obtain⟨r1,r2⟩:=litM w L;exact(zmv _ L.length L xs ds ps G _ r1 (Ad _) hs).mono fun e w' h=>⟨h.1,r2.trans (h.2.mono r2.size)⟩
def zmD:List Int:=[37,37,32,115,32,58,32,39,97,39,32,115,32,124,32,59]
def a7:Gm.Gr:=⟨[⟨[39,97,39],0,0⟩],[[115]],[⟨0,[0,-1],0⟩,⟨0,[],-1⟩],0⟩
theorem znM:gr9 zmD=some a7:=by kernel_rfl
theorem zbe:Gm.right a7=true:=by decide +kernel
theorem zkt:Gm.gn true a7.rs a7.ns.length=[true]:=by
 rw[<-Gm.grow_gn (Gm.right_ok.1 zbe).lin];decide +kernel
theorem znp:Gm.rc a7=[true]:=by
 have h:=Gm.right_ok.1 zbe;rw[<-Gm.reach_rc h.lin h.sin h.s0 h.s1,zkt];decide +kernel
theorem zlM:Gm.rdE a7=0:=Gm.rdE_ok zbe (by
 have aa:=Gm.right_ok.1 zbe;have h0:=aa.s0;have h1:=aa.s1
 have e:Gm.tr (Gm.Gn true a7.rs a7.st)=(Gm.gn true a7.rs a7.ns.length).getD a7.st.toNat false:=by
  rw[Gm.gn_at _ _ _ _ (by omega),Br h0]
 rw[e,zkt];decide)
theorem znd {x:Gm.Rl} (hx:x∈a7.rs):Gm.use a7 x=Gm.rcB [true] [true] x:=by
 rw[<-Gm.use_rcB (Gm.right_ok.1 zbe) hx,zkt,znp]
theorem zmi:Gm.krs a7=[⟨0,[0,-1],0⟩,⟨0,[],-1⟩]:=by
 have e:Gm.krs a7=a7.rs.filter (Gm.rcB [true] [true]):=List.filter_congr fun x hx=>znd hx;exact e.trans (by kernel_rfl)
theorem zlV:Gm.olds a7=[0]:=by unfold Gm.olds;rw[zmi];decide +kernel
theorem znn:Gm.reduce a7=a7:=by unfold Gm.reduce;rw[zmi,zlV];rfl
theorem zkN:Gm.isB a7=true:=by
 unfold Gm.isB Gm.rdG;rw[Ap zlM,znn,zlM,Gm.same_self];rfl
def znG:List (List Au.It):=[[(-1,0)],[(0,1)],[(-1,1)],[(0,2)]]
def es15:List (List (Int×Int)):=[[(0,1),(-1,2)],[(0,1),(-1,3)],[],[]]
theorem zk5:Au.bld a7=some (znG,es15):=Au.bld_c (by decide +kernel)
theorem zmQ:Au.bldE a7=0:=(Au.bld_ok zkN zk5).1
theorem zlJ:Gm.right Gm.gr0=false:=by decide +kernel
theorem isB0:Gm.isB Gm.gr0=false:=by
 cases h:Gm.isB Gm.gr0
 ·rfl
 ·have:=Gm.isB_right h
  rw[zlJ]at this;cases this
theorem znU:Au.bldE Gm.gr0=1:=(Au.bld_no isB0).1
namespace Tb
abbrev Ce:=Int×Int
def how (G:Gm.Gr) (k t:Int):Int :=
 let p:=(G.rs.getD k.toNat ⟨0,[],0⟩).p
 if t=G.ts.length\/p<0\/(G.ts.getD p.toNat ⟨[],0,0⟩).lv=0\/(G.ts.getD t.toNat ⟨[],0,0⟩).lv=0 then 4
 else
  let a:=(G.ts.getD p.toNat ⟨[],0,0⟩).lv
  let b:=(G.ts.getD t.toNat ⟨[],0,0⟩).lv
  let y:=(G.ts.getD t.toNat ⟨[],0,0⟩).wy
  if a > b\/a=b/\y=1 then 1 else if a<b\/y=2 then 2 else 3
def settle (G:Gm.Gr) (k t:Int):Int:=if Gm.right G=true/\0<=k/\k<G.rs.length/\0<=t/\t<=G.ts.length then how G k t else 0
theorem how_in (G:Gm.Gr) (k t:Int):how G k t=1\/how G k t=2\/how G k t=3\/how G k t=4:=by
 unfold how;simp only;split
 ·simp
 ·split
  ·simp
  ·split <;> simp
def za0:List (Int×Int)->Int->Int
 | [],_=>-1
 | e::l,s=>if e.1=s then e.2 else za0 l s
theorem zhW {l:List (Int×Int)} (h:∀e∈l,e.1≠s):za0 l s = -1:=by
 induction l with
 | nil=>rfl
 | cons e l ih=>rw[za0,AB (h e Bf),ih fun x hx=>h x (Bh _ hx)]
def shift (G:Gm.Gr) (k:List Au.It) (ed:List (Int×Int)) (t:Int):Ce :=
 if t∈ed.map (·.1) then(1,za0 ed t) else if t=G.ts.length/\((-1:Int),(1:Int))∈k then(3,0) else(0,0)
abbrev Cf:=Int×Int×Int×Int
def cell (G:Gm.Gr) (x:Ce) (t:Int):List Int->Ce×List Cf
 | []=>(x,[])
 | k::ks =>
  let out:=ks.map fun j=>(t,5,j,k)
  if x.1=0 then((2,k),out)
  else
   (if how G k t=1 then(2,k) else if how G k t=3 then(0,0) else x,out++[(t,how G k t,k,-1)])
def one (b:Bool):Nat:=if b then 1 else 0
end Tb
theorem Gm.rule_p {x:Gm.Rl} (h:Gm.rule G x=true):x.p<G.ts.length:=by
 unfold Gm.rule at h;simp only[AQ,AV]at h;omega
namespace Tb
def lvO (G:Gm.Gr) (z:Int):Int:=if 0<=z/\z<G.ts.length then(G.ts.getD z.toNat ⟨[],0,0⟩).lv else 0
theorem lvO_at (h:k<G.ts.length):lvO G (k:Int)=(G.ts[k]).lv:=by
 unfold lvO;rw[Ap ⟨by omega,by omega⟩,BZ,Ai,Ar h];rfl
theorem lvO_no (h:¬(0<=z/\z<G.ts.length)):lvO G z=0:=AB h
theorem how_lv {k:Int} (hp:(G.rs.getD k.toNat ⟨0,[],0⟩).p<G.ts.length) (h0:0<=t) (h1:t<=G.ts.length):how G k t =
  if lvO G (G.rs.getD k.toNat ⟨0,[],0⟩).p=0\/lvO G t=0 then 4
  else if lvO G (G.rs.getD k.toNat ⟨0,[],0⟩).p > lvO G t then 1
  else if lvO G (G.rs.getD k.toNat ⟨0,[],0⟩).p<lvO G t then 2
  else if(G.ts.getD t.toNat ⟨[],0,0⟩).wy=1 then 1 else if(G.ts.getD t.toNat ⟨[],0,0⟩).wy=2 then 2 else 3:=by
 unfold how;simp only;generalize (G.rs.getD k.toNat ⟨0,[],0⟩).p=p at *;by_cases ht:t=G.ts.length
 ·rw[Ap (.inl ht),Ap (.inr (lvO_no (by omega)))]
 ·by_cases aa:p<0
  ·rw[Ap (.inr (.inl aa)),Ap (.inl (lvO_no (by omega)))]
  ·have e1:lvO G p=(G.ts.getD p.toNat ⟨[],0,0⟩).lv:=Ap ⟨by omega,hp⟩;have e2:lvO G t=(G.ts.getD t.toNat ⟨[],0,0⟩).lv:=Ap ⟨h0,by omega⟩;rw[e1,e2];generalize (G.ts.getD p.toNat ⟨[],0,0⟩).lv=a;generalize (G.ts.getD t.toNat ⟨[],0,0⟩).lv=b;generalize (G.ts.getD t.toNat ⟨[],0,0⟩).wy=y;by_cases hz:a=0\/b=0
   ·rw[Ap hz,Ap (by rcases hz with h|h <;> simp[h])]
   ·rw[AB hz,AB (by simp only[not_or]at hz ⊢;exact⟨ht,aa,hz⟩)];rcases Int.lt_trichotomy a b with h|h|h
    ·rw[AB (by omega),Ap (.inl h),AB (by omega),Ap h]
    ·subst h;by_cases h1:y=1
     ·rw[Ap (.inr ⟨rfl,h1⟩),AB (by omega),AB (by omega),Ap h1]
     ·rw[AB (by omega),AB (Int.lt_irrefl a:¬a > a),AB (Int.lt_irrefl a),AB h1];by_cases h2:y=2
      ·rw[Ap (.inr h2),Ap h2]
      ·rw[AB (by omega),AB h2]
    ·rw[Ap (.inl h),Ap h]
end Tb
theorem zaL (a b:Int) (w:World) :
  Calls Tryz.prog 40 #[.int .i64 a,.int .i64 b] w fun e w'=>e=.returned (.bool (decide (0<=a)&&decide (a<b)))/\w'=w:=by
 by_cases h:0<=a <;> by_cases h2:a<b
 all_goals
  have H:=aA h;have H2:=aA h2;clear h2
  go_enter Tryz.func40,Tryz.ntmps40
  go_wp2;go_ret
  exact⟨aD (by have h:=H.o;have h2:=H2.o;simp[h,h2]),rfl⟩
theorem zcv (z:Int) (w:World) :
  Calls Tryz.prog 61 #[.int .i64 z] w fun e w'=>e=.returned (.bool (decide (z<0)))/\w'=w:=by
 go_enter Tryz.func61,Tryz.ntmps61
 go_wp2;go_ret
 exact⟨rfl,rfl⟩
theorem ziv (z:Int) (hz:-9223372036854775808<=z) (aa:z<=9223372036854775807) (w:World) :
  Calls Tryz.prog 64 #[.int .i64 z] w fun e w'=>e=.returned (.int .i64 (-1-z))/\w'=w:=by
 have hs:IntKind.i64.wrap (-1-z) = -1-z:=Cr _ (by omega);clear hz aa
 go_enter Tryz.func64,Tryz.ntmps64
 go_wp2;go_ret
 exact⟨rfl,rfl⟩
theorem zfD (v:Value) (G:Gm.Gr) (B:Nat) (z:Int) (w:World) (hg:aQ w B v G) (hB:B<=w.heap.size) :
  Calls Tryz.prog 77 #[v,.int .i64 z] w fun e w'=>e=.returned (.int .i64 (Tb.lvO G z))/\Below w.heap.size w w':=by
 have HX:=aA (fun w=>zaL z G.ts.length w);have ae:=aA hB;obtain⟨AT,cT,AN,cN,AR,cR,rfl,⟨ab,ac⟩,_,_,hT,_,_⟩:=hg;have aa:=aA (bA.start 26 w #[.slice AT G.ts.length cT,.slice AN G.ns.length cN,.slice AR G.rs.length cR,.int .i64 G.st]);have x0:=aa.o.c 0 _ rfl;have HT:=aA hT;clear hB hT;by_cases h:0<=z/\z<G.ts.length
 ·obtain⟨k,rfl⟩:∃k:Nat,z=k:=⟨z.toNat,by omega⟩
  have hk:k<G.ts.length:=by omega
  obtain⟨g,o,rfl,ad,hc⟩:=HT.o (by omega);have k1:=(aa.o.below.cell (p:=⟨g,o+k*3+1,none⟩) (Ao ad ae.o)).trans (hc k hk).2.1;have HL:=aA (Tb.lvO_at hk);have af:(k:Int)<(G.ts.length:Int):=by omega
  rw[show(decide ((0:Int)<=k)&&decide ((k:Int)<(G.ts.length:Int)))=true by simp[hk]]at HX;rw[HL.o];clear hc h ad ab ac;generalize (G.ts[k]).lv=lv at *
  go_enter Tryz.func77,Tryz.ntmps77
  go_wp2_with fail
  refine(HX.o _).mono ?_;rintro _ _ ⟨rfl,rfl⟩;go_wp2;go_ret
  exact⟨rfl,aa.o.below⟩
 ·have HL:=aA (Tb.lvO_no h)
  rw[show(decide (0<=z)&&decide (z<(G.ts.length:Int)))=false by
   rw[CG];simp only[ED];omega]at HX
  rw[HL.o];clear h ab ac
  go_enter Tryz.func77,Tryz.ntmps77
  go_wp2_with fail
  refine(HX.o _).mono ?_;rintro _ _ ⟨rfl,rfl⟩;go_wp2;go_ret
  exact⟨rfl,aa.o.below⟩
theorem zeJ (v:Value) (G:Gm.Gr) (B k t:Nat) (w:World) (hg:aQ w B v G) (hB:B<=w.heap.size) (hk:k<G.rs.length) (ht:t<=G.ts.length) (hp:(G.rs[k]).p<G.ts.length) :
  Calls Tryz.prog 41 #[v,.int .i64 k,.int .i64 t] w fun e w'=>e=.returned (.int .i64 (Tb.how G k t))/\Below w.heap.size w w':=by
 have ac:=aA (fun(z:Int) (x:World) (h:Below w.heap.size w x)=>zfD v G B z x (hg.below h hB) (Ag hB h.size));have ae:=aA hB;have e0:G.rs.getD ((k:Int)).toNat ⟨0,[],0⟩=G.rs[k]:=by rw[BZ,Ai,Ar hk];rfl
 have f:=aA (Tb.how_lv (G:=G) (k:=(k:Int)) (t:=(t:Int)) (by rw[e0];exact hp) (by omega) (by omega));rw[e0]at f;obtain⟨AT,cT,AN,cN,AR,cR,rfl,⟨aw,ax⟩,_,⟨ay,az⟩,hT,_,hR⟩:=hg;obtain⟨gR,oR,rfl,af,ag⟩:=hR (by omega);have hr:=(ag k hk).2.2;have a0:(k:Int)<(G.rs.length:Int):=by omega
 have a1:Hid (Tb.lvO G (t:Int)≠0->(t:Int)<(G.ts.length:Int)):=aA (fun h=>by
  by_cases q:t<G.ts.length
  ·omega
  ·exact absurd (Tb.lvO_no (by omega)) h)
 generalize (G.rs[k]).p=p at *;generalize Tb.how G k t=hw at *;have ah:=aA (ac.o p);have ai:=aA (ac.o t);generalize Tb.lvO G p=a at *;generalize Tb.lvO G (t:Int)=b at *;have HT:=aA hT;have a2:=aA af;obtain⟨w1,ad⟩:∃y,y=w.alloc (.cells #[.slice AT G.ts.length cT,.slice AN G.ns.length cN,.slice (some ⟨gR,oR,none⟩) G.rs.length cR,.int .i64 G.st] 26):=⟨_,rfl⟩
 have i:Hid (bA 26 w #[.slice AT G.ts.length cT,.slice AN G.ns.length cN,.slice (some ⟨gR,oR,none⟩) G.rs.length cR,.int .i64 G.st] w1):=aA (by rw[ad];exact bA.start _ _ _);have q0:=fun y:Calm.On w1.heap.size w1=>(i.o.on y.2).c 0 _ rfl;have q1:=fun y:Calm.On w1.heap.size w1=>(i.o.on y.2).c 1 _ rfl;have q2:=fun y:Calm.On w1.heap.size w1=>(i.o.on y.2).c 2 _ rfl;have q3:=fun y:Calm.On w1.heap.size w1=>(i.o.on y.2).c 3 _ rfl;have q4:=fun y:Calm.On w1.heap.size w1=>((i.o.on y.2).below.cell (p:=⟨gR,oR+k*3+2,none⟩) (Ao a2.o ae.o)).trans hr;clear hT hR ag af hr aw ax ay az ac hp ht hB e0
 go_enter Tryz.func41,Tryz.ntmps41
 go_upto_region 1 with fail
 rw[<-ad];clear ad;have l:Hid (Below w1.heap.size w1 w1.drew):=aA (aB (Aq _ _) 1);refine CalmN.region_tree (fun x=>∃y:Calm.On w1.heap.size w1,x=y.1) (.one [0,1,2,3,4,5,6,8,9] 7 (.one [] 10 (.fin [11,12]))) (by kernel_rfl) (by kernel_rfl) (fun _ _ d _ _ h=>by cases d <;> exact h) ⟨⟨w1.drew,l.o⟩,rfl⟩ ?_;simp only[CalmN.wpT,CalmN.wpSt,CalmN.pickOps,Am,Af,Ah];repeat (go_big_quiet_step (fail))
 refine Aj ?_;clear q0 q1 q2 q3 q4;generalize w1.drew=wd at *;have aj:=aA (i.o.on l.o);intro KK aa;rw[Ap (by rfl)];go_wp2_with fail
 refine(ah.o wd aj.o.below).mono ?_;rintro _ w3 ⟨rfl,ak⟩;have j:=aA (l.o.trans (ak.mono l.o.size));have al:=aA (i.o.on j.o);clear ak;go_wp2_with fail
 refine aa _ _ ⟨⟨w3,j.o⟩,rfl⟩ _ (fun _ h=>h) ⟨⟨w3,j.o⟩,rfl⟩ ?_;refine Aj ?_;intro KK aa;rw[Ap (by rfl)];go_wp2_with fail
 refine(ai.o w3 al.o.below).mono ?_;rintro _ w4 ⟨rfl,am⟩;have ab:=aA (j.o.trans (am.mono j.o.size));have g:=aA (i.o.on ab.o);clear am;go_wp2_with fail
 refine aa _ _ ⟨⟨w4,ab.o⟩,rfl⟩ _ (fun _ h=>h) ⟨⟨w4,ab.o⟩,rfl⟩ ?_;clear aa;repeat (go_big_quiet_step (fail))
 refine Aj ?_;clear ah ai l aj j al ab a0;by_cases hz:a=0\/b=0
 ·have HE:=aA (f.o.trans (Ap hz));have ao:(a==0||b==0)=true:=by simpa using hz
  clear hz;rcases Bool.or_eq_true_iff.1 ao with h|h
  ·go_wp2;go_ret
   exact⟨aP HE.o.symm,g.o.below⟩
  ·cases h0:(a==0)
   all_goals
    clear ao;go_wp2;go_ret
    exact⟨aP HE.o.symm,g.o.below⟩
 ·have f:=aA (f.o.trans (AB hz));have h1:(a==0)=false:=by simp only[not_or]at hz;simpa using hz.1
  have h2:(b==0)=false:=by simp only[not_or]at hz;simpa using hz.2
  have a3:=a1.o (fun e=>hz (.inr e));clear hz;by_cases ap:a > b
  ·have HE:=aA (f.o.trans (Ap ap));go_wp2;go_ret
   exact⟨aP HE.o.symm,g.o.below⟩
  ·have f:=aA (f.o.trans (AB ap));by_cases aq:a<b
   ·have HE:=aA (f.o.trans (Ap aq));go_wp2;go_ret
    exact⟨aP HE.o.symm,g.o.below⟩
   ·have f:=aA (f.o.trans (AB aq));have ar:t<G.ts.length:=by omega
    obtain⟨gT,oT,rfl,au,av⟩:=HT.o (by omega);have x0:=g.o.c 0 _ rfl;have x2:=(g.o.below.cell (p:=⟨gT,oT+t*3+2,none⟩) (Ao au ae.o)).trans (av t ar).2.2;have e1:G.ts.getD ((t:Int)).toNat ⟨[],0,0⟩=G.ts[t]:=by rw[BZ,Ai,Ar ar];rfl
    rw[e1]at f;clear e1 av au;generalize (G.ts[t]).wy=y at *;by_cases m:y=1
    ·have HE:=aA (f.o.trans (Ap m));subst m;go_wp2;go_ret
     exact⟨aP HE.o.symm,g.o.below⟩
    ·have f:=aA (f.o.trans (AB m));have b1:(y==1)=false:=by simpa using m
     clear m;by_cases n:y=2
     ·have HE:=aA (f.o.trans (Ap n));subst n;go_wp2;go_ret
      exact⟨aP HE.o.symm,g.o.below⟩
     ·have HE:=aA (f.o.trans (AB n));have b2:(y==2)=false:=by simpa using n
      clear n;go_wp2;go_ret
      exact⟨aP HE.o.symm,g.o.below⟩
theorem zeb (v:Value) (G:Gm.Gr) (B:Nat) (k t:Int) (w:World) (hg:aQ w B v G) (hf:Gm.Fit G) (hB:B<=w.heap.size) :
  Calls Tryz.prog 19 #[v,.int .i64 k,.int .i64 t] w fun e w'=>e=.returned (.int .i64 (Tb.settle G k t))/\Below w.heap.size w w':=by
 have H1:=aA (fun(x:World) (h:Below w.heap.size w x)=>zaq v G B x (hg.below h hB) hf (Ag hB h.size));have HR:=aA (fun x=>zaL k G.rs.length x);have HT:=aA (fun x=>zaL t ((G.ts.length:Int)+1) x);have ah:=aA (fun(x:World) (h:Below w.heap.size w x)=>hg.below h hB);have ai:=aA hB;obtain⟨AT,cT,AN,cN,AR,cR,rfl,⟨ab,ac⟩,_,⟨ad,ae⟩,_,_,_⟩:=hg;have d:=aA (bA.start 26 w #[.slice AT G.ts.length cT,.slice AN G.ns.length cN,.slice AR G.rs.length cR,.int .i64 G.st]);have x0:=d.o.c 0 _ rfl;have x1:=d.o.c 1 _ rfl;have x2:=d.o.c 2 _ rfl;have x3:=d.o.c 3 _ rfl;have f:Hid (Tb.settle G k t=if Gm.right G=true/\0<=k/\k<G.rs.length/\0<=t/\t<=G.ts.length then Tb.how G k t else 0):=aA rfl;cases q:Gm.right G
 ·rw[q]at H1;have HE:=aA (f.o.trans (AB (by rw[q];simp)));rw[HE.o];clear q HR HT x1 x2 x3 ab ac ad ae f
  go_enter Tryz.func19,Tryz.ntmps19
  go_wp2_with fail
  refine(H1.o _ d.o.below).mono ?_;rintro _ w2 ⟨rfl,hb⟩;have b:=aA (d.o.on hb);clear hb x0;go_wp2;go_ret
  exact⟨rfl,b.o.below⟩
 ·rw[q]at H1;have ag:=Gm.right_ok.1 q;have aa:=((Gm.terms_iff G.ts).1 ag.t).1;have aj:IntKind.i64.wrap ((G.ts.length:Int)+1)=(G.ts.length:Int)+1:=Cr _ (by omega);have af:=aA (fun(x:World) (h:Below w.heap.size w x) (i j:Nat) (hi:i<G.rs.length) (hj:j<=G.ts.length)=>zeJ _ G B i j x (ah.o x h) (Ag ai.o h.size) hi hj (Gm.rule_p (ag.rr _ (Ay hi))));clear ag ah;cases hk:(decide (0<=k)&&decide (k<(G.rs.length:Int)))
  ·rw[hk]at HR;have HE:=aA (f.o.trans (AB (by intro h;simp[h.2.1,h.2.2.1]at hk)));rw[HE.o];clear q HT ab ac ad ae f hk aa aj af
   go_enter Tryz.func19,Tryz.ntmps19
   go_wp2_with fail
   refine(H1.o _ d.o.below).mono ?_;rintro _ w2 ⟨rfl,hb⟩;have b:=aA (d.o.on hb);clear hb x0 x1 x2 x3;have x0:=b.o.c 0 _ rfl;have x2:=b.o.c 2 _ rfl;go_wp2_with fail
   refine(HR.o _).mono ?_;rintro _ _ ⟨rfl,rfl⟩;go_wp2;go_ret
   exact⟨rfl,b.o.below⟩
  ·rw[hk]at HR;cases ht:(decide (0<=t)&&decide (t<(G.ts.length:Int)+1))
   ·rw[ht]at HT;have HE:=aA (f.o.trans (AB (by intro h;have:=h.2.2.2.1;have:=h.2.2.2.2;simp at ht;omega)));rw[HE.o];clear q ab ac ad ae f hk aa ht af
    go_enter Tryz.func19,Tryz.ntmps19
    go_wp2_with fail
    refine(H1.o _ d.o.below).mono ?_;rintro _ w2 ⟨rfl,hb⟩;have b:=aA (d.o.on hb);clear hb x0 x1 x2 x3;have x0:=b.o.c 0 _ rfl;have x2:=b.o.c 2 _ rfl;go_wp2_with fail
    refine(HR.o _).mono ?_;rintro _ _ ⟨rfl,rfl⟩;go_wp2_with fail
    refine(HT.o _).mono ?_;rintro _ _ ⟨rfl,rfl⟩;go_wp2;go_ret
    exact⟨rfl,b.o.below⟩
   ·rw[ht]at HT;rw[AQ,AV,AV]at hk ht;have HE:=aA (f.o.trans (Ap ⟨q,hk.1,hk.2,ht.1,by omega⟩));rw[HE.o];obtain⟨i,rfl⟩:∃i:Nat,k=i:=⟨k.toNat,by omega⟩
    obtain⟨j,rfl⟩:∃j:Nat,t=j:=⟨t.toNat,by omega⟩
    have HK:=aA (fun(x:World) (h:Below w.heap.size w x)=>af.o x h i j (by omega) (by omega));clear q ab ac ad ae f hk aa ht af
    go_enter Tryz.func19,Tryz.ntmps19
    go_wp2_with fail
    refine(H1.o _ d.o.below).mono ?_;rintro _ w2 ⟨rfl,hb⟩;have b:=aA (d.o.on hb);clear hb x0 x1 x2 x3;have x0:=b.o.c 0 _ rfl;have x1:=b.o.c 1 _ rfl;have x2:=b.o.c 2 _ rfl;have x3:=b.o.c 3 _ rfl;go_wp2_with fail
    refine(HR.o _).mono ?_;rintro _ _ ⟨rfl,rfl⟩;go_wp2_with fail
    refine(HT.o _).mono ?_;rintro _ _ ⟨rfl,rfl⟩;go_wp2_with fail
    refine(HK.o _ b.o.below).mono ?_;rintro _ w3 ⟨rfl,hb⟩;have ak:=aA (b.o.on hb);clear hb x0 x1 x2 x3;go_wp2;go_ret
    exact⟨rfl,ak.o.below⟩
def zdt (v:Int) (N k:Nat):List Int:=List.replicate k v++List.replicate (N-k) 0
theorem zeP {v:Int} (h:k<=N):(zdt v N k).length=N:=by unfold zdt;simp;omega
theorem ziM (v:Int) (N:Nat):zdt v N N=List.replicate N v:=by unfold zdt;simp
theorem zg2 {v:Int} {c:Nat} (h:k+c<=N):((zdt v N k).map (Value.int .i64)).take k++List.replicate c (Value.int .i64 v)++((zdt v N k).map (Value.int .i64)).drop (k+c)=(zdt v N (k+c)).map (Value.int .i64):=by
 unfold zdt;rw[AW,AW,DZ,DZ,DZ,DZ];rw[List.take_append_of_le_length (by simp),List.drop_append,Cb (by simp),List.drop_of_length_le (by simp),De,Ea,List.drop_replicate,List.replicate_append_replicate]
 congr 2
 omega
theorem ziL {v:Int} {j:Nat} (hj:j<k):(zdt v N k).getD j 0=v:=by
 unfold zdt;rw[Ai,Bw (by simpa using hj),Cu,Ap hj];rfl
theorem zhG (n:Nat) (h:n<=1000000):IntKind.u64.wrap (n:Int)=(n:Int):=by
 unfold IntKind.wrap;simp[IntKind.bits,IntKind.signed];omega
theorem ziK (w:World) (g N k:Nat) (v:Int) (hk:k<N) (hu:UBI w g (zdt v N k)) :
  ∃w',(Builtin.copy_ #[51,51] 3 #[.slice (some ⟨g,k,none⟩) (N-k) (N-k),.slice (some ⟨g,0,none⟩) k N]).run Tryz.prog w=.ok (goInt ((min k (N-k):Nat):Int)) w'/\UBI w' g (zdt v N (k+min k (N-k)))/\w.grownBy w' (some g):=by
 have h:=run_copy_row (P:=Tryz.prog) w 51 51 3 3 g k (N-k) (N-k) ⟨g,0,none⟩ k N _ _ (List.replicate (min k (N-k)) (Value.int .i64 v)) (by kernel_rfl) (by kernel_rfl) hu (by simp)
  (fun j u hj=>by
   rw[Cu]at hj;split at hj
   ·rename_i hl
    injection hj with hj;subst hj;have e:((⟨g,0,none⟩:Addr).add j)=⟨g,j,none⟩:=by unfold Addr.add;by_cases h0:j=0 <;> simp[h0]
    rw[e,hu.cell j (by rw[zeP (by omega)];omega),ziL (by omega)]
   ·cases hj)
  (by simp[zeP (CB hk)];omega) (by intro u hu;rw[(List.mem_replicate.1 hu).2];rfl)
 rw[Ea]at h;refine⟨_,h,?_,zbC w g _⟩;unfold UBI;rw[setRow_heap w g _ _ _ _ hu]
 have:=zg2 (v:=v) (N:=N) (k:=k) (c:=min k (N-k)) (by omega)
 rw[<-this]
theorem zep (v:Int) (N cx B:Nat) (A:Option Addr) (w:World) (hr:RdI w B A [v]) (hB:B<=w.heap.size) (hN:1<=N) (ad:N<=1000000) :
  Calls Tryz.prog 63 #[.slice A 1 cx,.int .i64 (N:Int)] w fun e w'=>∃g,e=.returned (.slice (some ⟨g,0,none⟩) N N)/\w.heap.size<=g/\UBI w' g (List.replicate N v)/\Below w.heap.size w w':=by
 have HR:=aA hr;have HB:=aA hB;have e1:1*N / 18446744073709551616=0:=by omega
 have e2:1*N % 18446744073709551616=N:=by omega
 have HM:=aA (show Calls Tryz.prog 101 #[.int .u64 1,.int .u64 (N:Int)] w (fun e w'=>e=.returned (.tuple #[.int .u64 0,.int .u64 (N:Int)])/\w'=w) from by have h:=Tryz.bits_Mul 1 N (by decide) (by omega) w;rw[e1,e2]at h;exact h);have a0:IntKind.u64.wrap (1:Int)=1:=zhG 1 (by decide);have a1:IntKind.u64.wrap (N:Int)=(N:Int):=zhG N ad;have bh:IntKind.i64.wrap (N:Int)=(N:Int):=Cr _ (by omega);have a2:decide (9223372036854775807<N)=false:=AM (by omega);have a3:decide ((9223372036854775807:Int)<(N:Int))=false:=AM (by omega);have HN:=aA hN;have a4:=aA ad;clear hr hB hN ad e1 e2
 go_enter Tryz.func63,Tryz.ntmps63
 go_upto_region 6 with fail
 refine HM.o.mono ?_;rintro _ w ⟨rfl,rfl⟩;go_upto_region 6 with fail
 have a5:=HN.o;have bi:=a4.o;go_upto_region 7 with(at_make;refine zem rfl (.tmp 29) (.tmp 29) _ rfl Tryz.underlying51 N _ _ rfl rfl rfl rfl (by omega) ?_;intro w2 ag ah aa)
 have ai:=aA ag;have aj:=aA ah;have ak:=aA (show w.heap.size<w2.heap.size from aa);have al:=aA (show N=(List.replicate N (0:Int)).length by simp);have am:=aA (show [v].length<=(List.replicate N (0:Int)).length by simp;omega);have ao:=aA (HR.o.below aj.o HB.o);clear ag ah aa;go_upto_region 8 with(with_reducible show wpList _ _ _ _ _ _;refine zk2 rfl (.tmp 31) (.tmp 32) _ _ rfl Tryz.underlying51 w.heap.size N N 1 cx B A (List.replicate N 0) [v] rfl rfl al.o rfl ai.o ao.o am.o ?_;intro w3 ap ae)
 have aq:Hid (UBI w3 w.heap.size (zdt v N 1)):=aA (by
  have e:[v]++(List.replicate N (0:Int)).drop [v].length=zdt v N 1:=by unfold zdt;simp
  rw[<-e];exact ap)
 have ar:Hid (Below w.heap.size w w3):=aA (zaa aj.o ae (Ad _) (CB ak.o));have a6:=aA (Ao ak.o ae.size);clear ap ae ai al am ao a5 a2 a3 a0 a1 HM;go_wp2;go_loopw [8] (fun vi wr=>∃k:Nat,1<=k/\k<=N/\vi=.int .i64 k/\Hid (UBI wr w.heap.size (zdt v N k))/\Hid (Below w.heap.size w wr)) (fun vi _=>N-(intOf vi).toNat)
 case atStart=>exact⟨1,Ad _,HN.o,rfl,aq,ar⟩
 case round =>
  clear aq ar a6;obtain⟨k,bj,hk,rfl,HU,HB⟩:=hrel;by_cases a9:k<N
  ·have S1:∀y:World,(Instr.sliceAt 51 (.slice (some ⟨w.heap.size,0,none⟩) N N) (some (.int .i64 k)) none none).run Tryz.prog y=.ok (.slice (some ⟨w.heap.size,k,none⟩) (N-k) (N-k)) y:=fun y=>by
    have h:=zaR y (some ⟨w.heap.size,0,none⟩) N N k hk;have e:((⟨w.heap.size,0,none⟩:Addr).add k)=⟨w.heap.size,k,none⟩:=by unfold Addr.add;by_cases h0:k=0 <;> simp[h0]
    unfold dropA at h;rw[AB (by omega),DF,e]at h;exact h
   have S2:=fun y:World=>zgM y (some ⟨w.heap.size,0,none⟩) N N k hk;have HC:=aA (fun y hu=>ziK y w.heap.size N k v a9 hu);obtain⟨c,hc⟩:∃c,c=min k (N-k):=⟨_,rfl⟩
   rw[<-hc]at HC;have au:1<=c/\k+c<=N:=by omega
   have ba:IntKind.i64.wrap ((k:Int)+(c:Int))=((k+c:Nat):Int):=by rw[Cr _ (by omega)];omega
   have ac:=aA au;have af:Hid (∀x,∃y:OnP [] wr,x=y.1):=aA (fun x=>⟨⟨x,fun g h=>by cases h⟩,rfl⟩);clear hc au;generalize bb:N-k=nk at *;clear bb;obtain⟨kc,av⟩:∃kc,kc=k+c:=⟨_,rfl⟩
   rw[<-av]at HC ac ba;have bc:=aA (show Value.int .i64 ((k:Int)+(c:Int))=.int .i64 (kc:Int) by rw[av];simp);go_upto_region 9 with fail
   refine CalmN.region_tree (fun x=>∃y:OnP [] wr,x=y.1) (.one [0,1,2,3,4,5,6] 7 (.fin [8,9])) (by kernel_rfl) (by kernel_rfl) (fun _ _ d _ _ h=>by cases d <;> exact h) (af.o _) ?_;simp only[CalmN.wpT,CalmN.wpSt,CalmN.pickOps,Am,Af,Ah];repeat (go_big_quiet_step (fail))
   refine Aj ?_;have bd:Hid (UBI wr.drew w.heap.size (zdt v N k)):=HU;have aw:Hid (Below w.heap.size w wr.drew):=aA (aB HB.o 1);generalize wr.drew=wd at *;intro KK ax;rw[Ap (by rfl)];obtain⟨we,ab,ay,az⟩:=HC.o wd bd.o;unfold Oper.wp;simp[execOp,resolve,invoke,builtin,Act.eval,ab,Result.andThen];have bf:=aA ay;have bg:Hid (Below w.heap.size w we):=aA (zaa aw.o az (Ad _) aw.o.size);clear ab ay az;refine ax _ _ (af.o _) _ (fun _ h=>h) (af.o _) ?_;clear ax
   go_frame
   repeat (go_big_quiet_step (fail))
   refine Aj ?_;clear HC S1 S2;go_wp2;go_roundw
   case rel=>exact⟨kc,by have:=ac.o;omega,by have:=ac.o;omega,bc.o,bf,bg⟩
   case measure=>simp[intOf];have:=ac.o;omega
  ·obtain rfl:k=N:=by omega
   rw[ziM]at HU;go_wp2;go_ret
   exact⟨_,rfl,Ad _,HU.o,HB.o⟩
theorem ziP {y x:Int×Int} (he:y≠x):(∃b,((y.1==x.1)=false/\(y.2==x.2)=b))\/((y.1==x.1)=true/\(y.2==x.2)=false):=by
 by_cases e1:y.1=x.1
 ·refine .inr ⟨by rw[BH];exact e1,?_⟩;rw[AY];exact fun e2=>he (Ew e1 e2)
 ·exact .inl ⟨_,by rw[AY];exact e1,rfl⟩
theorem zet (l:List Au.It) (x:Au.It) (A:Option Addr) (c B:Nat) (w:World) (hr:RdQ 2 prF w B A l) (hB:B<=w.heap.size) (hn:l.length<=1000000) :
  Calls Tryz.prog 100 #[.slice A l.length c,itV x] w fun e w'=>(∃k:Int,e=.returned (.int .i64 k)/\decide (0<=k)=decide (x∈l))/\Below w.heap.size w w':=by
 have HR:=aA hr;have HB:=aA hB;have ak:(l.length:Int)<=1000000:=by omega
 obtain⟨w1,aa⟩:∃y,y=w.alloc (.cells #[.int .i64 x.1,.int .i64 x.2] 61):=⟨_,rfl⟩
 have ae:Hid (bA 61 w #[.int .i64 x.1,.int .i64 x.2] w1):=aA (by rw[aa];exact bA.start _ _ _);clear hr hB hn
 go_enter Tryz.func100,Tryz.ntmps100
 go_upto_region 1 with fail
 rw[<-aa];clear aa;go_wp2;go_loopw [8] (fun vi wr=>∃i:Nat,i<=l.length/\vi=.int .i64 i/\Hid (x ∉ l.take i)/\Hid (bA 61 w #[.int .i64 x.1,.int .i64 x.2] wr)) (fun vi _=>l.length-(intOf vi).toNat)
 case atStart=>exact⟨0,AX _,rfl,aA (by simp),ae⟩
 case round =>
  clear ae;obtain⟨i,hi,rfl,HE,HW⟩:=hrel;rename World=>wr;by_cases b:i<l.length
  ·obtain⟨g,o,rfl,ab,hc⟩:=HR.o (by omega);have af:Hid (∃z:Calm.On wr.heap.size wr,wr.drew=z.1):=zbf wr;have k0:=fun y:Calm.On wr.heap.size wr=>((HW.o.on y.2).below.cell (p:=⟨g,o+i*2+0,none⟩) (Ao ab HB.o)).trans (hc i b 0 (.int .i64 (l[i]).1) rfl);have k1:=fun y:Calm.On wr.heap.size wr=>((HW.o.on y.2).below.cell (p:=⟨g,o+i*2+1,none⟩) (Ao ab HB.o)).trans (hc i b 1 (.int .i64 (l[i]).2) rfl);have l0:=fun y:Calm.On wr.heap.size wr=>(HW.o.on y.2).c 0 _ rfl;have l1:=fun y:Calm.On wr.heap.size wr=>(HW.o.on y.2).c 1 _ rfl;have ag:=aA (HW.o.on (aB (Aq _ _) 1))
   have ac:=aA (fun(h:x≠l[i])=>(show x ∉ l.take (i+1) from by
    rw[AO b,Bj,AF];exact fun q=>q.elim HE.o h))
   have ad:=aA (fun(h:x=l[i])=>(show decide (x∈l)=true from by rw[h];exact AJ (Ay b)));have al:(i:Int)<(l.length:Int):=by omega
   simp only[Cd]at k0;clear hc ab;generalize l[i]=y at *;by_cases he:x=y
   ·have HX:=aA (ad.o he);subst he;have ah:(x.1==x.1)=true:=by simp
    have ai:(x.2==x.2)=true:=by simp
    clear ac ad;go_wp2_with fail
    refine CalmN.region_tree (fun x=>∃z:Calm.On wr.heap.size wr,x=z.1) (.fin [0,1,2,3,4,5]) (by kernel_rfl) (by kernel_rfl) (fun _ _ d _ _ h=>by cases d <;> exact h) af.o ?_;simp only[CalmN.wpT,CalmN.pickOps,Am,Af,Ah];repeat (go_big_quiet_step (fail))
    refine Aj ?_;clear k0 k1 l0 l1;go_wp2;go_ret
    exact⟨⟨_,rfl,by rw[HX.o,AJ (by omega)]⟩,ag.o.below⟩
   ·have HX:=aA (ac.o he);have aj:=ziP he;clear ac ad he;rcases aj with⟨b0,ah,ai⟩|⟨ah,ai⟩
    all_goals
     go_wp2_with fail
     refine CalmN.region_tree (fun x=>∃z:Calm.On wr.heap.size wr,x=z.1) (.fin [0,1,2,3,4,5]) (by kernel_rfl) (by kernel_rfl) (fun _ _ d _ _ h=>by cases d <;> exact h) af.o ?_;simp only[CalmN.wpT,CalmN.pickOps,Am,Af,Ah];repeat (go_big_quiet_step (fail))
     refine Aj ?_;clear k0 k1 l0 l1;go_wp2;go_roundw
     case rel=>exact⟨i+1,b,by go_num,HX,ag⟩
     case measure=>simp[intOf];omega
  ·obtain rfl:i=l.length:=by omega
   rw[Bo]at HE;go_wp2;go_ret
   exact⟨⟨_,rfl,by rw[AM HE.o];rfl⟩,HW.o.below⟩
theorem zcp (l:List Au.It) (x:Au.It) (A:Option Addr) (c B:Nat) (w:World) (hr:RdQ 2 prF w B A l) (hB:B<=w.heap.size) (hn:l.length<=1000000) :
  Calls Tryz.prog 62 #[.slice A l.length c,itV x] w fun e w'=>e=.returned (.bool (decide (x∈l)))/\Below w.heap.size w w':=by
 have b:=aA (bA.start 61 w #[.int .i64 x.1,.int .i64 x.2]);have H:=aA (zet l x A c B _ (hr.below b.o.below hB) (Ag hB b.o.below.size) hn);have x0:=b.o.c 0 _ rfl;have x1:=b.o.c 1 _ rfl;clear hr hB hn
 go_enter Tryz.func62,Tryz.ntmps62
 go_wp2_with fail
 refine H.o.mono ?_;rintro _ w2 ⟨⟨k,rfl,hk⟩,hb⟩;have HK:=aA hk;have HB:=aA (b.o.on hb);clear hk hb x0 x1;go_wp2;go_ret
 exact⟨aD HK.o,HB.o.below⟩
namespace Tb
def shP (ed:List (Int×Int)) (t:Int):Ce:=if t∈ed.map (·.1) then(1,za0 ed t) else(0,0)
theorem zcJ {ed:List (Int×Int)} {e:Int×Int}:za0 (ed++[e]) t=if t∈ed.map (·.1) then za0 ed t else if e.1=t then e.2 else -1:=by
 induction ed with
 | nil=>simp[za0]
 | cons x ed ih =>
  rw[Cx,za0,za0,ih];by_cases h:x.1=t
  ·simp[h]
  ·rw[AB h,AB h];have e1:(t∈(x::ed).map (·.1))↔t∈ed.map (·.1):=by simp[Ne.symm h]
   simp only[e1]
theorem shP_snoc {ed:List (Int×Int)} {e:Int×Int} (h:e.1 ∉ ed.map (·.1)) (t:Int):shP (ed++[e]) t=if t=e.1 then(1,e.2) else shP ed t:=by
 unfold shP;have hm:(t∈(ed++[e]).map (·.1))↔t∈ed.map (·.1)\/t=e.1:=by rw[AW,Bj];simp
 simp only[hm];rw[zcJ];by_cases ht:t=e.1
 ·subst ht;rw[Ap (.inr rfl),AB h,Ap rfl,Ap rfl]
 ·rw[AB ht];by_cases hq:t∈ed.map (·.1)
  ·rw[Ap (.inl hq),Ap hq,Ap hq]
  ·rw[AB (by simp only[ht,or_false];exact hq),AB hq]
theorem shift_shP (G:Gm.Gr) (k:List Au.It) (ed:List (Int×Int)) (t:Int):shift G k ed t=if t∈ed.map (·.1) then shP ed t else if t=G.ts.length/\((-1:Int),(1:Int))∈k then(3,0) else(0,0):=by
 unfold shift shP;split
 ·rfl
 ·rfl
def rowT {α:Type} (n:Nat) (f:Int->α):List α:=(List.range n).map fun t:Nat=>f (t:Int)
section
variable {α:Type} {n:Nat} {f g:Int->α}
theorem rowT_len (n:Nat) (f:Int->α):(rowT n f).length=n:=by unfold rowT;rw[Bb,EH]
theorem ziH (h:i<n):(rowT n f)[i]?=some (f (i:Int)):=by
 unfold rowT;rw[BC,List.getElem?_range h];rfl
theorem rowT_at (h:i<(rowT n f).length):(rowT n f)[i]=f (i:Int) :=
 DE ((Ar h).symm.trans (ziH (by rw[rowT_len]at h;exact h)))
theorem rowT_set {j:Nat} {y:α} (hj:g (j:Int)=y) (h:∀t:Nat,t≠j->g (t:Int)=f (t:Int)):(rowT n f).set j y=rowT n g:=by
 refine CJ (by simp[rowT_len]) fun i h1 h2=>?_;rw[List.getElem_set,rowT_at h2];split
 ·rename_i e;rw[<-e,hj]
 ·rename_i e;rw[rowT_at,h i (Ne.symm e)]
theorem rowT_eq (h:∀t:Nat,t<n->g (t:Int)=f (t:Int)):rowT n g=rowT n f:=by
 unfold rowT;refine DQ fun t ht=>h t (BF.1 ht)
theorem rowT_rep (x:α) (h:∀t:Nat,f (t:Int)=x):rowT n f=List.replicate n x:=by
 refine CJ (by simp[rowT_len]) fun i h1 h2=>?_;rw[rowT_at,List.getElem_replicate,h]
end
theorem rowT_zero (n:Nat):rowT n (shP [])=List.replicate n (0,0):=rowT_rep _ fun _=>rfl
def gtP (ed:List (Int×Int)) (k:Int):Int:=za0 ed (-1-k)
theorem gtP_snoc {ed:List (Int×Int)} {e:Int×Int} (h:e.1 ∉ ed.map (·.1)) (k:Int):gtP (ed++[e]) k=if -1-k=e.1 then e.2 else gtP ed k:=by
 unfold gtP;rw[zcJ];by_cases ht:-1-k=e.1
 ·rw[ht,AB h,Ap rfl,Ap rfl]
 ·rw[AB ht];split
  ·rfl
  ·rename_i h1
   rw[AB (Ne.symm ht),zhW fun x hx e1=>h1 (Bi.2 ⟨x,hx,e1⟩)]
end Tb
theorem zjQ:(Tryz.prog.info? 63).map (fun i=>(i.zero,i.size,i.bytes))=some (some (.agg #[.int .i64 0,.int .i64 0]),2,16):=by kernel_rfl
def StV (w:World) (B:Nat) (v:Value) (k:List Au.It) (ed:List (Int×Int)):Prop:=∃AK cK AE cE,v=.agg #[.slice AK k.length cK,.slice AE ed.length cE]/\RdQ 2 prF w B AK k/\RdQ 2 prF w B AE ed
theorem StV.below {w w':World} {B B':Nat} {v:Value} {k:List Au.It} {ed:List (Int×Int)} (h:StV w B v k ed) (hb:Below B' w w') (hB:B<=B'):StV w' B v k ed:=by
 obtain⟨AK,cK,AE,cE,e,h1,h2⟩:=h;exact⟨AK,cK,AE,cE,e,h1.below hb hB,h2.below hb hB⟩
theorem zea (v:Value) (G:Gm.Gr) (B:Nat) (vs:Value) (k:List Au.It) (ed:List (Int×Int)) (w:World) (hg:aQ w B v G) (hB:B<=w.heap.size) (hs:StV w B vs k ed) (hT:G.ts.length<=24) (hk:k.length<=1000000) (he:ed.length<=1000000) (ao:(ed.map (·.1)).Nodup) (r:∀e∈ed,e.1<G.ts.length) :
  Calls Tryz.prog 30 #[v,vs] w fun e w'=>∃g,e=.returned (.slice (some ⟨g,0,none⟩) (G.ts.length+1) (G.ts.length+1))/\w.heap.size<=g/\UBQ 63 prF w' g (Tb.rowT (G.ts.length+1) (Tb.shift G k ed))/\Below w.heap.size w w':=by
 obtain⟨AK,cK,AE,cE,rfl,ap,aq⟩:=hs;have af:=aA hB;have HC:=aA (fun(x:World) (h:Below w.heap.size w x)=>zcp k (-1,1) AK cK B x (ap.below h hB) (Ag hB h.size) hk);have a1:=aA aq;have a2:=aA ao;have a3:=aA r;have a4:=aA he;have HT:=aA hT;have hS:∀t,Tb.shift G k ed t=if t∈ed.map (·.1) then Tb.shP ed t else if t=G.ts.length/\((-1:Int),(1:Int))∈k then(3,0) else(0,0):=Tb.shift_shP G k ed
 have a5:Hid ((G.ts.length:Int) ∉ ed.map (·.1)):=aA (fun h=>by
  obtain⟨e,he,e1⟩:=Bi.1 h
  have:=r e he
  omega)
 have ar:Hid (((-1:Int),(1:Int)) ∉ k->Tb.rowT (G.ts.length+1) (Tb.shift G k ed)=Tb.rowT (G.ts.length+1) (Tb.shP ed)):=aA (fun h=>Tb.rowT_eq fun t _=>by
  rw[hS];split
  ·rfl
  ·rename_i h1
   rw[AB (fun q=>h q.2)];unfold Tb.shP;rw[AB h1])
 have au:Hid (((-1:Int),(1:Int))∈k->(Tb.rowT (G.ts.length+1) (Tb.shP ed)).set G.ts.length (3,0)=Tb.rowT (G.ts.length+1) (Tb.shift G k ed)):=aA (fun h=>Tb.rowT_set (by rw[hS,AB a5.o,Ap ⟨rfl,h⟩]) fun t ht=>by
  rw[hS];split
  ·rfl
  ·rename_i h1
   rw[AB (fun q=>ht (by omega))];unfold Tb.shP;rw[AB h1])
 generalize Tb.rowT (G.ts.length+1) (Tb.shift G k ed)=fin at *;obtain⟨AT,cT,AN,cN,AR,cR,rfl,_⟩:=hg;have bb:(G.ts.length:Int)<=24:=by omega
 have a6:IntKind.i64.wrap ((G.ts.length:Int)+1)=((G.ts.length+1:Nat):Int):=by rw[Cr _ (by omega)];omega
 have bc:=aA (show Value.int .i64 ((G.ts.length:Int)+1)=.int .i64 ((G.ts.length+1:Nat):Int) by simp);obtain⟨w1,ag⟩:∃y,y=(w.alloc (.cells #[.slice AT G.ts.length cT,.slice AN G.ns.length cN,.slice AR G.rs.length cR,.int .i64 G.st] 26)).alloc (.cells #[.slice AK k.length cK,.slice AE ed.length cE] 59):=⟨_,rfl⟩
 have aa:Hid (aW 26 59 w #[.slice AT G.ts.length cT,.slice AN G.ns.length cN,.slice AR G.rs.length cR,.int .i64 G.st] #[.slice AK k.length cK,.slice AE ed.length cE] w1):=aA (by rw[ag];exact aW.start _ _ _ _ _);clear hB hT hk he ao r ap aq hS;generalize G.ts.length=n at *
 go_enter Tryz.func30,Tryz.ntmps30
 go_upto_region 1 with fail
 rw[<-ag];clear ag;have x0:=aa.o.c1 0 _ rfl;have av:n+1<=1000000:=by have:=HT.o;omega
 go_upto_region 2 with(at_make;refine zb8 (m:=2) (f:=prF) rfl (.tmp 11) (.tmp 11) _ rfl Tryz.underlying64 _ 16 zjQ (by decide) (by decide) (by decide) ((0,0):Int×Int) rfl (n+1) rfl rfl av ?_;intro w2 ah aw)
 obtain⟨gR,ai⟩:∃g,g=w1.heap.size:=⟨_,rfl⟩
 rw[<-ai]at ah ⊢;have u:Hid (w.heap.size+2<=gR):=aA (by rw[ai];exact aa.o.size);have ax:Hid (UBQ 63 prF w2 gR (Tb.rowT (n+1) (Tb.shP (ed.take 0)))):=aA (by rw[Ej,Tb.rowT_zero];exact ah);have ab:=aA (aa.o.on aw);have y0:=ab.o.c2 0 _ rfl;have y1:=ab.o.c2 1 _ rfl;have bd:(ed.length:Int)<=1000000:=by have:=a4.o;omega
 clear x0 ah aw ai av aa a6;go_wp2;clear y0 y1;go_loopw [16] (fun vi wr=>∃i:Nat,i<=ed.length/\vi=.int .i64 i/\Hid (UBQ 63 prF wr gR (Tb.rowT (n+1) (Tb.shP (ed.take i))))/\Hid (aW 26 59 w #[.slice AT n cT,.slice AN G.ns.length cN,.slice AR G.rs.length cR,.int .i64 G.st] #[.slice AK k.length cK,.slice AE ed.length cE] wr)) (fun vi _=>ed.length-(intOf vi).toNat)
 case atStart=>exact⟨0,AX _,rfl,ax,ab⟩
 case round =>
  clear ax ab;obtain⟨i,hi,rfl,HU,HW⟩:=hrel;rename World=>wr;by_cases b:i<ed.length
  ·obtain⟨g,o,rfl,ac,hc⟩:=a1.o (by omega);have a9:=Ao ac (Ag af.o HW.o.below.size);have k0:=(HW.o.below.cell (p:=⟨g,o+i*2+0,none⟩) (Ao ac af.o)).trans (hc i b 0 (.int .i64 (ed[i]).1) rfl);have k1:=(HW.o.below.cell (p:=⟨g,o+i*2+1,none⟩) (Ao ac af.o)).trans (hc i b 1 (.int .i64 (ed[i]).2) rfl);rw[Cd]at k0;have r:=a3.o _ (Ay b);have aj:=aA (AO b)
   have z:Hid ((ed[i]).1 ∉ (ed.take i).map (·.1)):=aA (by
    have:=a2.o
    rw[<-List.take_append_drop i ed,AW,Ci]at this;intro hm;refine this.2.2 _ hm _ ?_ rfl;rw[Bx b];exact Bf)
   have ad:=aA b;have bf:(i:Int)<(ed.length:Int):=by omega
   clear hc ac hi;generalize ed[i]=e at *;clear b;obtain⟨e0,e1⟩:=e;simp only at k0 k1 r z
   have HX:=aA (fun(h:e0<0)=>(show Tb.rowT (n+1) (Tb.shP (ed.take (i+1)))=Tb.rowT (n+1) (Tb.shP (ed.take i)) from by
    rw[aj.o];exact Tb.rowT_eq fun t _=>by rw[Tb.shP_snoc z.o,AB (by simp only;omega)]))
   have HY:=aA (fun(s:Nat) (h:e0=s)=>(show(Tb.rowT (n+1) (Tb.shP (ed.take i))).set s (1,e1)=Tb.rowT (n+1) (Tb.shP (ed.take (i+1))) from by
    rw[aj.o];refine Tb.rowT_set ?_ fun t ht=>?_
    ·rw[Tb.shP_snoc z.o,Ap h.symm]
    ·rw[Tb.shP_snoc z.o,AB (by simp only;omega)]))
   clear z aj;obtain⟨wi,ae⟩:∃y,y=wr.alloc (.cells #[.int .i64 e0,.int .i64 e1] 96):=⟨_,rfl⟩
   have ay:Hid (Below wr.heap.size wr wi):=aA (by rw[ae];exact(Aq _ _).alloc (Ad _) _);have az:Hid (wi.heap[wr.heap.size]?=some (.cells #[.int .i64 e0,.int .i64 e1] 96 (0,0))):=aA (by rw[ae];exact Az wr _);have y0:=aM az.o;have y1:=aR az.o;have a0:=aA (HW.o.on ay.o);have d:=aA (HU.o.below ay.o HU.o.lt);go_upto_region 5 with fail
   rw[<-ae];clear ae k0 k1;go_wp2_with fail
   refine(zcv e0 _).mono ?_;rintro _ wi ⟨rfl,rfl⟩;by_cases hs:e0<0
   ·have HX:=aA (HX.o hs);have A:decide (e0<0)=true:=AJ hs;rw[A];clear HY hs A;go_wp2;go_roundw
    case rel=>exact⟨i+1,ad.o,by go_num,by rw[HX.o];exact d,a0⟩
    case measure=>simp[intOf];have:=ad.o;omega
   ·obtain⟨s,rfl⟩:∃s:Nat,e0=s:=⟨e0.toNat,by omega⟩
    have HY:=aA (HY.o s rfl);have A:decide ((s:Int)<0)=false:=AM hs;rw[A];have ba:(s:Int)<((n+1:Nat):Int):=by omega
    have j:s<(Tb.rowT (n+1) (Tb.shP (ed.take i))).length:=by rw[Tb.rowT_len];omega
    have s0:=d.o.cell (m:=2) aJ s 0 j _ rfl;rw[Cd]at s0;have s1:=d.o.cell (m:=2) aJ s 1 j _ rfl;have f0:=d.o.frozen (s*2);have f1:=d.o.frozen (s*2+1);have ls:=d.o.lt;have C:=aA (d.o.set2 aJ s (1,e1) _ _ rfl);rw[HY.o]at C;generalize (Tb.rowT (n+1) (Tb.shP (ed.take i)))[s]=cs at s0 s1;have ak:Hid (aW 26 59 w #[.slice AT n cT,.slice AN G.ns.length cN,.slice AR G.rs.length cR,.int .i64 G.st] #[.slice AK k.length cK,.slice (some ⟨g,o,none⟩) ed.length cE] ((wi.setCell ⟨gR,s*2,none⟩ (.int .i64 1)).setCell ⟨gR,s*2+1,none⟩ (.int .i64 e1))):=aA ((EO a0.o (p:=⟨gR,s*2,none⟩) u.o _).setCell (p:=⟨gR,s*2+1,none⟩) u.o _);clear HX HY hs A j r;go_wp2;clear s0 s1 f0 f1 ls;go_roundw
    case rel=>exact⟨i+1,ad.o,by go_num,C,ak⟩
    case measure=>simp[intOf];have:=ad.o;omega
  ·obtain rfl:i=ed.length:=by omega
   rw[Bo]at HU;have x0:=HW.o.c1 0 _ rfl;have y0:=HW.o.c2 0 _ rfl;clear b hi;go_wp2_with fail
   refine(HC.o wr HW.o.below).mono ?_;rintro _ w5 ⟨rfl,al⟩;have am:=aA (HW.o.on al);have l:=aA (HU.o.below al HU.o.lt);clear al x0 y0;by_cases hm:((-1:Int),(1:Int))∈k
   ·have HY:=aA (au.o hm);have D:decide (((-1:Int),(1:Int))∈k)=true:=AJ hm;rw[D];have x0:=am.o.c1 0 _ rfl;have ba:(n:Int)<((n+1:Nat):Int):=by omega
    have j:n<(Tb.rowT (n+1) (Tb.shP ed)).length:=by rw[Tb.rowT_len];omega
    have s0:=l.o.cell (m:=2) aJ n 0 j _ rfl;rw[Cd]at s0;have s1:=l.o.cell (m:=2) aJ n 1 j _ rfl;have f0:=l.o.frozen (n*2);have f1:=l.o.frozen (n*2+1);have ls:=l.o.lt;have C:=aA (l.o.set2 aJ n (3,0) _ _ rfl);rw[HY.o]at C;generalize (Tb.rowT (n+1) (Tb.shP ed))[n]=cs at s0 s1;have ak:=aA (aW.below ((EO am.o (p:=⟨gR,n*2,none⟩) u.o (.int .i64 3)).setCell (p:=⟨gR,n*2+1,none⟩) u.o (.int .i64 0)));clear au ar HY hm D j;go_wp2;go_ret
    exact⟨gR,rfl,by have:=u.o;omega,C.o,ak.o⟩
   ·have HN:=aA (ar.o hm);have D:decide (((-1:Int),(1:Int))∈k)=false:=AM hm;rw[D];clear hm D;go_wp2;go_ret
    exact⟨gR,rfl,by have:=u.o;omega,by rw[HN.o];exact l.o,am.o.below⟩
theorem zfE (v:Value) (G:Gm.Gr) (B:Nat) (vs:Value) (k:List Au.It) (ed:List (Int×Int)) (w:World) (hg:aQ w B v G) (hB:B<=w.heap.size) (hs:StV w B vs k ed) (af:1<=G.ns.length) (hN:G.ns.length<=16) (he:ed.length<=1000000) (am:(ed.map (·.1)).Nodup) (l:∀e∈ed,-1-e.1<G.ns.length/\e.1<=1000000) :
  Calls Tryz.prog 31 #[v,vs] w fun e w'=>∃g,e=.returned (.slice (some ⟨g,0,none⟩) G.ns.length G.ns.length)/\w.heap.size<=g/\UBI w' g (Tb.rowT G.ns.length (Tb.gtP ed))/\Below w.heap.size w w':=by
 obtain⟨AK,cK,AE,cE,rfl,a5,ao⟩:=hs;have ag:=aA hB;have a6:=aA ao;have a9:=aA am;have ba:=aA l;have bb:=aA he;have HN:=aA hN;have bh:=aA af;obtain⟨AT,cT,AN,cN,AR,cR,rfl,_⟩:=hg;have bi:(G.ns.length:Int)<=16:=by omega
 obtain⟨w1,ah⟩:∃y,y=(w.alloc (.cells #[.slice AT G.ts.length cT,.slice AN G.ns.length cN,.slice AR G.rs.length cR,.int .i64 G.st] 26)).alloc (.cells #[.slice AK k.length cK,.slice AE ed.length cE] 59):=⟨_,rfl⟩
 have ai:Hid (aW 26 59 w #[.slice AT G.ts.length cT,.slice AN G.ns.length cN,.slice AR G.rs.length cR,.int .i64 G.st] #[.slice AK k.length cK,.slice AE ed.length cE] w1):=aA (by rw[ah];exact aW.start _ _ _ _ _);have ap:=aA (show Calls Tryz.prog 63 #[.slice (some ⟨w1.heap.size,0,none⟩) 1 1,.int .i64 (G.ns.length:Int)] (w1.alloc (.cells #[.int .i64 (-1)] 3)) _ from zep (-1) G.ns.length 1 _ (some ⟨w1.heap.size,0,none⟩) (w1.alloc (zcf [-1])) (zi9 w1 [-1]).1 (Ad _) af (by omega));have m:=aA (ai.o.alloc (.cells #[.int .i64 (-1)] 3));clear hB af hN he am l a5 ao;generalize G.ns.length=n at *
 go_enter Tryz.func31,Tryz.ntmps31
 go_upto_region 1 with fail
 rw[<-ah];clear ah;have x1:=ai.o.c1 1 _ rfl;have x1':=m.o.c1 1 _ rfl;go_wp2_with fail
 refine ap.o.mono ?_;rintro _ w2 ⟨gR,rfl,aq,ar,au⟩;have av:Hid (w.heap.size+2<=gR):=aA (Ag m.o.size aq);have aw:Hid (UBI w2 gR (Tb.rowT n (Tb.gtP (ed.take 0)))):=aA (by rw[Ej,Tb.rowT_rep (f:=Tb.gtP []) (-1) fun _=>rfl];exact ar);have aj:=aA (m.o.on au);have y1:=aj.o.c2 1 _ rfl;have bj:(ed.length:Int)<=1000000:=by have:=bb.o;omega
 clear x1 x1' ar au aq ai m ap;go_wp2;clear y1;go_loopw [16] (fun vi wr=>∃i:Nat,i<=ed.length/\vi=.int .i64 i/\Hid (UBI wr gR (Tb.rowT n (Tb.gtP (ed.take i))))/\Hid (aW 26 59 w #[.slice AT G.ts.length cT,.slice AN n cN,.slice AR G.rs.length cR,.int .i64 G.st] #[.slice AK k.length cK,.slice AE ed.length cE] wr)) (fun vi _=>ed.length-(intOf vi).toNat)
 case atStart=>exact⟨0,AX _,rfl,aw,aj⟩
 case round =>
  clear aw aj;obtain⟨i,hi,rfl,HU,HW⟩:=hrel;rename World=>wr;by_cases b:i<ed.length
  ·obtain⟨g,o,rfl,aa,hc⟩:=a6.o (by omega);have bc:=Ao aa (Ag ag.o HW.o.below.size);have k0:=(HW.o.below.cell (p:=⟨g,o+i*2+0,none⟩) (Ao aa ag.o)).trans (hc i b 0 (.int .i64 (ed[i]).1) rfl);have k1:=(HW.o.below.cell (p:=⟨g,o+i*2+1,none⟩) (Ao aa ag.o)).trans (hc i b 1 (.int .i64 (ed[i]).2) rfl);rw[Cd]at k0;have l:=ba.o _ (Ay b);have ak:=aA (AO b)
   have r:Hid ((ed[i]).1 ∉ (ed.take i).map (·.1)):=aA (by
    have:=a9.o
    rw[<-List.take_append_drop i ed,AW,Ci]at this;intro hm;refine this.2.2 _ hm _ ?_ rfl;rw[Bx b];exact Bf)
   have ab:=aA b;have bk:(i:Int)<(ed.length:Int):=by omega
   clear hc aa hi;generalize ed[i]=e at *;clear b;obtain⟨e0,e1⟩:=e;simp only at k0 k1 l r
   have HX:=aA (fun(h:¬e0<0)=>(show Tb.rowT n (Tb.gtP (ed.take (i+1)))=Tb.rowT n (Tb.gtP (ed.take i)) from by
    rw[ak.o];exact Tb.rowT_eq fun t _=>by rw[Tb.gtP_snoc r.o,AB (by simp only;omega)]))
   have HY:=aA (fun(s:Nat) (h:-1-e0=s)=>(show(Tb.rowT n (Tb.gtP (ed.take i))).set s e1=Tb.rowT n (Tb.gtP (ed.take (i+1))) from by
    rw[ak.o];refine Tb.rowT_set ?_ fun t ht=>?_
    ·rw[Tb.gtP_snoc r.o,Ap (by simp only;omega)]
    ·rw[Tb.gtP_snoc r.o,AB (by simp only;omega)]))
   clear r ak;obtain⟨wi,ac⟩:∃y,y=wr.alloc (.cells #[.int .i64 e0,.int .i64 e1] 96):=⟨_,rfl⟩
   have ax:Hid (Below wr.heap.size wr wi):=aA (by rw[ac];exact(Aq _ _).alloc (Ad _) _);have ad:Hid (wi.heap[wr.heap.size]?=some (.cells #[.int .i64 e0,.int .i64 e1] 96 (0,0))):=aA (by rw[ac];exact Az wr _);have y0:=aM ad.o;have ay:=aA (HW.o.on ax.o);have az:=aA (HU.o.below ax.o HU.o.lt);have bd:=aA (HU.o.lt);go_upto_region 5 with fail
   rw[<-ac];clear ac k0 k1;go_wp2_with fail
   refine(zcv e0 _).mono ?_;rintro _ wi ⟨rfl,rfl⟩;by_cases hs:e0<0
   ·obtain⟨s,a0⟩:∃s:Nat,-1-e0=s:=⟨(-1-e0).toNat,by omega⟩
    have HY:=aA (HY.o s a0);have z:decide (e0<0)=true:=AJ hs;rw[z];have a1:=aA (fun x=>ziv e0 (by omega) (by omega) x);rw[a0]at a1 l;have bl:(s:Int)<(n:Int):=l.1;have a2:s<(Tb.rowT n (Tb.gtP (ed.take i))).length:=by rw[Tb.rowT_len];omega
    have m:=aA a2;have bf:=aA (fun y:OnP [wr.heap.size] wi=>y.row (j:=0) (u:=.int .i64 e0) (by simp) ad.o rfl);have q0:=fun y:OnP [wr.heap.size] wi=>y.row (j:=0) (u:=.int .i64 e0) (by simp) ad.o rfl;have q1:=fun y:OnP [wr.heap.size] wi=>y.row (j:=1) (u:=.int .i64 e1) (by simp) ad.o rfl;have ae:Hid (UBI wi.drew gR (Tb.rowT n (Tb.gtP (ed.take i)))):=az;have al:Hid (∃y:OnP [wr.heap.size] wi,wi.drew=y.1):=aA ⟨⟨wi.drew,fun _ _=>rfl⟩,rfl⟩
    have a3:Hid (∃y:OnP [wr.heap.size] wi,wi.drew.setCell ⟨gR,s,none⟩ (.int .i64 e1)=y.1):=aA ⟨⟨_,fun g hg=>by
     rw[AF]at hg;subst hg;exact AH wi.drew ⟨gR,s,none⟩ _ _ (fun e=>by have e:wr.heap.size=gR:=e;have:=bd.o;omega)⟩,rfl⟩
    have bg:Hid (aW 26 59 w #[.slice AT G.ts.length cT,.slice AN n cN,.slice AR G.rs.length cR,.int .i64 G.st] #[.slice AK k.length cK,.slice (some ⟨g,o,none⟩) ed.length cE] (wi.drew.setCell ⟨gR,s,none⟩ (.int .i64 e1))):=aA (EO (ay.o.drewN 1) (p:=⟨gR,s,none⟩) av.o _);have a4:=aA (ae.o.set_ s e1);rw[HY.o]at a4;clear HX HY hs z l a2 y0;go_upto_region 6 with fail
    refine CalmN.region_tree (fun x=>∃y:OnP [wr.heap.size] wi,x=y.1) (.one [0,1,2,4,5] 3 (.one [6] 7 (.fin []))) (by kernel_rfl) (by kernel_rfl) (fun _ _ d _ _ h=>by cases d <;> exact h) al.o ?_;simp only[CalmN.wpT,CalmN.wpSt,CalmN.pickOps,Am,Af,Ah];repeat (go_big_quiet_step (fail))
    refine Aj ?_;clear q0 q1 bf;generalize wi.drew=wd at *;intro KK A;rw[Ap (by rfl)];go_wp2_with fail
    refine(a1.o wd).mono ?_;rintro _ wd ⟨rfl,rfl⟩;go_wp2_with fail
    refine A _ _ al.o _ (fun _ h=>h) al.o ?_;clear A;repeat (go_big_quiet_step (fail))
    refine Aj ?_;intro KK A;rw[Ap (by rfl)];have s0:=ae.o.cell s m.o;have f0:=ae.o.frozen s;have ls:=ae.o.lt;go_wp2_with fail
    refine A _ _ a3.o _ (fun _ h=>h) a3.o ?_;clear A s0 f0 ls;refine Aj ?_;generalize wd.setCell ⟨gR,s,none⟩ (.int .i64 e1)=wk at *;go_wp2;go_roundw
    case rel=>exact⟨i+1,ab.o,by go_num,a4,bg⟩
    case measure=>simp[intOf];have:=ab.o;omega
   ·have HX:=aA (HX.o (by omega));have z:decide (e0<0)=false:=AM hs;rw[z];clear HY hs z;go_wp2;go_roundw
    case rel=>exact⟨i+1,ab.o,by go_num,by rw[HX.o];exact az,ay⟩
    case measure=>simp[intOf];have:=ab.o;omega
  ·obtain rfl:i=ed.length:=by omega
   rw[Bo]at HU;clear b hi;go_wp2;go_ret
   exact⟨gR,rfl,by have:=av.o;omega,HU.o,HW.o.below⟩
end Go.Proofs.YtjjbaehamplnaaaGreat
namespace Go.Proofs.YtjjbaehamplnaaaGreat
open Go.RowKit
abbrev C5:=Int×Int×Int×Int×Int
def cfF (x:C5):List Value:=[.int .i64 x.1,.int .i64 x.2.1,.int .i64 x.2.2.1,.int .i64 x.2.2.2.1,.int .i64 x.2.2.2.2]
theorem za1 (x:C5):(cfF x).length=5:=rfl
theorem zh4 (x:C5):∀u∈cfF x,u.oneCell'=true:=fun u hu=>by
 simp[cfF]at hu;rcases hu with rfl|rfl|rfl|rfl|rfl <;> rfl
theorem zjP:(Tryz.prog.info? 66).map (fun i=>(i.zero,i.size,i.bytes))=some (some (.agg #[.int .i64 0,.int .i64 0,.int .i64 0,.int .i64 0,.int .i64 0]),5,40):=by kernel_rfl
theorem zfp (x:C5) (w:World) (g:Nat) (hb:w.heap[g]?=some (.cells #[.int .i64 x.1,.int .i64 x.2.1,.int .i64 x.2.2.1,.int .i64 x.2.2.2.1,.int .i64 x.2.2.2.2] 66 (0,0))):∀j u,(cfF x)[j]?=some u->w.cell? ⟨g,j,none⟩=some u:=fun j u hu=>by
 refine(Aw w g j _ _ _ hb).trans ?_
 match j,hu with
 | 0,hu=>exact hu
 | 1,hu=>exact hu
 | 2,hu=>exact hu
 | 3,hu=>exact hu
 | 4,hu=>exact hu
 | j+5,hu=>simp[cfF]at hu
def inF (z:Int):List Value:=[.int .i64 z]
theorem zkT (z:Int):(inF z).length=1:=rfl
theorem zjd (l:List Int):l.flatMap inF=l.map (.int .i64):=by
 induction l with
 | nil=>rfl
 | cons x l ih=>rw[BD,ih];rfl
theorem UBI.q (h:UBI w g l):UBQ 3 inF w g l:=by
 unfold UBQ;rw[zjd];exact h
structure KeepC (R:Nat) (w w':World):Prop where
 size:w.heap.size<=w'.heap.size
 keep:∀(g:Nat) (o:Obj),w.heap[g]?=some o->g≠R->(∀cur fr,o ≠ .cells cur 66 fr)->w'.heap[g]?=some o
section
variable {R:Nat} {w w' w2:World}
theorem KeepC.refl (R:Nat) (w:World):KeepC R w w:=⟨Ad _,fun _ _ h _ _=>h⟩
theorem KeepC.trans (h:KeepC R w w') (k:KeepC R w' w2):KeepC R w w2:=⟨Ag h.size k.size,fun g o h1 h2 h3=>k.keep g o (h.keep g o h1 h2 h3) h2 h3⟩
theorem KeepC.below (h:Below w.heap.size w w'):KeepC R w w':=⟨h.size,fun g _ h1 _ _=>(h.block g (Ac.1 h1).1).trans h1⟩
theorem KeepC.own (h:w.ownsRow base 66 5 v n xs) (hg:w.grownBy w' v.ownBlock):KeepC R w w':=⟨hg.size,fun _ _ h1 _ h4=>aI h hg h1 fun cur=>h4 cur _⟩
theorem KeepC.set (i:Nat) (u:Value):KeepC R w (w.setCell ⟨R,i,none⟩ u):=⟨by simp,fun g _ h1 h2 _=>(AH w ⟨R,i,none⟩ u g h2).trans h1⟩
theorem KeepC.cells (h:KeepC R w w') {T:TypeId} (hb:w.heap[g]?=some (.cells cs T (0,0))) (hR:g≠R) (hT:T≠66):w'.heap[g]?=some (.cells cs T (0,0)):=h.keep g _ hb hR fun cur fr e=>by
 injection e with _ e _;exact hT e
theorem KeepC.row (h:KeepC R w w') {a:Array Value} (hR:w.heap[R]?=some (.cells a 77 (0,0))) {T:TypeId} (hb:w.heap[g]?=some (.cells cs T (0,0))) (hT:T≠66) (aa:T≠77):w'.heap[g]?=some (.cells cs T (0,0)):=h.cells hb (fun e=>by
 rw[e,hR]at hb;injection hb with hb;injection hb with _ hb _;exact aa hb.symm) hT
theorem KeepC.own_row (h:KeepC R w w') {a:Array Value} (hR:w.heap[R]?=some (.cells a 77 (0,0))) {T:TypeId} (ho:w.ownsRow base T m v n xs) (hT:T≠66) (aa:T≠77):w'.ownsRow base T m v n xs:=by
 refine⟨ho.1,?_⟩;rcases ho.2 with h1|⟨g,cap,cur,h1,h2,h3,h4⟩
 ·exact .inl h1
 ·exact .inr ⟨g,cap,cur,h1,h2,h.row hR h3 hT aa,h4⟩
end
abbrev tbC (g0 g1 g2 g3 vA vG vC:Value):Array Value:=#[g0,g1,g2,g3,vA,vG,vC]
def tbTs:List TypeId:=[63,77,64,51,66,3]
structure TBd (w:World) (base R N:Nat) (g0 g1 g2 g3:Value) (rows:List (RW (Int×Int))) (gts:List (RW Int)) (cs:List C5):Prop where
 b:∃vA vG vC,w.heap[R]?=some (.cells (tbC g0 g1 g2 g3 vA vG vC) 77 (0,0))/\aK 64 1 rwF w base vA rows/\aK 51 1 rwF w base vG gts/\aK 66 5 cfF w base vC cs
 ra:∀r∈rows,bL 63 2 prF w base N r
 rg:∀r∈gts,bL 3 1 inF w base N r
 hR:base<=R
 hN:N<=w.heap.size
section
variable {w w' w5:World} {base R N:Nat} {g0 g1 g2 g3:Value} {rows:List (RW (Int×Int))} {gts:List (RW Int)} {cs:List C5}
theorem TBd.below (h:TBd w base R N g0 g1 g2 g3 rows gts cs) (hb:Below w.heap.size w w'):TBd w' base R N g0 g1 g2 g3 rows gts cs:=by
 obtain⟨⟨vA,vG,vC,h1,h2,h3,h4⟩,h5,h6,h7,h8⟩:=h;exact⟨⟨vA,vG,vC,aC hb h1,h2.below hb (Ad _),h3.below hb (Ad _),h4.below hb (Ad _)⟩,fun r hr=>(h5 r hr).below hb h8,fun r hr=>(h6 r hr).below hb h8,h7,Ag h8 hb.size⟩
theorem TBd.base_le (h:TBd w base R N g0 g1 g2 g3 rows gts cs):base<=w.heap.size:=by
 obtain⟨⟨_,_,_,h1,_⟩,_,_,h7,_⟩:=h
 have:=(Ac.1 h1).1
 omega
theorem TBd.lt (h:TBd w base R N g0 g1 g2 g3 rows gts cs):R<w.heap.size:=by
 obtain⟨⟨_,_,_,h1,_⟩,_⟩:=h;exact(Ac.1 h1).1
theorem TBd.kept (h:TBd w base R N g0 g1 g2 g3 rows gts cs) (hk:∀(g:Nat) (cur:Array Value) (T:TypeId),T∈tbTs->(T=63->g<N)->w.heap[g]?=some (.cells cur T (0,0))->w'.heap[g]?=some (.cells cur T (0,0))) (hs:w.heap.size<=w'.heap.size):TBd w' base R N g0 g1 g2 g3 rows gts cs:=by
 obtain⟨⟨vA,vG,vC,h1,h2,h3,h4⟩,h5,h6,h7,h8⟩:=h
 have own:∀ {m n:Nat} {T:TypeId} {v:Value} {xs:List Value},w.ownsRow base T m v n xs->T∈tbTs->T≠63->w'.ownsRow base T m v n xs:=fun {m n T v xs} ho hT aa=>by
  refine⟨ho.1,?_⟩;rcases ho.2 with h1|⟨g,cap,cur,h1,h2,h3,h4⟩
  ·exact .inl h1
  ·exact .inr ⟨g,cap,cur,h1,h2,hk g _ _ hT (fun e=>absurd e aa) h3,h4⟩
 exact⟨⟨vA,vG,vC,hk _ _ _ (by decide) (fun e=>absurd e (by decide)) h1,own h2 (by decide) (by decide),own h3 (by decide) (by decide),own h4 (by decide) (by decide)⟩,fun r hr=>(h5 r hr).keep fun g cur _ hg hc=>hk g cur _ (by decide) (fun _=>hg) hc,fun r hr=>(h6 r hr).keep fun g cur _ _ hc=>hk g cur _ (by decide) (fun e=>absurd e (by decide)) hc,h7,Ag h8 hs⟩
theorem TBd.setCe (h:TBd w base R N g0 g1 g2 g3 rows gts cs) {p:Nat} {a:Array Value} (hb:w.heap[p]?=some (.cells a 63 (0,0))) (hp:N<=p) (u:Value):TBd (w.setCell ⟨p,i,none⟩ u) base R N g0 g1 g2 g3 rows gts cs :=
 h.kept (fun g cur T _ hT hc=>(AH w ⟨p,i,none⟩ u g (fun e=>by
  have e:g=p:=e;subst e;rw[hb]at hc;injection hc with hc;injection hc with _ hc _
  have:=hT hc.symm
  omega)).trans hc) (by simp)
theorem TBd.push (h:TBd w base R N g0 g1 g2 g3 rows gts cs) {vA vG vC:Value} (hb:w.heap[R]?=some (.cells (tbC g0 g1 g2 g3 vA vG vC) 77 (0,0))) (hC:aK 66 5 cfF w base vC cs) {a5:Array Value} {x:C5} {v5:Value} (ho:aK 66 5 cfF w5 base v5 (cs++[x])) (hg:(w.alloc (.cells a5 66)).grownBy w5 vC.ownBlock) :
  TBd (w5.setCell ⟨R,6,none⟩ v5) base R N g0 g1 g2 g3 rows gts (cs++[x])/\KeepC R w (w5.setCell ⟨R,6,none⟩ v5)/\Below base w (w5.setCell ⟨R,6,none⟩ v5)/\w5.heap[R]?=some (.cells (tbC g0 g1 g2 g3 vA vG vC) 77 (0,0)):=by
 have ab:=h.base_le;obtain⟨⟨vA',vG',vC',h1,h2,h3,h4⟩,h5,h6,h7,h8⟩:=h;rw[hb]at h1;injection h1 with h1;injection h1 with h1 _ _;injection h1 with h1;simp only[EB,and_true,true_and]at h1;obtain⟨rfl,rfl,rfl⟩:=h1;have b:Below w.heap.size w (w.alloc (.cells a5 66)):=(Aq _ _).alloc (Ad _) _;have aa:=hC.below b (Ad _);have b5:=aI aa hg (aC b hb) fun cur=>aH (by decide);have k5:KeepC R w w5:=(KeepC.below b).trans (.own aa hg);have k6:=k5.trans (KeepC.set (w:=w5) 6 v5);refine⟨⟨⟨_,_,_,AP w5 R 6 _ _ v5 b5,k6.own_row hb h2 (by decide) (by decide),k6.own_row hb h3 (by decide) (by decide),?_⟩,fun r hr=>(h5 r hr).keep fun g cur _ _ hc=>k6.row hb hc (by decide) (by decide),fun r hr=>(h6 r hr).keep fun g cur _ _ hc=>k6.row hb hc (by decide) (by decide),h7,Ag h8 k6.size⟩,k6,?_,b5⟩
 ·exact AZ ho (aF (AI _ _) 6 _) (zaf ho b5 fun cur=>aH (by decide))
 ·exact(((b.mono ab).grown hg (Ag ab b.size) (fun k e=>(Bs aa k e).1)).setCell h7 v5)
theorem KeepC.setNew (h:KeepC R w w') {p:Nat} (hp:w.heap.size<=p) (u:Value):KeepC R w (w'.setCell ⟨p,i,none⟩ u):=⟨by have:=h.size;simpa using this,fun g _ h1 h2 h3=>(AH w' ⟨p,i,none⟩ u g (fun e=>by
 have e:g=p:=e
 have:=(Ac.1 h1).1
 omega)).trans (h.keep g _ h1 h2 h3)⟩
theorem TBd.fin (h:TBd w' base R N g0 g1 g2 g3 rows gts cs) (hk:KeepC R w w') (hb:Below base w w') {p:Nat} {a0 b0:Value} (hp:w'.heap[p]?=some (.cells #[a0,b0] 63 (0,0))) (hw:w.heap.size<=p) (hN:N<=w.heap.size) (hl:base<=w.heap.size) (a b:Value) :
  TBd ((w'.setCell ⟨p,0,none⟩ a).setCell ⟨p,1,none⟩ b) base R N g0 g1 g2 g3 rows gts cs/\KeepC R w ((w'.setCell ⟨p,0,none⟩ a).setCell ⟨p,1,none⟩ b)/\Below base w ((w'.setCell ⟨p,0,none⟩ a).setCell ⟨p,1,none⟩ b)/\((w'.setCell ⟨p,0,none⟩ a).setCell ⟨p,1,none⟩ b).heap[p]?=some (.cells #[a,b] 63 (0,0)):=by
 have h0:=AP w' p 0 _ _ a hp;exact⟨(h.setCe hp (by omega) a).setCe h0 (by omega) b,(hk.setNew hw a).setNew hw b,(hb.setCell (p:=⟨p,0,none⟩) (by simp only;omega) a).setCell (p:=⟨p,1,none⟩) (by simp only;omega) b,AP _ p 1 _ _ b h0⟩
end
end Go.Proofs.YtjjbaehamplnaaaGreat
