/- Part of the proofs over this program: Ref7T, Ref8O, BldD, BldE, BldF, BldH, BldJ, BldK, BldP, BldX, Work9, Term9, ShowL, Decl9, Decls9, ShowSrc, ShowBld2, CfgName, ShowRule, ShowLev, Lefts9, Sym9, Prj9. -/
import Derived.Maps.AppendAt
import Derived.Test.YtjjbaehamplnaaaGreatHG
set_option linter.all false
namespace Go
def D7:=@List.setIfInBounds_toArray
def DN:=@List.set_cons_zero
end Go
open Go.RowKit Go.Proofs.Tryz
set_option maxRecDepth 100000
set_option maxHeartbeats 40000000
namespace Go.Proofs.YtjjbaehamplnaaaGreat
variable {A:Option Go.Addr} {B N N' base base' g i n:Nat} {cs:Array Go.Value} {ds:List Y.jL} {lv z:Int} {ns ns' ws:List (List Int)} {rs:List Gm.Rl} {ts ts':List Gm.Tm} {v v' vN vR vT:Go.Value} {w w' wr:Go.World} {x:fv} {xs:List Go.Value} {zs:List Int}
theorem QF (A:Option Addr) (c:Nat) (L:List Int) (xs:List fv) (w:World) (hr:ij w w.heap.size A L) (hl:K.Bytes L) (hc:L.length<=c) (hn:L.length<=2000) (hx:As L=.ok xs) :
  Calls prog 84 #[.slice A L.length c] w (Tu L (.ok xs) w):=by
 have ah:=aA (fun(w1:World) (h:β w w1) (k:Nat) (hk:k<L.length) (he:(T.piece (L.drop k)).2.2=0)=>QG A c w.heap.size L k w1 (hr.below h (Af _)) hl hc ω hk he);have ai:=aA (fun(w1:World) (h:β w w1) (k:Nat) (hk:k<L.length) (he:(T.piece (L.drop k)).2.2=0) (hx:(T.piece (L.drop k)).1≠0)=>R6 A c L k w1 (hr.up h) hl hc hn hk he hx);have aj:=aA (fun(w1:World) (h:β w w1)=>FK A c w.heap.size L L.length w1 (hr.below h (Af _)) hn (Af _));have ak:=aA (fun(k:Nat) (hk:k<L.length)=>T.mP (L.drop k) (by rw[Bt];omega) (hl.drop k));have HX:=aA hx;have ar:Hid (β w w):=aA (AB _ _);have SC:=fun a w m X Y=>show(store a (.complex .f64 X Y) m).run prog w=stored prog w a (.complex .f64 X Y) m from run_store _ w a _ m rfl;clear hr hl hx
 go_enter func84,ntmps84
 go_wp2;go_loopw [5,6,7] (fun v vk vm wr=>∃(f k m:Nat) (acc:List fv),vk=.int .i64 k/\vm=.int .i64 m/\k<=L.length/\m<=2/\L.length<k+f/\acc.length<=k/\bZ L wr w.heap.size v acc/\β w wr/\tG f (L.drop k) k m acc=.ok xs) (fun _ vk _ _=>L.length-(intOf vk).toNat)
 case atStart=>exact⟨L.length+1,0,0,[],rfl,rfl,ω,ω,ω,σ,bZ.nil _ _ _,ar.o,by have:=HX.o;unfold As at this;simpa using this⟩
 case round =>
  clear HX ar;obtain⟨f,k,m,acc,rfl,rfl,hk,au,hf,a3,ho,hb,av⟩:=hrel;have HO:=aA ho;have HB:=aA hb;have g:=aA av;have af:=aA au;obtain⟨A0,c0,rfl,a4,a5⟩:=ho.form;clear ho hb av au a4 a5;by_cases ab:L.length<=k\/2<=m
  ·have bf:=af.o
   have a6:xs=acc:=by
    have:=g.o
    rw[LC _ _ _ _ _ (by rw[Bt];omega)]at this;injection this with this;exact this.symm
   subst a6;have ac:=aA (aj.o wr HB.o);rw[Bp]at ac;clear aj ah ai ak g;by_cases ag:k<L.length
   ·have a9:¬(m:Int)<2:=ω
    clear ab;go_wp2_with fail
    refine(ac.o).mono ?_;rintro _ w' ⟨rfl,rfl⟩;go_wp2
    go_ret3
    exact⟨_,rfl,HO.o,HB.o⟩
   ·have ba:¬(k:Int)<(L.length:Int):=ω
    clear ab;go_wp2_with fail
    refine(ac.o).mono ?_;rintro _ w' ⟨rfl,rfl⟩;go_wp2
    go_ret3
    exact⟨_,rfl,HO.o,HB.o⟩
  ·have ag:k<L.length:=ω
   have a9:(m:Int)<2:=ω
   obtain⟨f,rfl⟩:∃f',f=f'+1:=⟨f-1,ω⟩
   have al:¬((L.drop k).length=0\/m=2):=by rw[Bt];omega
   have he:(T.piece (L.drop k)).2.2=0:=by
    by_cases h:(T.piece (L.drop k)).2.2=0
    ·exact h
    ·have:=g.o
     rw[LD _ _ _ _ _ al h]at this;cases this
   have am:=g.o;rw[MS _ _ _ _ _ al he,D6]at am;have ad:=ak.o k ag;obtain⟨h1,h2,h3,_,_,_⟩:=ad;obtain⟨h4,h5,_,_⟩:=h1 he;rw[Bt]at h5;have b:=aA (ah.o wr HB.o k ag he);have aa:=aA (ai.o wr HB.o k ag he);clear ah ai ak aj g h1 al ab;unfold qK at aa;generalize T.piece (L.drop k)=x at *;obtain⟨xk,xn,xe⟩:=x;simp only at he h2 h3 h4 h5;subst he;have d:=aA am;clear am;by_cases i:xk=0
   ·subst i;have hv:wG k (0,xn,0)=.tuple #[.int .i64 ((k+xn:Nat):Int),.bool true]:=rfl;rw[hv]at b;have bb:Hid (tG f (L.drop (k+xn)) (k+xn) m acc=.ok xs):=aA d.o;have ao:¬((k+xn:Nat):Int)<0:=ω
    clear hv d aa;generalize hj:k+xn=j at *;have HJ:=aA hj;clear hj;go_wp2_with fail
    refine b.o.mono ?_;rintro _ w' ⟨rfl,rfl⟩;go_wp2;go_roundw
    case rel=>exact⟨f,j,m,acc,rfl,rfl,by have:=HJ.o;omega,af.o,by have:=HJ.o;omega,by have:=HJ.o;omega,HO.o,HB.o,bb.o⟩
    case measure=>have:=HJ.o;simp[intOf];omega
   ·have hv:wG k (xk,xn,0)=.tuple #[.int .i64 k,.bool false]:=LA i;rw[hv]at b;have ap:=aA (aa.o i);simp only at ap;have aw:Hid (more acc k (xk,xn,0) (L.drop k)=acc++[⟨xk,bH xk ((L.drop k).take xn),k⟩]):=aA (by unfold more;rw[AJ i]);rw[aw.o]at d;have ao:¬((k:Nat):Int)<0:=ω
    clear hv aa aw i;go_wp2_with fail
    refine b.o.mono ?_;rintro _ w' ⟨rfl,rfl⟩;go_wp2_with fail
    refine ap.o.mono ?_;rintro _ w2 ⟨rfl,aq⟩;have l:=aA (HB.o.trans (aq.mono HB.o.size));have ax:=aA (HO.o.below aq (Af _));clear aq ap b HO HB
    have bc:Hid (∀o j u,(tx L ⟨xk,bH xk ((L.drop k).take xn),k⟩)[j]?=some u->((w2.alloc o).alloc (.cells #[.int .i64 xk,.string (K.str (bH xk ((L.drop k).take xn))),.complex .f64 (Fl.fl (Pl.pos (L.take k)).1) (Fl.fl (Pl.pos (L.take k)).2)] 198)).cell? ⟨w2.heap.size+1,j,none⟩=some u):=aA (by
     intro o j u hu;have e:w2.heap.size+1=(w2.alloc o).heap.size:=σ
     rw[e,Df]
     simpa[tx] using hu)
    have bd:=aA (fun o1 o2=>(l.o.alloc l.o.size o1).alloc (by have:=l.o.size;simp;omega) o2);rcases ay:(xk==9) with _|_
    focus
     have ae:Hid (FA m (xk,xn,0)=m):=aA (by unfold FA;rw[AJ (by simpa using ay)])
    rotate_left
    focus
     have ae:Hid (FA m (xk,xn,0)=m+1):=aA (by unfold FA;rw[Az (by simpa using ay)])
    rotate_left
    all_goals
     rw[ae.o]at d;go_wp2_with (at_builtin;refine Tq rfl (.tmp 54) (.tmp 56) _ rfl underlying147 L w.heap.size _ acc rfl ((ax.o.alloc _).alloc _) _ 1 ⟨xk,bH xk ((L.drop k).take xn),k⟩ rfl (bc.o _) ω (by have:=l.o.size;simp;omega) ?_;intro v3 w3 az a0)
     have a1:=aA (Ov (bd.o _ _) ((ax.o.alloc _).alloc _) a0 (by have:=l.o.size;simp;omega));have a2:=aA az;clear az a0
    focus
     go_roundw
     case rel=>exact⟨f,k+xn,m,acc++[⟨xk,bH xk ((L.drop k).take xn),k⟩],ν,rfl,ω,by have:=af.o;omega,ω,by simp;omega,a2.o,a1.o,d.o⟩
     case measure=>simp[intOf];omega
    focus
     go_roundw
     case rel=>exact⟨f,k+xn,m+1,acc++[⟨xk,bH xk ((L.drop k).take xn),k⟩],ν,ν,ω,by have:=af.o;omega,ω,by simp;omega,a2.o,a1.o,d.o⟩
     case measure=>simp[intOf];omega
theorem bP.pO {L:List Int} (h:bP L w base v ds) (hb:base'<=base):bP L w base' v ds:=by
 obtain⟨qs,h1,h2,h3⟩:=h;refine⟨qs,h1,⟨h2.1,?_⟩,fun q hq=>(h3 q hq).less hb⟩;rcases h2.2 with h0|⟨g,cap,cur,e,aa,hr⟩
 ·exact .inl h0
 ·exact .inr ⟨g,cap,cur,e,ω,hr⟩
theorem bO.pO {L:List Int} {ps:List Y.iu} (h:bO L w base v ps) (hb:base'<=base):bO L w base' v ps:=by
 obtain⟨qs,h1,h2,h3⟩:=h;refine⟨qs,h1,⟨h2.1,?_⟩,fun q hq=>(h3 q hq).less hb⟩;rcases h2.2 with h0|⟨g,cap,cur,e,aa,hr⟩
 ·exact .inl h0
 ·exact .inr ⟨g,cap,cur,e,ω,hr⟩
theorem Ft (h:w.heap[g]?=some (.cells cs 114 (0,0))):bJ w (some g):=Hy h δ
theorem MC (ts:List Gm.Tm) (n:Nat) (h:n<ts.length) (a b:Int):((rQ ts).set (n*3+1) (.int .i64 a)).set (n*3+2) (.int .i64 b)=rQ (ts.modify n fun t=>⟨t.nm,a,b⟩):=by
 induction ts generalizing n with
 | nil=>simp at h
 | cons t r ih =>
  have e:rQ (t::r)=kO t++rQ r:=by unfold rQ;rw[B7]
  cases n with
  | zero =>
   rw[e];simp[kO,rQ,List.modify]
  | succ n =>
   have hl:(kO t).length=3:=rfl;rw[e,De _ _ ω,De _ _ ω,hl,show(n+1)*3+1-3=n*3+1 by omega,show(n+1)*3+2-3=n*3+2 by omega,ih n (by simpa using h)];rw[List.modify_succ_cons];unfold rQ;rw[B7]
theorem Hu (h:bE w base v ts) (n:Nat) (hn:n<ts.length):∃g c,v=.slice (some ⟨g,0,none⟩) ts.length c/\ts.length<=c/\w.cell? ⟨g,n*3+1,none⟩=some (.int .i64 ts[n].lv)/\w.cell? ⟨g,n*3+2,none⟩=some (.int .i64 ts[n].wy)/\(∀j,w.frozen? ⟨g,j,none⟩=false)/\base<=g/\g<w.heap.size/\∃cur,w.heap[g]?=some (.cells cur 85 (0,0)):=by
 rcases h.2 with⟨_,h0⟩|⟨g,cap,cur,rfl,hb,hg,aa,hm,hs,ht⟩
 ·omega
 ·refine⟨g,cap,rfl,aa,?_,?_,fun j=>AM w g j _ _ hg,hb,(Ad.1 hg).1,cur,hg⟩
  ·rw[EK h (n*3+1) ω];exact GP kO (fun _=>rfl) ts n 1 hn ω
  ·rw[EK h (n*3+2) ω];exact GP kO (fun _=>rfl) ts n 2 hn ω
def yq (L:List Int) (x:fv):Nat:=Fl.fl (Pl.pos (L.take x.o)).1
def yr (L:List Int) (x:fv):Nat:=Fl.fl (Pl.pos (L.take x.o)).2
def vy (S:St) (x:fv):St:={S with s:={S.s with st:=some x} }
def By (L:List Int) (w:World) (B:Nat) (A:Option Addr) (xs:List fv):Prop :=
 xs.length≠0->∃g o,A=some ⟨g,o,none⟩/\g<B/\∀i (h:i<xs.length),w.cell? ⟨g,o+i*2,none⟩=some (.string (K.str xs[i].t))/\w.cell? ⟨g,o+i*2+1,none⟩=some (.complex .f64 (yq L xs[i]) (yr L xs[i]))
def DO (L:List Int) (w:World) (B:Nat) (A:Option Addr) (ds:List Y.jL):Prop :=
 ds.length≠0->∃g o,A=some ⟨g,o,none⟩/\g<B/\∀i (h:i<ds.length),w.cell? ⟨g,o+i*2,none⟩=some (.int .i64 ds[i].k)/\∃A' c',w.cell? ⟨g,o+i*2+1,none⟩=some (.slice A' ds[i].ns.length c')/\By L w B A' ds[i].ns
theorem By.fp {L:List Int} {xs:List fv} (h:By L w B A xs) (hb:Below B w w'):By L w' B A xs:=fun hn=>by
 obtain⟨g,o,e,hg,hc⟩:=h hn;exact⟨g,o,e,hg,fun i hi=>⟨(hb.cell (p:=⟨g,o+i*2,none⟩) hg).trans (hc i hi).1,(hb.cell (p:=⟨g,o+i*2+1,none⟩) hg).trans (hc i hi).2⟩⟩
theorem DO.fp {L:List Int} {w w':World} {B:Nat} {A:Option Addr} {xs:List Y.jL} (h:DO L w B A xs) (hb:Below B w w'):DO L w' B A xs:=fun hn=>by
 obtain⟨g,o,e,hg,hc⟩:=h hn;refine⟨g,o,e,hg,fun i hi=>?_⟩;obtain⟨h1,A',c',h2,h3⟩:=hc i hi;exact⟨(hb.cell (p:=⟨g,o+i*2,none⟩) hg).trans h1,A',c',(hb.cell (p:=⟨g,o+i*2+1,none⟩) hg).trans h2,h3.fp hb⟩
theorem RS {k:Int} {s s':Gm.S1} (h:Gm.mB k s x=.ok s'):s'.lv=s.lv:=by
 unfold Gm.mB at h;split at h
 ·split at h
  ·cases h
  ·injection h with h;subst h;rfl
 ·split at h
  ·split at h
   ·cases h
   ·obtain⟨p,_,h⟩:=Gm.R.bind_eq h;injection h with h;subst h;rfl
  ·split at h
   ·cases h
   ·obtain⟨p,_,h⟩:=Gm.R.bind_eq h;injection h with h;subst h;rfl
theorem Mq {k:Int}:∀(xs:List fv) {s s':Gm.S1},Gm.je k s xs=.ok s'->s'.lv=s.lv
 | [],s,s',h=>by rw[Gm.je]at h;injection h with h;subst h;rfl
 | x::r,s,s',h=>by
  rw[Gm.je]at h;obtain⟨s1,h1,h2⟩:=Gm.R.bind_eq h;rw[Mq r h2,RS h1]
theorem Qa {s:Gm.S1} (h:i<ds.length):Gm.decls s (ds.drop i)=(Gm.je ds[i].k (Gm.up ds[i].k s) ds[i].ns).bind fun s=>Gm.decls s (ds.drop (i+1)):=by
 rw[BJ h,Gm.decls]
def BE (L:List Int) (w:World) (B:Nat) (A:Option Addr) (ps:List Y.iu):Prop :=
 ps.length≠0->∃g o,A=some ⟨g,o,none⟩/\g<B/\∀i (h:i<ps.length),w.cell? ⟨g,o+i*5,none⟩=some (.string (K.str ps[i].l.t))/\w.cell? ⟨g,o+i*5+1,none⟩=some (.complex .f64 (yq L ps[i].l) (yr L ps[i].l))/\(∃A' c',w.cell? ⟨g,o+i*5+2,none⟩=some (.slice A' ps[i].r.length c')/\By L w B A' ps[i].r)/\w.cell? ⟨g,o+i*5+3,none⟩=some (.string (yt ps[i].p))/\w.cell? ⟨g,o+i*5+4,none⟩=some (.complex .f64 (yu L ps[i].p) (yv L ps[i].p))
theorem BE.fp {L:List Int} {w w':World} {B:Nat} {A:Option Addr} {xs:List Y.iu} (h:BE L w B A xs) (hb:Below B w w'):BE L w' B A xs:=fun hn=>by
 obtain⟨g,o,e,hg,hc⟩:=h hn;refine⟨g,o,e,hg,fun i hi=>?_⟩;obtain⟨h1,h2,⟨A',c',h3,h4⟩,h5,h6⟩:=hc i hi;exact⟨(hb.cell (p:=⟨g,o+i*5,none⟩) hg).trans h1,(hb.cell (p:=⟨g,o+i*5+1,none⟩) hg).trans h2,⟨A',c',(hb.cell (p:=⟨g,o+i*5+2,none⟩) hg).trans h3,h4.fp hb⟩,(hb.cell (p:=⟨g,o+i*5+3,none⟩) hg).trans h5,(hb.cell (p:=⟨g,o+i*5+4,none⟩) hg).trans h6⟩
theorem Qz (h:Gm.lS ts ns x=.ok ns') (hl:ns.length<=16):ns'.length<=16:=by
 rcases Gm.pN h with⟨rfl,_⟩|⟨rfl,_,_,h4⟩
 ·exact hl
 ·rw[AZ,BC];omega
theorem PV {ps:List Y.iu} (h:i<ps.length):Gm.kE ts ns (ps.drop i)=(Gm.lS ts ns ps[i].l).bind fun ns=>Gm.kE ts ns (ps.drop (i+1)):=by
 rw[BJ h,Gm.kE]
theorem Qy {ps:List Y.iu} (h:ps.length<=i):Gm.kE ts ns (ps.drop i)=.ok ns:=by
 rw[Cb h,Gm.kE]
def GX (L:List Int) (p:Y.iu) (A:Option Addr) (c:Nat):Array Value:=#[.string (K.str p.l.t),.complex .f64 (yq L p.l) (yr L p.l),.slice A p.r.length c,.string (yt p.p),.complex .f64 (yu L p.p) (yv L p.p)]
theorem JU {o:Oper} {a:Act} {Q:Exit->Act->World->Prop} {K:Act->World->Prop} (s x:Operand) (t:TypeId) (ho:o.op=.call {callee:=.builtin .append,args:=#[s,x],argTypes:=#[t,t]}) (ht:prog.underlying t=some (.slice 74)) (base N:Nat) (v:Value) (rs:List Gm.Rl) (hs:a.eval s=v) (ab:bF w base N v rs) (g c:Nat) (q:RA) (hx:a.eval x=.slice (some ⟨g,0,none⟩) 1 c) (hz:∀j u,(qF q)[j]?=some u->w.cell? ⟨g,j,none⟩=some u) (hr:q.1.r.length<=q.2.2/\q.2.2<=9223372036854775807/\tH w base w.heap.size q.2.1 q.1.r) (af:rs.length<=1000000) (aa:base<=w.heap.size) (hN:N<=w.heap.size) (hK:∀v' w',bF w' base w'.heap.size v' (rs++[q.1])->w.grownBy w' v.ownBlock->K (a.put o.dst v') w') :
  o.wp prog a w K Q:=by
 obtain⟨i,hi,ag,ah,ai⟩:=CF Nx;obtain⟨qs,ac,ad,ak,aj⟩:=ab;have al:qs.length=rs.length:=by rw[<-ac,Bh]
 refine En w s x t ho base 74 i _ 3 40 ht hi ag ah ai rfl δ v rs.length (FV qs) hs ad ⟨g,0,none⟩ 1 c (qF q) hx rfl ?_ ?_ (by unfold maxLen;omega) ω aa fun v' w' h1 h2 _=>hK v' w' ?_ h2
 ·intro j u hj;rw[qq,BF];exact hz j u hj
 ·intro u hu;simp[qF]at hu;rcases hu with rfl|rfl|rfl <;> rfl
 ·have ae:∀g',v.ownBlock=some g'->(∀cur,w.heap[g']? ≠ some (.cells cur 3 (0,0)))\/w.heap.size<=g':=fun g' e=>by
   obtain⟨_,cur,hc⟩:=aN ad e;exact .inl (aS hc δ)
  refine⟨qs++[q],by rw[Bi,ac];rfl,?_,fun k hk=>?_,fun p hp=>?_⟩
  ·rw[AZ];unfold FV;rw[BW,Ci];exact h1
  ·obtain⟨_,cur,hc⟩:=aN h1 hk;exact(Ad.1 hc).1
  ·rcases Bs.1 hp with h|h
   ·obtain⟨a1,a2,a3⟩:=aj p h;exact⟨a1,a2,((a3.more hN).grown h2 ae).more h2.size⟩
   ·rw[AW]at h;subst h;exact⟨hr.1,hr.2.1,(hr.2.2.grown h2 ae).more h2.size⟩
theorem aV.row {xs:List Int} (h:aV w base v xs) (hB:B<=base):∃A c,v=.slice A xs.length c/\xs.length<=c/\c<=9223372036854775807/\tH w B w.heap.size A xs:=by
 rcases h.2 with⟨rfl,h0⟩|⟨g,cap,cur,rfl,hb,hg,hn,hm,hs,ht⟩
 ·exact⟨none,0,by rw[h0],ω,ω,fun hc=>absurd h0 hc⟩
 ·refine⟨some ⟨g,0,none⟩,cap,rfl,hn,by unfold maxLen at hm;omega,fun _=>⟨g,cur,rfl,ω,(Ad.1 hg).1,hg,fun j hj=>?_⟩⟩;have hq:(cur.toList.take (xs.length*1))[j]?=(xs.map (Value.int .i64))[j]?:=by rw[ht]
  rw[Dd ω,BO,AH hj]at hq
  simpa using hq
theorem OZ {acc:List Int} {p:Int} {xs:List fv} (h:i<xs.length):Gm.jC ns ts acc p (xs.drop i)=if acc.length=6 then .bad xs[i] 5 else(Gm.tj ns ts xs[i]).bind fun q=>Gm.jC ns q.1 (acc++[q.2]) (if 0<=q.2 then q.2 else p) (xs.drop (i+1)):=by
 rw[BJ h,Gm.jC]
theorem O8 {acc:List Int} {p:Int} {xs:List fv} (h:xs.length<=i):Gm.jC ns ts acc p (xs.drop i)=.ok (ts,acc,p):=by
 rw[Cb h,Gm.jC]
theorem RV (z:Int) (w:World):(Instr.build 74 #[(0,.int .i64 z),(2,.int .i64 (-1))]).run prog w=.ok (.agg #[.int .i64 z,.slice none 0 0,.int .i64 (-1)]) w:=EC w 74 _ _ κ
theorem yF (h:bF w base N v rs):∃A c,v=.slice A rs.length c/\rs.length<=c/\c<=maxLen:=by
 obtain⟨qs,_,h2,_⟩:=h;exact aO h2
theorem aV.mW {xs:List Int} (h:aV w base v xs) (hg:w.heap[g]?=some (.cells cs 74 (0,0))) (j:Nat) (u:Value):aV (w.setCell ⟨g,j,none⟩ u) base v xs :=
 Bf h (aF (AO _ _) j u) (aP h hg (fun cur e=>by injection e with _ e;cases e))
theorem KB (w:World) (base:Nat):aV w base (.slice none 0 0) []:=aV.nil w base
theorem Lo {L:List Int} {xs:List fv} (h:kQ L w base A xs):By L w w.heap.size A xs:=fun hn=>by
 obtain⟨g,cur,e,_,hh,_⟩:=h hn;obtain⟨g',e',_,hc⟩:=h.cell hn;rw[e]at e';injection e' with e';injection e' with e';subst e';refine⟨g,0,e,(Ad.1 hh).1,fun i hi=>⟨?_,?_⟩⟩
 ·have:=hc i 0 _ hi ω rfl
  rw[BF];exact this
 ·have:=hc i 1 _ hi ω rfl
  rw[BF];exact this
theorem Rz {L:List Int} (h:bP L w base v ds):∃A c,v=.slice A ds.length c/\DO L w w.heap.size A ds:=by
 have h':=h;obtain⟨qs,_,h2,_⟩:=h';rcases h2.2 with⟨hv,h0⟩|⟨g,cap,cur,hv,_,hg,_⟩
 ·exact⟨none,0,by rw[hv,h0],fun hn=>absurd h0 hn⟩
 ·refine⟨some ⟨g,0,none⟩,cap,hv,fun hn=>⟨g,0,rfl,(Ad.1 hg).1,fun i hi=>?_⟩⟩;obtain⟨D,c,A,c',aa,k1,k2,k3⟩:=h.at i hi;rw[hv]at aa;injection aa with e1 e2 e3;injection e1 with e1;injection e1 with e1;subst e1;rw[BF];exact⟨k1,A,c',k2,Lo k3⟩
theorem Qm {L:List Int} {ps:List Y.iu} (h:bO L w base v ps):∃A c,v=.slice A ps.length c/\BE L w w.heap.size A ps:=by
 have h':=h;obtain⟨qs,_,h2,_⟩:=h';rcases h2.2 with⟨hv,h0⟩|⟨g,cap,cur,hv,_,hg,_⟩
 ·exact⟨none,0,by rw[hv,h0],fun hn=>absurd h0 hn⟩
 ·refine⟨some ⟨g,0,none⟩,cap,hv,fun hn=>⟨g,0,rfl,(Ad.1 hg).1,fun i hi=>?_⟩⟩;obtain⟨D,c,A,c',aa,k,k3⟩:=h.at i hi;rw[hv]at aa;injection aa with e1 e2 e3;injection e1 with e1;injection e1 with e1;subst e1;rw[BF];refine⟨k 0 _ ω rfl,k 1 _ ω rfl,⟨A,c',k 2 _ ω rfl,Lo k3⟩,?_,?_⟩
  ·refine k 3 _ ω ?_;unfold a7 FC;rcases ps[i].p with _|x <;> rfl
  ·refine k 4 _ ω ?_;unfold a7 FC;rcases ps[i].p with _|x <;> rfl
theorem Pb (h:tH w base N A zs) (hN:N<=w.heap.size):gg w w.heap.size A zs:=fun hn=>by
 obtain⟨g,cur,e,_,hg,hh,hc⟩:=h hn;refine⟨g,0,e,ω,fun j hj=>?_⟩;rw[BF,AF w g _ _ _ _ hh];rw[hc j hj];simp[List.getD,hj]
theorem Ii (h:bE w base v ts):∃A c,v=.slice A ts.length c/\(ts.length<=c/\c<=9223372036854775807)/\rO w w.heap.size A ts:=by
 have h0:=h;unfold bE at h0;rcases h0.2 with⟨hv,h1⟩|⟨g,cap,cur,hv,_,hg,hn,hm,_⟩
 ·exact⟨none,0,by rw[hv,h1],ω,fun hn=>absurd h1 hn⟩
 ·refine⟨some ⟨g,0,none⟩,cap,hv,⟨hn,by unfold maxLen at hm;omega⟩,fun _=>⟨g,0,rfl,(Ad.1 hg).1,fun i hi=>?_⟩⟩;subst hv;have k:=fun(j:Nat) (u:Value) (hj:j<3) (hu:(kO ts[i])[j]?=some u)=>CQ h0 (g:=g) rfl (i*3+j) u (by unfold rQ;rw[GP kO (fun _=>rfl) ts i j hi hj];exact hu);have k0:=k 0 _ ω rfl;have k1:=k 1 _ ω rfl;have k2:=k 2 _ ω rfl;rw[qq,BF]at k0 k1 k2;rw[BF];exact⟨k0,k1,k2⟩
theorem H8 (h:bQ w base v ns):∃A c,v=.slice A ns.length c/\(ns.length<=c/\c<=9223372036854775807)/\tW w w.heap.size A ns:=by
 have h0:=h;unfold bQ at h0;rcases h0.2 with⟨hv,h1⟩|⟨g,cap,cur,hv,_,hg,hn,hm,_⟩
 ·exact⟨none,0,by rw[hv,h1],ω,fun hn=>absurd h1 hn⟩
 ·refine⟨some ⟨g,0,none⟩,cap,hv,⟨hn,by unfold maxLen at hm;omega⟩,fun _=>⟨g,0,rfl,(Ad.1 hg).1,fun i hi=>?_⟩⟩;subst hv;have k:=CQ h0 (g:=g) rfl i (.string (K.str ns[i])) (by unfold FW;simp[hi]);rw[qq,BF]at k;rw[BF];exact k
theorem Ij (h:bF w base N v rs) (hN:N<=w.heap.size):∃A c,v=.slice A rs.length c/\(rs.length<=c/\c<=9223372036854775807)/\qL w w.heap.size A rs:=by
 obtain⟨qs,rfl,h0,_,hq⟩:=h;rcases h0.2 with⟨hv,h1⟩|⟨g,cap,cur,hv,_,hg,hn,hm,_⟩
 ·exact⟨none,0,by rw[hv,h1],ω,fun hn=>absurd h1 hn⟩
 ·refine⟨some ⟨g,0,none⟩,cap,hv,⟨hn,by unfold maxLen at hm;omega⟩,fun _=>⟨g,0,rfl,(Ad.1 hg).1,fun i hi=>?_⟩⟩;subst hv;have aa:i<qs.length:=by simpa using hi
  have k:=fun(j:Nat) (u:Value) (hj:j<3) (hu:(qF qs[i])[j]?=some u)=>CQ h0 (g:=g) rfl (i*3+j) u (by unfold FV;rw[GP qF (fun _=>rfl) qs i j aa hj];exact hu);have k0:=k 0 _ ω rfl;have k1:=k 1 _ ω rfl;have k2:=k 2 _ ω rfl;rw[qq,BF]at k0 k1 k2;rw[BF];obtain⟨q1,q2,q3⟩:=hq qs[i] (AD aa);simp only[Cg];exact⟨k0,⟨_,_,k1,q1,q2,Pb q3 hN⟩,k2⟩
def wC (vT vN vR:Value) (lv:Int):Array Value:=#[vT,vN,vR,.int .i64 0,.slice none 0 0,.string ⟨#[]⟩,.complex .f64 0 0,.bool false,.int .i64 lv,.complex .f64 0 0,.int .i64 0]
structure gd (w:World) (B N R:Nat) (cs:Array Value) (vT vN vR:Value) (ts:List Gm.Tm) (ns:List (List Int)) (rs:List Gm.Rl):Prop where
 b:w.heap[R]?=some (.cells cs 155 (0,0))
 t:bE w B vT ts
 n:bQ w B vN ns
 r:bF w B N vR rs
 hR:B<=R
structure nW (w:World) (N:Nat) (row:Option Nat):Prop where
 h:∀g,row=some g->∃cs T,w.heap[g]?=some (.cells cs T (0,0))/\T≠155/\T≠85/\T≠9/\((T≠74/\T≠3)\/N<=g)
theorem nW.none (w:World) (N:Nat):nW w N .none:=⟨fun _ h=>by cases h⟩
section
variable {w w':World} {B N R:Nat} {cs:Array Value} {vT vN vR:Value} {ts:List Gm.Tm} {ns:List (List Int)} {rs:List Gm.Rl} {row:Option Nat}
theorem gd.grown (h:gd w B N R cs vT vN vR ts ns rs) (hg:w.grownBy w' row) (ho:nW w N row):gd w' B N R cs vT vN vR ts ns rs:=by
 have hb:some R≠row:=fun e=>by
  obtain⟨cs,T,h1,h2,_⟩:=ho.h R e.symm;exact aS h1 h2 _ h.b
 refine⟨(hg.block R (Ad.1 h.b).1 hb).trans h.b,Bf h.t hg ?_,Bf h.n hg ?_,h.r.grown hg ?_,h.hR⟩
 ·rcases row with _|g
  ·exact yG _
  ·obtain⟨cs,T,h1,_,h2,_⟩:=ho.h g rfl;exact aP h.t h1 (fun cur e=>by injection e with _ e;exact h2 e)
 ·rcases row with _|g
  ·exact yG _
  ·obtain⟨cs,T,h1,_,_,h2,_⟩:=ho.h g rfl;exact aP h.n h1 (fun cur e=>by injection e with _ e;exact h2 e)
 ·intro g e;obtain⟨cs,T,h1,_,_,_,h2⟩:=ho.h g e;rcases h2 with q|q
  ·exact .inl ⟨aS h1 q.2,aS h1 q.1⟩
  ·exact .inr q
theorem gd.below (h:gd w B N R cs vT vN vR ts ns rs) (hb:β w w'):gd w' B N R cs vT vN vR ts ns rs:=h.grown (aL hb .none) (nW.none _ _)
theorem gd.alloc (h:gd w B N R cs vT vN vR ts ns rs) (o:Obj):gd (w.alloc o) B N R cs vT vN vR ts ns rs:=h.grown (DY w o .none) (nW.none _ _)
theorem gd.rI (h:gd w B N R cs vT vN vR ts ns rs) (ht:bE w' B v' ts') (hg:w.grownBy w' vT.ownBlock):gd w' B N R cs v' vN vR ts' ns rs:=by
 refine⟨rK h.b h.t δ hg,ht,Bf h.n hg (vO h.n h.t δ),h.r.grown hg (fun g e=>.inl ?_),h.hR⟩;obtain⟨_,cur,hc⟩:=aN h.t e;exact⟨aS hc δ,aS hc δ⟩
theorem gd.Gk (h:gd w B N R cs vT vN vR ts ns rs) (ht:bQ w' B v' ns') (hg:w.grownBy w' vN.ownBlock):gd w' B N R cs vT v' vR ts ns' rs:=by
 refine⟨rK h.b h.n δ hg,Bf h.t hg (vO h.t h.n δ),ht,h.r.grown hg (fun g e=>.inl ?_),h.hR⟩;obtain⟨_,cur,hc⟩:=aN h.n e;exact⟨aS hc δ,aS hc δ⟩
theorem gd.Gz (h:gd w B N R cs vT vN vR ts ns rs) {rs':List Gm.Rl} (ht:bF w' B N' v' rs') (hg:w.grownBy w' vR.ownBlock):gd w' B N' R cs vT vN v' ts ns rs':=by
 obtain⟨qs,_,h2,_⟩:=id h.r;exact⟨rK h.b h2 δ hg,Bf h.t hg (vO h.t h2 δ),Bf h.n hg (vO h.n h2 δ),ht,h.hR⟩
theorem gd.set (h:gd w B N R cs vT vN vR ts ns rs) (j:Nat) (u:Value):gd (w.setCell ⟨R,j,none⟩ u) B N R (cs.setIfInBounds j u) vT vN vR ts ns rs:=by
 have hg:w.grownBy (w.setCell ⟨R,j,none⟩ u) (some R):=aF (AO _ _) j u;refine⟨Ba w R j _ _ u h.b,Bf h.t hg (aP h.t h.b (fun cur e=>by injection e with _ e;cases e)),Bf h.n hg (aP h.n h.b (fun cur e=>by injection e with _ e;cases e)),h.r.grown hg (fun g e=>.inl ?_),h.hR⟩;injection e with e;subst e;exact⟨aS h.b δ,aS h.b δ⟩
theorem gd.more {N':Nat} (h:gd w B N R cs vT vN vR ts ns rs) (hN:N<=N'):gd w B N' R cs vT vN vR ts ns rs:=⟨h.b,h.t,h.n,h.r.more hN,h.hR⟩
theorem gd.at (h:gd w B N R cs vT vN vR ts ns rs) (j:Nat):w.cell? ⟨R,j,none⟩=cs[j]?/\w.frozen? ⟨R,j,none⟩=false/\R<w.heap.size :=
 ⟨AF w R j _ _ _ h.b,AM w R j _ _ h.b,(Ad.1 h.b).1⟩
theorem gd.lt (h:gd w B N R cs vT vN vR ts ns rs):R<w.heap.size:=(Ad.1 h.b).1
theorem gd.rd (h:gd w B N R cs vT vN vR ts ns rs) (hN:N<=w.heap.size) (z:Int):aT w w.heap.size (.agg #[vT,vN,vR,.int .i64 z]) ⟨ts,ns,rs,z⟩:=by
 obtain⟨AT,cT,rfl,h1,h2⟩:=Ii h.t;obtain⟨AN,cN,rfl,h3,h4⟩:=H8 h.n;obtain⟨AR,cR,rfl,h5,h6⟩:=Ij h.r hN;exact⟨AT,cT,AN,cN,AR,cR,rfl,h1,h3,h5,h2,h4,h6⟩
end
def iF (w w':World):Prop:=∀(g:Nat) (cs:Array Value) (T:TypeId),w.heap[g]?=some (.cells cs T (0,0))->T≠155->T≠85->w'.heap[g]?=some (.cells cs T (0,0))
def l8 (w w':World):Prop:=∀(g:Nat) (cs:Array Value) (T:TypeId),w.heap[g]?=some (.cells cs T (0,0))->T≠155->T≠85->T≠9->T≠74->w'.heap[g]?=some (.cells cs T (0,0))
theorem iF.refl (w:World):iF w w:=fun _ _ _ h _ _=>h
theorem l8.refl (w:World):l8 w w:=fun _ _ _ h _ _ _ _=>h
theorem iF.trans {a b c:World} (h:iF a b) (k:iF b c):iF a c:=fun g cs T h1 h2 h3=>k g cs T (h g cs T h1 h2 h3) h2 h3
theorem l8.trans {a b c:World} (h:l8 a b) (k:l8 b c):l8 a c:=fun g cs T h1 h2 h3 h4 h5=>k g cs T (h g cs T h1 h2 h3 h4 h5) h2 h3 h4 h5
theorem iF.a (h:iF w w'):l8 w w':=fun g cs T h1 h2 h3 _ _=>h g cs T h1 h2 h3
theorem iF.below (h:β w w'):iF w w':=fun g _ _ h1 _ _=>(h.block g (Ad.1 h1).1).trans h1
theorem l8.below {w w':World} (h:β w w'):l8 w w':=(iF.below h).a
theorem iF.cells (h:w.grownBy w' (some g)) {T:TypeId} (hg:w.heap[g]?=some (.cells cs T (0,0))) (hT:T=155\/T=85):iF w w':=fun k cs' T' h1 h2 h3=>by
 refine(h.block k (Ad.1 h1).1 (fun e=>?_)).trans h1;injection e with e;subst e;rw[hg]at h1;injection h1 with h1;injection h1 with _ h1;rcases hT with q|q
 ·exact h2 (h1.symm.trans q)
 ·exact h3 (h1.symm.trans q)
theorem l8.cells (h:w.grownBy w' (some g)) {T:TypeId} (hg:w.heap[g]?=some (.cells cs T (0,0))) (hT:T=155\/T=85\/T=9\/T=74):l8 w w':=fun k cs' T' h1 h2 h3 h4 h5=>by
 refine(h.block k (Ad.1 h1).1 (fun e=>?_)).trans h1;injection e with e;subst e;rw[hg]at h1;injection h1 with h1;injection h1 with _ h1;rcases hT with q|q|q|q
 ·exact h2 (h1.symm.trans q)
 ·exact h3 (h1.symm.trans q)
 ·exact h4 (h1.symm.trans q)
 ·exact h5 (h1.symm.trans q)
theorem iF.own {size:Nat} (ho:w.ownsRow base 85 size v n xs) (h:w.grownBy w' v.ownBlock):iF w w':=by
 rcases hv:v.ownBlock with _|k
 ·rw[hv]at h;exact fun g _ _ h1 _ _=>(h.block g (Ad.1 h1).1 σ).trans h1
 ·rw[hv]at h;obtain⟨_,cur,hc⟩:=aN ho hv;exact iF.cells h hc (.inr rfl)
theorem l8.own {size:Nat} {e:TypeId} (ho:w.ownsRow base e size v n xs) (h:w.grownBy w' v.ownBlock) (he:e=85\/e=9\/e=74):l8 w w':=by
 rcases hv:v.ownBlock with _|k
 ·rw[hv]at h;exact fun g _ _ h1 _ _ _ _=>(h.block g (Ad.1 h1).1 σ).trans h1
 ·rw[hv]at h;obtain⟨_,cur,hc⟩:=aN ho hv;exact l8.cells h hc (.inr he)
theorem iF.set {R:Nat} (h:gd w B N R cs vT vN vR ts ns rs) (j:Nat) (u:Value):iF w (w.setCell ⟨R,j,none⟩ u):=iF.cells (aF (AO w (some R)) j u) h.b (.inl rfl)
def Wk (w:World) (B N R:Nat) (ts:List Gm.Tm) (ns:List (List Int)) (rs:List Gm.Rl) (lv:Int):Prop:=∃vT vN vR,gd w B N R (wC vT vN vR lv) vT vN vR ts ns rs
theorem Wk.below {w w':World} {B N R:Nat} {ts:List Gm.Tm} {ns:List (List Int)} {rs:List Gm.Rl} {lv:Int} (h:Wk w B N R ts ns rs lv) (hb:β w w'):Wk w' B N R ts ns rs lv:=by
 obtain⟨vT,vN,vR,h⟩:=h;exact⟨vT,vN,vR,h.below hb⟩
theorem Wk.alloc {w:World} {B N R:Nat} {ts:List Gm.Tm} {ns:List (List Int)} {rs:List Gm.Rl} {lv:Int} (h:Wk w B N R ts ns rs lv) (o:Obj):Wk (w.alloc o) B N R ts ns rs lv:=by
 obtain⟨vT,vN,vR,h⟩:=h;exact⟨vT,vN,vR,h.alloc o⟩
theorem Wk.more {w:World} {B N N' R:Nat} {ts:List Gm.Tm} {ns:List (List Int)} {rs:List Gm.Rl} {lv:Int} (h:Wk w B N R ts ns rs lv) (hN:N<=N'):Wk w B N' R ts ns rs lv:=by
 obtain⟨vT,vN,vR,h⟩:=h;exact⟨vT,vN,vR,h.more hN⟩
theorem Wk.lt {w:World} {B N R:Nat} {ts:List Gm.Tm} {ns:List (List Int)} {rs:List Gm.Rl} {lv:Int} (h:Wk w B N R ts ns rs lv):R<w.heap.size/\B<=R:=by
 obtain⟨vT,vN,vR,h⟩:=h;exact⟨h.lt,h.hR⟩
theorem RE (s:ByteArray) (w:World):(Instr.build 85 #[(0,.string s)]).run prog w=.ok (.agg #[.string s,.int .i64 0,.int .i64 0]) w:=EC w 85 _ _ κ
theorem Tp {o:Oper} {a:Act} {KK:Act->World->Prop} {Q:Exit->Act->World->Prop} (s x:Operand) (t:TypeId) (ho:o.op=.call {callee:=.builtin .append,args:=#[s,x],argTypes:=#[t,t]}) (ht:prog.underlying t=some (.slice 85)) (base:Nat) (v:Value) (ts:List Gm.Tm) (hs:a.eval s=v) (ab:bE w base v ts) (g c:Nat) (y:Gm.Tm) (hx:a.eval x=.slice (some ⟨g,0,none⟩) 1 c) (hz:∀j,w.cell? ⟨g,j,none⟩=(kO y)[j]?) (ac:ts.length<=1000000) (aa:base<=w.heap.size) (hK:∀v' w',bE w' base v' (ts++[y])->w.grownBy w' v.ownBlock->KK (a.put o.dst v') w') :
  o.wp prog a w KK Q:=by
 obtain⟨i,hi,ad,ae,af⟩:=CF Nt;refine En w s x t ho base 85 i _ 3 32 ht hi ad ae af rfl δ v ts.length (rQ ts) hs ab ⟨g,0,none⟩ 1 c (kO y) hx rfl ?_ ?_ (by unfold maxLen;omega) ω aa fun v' w' h1 h2 _=>hK v' w' ?_ h2
 ·intro j u hj;rw[qq,BF];exact(hz j).trans hj
 ·intro u hu;simp[kO]at hu;rcases hu with rfl|rfl|rfl <;> rfl
 ·unfold bE rQ;rw[AZ,BW,Ci];exact h1
theorem Ly (L:List Int) (B N R:Nat) (ts ts':List Gm.Tm) (ns:List (List Int)) (rs:List Gm.Rl) (lv n:Int) (x:fv) (w:World) (hw:Wk w B N R ts ns rs lv) (hf:Gm.Fit ⟨ts,ns,rs,0⟩) (hx:K.Tx x.t) (hN:N<=w.heap.size) (hB:B<=w.heap.size) (hp:Gm.put ts x=.ok (ts',n)) (ac:ts.length<=24) :
  Calls prog 173 #[.pointer (some ⟨R,0,none⟩),cH L x] w fun e w'=>e=.returned (.int .i64 n)/\Wk w' B N R ts' ns rs lv/\Below B w w'/\iF w w':=by
 have HW:=aA hw;obtain⟨vT,vN,vR,h⟩:=hw;have HH:=aA h;obtain⟨AT,cT,rfl,bb,_⟩:=aO h.t;obtain⟨AN,cN,rfl,_,_⟩:=aO h.n;have ay:∃AR cR,vR=.slice AR rs.length cR:=by obtain⟨qs,_,h2,_⟩:=id h.r;obtain⟨A,c,e,_⟩:=aO h2;exact⟨A,c,e⟩
 obtain⟨AR,cR,rfl⟩:=ay;obtain⟨k0,az,l⟩:=h.at 0;have k1:=(h.at 1).1;have k2:=(h.at 2).1;have k3:=(h.at 3).1;simp only[wC,Aq,Ai,Am]at k0 k1 k2 k3;have HX:=aA (AB w.heap.size w);unfold cH;obtain⟨w1,ad⟩:=χ (w.alloc (.cells #[.string (K.str x.t),.complex .f64 (Fl.fl (Pl.pos (L.take x.o)).1) (Fl.fl (Pl.pos (L.take x.o)).2)] 153))
 have i:Hid (β w w1):=aA (by rw[ad];exact(AB _ _).alloc (Af _) _);have ah:Hid (w1.heap[w.heap.size]?=some (.cells #[.string (K.str x.t),.complex .f64 (Fl.fl (Pl.pos (L.take x.o)).1) (Fl.fl (Pl.pos (L.take x.o)).2)] 153 (0,0))):=aA (by rw[ad];exact AI w _);have HT:=aA (fun(y:World) (hb:β w1 y)=>GQ (.agg #[.slice AT ts.length cT,.slice AN ns.length cN,.slice AR rs.length cR,.int .i64 0]) ⟨ts,ns,rs,0⟩ x.t w.heap.size y ((h.rd hN 0).below (i.o.trans (hb.mono i.o.size)) (Af _)) hf hx (Ah i.o.size hb.size));unfold Gm.term at HT;unfold Gm.put at hp;have HP:=aA hp;have HF:=aA hf;clear hp h hf
 go_enter func173,ntmps173
 go_wp2_with fail
 rw[<-ad];clear ad;have hk:=i.o;have p0:=(hk.cell (p:=⟨R,0,none⟩) l).trans k0;have p1:=(hk.cell (p:=⟨R,1,none⟩) l).trans k1;have p2:=(hk.cell (p:=⟨R,2,none⟩) l).trans k2;have p3:=(hk.cell (p:=⟨R,3,none⟩) l).trans k3;have ae:R<w1.heap.size:=Aj l hk.size;have ap:w.heap.size<w1.heap.size:=(Ad.1 ah.o).1;have t0:=aQ ah.o;have Q0:=fun y:Calm.On w1.heap.size w1=>(y.2.cell (p:=⟨R,0,none⟩) ae).trans p0;have Q1:=fun y:Calm.On w1.heap.size w1=>(y.2.cell (p:=⟨R,1,none⟩) ae).trans p1;have Q2:=fun y:Calm.On w1.heap.size w1=>(y.2.cell (p:=⟨R,2,none⟩) ae).trans p2;have Q3:=fun y:Calm.On w1.heap.size w1=>(y.2.cell (p:=⟨R,3,none⟩) ae).trans p3;have Q4:=fun y:Calm.On w1.heap.size w1=>(y.2.cell (p:=⟨w.heap.size,0,none⟩) ap).trans t0;clear hk;refine CalmN.fk (γ w1) (.one [0,1,2,3,4,5] 6 (.fin [7])) ⟨⟨w1.drew,aB (AB _ _) 1⟩,rfl⟩ ?_;simp only[CalmN.fS,CalmN.fu,CalmN.fo,Aq,Ai,Am];repeat (go_big_quiet_step (fail))
 refine Ap ?_;clear Q0 Q1 Q2 Q3 Q4 p0 p1 p2 p3 t0 k0 k1 k2 k3;intro KK f;rw[Az ε];go_wp2_with fail
 refine(HT.o w1.drew (aB (AB _ _) 1)).mono ?_;rintro _ w2 ⟨rfl,aq⟩;have b:β w1 w2:=(aB (AB w1.heap.size w1) 1).trans aq;have a0:=aA b;clear aq;go_wp2_with fail
 refine f _ _ ⟨⟨w2,b⟩,rfl⟩ _ ι ⟨⟨w2,b⟩,rfl⟩ ?_;repeat (go_big_quiet_step (fail))
 refine Ap ?_;have g:=aA (i.o.trans (b.mono i.o.size));have j:=aA (HH.o.below g.o);have ai:=aA ((b.block w.heap.size ap).trans ah.o);clear b f;by_cases h0:0<=Gm.find (Gm.names ts) x.t
 ·have HE:Hid (ts=ts'/\Gm.find (Gm.names ts) x.t=n):=aA (by have h:=HP.o;rw[Az h0]at h;injection h with h;exact⟨congrArg Prod.fst h,congrArg Prod.snd h⟩);rw[HE.o.2]at h0 ⊢;go_wp2;go_ret
  exact⟨rfl,⟨_,_,_,by rw[<-HE.o.1];exact j.o⟩,g.o.mono hB,iF.below g.o⟩
 ·have HE:Hid (ts++[⟨x.t,0,0⟩]=ts'/\(ts.length:Int)=n/\ts.length≠24):=aA (by
   have h:=HP.o;rw[AJ h0]at h;by_cases ac:ts.length=24
   ·rw[Az ac]at h;cases h
   ·rw[AJ ac]at h;injection h with h;exact⟨congrArg Prod.fst h,congrArg Prod.snd h,ac⟩)
  have a1:((ts.length:Int)==24)=false:=Bc.2 (by have:=HE.o.2.2;omega);obtain⟨k0,az,bc⟩:=j.o.at 0;simp only[wC,Aq,Ai]at k0;generalize Gm.find (Gm.names ts) x.t=z at *;go_wp2_with fail
  have aa:=ai;have aj:=aA (g.o.mono hB);have a2:=aA ((j.o.alloc (.cells (kO ⟨x.t,0,0⟩).toArray 85)).t);have a3:Hid (B<=(w2.alloc (.cells (kO ⟨x.t,0,0⟩).toArray 85)).drew.heap.size):=aA (by have:=g.o.size;simp;omega);have a4:=aA (tD w2 (kO ⟨x.t,0,0⟩) 85);have af:Hid ((w2.alloc (.cells (kO ⟨x.t,0,0⟩).toArray 85)).heap[w.heap.size]?=w2.heap[w.heap.size]?):=aA (((AB _ w2).alloc (Af _) _).block _ (Ad.1 ai.o).1);have RB:=fun w=>RE (K.str x.t) w;have D8:=fun y:Calm.kC w.heap.size w2=>aQ (y.2.trans ai.o);refine CalmN.fk (fun y=>∃z:Calm.kC w.heap.size w2,y=z.1) (.two [0,1,2,3,4,6,7,8] 5 (.one [] 9 (.one [] 10 (.one [11,12,13] 14 (.fin [])))) 9 (.one [] 5 (.one [] 10 (.one [11,12,13] 14 (.fin []))))) ⟨⟨w2.drew,rfl⟩,rfl⟩ ?_;simp only[CalmN.fS,CalmN.fu,CalmN.fo,Aq,Ai,Am];repeat (go_big_quiet_step (fail))
  refine Ap ?_;clear D8;refine⟨?_,?_⟩
  focus
   intro KK f;rw[Az ε];go_wp2_with fail
   refine f _ _ ⟨⟨w2.drew,rfl⟩,rfl⟩ _ ι ⟨⟨w2.drew,rfl⟩,rfl⟩ ?_
  rotate_left
  focus
   intro KK f;rw[Az ε];go_wp2_with fail
   refine f _ _ ⟨⟨(w2.alloc (.cells (kO ⟨x.t,0,0⟩).toArray 85)).drew,af.o⟩,rfl⟩ _ ι ⟨⟨(w2.alloc (.cells (kO ⟨x.t,0,0⟩).toArray 85)).drew,af.o⟩,rfl⟩ ?_
  all_goals
   refine Ap ?_;intro KK f;try rw[Az ε]
   go_wp2_with fail
   refine f _ _ ⟨⟨(w2.alloc (.cells (kO ⟨x.t,0,0⟩).toArray 85)).drew,af.o⟩,rfl⟩ _ ι ⟨⟨(w2.alloc (.cells (kO ⟨x.t,0,0⟩).toArray 85)).drew,af.o⟩,rfl⟩ ?_;refine Ap ?_;intro KK f;try rw[Az ε]
   refine Tp (w:=(w2.alloc (.cells (kO ⟨x.t,0,0⟩).toArray 85)).drew) (.tmp 31) (.tmp 35) _ rfl underlying22 B (.slice AT ts.length cT) ts rfl a2.o _ 1 ⟨x.t,0,0⟩ rfl a4.o ω a3.o ?_;intro v7 w7 ak ab;have ag:=(tC (w2.alloc (.cells (kO ⟨x.t,0,0⟩).toArray 85)) _).trans ab;obtain⟨A7,c7,ar,_,_⟩:=aO ak;rw[show(ts++[(⟨x.t,0,0⟩:Gm.Tm)]).length=ts.length+1 by simp]at ar;subst ar;have al:=(j.o.alloc (.cells (kO ⟨x.t,0,0⟩).toArray 85)).rI ak ag;have am:=aA al;obtain⟨k7,a5,bd⟩:=al.at 0;simp only[wC,Aq,Ai]at k7;have ao:=(iF.below ((AB _ w2).alloc (Af _) (.cells (kO ⟨x.t,0,0⟩).toArray 85))).trans (iF.own (j.o.alloc (.cells (kO ⟨x.t,0,0⟩).toArray 85)).t ag);have a6:=aA ao;have au:Hid (w7.heap[w.heap.size]?=w2.heap[w.heap.size]?):=aA ((ao _ _ _ aa.o δ δ).trans aa.o.symm);have a9:=aA ((aj.o.alloc (Ah hB g.o.size) (.cells (kO ⟨x.t,0,0⟩).toArray 85)).grown ag (by have:=g.o.size;simp;omega) (fun k e=>(aN j.o.t e).1));clear ak ag ab al ao;go_wp2_with fail
   refine f _ _ ⟨⟨w7,au.o⟩,rfl⟩ _ ι ⟨⟨w7,au.o⟩,rfl⟩ ?_;repeat (go_big_quiet_step (fail))
   refine Ap ?_;intro KK f;try rw[Az ε]
   go_wp2_with fail
   have av:=aA (am.o.set 0 (.slice A7 (ts.length+1) c7));have aw:=aA (a6.o.trans (iF.set am.o 0 (.slice A7 (ts.length+1) c7)));have ba:=aA (a9.o.setCell (p:=⟨R,0,none⟩) am.o.hR (.slice A7 (ts.length+1) c7));have ax:Hid ((w7.setCell ⟨R,0,none⟩ (.slice A7 (ts.length+1) c7)).heap[w.heap.size]?=w2.heap[w.heap.size]?):=aA ((aw.o _ _ _ aa.o δ δ).trans aa.o.symm);refine f _ _ ⟨⟨_,ax.o⟩,rfl⟩ _ ι ⟨⟨_,ax.o⟩,rfl⟩ ?_;refine Ap ?_;obtain⟨k8,_,bf⟩:=av.o.at 0;simp only[wC,D7,DN,Aq,Ai]at k8;clear k7 a5;go_wp2;go_ret
   refine⟨by simp;exact HE.o.2.1,⟨_,_,_,by rw[<-HE.o.1];exact av.o⟩,ba.o,(iF.below g.o).trans aw.o⟩
namespace Sh
theorem sc {α:Type} (l:List α) (j:Nat) (d:α) (h:j<l.length):l.getD j d=l[j]:=by
 rw[Aw,AH h];rfl
def key (x:fv):Int×List Int:=(x.k,x.t)
end Sh
theorem Gm.zE {n:Int} (h:Gm.put ts x=.ok (ts',n)):∃i:Nat,n=(i:Int)/\i<ts'.length:=by
 unfold Gm.put at h;by_cases h0:0<=Gm.find (Gm.names ts) x.t
 ·rw[Az h0]at h;injection h with h;have h1:=congrArg Prod.fst h;have h2:=congrArg Prod.snd h;simp only at h1 h2;have h3:=Gm.j7 (Gm.names ts) x.t;have h4:(Gm.names ts).length=ts.length:=by simp[Gm.names]
  refine⟨n.toNat,ω,?_⟩;rw[<-h1];omega
 ·rw[AJ h0]at h;by_cases aa:ts.length=24
  ·rw[Az aa]at h;cases h
  ·rw[AJ aa]at h;injection h with h;have h1:=congrArg Prod.fst h;have h2:=congrArg Prod.snd h;simp only at h1 h2;refine⟨ts.length,h2.symm,?_⟩;rw[<-h1];simp
theorem RR (L:List Int) (B N R:Nat) (ts ts':List Gm.Tm) (ns:List (List Int)) (rs:List Gm.Rl) (lv n k:Int) (x:fv) (w:World) (hw:Wk w B N R ts ns rs lv) (hf:Gm.Fit ⟨ts,ns,rs,0⟩) (hx:K.Tx x.t) (au:Gm.named x.t=true) (hN:N<=w.heap.size) (hB:B<=w.heap.size) (hk:k=4\/k=5) (ac:¬(0<=Gm.find (Gm.names ts) x.t/\0<(ts.map Gm.Tm.lv).getD (Gm.find (Gm.names ts) x.t).toNat 0)) (hp:Gm.put ts x=.ok (ts',n)) (av:ts.length<=24) :
  Calls prog 129 #[.pointer (some ⟨R,0,none⟩),.int .i64 k,cH L x] w fun e w'=>e=.returned (.tuple #[])/\Wk w' B N R (ts'.modify n.toNat fun t=>⟨t.nm,lv,k-3⟩) ns rs lv/\Below B w w'/\iF w w':=by
 have HW:=aA hw;obtain⟨i,hi,aw⟩:=Gm.zE hp;subst hi;have ax:=aA (fun(y:World) (h:Wk y B N R ts ns rs lv) (hy:N<=y.heap.size) (hz:B<=y.heap.size)=>Ly L B N R ts ts' ns rs lv i x y h hf hx hy hz hp av);have ao:=aA (fun(y:World)=>Ic x.t hx y);rw[au]at ao;obtain⟨vT,vN,vR,h⟩:=hw;have HH:=aA h;obtain⟨AT,cT,rfl,a9,_⟩:=aO h.t;obtain⟨AN,cN,rfl,_,_⟩:=aO h.n;have ay:∃AR cR,vR=.slice AR rs.length cR:=by obtain⟨qs,_,h2,_⟩:=id h.r;obtain⟨A,c,e,_⟩:=aO h2;exact⟨A,c,e⟩
 obtain⟨AR,cR,rfl⟩:=ay;obtain⟨k0,ba,H⟩:=h.at 0;have k1:=(h.at 1).1;have k2:=(h.at 2).1;have k3:=(h.at 3).1;simp only[wC,Aq,Ai,Am]at k0 k1 k2 k3;unfold cH;obtain⟨w1,ad⟩:=χ (w.alloc (.cells #[.string (K.str x.t),.complex .f64 (Fl.fl (Pl.pos (L.take x.o)).1) (Fl.fl (Pl.pos (L.take x.o)).2)] 153))
 have D:Hid (β w w1):=aA (by rw[ad];exact(AB _ _).alloc (Af _) _);have ah:Hid (w1.heap[w.heap.size]?=some (.cells #[.string (K.str x.t),.complex .f64 (Fl.fl (Pl.pos (L.take x.o)).1) (Fl.fl (Pl.pos (L.take x.o)).2)] 153 (0,0))):=aA (by rw[ad];exact AI w _);have HT:=aA (fun(y:World) (hb:β w1 y)=>GQ (.agg #[.slice AT ts.length cT,.slice AN ns.length cN,.slice AR rs.length cR,.int .i64 0]) ⟨ts,ns,rs,0⟩ x.t w.heap.size y ((h.rd hN 0).below (D.o.trans (hb.mono D.o.size)) (Af _)) hf hx (Ah D.o.size hb.size));unfold Gm.term at HT;have ae:=aA ac;have E:=aA aw;clear hp hf ac;rcases hk with rfl|rfl
 all_goals
  go_enter func129,ntmps129
  go_wp2_with fail
  refine(ao.o _).mono ?_;rintro _ _ ⟨rfl,rfl⟩;go_wp2_with fail
  rw[<-ad];clear ad;have hk:=D.o;have p0:=(hk.cell (p:=⟨R,0,none⟩) H).trans k0;have p1:=(hk.cell (p:=⟨R,1,none⟩) H).trans k1;have p2:=(hk.cell (p:=⟨R,2,none⟩) H).trans k2;have p3:=(hk.cell (p:=⟨R,3,none⟩) H).trans k3;have af:R<w1.heap.size:=Aj H hk.size;have ap:w.heap.size<w1.heap.size:=(Ad.1 ah.o).1;have t0:=aQ ah.o;have Q0:=fun y:Calm.On w1.heap.size w1=>(y.2.cell (p:=⟨R,0,none⟩) af).trans p0;have Q1:=fun y:Calm.On w1.heap.size w1=>(y.2.cell (p:=⟨R,1,none⟩) af).trans p1;have Q2:=fun y:Calm.On w1.heap.size w1=>(y.2.cell (p:=⟨R,2,none⟩) af).trans p2;have Q3:=fun y:Calm.On w1.heap.size w1=>(y.2.cell (p:=⟨R,3,none⟩) af).trans p3;have Q4:=fun y:Calm.On w1.heap.size w1=>(y.2.cell (p:=⟨w.heap.size,0,none⟩) ap).trans t0;clear hk;refine CalmN.fk (γ w1) (.one [0,1,2,3,4,5] 6 (.fin [7])) ⟨⟨w1.drew,aB (AB _ _) 1⟩,rfl⟩ ?_;simp only[CalmN.fS,CalmN.fu,CalmN.fo,Aq,Ai,Am];repeat (go_big_quiet_step (fail))
  refine Ap ?_;clear Q0 Q1 Q2 Q3 Q4 p0 p1 p2 p3 t0 k0 k1 k2 k3;intro KK u;rw[Az ε];go_wp2_with fail
  refine(HT.o w1.drew (aB (AB _ _) 1)).mono ?_;rintro _ w2 ⟨rfl,aq⟩;have g:β w1 w2:=(aB (AB w1.heap.size w1) 1).trans aq;have az:=aA g;clear aq;go_wp2_with fail
  refine u _ _ ⟨⟨w2,g⟩,rfl⟩ _ ι ⟨⟨w2,g⟩,rfl⟩ ?_;repeat (go_big_quiet_step (fail))
  refine Ap ?_;have F:=aA (D.o.trans (g.mono D.o.size));have ag:=aA (HH.o.below F.o);have ar:=aA ((g.block w.heap.size ap).trans ah.o);clear g u;have ab:=F.o.size;obtain⟨m0,mf0,bb⟩:=ag.o.at 0;simp only[wC,Aq,Ai]at m0;have tr0:=aQ ar.o;have tr1:=aU ar.o;have aa:=aA (ax.o w2 ⟨_,_,_,ag.o⟩ (Ah hN ab) (Ah hB ab));unfold cH at aa
 focus
  by_cases h0:0<=Gm.find (Gm.names ts) x.t
  focus
   have v:=Gm.j7 (Gm.names ts) x.t;obtain⟨j,hj⟩:∃j:Nat,Gm.find (Gm.names ts) x.t=(j:Int):=⟨_,(BH h0).symm⟩
   have I:j<ts.length:=by rw[hj]at v;simp[Gm.names]at v;omega
   obtain⟨gT,cc,e,_,_,kk,_⟩:=Hu ag.o.t j I;injection e with e1 e2 e3;subst e1
   have ac:¬(0<ts[j].lv):=by
    have h:=ae.o;rw[hj]at h;intro q;refine h ⟨ω,?_⟩;rw[show((j:Int)).toNat=j from rfl,Sh.sc _ _ _ (by simpa using I),Cg];exact q
   have a0:(0:Int)<=(j:Int):=ω
   have ai:(j:Int)<(ts.length:Int):=ω
   have a1:gT<w2.heap.size:=Bl (a:=⟨gT,_,none⟩) kk;rw[hj];clear h0 v hj e2 e3 ae HT;generalize ts[j].lv=lvj at *
  rotate_left
  focus
   have a2:Gm.find (Gm.names ts) x.t<0:=ω
   generalize Gm.find (Gm.names ts) x.t=z at *
  all_goals
   go_wp2_with fail
   refine aa.o.mono ?_;rintro _ w3 ⟨rfl,aj,J,M⟩;obtain⟨vT3,vN3,vR3,h3⟩:=aj;have l:=aA h3;have O:=aA ((F.o.mono hB).trans J);have ak:=aA ((iF.below F.o).trans M);obtain⟨g3,cc3,rfl,_,s1,s2,sf,a3,a4,cur3,f⟩:=Hu h3.t i E.o;have U:=aA f;obtain⟨n0,_,a5⟩:=h3.at 0;have n8:=(h3.at 8).1;have n10:=(h3.at 10).1;simp only[wC,Aq,Ai,Am]at n0 n8 n10;have f1:=sf (i*3+1);have f2:=sf (i*3+2);have a6:(0:Int)<=(i:Int):=ω
   have al:(i:Int)<(ts'.length:Int):=by have:=E.o;omega
   clear h3 J M f sf;go_wp2_with fail
   have N0:=fun y:Calm.kC R w3=>aQ (y.2.trans l.o.b);have N8:=fun y:Calm.kC R w3=>(show y.1.cell? ⟨R,8,none⟩=some (.int .i64 lv) by rw[AF y.1 _ 8 _ _ _ (y.2.trans l.o.b)];rfl)
   refine CalmN.fk (fun y=>∃z:Calm.kC R w3,y=z.1) (.one [0,1,2,3,4,5,6,7,8,9,10,11,12,13,14,15,16,17,18,19,20] 21 (.one [22,23] 24 (.fin []))) ⟨⟨w3.drew,rfl⟩,rfl⟩ ?_;simp only[CalmN.fS,CalmN.fu,CalmN.fo,Aq,Ai,Am];repeat (go_big_quiet_step (fail))
   refine Ap ?_;clear N0 N8;have m:R≠g3:=fun e=>by have hb:=l.o.b;have s:=U.o;rw[e]at hb;rw[hb]at s;injection s with q;injection q with _ q;exact absurd q δ
   have C:Hid ((w3.setCell ⟨g3,i*3+1,none⟩ (.int .i64 lv)).heap[R]?=w3.heap[R]?):=aA (AQ w3 ⟨g3,i*3+1,none⟩ (.int .i64 lv) R (by simp only;exact m));have V:Hid (((w3.setCell ⟨g3,i*3+1,none⟩ (.int .i64 lv)).setCell ⟨g3,i*3+2,none⟩ (.int .i64 1)).heap[R]?=w3.heap[R]?):=aA ((AQ _ ⟨g3,i*3+2,none⟩ (.int .i64 1) R (by simp only;exact m)).trans C.o);intro KK u;try rw[Az ε]
   go_wp2_with fail
   refine u _ _ ⟨⟨World.drew (w3.setCell ⟨g3,i*3+1,none⟩ (.int .i64 lv)),C.o⟩,rfl⟩ _ ι ⟨⟨World.drew (w3.setCell ⟨g3,i*3+1,none⟩ (.int .i64 lv)),C.o⟩,rfl⟩ ?_;repeat (go_big_quiet_step (fail))
   refine Ap ?_;intro KK u;try rw[Az ε]
   go_wp2_with fail
   refine u _ _ ⟨⟨World.drew ((w3.setCell ⟨g3,i*3+1,none⟩ (.int .i64 lv)).setCell ⟨g3,i*3+2,none⟩ (.int .i64 1)),V.o⟩,rfl⟩ _ ι ⟨⟨World.drew ((w3.setCell ⟨g3,i*3+1,none⟩ (.int .i64 lv)).setCell ⟨g3,i*3+2,none⟩ (.int .i64 1)),V.o⟩,rfl⟩ ?_;refine Ap ?_;go_wp2;go_end0
   have ho:=l.o.t;have u1:=DR ho (i*3+1) (.int .i64 lv);have u2:=DR u1.1 (i*3+2) (.int .i64 1);have hg:w3.grownBy ((w3.setCell ⟨g3,i*3+1,none⟩ (.int .i64 lv)).setCell ⟨g3,i*3+2,none⟩ (.int .i64 1)).drew (some g3):=(aF (aF (AO _ _) _ _) _ _).trans (tC _ _)
   have am:bE ((w3.setCell ⟨g3,i*3+1,none⟩ (.int .i64 lv)).setCell ⟨g3,i*3+2,none⟩ (.int .i64 1)) B (.slice (some ⟨g3,0,none⟩) ts'.length cc3) (ts'.modify i fun t=>⟨t.nm,lv,1⟩):=by
    unfold bE;rw[EZ,<-MC ts' i E.o];exact u2.1
   exact⟨rfl,⟨_,_,_,l.o.rI am hg⟩,O.o.grown hg (Ah hB O.o.size) (fun k e=>by injection e with e;omega),ak.o.trans (iF.cells hg U.o (.inr rfl))⟩
 focus
  by_cases h0:0<=Gm.find (Gm.names ts) x.t
  focus
   have v:=Gm.j7 (Gm.names ts) x.t;obtain⟨j,hj⟩:∃j:Nat,Gm.find (Gm.names ts) x.t=(j:Int):=⟨_,(BH h0).symm⟩
   have I:j<ts.length:=by rw[hj]at v;simp[Gm.names]at v;omega
   obtain⟨gT,cc,e,_,_,kk,_⟩:=Hu ag.o.t j I;injection e with e1 e2 e3;subst e1
   have ac:¬(0<ts[j].lv):=by
    have h:=ae.o;rw[hj]at h;intro q;refine h ⟨ω,?_⟩;rw[show((j:Int)).toNat=j from rfl,Sh.sc _ _ _ (by simpa using I),Cg];exact q
   have a0:(0:Int)<=(j:Int):=ω
   have ai:(j:Int)<(ts.length:Int):=ω
   have a1:gT<w2.heap.size:=Bl (a:=⟨gT,_,none⟩) kk;rw[hj];clear h0 v hj e2 e3 ae HT;generalize ts[j].lv=lvj at *
  rotate_left
  focus
   have a2:Gm.find (Gm.names ts) x.t<0:=ω
   generalize Gm.find (Gm.names ts) x.t=z at *
  all_goals
   go_wp2_with fail
   refine aa.o.mono ?_;rintro _ w3 ⟨rfl,aj,J,M⟩;obtain⟨vT3,vN3,vR3,h3⟩:=aj;have l:=aA h3;have O:=aA ((F.o.mono hB).trans J);have ak:=aA ((iF.below F.o).trans M);obtain⟨g3,cc3,rfl,_,s1,s2,sf,a3,a4,cur3,f⟩:=Hu h3.t i E.o;have U:=aA f;obtain⟨n0,_,a5⟩:=h3.at 0;have n8:=(h3.at 8).1;have n10:=(h3.at 10).1;simp only[wC,Aq,Ai,Am]at n0 n8 n10;have f1:=sf (i*3+1);have f2:=sf (i*3+2);have a6:(0:Int)<=(i:Int):=ω
   have al:(i:Int)<(ts'.length:Int):=by have:=E.o;omega
   clear h3 J M f sf;go_wp2_with fail
   have N0:=fun y:Calm.kC R w3=>aQ (y.2.trans l.o.b);have N8:=fun y:Calm.kC R w3=>(show y.1.cell? ⟨R,8,none⟩=some (.int .i64 lv) by rw[AF y.1 _ 8 _ _ _ (y.2.trans l.o.b)];rfl)
   refine CalmN.fk (fun y=>∃z:Calm.kC R w3,y=z.1) (.one [0,1,2,3,4,5,6,7,8,9,10,11,12,13,14,15,16,17,18,19,20] 21 (.one [22,23] 24 (.fin []))) ⟨⟨w3.drew,rfl⟩,rfl⟩ ?_;simp only[CalmN.fS,CalmN.fu,CalmN.fo,Aq,Ai,Am];repeat (go_big_quiet_step (fail))
   refine Ap ?_;clear N0 N8;have m:R≠g3:=fun e=>by have hb:=l.o.b;have s:=U.o;rw[e]at hb;rw[hb]at s;injection s with q;injection q with _ q;exact absurd q δ
   have C:Hid ((w3.setCell ⟨g3,i*3+1,none⟩ (.int .i64 lv)).heap[R]?=w3.heap[R]?):=aA (AQ w3 ⟨g3,i*3+1,none⟩ (.int .i64 lv) R (by simp only;exact m));have V:Hid (((w3.setCell ⟨g3,i*3+1,none⟩ (.int .i64 lv)).setCell ⟨g3,i*3+2,none⟩ (.int .i64 2)).heap[R]?=w3.heap[R]?):=aA ((AQ _ ⟨g3,i*3+2,none⟩ (.int .i64 2) R (by simp only;exact m)).trans C.o);intro KK u;try rw[Az ε]
   go_wp2_with fail
   refine u _ _ ⟨⟨World.drew (w3.setCell ⟨g3,i*3+1,none⟩ (.int .i64 lv)),C.o⟩,rfl⟩ _ ι ⟨⟨World.drew (w3.setCell ⟨g3,i*3+1,none⟩ (.int .i64 lv)),C.o⟩,rfl⟩ ?_;repeat (go_big_quiet_step (fail))
   refine Ap ?_;intro KK u;try rw[Az ε]
   go_wp2_with fail
   refine u _ _ ⟨⟨World.drew ((w3.setCell ⟨g3,i*3+1,none⟩ (.int .i64 lv)).setCell ⟨g3,i*3+2,none⟩ (.int .i64 2)),V.o⟩,rfl⟩ _ ι ⟨⟨World.drew ((w3.setCell ⟨g3,i*3+1,none⟩ (.int .i64 lv)).setCell ⟨g3,i*3+2,none⟩ (.int .i64 2)),V.o⟩,rfl⟩ ?_;refine Ap ?_;go_wp2;go_end0
   have ho:=l.o.t;have u1:=DR ho (i*3+1) (.int .i64 lv);have u2:=DR u1.1 (i*3+2) (.int .i64 2);have hg:w3.grownBy ((w3.setCell ⟨g3,i*3+1,none⟩ (.int .i64 lv)).setCell ⟨g3,i*3+2,none⟩ (.int .i64 2)).drew (some g3):=(aF (aF (AO _ _) _ _) _ _).trans (tC _ _)
   have am:bE ((w3.setCell ⟨g3,i*3+1,none⟩ (.int .i64 lv)).setCell ⟨g3,i*3+2,none⟩ (.int .i64 2)) B (.slice (some ⟨g3,0,none⟩) ts'.length cc3) (ts'.modify i fun t=>⟨t.nm,lv,2⟩):=by
    unfold bE;rw[EZ,<-MC ts' i E.o];exact u2.1
   exact⟨rfl,⟨_,_,_,l.o.rI am hg⟩,O.o.grown hg (Ah hB O.o.size) (fun k e=>by injection e with e;omega),ak.o.trans (iF.cells hg U.o (.inr rfl))⟩
def vZ (B D:Nat) (w:World):Type:={x:World // Below B w x/\x.heap[D]?=w.heap[D]?}
instance (B D:Nat) (w:World):Nonempty (vZ B D w):=⟨⟨w,AB _ _,rfl⟩⟩
structure J9 (s:Gm.S1) (ns:List (List Int)) (rs:List Gm.Rl):Prop where
 f:Gm.Fit ⟨s.ts,ns,rs,0⟩
 h:s.ts.length<=24
 v:0<=s.lv
theorem Fit.put {n:Int} (h:Gm.Fit ⟨ts,ns,rs,z⟩) (hx:K.Tx x.t) (hp:Gm.put ts x=.ok (ts',n)):Gm.Fit ⟨ts',ns,rs,z⟩:=by
 rcases Gm.ru hp with⟨j,_,rfl,_⟩|⟨_,rfl,_,_⟩
 ·exact h
 ·refine⟨fun t ht=>?_,h.n,h.r,h.s⟩;rcases Bs.1 ht with h1|h1
  ·exact h.t t h1
  ·simp at h1;subst h1;exact⟨hx,by unfold Gm.In;simp,by unfold Gm.In;simp⟩
theorem No {n:Int} (h:ts.length<=24) (hp:Gm.put ts x=.ok (ts',n)):ts'.length<=24:=by
 rcases Gm.ru hp with⟨j,_,rfl,_⟩|⟨_,rfl,_,q⟩
 ·exact h
 ·simp;omega
theorem J9.step {s s':Gm.S1} {k:Int} (h:J9 s ns rs) (hk:k=4\/k=5) (hx:K.Tx x.t) (hv:s.lv<=1000000) (hd:Gm.mB k s x=.ok s') :
  J9 s' ns rs/\s'.lv=s.lv/\(¬(0<=Gm.find (Gm.names s.ts) x.t/\0<(s.ts.map Gm.Tm.lv).getD (Gm.find (Gm.names s.ts) x.t).toNat 0))/\∃ts' n,Gm.put s.ts x=.ok (ts',n)/\s'.ts=ts'.modify n.toNat fun t=>⟨t.nm,s.lv,k-3⟩:=by
 unfold Gm.mB at hd;rw[AJ ω,AJ ω]at hd;by_cases h0:0<=Gm.find (Gm.names s.ts) x.t/\0<(s.ts.map Gm.Tm.lv).getD (Gm.find (Gm.names s.ts) x.t).toNat 0
 ·rw[Az h0]at hd;cases hd
 ·rw[AJ h0]at hd;obtain⟨⟨ts',n⟩,hp,hd⟩:=Gm.R.bind_eq hd;injection hd with hd;subst hd;have hf:=Fit.put h.f hx hp;refine⟨⟨⟨fun t ht=>?_,h.f.n,h.f.r,h.f.s⟩,?_,h.v⟩,rfl,h0,ts',n,hp,rfl⟩
  ·rcases Gm.mem_modify ht with q|⟨hn,rfl⟩
   ·exact hf.t t q
   ·have:=hf.t _ (AD hn)
    have aa:=h.v;exact⟨this.1,by unfold Gm.In;simp only;omega,by unfold Gm.In;simp only;omega⟩
  ·show(ts'.modify _ _).length<=24
   rw[EZ];exact No h.h hp
theorem OP {k:Int} {s:Gm.S1} {xs:List fv} (h:i<xs.length):Gm.je k s (xs.drop i)=(Gm.mB k s xs[i]).bind fun s=>Gm.je k s (xs.drop (i+1)):=by
 rw[BJ h,Gm.je]
theorem Ve (L:List Int) (B N R:Nat) (ns:List (List Int)) (rs:List Gm.Rl) (ds:List Y.jL) (S S2:Gm.S1) (A:Option Addr) (c:Nat) (w:World) (hw:Wk w B N R S.ts ns rs S.lv) (hJ:J9 S ns rs) (hk:F0 ds) (hx:∀d∈ds,(∀x∈d.ns,K.Tx x.t/\Gm.named x.t=true)/\d.ns.length<=1000000) (hr:DO L w B A ds) (hN:N<=w.heap.size) (hB:B<=w.heap.size) (aw:S.lv=0) (br:ds.length<=1000) (hp:Gm.decls S ds=.ok S2) :
  Calls prog 86 #[.pointer (some ⟨R,0,none⟩),.slice A ds.length c] w fun e w'=>e=.returned (.tuple #[])/\(Wk w' B N R S2.ts ns rs S2.lv/\J9 S2 ns rs)/\Below B w w'/\iF w w':=by
 have HR:=aA hr;have bs:=aA hw;have bu:=aA hJ;have HP:=aA hp;have bv:=aA (fun(i:Nat) (hi:i<ds.length)=>Ca (hk _ (AD hi)) (hx _ (AD hi)));have bw:=aA aw;clear hr hw hJ hp hk hx aw
 go_enter func86,ntmps86
 go_wp2;go_loopw [4] (fun vi wr=>∃(i:Nat) (s:Gm.S1),i<=ds.length/\vi=.int .i64 i/\Hid (Gm.decls s (ds.drop i)=.ok S2)/\Hid (J9 s ns rs)/\Hid (s.lv<=i)/\Hid (Wk wr B N R s.ts ns rs s.lv)/\Hid (Below B w wr)/\Hid (iF w wr)) (fun vi _=>ds.length-(intOf vi).toNat)
 case atStart=>exact⟨0,S,Bb _,rfl,HP,bu,aA (by rw[bw.o];omega),bs,aA (AB _ _),aA (iF.refl _)⟩
 case round =>
  rename World=>wo;obtain⟨i,s,hi,rfl,HE,HJ,ax,HW,m,ay⟩:=hrel;obtain⟨vT,vN,vR,ae⟩:=HW.o;have ai:=aA ae;have f10:=(ae.at 10).1;obtain⟨f8,fz8,b8⟩:=ae.at 8;simp only[wC,Aq,Ai,Am]at f10 f8;clear ae;by_cases af:i<ds.length
  ·obtain⟨g,o,rfl,az,hc⟩:=HR.o ω;obtain⟨k0,A',c',k1,a0⟩:=hc i af;have k0:=(m.o.cell (p:=⟨g,o+i*2,none⟩) az).trans k0;have k1:=(m.o.cell (p:=⟨g,o+i*2+1,none⟩) az).trans k1;have b9:=m.o.size;have ca:g<wo.heap.size:=ω
   have bx:B<=wo.heap.size:=ω
   obtain⟨u,a1,bz⟩:=bv.o i af;have hE:=HE.o;rw[Qa af]at hE;obtain⟨s1,h1,h2⟩:=Gm.R.bind_eq hE;have bD:=aA h2;have a2:=aA (Mq ds[i].ns h1);have a3:Gm.up ds[i].k s = {s with lv:=s.lv+1}:=by unfold Gm.up;rw[AJ ω]
   rw[a3]at h1 a2;have aj:=aA h1;have a4:=aA a0;have a5:=aA (fun(j:Nat) (hj:j<ds[i].ns.length)=>a1 _ (AD hj));clear hc a0 hE h1 h2 a1 a3;generalize ds[i]=d at *;rcases d with⟨kk,ms⟩
   simp only at u bz a5 a4 aj a2 k0 k1;have ak:s.lv+1<=1000000:=by have:=ax.o;omega
   have bM:=HJ.o.v;have a6:Hid (J9 {s with lv:=s.lv+1} ns rs):=aA ⟨HJ.o.f,HJ.o.h,by show 0<=s.lv+1;omega⟩;have a9:=aA (ai.o.set 8 (.int .i64 (s.lv+1)));have ba:=aA (m.o.setCell (p:=⟨R,8,none⟩) ai.o.hR (.int .i64 (s.lv+1)));have bb:=aA (ay.o.trans (iF.set ai.o 8 (.int .i64 (s.lv+1))));have al:(wo.setCell ⟨R,8,none⟩ (.int .i64 (s.lv+1))).heap.size=wo.heap.size:=σ
   generalize bT:wo.setCell ⟨R,8,none⟩ (.int .i64 (s.lv+1))=ws at *;have bc:Hid (Wk (ws.alloc (.cells #[.int .i64 kk,.slice A' ms.length c'] 209)) B N R s.ts ns rs (s.lv+1)):=aA ⟨vT,vN,vR,a9.o.alloc _⟩;have bd:=aA (ba.o.alloc (by rw[al];exact bx) (.cells #[.int .i64 kk,.slice A' ms.length c'] 209));have bf:=aA (bb.o.trans (iF.below ((AB ws.heap.size ws).alloc (Af _) (.cells #[.int .i64 kk,.slice A' ms.length c'] 209))));have bg:Hid ((ws.alloc (.cells #[.int .i64 kk,.slice A' ms.length c'] 209)).heap[wo.heap.size]?=some (.cells #[.int .i64 kk,.slice A' ms.length c'] 209 (0,0))):=aA (by rw[<-al];exact AI ws _);have cb:(kk != 3)=true:=by rcases u with rfl|rfl <;> decide
   have cc:(kk != 7)=true:=by rcases u with rfl|rfl <;> decide
   have bX:¬kk<3:=ω
   have b3:¬7<kk:=ω
   go_wp2_with fail
   go_loopw [7] (fun vj wr=>∃(j:Nat) (t:Gm.S1),j<=ms.length/\vj=.int .i64 j/\Hid (Gm.je kk t (ms.drop j)=.ok s1)/\Hid (J9 t ns rs)/\Hid (t.lv=s.lv+1)/\Hid (Wk wr B N R t.ts ns rs t.lv)/\Hid (Below B w wr)/\Hid (iF w wr)/\Hid (wr.heap[wo.heap.size]?=some (.cells #[.int .i64 kk,.slice A' ms.length c'] 209 (0,0)))) (fun vj _=>ms.length-(intOf vj).toNat)
   case atStart=>exact⟨0,_,Bb _,rfl,aj,a6,aA rfl,bc,bd,bf,bg⟩
   case round =>
    clear bT al k0 k1 f10 f8 fz8 aj a6 bc bd bf bg a9 ba bb;obtain⟨j,t,hj,rfl,bh,ag,am,ao,b,ab,l⟩:=hrel;obtain⟨vT2,vN2,vR2,ap⟩:=ao.o;have b4:=aA ap;obtain⟨f10,_,cd⟩:=ap.at 10;simp only[wC,Aq,Ai,Am]at f10;clear ap;have ce:wo.heap.size<wr.heap.size:=(Ad.1 l.o).1;have b0:=aQ l.o;have b1:=aU l.o;by_cases z:j<ms.length
    ·obtain⟨q,r,rfl,ah,aq⟩:=a4.o ω;have m0:=(b.o.cell (p:=⟨q,r+j*2,none⟩) ah).trans (aq j z).1;have m1:=(b.o.cell (p:=⟨q,r+j*2+1,none⟩) ah).trans (aq j z).2;have cf:q<wr.heap.size:=by have:=b.o.size;omega
     have hE:=bh.o;rw[OP z]at hE;obtain⟨t1,h1,h2⟩:=Gm.R.bind_eq hE;have b5:=aA h2;obtain⟨ar,bi⟩:=a5.o j z;obtain⟨j1,j2,j3,ts',n,ac,bj⟩:=ag.o.step u ar (by rw[am.o];exact ak) h1;have bk:Hid (J9 t1 ns rs/\t1.lv=s.lv+1):=aA ⟨j1,j2.trans am.o⟩;have au:=b.o.size;have aa:=aA (fun(y:World) (hy:β wr y)=>RR L B N R t.ts ts' ns rs t.lv n kk ms[j] y (ao.o.below hy) ag.o.f ar bi (Ah hN (Ah au hy.size)) (Ah (Ah hB au) hy.size) u j3 ac ag.o.h);rw[<-bj,<-j2]at aa;have ad:=aa;clear aa aq hE h1 h2 j1 j2 j3 ac bj ar bi au;unfold cH at ad;generalize K.str ms[j].t=sx at *;unfold yq yr at m1;generalize Fl.fl (Pl.pos (L.take ms[j].o)).1=X at *;generalize Fl.fl (Pl.pos (L.take ms[j].o)).2=Y at *;go_wp2_with fail
     have Q0:=fun y:vZ B wo.heap.size wr=>aQ (y.2.2.trans l.o);have Q1:=fun y:vZ B wo.heap.size wr=>aU (y.2.2.trans l.o);have Q2:=fun y:vZ B wo.heap.size wr=>(y.2.1.cell (p:=⟨q,r+j*2,none⟩) ah).trans m0;have Q3:=fun y:vZ B wo.heap.size wr=>(y.2.1.cell (p:=⟨q,r+j*2+1,none⟩) ah).trans m1;refine CalmN.fk (fun x=>∃y:vZ B wo.heap.size wr,x=y.1) (.one [0,1,2,3,4,5,6,7] 8 (.fin [])) ⟨⟨wr.drew,aB (AB _ _) 1,rfl⟩,rfl⟩ ?_;simp only[CalmN.fS,CalmN.fu,CalmN.fo,Aq,Ai,Am];repeat (go_big_quiet_step (fail))
     refine Ap ?_;clear Q0 Q1 Q2 Q3;intro KK b6;try rw[Az ε]
     go_wp2_with fail
     refine(ad.o wr.drew (aB (AB _ _) 1)).mono ?_;rintro _ w2 ⟨rfl,bl,bm,bn⟩;have av:=aA ((aB (AB B wr) 1).trans bm);have bo:Hid (iF wr w2):=aA bn;have b7:=aA bl;have bp:=aA (bo.o _ _ _ l.o δ δ);have bq:Hid (w2.heap[wo.heap.size]?=wr.heap[wo.heap.size]?):=aA (bp.o.trans l.o.symm);clear bl bm bn;go_wp2_with fail
     refine b6 _ _ ⟨⟨w2,av.o,bq.o⟩,rfl⟩ _ ι ⟨⟨w2,av.o,bq.o⟩,rfl⟩ ?_;refine Ap ?_;go_wp2;go_roundw
     case rel=>exact⟨j+1,t1,z,ν,b5,aA bk.o.1,aA bk.o.2,b7,aA (b.o.trans av.o),aA (ab.o.trans bo.o),bp⟩
     case measure=>simp[intOf];omega
    ·obtain rfl:j=ms.length:=ω
     have hE:=bh.o;rw[Et,Gm.je]at hE;injection hE with hE;subst hE;go_wp2_with fail
     go_roundw
     case rel=>exact⟨i+1,t,af,ν,bD,ag,aA (by rw[am.o];have:=ax.o;omega),ao,b,ab⟩
     case measure=>simp[intOf];omega
  ·obtain rfl:i=ds.length:=ω
   have hE:=HE.o;rw[Et,Gm.decls]at hE;injection hE with hE;subst hE;go_wp2;go_end0
   exact⟨rfl,⟨HW.o,HJ.o⟩,m.o,ay.o⟩
namespace Sh
open Y
abbrev DD:=Int×List (List Int)
end Sh
namespace Gm
theorem nI {ts:List Tm} (h:0<=find (names ts) x.t):put ts x=.ok (ts,find (names ts) x.t):=by
 unfold put;rw[Az h]
end Gm
def N7 (rs:List Gm.Rl) (k:Nat):Prop:=∀i (h:i<rs.length),i<k->rs[i].r.length<=20
theorem P7 (v:Value) (G:Gm.Gr) (B:Nat) (w:World) (hg:aT w B v G) (hB:B<=w.heap.size) :
  Calls prog 9 #[v] w fun e w'=>e=.returned (.bool (Gm.um G))/\β w w':=by
 have HB:=aA (fun o=>(AB w.heap.size w).alloc (Af _) o);obtain⟨AT,cT,AN,cN,AR,cR,rfl,⟨ac,ad⟩,⟨ae,af⟩,⟨ag,ah⟩,_,_,hr⟩:=hg;have HR:=aA hr;clear hr;unfold Gm.um;by_cases h1:40<G.ts.length
 ·rw[AV h1]
  go_enter func9,ntmps9
  go_wp2;go_ret
  exact⟨rfl,HB.o _⟩
 by_cases h2:40<G.ns.length
 ·rw[AV h2];simp only[Bool.or_true,DQ]
  go_enter func9,ntmps9
  go_wp2;go_ret
  exact⟨rfl,HB.o _⟩
 by_cases h3:60<G.rs.length
 ·rw[AV h3];simp only[Bool.or_true,DQ]
  go_enter func9,ntmps9
  go_wp2;go_ret
  exact⟨rfl,HB.o _⟩
 rw[AU h1,AU h2,AU h3];simp only[Ff];have ab:G.rs.length<=60:=ω
 go_enter func9,ntmps9
 go_wp2
 go_loop [3] (fun vi=>∃(k:Nat),k<=G.rs.length/\vi=.int .i64 k/\N7 G.rs k) (fun vi=>G.rs.length-(intOf vi).toNat)
 case atStart=>exact⟨0,Bb _,rfl,fun _ _ h=>by omega⟩
 case round =>
  obtain⟨k,hk,rfl,hn⟩:=hrel;have HN:=aA hn;clear hn;by_cases aa:k<G.rs.length
  ·obtain⟨g,o,rfl,ai,hc⟩:=HR.o ω;obtain⟨_,⟨A',c',k1,k2,k3,_⟩,_⟩:=hc k aa;have aj:g<w.heap.size:=ω
   by_cases hx:20<G.rs[k].r.length
   ·have HE:Hid ((G.rs.any fun r=>decide (20<r.r.length))=true):=aA (ER.2 ⟨_,AD aa,by simpa using hx⟩);generalize G.rs[k].r.length=m at *;clear hc;go_wp2;go_ret
    exact⟨aD HE.o.symm,HB.o _⟩
   ·have HE:Hid (N7 G.rs (k+1)):=aA (fun i hi ak=>by
     rcases BM i k with q|q
     ·exact HN.o i hi q
     ·obtain rfl:i=k:=ω
      omega)
    generalize G.rs[k].r.length=m at *;clear hc;go_wp2
    go_round
    case rel=>exact⟨k+1,ω,ν,HE.o⟩
    case measure=>simp[intOf];omega
  ·obtain rfl:k=G.rs.length:=ω
   have HE:Hid ((G.rs.any fun r=>decide (20<r.r.length))=false):=aA (by
    rw[EF];intro x hx;obtain⟨i,hi,rfl⟩:=BG hx
    have:=HN.o i hi hi
    simp;omega)
   go_wp2;go_ret
   exact⟨aD HE.o.symm,HB.o _⟩
theorem bQ.alloc (h:bQ w base v ws) (o:Obj):bQ (w.alloc o) base v ws:=Dm h o
theorem bQ.less (h:bQ w base v ws) (hb:base'<=base):bQ w base' v ws:=by
 refine⟨h.1,?_⟩;rcases h.2 with h0|⟨g,cap,cur,e,aa,hr⟩
 ·exact .inl h0
 ·exact .inr ⟨g,cap,cur,e,ω,hr⟩
theorem bQ.drewN (h:bQ w base v ws) (n:Nat):bQ (w.drewN n) base v ws:=h
theorem bQ.below (h:bQ w base v ws) (hb:β w w'):bQ w' base v ws :=
 Bf h (aL hb .none) (by rcases v.ownBlock with _|k;exact .inl rfl;exact .inr σ)
theorem bQ.form (h:bQ w base v ws):∃A c,v=.slice A ws.length c/\ws.length<=c/\c<=maxLen:=aO h
theorem R3 {o:Oper} {a:Act} {KK:Act->World->Prop} {Q:Exit->Act->World->Prop} (s x:Operand) (t:TypeId) (ho:o.op=.call {callee:=.builtin .append,args:=#[s,x],argTypes:=#[t,t]}) (ht:prog.underlying t=some (.slice 9)) (base:Nat) (v:Value) (ts:List (List Int)) (hs:a.eval s=v) (ab:bQ w base v ts) (g c:Nat) (y:List Int) (hx:a.eval x=.slice (some ⟨g,0,none⟩) 1 c) (hz:w.cell? ⟨g,0,none⟩=some (.string (K.str y))) (ac:ts.length<=1000000) (aa:base<=w.heap.size) (hK:∀v' w',bQ w' base v' (ts++[y])->w.grownBy w' v.ownBlock->(v'.ownBlock=v.ownBlock\/v'.ownBlock=some w.heap.size)->KK (a.put o.dst v') w') :
  o.wp prog a w KK Q:=by
 obtain⟨i,hi,ad,ae,af⟩:=CF Ny
 obtain⟨v',w',hr,h2,h3,h4,h5⟩:=run_append_own_at (P:=prog) w base t o.type 9 i (.string ⟨#[]⟩) 1 16 ht hi ad ae af rfl δ v ts.length (FW ts) ab ⟨g,0,none⟩ 1 c [.string (K.str y)] rfl (by
  intro j u hj;rw[qq,BF];rcases j with _|j
  ·simp at hj;rw[<-hj];exact hz
  ·simp at hj) (by intro u hu;simp at hu;rcases hu with rfl;rfl) (by unfold maxLen;omega) ω aa
 unfold Oper.wp execOp;simp only[ho,resolve,invoke,builtin,EP,Ds,E8,List.map_toArray,Bw,Dh,hs,hx,hr];refine hK v' w' ?_ h3 h5;unfold bQ FW;rw[AZ,Bi];exact h2
theorem zU {R:Nat} (h:gd w B N R cs vT vN vR ts ns rs):(∃A c,vT=.slice A ts.length c)/\(∃A c,vN=.slice A ns.length c)/\∃A c,vR=.slice A rs.length c:=by
 obtain⟨qs,_,h2,_⟩:=id h.r;obtain⟨A1,c1,e1,_⟩:=aO h.t;obtain⟨A2,c2,e2,_⟩:=aO h.n;obtain⟨A3,c3,e3,_⟩:=aO h2;exact⟨⟨A1,c1,e1⟩,⟨A2,c2,e2⟩,⟨A3,c3,e3⟩⟩
theorem gd.nB {R:Nat} (h:gd w B N R cs vT vN vR ts ns rs):gd w.drew B N R cs vT vN vR ts ns rs:=h.below (aB (AB _ _) 1)
theorem K3 {R:Nat} {s:List Int} (hf:Gm.Fit ⟨ts,ns,rs,0⟩) (hs:K.Tx s) (h:gd w B N R (wC vT vN vR lv) vT vN vR ts ns rs) (hN:N<=w.heap.size) :
  Calls prog 109 #[.agg #[vT,vN,vR,.int .i64 0],.string (K.str s)] w fun e w'=>e=.returned (.int .i64 (Gm.find (Gm.names ts) s))/\β w w' :=
 GQ _ ⟨ts,ns,rs,0⟩ s _ w (h.rd hN 0) hf hs (Af _)
theorem Jw {R:Nat} {s:List Int} (hf:Gm.Fit ⟨ts,ns,rs,0⟩) (hs:K.Tx s) (h:gd w B N R (wC vT vN vR lv) vT vN vR ts ns rs) (hN:N<=w.heap.size) :
  Calls prog 89 #[.agg #[vT,vN,vR,.int .i64 0],.string (K.str s)] w fun e w'=>e=.returned (.int .i64 (Gm.find ns s))/\β w w' :=
 LF _ ⟨ts,ns,rs,0⟩ s _ w (h.rd hN 0) hf hs (Af _)
theorem Fit.left (h:Gm.Fit ⟨ts,ns,rs,0⟩) (hx:K.Tx x.t) (hp:Gm.lS ts ns x=.ok ns'):Gm.Fit ⟨ts,ns',rs,0⟩:=by
 rcases Gm.pN hp with⟨rfl,_⟩|⟨rfl,_,_,_⟩
 ·exact h
 ·refine⟨h.t,fun y hy=>?_,h.r,h.s⟩;rcases Bs.1 hy with q|q
  ·exact h.n y q
  ·simp at q;subst q;exact hx
theorem OI (h:Gm.lS ts ns x=.ok ns'):Gm.find (Gm.names ts) x.t<0/\((0<=Gm.find ns x.t/\ns'=ns)\/(Gm.find ns x.t<0/\ns.length≠16/\ns'=ns++[x.t])):=by
 unfold Gm.lS at h;split at h
 ·cases h
 ·rename_i h0
  refine⟨ω,?_⟩;split at h
  ·rename_i h1;injection h with h;exact .inl ⟨h1,h.symm⟩
  ·rename_i h1
   split at h
   ·cases h
   ·rename_i h2;injection h with h;exact .inr ⟨ω,h2,h.symm⟩
theorem Ug (L:List Int) (B N R:Nat) (ts:List Gm.Tm) (rs:List Gm.Rl) (ps:List Y.iu) (ns0 ns2:List (List Int)) (lv:Int) (A:Option Addr) (c:Nat) (w:World) (hw:Wk w B N R ts ns0 rs lv) (hf:Gm.Fit ⟨ts,ns0,rs,0⟩) (hx:∀p∈ps,K.Tx p.l.t/\T.isName p.l.t=true) (hr:BE L w B A ps) (hN:N<=w.heap.size) (hB:B<=w.heap.size) (aw:ns0.length<=16) (bc:ps.length<=1000) (hp:Gm.kE ts ns0 ps=.ok ns2) :
  Calls prog 87 #[.pointer (some ⟨R,0,none⟩),.slice A ps.length c] w fun e w'=>e=.returned (.tuple #[])/\(Wk w' B N R ts ns2 rs lv/\Gm.Fit ⟨ts,ns2,rs,0⟩/\ns2.length<=16)/\Below B w w'/\l8 w w':=by
 have SC:=fun a w m X Y=>show(store a (.complex .f64 X Y) m).run prog w=stored prog w a (.complex .f64 X Y) m from run_store _ w a _ m rfl;have HR:=aA hr;have bd:=aA hw;have bf:=aA hf;have al:=aA aw;have HP:=aA hp;have bg:=aA (fun(i:Nat) (hi:i<ps.length)=>hx _ (AD hi));clear hr hw hf hp hx aw
 go_enter func87,ntmps87
 go_wp2;go_loopw [4] (fun vi wr=>∃(i:Nat) (ns:List (List Int)),i<=ps.length/\vi=.int .i64 i/\Hid (Gm.kE ts ns (ps.drop i)=.ok ns2)/\Hid (Gm.Fit ⟨ts,ns,rs,0⟩)/\Hid (ns.length<=16)/\Hid (Wk wr B N R ts ns rs lv)/\Hid (Below B w wr)/\Hid (l8 w wr)) (fun vi _=>ps.length-(intOf vi).toNat)
 case atStart=>exact⟨0,ns0,Bb _,rfl,HP,bf,al,bd,aA (AB _ _),aA (l8.refl _)⟩
 case round =>
  obtain⟨i,ns,hi,rfl,HE,HF,ag,HW,H,am⟩:=hrel;obtain⟨vT,vN,vR,ah⟩:=HW.o;obtain⟨⟨AT,cT,rfl⟩,⟨AN,cN,rfl⟩,⟨AR,cR,rfl⟩⟩:=zU ah;have bh:=aA ah;obtain⟨f10,_,bx⟩:=ah.at 10;simp only[wC,Aq,Ai,Am]at f10;clear ah;by_cases I:i<ps.length
  ·obtain⟨g,o,rfl,ax,hc⟩:=HR.o ω;have k0:=(H.o.cell (p:=⟨g,o+i*5,none⟩) ax).trans (hc i I).1;have k1:=(H.o.cell (p:=⟨g,o+i*5+1,none⟩) ax).trans (hc i I).2.1;have bz:=H.o.size;have bD:g<wr.heap.size:=ω
   have bi:B<=wr.heap.size:=ω
   obtain⟨J,ay⟩:=bg.o i I;have hE:=HE.o;rw[PV I]at hE;obtain⟨ns1,h1,h2⟩:=Gm.R.bind_eq hE;have az:=aA h2;have bj:=aA (Fit.left HF.o J h1);have ao:=aA (Qz h1 ag.o);obtain⟨hz,aa⟩:=OI h1;have bk:=aA (fun(y:World) (lv':Int) (h:gd y B N R (wC (.slice AT ts.length cT) (.slice AN ns.length cN) (.slice AR rs.length cR) lv') (.slice AT ts.length cT) (.slice AN ns.length cN) (.slice AR rs.length cR) ts ns rs) (hy:N<=y.heap.size)=>K3 HF.o J h hy);have bl:=aA (fun(y:World) (lv':Int) (h:gd y B N R (wC (.slice AT ts.length cT) (.slice AN ns.length cN) (.slice AR rs.length cR) lv') (.slice AT ts.length cT) (.slice AN ns.length cN) (.slice AR rs.length cR) ts ns rs) (hy:N<=y.heap.size)=>Jw HF.o J h hy);have a0:=aA (fun(y:World)=>Js ps[i].l.t J.1 y);rw[ay]at a0;have bm:=aA aa;clear hc hE h1 h2 J ay aa;generalize ps[i].l=x at *;generalize yq L x=X at *;generalize yr L x=Y at *;obtain⟨w1,ai⟩:=χ (wr.alloc (.cells #[.string (K.str x.t),.complex .f64 X Y] 153))
   have f:Hid (β wr w1):=aA (by rw[ai];exact(AB _ _).alloc (Af _) _);have ab:Hid (w1.heap[wr.heap.size]?=some (.cells #[.string (K.str x.t),.complex .f64 X Y] 153 (0,0))):=aA (by rw[ai];exact AI wr _);have s:=aA (bh.o.below f.o);have ad:Hid (N<=w1.heap.size):=aA (by have:=f.o.size;omega);generalize a1:K.str x.t=sx at *;have bn:=aA a1;clear a1;go_wp2_with fail
   try rw[<-ai]
   clear ai f10 k0 k1;refine(a0.o _).mono ?_;rintro _ _ ⟨rfl,rfl⟩;go_wp2_with fail
   obtain⟨p0,_,D⟩:=s.o.at 0;have p1:=(s.o.at 1).1;have p2:=(s.o.at 2).1;have p3:=(s.o.at 3).1;simp only[wC,Aq,Ai,Am]at p0 p1 p2 p3;have F:wr.heap.size<w1.heap.size:=(Ad.1 ab.o).1;have t0:=aQ ab.o;have Q0:=fun y:Calm.On w1.heap.size w1=>(y.2.cell (p:=⟨R,0,none⟩) D).trans p0;have Q1:=fun y:Calm.On w1.heap.size w1=>(y.2.cell (p:=⟨R,1,none⟩) D).trans p1;have Q2:=fun y:Calm.On w1.heap.size w1=>(y.2.cell (p:=⟨R,2,none⟩) D).trans p2;have Q3:=fun y:Calm.On w1.heap.size w1=>(y.2.cell (p:=⟨R,3,none⟩) D).trans p3;have Q4:=fun y:Calm.On w1.heap.size w1=>(y.2.cell (p:=⟨wr.heap.size,0,none⟩) F).trans t0;refine CalmN.fk (γ w1) (.one [0,1,2,3,4,5] 6 (.fin [7,8])) ⟨⟨w1.drew,aB (AB _ _) 1⟩,rfl⟩ ?_;simp only[CalmN.fS,CalmN.fu,CalmN.fo,Aq,Ai,Am];repeat (go_big_quiet_step (fail))
   refine Ap ?_;clear Q0 Q1 Q2 Q3 Q4 p0 p1 p2 p3 t0;intro KK j;rw[Az ε];go_wp2_with fail
   refine(bk.o w1.drew _ s.o.nB ad.o).mono ?_;rintro _ w2 ⟨rfl,M⟩;have b:β w1 w2:=(aB (AB w1.heap.size w1) 1).trans M;have r:=aA b;have u:=aA (s.o.below b);have ac:=aA ((b.block _ F).trans ab.o);have ae:=aA (Ah ad.o b.size);clear M b;go_wp2_with fail
   refine j _ _ ⟨⟨w2,r.o⟩,rfl⟩ _ ι ⟨⟨w2,r.o⟩,rfl⟩ ?_;repeat (go_big_quiet_step (fail))
   refine Ap ?_;clear j F D;have bM:¬(0:Int)<=Gm.find (Gm.names ts) x.t:=ω
   clear hz;generalize Gm.find (Gm.names ts) x.t=z at *;go_wp2_with fail
   obtain⟨p0,_,D⟩:=u.o.at 0;have p1:=(u.o.at 1).1;have p2:=(u.o.at 2).1;have p3:=(u.o.at 3).1;simp only[wC,Aq,Ai,Am]at p0 p1 p2 p3;have F:wr.heap.size<w2.heap.size:=(Ad.1 ac.o).1;have t0:=aQ ac.o;have Q0:=fun y:Calm.On w2.heap.size w2=>(y.2.cell (p:=⟨R,0,none⟩) D).trans p0;have Q1:=fun y:Calm.On w2.heap.size w2=>(y.2.cell (p:=⟨R,1,none⟩) D).trans p1;have Q2:=fun y:Calm.On w2.heap.size w2=>(y.2.cell (p:=⟨R,2,none⟩) D).trans p2;have Q3:=fun y:Calm.On w2.heap.size w2=>(y.2.cell (p:=⟨R,3,none⟩) D).trans p3;have Q4:=fun y:Calm.On w2.heap.size w2=>(y.2.cell (p:=⟨wr.heap.size,0,none⟩) F).trans t0;refine CalmN.fk (γ w2) (.one [0,1,2,3,4,5] 6 (.fin [7,8])) ⟨⟨w2.drew,aB (AB _ _) 1⟩,rfl⟩ ?_;simp only[CalmN.fS,CalmN.fu,CalmN.fo,Aq,Ai,Am];repeat (go_big_quiet_step (fail))
   refine Ap ?_;clear Q0 Q1 Q2 Q3 Q4 p0 p1 p2 p3 t0;intro KK j;rw[Az ε];go_wp2_with fail
   refine(bl.o w2.drew _ u.o.nB ae.o).mono ?_;rintro _ w3 ⟨rfl,M⟩;have b:β w2 w3:=(aB (AB w2.heap.size w2) 1).trans M;have E:=aA b;have v:=aA (u.o.below b);have C:=aA ((b.block _ F).trans ac.o);have bo:=aA (Ah ae.o b.size);clear M b;go_wp2_with fail
   refine j _ _ ⟨⟨w3,E.o⟩,rfl⟩ _ ι ⟨⟨w3,E.o⟩,rfl⟩ ?_;repeat (go_big_quiet_step (fail))
   refine Ap ?_;clear j F D;have a2:=aA (l8.below (((f.o.trans (r.o.mono f.o.size)).trans (E.o.mono (Ah f.o.size r.o.size)))));have ap:=aA (((f.o.trans (r.o.mono f.o.size)).trans (E.o.mono (Ah f.o.size r.o.size))).mono bi);rcases bm.o with⟨h0,e⟩|⟨h0,bp,e⟩
   ·have O:=aA e;clear e;generalize Gm.find ns x.t=z2 at *;go_wp2;go_roundw
    case rel=>exact⟨i+1,ns,I,ν,by rw[<-O.o];exact az,HF,ag,aA ⟨_,_,_,v.o⟩,aA (H.o.trans ap.o),aA (am.o.trans a2.o)⟩
    case measure=>simp[intOf];omega
   have O:=aA e;clear e;have bT:¬(0:Int)<=Gm.find ns x.t:=ω
   generalize Gm.find ns x.t=z2 at *;have a3:((ns.length:Int)==16)=false:=Bc.2 ω;obtain⟨k1,bX,_⟩:=v.o.at 1;simp only[wC,Aq,Ai,Am]at k1;go_wp2_with fail
   have bq:=aA ((v.o.alloc (.cells #[.string sx] 9)).n);have aq:Hid (B<=(w3.alloc (.cells #[.string sx] 9)).drew.heap.size):=aA (by have:=E.o.size;have:=r.o.size;have:=f.o.size;simp;omega);have br:Hid ((w3.alloc (.cells #[.string sx] 9)).drew.cell? ⟨w3.heap.size,0,none⟩=some (.string (K.str x.t))):=aA (by rw[bn.o];exact tD w3 [.string sx] 9 0);have aj:Hid ((w3.alloc (.cells #[.string sx] 9)).heap[wr.heap.size]?=w3.heap[wr.heap.size]?):=aA (((AB _ w3).alloc (Af _) _).block _ (Ad.1 C.o).1);have D8:=fun y:Calm.kC wr.heap.size w3=>aQ (y.2.trans C.o);refine CalmN.fk (fun y=>∃z:Calm.kC wr.heap.size w3,y=z.1) (.two [0,1,2,3,4,6,7] 5 (.one [] 8 (.one [] 9 (.one [10,11,12] 13 (.fin [])))) 8 (.one [] 5 (.one [] 9 (.one [10,11,12] 13 (.fin []))))) ⟨⟨w3.drew,rfl⟩,rfl⟩ ?_;simp only[CalmN.fS,CalmN.fu,CalmN.fo,Aq,Ai,Am];repeat (go_big_quiet_step (fail))
   refine Ap ?_;clear D8;refine⟨?_,?_⟩
   focus
    intro KK j;rw[Az ε];go_wp2_with fail
    refine j _ _ ⟨⟨w3.drew,rfl⟩,rfl⟩ _ ι ⟨⟨w3.drew,rfl⟩,rfl⟩ ?_
   rotate_left
   focus
    intro KK j;rw[Az ε];go_wp2_with fail
    refine j _ _ ⟨⟨(w3.alloc (.cells #[.string sx] 9)).drew,aj.o⟩,rfl⟩ _ ι ⟨⟨(w3.alloc (.cells #[.string sx] 9)).drew,aj.o⟩,rfl⟩ ?_
   all_goals
    refine Ap ?_;intro KK j;try rw[Az ε]
    go_wp2_with fail
    refine j _ _ ⟨⟨(w3.alloc (.cells #[.string sx] 9)).drew,aj.o⟩,rfl⟩ _ ι ⟨⟨(w3.alloc (.cells #[.string sx] 9)).drew,aj.o⟩,rfl⟩ ?_;refine Ap ?_;intro KK j;try rw[Az ε]
    refine R3 (w:=(w3.alloc (.cells #[.string sx] 9)).drew) (.tmp 29) (.tmp 32) _ rfl underlying23 B (.slice AN ns.length cN) ns rfl bq.o _ 1 x.t rfl br.o (by have:=ag.o;omega) aq.o ?_;intro v7 w7 ar af _;have ak:=(tC (w3.alloc (.cells #[.string sx] 9)) _).trans af;obtain⟨A7,c7,a4,_,_⟩:=aO ar;rw[show(ns++[x.t]).length=ns.length+1 by simp]at a4;subst a4;have au:=(v.o.alloc (.cells #[.string sx] 9)).Gk ar ak;have av:=aA au;obtain⟨k7,bs,b0⟩:=au.at 1;simp only[wC,Aq,Ai,Am]at k7;have a5:Below w3.heap.size w3 (w3.alloc (.cells #[.string sx] 9)):=(AB _ w3).alloc (Af _) (.cells #[.string sx] 9);have a6:=aA ((l8.below a5).trans (l8.own (v.o.alloc (.cells #[.string sx] 9)).n ak (.inr (.inl rfl))));have a9:Hid (w7.heap[wr.heap.size]?=w3.heap[wr.heap.size]?):=aA ((a6.o _ _ _ C.o δ δ δ δ).trans C.o.symm);have bu:=aA ((ap.o.alloc (by have:=aq.o;have:=ap.o.size;omega) (.cells #[.string sx] 9)).grown ak (by have:=aq.o;simpa using this) (fun k e=>(aN v.o.n e).1));clear ar ak af au a5;go_wp2_with fail
    refine j _ _ ⟨⟨w7,a9.o⟩,rfl⟩ _ ι ⟨⟨w7,a9.o⟩,rfl⟩ ?_;repeat (go_big_quiet_step (fail))
    refine Ap ?_;intro KK j;try rw[Az ε]
    go_wp2_with fail
    have bv:=aA (av.o.set 1 (.slice A7 (ns.length+1) c7));have ba:=aA (a6.o.trans (iF.set av.o 1 (.slice A7 (ns.length+1) c7)).a);have bw:=aA (bu.o.setCell (p:=⟨R,1,none⟩) av.o.hR (.slice A7 (ns.length+1) c7));have bb:Hid ((w7.setCell ⟨R,1,none⟩ (.slice A7 (ns.length+1) c7)).heap[wr.heap.size]?=w3.heap[wr.heap.size]?):=aA ((ba.o _ _ _ C.o δ δ δ δ).trans C.o.symm);refine j _ _ ⟨⟨_,bb.o⟩,rfl⟩ _ ι ⟨⟨_,bb.o⟩,rfl⟩ ?_;refine Ap ?_;clear k7 bs;go_wp2;go_roundw
    case rel=>exact⟨i+1,ns++[x.t],I,ν,by rw[<-O.o];exact az,by rw[<-O.o];exact bj,by rw[<-O.o];exact ao,aA ⟨_,_,_,bv.o⟩,aA (H.o.trans bw.o),aA ((am.o.trans a2.o).trans ba.o)⟩
    case measure=>simp[intOf];omega
  ·obtain rfl:i=ps.length:=ω
   have hE:=HE.o;rw[Qy (Af _)]at hE;injection hE with hE;subst hE;go_wp2;go_end0
   exact⟨rfl,⟨HW.o,HF.o,ag.o⟩,H.o,am.o⟩
theorem Pu {n:Int} (h:Gm.sym ts x=.ok (ts',n)) (he:x.t≠[101,114,114,111,114]):Gm.put ts x=.ok (ts',n)/\(0<=Gm.find (Gm.names ts) x.t\/(Gm.find (Gm.names ts) x.t<0/\T.isLit x.t=true)):=by
 unfold Gm.sym at h;split at h
 ·rename_i q
  refine⟨h,?_⟩;rcases q with q|q|q
  ·exact .inl q
  ·by_cases h0:0<=Gm.find (Gm.names ts) x.t
   ·exact .inl h0
   ·exact .inr ⟨ω,q⟩
  ·exact absurd q he
 ·cases h
theorem Mu (L:List Int) (B N R:Nat) (ts ts':List Gm.Tm) (ns:List (List Int)) (rs:List Gm.Rl) (lv n:Int) (x:fv) (may:Bool) (w:World) (hw:Wk w B N R ts ns rs lv) (hf:Gm.Fit ⟨ts,ns,rs,0⟩) (hx:K.Tx x.t) (he:x.t≠[101,114,114,111,114]) (hN:N<=w.heap.size) (hB:B<=w.heap.size) (au:(0<=Gm.find ns x.t/\may=true/\ts'=ts/\n = -1-Gm.find ns x.t)\/(Gm.find ns x.t<0/\Gm.sym ts x=.ok (ts',n))) (a3:ts.length<=24) (bd:ns.length<=16) :
  Calls prog 130 #[.pointer (some ⟨R,0,none⟩),cH L x,.bool may] w fun e w'=>e=.returned (.int .i64 n)/\Wk w' B N R ts' ns rs lv/\Below B w w'/\iF w w':=by
 have HW:=aA hw;obtain⟨vT,vN,vR,l⟩:=HW.o;obtain⟨⟨AT,cT,rfl⟩,⟨AN,cN,rfl⟩,⟨AR,cR,rfl⟩⟩:=zU l;have a4:=aA l;have HF:=aA hf;have HX:=aA hx;have bf:=l.lt;clear l;have a5:=aA (fun(y:World) (lv':Int) (h:gd y B N R (wC (.slice AT ts.length cT) (.slice AN ns.length cN) (.slice AR rs.length cR) lv') (.slice AT ts.length cT) (.slice AN ns.length cN) (.slice AR rs.length cR) ts ns rs) (hy:N<=y.heap.size)=>K3 hf hx h hy);have a6:=aA (fun(y:World) (lv':Int) (h:gd y B N R (wC (.slice AT ts.length cT) (.slice AN ns.length cN) (.slice AR rs.length cR) lv') (.slice AT ts.length cT) (.slice AN ns.length cN) (.slice AR rs.length cR) ts ns rs) (hy:N<=y.heap.size)=>Jw hf hx h hy);have av:=aA (fun(y:World)=>Jz x.t hx.1 y);have am:=aA (fun(hp:Gm.put ts x=.ok (ts',n)) (y:World) (h:Wk y B N R ts ns rs lv) (hy:N<=y.heap.size) (hz:B<=y.heap.size)=>Ly L B N R ts ts' ns rs lv n x y h hf hx hy hz hp a3);have aw:=aA (fun h=>Pu (ts:=ts) (ts':=ts') (x:=x) (n:=n) h he);unfold cH at am ⊢;have bg:=hB;generalize Fl.fl (Pl.pos (L.take x.o)).1=X at *;generalize Fl.fl (Pl.pos (L.take x.o)).2=Y at *;obtain⟨w1,aj⟩:=χ (w.alloc (.cells #[.string (K.str x.t),.complex .f64 X Y] 153))
 have aa:Hid (β w w1):=aA (by rw[aj];exact(AB _ _).alloc (Af _) _);have ab:Hid (w1.heap[w.heap.size]?=some (.cells #[.string (K.str x.t),.complex .f64 X Y] 153 (0,0))):=aA (by rw[aj];exact AI w _);have i:=aA (a4.o.below aa.o);have ag:Hid (N<=w1.heap.size):=aA (by have:=aa.o.size;omega);generalize K.str x.t=sx at *;have ax:=aA au;clear au hf hx hw
 go_enter func130,ntmps130
 go_wp2_with fail
 try rw[<-aj]
 clear aj;obtain⟨p0,_,j⟩:=i.o.at 0;have p1:=(i.o.at 1).1;have p2:=(i.o.at 2).1;have p3:=(i.o.at 3).1;simp only[wC,Aq,Ai,Am]at p0 p1 p2 p3;have k:w.heap.size<w1.heap.size:=(Ad.1 ab.o).1;have t0:=aQ ab.o;have Q0:=fun y:Calm.On w1.heap.size w1=>(y.2.cell (p:=⟨R,0,none⟩) j).trans p0;have Q1:=fun y:Calm.On w1.heap.size w1=>(y.2.cell (p:=⟨R,1,none⟩) j).trans p1;have Q2:=fun y:Calm.On w1.heap.size w1=>(y.2.cell (p:=⟨R,2,none⟩) j).trans p2;have Q3:=fun y:Calm.On w1.heap.size w1=>(y.2.cell (p:=⟨R,3,none⟩) j).trans p3;have Q4:=fun y:Calm.On w1.heap.size w1=>(y.2.cell (p:=⟨w.heap.size,0,none⟩) k).trans t0;refine CalmN.fk (γ w1) (.one [0,1,2,3,4,5] 6 (.fin [7])) ⟨⟨w1.drew,aB (AB _ _) 1⟩,rfl⟩ ?_;simp only[CalmN.fS,CalmN.fu,CalmN.fo,Aq,Ai,Am];repeat (go_big_quiet_step (fail))
 refine Ap ?_;clear Q0 Q1 Q2 Q3 Q4 p0 p1 p2 p3 t0;intro KK ak;rw[Az ε];go_wp2_with fail
 refine(a6.o w1.drew _ i.o.nB ag.o).mono ?_;rintro _ w2 ⟨rfl,m⟩;have b:β w1 w2:=(aB (AB w1.heap.size w1) 1).trans m;have ac:=aA b;have f:=aA (i.o.below b);have ad:=aA ((b.block _ k).trans ab.o);have ah:=aA (Ah ag.o b.size);clear m b;go_wp2_with fail
 refine ak _ _ ⟨⟨w2,ac.o⟩,rfl⟩ _ ι ⟨⟨w2,ac.o⟩,rfl⟩ ?_;repeat (go_big_quiet_step (fail))
 refine Ap ?_;clear ak k j;have al:=aA (aa.o.trans (ac.o.mono aa.o.size));rcases ax.o with⟨h0,h1,h2,h3⟩|⟨h0,ay⟩
 ·subst h1;have az:=aA (Ca h2 h3);clear h2 h3;have bh:=Gm.j7 ns x.t;generalize Gm.find ns x.t=z at *;have l:wrap64 (-1-z) = -1-z:=by unfold wrap64;omega
  go_wp2;go_ret
  exact⟨by rw[az.o.2];simp,by rw[az.o.1];exact⟨_,_,_,f.o⟩,al.o.mono hB,iF.below al.o⟩
 ·obtain⟨ai,hc⟩:=aw.o ay;have a9:¬(0:Int)<=Gm.find ns x.t:=ω
  have ba:=aA (am.o ai);clear ay ai am ax aw;generalize Gm.find ns x.t=z at *;have bi:(decide (0<=z)&&may)=false:=by simp[a9]
  go_wp2_with fail
  obtain⟨p0,_,j⟩:=f.o.at 0;have p1:=(f.o.at 1).1;have p2:=(f.o.at 2).1;have p3:=(f.o.at 3).1;simp only[wC,Aq,Ai,Am]at p0 p1 p2 p3;have k:w.heap.size<w2.heap.size:=(Ad.1 ad.o).1;have u0:=aQ ad.o;have Q0:=fun y:Calm.On w2.heap.size w2=>(y.2.cell (p:=⟨R,0,none⟩) j).trans p0;have Q1:=fun y:Calm.On w2.heap.size w2=>(y.2.cell (p:=⟨R,1,none⟩) j).trans p1;have Q2:=fun y:Calm.On w2.heap.size w2=>(y.2.cell (p:=⟨R,2,none⟩) j).trans p2;have Q3:=fun y:Calm.On w2.heap.size w2=>(y.2.cell (p:=⟨R,3,none⟩) j).trans p3;have Q4:=fun y:Calm.On w2.heap.size w2=>(y.2.cell (p:=⟨w.heap.size,0,none⟩) k).trans u0;clear u0;refine CalmN.fk (γ w2) (.one [0,1,2,3,4,5] 6 (.one [7,8,9,10] 11 (.fin [12,13,14,15,16,17,18]))) ⟨⟨w2.drew,aB (AB _ _) 1⟩,rfl⟩ ?_;simp only[CalmN.fS,CalmN.fu,CalmN.fo,Aq,Ai,Am];repeat (go_big_quiet_step (fail))
  refine Ap ?_;intro KK ak;rw[Az ε];go_wp2_with fail
  refine(a5.o w2.drew _ f.o.nB ah.o).mono ?_;rintro _ w3 ⟨rfl,m⟩;have b:β w2 w3:=(aB (AB w2.heap.size w2) 1).trans m;have g:=aA b;have ao:=aA (f.o.below b);have ae:=aA ((b.block _ k).trans ad.o);have ap:=aA (Ah ah.o b.size);clear m b;go_wp2_with fail
  refine ak _ _ ⟨⟨w3,g.o⟩,rfl⟩ _ ι ⟨⟨w3,g.o⟩,rfl⟩ ?_;have aq:=aA (al.o.trans (g.o.mono al.o.size));rcases hc with hc|⟨hc,ar⟩
  focus
   have bj:decide (0<=Gm.find (Gm.names ts) x.t)=true:=AV hc;generalize Gm.find (Gm.names ts) x.t=z2 at *;repeat (go_big_quiet_step (fail))
   refine Ap ?_;intro KK2 af;rw[AJ (by exact(fun h=>absurd (show false=true from h) δ))];refine af _ _ ⟨⟨w3,g.o⟩,rfl⟩ _ ι ⟨⟨w3,g.o⟩,rfl⟩ ?_;simp only[Act.put,D7,DM,DN]
  rotate_left
  focus
   have bk:decide (0<=Gm.find (Gm.names ts) x.t)=false:=AU ω;rw[ar]at av;generalize Gm.find (Gm.names ts) x.t=z2 at *;repeat (go_big_quiet_step (fail))
   refine Ap ?_;intro KK2 af;rw[Az ε];go_wp2_with fail
   refine(av.o _).mono ?_;rintro _ _ ⟨rfl,rfl⟩;go_wp2_with fail
   refine af _ _ ⟨⟨w3,g.o⟩,rfl⟩ _ ι ⟨⟨w3,g.o⟩,rfl⟩ ?_
  all_goals
   repeat (go_big_quiet_step (fail))
   refine Ap ?_;have bb:w.heap.size<w3.heap.size:=(Ad.1 ae.o).1;have t0:=aQ ae.o;have t1:=aU ae.o;have HC:=aA (ba.o w3 ⟨_,_,_,ao.o⟩ ap.o (Ah hB aq.o.size));clear Q0 Q1 Q2 Q3 Q4 p0 p1 p2 p3;go_wp2_with fail
   refine HC.o.mono ?_;rintro _ w4 ⟨rfl,a0,a1,a2⟩;have bc:=aA (Ca a0 (Ca ((aq.o.mono hB).trans a1) ((iF.below aq.o).trans a2)));clear a0 a1 a2 t0 t1;go_wp2;go_ret
   exact⟨rfl,bc.o⟩
theorem iF.beyond {row:Option Nat} (h:iF w wr) (hg:wr.grownBy w' row) (hr:∀k,row=some k->w.heap.size<=k):iF w w':=fun g cs T h1 h2 h3=>by
 have hk:=h g cs T h1 h2 h3;refine(hg.block g (Ad.1 hk).1 (fun e=>?_)).trans hk
 have:=hr g e.symm
 have:=(Ad.1 h1).1
 omega
theorem aV.Ob {xs:List Int} (h:aV w base v xs) (hk:iF w w'):aV w' base v xs:=by
 refine⟨h.1,?_⟩;rcases h.2 with h0|⟨g,cap,cur,e,hb,hg,hr⟩
 ·exact .inl h0
 ·exact .inr ⟨g,cap,cur,e,hb,hk g cur _ hg δ δ,hr⟩
theorem aV.I8 {xs:List Int} (h:aV w N v xs):nW w N v.ownBlock:=⟨fun g e=>by
 obtain⟨h1,cur,h2⟩:=aN h e;exact⟨_,_,h2,δ,δ,δ,.inr h1⟩⟩
theorem Wk.grown {w w':World} {B N R:Nat} {ts:List Gm.Tm} {ns:List (List Int)} {rs:List Gm.Rl} {lv:Int} {row:Option Nat} (h:Wk w B N R ts ns rs lv) (hg:w.grownBy w' row) (ho:nW w N row):Wk w' B N R ts ns rs lv:=by
 obtain⟨vT,vN,vR,h⟩:=h;exact⟨vT,vN,vR,h.grown hg ho⟩
structure ny (w0 wr:World) (B R Q:Nat) (ns:List (List Int)) (rs:List Gm.Rl) (lv:Int) (ts:List Gm.Tm) (PC:Array Value) (lf:Int) (v:Value) (acc:List Int) (p:Int):Prop where
 b:Wk wr B w0.heap.size R ts ns rs lv
 f:Gm.Fit ⟨ts,ns,rs,0⟩
 t:ts.length<=24
 w:Below B w0 wr
 k:iF w0 wr
 q:w0.heap.size<Q
 pb:wr.heap[w0.heap.size]?=some (.cells PC 161 (0,0))
 qb:wr.heap[Q]?=some (.cells #[.int .i64 lf,v,.int .i64 p] 74 (0,0))
 o:aV wr w0.heap.size v acc
section
variable {w0 wr w':World} {B R Q:Nat} {ns:List (List Int)} {rs:List Gm.Rl} {lv:Int} {ts:List Gm.Tm} {PC:Array Value} {lf p p':Int} {v v':Value} {acc acc':List Int}
theorem ny.alloc (h:ny w0 wr B R Q ns rs lv ts PC lf v acc p) (o:Obj) (hB:B<=w0.heap.size):ny w0 (wr.alloc o) B R Q ns rs lv ts PC lf v acc p :=
 ⟨h.b.alloc o,h.f,h.t,h.w.alloc (Ah hB h.w.size) o,h.k.trans (iF.below ((AB _ _).alloc (Af _) o)),h.q,(BD wr o _ (Ad.1 h.pb).1).trans h.pb,(BD wr o _ (Ad.1 h.qb).1).trans h.qb,h.o.alloc o⟩
theorem ny.call (h:ny w0 wr B R Q ns rs lv ts PC lf v acc p) (hb:Wk w' B w0.heap.size R ts' ns rs lv) (hw:Below B wr w') (hk:iF wr w') (hf:Gm.Fit ⟨ts',ns,rs,0⟩) (ht:ts'.length<=24):ny w0 w' B R Q ns rs lv ts' PC lf v acc p :=
 ⟨hb,hf,ht,h.w.trans hw,h.k.trans hk,h.q,hk _ _ _ h.pb δ δ,hk _ _ _ h.qb δ δ,h.o.Ob hk⟩
theorem ny.off (hq:w0.heap.size<Q) (qb:wr.heap[Q]?=some (.cells #[.int .i64 lf,v,.int .i64 p] 74 (0,0))):nW wr w0.heap.size (some Q):=⟨fun g e=>by
 injection e with e;subst e;exact⟨_,_,qb,δ,δ,δ,.inr ω⟩⟩
theorem ny.GD (h:ny w0 wr B R Q ns rs lv ts PC lf v acc p) (j:Nat) (u:Value) (hu:(#[.int .i64 lf,v,.int .i64 p]:Array Value).setIfInBounds j u=#[.int .i64 lf,v',.int .i64 p']) (ho:aV (wr.setCell ⟨Q,j,none⟩ u) w0.heap.size v' acc) (hB:B<=w0.heap.size):ny w0 (wr.setCell ⟨Q,j,none⟩ u) B R Q ns rs lv ts PC lf v' acc p':=by
 have hg:wr.grownBy (wr.setCell ⟨Q,j,none⟩ u) (some Q):=aF (AO _ _) j u;have hq:=h.q;refine⟨h.b.grown hg (ny.off h.q h.qb),h.f,h.t,h.w.setCell (by simp only;omega) u,h.k.beyond hg (fun k e=>by injection e with e;omega),h.q,(AQ wr ⟨Q,j,none⟩ u w0.heap.size (by simp only;omega)).trans h.pb,?_,ho⟩;rw[<-hu];exact Ba wr _ j _ _ u h.qb
theorem ny.app (h:ny w0 wr B R Q ns rs lv ts PC lf v acc p) (ho:aV w' w0.heap.size v' acc') (hg:wr.grownBy w' v.ownBlock) (hB:B<=w0.heap.size) :
  (w'.heap[Q]?=some (.cells #[.int .i64 lf,v,.int .i64 p] 74 (0,0)))/\ny w0 (w'.setCell ⟨Q,1,none⟩ v') B R Q ns rs lv ts PC lf v' acc' p:=by
 have ab:=h.b.grown hg h.o.I8;have pb':=rK h.pb h.o δ hg;have qb':=rK h.qb h.o δ hg;have hN:∀k,v.ownBlock=some k->w0.heap.size<=k:=fun k e=>(aN h.o e).1;have ac:=h.w.grown hg (Ah hB h.w.size) (fun k e=>Ah hB (hN k e));have ad:=h.k.beyond hg hN;have hq:=h.q;have aa:w'.grownBy (w'.setCell ⟨Q,1,none⟩ v') (some Q):=aF (AO _ _) 1 v';exact⟨qb',ab.grown aa (ny.off h.q qb'),h.f,h.t,ac.setCell (by simp only;omega) v',ad.beyond aa (fun k e=>by injection e with e;omega),h.q,(AQ w' ⟨Q,1,none⟩ v' w0.heap.size (by simp only;omega)).trans pb',Ba w' _ 1 _ _ v' qb',ho.mW qb' 1 v'⟩
end
theorem Pv (h:Gm.tj ns ts x=.ok (ts',z)) (hx:K.Tx x.t) (hf:Gm.Fit ⟨ts,ns,rs,0⟩):((0<=Gm.find ns x.t/\true=true/\ts'=ts/\z = -1-Gm.find ns x.t)\/(Gm.find ns x.t<0/\Gm.sym ts x=.ok (ts',z)))/\Gm.Fit ⟨ts',ns,rs,0⟩:=by
 unfold Gm.tj at h;split at h
 ·rename_i h0
  injection h with h;injection h with h1 h2;subst h1;exact⟨.inl ⟨h0,rfl,rfl,h2.symm⟩,hf⟩
 ·rename_i h0
  refine⟨.inr ⟨ω,h⟩,?_⟩;unfold Gm.sym at h;split at h
  ·exact Fit.put hf hx h
  ·cases h
theorem Pw (h:Gm.ti ns ts x=.ok (ts',z)) (hx:K.Tx x.t) (hf:Gm.Fit ⟨ts,ns,rs,0⟩):((0<=Gm.find ns x.t/\false=true/\ts'=ts/\z = -1-Gm.find ns x.t)\/(Gm.find ns x.t<0/\Gm.sym ts x=.ok (ts',z)))/\Gm.Fit ⟨ts',ns,rs,0⟩:=by
 unfold Gm.ti at h;split at h
 ·cases h
 ·rename_i h0
  refine⟨.inr ⟨ω,h⟩,?_⟩;unfold Gm.sym at h;split at h
  ·exact Fit.put hf hx h
  ·cases h
end Go.Proofs.YtjjbaehamplnaaaGreat
