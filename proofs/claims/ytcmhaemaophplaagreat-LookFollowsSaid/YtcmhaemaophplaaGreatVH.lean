/- Part of the proofs over this program: Ref7T, Ref8O, BldD, BldE, BldF, BldH, BldJ, BldK, BldP, BldX, Work9, Term9, ShowL, Decl9, Decls9, ShowSrc, CfgName, ShowRule, ShowLev, Lefts9. -/
import Derived.Maps.AppendAt
import Derived.Test.YtcmhaemaophplaaGreatVG
namespace Go.Proofs.YtcmhaemaophplaaGreat
set_option maxRecDepth 100000
set_option maxHeartbeats 40000000
open Go.RowKit
theorem zgE (A:Option Addr) (c:Nat) (L:List Int) (xs:List Tok) (w:World) (hr:RdB w w.heap.size A L) (hl:K.Bytes L) (hc:L.length<=c) (hn:L.length<=2000) (hx:zjN L=.ok xs) :
  Calls Tryz.prog 62 #[.slice A L.length c] w (zkC L (.ok xs) w):=by
 have HSK:=aA (fun(w1:World) (h:Below w.heap.size w w1) (k:Nat) (hk:k<L.length) (he:(T.piece (L.drop k)).2.2=0)=>zgF A c w.heap.size L k w1 (hr.below h (Nat.le_refl _)) hl hc (by omega) hk he);have HON:=aA (fun(w1:World) (h:Below w.heap.size w w1) (k:Nat) (hk:k<L.length) (he:(T.piece (L.drop k)).2.2=0) (hx:(T.piece (L.drop k)).1≠0)=>zii A c L k w1 (hr.up h) hl hc hn hk he hx);have HAT:=aA (fun(w1:World) (h:Below w.heap.size w w1)=>zcw A c w.heap.size L L.length w1 (hr.below h (Nat.le_refl _)) hn (Nat.le_refl _));have HFN:=aA (fun(k:Nat) (hk:k<L.length)=>T.piece_fine (L.drop k) (by rw[List.length_drop];omega) (hl.drop k));have HX:=aA hx;have HB0:Hid (Below w.heap.size w w):=aA (Below.refl _ _);have SC:=fun a w m X Y=>show(store a (.complex .f64 X Y) m).run Tryz.prog w=stored Tryz.prog w a (.complex .f64 X Y) m from run_store _ w a _ m rfl;clear hr hl hx
 go_enter Tryz.func62,Tryz.ntmps62
 go_wp2;go_loopw [5,6,7] (fun v vk vm wr=>∃(f k m:Nat) (acc:List Tok),vk=.int .i64 k/\vm=.int .i64 m/\k<=L.length/\m<=2/\L.length<k+f/\acc.length<=k/\bQ L wr w.heap.size v acc/\Below w.heap.size w wr/\zfD f (L.drop k) k m acc=.ok xs) (fun _ vk _ _=>L.length-(intOf vk).toNat)
 case atStart=>exact⟨L.length+1,0,0,[],rfl,rfl,by omega,by omega,by omega,by simp,bQ.nil _ _ _,HB0.o,by have:=HX.o;unfold zjN at this;simpa using this⟩
 case round =>
  clear HX HB0;obtain⟨f,k,m,acc,rfl,rfl,hk,hmk,hf,hacc,ho,hb,hsc⟩:=hrel;have HO:=aA ho;have HB:=aA hb;have HSC:=aA hsc;have HMK:=aA hmk;obtain⟨A0,c0,rfl,hq1,hq2⟩:=ho.form;clear ho hb hsc hmk hq1 hq2;by_cases hend:L.length<=k\/2<=m
  ·have hmb:=HMK.o
   have hxs:xs=acc:=by
    have:=HSC.o
    rw[zeN _ _ _ _ _ (by rw[List.length_drop];omega)]at this;injection this with this;exact this.symm
   subst hxs;have HATw:=aA (HAT.o wr HB.o);rw[List.take_length]at HATw;clear HAT HSK HON HFN HSC;by_cases hlt:k<L.length
   ·have hm2:¬(m:Int)<2:=by omega
    clear hend;go_wp2_with fail
    refine(HATw.o).mono ?_;rintro _ w' ⟨rfl,rfl⟩;go_wp2
    go_ret3
    exact⟨_,rfl,HO.o,HB.o⟩
   ·have hlt2:¬(k:Int)<(L.length:Int):=by omega
    clear hend;go_wp2_with fail
    refine(HATw.o).mono ?_;rintro _ w' ⟨rfl,rfl⟩;go_wp2
    go_ret3
    exact⟨_,rfl,HO.o,HB.o⟩
  ·have hlt:k<L.length:=by omega
   have hm2:(m:Int)<2:=by omega
   obtain⟨f,rfl⟩:∃f',f=f'+1:=⟨f-1,by omega⟩
   have hne:¬((L.drop k).length=0\/m=2):=by rw[List.length_drop];omega
   have he:(T.piece (L.drop k)).2.2=0:=by
    by_cases h:(T.piece (L.drop k)).2.2=0
    ·exact h
    ·have:=HSC.o
     rw[zeO _ _ _ _ _ hne h]at this;cases this
   have hso:=HSC.o;rw[zgA _ _ _ _ _ hne he,List.drop_drop]at hso;have hfine:=HFN.o k hlt;obtain⟨h1,h2,h3,_,_,_⟩:=hfine;obtain⟨h4,h5,_,_⟩:=h1 he;rw[List.length_drop]at h5;have HSKw:=aA (HSK.o wr HB.o k hlt he);have HONw:=aA (HON.o wr HB.o k hlt he);clear HSK HON HFN HAT HSC h1 hne hend;unfold zd5 at HONw;generalize T.piece (L.drop k)=x at *;obtain⟨xk,xn,xe⟩:=x;simp only at he h2 h3 h4 h5;subst he;have HSO:=aA hso;clear hso;by_cases hk0:xk=0
   ·subst hk0;have hv:zci k (0,xn,0)=.tuple #[.int .i64 ((k+xn:Nat):Int),.bool true]:=rfl;rw[hv]at HSKw;have HS2:Hid (zfD f (L.drop (k+xn)) (k+xn) m acc=.ok xs):=aA HSO.o;have hpos:¬((k+xn:Nat):Int)<0:=by omega
    clear hv HSO HONw;generalize hj:k+xn=j at *;have HJ:=aA hj;clear hj;go_wp2_with fail
    refine HSKw.o.mono ?_;rintro _ w' ⟨rfl,rfl⟩;go_wp2;go_roundw
    case rel=>exact⟨f,j,m,acc,rfl,rfl,by have:=HJ.o;omega,HMK.o,by have:=HJ.o;omega,by have:=HJ.o;omega,HO.o,HB.o,HS2.o⟩
    case measure=>have:=HJ.o;simp[intOf];omega
   ·have hv:zci k (xk,xn,0)=.tuple #[.int .i64 k,.bool false]:=zeL hk0;rw[hv]at HSKw;have HO1:=aA (HONw.o hk0);simp only at HO1;have HMR:Hid (more acc k (xk,xn,0) (L.drop k)=acc++[⟨xk,a7 xk ((L.drop k).take xn),k⟩]):=aA (by unfold more;rw[if_neg hk0]);rw[HMR.o]at HSO;have hpos:¬((k:Nat):Int)<0:=by omega
    clear hv HONw HMR hk0;go_wp2_with fail
    refine HSKw.o.mono ?_;rintro _ w' ⟨rfl,rfl⟩;go_wp2_with fail
    refine HO1.o.mono ?_;rintro _ w2 ⟨rfl,hb2⟩;have HB2:=aA (HB.o.trans (hb2.mono HB.o.size));have HO2:=aA (HO.o.below hb2 (Nat.le_refl _));clear hb2 HO1 HSKw HO HB
    have HCE:Hid (∀o j u,(zaI L ⟨xk,a7 xk ((L.drop k).take xn),k⟩)[j]?=some u->((w2.alloc o).alloc (.cells #[.int .i64 xk,.string (K.str (a7 xk ((L.drop k).take xn))),.complex .f64 (Fl.fl (Pl.pos (L.take k)).1) (Fl.fl (Pl.pos (L.take k)).2)] 157)).cell? ⟨w2.heap.size+1,j,none⟩=some u):=aA (by
     intro o j u hu;have e:w2.heap.size+1=(w2.alloc o).heap.size:=by simp
     rw[e,World.cell?_alloc_new]
     simpa[zaI] using hu)
    have HGW:=aA (fun o1 o2=>(HB2.o.alloc HB2.o.size o1).alloc (by have:=HB2.o.size;simp;omega) o2);rcases hk9:(xk==9) with _|_
    ·have HMK2:Hid (zbu m (xk,xn,0)=m):=aA (by unfold zbu;rw[if_neg (by simpa using hk9)]);rw[HMK2.o]at HSO;go_wp2_with (at_builtin;refine zhR rfl (.tmp 54) (.tmp 56) _ rfl Tryz.underlying121 L w.heap.size _ acc rfl ((HO2.o.alloc _).alloc _) _ 1 ⟨xk,a7 xk ((L.drop k).take xn),k⟩ rfl (HCE.o _) (by omega) (by have:=HB2.o.size;simp;omega) ?_;intro v3 w3 ho3 hg3)
     have HB3:=aA (zbB (HGW.o _ _) ((HO2.o.alloc _).alloc _) hg3 (by have:=HB2.o.size;simp;omega));have HO3:=aA ho3;clear ho3 hg3;go_roundw
     case rel=>exact⟨f,k+xn,m,acc++[⟨xk,a7 xk ((L.drop k).take xn),k⟩],by go_num,rfl,by omega,by have:=HMK.o;omega,by omega,by simp;omega,HO3.o,HB3.o,HSO.o⟩
     case measure=>simp[intOf];omega
    ·have HMK2:Hid (zbu m (xk,xn,0)=m+1):=aA (by unfold zbu;rw[if_pos (by simpa using hk9)]);rw[HMK2.o]at HSO;go_wp2_with (at_builtin;refine zhR rfl (.tmp 54) (.tmp 56) _ rfl Tryz.underlying121 L w.heap.size _ acc rfl ((HO2.o.alloc _).alloc _) _ 1 ⟨xk,a7 xk ((L.drop k).take xn),k⟩ rfl (HCE.o _) (by omega) (by have:=HB2.o.size;simp;omega) ?_;intro v3 w3 ho3 hg3)
     have HB3:=aA (zbB (HGW.o _ _) ((HO2.o.alloc _).alloc _) hg3 (by have:=HB2.o.size;simp;omega));have HO3:=aA ho3;clear ho3 hg3;go_roundw
     case rel=>exact⟨f,k+xn,m+1,acc++[⟨xk,a7 xk ((L.drop k).take xn),k⟩],by go_num,by go_num,by omega,by have:=HMK.o;omega,by omega,by simp;omega,HO3.o,HB3.o,HSO.o⟩
     case measure=>simp[intOf];omega
theorem bG.less5 {L:List Int} {w:World} {base base':Nat} {v:Value} {ds:List Y.Dcl} (h:bG L w base v ds) (hb:base'<=base):bG L w base' v ds:=by
 obtain⟨qs,h1,h2,h3⟩:=h;refine⟨qs,h1,⟨h2.1,?_⟩,fun q hq=>(h3 q hq).less hb⟩;rcases h2.2 with h0|⟨g,cap,cur,e,hb1,hr⟩
 ·exact .inl h0
 ·exact .inr ⟨g,cap,cur,e,by omega,hr⟩
theorem bF.less5 {L:List Int} {w:World} {base base':Nat} {v:Value} {ps:List Y.Prd} (h:bF L w base v ps) (hb:base'<=base):bF L w base' v ps:=by
 obtain⟨qs,h1,h2,h3⟩:=h;refine⟨qs,h1,⟨h2.1,?_⟩,fun q hq=>(h3 q hq).less hb⟩;rcases h2.2 with h0|⟨g,cap,cur,e,hb1,hr⟩
 ·exact .inl h0
 ·exact .inr ⟨g,cap,cur,e,by omega,hr⟩
theorem zap {w:World} {g:Nat} {cs:Array Value} (h:w.heap[g]?=some (.cells cs 96 (0,0))):aY w (some g):=zbK h (by decide)
theorem zcN (ts:List Gm.Tm) (n:Nat) (h:n<ts.length) (a b:Int):((zec ts).set (n*3+1) (.int .i64 a)).set (n*3+2) (.int .i64 b)=zec (ts.modify n fun t=>⟨t.nm,a,b⟩):=by
 induction ts generalizing n with
 | nil=>simp at h
 | cons t r ih =>
  have e:zec (t::r)=tmC t++zec r:=by unfold zec;rw[List.flatMap_cons]
  cases n with
  | zero =>
   rw[e];simp[tmC,zec,List.modify]
  | succ n =>
   have hl:(tmC t).length=3:=rfl;rw[e,List.set_append_right _ _ (by omega),List.set_append_right _ _ (by omega),hl,show(n+1)*3+1-3=n*3+1 by omega,show(n+1)*3+2-3=n*3+2 by omega,ih n (by simpa using h)];rw[List.modify_succ_cons];unfold zec;rw[List.flatMap_cons]
theorem zaZ {w:World} {base:Nat} {v:Value} {ts:List Gm.Tm} (h:aX w base v ts) (n:Nat) (hn:n<ts.length):∃g c,v=.slice (some ⟨g,0,none⟩) ts.length c/\ts.length<=c/\w.cell? ⟨g,n*3+1,none⟩=some (.int .i64 ts[n].lv)/\w.cell? ⟨g,n*3+2,none⟩=some (.int .i64 ts[n].wy)/\(∀j,w.frozen? ⟨g,j,none⟩=false)/\base<=g/\g<w.heap.size/\∃cur,w.heap[g]?=some (.cells cur 81 (0,0)):=by
 rcases h.2 with⟨_,h0⟩|⟨g,cap,cur,rfl,hb,hg,hnc,hm,hs,ht⟩
 ·omega
 ·refine⟨g,cap,rfl,hnc,?_,?_,fun j=>frozen_of_row w g j _ _ hg,hb,(Array.getElem?_eq_some_iff.1 hg).1,cur,hg⟩
  ·rw[World.ownsRow.cellAt h (n*3+1) (by omega)];exact zbg tmC (fun _=>rfl) ts n 1 hn (by omega)
  ·rw[World.ownsRow.cellAt h (n*3+2) (by omega)];exact zbg tmC (fun _=>rfl) ts n 2 hn (by omega)
def rfX (L:List Int) (x:Tok):Nat:=Fl.fl (Pl.pos (L.take x.o)).1
def rfY (L:List Int) (x:Tok):Nat:=Fl.fl (Pl.pos (L.take x.o)).2
def setSt (S:St) (x:Tok):St:={S with s:={S.s with st:=some x} }
def zkF (L:List Int) (w:World) (B:Nat) (A:Option Addr) (xs:List Tok):Prop :=
 xs.length≠0->∃g o,A=some ⟨g,o,none⟩/\g<B/\∀i (h:i<xs.length),w.cell? ⟨g,o+i*2,none⟩=some (.string (K.str xs[i].t))/\w.cell? ⟨g,o+i*2+1,none⟩=some (.complex .f64 (rfX L xs[i]) (rfY L xs[i]))
def zkH (L:List Int) (w:World) (B:Nat) (A:Option Addr) (ds:List Y.Dcl):Prop :=
 ds.length≠0->∃g o,A=some ⟨g,o,none⟩/\g<B/\∀i (h:i<ds.length),w.cell? ⟨g,o+i*2,none⟩=some (.int .i64 ds[i].k)/\∃A' c',w.cell? ⟨g,o+i*2+1,none⟩=some (.slice A' ds[i].ns.length c')/\zkF L w B A' ds[i].ns
theorem zkF.keep {L:List Int} {w w':World} {B:Nat} {A:Option Addr} {xs:List Tok} (h:zkF L w B A xs) (hb:Below B w w'):zkF L w' B A xs:=fun hn=>by
 obtain⟨g,o,e,hg,hc⟩:=h hn;exact⟨g,o,e,hg,fun i hi=>⟨(hb.cell (p:=⟨g,o+i*2,none⟩) hg).trans (hc i hi).1,(hb.cell (p:=⟨g,o+i*2+1,none⟩) hg).trans (hc i hi).2⟩⟩
theorem zkH.keep {L:List Int} {w w':World} {B:Nat} {A:Option Addr} {xs:List Y.Dcl} (h:zkH L w B A xs) (hb:Below B w w'):zkH L w' B A xs:=fun hn=>by
 obtain⟨g,o,e,hg,hc⟩:=h hn;refine⟨g,o,e,hg,fun i hi=>?_⟩;obtain⟨h1,A',c',h2,h3⟩:=hc i hi;exact⟨(hb.cell (p:=⟨g,o+i*2,none⟩) hg).trans h1,A',c',(hb.cell (p:=⟨g,o+i*2+1,none⟩) hg).trans h2,h3.keep hb⟩
theorem ziX {k:Int} {s s':Gm.S1} {x:Tok} (h:Gm.decl1 k s x=.ok s'):s'.lv=s.lv:=by
 unfold Gm.decl1 at h;split at h
 ·split at h
  ·cases h
  ·injection h with h;subst h;rfl
 ·split at h
  ·split at h
   ·cases h
   ·obtain⟨p,_,h⟩:=Gm.R.bind_eq h;injection h with h;subst h;rfl
  ·split at h
   ·cases h
   ·obtain⟨p,_,h⟩:=Gm.R.bind_eq h;injection h with h;subst h;rfl
theorem zfh {k:Int}:∀(xs:List Tok) {s s':Gm.S1},Gm.declN k s xs=.ok s'->s'.lv=s.lv
 | [],s,s',h=>by rw[Gm.declN]at h;injection h with h;subst h;rfl
 | x::r,s,s',h=>by
  rw[Gm.declN]at h;obtain⟨s1,h1,h2⟩:=Gm.R.bind_eq h;rw[zfh r h2,ziX h1]
theorem zf4 {s:Gm.S1} {ds:List Y.Dcl} {i:Nat} (h:i<ds.length):Gm.decls s (ds.drop i)=(Gm.declN ds[i].k (Gm.up ds[i].k s) ds[i].ns).bind fun s=>Gm.decls s (ds.drop (i+1)):=by
 rw[List.drop_eq_getElem_cons h,Gm.decls]
def zkG (L:List Int) (w:World) (B:Nat) (A:Option Addr) (ps:List Y.Prd):Prop :=
 ps.length≠0->∃g o,A=some ⟨g,o,none⟩/\g<B/\∀i (h:i<ps.length),w.cell? ⟨g,o+i*5,none⟩=some (.string (K.str ps[i].l.t))/\w.cell? ⟨g,o+i*5+1,none⟩=some (.complex .f64 (rfX L ps[i].l) (rfY L ps[i].l))/\(∃A' c',w.cell? ⟨g,o+i*5+2,none⟩=some (.slice A' ps[i].r.length c')/\zkF L w B A' ps[i].r)/\w.cell? ⟨g,o+i*5+3,none⟩=some (.string (soS ps[i].p))/\w.cell? ⟨g,o+i*5+4,none⟩=some (.complex .f64 (soX L ps[i].p) (soY L ps[i].p))
theorem zkG.keep {L:List Int} {w w':World} {B:Nat} {A:Option Addr} {xs:List Y.Prd} (h:zkG L w B A xs) (hb:Below B w w'):zkG L w' B A xs:=fun hn=>by
 obtain⟨g,o,e,hg,hc⟩:=h hn;refine⟨g,o,e,hg,fun i hi=>?_⟩;obtain⟨h1,h2,⟨A',c',h3,h4⟩,h5,h6⟩:=hc i hi;exact⟨(hb.cell (p:=⟨g,o+i*5,none⟩) hg).trans h1,(hb.cell (p:=⟨g,o+i*5+1,none⟩) hg).trans h2,⟨A',c',(hb.cell (p:=⟨g,o+i*5+2,none⟩) hg).trans h3,h4.keep hb⟩,(hb.cell (p:=⟨g,o+i*5+3,none⟩) hg).trans h5,(hb.cell (p:=⟨g,o+i*5+4,none⟩) hg).trans h6⟩
theorem zhf {ts:List Gm.Tm} {ns ns':List (List Int)} {x:Tok} (h:Gm.left1 ts ns x=.ok ns') (hl:ns.length<=16):ns'.length<=16:=by
 rcases Gm.left1_ok h with⟨rfl,_⟩|⟨rfl,_,_,h4⟩
 ·exact hl
 ·rw[List.length_append,List.length_singleton];omega
theorem zfN {ts:List Gm.Tm} {ns:List (List Int)} {ps:List Y.Prd} {i:Nat} (h:i<ps.length):Gm.lefts ts ns (ps.drop i)=(Gm.left1 ts ns ps[i].l).bind fun ns=>Gm.lefts ts ns (ps.drop (i+1)):=by
 rw[List.drop_eq_getElem_cons h,Gm.lefts]
theorem zhe {ts:List Gm.Tm} {ns:List (List Int)} {ps:List Y.Prd} {i:Nat} (h:ps.length<=i):Gm.lefts ts ns (ps.drop i)=.ok ns:=by
 rw[List.drop_eq_nil_of_le h,Gm.lefts]
def zb6 (L:List Int) (p:Y.Prd) (A:Option Addr) (c:Nat):Array Value:=#[.string (K.str p.l.t),.complex .f64 (rfX L p.l) (rfY L p.l),.slice A p.r.length c,.string (soS p.p),.complex .f64 (soX L p.p) (soY L p.p)]
theorem zaC {w:World} {o:Oper} {a:Act} {Q:Exit->Act->World->Prop} {K:Act->World->Prop}
  (s x:Operand) (t:TypeId) (ho:o.op=.call {callee:=.builtin .append,args:=#[s,x],argTypes:=#[t,t]}) (ht:Tryz.prog.underlying t=some (.slice 48))
  (base N:Nat) (v:Value) (rs:List Gm.Rl) (hs:a.eval s=v) (hown:bA w base N v rs) (g c:Nat) (q:RA) (hx:a.eval x=.slice (some ⟨g,0,none⟩) 1 c) (hz:∀j u,(rlC q)[j]?=some u->w.cell? ⟨g,j,none⟩=some u) (hr:q.1.r.length<=q.2.2/\q.2.2<=9223372036854775807/\zdj w base w.heap.size q.2.1 q.1.r)
  (hlen:rs.length<=1000000) (hbase:base<=w.heap.size) (hN:N<=w.heap.size)
  (hK:∀v' w',bA w' base w'.heap.size v' (rs++[q.1])->w.grownBy w' v.ownBlock->K (a.put o.dst v') w') :
  o.wp Tryz.prog a w K Q:=by
 obtain⟨i,hi,hz0,hz1,hz2⟩:=info_parts zlN;obtain⟨qs,hq1,hq2,hq3,hq4⟩:=hown;have hlq:qs.length=rs.length:=by rw[<-hq1,List.length_map]
 refine wp_append_own w s x t ho base 48 i _ 3 40 ht hi hz0 hz1 hz2 rfl (by decide) v rs.length (zmr qs) hs hq2 ⟨g,0,none⟩ 1 c (rlC q) hx rfl ?_ ?_ (by unfold maxLen;omega) (by omega) hbase fun v' w' h1 h2 _=>hK v' w' ?_ h2
 ·intro j u hj;rw[zd6,Nat.zero_add];exact hz j u hj
 ·intro u hu;simp[rlC]at hu;rcases hu with rfl|rfl|rfl <;> rfl
 ·have hng:∀g',v.ownBlock=some g'->(∀cur,w.heap[g']? ≠ some (.cells cur 3 (0,0)))\/w.heap.size<=g':=fun g' e=>by
   obtain⟨_,cur,hc⟩:=aI hq2 e;exact .inl (aR hc (by decide))
  refine⟨qs++[q],by rw[List.map_append,hq1];rfl,?_,fun k hk=>?_,fun p hp=>?_⟩
  ·rw[List.length_append];unfold zmr;rw[List.flatMap_append,List.flatMap_singleton];exact h1
  ·obtain⟨_,cur,hc⟩:=aI h1 hk;exact(Array.getElem?_eq_some_iff.1 hc).1
  ·rcases List.mem_append.1 hp with h|h
   ·obtain⟨a1,a2,a3⟩:=hq4 p h;exact⟨a1,a2,((a3.more hN).grown h2 hng).more h2.size⟩
   ·rw[List.mem_singleton]at h;subst h;exact⟨hr.1,hr.2.1,(hr.2.2.grown h2 hng).more h2.size⟩
theorem aU.row {w:World} {base B:Nat} {v:Value} {xs:List Int} (h:aU w base v xs) (hB:B<=base):∃A c,v=.slice A xs.length c/\xs.length<=c/\c<=9223372036854775807/\zdj w B w.heap.size A xs:=by
 rcases h.2 with⟨rfl,h0⟩|⟨g,cap,cur,rfl,hb,hg,hn,hm,hs,ht⟩
 ·exact⟨none,0,by rw[h0],by omega,by omega,fun hc=>absurd h0 hc⟩
 ·refine⟨some ⟨g,0,none⟩,cap,rfl,hn,by unfold maxLen at hm;omega,fun _=>⟨g,cur,rfl,by omega,(Array.getElem?_eq_some_iff.1 hg).1,hg,fun j hj=>?_⟩⟩;have hq:(cur.toList.take (xs.length*1))[j]?=(xs.map (Value.int .i64))[j]?:=by rw[ht]
  rw[List.getElem?_take_of_lt (by omega),List.getElem?_map,List.getElem?_eq_getElem hj]at hq
  simpa using hq
theorem zb1 {ns:List (List Int)} {ts:List Gm.Tm} {acc:List Int} {p:Int} {xs:List Tok} {i:Nat} (h:i<xs.length):Gm.rights ns ts acc p (xs.drop i)=if acc.length=6 then .bad xs[i] 5 else(Gm.symR ns ts xs[i]).bind fun q=>Gm.rights ns q.1 (acc++[q.2]) (if 0<=q.2 then q.2 else p) (xs.drop (i+1)):=by
 rw[List.drop_eq_getElem_cons h,Gm.rights]
theorem zct {ns:List (List Int)} {ts:List Gm.Tm} {acc:List Int} {p:Int} {xs:List Tok} {i:Nat} (h:xs.length<=i):Gm.rights ns ts acc p (xs.drop i)=.ok (ts,acc,p):=by
 rw[List.drop_eq_nil_of_le h,Gm.rights]
theorem zi0 (z:Int) (w:World):(Instr.build 48 #[(0,.int .i64 z),(2,.int .i64 (-1))]).run Tryz.prog w=.ok (.agg #[.int .i64 z,.slice none 0 0,.int .i64 (-1)]) w:=run_build w 48 _ _ (by kernel_rfl)
theorem zab {w:World} {base N:Nat} {v:Value} {rs:List Gm.Rl} (h:bA w base N v rs):∃A c,v=.slice A rs.length c/\rs.length<=c/\c<=maxLen:=by
 obtain⟨qs,_,h2,_⟩:=h;exact aO h2
theorem aU.set_away {w:World} {base g:Nat} {v:Value} {xs:List Int} {cs:Array Value} (h:aU w base v xs) (hg:w.heap[g]?=some (.cells cs 48 (0,0))) (j:Nat) (u:Value):aU (w.setCell ⟨g,j,none⟩ u) base v xs :=
 World.ownsRow.kept h (aF (World.grownBy.refl _ _) j u) (aP h hg (fun cur e=>by injection e with _ e;cases e))
theorem zbz (w:World) (base:Nat):aU w base (.slice none 0 0) []:=aU.nil w base
theorem zdA {L:List Int} {w:World} {base:Nat} {A:Option Addr} {xs:List Tok} (h:RdR L w base A xs):zkF L w w.heap.size A xs:=fun hn=>by
 obtain⟨g,cur,e,_,hh,_⟩:=h hn;obtain⟨g',e',_,hc⟩:=h.cell hn;rw[e]at e';injection e' with e';injection e' with e';subst e';refine⟨g,0,e,(Array.getElem?_eq_some_iff.1 hh).1,fun i hi=>⟨?_,?_⟩⟩
 ·have:=hc i 0 _ hi (by omega) rfl
  rw[Nat.zero_add];exact this
 ·have:=hc i 1 _ hi (by omega) rfl
  rw[Nat.zero_add];exact this
theorem zhE {L:List Int} {w:World} {base:Nat} {v:Value} {ds:List Y.Dcl} (h:bG L w base v ds):∃A c,v=.slice A ds.length c/\zkH L w w.heap.size A ds:=by
 have h':=h;obtain⟨qs,_,h2,_⟩:=h';rcases h2.2 with⟨hv,h0⟩|⟨g,cap,cur,hv,_,hg,_⟩
 ·exact⟨none,0,by rw[hv,h0],fun hn=>absurd h0 hn⟩
 ·refine⟨some ⟨g,0,none⟩,cap,hv,fun hn=>⟨g,0,rfl,(Array.getElem?_eq_some_iff.1 hg).1,fun i hi=>?_⟩⟩;obtain⟨D,c,A,c',hv',k1,k2,k3⟩:=h.at i hi;rw[hv]at hv';injection hv' with e1 e2 e3;injection e1 with e1;injection e1 with e1;subst e1;rw[Nat.zero_add];exact⟨k1,A,c',k2,zdA k3⟩
theorem zgU {L:List Int} {w:World} {base:Nat} {v:Value} {ps:List Y.Prd} (h:bF L w base v ps):∃A c,v=.slice A ps.length c/\zkG L w w.heap.size A ps:=by
 have h':=h;obtain⟨qs,_,h2,_⟩:=h';rcases h2.2 with⟨hv,h0⟩|⟨g,cap,cur,hv,_,hg,_⟩
 ·exact⟨none,0,by rw[hv,h0],fun hn=>absurd h0 hn⟩
 ·refine⟨some ⟨g,0,none⟩,cap,hv,fun hn=>⟨g,0,rfl,(Array.getElem?_eq_some_iff.1 hg).1,fun i hi=>?_⟩⟩;obtain⟨D,c,A,c',hv',k,k3⟩:=h.at i hi;rw[hv]at hv';injection hv' with e1 e2 e3;injection e1 with e1;injection e1 with e1;subst e1;rw[Nat.zero_add];refine⟨k 0 _ (by omega) rfl,k 1 _ (by omega) rfl,⟨A,c',k 2 _ (by omega) rfl,zdA k3⟩,?_,?_⟩
  ·refine k 3 _ (by omega) ?_;unfold aV za3;rcases ps[i].p with _|x <;> rfl
  ·refine k 4 _ (by omega) ?_;unfold aV za3;rcases ps[i].p with _|x <;> rfl
theorem zfI {w:World} {base N:Nat} {A:Option Addr} {zs:List Int} (h:zdj w base N A zs) (hN:N<=w.heap.size):RdI w w.heap.size A zs:=fun hn=>by
 obtain⟨g,cur,e,_,hg,hh,hc⟩:=h hn;refine⟨g,0,e,by omega,fun j hj=>?_⟩;rw[Nat.zero_add,cell_of_row w g _ _ _ _ hh];rw[hc j hj];simp[List.getD,hj]
theorem zbe {w:World} {base:Nat} {v:Value} {ts:List Gm.Tm} (h:aX w base v ts):∃A c,v=.slice A ts.length c/\(ts.length<=c/\c<=9223372036854775807)/\zeG w w.heap.size A ts:=by
 have h0:=h;unfold aX at h0;rcases h0.2 with⟨hv,h1⟩|⟨g,cap,cur,hv,_,hg,hn,hm,_⟩
 ·exact⟨none,0,by rw[hv,h1],by omega,fun hn=>absurd h1 hn⟩
 ·refine⟨some ⟨g,0,none⟩,cap,hv,⟨hn,by unfold maxLen at hm;omega⟩,fun _=>⟨g,0,rfl,(Array.getElem?_eq_some_iff.1 hg).1,fun i hi=>?_⟩⟩;subst hv;have k:=fun(j:Nat) (u:Value) (hj:j<3) (hu:(tmC ts[i])[j]?=some u)=>World.ownsRow.cells h0 (g:=g) rfl (i*3+j) u (by unfold zec;rw[zbg tmC (fun _=>rfl) ts i j hi hj];exact hu);have k0:=k 0 _ (by omega) rfl;have k1:=k 1 _ (by omega) rfl;have k2:=k 2 _ (by omega) rfl;rw[zd6,Nat.zero_add]at k0 k1 k2;rw[Nat.zero_add];exact⟨k0,k1,k2⟩
theorem zbM {w:World} {base:Nat} {v:Value} {ns:List (List Int)} (h:bH w base v ns):∃A c,v=.slice A ns.length c/\(ns.length<=c/\c<=9223372036854775807)/\RdN w w.heap.size A ns:=by
 have h0:=h;unfold bH at h0;rcases h0.2 with⟨hv,h1⟩|⟨g,cap,cur,hv,_,hg,hn,hm,_⟩
 ·exact⟨none,0,by rw[hv,h1],by omega,fun hn=>absurd h1 hn⟩
 ·refine⟨some ⟨g,0,none⟩,cap,hv,⟨hn,by unfold maxLen at hm;omega⟩,fun _=>⟨g,0,rfl,(Array.getElem?_eq_some_iff.1 hg).1,fun i hi=>?_⟩⟩;subst hv;have k:=World.ownsRow.cells h0 (g:=g) rfl i (.string (K.str ns[i])) (by unfold zkM;simp[hi]);rw[zd6,Nat.zero_add]at k;rw[Nat.zero_add];exact k
theorem zbk {w:World} {base N:Nat} {v:Value} {rs:List Gm.Rl} (h:bA w base N v rs) (hN:N<=w.heap.size):∃A c,v=.slice A rs.length c/\(rs.length<=c/\c<=9223372036854775807)/\zd8 w w.heap.size A rs:=by
 obtain⟨qs,rfl,h0,_,hq⟩:=h;rcases h0.2 with⟨hv,h1⟩|⟨g,cap,cur,hv,_,hg,hn,hm,_⟩
 ·exact⟨none,0,by rw[hv,h1],by omega,fun hn=>absurd h1 hn⟩
 ·refine⟨some ⟨g,0,none⟩,cap,hv,⟨hn,by unfold maxLen at hm;omega⟩,fun _=>⟨g,0,rfl,(Array.getElem?_eq_some_iff.1 hg).1,fun i hi=>?_⟩⟩;subst hv;have hi':i<qs.length:=by simpa using hi
  have k:=fun(j:Nat) (u:Value) (hj:j<3) (hu:(rlC qs[i])[j]?=some u)=>World.ownsRow.cells h0 (g:=g) rfl (i*3+j) u (by unfold zmr;rw[zbg rlC (fun _=>rfl) qs i j hi' hj];exact hu);have k0:=k 0 _ (by omega) rfl;have k1:=k 1 _ (by omega) rfl;have k2:=k 2 _ (by omega) rfl;rw[zd6,Nat.zero_add]at k0 k1 k2;rw[Nat.zero_add];obtain⟨q1,q2,q3⟩:=hq qs[i] (List.getElem_mem hi');simp only[List.getElem_map];exact⟨k0,⟨_,_,k1,q1,q2,zfI q3 hN⟩,k2⟩
def wC (vT vN vR:Value) (lv:Int):Array Value:=#[vT,vN,vR,.int .i64 0,.slice none 0 0,.string ⟨#[]⟩,.complex .f64 0 0,.bool false,.int .i64 lv,.complex .f64 0 0,.int .i64 0]
structure WRaw (w:World) (B N R:Nat) (cs:Array Value) (vT vN vR:Value) (ts:List Gm.Tm) (ns:List (List Int)) (rs:List Gm.Rl):Prop where
 b:w.heap[R]?=some (.cells cs 129 (0,0))
 t:aX w B vT ts
 n:bH w B vN ns
 r:bA w B N vR rs
 hR:B<=R
structure Off9 (w:World) (N:Nat) (row:Option Nat):Prop where
 h:∀g,row=some g->∃cs T,w.heap[g]?=some (.cells cs T (0,0))/\T≠129/\T≠81/\T≠9/\((T≠48/\T≠3)\/N<=g)
theorem Off9.none (w:World) (N:Nat):Off9 w N .none:=⟨fun _ h=>by cases h⟩
section
variable {w w':World} {B N R:Nat} {cs:Array Value} {vT vN vR:Value} {ts:List Gm.Tm} {ns:List (List Int)} {rs:List Gm.Rl} {row:Option Nat}
theorem WRaw.grown (h:WRaw w B N R cs vT vN vR ts ns rs) (hg:w.grownBy w' row) (ho:Off9 w N row):WRaw w' B N R cs vT vN vR ts ns rs:=by
 have hb:some R≠row:=fun e=>by
  obtain⟨cs,T,h1,h2,_⟩:=ho.h R e.symm;exact aR h1 h2 _ h.b
 refine⟨(hg.block R (Array.getElem?_eq_some_iff.1 h.b).1 hb).trans h.b,World.ownsRow.kept h.t hg ?_,World.ownsRow.kept h.n hg ?_,h.r.grown hg ?_,h.hR⟩
 ·rcases row with _|g
  ·exact zav _
  ·obtain⟨cs,T,h1,_,h2,_⟩:=ho.h g rfl;exact aP h.t h1 (fun cur e=>by injection e with _ e;exact h2 e)
 ·rcases row with _|g
  ·exact zav _
  ·obtain⟨cs,T,h1,_,_,h2,_⟩:=ho.h g rfl;exact aP h.n h1 (fun cur e=>by injection e with _ e;exact h2 e)
 ·intro g e;obtain⟨cs,T,h1,_,_,_,h2⟩:=ho.h g e;rcases h2 with q|q
  ·exact .inl ⟨aR h1 q.2,aR h1 q.1⟩
  ·exact .inr q
theorem WRaw.below (h:WRaw w B N R cs vT vN vR ts ns rs) (hb:Below w.heap.size w w'):WRaw w' B N R cs vT vN vR ts ns rs:=h.grown (aM hb .none) (Off9.none _ _)
theorem WRaw.alloc (h:WRaw w B N R cs vT vN vR ts ns rs) (o:Obj):WRaw (w.alloc o) B N R cs vT vN vR ts ns rs:=h.grown (World.grownBy_alloc w o .none) (Off9.none _ _)
theorem WRaw.tm_put (h:WRaw w B N R cs vT vN vR ts ns rs) {v':Value} {ts':List Gm.Tm} (ht:aX w' B v' ts') (hg:w.grownBy w' vT.ownBlock):WRaw w' B N R cs v' vN vR ts' ns rs:=by
 refine⟨zai h.b h.t (by decide) hg,ht,World.ownsRow.kept h.n hg (zat h.n h.t (by decide)),h.r.grown hg (fun g e=>.inl ?_),h.hR⟩;obtain⟨_,cur,hc⟩:=aI h.t e;exact⟨aR hc (by decide),aR hc (by decide)⟩
theorem WRaw.n_put (h:WRaw w B N R cs vT vN vR ts ns rs) {v':Value} {ns':List (List Int)} (ht:bH w' B v' ns') (hg:w.grownBy w' vN.ownBlock):WRaw w' B N R cs vT v' vR ts ns' rs:=by
 refine⟨zai h.b h.n (by decide) hg,World.ownsRow.kept h.t hg (zat h.t h.n (by decide)),ht,h.r.grown hg (fun g e=>.inl ?_),h.hR⟩;obtain⟨_,cur,hc⟩:=aI h.n e;exact⟨aR hc (by decide),aR hc (by decide)⟩
theorem WRaw.r_put {N':Nat} (h:WRaw w B N R cs vT vN vR ts ns rs) {v':Value} {rs':List Gm.Rl} (ht:bA w' B N' v' rs') (hg:w.grownBy w' vR.ownBlock):WRaw w' B N' R cs vT vN v' ts ns rs':=by
 obtain⟨qs,_,h2,_⟩:=id h.r;exact⟨zai h.b h2 (by decide) hg,World.ownsRow.kept h.t hg (zat h.t h2 (by decide)),World.ownsRow.kept h.n hg (zat h.n h2 (by decide)),ht,h.hR⟩
theorem WRaw.set (h:WRaw w B N R cs vT vN vR ts ns rs) (j:Nat) (u:Value):WRaw (w.setCell ⟨R,j,none⟩ u) B N R (cs.setIfInBounds j u) vT vN vR ts ns rs:=by
 have hg:w.grownBy (w.setCell ⟨R,j,none⟩ u) (some R):=aF (World.grownBy.refl _ _) j u;refine⟨heap_setCell_same w R j _ _ u h.b,World.ownsRow.kept h.t hg (aP h.t h.b (fun cur e=>by injection e with _ e;cases e)),World.ownsRow.kept h.n hg (aP h.n h.b (fun cur e=>by injection e with _ e;cases e)),h.r.grown hg (fun g e=>.inl ?_),h.hR⟩;injection e with e;subst e;exact⟨aR h.b (by decide),aR h.b (by decide)⟩
theorem WRaw.more {N':Nat} (h:WRaw w B N R cs vT vN vR ts ns rs) (hN:N<=N'):WRaw w B N' R cs vT vN vR ts ns rs:=⟨h.b,h.t,h.n,h.r.more hN,h.hR⟩
theorem WRaw.at (h:WRaw w B N R cs vT vN vR ts ns rs) (j:Nat):w.cell? ⟨R,j,none⟩=cs[j]?/\w.frozen? ⟨R,j,none⟩=false/\R<w.heap.size :=
 ⟨cell_of_row w R j _ _ _ h.b,frozen_of_row w R j _ _ h.b,(Array.getElem?_eq_some_iff.1 h.b).1⟩
theorem WRaw.lt (h:WRaw w B N R cs vT vN vR ts ns rs):R<w.heap.size:=(Array.getElem?_eq_some_iff.1 h.b).1
theorem WRaw.rd (h:WRaw w B N R cs vT vN vR ts ns rs) (hN:N<=w.heap.size) (z:Int):aT w w.heap.size (.agg #[vT,vN,vR,.int .i64 z]) ⟨ts,ns,rs,z⟩:=by
 obtain⟨AT,cT,rfl,h1,h2⟩:=zbe h.t;obtain⟨AN,cN,rfl,h3,h4⟩:=zbM h.n;obtain⟨AR,cR,rfl,h5,h6⟩:=zbk h.r hN;exact⟨AT,cT,AN,cN,AR,cR,rfl,h1,h3,h5,h2,h4,h6⟩
end
def KpT (w w':World):Prop:=∀(g:Nat) (cs:Array Value) (T:TypeId),w.heap[g]?=some (.cells cs T (0,0))->T≠129->T≠81->w'.heap[g]?=some (.cells cs T (0,0))
def KpA (w w':World):Prop:=∀(g:Nat) (cs:Array Value) (T:TypeId),w.heap[g]?=some (.cells cs T (0,0))->T≠129->T≠81->T≠9->T≠48->w'.heap[g]?=some (.cells cs T (0,0))
theorem KpT.refl (w:World):KpT w w:=fun _ _ _ h _ _=>h
theorem KpA.refl (w:World):KpA w w:=fun _ _ _ h _ _ _ _=>h
theorem KpT.trans {a b c:World} (h:KpT a b) (k:KpT b c):KpT a c:=fun g cs T h1 h2 h3=>k g cs T (h g cs T h1 h2 h3) h2 h3
theorem KpA.trans {a b c:World} (h:KpA a b) (k:KpA b c):KpA a c:=fun g cs T h1 h2 h3 h4 h5=>k g cs T (h g cs T h1 h2 h3 h4 h5) h2 h3 h4 h5
theorem KpT.a {w w':World} (h:KpT w w'):KpA w w':=fun g cs T h1 h2 h3 _ _=>h g cs T h1 h2 h3
theorem KpT.below {w w':World} (h:Below w.heap.size w w'):KpT w w':=fun g _ _ h1 _ _=>(h.block g (Array.getElem?_eq_some_iff.1 h1).1).trans h1
theorem KpA.below {w w':World} (h:Below w.heap.size w w'):KpA w w':=(KpT.below h).a
theorem KpT.cells {w w':World} {g:Nat} (h:w.grownBy w' (some g)) {T:TypeId} {cs:Array Value} (hg:w.heap[g]?=some (.cells cs T (0,0))) (hT:T=129\/T=81):KpT w w':=fun k cs' T' h1 h2 h3=>by
 refine(h.block k (Array.getElem?_eq_some_iff.1 h1).1 (fun e=>?_)).trans h1;injection e with e;subst e;rw[hg]at h1;injection h1 with h1;injection h1 with _ h1;rcases hT with q|q
 ·exact h2 (h1.symm.trans q)
 ·exact h3 (h1.symm.trans q)
theorem KpA.cells {w w':World} {g:Nat} (h:w.grownBy w' (some g)) {T:TypeId} {cs:Array Value} (hg:w.heap[g]?=some (.cells cs T (0,0))) (hT:T=129\/T=81\/T=9\/T=48):KpA w w':=fun k cs' T' h1 h2 h3 h4 h5=>by
 refine(h.block k (Array.getElem?_eq_some_iff.1 h1).1 (fun e=>?_)).trans h1;injection e with e;subst e;rw[hg]at h1;injection h1 with h1;injection h1 with _ h1;rcases hT with q|q|q|q
 ·exact h2 (h1.symm.trans q)
 ·exact h3 (h1.symm.trans q)
 ·exact h4 (h1.symm.trans q)
 ·exact h5 (h1.symm.trans q)
theorem KpT.own {w w':World} {base size n:Nat} {v:Value} {xs:List Value} (ho:w.ownsRow base 81 size v n xs) (h:w.grownBy w' v.ownBlock):KpT w w':=by
 rcases hv:v.ownBlock with _|k
 ·rw[hv]at h;exact fun g _ _ h1 _ _=>(h.block g (Array.getElem?_eq_some_iff.1 h1).1 (by simp)).trans h1
 ·rw[hv]at h;obtain⟨_,cur,hc⟩:=aI ho hv;exact KpT.cells h hc (.inr rfl)
theorem KpA.own {w w':World} {base size n:Nat} {v:Value} {xs:List Value} {e:TypeId} (ho:w.ownsRow base e size v n xs) (h:w.grownBy w' v.ownBlock) (he:e=81\/e=9\/e=48):KpA w w':=by
 rcases hv:v.ownBlock with _|k
 ·rw[hv]at h;exact fun g _ _ h1 _ _ _ _=>(h.block g (Array.getElem?_eq_some_iff.1 h1).1 (by simp)).trans h1
 ·rw[hv]at h;obtain⟨_,cur,hc⟩:=aI ho hv;exact KpA.cells h hc (.inr he)
theorem KpT.set {w:World} {B N R:Nat} {cs:Array Value} {vT vN vR:Value} {ts:List Gm.Tm} {ns:List (List Int)} {rs:List Gm.Rl} (h:WRaw w B N R cs vT vN vR ts ns rs) (j:Nat) (u:Value):KpT w (w.setCell ⟨R,j,none⟩ u):=KpT.cells (aF (World.grownBy.refl w (some R)) j u) h.b (.inl rfl)
def Wk (w:World) (B N R:Nat) (ts:List Gm.Tm) (ns:List (List Int)) (rs:List Gm.Rl) (lv:Int):Prop:=∃vT vN vR,WRaw w B N R (wC vT vN vR lv) vT vN vR ts ns rs
theorem Wk.below {w w':World} {B N R:Nat} {ts:List Gm.Tm} {ns:List (List Int)} {rs:List Gm.Rl} {lv:Int} (h:Wk w B N R ts ns rs lv) (hb:Below w.heap.size w w'):Wk w' B N R ts ns rs lv:=by
 obtain⟨vT,vN,vR,h⟩:=h;exact⟨vT,vN,vR,h.below hb⟩
theorem Wk.alloc {w:World} {B N R:Nat} {ts:List Gm.Tm} {ns:List (List Int)} {rs:List Gm.Rl} {lv:Int} (h:Wk w B N R ts ns rs lv) (o:Obj):Wk (w.alloc o) B N R ts ns rs lv:=by
 obtain⟨vT,vN,vR,h⟩:=h;exact⟨vT,vN,vR,h.alloc o⟩
theorem Wk.more {w:World} {B N N' R:Nat} {ts:List Gm.Tm} {ns:List (List Int)} {rs:List Gm.Rl} {lv:Int} (h:Wk w B N R ts ns rs lv) (hN:N<=N'):Wk w B N' R ts ns rs lv:=by
 obtain⟨vT,vN,vR,h⟩:=h;exact⟨vT,vN,vR,h.more hN⟩
theorem Wk.lt {w:World} {B N R:Nat} {ts:List Gm.Tm} {ns:List (List Int)} {rs:List Gm.Rl} {lv:Int} (h:Wk w B N R ts ns rs lv):R<w.heap.size/\B<=R:=by
 obtain⟨vT,vN,vR,h⟩:=h;exact⟨h.lt,h.hR⟩
end Go.Proofs.YtcmhaemaophplaaGreat
namespace Go.Proofs.YtcmhaemaophplaaGreat
set_option maxRecDepth 100000
set_option maxHeartbeats 40000000
open Go.RowKit
theorem zhM (s:ByteArray) (w:World):(Instr.build 81 #[(0,.string s)]).run Tryz.prog w=.ok (.agg #[.string s,.int .i64 0,.int .i64 0]) w:=run_build w 81 _ _ (by kernel_rfl)
theorem zhQ {w:World} {o:Oper} {a:Act} {KK:Act->World->Prop} {Q:Exit->Act->World->Prop}
  (s x:Operand) (t:TypeId) (ho:o.op=.call {callee:=.builtin .append,args:=#[s,x],argTypes:=#[t,t]}) (ht:Tryz.prog.underlying t=some (.slice 81))
  (base:Nat) (v:Value) (ts:List Gm.Tm) (hs:a.eval s=v) (hown:aX w base v ts) (g c:Nat) (y:Gm.Tm) (hx:a.eval x=.slice (some ⟨g,0,none⟩) 1 c) (hz:∀j,w.cell? ⟨g,j,none⟩=(tmC y)[j]?)
  (hlen:ts.length<=1000000) (hbase:base<=w.heap.size)
  (hK:∀v' w',aX w' base v' (ts++[y])->w.grownBy w' v.ownBlock->KK (a.put o.dst v') w') :
  o.wp Tryz.prog a w KK Q:=by
 obtain⟨i,hi,hz0,hz1,hz2⟩:=info_parts zjk;refine wp_append_own w s x t ho base 81 i _ 3 32 ht hi hz0 hz1 hz2 rfl (by decide) v ts.length (zec ts) hs hown ⟨g,0,none⟩ 1 c (tmC y) hx rfl ?_ ?_ (by unfold maxLen;omega) (by omega) hbase fun v' w' h1 h2 _=>hK v' w' ?_ h2
 ·intro j u hj;rw[zd6,Nat.zero_add];exact(hz j).trans hj
 ·intro u hu;simp[tmC]at hu;rcases hu with rfl|rfl|rfl <;> rfl
 ·unfold aX zec;rw[List.length_append,List.flatMap_append,List.flatMap_singleton];exact h1
theorem zdo (L:List Int) (B N R:Nat) (ts ts':List Gm.Tm) (ns:List (List Int)) (rs:List Gm.Rl) (lv n:Int) (x:Tok) (w:World) (hw:Wk w B N R ts ns rs lv) (hf:Gm.Fit ⟨ts,ns,rs,0⟩) (hx:K.Tx x.t) (hN:N<=w.heap.size) (hB:B<=w.heap.size) (hp:Gm.put ts x=.ok (ts',n)) (h24:ts.length<=24) :
  Calls Tryz.prog 132 #[.pointer (some ⟨R,0,none⟩),bO L x] w fun e w'=>e=.returned (.int .i64 n)/\Wk w' B N R ts' ns rs lv/\Below B w w'/\KpT w w':=by
 have HW:=aA hw;obtain⟨vT,vN,vR,h⟩:=hw;have HH:=aA h;obtain⟨AT,cT,rfl,hc1,_⟩:=aO h.t;obtain⟨AN,cN,rfl,_,_⟩:=aO h.n;have hr3:∃AR cR,vR=.slice AR rs.length cR:=by obtain⟨qs,_,h2,_⟩:=id h.r;obtain⟨A,c,e,_⟩:=aO h2;exact⟨A,c,e⟩
 obtain⟨AR,cR,rfl⟩:=hr3;obtain⟨k0,hf0,hRs⟩:=h.at 0;have k1:=(h.at 1).1;have k2:=(h.at 2).1;have k3:=(h.at 3).1;simp only[wC,List.getElem?_toArray,List.getElem?_cons_zero,List.getElem?_cons_succ]at k0 k1 k2 k3;have HX:=aA (Below.refl w.heap.size w);unfold bO;obtain⟨w1,hw1⟩:∃y,y=w.alloc (.cells #[.string (K.str x.t),.complex .f64 (Fl.fl (Pl.pos (L.take x.o)).1) (Fl.fl (Pl.pos (L.take x.o)).2)] 127):=⟨_,rfl⟩
 have HB1:Hid (Below w.heap.size w w1):=aA (by rw[hw1];exact(Below.refl _ _).alloc (Nat.le_refl _) _);have HR1:Hid (w1.heap[w.heap.size]?=some (.cells #[.string (K.str x.t),.complex .f64 (Fl.fl (Pl.pos (L.take x.o)).1) (Fl.fl (Pl.pos (L.take x.o)).2)] 127 (0,0))):=aA (by rw[hw1];exact heap_alloc_new w _);have HT:=aA (fun(y:World) (hb:Below w1.heap.size w1 y)=>zbh (.agg #[.slice AT ts.length cT,.slice AN ns.length cN,.slice AR rs.length cR,.int .i64 0]) ⟨ts,ns,rs,0⟩ x.t w.heap.size y ((h.rd hN 0).below (HB1.o.trans (hb.mono HB1.o.size)) (Nat.le_refl _)) hf hx (Nat.le_trans HB1.o.size hb.size));unfold Gm.term at HT;unfold Gm.put at hp;have HP:=aA hp;have HF:=aA hf;clear hp h hf
 go_enter Tryz.func132,Tryz.ntmps132
 go_wp2_with fail
 rw[<-hw1];clear hw1;have hk:=HB1.o;have p0:=(hk.cell (p:=⟨R,0,none⟩) hRs).trans k0;have p1:=(hk.cell (p:=⟨R,1,none⟩) hRs).trans k1;have p2:=(hk.cell (p:=⟨R,2,none⟩) hRs).trans k2;have p3:=(hk.cell (p:=⟨R,3,none⟩) hRs).trans k3;have hR1:R<w1.heap.size:=Nat.lt_of_lt_of_le hRs hk.size;have hb1:w.heap.size<w1.heap.size:=(Array.getElem?_eq_some_iff.1 HR1.o).1;have t0:w1.cell? ⟨w.heap.size,0,none⟩=some (.string (K.str x.t)):=by rw[cell_of_row w1 _ 0 _ _ _ HR1.o];rfl
 have Q0:=fun y:Calm.On w1.heap.size w1=>(y.2.cell (p:=⟨R,0,none⟩) hR1).trans p0;have Q1:=fun y:Calm.On w1.heap.size w1=>(y.2.cell (p:=⟨R,1,none⟩) hR1).trans p1;have Q2:=fun y:Calm.On w1.heap.size w1=>(y.2.cell (p:=⟨R,2,none⟩) hR1).trans p2;have Q3:=fun y:Calm.On w1.heap.size w1=>(y.2.cell (p:=⟨R,3,none⟩) hR1).trans p3;have Q4:=fun y:Calm.On w1.heap.size w1=>(y.2.cell (p:=⟨w.heap.size,0,none⟩) hb1).trans t0;clear hk;refine CalmN.region_tree (fun x=>∃y:Calm.On w1.heap.size w1,x=y.1) (.one [0,1,2,3,4,5] 6 (.fin [7])) (by kernel_rfl) (by kernel_rfl) (fun _ _ d _ _ h=>by cases d <;> exact h) ⟨⟨w1.drew,aB (Below.refl _ _) 1⟩,rfl⟩ ?_;simp only[CalmN.wpT,CalmN.wpSt,CalmN.pickOps,List.getElem?_toArray,List.getElem?_cons_zero,List.getElem?_cons_succ];repeat (go_big_quiet_step (fail))
 refine wpQuiet_nil ?_;clear Q0 Q1 Q2 Q3 Q4 p0 p1 p2 p3 t0 k0 k1 k2 k3;intro KK hKK;rw[if_pos (by rfl)];go_wp2_with fail
 refine(HT.o w1.drew (aB (Below.refl _ _) 1)).mono ?_;rintro _ w2 ⟨rfl,hb2⟩;have hb12:Below w1.heap.size w1 w2:=(aB (Below.refl w1.heap.size w1) 1).trans hb2;have HB12:=aA hb12;clear hb2;go_wp2_with fail
 refine hKK _ _ ⟨⟨w2,hb12⟩,rfl⟩ (fun x=>∃y:Calm.On w1.heap.size w1,x=y.1) (fun _ h=>h) ⟨⟨w2,hb12⟩,rfl⟩ ?_;repeat (go_big_quiet_step (fail))
 refine wpQuiet_nil ?_;have HB2:=aA (HB1.o.trans (hb12.mono HB1.o.size));have HW2:=aA (HH.o.below HB2.o);have HR2:=aA ((hb12.block w.heap.size hb1).trans HR1.o);clear hb12 hKK;by_cases h0:0<=Gm.find (Gm.names ts) x.t
 ·have HE:Hid (ts=ts'/\Gm.find (Gm.names ts) x.t=n):=aA (by have h:=HP.o;rw[if_pos h0]at h;injection h with h;exact⟨congrArg Prod.fst h,congrArg Prod.snd h⟩);rw[HE.o.2]at h0 ⊢;go_wp2;go_ret
  exact⟨rfl,⟨_,_,_,by rw[<-HE.o.1];exact HW2.o⟩,HB2.o.mono hB,KpT.below HB2.o⟩
 ·have HE:Hid (ts++[⟨x.t,0,0⟩]=ts'/\(ts.length:Int)=n/\ts.length≠24):=aA (by
   have h:=HP.o;rw[if_neg h0]at h;by_cases h24:ts.length=24
   ·rw[if_pos h24]at h;cases h
   ·rw[if_neg h24]at h;injection h with h;exact⟨congrArg Prod.fst h,congrArg Prod.snd h,h24⟩)
  have hl24:((ts.length:Int)==24)=false:=beq_eq_false_iff_ne.2 (by have:=HE.o.2.2;omega);obtain⟨k0,hf0,hR2⟩:=HW2.o.at 0;simp only[wC,List.getElem?_toArray,List.getElem?_cons_zero]at k0;generalize Gm.find (Gm.names ts) x.t=z at *;go_wp2_with fail
  have HR2r:=HR2;have HB26:=aA (HB2.o.mono hB);have HO6:=aA ((HW2.o.alloc (.cells (tmC ⟨x.t,0,0⟩).toArray 81)).t);have HB6:Hid (B<=(w2.alloc (.cells (tmC ⟨x.t,0,0⟩).toArray 81)).drew.heap.size):=aA (by have:=HB2.o.size;simp;omega);have HCE:=aA (aL w2 (tmC ⟨x.t,0,0⟩) 81);have HT6:Hid ((w2.alloc (.cells (tmC ⟨x.t,0,0⟩).toArray 81)).heap[w.heap.size]?=w2.heap[w.heap.size]?):=aA (((Below.refl _ w2).alloc (Nat.le_refl _) _).block _ (Array.getElem?_eq_some_iff.1 HR2.o).1);have RB:=fun w=>zhM (K.str x.t) w;have D8:=fun y:Calm.OnB w.heap.size w2=>(show y.1.cell? ⟨w.heap.size,0,none⟩=some (.string (K.str x.t)) by rw[cell_of_row y.1 _ 0 _ _ _ (y.2.trans HR2.o)];rfl)
  refine CalmN.region_tree (fun y=>∃z:Calm.OnB w.heap.size w2,y=z.1) (.two [0,1,2,3,4,6,7,8] 5 (.one [] 9 (.one [] 10 (.one [11,12,13] 14 (.fin [])))) 9 (.one [] 5 (.one [] 10 (.one [11,12,13] 14 (.fin []))))) (by kernel_rfl) (by kernel_rfl) (fun _ _ d _ _ h=>by cases d <;> exact h) ⟨⟨w2.drew,rfl⟩,rfl⟩ ?_;simp only[CalmN.wpT,CalmN.wpSt,CalmN.pickOps,List.getElem?_toArray,List.getElem?_cons_zero,List.getElem?_cons_succ];repeat (go_big_quiet_step (fail))
  refine wpQuiet_nil ?_;clear D8;refine⟨?_,?_⟩
  ·intro KK hKK;rw[if_pos (by rfl)];go_wp2_with fail
   refine hKK _ _ ⟨⟨w2.drew,rfl⟩,rfl⟩ (fun y=>∃z:Calm.OnB w.heap.size w2,y=z.1) (fun _ h=>h) ⟨⟨w2.drew,rfl⟩,rfl⟩ ?_;refine wpQuiet_nil ?_;intro KK hKK;try rw[if_pos (by rfl)]
   go_wp2_with fail
   refine hKK _ _ ⟨⟨(w2.alloc (.cells (tmC ⟨x.t,0,0⟩).toArray 81)).drew,HT6.o⟩,rfl⟩ (fun y=>∃z:Calm.OnB w.heap.size w2,y=z.1) (fun _ h=>h) ⟨⟨(w2.alloc (.cells (tmC ⟨x.t,0,0⟩).toArray 81)).drew,HT6.o⟩,rfl⟩ ?_;refine wpQuiet_nil ?_;intro KK hKK;try rw[if_pos (by rfl)]
   refine zhQ (w:=(w2.alloc (.cells (tmC ⟨x.t,0,0⟩).toArray 81)).drew) (.tmp 31) (.tmp 35) _ rfl Tryz.underlying22 B (.slice AT ts.length cT) ts rfl HO6.o _ 1 ⟨x.t,0,0⟩ rfl HCE.o (by omega) HB6.o ?_;intro v7 w7 ho7 hg7';have hg7:=(aH (w2.alloc (.cells (tmC ⟨x.t,0,0⟩).toArray 81)) _).trans hg7';obtain⟨A7,c7,hv7,_,_⟩:=aO ho7;rw[show(ts++[(⟨x.t,0,0⟩:Gm.Tm)]).length=ts.length+1 by simp]at hv7;subst hv7;have hW7:=(HW2.o.alloc (.cells (tmC ⟨x.t,0,0⟩).toArray 81)).tm_put ho7 hg7;have HW7:=aA hW7;obtain⟨k7,hf7,hR7⟩:=hW7.at 0;simp only[wC,List.getElem?_toArray,List.getElem?_cons_zero]at k7;have hK7:=(KpT.below ((Below.refl _ w2).alloc (Nat.le_refl _) (.cells (tmC ⟨x.t,0,0⟩).toArray 81))).trans (KpT.own (HW2.o.alloc (.cells (tmC ⟨x.t,0,0⟩).toArray 81)).t hg7);have HK7:=aA hK7;have HT7:Hid (w7.heap[w.heap.size]?=w2.heap[w.heap.size]?):=aA ((hK7 _ _ _ HR2r.o (by decide) (by decide)).trans HR2r.o.symm);have HB7:=aA ((HB26.o.alloc (Nat.le_trans hB HB2.o.size) (.cells (tmC ⟨x.t,0,0⟩).toArray 81)).grown hg7 (by have:=HB2.o.size;simp;omega) (fun k e=>(aI HW2.o.t e).1));clear ho7 hg7 hg7' hW7 hK7;go_wp2_with fail
   refine hKK _ _ ⟨⟨w7,HT7.o⟩,rfl⟩ (fun y=>∃z:Calm.OnB w.heap.size w2,y=z.1) (fun _ h=>h) ⟨⟨w7,HT7.o⟩,rfl⟩ ?_;repeat (go_big_quiet_step (fail))
   refine wpQuiet_nil ?_;intro KK hKK;try rw[if_pos (by rfl)]
   go_wp2_with fail
   have HW8:=aA (HW7.o.set 0 (.slice A7 (ts.length+1) c7));have HK8:=aA (HK7.o.trans (KpT.set HW7.o 0 (.slice A7 (ts.length+1) c7)));have HB8:=aA (HB7.o.setCell (p:=⟨R,0,none⟩) HW7.o.hR (.slice A7 (ts.length+1) c7));have HT8:Hid ((w7.setCell ⟨R,0,none⟩ (.slice A7 (ts.length+1) c7)).heap[w.heap.size]?=w2.heap[w.heap.size]?):=aA ((HK8.o _ _ _ HR2r.o (by decide) (by decide)).trans HR2r.o.symm);refine hKK _ _ ⟨⟨_,HT8.o⟩,rfl⟩ (fun y=>∃z:Calm.OnB w.heap.size w2,y=z.1) (fun _ h=>h) ⟨⟨_,HT8.o⟩,rfl⟩ ?_;refine wpQuiet_nil ?_;obtain⟨k8,_,hR8⟩:=HW8.o.at 0;simp only[wC,List.setIfInBounds_toArray,List.set_cons_zero,List.getElem?_toArray,List.getElem?_cons_zero]at k8;clear k7 hf7;go_wp2;go_ret
   refine⟨by simp;exact HE.o.2.1,⟨_,_,_,by rw[<-HE.o.1];exact HW8.o⟩,HB8.o,(KpT.below HB2.o).trans HK8.o⟩
  ·intro KK hKK;rw[if_pos (by rfl)];go_wp2_with fail
   refine hKK _ _ ⟨⟨(w2.alloc (.cells (tmC ⟨x.t,0,0⟩).toArray 81)).drew,HT6.o⟩,rfl⟩ (fun y=>∃z:Calm.OnB w.heap.size w2,y=z.1) (fun _ h=>h) ⟨⟨(w2.alloc (.cells (tmC ⟨x.t,0,0⟩).toArray 81)).drew,HT6.o⟩,rfl⟩ ?_;refine wpQuiet_nil ?_;intro KK hKK;try rw[if_pos (by rfl)]
   go_wp2_with fail
   refine hKK _ _ ⟨⟨(w2.alloc (.cells (tmC ⟨x.t,0,0⟩).toArray 81)).drew,HT6.o⟩,rfl⟩ (fun y=>∃z:Calm.OnB w.heap.size w2,y=z.1) (fun _ h=>h) ⟨⟨(w2.alloc (.cells (tmC ⟨x.t,0,0⟩).toArray 81)).drew,HT6.o⟩,rfl⟩ ?_;refine wpQuiet_nil ?_;intro KK hKK;try rw[if_pos (by rfl)]
   refine zhQ (w:=(w2.alloc (.cells (tmC ⟨x.t,0,0⟩).toArray 81)).drew) (.tmp 31) (.tmp 35) _ rfl Tryz.underlying22 B (.slice AT ts.length cT) ts rfl HO6.o _ 1 ⟨x.t,0,0⟩ rfl HCE.o (by omega) HB6.o ?_;intro v7 w7 ho7 hg7';have hg7:=(aH (w2.alloc (.cells (tmC ⟨x.t,0,0⟩).toArray 81)) _).trans hg7';obtain⟨A7,c7,hv7,_,_⟩:=aO ho7;rw[show(ts++[(⟨x.t,0,0⟩:Gm.Tm)]).length=ts.length+1 by simp]at hv7;subst hv7;have hW7:=(HW2.o.alloc (.cells (tmC ⟨x.t,0,0⟩).toArray 81)).tm_put ho7 hg7;have HW7:=aA hW7;obtain⟨k7,hf7,hR7⟩:=hW7.at 0;simp only[wC,List.getElem?_toArray,List.getElem?_cons_zero]at k7;have hK7:=(KpT.below ((Below.refl _ w2).alloc (Nat.le_refl _) (.cells (tmC ⟨x.t,0,0⟩).toArray 81))).trans (KpT.own (HW2.o.alloc (.cells (tmC ⟨x.t,0,0⟩).toArray 81)).t hg7);have HK7:=aA hK7;have HT7:Hid (w7.heap[w.heap.size]?=w2.heap[w.heap.size]?):=aA ((hK7 _ _ _ HR2r.o (by decide) (by decide)).trans HR2r.o.symm);have HB7:=aA ((HB26.o.alloc (Nat.le_trans hB HB2.o.size) (.cells (tmC ⟨x.t,0,0⟩).toArray 81)).grown hg7 (by have:=HB2.o.size;simp;omega) (fun k e=>(aI HW2.o.t e).1));clear ho7 hg7 hg7' hW7 hK7;go_wp2_with fail
   refine hKK _ _ ⟨⟨w7,HT7.o⟩,rfl⟩ (fun y=>∃z:Calm.OnB w.heap.size w2,y=z.1) (fun _ h=>h) ⟨⟨w7,HT7.o⟩,rfl⟩ ?_;repeat (go_big_quiet_step (fail))
   refine wpQuiet_nil ?_;intro KK hKK;try rw[if_pos (by rfl)]
   go_wp2_with fail
   have HW8:=aA (HW7.o.set 0 (.slice A7 (ts.length+1) c7));have HK8:=aA (HK7.o.trans (KpT.set HW7.o 0 (.slice A7 (ts.length+1) c7)));have HB8:=aA (HB7.o.setCell (p:=⟨R,0,none⟩) HW7.o.hR (.slice A7 (ts.length+1) c7));have HT8:Hid ((w7.setCell ⟨R,0,none⟩ (.slice A7 (ts.length+1) c7)).heap[w.heap.size]?=w2.heap[w.heap.size]?):=aA ((HK8.o _ _ _ HR2r.o (by decide) (by decide)).trans HR2r.o.symm);refine hKK _ _ ⟨⟨_,HT8.o⟩,rfl⟩ (fun y=>∃z:Calm.OnB w.heap.size w2,y=z.1) (fun _ h=>h) ⟨⟨_,HT8.o⟩,rfl⟩ ?_;refine wpQuiet_nil ?_;obtain⟨k8,_,hR8⟩:=HW8.o.at 0;simp only[wC,List.setIfInBounds_toArray,List.set_cons_zero,List.getElem?_toArray,List.getElem?_cons_zero]at k8;clear k7 hf7;go_wp2;go_ret
   refine⟨by simp;exact HE.o.2.1,⟨_,_,_,by rw[<-HE.o.1];exact HW8.o⟩,HB8.o,(KpT.below HB2.o).trans HK8.o⟩
namespace Sh
theorem getD_at {α:Type} (l:List α) (j:Nat) (d:α) (h:j<l.length):l.getD j d=l[j]:=by
 rw[List.getD_eq_getElem?_getD,List.getElem?_eq_getElem h];rfl
def key (x:Tok):Int×List Int:=(x.k,x.t)
end Sh
theorem Gm.put_lt {ts ts':List Gm.Tm} {x:Tok} {n:Int} (h:Gm.put ts x=.ok (ts',n)):∃i:Nat,n=(i:Int)/\i<ts'.length:=by
 unfold Gm.put at h;by_cases h0:0<=Gm.find (Gm.names ts) x.t
 ·rw[if_pos h0]at h;injection h with h;have h1:=congrArg Prod.fst h;have h2:=congrArg Prod.snd h;simp only at h1 h2;have h3:=Gm.find_lt (Gm.names ts) x.t;have h4:(Gm.names ts).length=ts.length:=by simp[Gm.names]
  refine⟨n.toNat,by omega,?_⟩;rw[<-h1];omega
 ·rw[if_neg h0]at h;by_cases h24:ts.length=24
  ·rw[if_pos h24]at h;cases h
  ·rw[if_neg h24]at h;injection h with h;have h1:=congrArg Prod.fst h;have h2:=congrArg Prod.snd h;simp only at h1 h2;refine⟨ts.length,h2.symm,?_⟩;rw[<-h1];simp
theorem ziW (L:List Int) (B N R:Nat) (ts ts':List Gm.Tm) (ns:List (List Int)) (rs:List Gm.Rl) (lv n k:Int) (x:Tok) (w:World) (hw:Wk w B N R ts ns rs lv) (hf:Gm.Fit ⟨ts,ns,rs,0⟩) (hx:K.Tx x.t) (hnm:Gm.named x.t=true) (hN:N<=w.heap.size) (hB:B<=w.heap.size) (hk:k=4\/k=5)
  (hlo:¬(0<=Gm.find (Gm.names ts) x.t/\0<(ts.map Gm.Tm.lv).getD (Gm.find (Gm.names ts) x.t).toNat 0)) (hp:Gm.put ts x=.ok (ts',n)) (h24:ts.length<=24) :
  Calls Tryz.prog 94 #[.pointer (some ⟨R,0,none⟩),.int .i64 k,bO L x] w fun e w'=>e=.returned (.tuple #[])/\Wk w' B N R (ts'.modify n.toNat fun t=>⟨t.nm,lv,k-3⟩) ns rs lv/\Below B w w'/\KpT w w':=by
 have HW:=aA hw;obtain⟨i,hi,hil⟩:=Gm.put_lt hp;subst hi;have HTE:=aA (fun(y:World) (h:Wk y B N R ts ns rs lv) (hy:N<=y.heap.size) (hz:B<=y.heap.size)=>zdo L B N R ts ts' ns rs lv i x y h hf hx hy hz hp h24);have HNM:=aA (fun(y:World)=>zas x.t hx y);rw[hnm]at HNM;obtain⟨vT,vN,vR,h⟩:=hw;have HH:=aA h;obtain⟨AT,cT,rfl,hc1,_⟩:=aO h.t;obtain⟨AN,cN,rfl,_,_⟩:=aO h.n;have hr3:∃AR cR,vR=.slice AR rs.length cR:=by obtain⟨qs,_,h2,_⟩:=id h.r;obtain⟨A,c,e,_⟩:=aO h2;exact⟨A,c,e⟩
 obtain⟨AR,cR,rfl⟩:=hr3;obtain⟨k0,hf0,hRs⟩:=h.at 0;have k1:=(h.at 1).1;have k2:=(h.at 2).1;have k3:=(h.at 3).1;simp only[wC,List.getElem?_toArray,List.getElem?_cons_zero,List.getElem?_cons_succ]at k0 k1 k2 k3;unfold bO;obtain⟨w1,hw1⟩:∃y,y=w.alloc (.cells #[.string (K.str x.t),.complex .f64 (Fl.fl (Pl.pos (L.take x.o)).1) (Fl.fl (Pl.pos (L.take x.o)).2)] 127):=⟨_,rfl⟩
 have HB1:Hid (Below w.heap.size w w1):=aA (by rw[hw1];exact(Below.refl _ _).alloc (Nat.le_refl _) _);have HR1:Hid (w1.heap[w.heap.size]?=some (.cells #[.string (K.str x.t),.complex .f64 (Fl.fl (Pl.pos (L.take x.o)).1) (Fl.fl (Pl.pos (L.take x.o)).2)] 127 (0,0))):=aA (by rw[hw1];exact heap_alloc_new w _);have HT:=aA (fun(y:World) (hb:Below w1.heap.size w1 y)=>zbh (.agg #[.slice AT ts.length cT,.slice AN ns.length cN,.slice AR rs.length cR,.int .i64 0]) ⟨ts,ns,rs,0⟩ x.t w.heap.size y ((h.rd hN 0).below (HB1.o.trans (hb.mono HB1.o.size)) (Nat.le_refl _)) hf hx (Nat.le_trans HB1.o.size hb.size));unfold Gm.term at HT;have HLO:=aA hlo;have HLT:=aA hil;clear hp hf hlo;rcases hk with rfl|rfl
 ·go_enter Tryz.func94,Tryz.ntmps94
  go_wp2_with fail
  refine(HNM.o _).mono ?_;rintro _ _ ⟨rfl,rfl⟩;go_wp2_with fail
  rw[<-hw1];clear hw1;have hk:=HB1.o;have p0:=(hk.cell (p:=⟨R,0,none⟩) hRs).trans k0;have p1:=(hk.cell (p:=⟨R,1,none⟩) hRs).trans k1;have p2:=(hk.cell (p:=⟨R,2,none⟩) hRs).trans k2;have p3:=(hk.cell (p:=⟨R,3,none⟩) hRs).trans k3;have hR1:R<w1.heap.size:=Nat.lt_of_lt_of_le hRs hk.size;have hb1:w.heap.size<w1.heap.size:=(Array.getElem?_eq_some_iff.1 HR1.o).1;have t0:w1.cell? ⟨w.heap.size,0,none⟩=some (.string (K.str x.t)):=by rw[cell_of_row w1 _ 0 _ _ _ HR1.o];rfl
  have Q0:=fun y:Calm.On w1.heap.size w1=>(y.2.cell (p:=⟨R,0,none⟩) hR1).trans p0;have Q1:=fun y:Calm.On w1.heap.size w1=>(y.2.cell (p:=⟨R,1,none⟩) hR1).trans p1;have Q2:=fun y:Calm.On w1.heap.size w1=>(y.2.cell (p:=⟨R,2,none⟩) hR1).trans p2;have Q3:=fun y:Calm.On w1.heap.size w1=>(y.2.cell (p:=⟨R,3,none⟩) hR1).trans p3;have Q4:=fun y:Calm.On w1.heap.size w1=>(y.2.cell (p:=⟨w.heap.size,0,none⟩) hb1).trans t0;clear hk;refine CalmN.region_tree (fun x=>∃y:Calm.On w1.heap.size w1,x=y.1) (.one [0,1,2,3,4,5] 6 (.fin [7])) (by kernel_rfl) (by kernel_rfl) (fun _ _ d _ _ h=>by cases d <;> exact h) ⟨⟨w1.drew,aB (Below.refl _ _) 1⟩,rfl⟩ ?_;simp only[CalmN.wpT,CalmN.wpSt,CalmN.pickOps,List.getElem?_toArray,List.getElem?_cons_zero,List.getElem?_cons_succ];repeat (go_big_quiet_step (fail))
  refine wpQuiet_nil ?_;clear Q0 Q1 Q2 Q3 Q4 p0 p1 p2 p3 t0 k0 k1 k2 k3;intro KK hKK;rw[if_pos (by rfl)];go_wp2_with fail
  refine(HT.o w1.drew (aB (Below.refl _ _) 1)).mono ?_;rintro _ w2 ⟨rfl,hb2⟩;have hb12:Below w1.heap.size w1 w2:=(aB (Below.refl w1.heap.size w1) 1).trans hb2;have HB12:=aA hb12;clear hb2;go_wp2_with fail
  refine hKK _ _ ⟨⟨w2,hb12⟩,rfl⟩ (fun x=>∃y:Calm.On w1.heap.size w1,x=y.1) (fun _ h=>h) ⟨⟨w2,hb12⟩,rfl⟩ ?_;repeat (go_big_quiet_step (fail))
  refine wpQuiet_nil ?_;have HB2:=aA (HB1.o.trans (hb12.mono HB1.o.size));have HW2:=aA (HH.o.below HB2.o);have HR2:=aA ((hb12.block w.heap.size hb1).trans HR1.o);clear hb12 hKK;have hsz2:=HB2.o.size;obtain⟨m0,mf0,hR2⟩:=HW2.o.at 0;simp only[wC,List.getElem?_toArray,List.getElem?_cons_zero]at m0;have tr0:w2.cell? ⟨w.heap.size,0,none⟩=some (.string (K.str x.t)):=by rw[cell_of_row w2 _ 0 _ _ _ HR2.o];rfl
  have tr1:w2.cell? ⟨w.heap.size,1,none⟩=some (.complex .f64 (Fl.fl (Pl.pos (L.take x.o)).1) (Fl.fl (Pl.pos (L.take x.o)).2)):=by rw[cell_of_row w2 _ 1 _ _ _ HR2.o];rfl
  have HTE2:=aA (HTE.o w2 ⟨_,_,_,HW2.o⟩ (Nat.le_trans hN hsz2) (Nat.le_trans hB hsz2));unfold bO at HTE2;by_cases h0:0<=Gm.find (Gm.names ts) x.t
  ·have hlt:=Gm.find_lt (Gm.names ts) x.t;obtain⟨j,hj⟩:∃j:Nat,Gm.find (Gm.names ts) x.t=(j:Int):=⟨_,(Int.toNat_of_nonneg h0).symm⟩
   have hjl:j<ts.length:=by rw[hj]at hlt;simp[Gm.names]at hlt;omega
   obtain⟨gT,cc,e,_,_,kk,_⟩:=zaZ HW2.o.t j hjl;injection e with e1 e2 e3;subst e1
   have hlo:¬(0<ts[j].lv):=by
    have h:=HLO.o;rw[hj]at h;intro q;refine h ⟨by omega,?_⟩;rw[show((j:Int)).toNat=j from rfl,Sh.getD_at _ _ _ (by simpa using hjl),List.getElem_map];exact q
   have hj0:(0:Int)<=(j:Int):=by omega
   have hjl2:(j:Int)<(ts.length:Int):=by omega
   have hgt:gT<w2.heap.size:=block_lt_of_cell (a:=⟨gT,_,none⟩) kk;rw[hj];clear h0 hlt hj e2 e3 HLO HT;generalize ts[j].lv=lvj at *;go_wp2_with fail
   refine HTE2.o.mono ?_;rintro _ w3 ⟨rfl,hw3,hb3,hk3⟩;obtain⟨vT3,vN3,vR3,h3⟩:=hw3;have HW3:=aA h3;have HB3:=aA ((HB2.o.mono hB).trans hb3);have HK3:=aA ((KpT.below HB2.o).trans hk3);obtain⟨g3,cc3,rfl,_,s1,s2,sf,hBg,hgs,cur3,hcur3⟩:=zaZ h3.t i HLT.o;have HCU:=aA hcur3;obtain⟨n0,_,hR3⟩:=h3.at 0;have n8:=(h3.at 8).1;have n10:=(h3.at 10).1;simp only[wC,List.getElem?_toArray,List.getElem?_cons_zero,List.getElem?_cons_succ]at n0 n8 n10;have f1:=sf (i*3+1);have f2:=sf (i*3+2);have hi0:(0:Int)<=(i:Int):=by omega
   have hil2:(i:Int)<(ts'.length:Int):=by have:=HLT.o;omega
   clear h3 hb3 hk3 hcur3 sf;go_wp2_with fail
   have N0:=fun y:Calm.OnB R w3=>(show y.1.cell? ⟨R,0,none⟩=some (.slice (some ⟨g3,0,none⟩) ts'.length cc3) by rw[cell_of_row y.1 _ 0 _ _ _ (y.2.trans HW3.o.b)];rfl)
   have N8:=fun y:Calm.OnB R w3=>(show y.1.cell? ⟨R,8,none⟩=some (.int .i64 lv) by rw[cell_of_row y.1 _ 8 _ _ _ (y.2.trans HW3.o.b)];rfl)
   refine CalmN.region_tree (fun y=>∃z:Calm.OnB R w3,y=z.1) (.one [0,1,2,3,4,5,6,7,8,9,10,11,12,13,14,15,16,17,18,19,20] 21 (.one [22,23] 24 (.fin []))) (by kernel_rfl) (by kernel_rfl) (fun _ _ d _ _ h=>by cases d <;> exact h) ⟨⟨w3.drew,rfl⟩,rfl⟩ ?_;simp only[CalmN.wpT,CalmN.wpSt,CalmN.pickOps,List.getElem?_toArray,List.getElem?_cons_zero,List.getElem?_cons_succ];repeat (go_big_quiet_step (fail))
   refine wpQuiet_nil ?_;clear N0 N8;have hneR:R≠g3:=fun e=>by have hb:=HW3.o.b;have hcu':=HCU.o;rw[e]at hb;rw[hb]at hcu';injection hcu' with q;injection q with _ q;exact absurd q (by decide)
   have HR5:Hid ((w3.setCell ⟨g3,i*3+1,none⟩ (.int .i64 lv)).heap[R]?=w3.heap[R]?):=aA (Below.heap_setCell w3 ⟨g3,i*3+1,none⟩ (.int .i64 lv) R (by simp only;exact hneR));have HR6:Hid (((w3.setCell ⟨g3,i*3+1,none⟩ (.int .i64 lv)).setCell ⟨g3,i*3+2,none⟩ (.int .i64 1)).heap[R]?=w3.heap[R]?):=aA ((Below.heap_setCell _ ⟨g3,i*3+2,none⟩ (.int .i64 1) R (by simp only;exact hneR)).trans HR5.o);intro KK hKK;try rw[if_pos (by rfl)]
   go_wp2_with fail
   refine hKK _ _ ⟨⟨World.drew (w3.setCell ⟨g3,i*3+1,none⟩ (.int .i64 lv)),HR5.o⟩,rfl⟩ (fun y=>∃z:Calm.OnB R w3,y=z.1) (fun _ h=>h) ⟨⟨World.drew (w3.setCell ⟨g3,i*3+1,none⟩ (.int .i64 lv)),HR5.o⟩,rfl⟩ ?_;repeat (go_big_quiet_step (fail))
   refine wpQuiet_nil ?_;intro KK hKK;try rw[if_pos (by rfl)]
   go_wp2_with fail
   refine hKK _ _ ⟨⟨World.drew ((w3.setCell ⟨g3,i*3+1,none⟩ (.int .i64 lv)).setCell ⟨g3,i*3+2,none⟩ (.int .i64 1)),HR6.o⟩,rfl⟩ (fun y=>∃z:Calm.OnB R w3,y=z.1) (fun _ h=>h) ⟨⟨World.drew ((w3.setCell ⟨g3,i*3+1,none⟩ (.int .i64 lv)).setCell ⟨g3,i*3+2,none⟩ (.int .i64 1)),HR6.o⟩,rfl⟩ ?_;refine wpQuiet_nil ?_;go_wp2;go_end0
   have ho:=HW3.o.t;have u1:=World.ownsRow.stored ho (i*3+1) (.int .i64 lv);have u2:=World.ownsRow.stored u1.1 (i*3+2) (.int .i64 1);have hg:w3.grownBy ((w3.setCell ⟨g3,i*3+1,none⟩ (.int .i64 lv)).setCell ⟨g3,i*3+2,none⟩ (.int .i64 1)).drew (some g3):=(aF (aF (World.grownBy.refl _ _) _ _) _ _).trans (aH _ _)
   have hOT:aX ((w3.setCell ⟨g3,i*3+1,none⟩ (.int .i64 lv)).setCell ⟨g3,i*3+2,none⟩ (.int .i64 1)) B (.slice (some ⟨g3,0,none⟩) ts'.length cc3) (ts'.modify i fun t=>⟨t.nm,lv,1⟩):=by
    unfold aX;rw[List.length_modify,<-zcN ts' i HLT.o];exact u2.1
   exact⟨rfl,⟨_,_,_,HW3.o.tm_put hOT hg⟩,HB3.o.grown hg (Nat.le_trans hB HB3.o.size) (fun k e=>by injection e with e;omega),HK3.o.trans (KpT.cells hg HCU.o (.inr rfl))⟩
  ·have h0':Gm.find (Gm.names ts) x.t<0:=by omega
   generalize Gm.find (Gm.names ts) x.t=z at *;go_wp2_with fail
   refine HTE2.o.mono ?_;rintro _ w3 ⟨rfl,hw3,hb3,hk3⟩;obtain⟨vT3,vN3,vR3,h3⟩:=hw3;have HW3:=aA h3;have HB3:=aA ((HB2.o.mono hB).trans hb3);have HK3:=aA ((KpT.below HB2.o).trans hk3);obtain⟨g3,cc3,rfl,_,s1,s2,sf,hBg,hgs,cur3,hcur3⟩:=zaZ h3.t i HLT.o;have HCU:=aA hcur3;obtain⟨n0,_,hR3⟩:=h3.at 0;have n8:=(h3.at 8).1;have n10:=(h3.at 10).1;simp only[wC,List.getElem?_toArray,List.getElem?_cons_zero,List.getElem?_cons_succ]at n0 n8 n10;have f1:=sf (i*3+1);have f2:=sf (i*3+2);have hi0:(0:Int)<=(i:Int):=by omega
   have hil2:(i:Int)<(ts'.length:Int):=by have:=HLT.o;omega
   clear h3 hb3 hk3 hcur3 sf;go_wp2_with fail
   have N0:=fun y:Calm.OnB R w3=>(show y.1.cell? ⟨R,0,none⟩=some (.slice (some ⟨g3,0,none⟩) ts'.length cc3) by rw[cell_of_row y.1 _ 0 _ _ _ (y.2.trans HW3.o.b)];rfl)
   have N8:=fun y:Calm.OnB R w3=>(show y.1.cell? ⟨R,8,none⟩=some (.int .i64 lv) by rw[cell_of_row y.1 _ 8 _ _ _ (y.2.trans HW3.o.b)];rfl)
   refine CalmN.region_tree (fun y=>∃z:Calm.OnB R w3,y=z.1) (.one [0,1,2,3,4,5,6,7,8,9,10,11,12,13,14,15,16,17,18,19,20] 21 (.one [22,23] 24 (.fin []))) (by kernel_rfl) (by kernel_rfl) (fun _ _ d _ _ h=>by cases d <;> exact h) ⟨⟨w3.drew,rfl⟩,rfl⟩ ?_;simp only[CalmN.wpT,CalmN.wpSt,CalmN.pickOps,List.getElem?_toArray,List.getElem?_cons_zero,List.getElem?_cons_succ];repeat (go_big_quiet_step (fail))
   refine wpQuiet_nil ?_;clear N0 N8;have hneR:R≠g3:=fun e=>by have hb:=HW3.o.b;have hcu':=HCU.o;rw[e]at hb;rw[hb]at hcu';injection hcu' with q;injection q with _ q;exact absurd q (by decide)
   have HR5:Hid ((w3.setCell ⟨g3,i*3+1,none⟩ (.int .i64 lv)).heap[R]?=w3.heap[R]?):=aA (Below.heap_setCell w3 ⟨g3,i*3+1,none⟩ (.int .i64 lv) R (by simp only;exact hneR));have HR6:Hid (((w3.setCell ⟨g3,i*3+1,none⟩ (.int .i64 lv)).setCell ⟨g3,i*3+2,none⟩ (.int .i64 1)).heap[R]?=w3.heap[R]?):=aA ((Below.heap_setCell _ ⟨g3,i*3+2,none⟩ (.int .i64 1) R (by simp only;exact hneR)).trans HR5.o);intro KK hKK;try rw[if_pos (by rfl)]
   go_wp2_with fail
   refine hKK _ _ ⟨⟨World.drew (w3.setCell ⟨g3,i*3+1,none⟩ (.int .i64 lv)),HR5.o⟩,rfl⟩ (fun y=>∃z:Calm.OnB R w3,y=z.1) (fun _ h=>h) ⟨⟨World.drew (w3.setCell ⟨g3,i*3+1,none⟩ (.int .i64 lv)),HR5.o⟩,rfl⟩ ?_;repeat (go_big_quiet_step (fail))
   refine wpQuiet_nil ?_;intro KK hKK;try rw[if_pos (by rfl)]
   go_wp2_with fail
   refine hKK _ _ ⟨⟨World.drew ((w3.setCell ⟨g3,i*3+1,none⟩ (.int .i64 lv)).setCell ⟨g3,i*3+2,none⟩ (.int .i64 1)),HR6.o⟩,rfl⟩ (fun y=>∃z:Calm.OnB R w3,y=z.1) (fun _ h=>h) ⟨⟨World.drew ((w3.setCell ⟨g3,i*3+1,none⟩ (.int .i64 lv)).setCell ⟨g3,i*3+2,none⟩ (.int .i64 1)),HR6.o⟩,rfl⟩ ?_;refine wpQuiet_nil ?_;go_wp2;go_end0
   have ho:=HW3.o.t;have u1:=World.ownsRow.stored ho (i*3+1) (.int .i64 lv);have u2:=World.ownsRow.stored u1.1 (i*3+2) (.int .i64 1);have hg:w3.grownBy ((w3.setCell ⟨g3,i*3+1,none⟩ (.int .i64 lv)).setCell ⟨g3,i*3+2,none⟩ (.int .i64 1)).drew (some g3):=(aF (aF (World.grownBy.refl _ _) _ _) _ _).trans (aH _ _)
   have hOT:aX ((w3.setCell ⟨g3,i*3+1,none⟩ (.int .i64 lv)).setCell ⟨g3,i*3+2,none⟩ (.int .i64 1)) B (.slice (some ⟨g3,0,none⟩) ts'.length cc3) (ts'.modify i fun t=>⟨t.nm,lv,1⟩):=by
    unfold aX;rw[List.length_modify,<-zcN ts' i HLT.o];exact u2.1
   exact⟨rfl,⟨_,_,_,HW3.o.tm_put hOT hg⟩,HB3.o.grown hg (Nat.le_trans hB HB3.o.size) (fun k e=>by injection e with e;omega),HK3.o.trans (KpT.cells hg HCU.o (.inr rfl))⟩
 ·go_enter Tryz.func94,Tryz.ntmps94
  go_wp2_with fail
  refine(HNM.o _).mono ?_;rintro _ _ ⟨rfl,rfl⟩;go_wp2_with fail
  rw[<-hw1];clear hw1;have hk:=HB1.o;have p0:=(hk.cell (p:=⟨R,0,none⟩) hRs).trans k0;have p1:=(hk.cell (p:=⟨R,1,none⟩) hRs).trans k1;have p2:=(hk.cell (p:=⟨R,2,none⟩) hRs).trans k2;have p3:=(hk.cell (p:=⟨R,3,none⟩) hRs).trans k3;have hR1:R<w1.heap.size:=Nat.lt_of_lt_of_le hRs hk.size;have hb1:w.heap.size<w1.heap.size:=(Array.getElem?_eq_some_iff.1 HR1.o).1;have t0:w1.cell? ⟨w.heap.size,0,none⟩=some (.string (K.str x.t)):=by rw[cell_of_row w1 _ 0 _ _ _ HR1.o];rfl
  have Q0:=fun y:Calm.On w1.heap.size w1=>(y.2.cell (p:=⟨R,0,none⟩) hR1).trans p0;have Q1:=fun y:Calm.On w1.heap.size w1=>(y.2.cell (p:=⟨R,1,none⟩) hR1).trans p1;have Q2:=fun y:Calm.On w1.heap.size w1=>(y.2.cell (p:=⟨R,2,none⟩) hR1).trans p2;have Q3:=fun y:Calm.On w1.heap.size w1=>(y.2.cell (p:=⟨R,3,none⟩) hR1).trans p3;have Q4:=fun y:Calm.On w1.heap.size w1=>(y.2.cell (p:=⟨w.heap.size,0,none⟩) hb1).trans t0;clear hk;refine CalmN.region_tree (fun x=>∃y:Calm.On w1.heap.size w1,x=y.1) (.one [0,1,2,3,4,5] 6 (.fin [7])) (by kernel_rfl) (by kernel_rfl) (fun _ _ d _ _ h=>by cases d <;> exact h) ⟨⟨w1.drew,aB (Below.refl _ _) 1⟩,rfl⟩ ?_;simp only[CalmN.wpT,CalmN.wpSt,CalmN.pickOps,List.getElem?_toArray,List.getElem?_cons_zero,List.getElem?_cons_succ];repeat (go_big_quiet_step (fail))
  refine wpQuiet_nil ?_;clear Q0 Q1 Q2 Q3 Q4 p0 p1 p2 p3 t0 k0 k1 k2 k3;intro KK hKK;rw[if_pos (by rfl)];go_wp2_with fail
  refine(HT.o w1.drew (aB (Below.refl _ _) 1)).mono ?_;rintro _ w2 ⟨rfl,hb2⟩;have hb12:Below w1.heap.size w1 w2:=(aB (Below.refl w1.heap.size w1) 1).trans hb2;have HB12:=aA hb12;clear hb2;go_wp2_with fail
  refine hKK _ _ ⟨⟨w2,hb12⟩,rfl⟩ (fun x=>∃y:Calm.On w1.heap.size w1,x=y.1) (fun _ h=>h) ⟨⟨w2,hb12⟩,rfl⟩ ?_;repeat (go_big_quiet_step (fail))
  refine wpQuiet_nil ?_;have HB2:=aA (HB1.o.trans (hb12.mono HB1.o.size));have HW2:=aA (HH.o.below HB2.o);have HR2:=aA ((hb12.block w.heap.size hb1).trans HR1.o);clear hb12 hKK;have hsz2:=HB2.o.size;obtain⟨m0,mf0,hR2⟩:=HW2.o.at 0;simp only[wC,List.getElem?_toArray,List.getElem?_cons_zero]at m0;have tr0:w2.cell? ⟨w.heap.size,0,none⟩=some (.string (K.str x.t)):=by rw[cell_of_row w2 _ 0 _ _ _ HR2.o];rfl
  have tr1:w2.cell? ⟨w.heap.size,1,none⟩=some (.complex .f64 (Fl.fl (Pl.pos (L.take x.o)).1) (Fl.fl (Pl.pos (L.take x.o)).2)):=by rw[cell_of_row w2 _ 1 _ _ _ HR2.o];rfl
  have HTE2:=aA (HTE.o w2 ⟨_,_,_,HW2.o⟩ (Nat.le_trans hN hsz2) (Nat.le_trans hB hsz2));unfold bO at HTE2;by_cases h0:0<=Gm.find (Gm.names ts) x.t
  ·have hlt:=Gm.find_lt (Gm.names ts) x.t;obtain⟨j,hj⟩:∃j:Nat,Gm.find (Gm.names ts) x.t=(j:Int):=⟨_,(Int.toNat_of_nonneg h0).symm⟩
   have hjl:j<ts.length:=by rw[hj]at hlt;simp[Gm.names]at hlt;omega
   obtain⟨gT,cc,e,_,_,kk,_⟩:=zaZ HW2.o.t j hjl;injection e with e1 e2 e3;subst e1
   have hlo:¬(0<ts[j].lv):=by
    have h:=HLO.o;rw[hj]at h;intro q;refine h ⟨by omega,?_⟩;rw[show((j:Int)).toNat=j from rfl,Sh.getD_at _ _ _ (by simpa using hjl),List.getElem_map];exact q
   have hj0:(0:Int)<=(j:Int):=by omega
   have hjl2:(j:Int)<(ts.length:Int):=by omega
   have hgt:gT<w2.heap.size:=block_lt_of_cell (a:=⟨gT,_,none⟩) kk;rw[hj];clear h0 hlt hj e2 e3 HLO HT;generalize ts[j].lv=lvj at *;go_wp2_with fail
   refine HTE2.o.mono ?_;rintro _ w3 ⟨rfl,hw3,hb3,hk3⟩;obtain⟨vT3,vN3,vR3,h3⟩:=hw3;have HW3:=aA h3;have HB3:=aA ((HB2.o.mono hB).trans hb3);have HK3:=aA ((KpT.below HB2.o).trans hk3);obtain⟨g3,cc3,rfl,_,s1,s2,sf,hBg,hgs,cur3,hcur3⟩:=zaZ h3.t i HLT.o;have HCU:=aA hcur3;obtain⟨n0,_,hR3⟩:=h3.at 0;have n8:=(h3.at 8).1;have n10:=(h3.at 10).1;simp only[wC,List.getElem?_toArray,List.getElem?_cons_zero,List.getElem?_cons_succ]at n0 n8 n10;have f1:=sf (i*3+1);have f2:=sf (i*3+2);have hi0:(0:Int)<=(i:Int):=by omega
   have hil2:(i:Int)<(ts'.length:Int):=by have:=HLT.o;omega
   clear h3 hb3 hk3 hcur3 sf;go_wp2_with fail
   have N0:=fun y:Calm.OnB R w3=>(show y.1.cell? ⟨R,0,none⟩=some (.slice (some ⟨g3,0,none⟩) ts'.length cc3) by rw[cell_of_row y.1 _ 0 _ _ _ (y.2.trans HW3.o.b)];rfl)
   have N8:=fun y:Calm.OnB R w3=>(show y.1.cell? ⟨R,8,none⟩=some (.int .i64 lv) by rw[cell_of_row y.1 _ 8 _ _ _ (y.2.trans HW3.o.b)];rfl)
   refine CalmN.region_tree (fun y=>∃z:Calm.OnB R w3,y=z.1) (.one [0,1,2,3,4,5,6,7,8,9,10,11,12,13,14,15,16,17,18,19,20] 21 (.one [22,23] 24 (.fin []))) (by kernel_rfl) (by kernel_rfl) (fun _ _ d _ _ h=>by cases d <;> exact h) ⟨⟨w3.drew,rfl⟩,rfl⟩ ?_;simp only[CalmN.wpT,CalmN.wpSt,CalmN.pickOps,List.getElem?_toArray,List.getElem?_cons_zero,List.getElem?_cons_succ];repeat (go_big_quiet_step (fail))
   refine wpQuiet_nil ?_;clear N0 N8;have hneR:R≠g3:=fun e=>by have hb:=HW3.o.b;have hcu':=HCU.o;rw[e]at hb;rw[hb]at hcu';injection hcu' with q;injection q with _ q;exact absurd q (by decide)
   have HR5:Hid ((w3.setCell ⟨g3,i*3+1,none⟩ (.int .i64 lv)).heap[R]?=w3.heap[R]?):=aA (Below.heap_setCell w3 ⟨g3,i*3+1,none⟩ (.int .i64 lv) R (by simp only;exact hneR));have HR6:Hid (((w3.setCell ⟨g3,i*3+1,none⟩ (.int .i64 lv)).setCell ⟨g3,i*3+2,none⟩ (.int .i64 2)).heap[R]?=w3.heap[R]?):=aA ((Below.heap_setCell _ ⟨g3,i*3+2,none⟩ (.int .i64 2) R (by simp only;exact hneR)).trans HR5.o);intro KK hKK;try rw[if_pos (by rfl)]
   go_wp2_with fail
   refine hKK _ _ ⟨⟨World.drew (w3.setCell ⟨g3,i*3+1,none⟩ (.int .i64 lv)),HR5.o⟩,rfl⟩ (fun y=>∃z:Calm.OnB R w3,y=z.1) (fun _ h=>h) ⟨⟨World.drew (w3.setCell ⟨g3,i*3+1,none⟩ (.int .i64 lv)),HR5.o⟩,rfl⟩ ?_;repeat (go_big_quiet_step (fail))
   refine wpQuiet_nil ?_;intro KK hKK;try rw[if_pos (by rfl)]
   go_wp2_with fail
   refine hKK _ _ ⟨⟨World.drew ((w3.setCell ⟨g3,i*3+1,none⟩ (.int .i64 lv)).setCell ⟨g3,i*3+2,none⟩ (.int .i64 2)),HR6.o⟩,rfl⟩ (fun y=>∃z:Calm.OnB R w3,y=z.1) (fun _ h=>h) ⟨⟨World.drew ((w3.setCell ⟨g3,i*3+1,none⟩ (.int .i64 lv)).setCell ⟨g3,i*3+2,none⟩ (.int .i64 2)),HR6.o⟩,rfl⟩ ?_;refine wpQuiet_nil ?_;go_wp2;go_end0
   have ho:=HW3.o.t;have u1:=World.ownsRow.stored ho (i*3+1) (.int .i64 lv);have u2:=World.ownsRow.stored u1.1 (i*3+2) (.int .i64 2);have hg:w3.grownBy ((w3.setCell ⟨g3,i*3+1,none⟩ (.int .i64 lv)).setCell ⟨g3,i*3+2,none⟩ (.int .i64 2)).drew (some g3):=(aF (aF (World.grownBy.refl _ _) _ _) _ _).trans (aH _ _)
   have hOT:aX ((w3.setCell ⟨g3,i*3+1,none⟩ (.int .i64 lv)).setCell ⟨g3,i*3+2,none⟩ (.int .i64 2)) B (.slice (some ⟨g3,0,none⟩) ts'.length cc3) (ts'.modify i fun t=>⟨t.nm,lv,2⟩):=by
    unfold aX;rw[List.length_modify,<-zcN ts' i HLT.o];exact u2.1
   exact⟨rfl,⟨_,_,_,HW3.o.tm_put hOT hg⟩,HB3.o.grown hg (Nat.le_trans hB HB3.o.size) (fun k e=>by injection e with e;omega),HK3.o.trans (KpT.cells hg HCU.o (.inr rfl))⟩
  ·have h0':Gm.find (Gm.names ts) x.t<0:=by omega
   generalize Gm.find (Gm.names ts) x.t=z at *;go_wp2_with fail
   refine HTE2.o.mono ?_;rintro _ w3 ⟨rfl,hw3,hb3,hk3⟩;obtain⟨vT3,vN3,vR3,h3⟩:=hw3;have HW3:=aA h3;have HB3:=aA ((HB2.o.mono hB).trans hb3);have HK3:=aA ((KpT.below HB2.o).trans hk3);obtain⟨g3,cc3,rfl,_,s1,s2,sf,hBg,hgs,cur3,hcur3⟩:=zaZ h3.t i HLT.o;have HCU:=aA hcur3;obtain⟨n0,_,hR3⟩:=h3.at 0;have n8:=(h3.at 8).1;have n10:=(h3.at 10).1;simp only[wC,List.getElem?_toArray,List.getElem?_cons_zero,List.getElem?_cons_succ]at n0 n8 n10;have f1:=sf (i*3+1);have f2:=sf (i*3+2);have hi0:(0:Int)<=(i:Int):=by omega
   have hil2:(i:Int)<(ts'.length:Int):=by have:=HLT.o;omega
   clear h3 hb3 hk3 hcur3 sf;go_wp2_with fail
   have N0:=fun y:Calm.OnB R w3=>(show y.1.cell? ⟨R,0,none⟩=some (.slice (some ⟨g3,0,none⟩) ts'.length cc3) by rw[cell_of_row y.1 _ 0 _ _ _ (y.2.trans HW3.o.b)];rfl)
   have N8:=fun y:Calm.OnB R w3=>(show y.1.cell? ⟨R,8,none⟩=some (.int .i64 lv) by rw[cell_of_row y.1 _ 8 _ _ _ (y.2.trans HW3.o.b)];rfl)
   refine CalmN.region_tree (fun y=>∃z:Calm.OnB R w3,y=z.1) (.one [0,1,2,3,4,5,6,7,8,9,10,11,12,13,14,15,16,17,18,19,20] 21 (.one [22,23] 24 (.fin []))) (by kernel_rfl) (by kernel_rfl) (fun _ _ d _ _ h=>by cases d <;> exact h) ⟨⟨w3.drew,rfl⟩,rfl⟩ ?_;simp only[CalmN.wpT,CalmN.wpSt,CalmN.pickOps,List.getElem?_toArray,List.getElem?_cons_zero,List.getElem?_cons_succ];repeat (go_big_quiet_step (fail))
   refine wpQuiet_nil ?_;clear N0 N8;have hneR:R≠g3:=fun e=>by have hb:=HW3.o.b;have hcu':=HCU.o;rw[e]at hb;rw[hb]at hcu';injection hcu' with q;injection q with _ q;exact absurd q (by decide)
   have HR5:Hid ((w3.setCell ⟨g3,i*3+1,none⟩ (.int .i64 lv)).heap[R]?=w3.heap[R]?):=aA (Below.heap_setCell w3 ⟨g3,i*3+1,none⟩ (.int .i64 lv) R (by simp only;exact hneR));have HR6:Hid (((w3.setCell ⟨g3,i*3+1,none⟩ (.int .i64 lv)).setCell ⟨g3,i*3+2,none⟩ (.int .i64 2)).heap[R]?=w3.heap[R]?):=aA ((Below.heap_setCell _ ⟨g3,i*3+2,none⟩ (.int .i64 2) R (by simp only;exact hneR)).trans HR5.o);intro KK hKK;try rw[if_pos (by rfl)]
   go_wp2_with fail
   refine hKK _ _ ⟨⟨World.drew (w3.setCell ⟨g3,i*3+1,none⟩ (.int .i64 lv)),HR5.o⟩,rfl⟩ (fun y=>∃z:Calm.OnB R w3,y=z.1) (fun _ h=>h) ⟨⟨World.drew (w3.setCell ⟨g3,i*3+1,none⟩ (.int .i64 lv)),HR5.o⟩,rfl⟩ ?_;repeat (go_big_quiet_step (fail))
   refine wpQuiet_nil ?_;intro KK hKK;try rw[if_pos (by rfl)]
   go_wp2_with fail
   refine hKK _ _ ⟨⟨World.drew ((w3.setCell ⟨g3,i*3+1,none⟩ (.int .i64 lv)).setCell ⟨g3,i*3+2,none⟩ (.int .i64 2)),HR6.o⟩,rfl⟩ (fun y=>∃z:Calm.OnB R w3,y=z.1) (fun _ h=>h) ⟨⟨World.drew ((w3.setCell ⟨g3,i*3+1,none⟩ (.int .i64 lv)).setCell ⟨g3,i*3+2,none⟩ (.int .i64 2)),HR6.o⟩,rfl⟩ ?_;refine wpQuiet_nil ?_;go_wp2;go_end0
   have ho:=HW3.o.t;have u1:=World.ownsRow.stored ho (i*3+1) (.int .i64 lv);have u2:=World.ownsRow.stored u1.1 (i*3+2) (.int .i64 2);have hg:w3.grownBy ((w3.setCell ⟨g3,i*3+1,none⟩ (.int .i64 lv)).setCell ⟨g3,i*3+2,none⟩ (.int .i64 2)).drew (some g3):=(aF (aF (World.grownBy.refl _ _) _ _) _ _).trans (aH _ _)
   have hOT:aX ((w3.setCell ⟨g3,i*3+1,none⟩ (.int .i64 lv)).setCell ⟨g3,i*3+2,none⟩ (.int .i64 2)) B (.slice (some ⟨g3,0,none⟩) ts'.length cc3) (ts'.modify i fun t=>⟨t.nm,lv,2⟩):=by
    unfold aX;rw[List.length_modify,<-zcN ts' i HLT.o];exact u2.1
   exact⟨rfl,⟨_,_,_,HW3.o.tm_put hOT hg⟩,HB3.o.grown hg (Nat.le_trans hB HB3.o.size) (fun k e=>by injection e with e;omega),HK3.o.trans (KpT.cells hg HCU.o (.inr rfl))⟩
def On9 (B D:Nat) (w:World):Type:={x:World // Below B w x/\x.heap[D]?=w.heap[D]?}
instance (B D:Nat) (w:World):Nonempty (On9 B D w):=⟨⟨w,Below.refl _ _,rfl⟩⟩
structure J9 (s:Gm.S1) (ns:List (List Int)) (rs:List Gm.Rl):Prop where
 f:Gm.Fit ⟨s.ts,ns,rs,0⟩
 h:s.ts.length<=24
 v:0<=s.lv
theorem Fit.put {ts ts':List Gm.Tm} {ns:List (List Int)} {rs:List Gm.Rl} {z n:Int} {x:Tok} (h:Gm.Fit ⟨ts,ns,rs,z⟩) (hx:K.Tx x.t) (hp:Gm.put ts x=.ok (ts',n)):Gm.Fit ⟨ts',ns,rs,z⟩:=by
 rcases Gm.put_ok hp with⟨j,_,rfl,_⟩|⟨_,rfl,_,_⟩
 ·exact h
 ·refine⟨fun t ht=>?_,h.n,h.r,h.s⟩;rcases List.mem_append.1 ht with h1|h1
  ·exact h.t t h1
  ·simp at h1;subst h1;exact⟨hx,by unfold Gm.In;simp,by unfold Gm.In;simp⟩
theorem zjg {ts ts':List Gm.Tm} {n:Int} {x:Tok} (h:ts.length<=24) (hp:Gm.put ts x=.ok (ts',n)):ts'.length<=24:=by
 rcases Gm.put_ok hp with⟨j,_,rfl,_⟩|⟨_,rfl,_,q⟩
 ·exact h
 ·simp;omega
theorem J9.step {s s':Gm.S1} {ns:List (List Int)} {rs:List Gm.Rl} {x:Tok} {k:Int} (h:J9 s ns rs) (hk:k=4\/k=5) (hx:K.Tx x.t) (hv:s.lv<=1000000) (hd:Gm.decl1 k s x=.ok s') :
  J9 s' ns rs/\s'.lv=s.lv/\(¬(0<=Gm.find (Gm.names s.ts) x.t/\0<(s.ts.map Gm.Tm.lv).getD (Gm.find (Gm.names s.ts) x.t).toNat 0))/\∃ts' n,Gm.put s.ts x=.ok (ts',n)/\s'.ts=ts'.modify n.toNat fun t=>⟨t.nm,s.lv,k-3⟩:=by
 unfold Gm.decl1 at hd;rw[if_neg (by omega),if_neg (by omega)]at hd;by_cases h0:0<=Gm.find (Gm.names s.ts) x.t/\0<(s.ts.map Gm.Tm.lv).getD (Gm.find (Gm.names s.ts) x.t).toNat 0
 ·rw[if_pos h0]at hd;cases hd
 ·rw[if_neg h0]at hd;obtain⟨⟨ts',n⟩,hp,hd⟩:=Gm.R.bind_eq hd;injection hd with hd;subst hd;have hf:=Fit.put h.f hx hp;refine⟨⟨⟨fun t ht=>?_,h.f.n,h.f.r,h.f.s⟩,?_,h.v⟩,rfl,h0,ts',n,hp,rfl⟩
  ·rcases Gm.mem_modify ht with q|⟨hn,rfl⟩
   ·exact hf.t t q
   ·have:=hf.t _ (List.getElem_mem hn)
    have hv0:=h.v;exact⟨this.1,by unfold Gm.In;simp only;omega,by unfold Gm.In;simp only;omega⟩
  ·show(ts'.modify _ _).length<=24
   rw[List.length_modify];exact zjg h.h hp
theorem zeA {k:Int} {s:Gm.S1} {xs:List Tok} {i:Nat} (h:i<xs.length):Gm.declN k s (xs.drop i)=(Gm.decl1 k s xs[i]).bind fun s=>Gm.declN k s (xs.drop (i+1)):=by
 rw[List.drop_eq_getElem_cons h,Gm.declN]
theorem zl8 (L:List Int) (B N R:Nat) (ns:List (List Int)) (rs:List Gm.Rl) (ds:List Y.Dcl) (S S2:Gm.S1) (A:Option Addr) (c:Nat) (w:World) (hw:Wk w B N R S.ts ns rs S.lv) (hJ:J9 S ns rs) (hk:∀d∈ds,d.k=4\/d.k=5) (hx:∀d∈ds,(∀x∈d.ns,K.Tx x.t/\Gm.named x.t=true)/\d.ns.length<=1000000) (hr:zkH L w B A ds)
  (hN:N<=w.heap.size) (hB:B<=w.heap.size) (hlv:S.lv=0) (hlen:ds.length<=1000) (hp:Gm.decls S ds=.ok S2) :
  Calls Tryz.prog 64 #[.pointer (some ⟨R,0,none⟩),.slice A ds.length c] w fun e w'=>e=.returned (.tuple #[])/\(Wk w' B N R S2.ts ns rs S2.lv/\J9 S2 ns rs)/\Below B w w'/\KpT w w':=by
 have HR:=aA hr;have HW0:=aA hw;have HJ0:=aA hJ;have HP:=aA hp;have HKX:=aA (fun(i:Nat) (hi:i<ds.length)=>And.intro (hk _ (List.getElem_mem hi)) (hx _ (List.getElem_mem hi)));have HLV:=aA hlv;clear hr hw hJ hp hk hx hlv
 go_enter Tryz.func64,Tryz.ntmps64
 go_wp2;go_loopw [4] (fun vi wr=>∃(i:Nat) (s:Gm.S1),i<=ds.length/\vi=.int .i64 i/\Hid (Gm.decls s (ds.drop i)=.ok S2)/\Hid (J9 s ns rs)/\Hid (s.lv<=i)/\Hid (Wk wr B N R s.ts ns rs s.lv)/\Hid (Below B w wr)/\Hid (KpT w wr)) (fun vi _=>ds.length-(intOf vi).toNat)
 case atStart=>exact⟨0,S,Nat.zero_le _,rfl,HP,HJ0,aA (by rw[HLV.o];omega),HW0,aA (Below.refl _ _),aA (KpT.refl _)⟩
 case round =>
  rename World=>wo;obtain⟨i,s,hi,rfl,HE,HJ,HSL,HW,HBW,HKT⟩:=hrel;obtain⟨vT,vN,vR,hwr⟩:=HW.o;have HRW:=aA hwr;have f10:=(hwr.at 10).1;obtain⟨f8,fz8,hRs⟩:=hwr.at 8;simp only[wC,List.getElem?_toArray,List.getElem?_cons_zero,List.getElem?_cons_succ]at f10 f8;clear hwr;by_cases hlt:i<ds.length
  ·obtain⟨g,o,rfl,hgB,hc⟩:=HR.o (by omega);obtain⟨k0,A',c',k1,hrf⟩:=hc i hlt;have k0:=(HBW.o.cell (p:=⟨g,o+i*2,none⟩) hgB).trans k0;have k1:=(HBW.o.cell (p:=⟨g,o+i*2+1,none⟩) hgB).trans k1;have hBs:=HBW.o.size;have hgs:g<wo.heap.size:=by omega
   have hBr:B<=wo.heap.size:=by omega
   obtain⟨hdk,hdx,hdl⟩:=HKX.o i hlt;have hE:=HE.o;rw[zf4 hlt]at hE;obtain⟨s1,h1,h2⟩:=Gm.R.bind_eq hE;have HN1:=aA h2;have HD1:=aA (zfh ds[i].ns h1);have hup:Gm.up ds[i].k s = {s with lv:=s.lv+1}:=by unfold Gm.up;rw[if_neg (by omega)]
   rw[hup]at h1 HD1;have HDN:=aA h1;have HRF:=aA hrf;have HDX:=aA (fun(j:Nat) (hj:j<ds[i].ns.length)=>hdx _ (List.getElem_mem hj));clear hc hrf hE h1 h2 hdx hup;generalize ds[i]=d at *;rcases d with⟨kk,ms⟩
   simp only at hdk hdl HDX HRF HDN HD1 k0 k1;have hlv1:s.lv+1<=1000000:=by have:=HSL.o;omega
   have hlv0:=HJ.o.v;have HJ1:Hid (J9 {s with lv:=s.lv+1} ns rs):=aA ⟨HJ.o.f,HJ.o.h,by show 0<=s.lv+1;omega⟩;have HA1:=aA (HRW.o.set 8 (.int .i64 (s.lv+1)));have HBs:=aA (HBW.o.setCell (p:=⟨R,8,none⟩) HRW.o.hR (.int .i64 (s.lv+1)));have HKs:=aA (HKT.o.trans (KpT.set HRW.o 8 (.int .i64 (s.lv+1))));have hzs:(wo.setCell ⟨R,8,none⟩ (.int .i64 (s.lv+1))).heap.size=wo.heap.size:=by simp
   generalize hws:wo.setCell ⟨R,8,none⟩ (.int .i64 (s.lv+1))=ws at *;have HS1:Hid (Wk (ws.alloc (.cells #[.int .i64 kk,.slice A' ms.length c'] 168)) B N R s.ts ns rs (s.lv+1)):=aA ⟨vT,vN,vR,HA1.o.alloc _⟩;have HB2:=aA (HBs.o.alloc (by rw[hzs];exact hBr) (.cells #[.int .i64 kk,.slice A' ms.length c'] 168));have HK2:=aA (HKs.o.trans (KpT.below ((Below.refl ws.heap.size ws).alloc (Nat.le_refl _) (.cells #[.int .i64 kk,.slice A' ms.length c'] 168))));have HDB:Hid ((ws.alloc (.cells #[.int .i64 kk,.slice A' ms.length c'] 168)).heap[wo.heap.size]?=some (.cells #[.int .i64 kk,.slice A' ms.length c'] 168 (0,0))):=aA (by rw[<-hzs];exact heap_alloc_new ws _);have hk3:(kk != 3)=true:=by rcases hdk with rfl|rfl <;> decide
   have hk7:(kk != 7)=true:=by rcases hdk with rfl|rfl <;> decide
   have hk3':¬kk<3:=by omega
   have hk7':¬7<kk:=by omega
   go_wp2_with fail
   go_loopw [7] (fun vj wr=>∃(j:Nat) (t:Gm.S1),j<=ms.length/\vj=.int .i64 j/\Hid (Gm.declN kk t (ms.drop j)=.ok s1)/\Hid (J9 t ns rs)/\Hid (t.lv=s.lv+1)/\Hid (Wk wr B N R t.ts ns rs t.lv)/\Hid (Below B w wr)/\Hid (KpT w wr)/\Hid (wr.heap[wo.heap.size]?=some (.cells #[.int .i64 kk,.slice A' ms.length c'] 168 (0,0)))) (fun vj _=>ms.length-(intOf vj).toNat)
   case atStart=>exact⟨0,_,Nat.zero_le _,rfl,HDN,HJ1,aA rfl,HS1,HB2,HK2,HDB⟩
   case round =>
    clear hws hzs k0 k1 f10 f8 fz8 HDN HJ1 HS1 HB2 HK2 HDB HA1 HBs HKs;obtain⟨j,t,hj,rfl,HE2,HJ2,HL2,HW2,HBW2,HKT2,HD2⟩:=hrel;obtain⟨vT2,vN2,vR2,hwq⟩:=HW2.o;have HRW2:=aA hwq;obtain⟨f10,_,hRq⟩:=hwq.at 10;simp only[wC,List.getElem?_toArray,List.getElem?_cons_zero,List.getElem?_cons_succ]at f10;clear hwq;have hDq:wo.heap.size<wr.heap.size:=(Array.getElem?_eq_some_iff.1 HD2.o).1;have b0:wr.cell? ⟨wo.heap.size,0,none⟩=some (.int .i64 kk):=by rw[cell_of_row wr _ 0 _ _ _ HD2.o];rfl
    have b1:wr.cell? ⟨wo.heap.size,1,none⟩=some (.slice A' ms.length c'):=by rw[cell_of_row wr _ 1 _ _ _ HD2.o];rfl
    by_cases hjl:j<ms.length
    ·obtain⟨q,r,rfl,hqB,hcq⟩:=HRF.o (by omega);have m0:=(HBW2.o.cell (p:=⟨q,r+j*2,none⟩) hqB).trans (hcq j hjl).1;have m1:=(HBW2.o.cell (p:=⟨q,r+j*2+1,none⟩) hqB).trans (hcq j hjl).2;have hqs:q<wr.heap.size:=by have:=HBW2.o.size;omega
     have hE:=HE2.o;rw[zeA hjl]at hE;obtain⟨t1,h1,h2⟩:=Gm.R.bind_eq hE;have HN2:=aA h2;obtain⟨hx1,hx2⟩:=HDX.o j hjl;obtain⟨j1,j2,j3,ts',n,hput,hts⟩:=HJ2.o.step hdk hx1 (by rw[HL2.o];exact hlv1) h1;have HNX:Hid (J9 t1 ns rs/\t1.lv=s.lv+1):=aA ⟨j1,j2.trans HL2.o⟩;have HBQ:=HBW2.o.size;have HDCL:=aA (fun(y:World) (hy:Below wr.heap.size wr y)=>ziW L B N R t.ts ts' ns rs t.lv n kk ms[j] y (HW2.o.below hy) HJ2.o.f hx1 hx2 (Nat.le_trans hN (Nat.le_trans HBQ hy.size)) (Nat.le_trans (Nat.le_trans hB HBQ) hy.size) hdk j3 hput HJ2.o.h);rw[<-hts,<-j2]at HDCL;have HDB9:=HDCL;clear HDCL hcq hE h1 h2 j1 j2 j3 hput hts hx1 hx2 HBQ;unfold bO at HDB9;generalize K.str ms[j].t=sx at *;unfold rfX rfY at m1;generalize Fl.fl (Pl.pos (L.take ms[j].o)).1=X at *;generalize Fl.fl (Pl.pos (L.take ms[j].o)).2=Y at *;go_wp2_with fail
     have Q0:=fun y:On9 B wo.heap.size wr=>(show y.1.cell? ⟨wo.heap.size,0,none⟩=some (.int .i64 kk) by rw[cell_of_row y.1 _ 0 _ _ _ (y.2.2.trans HD2.o)];rfl)
     have Q1:=fun y:On9 B wo.heap.size wr=>(show y.1.cell? ⟨wo.heap.size,1,none⟩=some (.slice (some ⟨q,r,none⟩) ms.length c') by rw[cell_of_row y.1 _ 1 _ _ _ (y.2.2.trans HD2.o)];rfl)
     have Q2:=fun y:On9 B wo.heap.size wr=>(y.2.1.cell (p:=⟨q,r+j*2,none⟩) hqB).trans m0;have Q3:=fun y:On9 B wo.heap.size wr=>(y.2.1.cell (p:=⟨q,r+j*2+1,none⟩) hqB).trans m1;refine CalmN.region_tree (fun x=>∃y:On9 B wo.heap.size wr,x=y.1) (.one [0,1,2,3,4,5,6,7] 8 (.fin [])) (by kernel_rfl) (by kernel_rfl) (fun _ _ d _ _ h=>by cases d <;> exact h) ⟨⟨wr.drew,aB (Below.refl _ _) 1,rfl⟩,rfl⟩ ?_;simp only[CalmN.wpT,CalmN.wpSt,CalmN.pickOps,List.getElem?_toArray,List.getElem?_cons_zero,List.getElem?_cons_succ];repeat (go_big_quiet_step (fail))
     refine wpQuiet_nil ?_;clear Q0 Q1 Q2 Q3;intro KK hKK;try rw[if_pos (by rfl)]
     go_wp2_with fail
     refine(HDB9.o wr.drew (aB (Below.refl _ _) 1)).mono ?_;rintro _ w2 ⟨rfl,hw2,hb2,hk2⟩;have HB3:=aA ((aB (Below.refl B wr) 1).trans hb2);have HK3:Hid (KpT wr w2):=aA hk2;have HW3:=aA hw2;have HD3:=aA (HK3.o _ _ _ HD2.o (by decide) (by decide));have HE3:Hid (w2.heap[wo.heap.size]?=wr.heap[wo.heap.size]?):=aA (HD3.o.trans HD2.o.symm);clear hw2 hb2 hk2;go_wp2_with fail
     refine hKK _ _ ⟨⟨w2,HB3.o,HE3.o⟩,rfl⟩ (fun x=>∃y:On9 B wo.heap.size wr,x=y.1) (fun _ h=>h) ⟨⟨w2,HB3.o,HE3.o⟩,rfl⟩ ?_;refine wpQuiet_nil ?_;go_wp2;go_roundw
     case rel=>exact⟨j+1,t1,hjl,by go_num,HN2,aA HNX.o.1,aA HNX.o.2,HW3,aA (HBW2.o.trans HB3.o),aA (HKT2.o.trans HK3.o),HD3⟩
     case measure=>simp[intOf];omega
    ·obtain rfl:j=ms.length:=by omega
     have hE:=HE2.o;rw[List.drop_length,Gm.declN]at hE;injection hE with hE;subst hE;go_wp2_with fail
     go_roundw
     case rel=>exact⟨i+1,t,hlt,by go_num,HN1,HJ2,aA (by rw[HL2.o];have:=HSL.o;omega),HW2,HBW2,HKT2⟩
     case measure=>simp[intOf];omega
  ·obtain rfl:i=ds.length:=by omega
   have hE:=HE.o;rw[List.drop_length,Gm.decls]at hE;injection hE with hE;subst hE;go_wp2;go_end0
   exact⟨rfl,⟨HW.o,HJ.o⟩,HBW.o,HKT.o⟩
namespace Sh
open Y
abbrev DD:=Int×List (List Int)
end Sh
def zmn (rs:List Gm.Rl) (k:Nat):Prop:=∀i (h:i<rs.length),i<k->rs[i].r.length<=20
theorem zfZ (v:Value) (G:Gm.Gr) (B:Nat) (w:World) (hg:aT w B v G) (hB:B<=w.heap.size) :
  Calls Tryz.prog 8 #[v] w fun e w'=>e=.returned (.bool (Gm.great G))/\Below w.heap.size w w':=by
 have HB:=aA (fun o=>(Below.refl w.heap.size w).alloc (Nat.le_refl _) o);obtain⟨AT,cT,AN,cN,AR,cR,rfl,⟨hlT,hmT⟩,⟨hlN,hmN⟩,⟨hlR,hmR⟩,_,_,hr⟩:=hg;have HR:=aA hr;clear hr;unfold Gm.great;by_cases h1:40<G.ts.length
 ·rw[decide_eq_true h1]
  go_enter Tryz.func8,Tryz.ntmps8
  go_wp2;go_ret
  exact⟨rfl,HB.o _⟩
 by_cases h2:40<G.ns.length
 ·rw[decide_eq_true h2];simp only[Bool.or_true,Bool.true_or]
  go_enter Tryz.func8,Tryz.ntmps8
  go_wp2;go_ret
  exact⟨rfl,HB.o _⟩
 by_cases h3:60<G.rs.length
 ·rw[decide_eq_true h3];simp only[Bool.or_true,Bool.true_or]
  go_enter Tryz.func8,Tryz.ntmps8
  go_wp2;go_ret
  exact⟨rfl,HB.o _⟩
 rw[decide_eq_false h1,decide_eq_false h2,decide_eq_false h3];simp only[Bool.false_or];have hlen:G.rs.length<=60:=by omega
 go_enter Tryz.func8,Tryz.ntmps8
 go_wp2
 go_loop [3] (fun vi=>∃(k:Nat),k<=G.rs.length/\vi=.int .i64 k/\zmn G.rs k) (fun vi=>G.rs.length-(intOf vi).toNat)
 case atStart=>exact⟨0,Nat.zero_le _,rfl,fun _ _ h=>by omega⟩
 case round =>
  obtain⟨k,hk,rfl,hn⟩:=hrel;have HN:=aA hn;clear hn;by_cases hlt:k<G.rs.length
  ·obtain⟨g,o,rfl,hgb,hc⟩:=HR.o (by omega);obtain⟨_,⟨A',c',k1,k2,k3,_⟩,_⟩:=hc k hlt;have hgs:g<w.heap.size:=by omega
   by_cases hx:20<G.rs[k].r.length
   ·have HE:Hid ((G.rs.any fun r=>decide (20<r.r.length))=true):=aA (List.any_eq_true.2 ⟨_,List.getElem_mem hlt,by simpa using hx⟩);generalize G.rs[k].r.length=m at *;clear hc;go_wp2;go_ret
    exact⟨aE HE.o.symm,HB.o _⟩
   ·have HE:Hid (zmn G.rs (k+1)):=aA (fun i hi hik=>by
     rcases Nat.lt_or_ge i k with q|q
     ·exact HN.o i hi q
     ·obtain rfl:i=k:=by omega
      omega)
    generalize G.rs[k].r.length=m at *;clear hc;go_wp2
    go_round
    case rel=>exact⟨k+1,by omega,by go_num,HE.o⟩
    case measure=>simp[intOf];omega
  ·obtain rfl:k=G.rs.length:=by omega
   have HE:Hid ((G.rs.any fun r=>decide (20<r.r.length))=false):=aA (by
    rw[List.any_eq_false];intro x hx;obtain⟨i,hi,rfl⟩:=List.getElem_of_mem hx
    have:=HN.o i hi hi
    simp;omega)
   go_wp2;go_ret
   exact⟨aE HE.o.symm,HB.o _⟩
theorem bH.alloc {w:World} {base:Nat} {v:Value} {ws:List (List Int)} (h:bH w base v ws) (o:Obj):bH (w.alloc o) base v ws:=World.ownsRow.alloc h o
theorem bH.less {w:World} {base base':Nat} {v:Value} {ws:List (List Int)} (h:bH w base v ws) (hb:base'<=base):bH w base' v ws:=by
 refine⟨h.1,?_⟩;rcases h.2 with h0|⟨g,cap,cur,e,hb1,hr⟩
 ·exact .inl h0
 ·exact .inr ⟨g,cap,cur,e,by omega,hr⟩
theorem bH.drewN {w:World} {base:Nat} {v:Value} {ws:List (List Int)} (h:bH w base v ws) (n:Nat):bH (w.drewN n) base v ws:=h
theorem bH.below {w w':World} {base:Nat} {v:Value} {ws:List (List Int)} (h:bH w base v ws) (hb:Below w.heap.size w w'):bH w' base v ws :=
 World.ownsRow.kept h (aM hb .none) (by rcases v.ownBlock with _|k;exact .inl rfl;exact .inr (by simp))
theorem bH.form {w:World} {base:Nat} {v:Value} {ws:List (List Int)} (h:bH w base v ws):∃A c,v=.slice A ws.length c/\ws.length<=c/\c<=maxLen:=aO h
namespace Sh
open Gm
end Sh
namespace Sh
open Gm
end Sh
theorem zfm {w:World} {o:Oper} {a:Act} {KK:Act->World->Prop} {Q:Exit->Act->World->Prop}
  (s x:Operand) (t:TypeId) (ho:o.op=.call {callee:=.builtin .append,args:=#[s,x],argTypes:=#[t,t]}) (ht:Tryz.prog.underlying t=some (.slice 9))
  (base:Nat) (v:Value) (ts:List (List Int)) (hs:a.eval s=v) (hown:bH w base v ts) (g c:Nat) (y:List Int) (hx:a.eval x=.slice (some ⟨g,0,none⟩) 1 c) (hz:w.cell? ⟨g,0,none⟩=some (.string (K.str y)))
  (hlen:ts.length<=1000000) (hbase:base<=w.heap.size)
  (hK:∀v' w',bH w' base v' (ts++[y])->w.grownBy w' v.ownBlock->(v'.ownBlock=v.ownBlock\/v'.ownBlock=some w.heap.size)->KK (a.put o.dst v') w') :
  o.wp Tryz.prog a w KK Q:=by
 obtain⟨i,hi,hz0,hz1,hz2⟩:=info_parts zjl
 obtain⟨v',w',hr,h2,h3,h4,h5⟩:=run_append_own_at (P:=Tryz.prog) w base t o.type 9 i (.string ⟨#[]⟩) 1 16 ht hi hz0 hz1 hz2 rfl (by decide) v ts.length (zkM ts) hown ⟨g,0,none⟩ 1 c [.string (K.str y)] rfl (by
  intro j u hj;rw[zd6,Nat.zero_add];rcases j with _|j
  ·simp at hj;rw[<-hj];exact hz
  ·simp at hj) (by intro u hu;simp at hu;rcases hu with rfl;rfl) (by unfold maxLen;omega) (by omega) hbase
 unfold Oper.wp execOp;simp only[ho,resolve,invoke,builtin,Sem.run_bind,Sem.run_pure,Result.andThen_ok,List.map_toArray,List.map_cons,List.map_nil,hs,hx,hr];refine hK v' w' ?_ h3 h5;unfold bH zkM;rw[List.length_append,List.map_append];exact h2
theorem zag {w:World} {B N R:Nat} {cs:Array Value} {vT vN vR:Value} {ts:List Gm.Tm} {ns:List (List Int)} {rs:List Gm.Rl} (h:WRaw w B N R cs vT vN vR ts ns rs):(∃A c,vT=.slice A ts.length c)/\(∃A c,vN=.slice A ns.length c)/\∃A c,vR=.slice A rs.length c:=by
 obtain⟨qs,_,h2,_⟩:=id h.r;obtain⟨A1,c1,e1,_⟩:=aO h.t;obtain⟨A2,c2,e2,_⟩:=aO h.n;obtain⟨A3,c3,e3,_⟩:=aO h2;exact⟨⟨A1,c1,e1⟩,⟨A2,c2,e2⟩,⟨A3,c3,e3⟩⟩
theorem WRaw.drew9 {w:World} {B N R:Nat} {cs:Array Value} {vT vN vR:Value} {ts:List Gm.Tm} {ns:List (List Int)} {rs:List Gm.Rl} (h:WRaw w B N R cs vT vN vR ts ns rs):WRaw w.drew B N R cs vT vN vR ts ns rs:=h.below (aB (Below.refl _ _) 1)
theorem zcA {w:World} {B N R:Nat} {vT vN vR:Value} {lv:Int} {ts:List Gm.Tm} {ns:List (List Int)} {rs:List Gm.Rl} {s:List Int} (hf:Gm.Fit ⟨ts,ns,rs,0⟩) (hs:K.Tx s) (h:WRaw w B N R (wC vT vN vR lv) vT vN vR ts ns rs) (hN:N<=w.heap.size) :
  Calls Tryz.prog 82 #[.agg #[vT,vN,vR,.int .i64 0],.string (K.str s)] w fun e w'=>e=.returned (.int .i64 (Gm.find (Gm.names ts) s))/\Below w.heap.size w w' :=
 zbh _ ⟨ts,ns,rs,0⟩ s _ w (h.rd hN 0) hf hs (Nat.le_refl _)
theorem zca {w:World} {B N R:Nat} {vT vN vR:Value} {lv:Int} {ts:List Gm.Tm} {ns:List (List Int)} {rs:List Gm.Rl} {s:List Int} (hf:Gm.Fit ⟨ts,ns,rs,0⟩) (hs:K.Tx s) (h:WRaw w B N R (wC vT vN vR lv) vT vN vR ts ns rs) (hN:N<=w.heap.size) :
  Calls Tryz.prog 67 #[.agg #[vT,vN,vR,.int .i64 0],.string (K.str s)] w fun e w'=>e=.returned (.int .i64 (Gm.find ns s))/\Below w.heap.size w w' :=
 zeP _ ⟨ts,ns,rs,0⟩ s _ w (h.rd hN 0) hf hs (Nat.le_refl _)
theorem Fit.left {ts:List Gm.Tm} {ns ns':List (List Int)} {rs:List Gm.Rl} {x:Tok} (h:Gm.Fit ⟨ts,ns,rs,0⟩) (hx:K.Tx x.t) (hp:Gm.left1 ts ns x=.ok ns'):Gm.Fit ⟨ts,ns',rs,0⟩:=by
 rcases Gm.left1_ok hp with⟨rfl,_⟩|⟨rfl,_,_,_⟩
 ·exact h
 ·refine⟨h.t,fun y hy=>?_,h.r,h.s⟩;rcases List.mem_append.1 hy with q|q
  ·exact h.n y q
  ·simp at q;subst q;exact hx
theorem zer {ts:List Gm.Tm} {ns ns':List (List Int)} {x:Tok} (h:Gm.left1 ts ns x=.ok ns'):Gm.find (Gm.names ts) x.t<0/\((0<=Gm.find ns x.t/\ns'=ns)\/(Gm.find ns x.t<0/\ns.length≠16/\ns'=ns++[x.t])):=by
 unfold Gm.left1 at h;split at h
 ·cases h
 ·rename_i h0
  refine⟨by omega,?_⟩;split at h
  ·rename_i h1;injection h with h;exact .inl ⟨h1,h.symm⟩
  ·rename_i h1
   split at h
   ·cases h
   ·rename_i h2;injection h with h;exact .inr ⟨by omega,h2,h.symm⟩
theorem zly (L:List Int) (B N R:Nat) (ts:List Gm.Tm) (rs:List Gm.Rl) (ps:List Y.Prd) (ns0 ns2:List (List Int)) (lv:Int) (A:Option Addr) (c:Nat) (w:World) (hw:Wk w B N R ts ns0 rs lv) (hf:Gm.Fit ⟨ts,ns0,rs,0⟩) (hx:∀p∈ps,K.Tx p.l.t/\T.isName p.l.t=true) (hr:zkG L w B A ps)
  (hN:N<=w.heap.size) (hB:B<=w.heap.size) (h16:ns0.length<=16) (hlen:ps.length<=1000) (hp:Gm.lefts ts ns0 ps=.ok ns2) :
  Calls Tryz.prog 65 #[.pointer (some ⟨R,0,none⟩),.slice A ps.length c] w fun e w'=>e=.returned (.tuple #[])/\(Wk w' B N R ts ns2 rs lv/\Gm.Fit ⟨ts,ns2,rs,0⟩/\ns2.length<=16)/\Below B w w'/\KpA w w':=by
 have SC:=fun a w m X Y=>show(store a (.complex .f64 X Y) m).run Tryz.prog w=stored Tryz.prog w a (.complex .f64 X Y) m from run_store _ w a _ m rfl;have HR:=aA hr;have HW0:=aA hw;have HF0:=aA hf;have H160:=aA h16;have HP:=aA hp;have HKX:=aA (fun(i:Nat) (hi:i<ps.length)=>hx _ (List.getElem_mem hi));clear hr hw hf hp hx h16
 go_enter Tryz.func65,Tryz.ntmps65
 go_wp2;go_loopw [4] (fun vi wr=>∃(i:Nat) (ns:List (List Int)),i<=ps.length/\vi=.int .i64 i/\Hid (Gm.lefts ts ns (ps.drop i)=.ok ns2)/\Hid (Gm.Fit ⟨ts,ns,rs,0⟩)/\Hid (ns.length<=16)/\Hid (Wk wr B N R ts ns rs lv)/\Hid (Below B w wr)/\Hid (KpA w wr)) (fun vi _=>ps.length-(intOf vi).toNat)
 case atStart=>exact⟨0,ns0,Nat.zero_le _,rfl,HP,HF0,H160,HW0,aA (Below.refl _ _),aA (KpA.refl _)⟩
 case round =>
  obtain⟨i,ns,hi,rfl,HE,HF,H16,HW,HBW,HKT⟩:=hrel;obtain⟨vT,vN,vR,hwr⟩:=HW.o;obtain⟨⟨AT,cT,rfl⟩,⟨AN,cN,rfl⟩,⟨AR,cR,rfl⟩⟩:=zag hwr;have HRW:=aA hwr;obtain⟨f10,_,hRw⟩:=hwr.at 10;simp only[wC,List.getElem?_toArray,List.getElem?_cons_zero,List.getElem?_cons_succ]at f10;clear hwr;by_cases hlt:i<ps.length
  ·obtain⟨g,o,rfl,hgB,hc⟩:=HR.o (by omega);have k0:=(HBW.o.cell (p:=⟨g,o+i*5,none⟩) hgB).trans (hc i hlt).1;have k1:=(HBW.o.cell (p:=⟨g,o+i*5+1,none⟩) hgB).trans (hc i hlt).2.1;have hBs:=HBW.o.size;have hgs:g<wr.heap.size:=by omega
   have hBr:B<=wr.heap.size:=by omega
   obtain⟨hx1,hx2⟩:=HKX.o i hlt;have hE:=HE.o;rw[zfN hlt]at hE;obtain⟨ns1,h1,h2⟩:=Gm.R.bind_eq hE;have HN1:=aA h2;have HF1:=aA (Fit.left HF.o hx1 h1);have H161:=aA (zhf h1 H16.o);obtain⟨hz,hcase⟩:=zer h1;have HTM:=aA (fun(y:World) (lv':Int) (h:WRaw y B N R (wC (.slice AT ts.length cT) (.slice AN ns.length cN) (.slice AR rs.length cR) lv') (.slice AT ts.length cT) (.slice AN ns.length cN) (.slice AR rs.length cR) ts ns rs) (hy:N<=y.heap.size)=>zcA HF.o hx1 h hy);have HNO:=aA (fun(y:World) (lv':Int) (h:WRaw y B N R (wC (.slice AT ts.length cT) (.slice AN ns.length cN) (.slice AR rs.length cR) lv') (.slice AT ts.length cT) (.slice AN ns.length cN) (.slice AR rs.length cR) ts ns rs) (hy:N<=y.heap.size)=>zca HF.o hx1 h hy);have HNM:=aA (fun(y:World)=>zb0 ps[i].l.t hx1.1 y);rw[hx2]at HNM;have HCA:=aA hcase;clear hc hE h1 h2 hx1 hx2 hcase;generalize ps[i].l=x at *;generalize rfX L x=X at *;generalize rfY L x=Y at *;obtain⟨w1,hw1⟩:∃y,y=wr.alloc (.cells #[.string (K.str x.t),.complex .f64 X Y] 127):=⟨_,rfl⟩
   have HB01:Hid (Below wr.heap.size wr w1):=aA (by rw[hw1];exact(Below.refl _ _).alloc (Nat.le_refl _) _);have HDw1:Hid (w1.heap[wr.heap.size]?=some (.cells #[.string (K.str x.t),.complex .f64 X Y] 127 (0,0))):=aA (by rw[hw1];exact heap_alloc_new wr _);have HQw1:=aA (HRW.o.below HB01.o);have HNw1:Hid (N<=w1.heap.size):=aA (by have:=HB01.o.size;omega);generalize hsx:K.str x.t=sx at *;have HSX:=aA hsx;clear hsx;go_wp2_with fail
   try rw[<-hw1]
   clear hw1 f10 k0 k1;refine(HNM.o _).mono ?_;rintro _ _ ⟨rfl,rfl⟩;go_wp2_with fail
   obtain⟨p0,_,hRs⟩:=HQw1.o.at 0;have p1:=(HQw1.o.at 1).1;have p2:=(HQw1.o.at 2).1;have p3:=(HQw1.o.at 3).1;simp only[wC,List.getElem?_toArray,List.getElem?_cons_zero,List.getElem?_cons_succ]at p0 p1 p2 p3;have hDs:wr.heap.size<w1.heap.size:=(Array.getElem?_eq_some_iff.1 HDw1.o).1;have t0:w1.cell? ⟨wr.heap.size,0,none⟩=some (.string sx):=by rw[cell_of_row w1 _ 0 _ _ _ HDw1.o];rfl
   have Q0:=fun y:Calm.On w1.heap.size w1=>(y.2.cell (p:=⟨R,0,none⟩) hRs).trans p0;have Q1:=fun y:Calm.On w1.heap.size w1=>(y.2.cell (p:=⟨R,1,none⟩) hRs).trans p1;have Q2:=fun y:Calm.On w1.heap.size w1=>(y.2.cell (p:=⟨R,2,none⟩) hRs).trans p2;have Q3:=fun y:Calm.On w1.heap.size w1=>(y.2.cell (p:=⟨R,3,none⟩) hRs).trans p3;have Q4:=fun y:Calm.On w1.heap.size w1=>(y.2.cell (p:=⟨wr.heap.size,0,none⟩) hDs).trans t0;refine CalmN.region_tree (fun x=>∃y:Calm.On w1.heap.size w1,x=y.1) (.one [0,1,2,3,4,5] 6 (.fin [7,8])) (by kernel_rfl) (by kernel_rfl) (fun _ _ d _ _ h=>by cases d <;> exact h) ⟨⟨w1.drew,aB (Below.refl _ _) 1⟩,rfl⟩ ?_;simp only[CalmN.wpT,CalmN.wpSt,CalmN.pickOps,List.getElem?_toArray,List.getElem?_cons_zero,List.getElem?_cons_succ];repeat (go_big_quiet_step (fail))
   refine wpQuiet_nil ?_;clear Q0 Q1 Q2 Q3 Q4 p0 p1 p2 p3 t0;intro KK hKK;rw[if_pos (by rfl)];go_wp2_with fail
   refine(HTM.o w1.drew _ HQw1.o.drew9 HNw1.o).mono ?_;rintro _ w2 ⟨rfl,hb2⟩;have hb12:Below w1.heap.size w1 w2:=(aB (Below.refl w1.heap.size w1) 1).trans hb2;have HBw2:=aA hb12;have HQw2:=aA (HQw1.o.below hb12);have HDw2:=aA ((hb12.block _ hDs).trans HDw1.o);have HNw2:=aA (Nat.le_trans HNw1.o hb12.size);clear hb2 hb12;go_wp2_with fail
   refine hKK _ _ ⟨⟨w2,HBw2.o⟩,rfl⟩ (fun x=>∃y:Calm.On w1.heap.size w1,x=y.1) (fun _ h=>h) ⟨⟨w2,HBw2.o⟩,rfl⟩ ?_;repeat (go_big_quiet_step (fail))
   refine wpQuiet_nil ?_;clear hKK hDs hRs;have hz0:¬(0:Int)<=Gm.find (Gm.names ts) x.t:=by omega
   clear hz;generalize Gm.find (Gm.names ts) x.t=z at *;go_wp2_with fail
   obtain⟨p0,_,hRs⟩:=HQw2.o.at 0;have p1:=(HQw2.o.at 1).1;have p2:=(HQw2.o.at 2).1;have p3:=(HQw2.o.at 3).1;simp only[wC,List.getElem?_toArray,List.getElem?_cons_zero,List.getElem?_cons_succ]at p0 p1 p2 p3;have hDs:wr.heap.size<w2.heap.size:=(Array.getElem?_eq_some_iff.1 HDw2.o).1;have t0:w2.cell? ⟨wr.heap.size,0,none⟩=some (.string sx):=by rw[cell_of_row w2 _ 0 _ _ _ HDw2.o];rfl
   have Q0:=fun y:Calm.On w2.heap.size w2=>(y.2.cell (p:=⟨R,0,none⟩) hRs).trans p0;have Q1:=fun y:Calm.On w2.heap.size w2=>(y.2.cell (p:=⟨R,1,none⟩) hRs).trans p1;have Q2:=fun y:Calm.On w2.heap.size w2=>(y.2.cell (p:=⟨R,2,none⟩) hRs).trans p2;have Q3:=fun y:Calm.On w2.heap.size w2=>(y.2.cell (p:=⟨R,3,none⟩) hRs).trans p3;have Q4:=fun y:Calm.On w2.heap.size w2=>(y.2.cell (p:=⟨wr.heap.size,0,none⟩) hDs).trans t0;refine CalmN.region_tree (fun x=>∃y:Calm.On w2.heap.size w2,x=y.1) (.one [0,1,2,3,4,5] 6 (.fin [7,8])) (by kernel_rfl) (by kernel_rfl) (fun _ _ d _ _ h=>by cases d <;> exact h) ⟨⟨w2.drew,aB (Below.refl _ _) 1⟩,rfl⟩ ?_;simp only[CalmN.wpT,CalmN.wpSt,CalmN.pickOps,List.getElem?_toArray,List.getElem?_cons_zero,List.getElem?_cons_succ];repeat (go_big_quiet_step (fail))
   refine wpQuiet_nil ?_;clear Q0 Q1 Q2 Q3 Q4 p0 p1 p2 p3 t0;intro KK hKK;rw[if_pos (by rfl)];go_wp2_with fail
   refine(HNO.o w2.drew _ HQw2.o.drew9 HNw2.o).mono ?_;rintro _ w3 ⟨rfl,hb2⟩;have hb12:Below w2.heap.size w2 w3:=(aB (Below.refl w2.heap.size w2) 1).trans hb2;have HBw3:=aA hb12;have HQw3:=aA (HQw2.o.below hb12);have HDw3:=aA ((hb12.block _ hDs).trans HDw2.o);have HNw3:=aA (Nat.le_trans HNw2.o hb12.size);clear hb2 hb12;go_wp2_with fail
   refine hKK _ _ ⟨⟨w3,HBw3.o⟩,rfl⟩ (fun x=>∃y:Calm.On w2.heap.size w2,x=y.1) (fun _ h=>h) ⟨⟨w3,HBw3.o⟩,rfl⟩ ?_;repeat (go_big_quiet_step (fail))
   refine wpQuiet_nil ?_;clear hKK hDs hRs;have HBK:=aA (KpA.below (((HB01.o.trans (HBw2.o.mono HB01.o.size)).trans (HBw3.o.mono (Nat.le_trans HB01.o.size HBw2.o.size)))));have HBB:=aA (((HB01.o.trans (HBw2.o.mono HB01.o.size)).trans (HBw3.o.mono (Nat.le_trans HB01.o.size HBw2.o.size))).mono hBr);rcases HCA.o with⟨h0,e⟩|⟨h0,hl16,e⟩
   ·have HNE:=aA e;clear e;generalize Gm.find ns x.t=z2 at *;go_wp2;go_roundw
    case rel=>exact⟨i+1,ns,hlt,by go_num,by rw[<-HNE.o];exact HN1,HF,H16,aA ⟨_,_,_,HQw3.o⟩,aA (HBW.o.trans HBB.o),aA (HKT.o.trans HBK.o)⟩
    case measure=>simp[intOf];omega
   have HNE:=aA e;clear e;have h0':¬(0:Int)<=Gm.find ns x.t:=by omega
   generalize Gm.find ns x.t=z2 at *;have hl16':((ns.length:Int)==16)=false:=beq_eq_false_iff_ne.2 (by omega);obtain⟨k1,hf1,_⟩:=HQw3.o.at 1;simp only[wC,List.getElem?_toArray,List.getElem?_cons_zero,List.getElem?_cons_succ]at k1;go_wp2_with fail
   have HO6:=aA ((HQw3.o.alloc (.cells #[.string sx] 9)).n);have HB6:Hid (B<=(w3.alloc (.cells #[.string sx] 9)).drew.heap.size):=aA (by have:=HBw3.o.size;have:=HBw2.o.size;have:=HB01.o.size;simp;omega);have HCE:Hid ((w3.alloc (.cells #[.string sx] 9)).drew.cell? ⟨w3.heap.size,0,none⟩=some (.string (K.str x.t))):=aA (by rw[HSX.o];exact aL w3 [.string sx] 9 0);have HT6:Hid ((w3.alloc (.cells #[.string sx] 9)).heap[wr.heap.size]?=w3.heap[wr.heap.size]?):=aA (((Below.refl _ w3).alloc (Nat.le_refl _) _).block _ (Array.getElem?_eq_some_iff.1 HDw3.o).1);have D8:=fun y:Calm.OnB wr.heap.size w3=>(show y.1.cell? ⟨wr.heap.size,0,none⟩=some (.string sx) by rw[cell_of_row y.1 _ 0 _ _ _ (y.2.trans HDw3.o)];rfl)
   refine CalmN.region_tree (fun y=>∃z:Calm.OnB wr.heap.size w3,y=z.1) (.two [0,1,2,3,4,6,7] 5 (.one [] 8 (.one [] 9 (.one [10,11,12] 13 (.fin [])))) 8 (.one [] 5 (.one [] 9 (.one [10,11,12] 13 (.fin []))))) (by kernel_rfl) (by kernel_rfl) (fun _ _ d _ _ h=>by cases d <;> exact h) ⟨⟨w3.drew,rfl⟩,rfl⟩ ?_;simp only[CalmN.wpT,CalmN.wpSt,CalmN.pickOps,List.getElem?_toArray,List.getElem?_cons_zero,List.getElem?_cons_succ];repeat (go_big_quiet_step (fail))
   refine wpQuiet_nil ?_;clear D8;refine⟨?_,?_⟩
   ·intro KK hKK;rw[if_pos (by rfl)];go_wp2_with fail
    refine hKK _ _ ⟨⟨w3.drew,rfl⟩,rfl⟩ (fun y=>∃z:Calm.OnB wr.heap.size w3,y=z.1) (fun _ h=>h) ⟨⟨w3.drew,rfl⟩,rfl⟩ ?_;refine wpQuiet_nil ?_;intro KK hKK;try rw[if_pos (by rfl)]
    go_wp2_with fail
    refine hKK _ _ ⟨⟨(w3.alloc (.cells #[.string sx] 9)).drew,HT6.o⟩,rfl⟩ (fun y=>∃z:Calm.OnB wr.heap.size w3,y=z.1) (fun _ h=>h) ⟨⟨(w3.alloc (.cells #[.string sx] 9)).drew,HT6.o⟩,rfl⟩ ?_;refine wpQuiet_nil ?_;intro KK hKK;try rw[if_pos (by rfl)]
    refine zfm (w:=(w3.alloc (.cells #[.string sx] 9)).drew) (.tmp 29) (.tmp 32) _ rfl Tryz.underlying23 B (.slice AN ns.length cN) ns rfl HO6.o _ 1 x.t rfl HCE.o (by have:=H16.o;omega) HB6.o ?_;intro v7 w7 ho7 hg7' _;have hg7:=(aH (w3.alloc (.cells #[.string sx] 9)) _).trans hg7';obtain⟨A7,c7,hv7,_,_⟩:=aO ho7;rw[show(ns++[x.t]).length=ns.length+1 by simp]at hv7;subst hv7;have hW7:=(HQw3.o.alloc (.cells #[.string sx] 9)).n_put ho7 hg7;have HW7:=aA hW7;obtain⟨k7,hf7,hR7⟩:=hW7.at 1;simp only[wC,List.getElem?_toArray,List.getElem?_cons_zero,List.getElem?_cons_succ]at k7;have hb4:Below w3.heap.size w3 (w3.alloc (.cells #[.string sx] 9)):=(Below.refl _ w3).alloc (Nat.le_refl _) (.cells #[.string sx] 9);have HK7:=aA ((KpA.below hb4).trans (KpA.own (HQw3.o.alloc (.cells #[.string sx] 9)).n hg7 (.inr (.inl rfl))));have HT7:Hid (w7.heap[wr.heap.size]?=w3.heap[wr.heap.size]?):=aA ((HK7.o _ _ _ HDw3.o (by decide) (by decide) (by decide) (by decide)).trans HDw3.o.symm);have HB7:=aA ((HBB.o.alloc (by have:=HB6.o;have:=HBB.o.size;omega) (.cells #[.string sx] 9)).grown hg7 (by have:=HB6.o;simpa using this) (fun k e=>(aI HQw3.o.n e).1));clear ho7 hg7 hg7' hW7 hb4;go_wp2_with fail
    refine hKK _ _ ⟨⟨w7,HT7.o⟩,rfl⟩ (fun y=>∃z:Calm.OnB wr.heap.size w3,y=z.1) (fun _ h=>h) ⟨⟨w7,HT7.o⟩,rfl⟩ ?_;repeat (go_big_quiet_step (fail))
    refine wpQuiet_nil ?_;intro KK hKK;try rw[if_pos (by rfl)]
    go_wp2_with fail
    have HW8:=aA (HW7.o.set 1 (.slice A7 (ns.length+1) c7));have HK8:=aA (HK7.o.trans (KpT.set HW7.o 1 (.slice A7 (ns.length+1) c7)).a);have HB8:=aA (HB7.o.setCell (p:=⟨R,1,none⟩) HW7.o.hR (.slice A7 (ns.length+1) c7));have HT8:Hid ((w7.setCell ⟨R,1,none⟩ (.slice A7 (ns.length+1) c7)).heap[wr.heap.size]?=w3.heap[wr.heap.size]?):=aA ((HK8.o _ _ _ HDw3.o (by decide) (by decide) (by decide) (by decide)).trans HDw3.o.symm);refine hKK _ _ ⟨⟨_,HT8.o⟩,rfl⟩ (fun y=>∃z:Calm.OnB wr.heap.size w3,y=z.1) (fun _ h=>h) ⟨⟨_,HT8.o⟩,rfl⟩ ?_;refine wpQuiet_nil ?_;clear k7 hf7;go_wp2;go_roundw
    case rel=>exact⟨i+1,ns++[x.t],hlt,by go_num,by rw[<-HNE.o];exact HN1,by rw[<-HNE.o];exact HF1,by rw[<-HNE.o];exact H161,aA ⟨_,_,_,HW8.o⟩,aA (HBW.o.trans HB8.o),aA ((HKT.o.trans HBK.o).trans HK8.o)⟩
    case measure=>simp[intOf];omega
   ·intro KK hKK;rw[if_pos (by rfl)];go_wp2_with fail
    refine hKK _ _ ⟨⟨(w3.alloc (.cells #[.string sx] 9)).drew,HT6.o⟩,rfl⟩ (fun y=>∃z:Calm.OnB wr.heap.size w3,y=z.1) (fun _ h=>h) ⟨⟨(w3.alloc (.cells #[.string sx] 9)).drew,HT6.o⟩,rfl⟩ ?_;refine wpQuiet_nil ?_;intro KK hKK;try rw[if_pos (by rfl)]
    go_wp2_with fail
    refine hKK _ _ ⟨⟨(w3.alloc (.cells #[.string sx] 9)).drew,HT6.o⟩,rfl⟩ (fun y=>∃z:Calm.OnB wr.heap.size w3,y=z.1) (fun _ h=>h) ⟨⟨(w3.alloc (.cells #[.string sx] 9)).drew,HT6.o⟩,rfl⟩ ?_;refine wpQuiet_nil ?_;intro KK hKK;try rw[if_pos (by rfl)]
    refine zfm (w:=(w3.alloc (.cells #[.string sx] 9)).drew) (.tmp 29) (.tmp 32) _ rfl Tryz.underlying23 B (.slice AN ns.length cN) ns rfl HO6.o _ 1 x.t rfl HCE.o (by have:=H16.o;omega) HB6.o ?_;intro v7 w7 ho7 hg7' _;have hg7:=(aH (w3.alloc (.cells #[.string sx] 9)) _).trans hg7';obtain⟨A7,c7,hv7,_,_⟩:=aO ho7;rw[show(ns++[x.t]).length=ns.length+1 by simp]at hv7;subst hv7;have hW7:=(HQw3.o.alloc (.cells #[.string sx] 9)).n_put ho7 hg7;have HW7:=aA hW7;obtain⟨k7,hf7,hR7⟩:=hW7.at 1;simp only[wC,List.getElem?_toArray,List.getElem?_cons_zero,List.getElem?_cons_succ]at k7;have hb4:Below w3.heap.size w3 (w3.alloc (.cells #[.string sx] 9)):=(Below.refl _ w3).alloc (Nat.le_refl _) (.cells #[.string sx] 9);have HK7:=aA ((KpA.below hb4).trans (KpA.own (HQw3.o.alloc (.cells #[.string sx] 9)).n hg7 (.inr (.inl rfl))));have HT7:Hid (w7.heap[wr.heap.size]?=w3.heap[wr.heap.size]?):=aA ((HK7.o _ _ _ HDw3.o (by decide) (by decide) (by decide) (by decide)).trans HDw3.o.symm);have HB7:=aA ((HBB.o.alloc (by have:=HB6.o;have:=HBB.o.size;omega) (.cells #[.string sx] 9)).grown hg7 (by have:=HB6.o;simpa using this) (fun k e=>(aI HQw3.o.n e).1));clear ho7 hg7 hg7' hW7 hb4;go_wp2_with fail
    refine hKK _ _ ⟨⟨w7,HT7.o⟩,rfl⟩ (fun y=>∃z:Calm.OnB wr.heap.size w3,y=z.1) (fun _ h=>h) ⟨⟨w7,HT7.o⟩,rfl⟩ ?_;repeat (go_big_quiet_step (fail))
    refine wpQuiet_nil ?_;intro KK hKK;try rw[if_pos (by rfl)]
    go_wp2_with fail
    have HW8:=aA (HW7.o.set 1 (.slice A7 (ns.length+1) c7));have HK8:=aA (HK7.o.trans (KpT.set HW7.o 1 (.slice A7 (ns.length+1) c7)).a);have HB8:=aA (HB7.o.setCell (p:=⟨R,1,none⟩) HW7.o.hR (.slice A7 (ns.length+1) c7));have HT8:Hid ((w7.setCell ⟨R,1,none⟩ (.slice A7 (ns.length+1) c7)).heap[wr.heap.size]?=w3.heap[wr.heap.size]?):=aA ((HK8.o _ _ _ HDw3.o (by decide) (by decide) (by decide) (by decide)).trans HDw3.o.symm);refine hKK _ _ ⟨⟨_,HT8.o⟩,rfl⟩ (fun y=>∃z:Calm.OnB wr.heap.size w3,y=z.1) (fun _ h=>h) ⟨⟨_,HT8.o⟩,rfl⟩ ?_;refine wpQuiet_nil ?_;clear k7 hf7;go_wp2;go_roundw
    case rel=>exact⟨i+1,ns++[x.t],hlt,by go_num,by rw[<-HNE.o];exact HN1,by rw[<-HNE.o];exact HF1,by rw[<-HNE.o];exact H161,aA ⟨_,_,_,HW8.o⟩,aA (HBW.o.trans HB8.o),aA ((HKT.o.trans HBK.o).trans HK8.o)⟩
    case measure=>simp[intOf];omega
  ·obtain rfl:i=ps.length:=by omega
   have hE:=HE.o;rw[zhe (Nat.le_refl _)]at hE;injection hE with hE;subst hE;go_wp2;go_end0
   exact⟨rfl,⟨HW.o,HF.o,H16.o⟩,HBW.o,HKT.o⟩
end Go.Proofs.YtcmhaemaophplaaGreat
