/- Part of the proofs over this program: Ref8D, Ref7S, Ref7O, Ref7T, Ref8O, BldD, BldE, BldF, BldH, BldJ, BldK, BldP, BldX, Work9. -/
import Derived.Test.YtjjbaehamplnaaaGreatMF
set_option linter.all false
namespace Go
def D6:=@Go.run_build
end Go
set_option maxRecDepth 100000
set_option maxHeartbeats 40000000
variable {A:Option Go.Addr} {B N N' base base' g i k n:Nat} {cs:Array Go.Value} {ds:List Go.Proofs.YtjjbaehamplnaaaGreat.Y.Dcl} {ns ns':List (List Int)} {rs:List Go.Proofs.YtjjbaehamplnaaaGreat.Gm.Rl} {ts ts':List Go.Proofs.YtjjbaehamplnaaaGreat.Gm.Tm} {v v' vN vR vT:Go.Value} {w w':Go.World} {x:Go.Proofs.YtjjbaehamplnaaaGreat.Tok} {xs:List Go.Value} {z:Int} {zs:List Int}
namespace Go.Proofs.YtjjbaehamplnaaaGreat
open Go.RowKit
theorem Y.decls_more:∀(f:Nat) (acc:List Y.Dcl) (ts:List Tok) (ds:List Y.Dcl) (r:List Tok),Y.decls f acc ts=.ok ds r->∃ms,ds=acc++ms
 | 0,acc,ts,ds,r,h=>by injection h with h1 h2;exact⟨[],by rw[<-h1,Co]⟩
 | f+1,acc,ts,ds,r,h=>by
  rw[Y.decls]at h;split at h
  ·injection h with h1 h2;exact⟨[],by rw[<-h1,Co]⟩
  ·obtain⟨d,m,h1,h2⟩:=Y.bind_eq_ok h;obtain⟨ms,e⟩:=Y.decls_more f _ _ _ _ h2;exact⟨d::ms,by rw[e];simp⟩
theorem bI.alloc5 {L:List Int} (h:bI L w base v ds) (o:Obj):bI L (w.alloc o) base v ds:=h.grown (aG (AI _ _) o) (zj5.none _ _)
theorem zmH (L:List Int) (B R px py:Nat) (f:Nat) (ts:List Tok) (ds:List Y.Dcl) (r:List Tok) (w:World) (hr:Rd8 L B R px py w ts) (hy:Y.decls f [] ts=.ok ds r) (hf:ts.length<f) (bj:zlq ds) :
  Calls Tryz.prog 124 #[.pointer (some ⟨R,0,none⟩)] w fun e w'=>w.grownBy w' (some R)/\∃v,e=.returned v/\bI L w' w.heap.size v ds/\Rd8 L B R px py w' r:=by
 have HR:=aA hr;have ac:=hr.lt;have HY:=aA hy;have HF:=aA hf;have bk:=aA bj;have b4:=hr.len;have SC:=fun a w m X Y=>show(store a (.complex .f64 X Y) m).run Tryz.prog w=stored Tryz.prog w a (.complex .f64 X Y) m from run_store _ w a _ m rfl;have BDD:=fun A (n c:Nat) k w=>(D6 w 209 _ _ (by kernel_rfl):(Instr.build 209 #[(0,.int .i64 k),(1,.slice A n c)]).run Tryz.prog w=.ok (.agg #[.int .i64 k,.slice A n c]) w)
 clear hr hy hf bj
 go_enter Tryz.func124,Tryz.ntmps124
 go_wp2;go_loopw [3] (fun v wr=>∃(acc:List Y.Dcl) (rest:List Tok) (f:Nat),Hid (Y.decls f acc rest=.ok ds r)/\rest.length<f/\bI L wr w.heap.size v acc/\Rd8 L B R px py wr rest/\w.grownBy wr (some R)/\acc.length+rest.length<=ts.length) (fun v _=>4001-zdl v)
 case atStart=>exact⟨[],ts,f,HY,HF.o,bI.nil _ _ _,HR.o,AI _ _,by simp⟩
 case round =>
  clear HR HY HF;obtain⟨acc,rest,f,HY,hf,ho,hr,hg,hl⟩:=hrel;have HO:=aA ho;have HR:=aA hr;have HG:=aA hg;obtain⟨Aa,ca,rfl,_,_⟩:=ho.form;obtain⟨f,rfl⟩:∃f',f=f'+1:=⟨f-1,by omega⟩
  obtain⟨Ax,cx,b5,b6,_⟩:=hr.cell0;have ar:=aA (fun(x:World) (h:Rd8 L B R px py x rest)=>zkK L B R px py rest x h);have hY:=HY.o;rw[Y.decls]at hY;rcases rest with _|⟨t,m1⟩
  ·exfalso
   rw[AB (by simp[Y.is])]at hY;obtain⟨d,m,h1,_⟩:=Y.bind_eq_ok hY;unfold Y.decl at h1;obtain⟨t,m,h2,_⟩:=Y.bind_eq_ok h1;cases h2
  have bD:Hid (kd (t::m1)=t.k):=aA rfl;rw[bD.o]at ar;have bM:0<((t::m1).length:Int):=by simp
  by_cases h9:t.k=9
  ·have au:Hid (acc=ds/\t::m1=r):=aA (by
    rw[Ap (by show [(9:Int)].contains t.k=true;rw[h9];rfl)]at hY;injection hY with h1 h2;exact⟨h1,h2⟩)
   rw[h9]at ar;clear hY h9 ho hr hg;generalize (t::m1).length=n at *;go_wp2_with fail
   refine(ar.o _ HR.o).mono ?_;rintro _ _ ⟨rfl,rfl⟩;go_wp2;go_ret
   exact⟨HG.o,_,rfl,by rw[<-au.o.1];exact HO.o,by rw[<-au.o.2];exact HR.o⟩
  ·rw[AB (by show ¬ [(9:Int)].contains t.k=true;simpa using fun e=>h9 e)]at hY;obtain⟨d,m2,hd,hY⟩:=Y.bind_eq_ok hY
   have av:d.k=4\/d.k=5:=by
    obtain⟨ms,e⟩:=Y.decls_more _ _ _ _ _ hY;exact bk.o d (by rw[e];simp)
   unfold Y.decl at hd;obtain⟨t',m',h1,hd⟩:=Y.bind_eq_ok hd;obtain⟨e1,hk⟩:=Y.take_ok h1;injection e1 with e1 e2;subst e1 e2;by_cases h7:t.k=7
   ·rw[Ap h7]at hd;obtain⟨n,m,_,hd⟩:=Y.bind_eq_ok hd;injection hd with hd _;rw[<-hd]at av;simp at av
   rw[AB h7]at hd;obtain⟨n,m3,h2,hd⟩:=Y.bind_eq_ok hd;injection hd with hd bl;have bT:t.k=4\/t.k=5:=by rw[<-hd]at av;exact av
   have HD:=aA (BJ hd bl);have bm:Hid ((t::m1).length=m3.length+2):=aA (by rw[(Y.take_ok h2).1];simp);have bn:=aA (fun(x:World) (h:Rd8 L B R px py x (t::m1))=>zd9 L B R px py t m1 t.k t.k x h (by show [t.k,t.k].contains t.k=true;simp));have bo:=aA (fun(x:World) (h:Rd8 L B R px py x m1)=>zct L B R px py m1 1 2 x h n m3 h2);have bX:=aA hY;have b9:(t.k != 9)=true:=by simpa using h9
   have b7:(t.k==7)=false:=by simpa using h7
   have bZ:=aA bT;unfold bW at bn bo;clear hY hd bl h1 h2 hk av h9 h7 ho hr hg;generalize (t::m1).length=len at *;generalize bp:t.k=tk at *;have b8:=aA bp;clear bp;have a5:Hid ((Value.slice Aa acc.length ca).ownBlock=none\/(Value.slice Aa acc.length ca).ownBlock≠some R):=aA (by obtain⟨zs,a9⟩:=HO.o.own;exact zau a9 ac);have aw:Hid (acc.length+m3.length<=4000):=aA (by have:=bm.o;omega)
   have ap:Hid (Hid (Y.decls f (acc++[d]) (m3.dropWhile Y.isRef)=.ok ds r)/\(m3.dropWhile Y.isRef).length<f/\(acc++[d]).length+(m3.dropWhile Y.isRef).length<=ts.length):=aA (by
    have h1:(m3.dropWhile Y.isRef).length<=m3.length:=(List.dropWhile_sublist _).length_le;have h2:=bm.o;refine⟨by rw[HD.o.2];exact bX,by omega,?_⟩;rw[AU,BQ]
    omega)
   have bq:Hid ((m3.takeWhile Y.isRef).length<=4000):=aA (by have h1:(m3.takeWhile Y.isRef).length<=m3.length:=(List.takeWhile_sublist _).length_le;have:=aw.o;omega);have br:Hid (n::m3.takeWhile Y.isRef=d.ns):=aA (by rw[<-HD.o.1]);have bs:Hid (∀(A:Option Addr) (c:Nat),zbc d A c=[.int .i64 tk,.slice A ((m3.takeWhile Y.isRef).length+1) c]):=aA (by intro A c;unfold zbc;rw[<-HD.o.1];simp only[Bt]);clear bk;rcases bZ.o with rfl|rfl
   all_goals
    go_wp2_with fail
    refine(ar.o _ HR.o).mono ?_;rintro _ _ ⟨rfl,rfl⟩;go_wp2_with fail
    refine(ar.o _ HR.o).mono ?_;rintro _ _ ⟨rfl,rfl⟩;go_wp2_with fail
    refine(bn.o _ HR.o).mono ?_;rintro _ w2 ⟨rfl,ba,bu⟩;have b0:=aA (HG.o.trans ba);have bv:=aA bu;have ax:=aA (HO.o.grown ba ⟨HR.o.other,a5.o⟩);clear ba bu;go_wp2_with fail
    refine(bo.o _ bv.o).mono ?_;rintro _ w3 ⟨rfl,bb,bw⟩;have b1:=aA (b0.o.trans bb);have bx:=aA bw;have ay:=aA (ax.o.grown bb ⟨bv.o.other,a5.o⟩);clear bb bw;go_upto_region 11 with fail
    obtain⟨w4,aq⟩:∃x,x=w3.alloc (.cells #[.string (K.str n.t),.complex .f64 (Fl.fl (Pl.pos (L.take n.o)).1) (Fl.fl (Pl.pos (L.take n.o)).2)] 153):=⟨_,rfl⟩
    rw[<-aq];have bc:Hid (w.grownBy w4 (some R)):=aA (by rw[aq];exact aG b1.o _);have z:Hid (Rd8 L B R px py w4 m3):=aA (by rw[aq];exact bx.o.alloc _);have ad:Hid (w4.heap[w3.heap.size]?=some (.cells #[.string (K.str n.t),.complex .f64 (Fl.fl (Pl.pos (L.take n.o)).1) (Fl.fl (Pl.pos (L.take n.o)).2)] 153 (0,0))):=aA (by rw[aq];exact Az w3 _);have az:Hid (bI L w4 w.heap.size (.slice Aa acc.length ca) acc):=aA (by rw[aq];exact ay.o.alloc5 _);have bz:w.heap.size<=w4.heap.size:=bc.o.size;have b3:w3.heap.size≠R:=by have:=bx.o.lt;omega
    clear aq ax ay;have CL0:=fun y:Calm.OnB w3.heap.size w4=>(show y.1.cell? ⟨w3.heap.size,0,none⟩=some (.string (K.str n.t)) by rw[Aw y.1 _ 0 _ _ _ (y.2.trans ad.o)];rfl)
    have CL1:=fun y:Calm.OnB w3.heap.size w4=>(show y.1.cell? ⟨w3.heap.size,1,none⟩=some (.complex .f64 (Fl.fl (Pl.pos (L.take n.o)).1) (Fl.fl (Pl.pos (L.take n.o)).2)) by rw[Aw y.1 _ 1 _ _ _ (y.2.trans ad.o)];rfl)
    have bd:w4.grownBy w4.drew (some R):=zad w4 _;have HM:=aA (fun(x:World) (h:w4.grownBy x (some R))=>h.block w3.heap.size (Ac.1 ad.o).1 (fun e=>by injection e with e;omega));have a6:=aA (fun(x:World) (h:Rd8 L B R px py x m3)=>zlK L B R px py m3 x h);refine Calm.region_tree (fun x=>∃y:Calm.OnB w3.heap.size w4,x=y.1) (.two [0,1,2,4] 3 (.one [] 5 (.one [] 6 (.one [7] 8 (.one [] 9 (.fin [10]))))) 5 (.one [] 3 (.one [] 6 (.one [7] 8 (.one [] 9 (.fin [10])))))) (by kernel_rfl) (by kernel_rfl) (fun _ _ d _ _ h=>by cases d <;> exact h) ⟨⟨w4.drew,HM.o _ bd⟩,rfl⟩ ?_;simp only[Calm.wpT,Calm.wpSt,Calm.pickOps,Am,Af,Ah];repeat (go_big_quiet_step (fail))
    refine Aj ?_;clear CL0 CL1
   focus
    refine⟨?_,?_⟩
    focus
     intro KK b;rw[Ap (by rfl)];go_wp2_with fail
     obtain⟨w5,Z⟩:∃x,x=(w4.alloc (.cells #[.string (K.str n.t),.complex .f64 (Fl.fl (Pl.pos (L.take n.o)).1) (Fl.fl (Pl.pos (L.take n.o)).2)] 153)).drew:=⟨_,rfl⟩
     rw[<-Z];have i:w4.grownBy w5 .none:=by rw[Z];exact(aG (AI _ _) _).trans (zad _ _)
     have a0:bO L w5 w4.heap.size (.slice (some ⟨w4.heap.size,0,none⟩) 1 1) [n]:=by rw[Z];exact zc1 L w4 _ n (Ad _)
     have g:=z.o.row i;clear Z;refine b _ _ ⟨⟨w5,HM.o _ (i.row _)⟩,rfl⟩ _ (fun _ h=>h) ⟨⟨w5,HM.o _ (i.row _)⟩,rfl⟩ ?_;refine Aj ?_;intro KK b;try rw[Ap (by rfl)]
     go_wp2_with fail
     refine(a6.o _ g).mono ?_;rintro _ w6 ⟨ae,v6,rfl,E,F⟩;have l:Hid (w4.grownBy w6 (some R)):=aA ((i.row _).trans ae);have af:=a0.grown ae g.other;have H:=aA F;obtain⟨A6,c6,rfl,_,_,I⟩:=E.rd;have J:=aA (I.less i.size);clear i a0 g ae E F I;go_wp2_with fail
     refine b _ _ ⟨⟨w6,HM.o _ l.o⟩,rfl⟩ _ (fun _ h=>h) ⟨⟨w6,HM.o _ l.o⟩,rfl⟩ ?_;have SV:Hid ((Value.slice (some ⟨w4.heap.size,0,none⟩) 1 1:Value)=.slice (some ⟨w4.heap.size,0,none⟩) 1 1):=aA rfl
    rotate_left
    focus
     intro KK b;rw[Ap (by rfl)];go_wp2_with fail
     refine(a6.o _ z.o.drew).mono ?_;rintro _ w5 ⟨M,v5,rfl,E,g⟩;have i:w4.grownBy w5 (some R):=bd.trans M;obtain⟨A6,c6,rfl,_,_,N⟩:=E.rd;go_wp2_with fail
     refine b _ _ ⟨⟨w5,HM.o _ i⟩,rfl⟩ _ (fun _ h=>h) ⟨⟨w5,HM.o _ i⟩,rfl⟩ ?_;refine Aj ?_;intro KK b;try rw[Ap (by rfl)]
     go_wp2_with fail
     obtain⟨w6,C⟩:∃x,x=w5.alloc (.cells #[.string (K.str n.t),.complex .f64 (Fl.fl (Pl.pos (L.take n.o)).1) (Fl.fl (Pl.pos (L.take n.o)).2)] 153):=⟨_,rfl⟩
     rw[<-C];have l:Hid (w4.grownBy w6 (some R)):=aA (by rw[C];exact aG i _);have af:bO L w6 w4.heap.size (.slice (some ⟨w5.heap.size,0,none⟩) 1 1) [n]:=by rw[C];exact zc1 L w5 _ n i.size
     have H:Hid (Rd8 L B R px py w6 (m3.dropWhile Y.isRef)):=aA (by rw[C];exact g.alloc _);have J:Hid (RdR L w6 w4.heap.size A6 (m3.takeWhile Y.isRef)):=aA (by rw[C];exact(N.less (Ad _)).grown (aG (AI _ _) _) (a8.none _));clear C i M E N g;refine b _ _ ⟨⟨w6,HM.o _ l.o⟩,rfl⟩ _ (fun _ h=>h) ⟨⟨w6,HM.o _ l.o⟩,rfl⟩ ?_
    all_goals
     refine Aj ?_;intro KK b;try rw[Ap (by rfl)]
     have ag:=aA af;clear af;refine zib (.tmp 65) (.tmp 67) _ rfl Tryz.underlying159 L w4.heap.size w4.heap.size _ [n] rfl ag.o A6 _ c6 _ rfl rfl J.o (by have:=bq.o;rw[BQ];omega) (by have:=l.o.size;omega) ?_;intro v7 w7 a1 ah;have p:w4.grownBy w7 (some R):=zaA l.o ag.o ah;have O:=H.o.own ag.o ah (by omega);have U:=az.o.grown p ⟨z.o.other,a5.o⟩;obtain⟨A7,c7,a2,_,_,s⟩:=a1.rd;rw[show([n]++m3.takeWhile Y.isRef).length=(m3.takeWhile Y.isRef).length+1 by rw[AU,BQ];omega]at a2;subst a2;have bf:=aA s;have ai:=aA O;have aa:=aA p;have V:=aA U;have aj:Hid (RdR L w7 w.heap.size A7 d.ns):=aA (by rw[<-br.o];exact s.less bz);clear a1 ah p s O U;go_wp2_with fail
     refine b _ _ ⟨⟨w7,HM.o _ aa.o⟩,rfl⟩ _ (fun _ h=>h) ⟨⟨w7,HM.o _ aa.o⟩,rfl⟩ ?_;repeat (go_big_quiet_step (fail))
     refine Aj ?_;intro KK b;try rw[Ap (by rfl)]
     go_wp2_with fail
     have D:=aA (aG aa.o (.cells #[.int .i64 4,.slice A7 ((m3.takeWhile Y.isRef).length+1) c7] 209));have bg:=aA (fun j u (hj:(zbc d A7 c7)[j]?=some u)=>(zah w7 [.int .i64 4,.slice A7 ((m3.takeWhile Y.isRef).length+1) c7] 209 j).trans (bs.o A7 c7▸hj));refine b _ _ ⟨⟨_,HM.o _ D.o⟩,rfl⟩ _ (fun _ h=>h) ⟨⟨_,HM.o _ D.o⟩,rfl⟩ ?_;refine Aj ?_;intro KK b;try rw[Ap (by rfl)]
     refine zj1 (.tmp 62) (.tmp 70) _ rfl Tryz.underlying111 L w.heap.size (.slice Aa acc.length ca) acc rfl (V.o.alloc5 _) w7.heap.size 1 d A7 c7 rfl bg.o (aj.o.grown (aG (AI _ _) _) (a8.none _)) (by have:=aw.o;omega) (by have:=aa.o.size;simp;omega) ?_;intro v9 w9 ak ab;obtain⟨z9,al⟩:=(V.o.alloc5 (.cells #[.int .i64 4,.slice A7 ((m3.takeWhile Y.isRef).length+1) c7] 209)).own;have bh:=aA (zaA (bc.o.trans D.o) al ab);have am:=aA (World.grownBy.block ab w3.heap.size (by have h1:=(Ac.1 ad.o).1;have h2:=D.o.size;omega) (by rcases aN al ((HM.o _ D.o).trans ad.o) (fun cur e=>by injection e with _ e;exact absurd e (by decide)) with q|q;rw[q];simp;exact fun e=>q e.symm));have a3:=aA (am.o.trans (HM.o _ D.o));have ao:=aA ((ai.o.alloc (.cells #[.int .i64 4,.slice A7 ((m3.takeWhile Y.isRef).length+1) c7] 209)).own al ab ac);obtain⟨A9,c9,a4,_,_⟩:=ak.form;rw[show(acc++[d]).length=acc.length+1 by simp]at a4;subst a4;have bi:=aA ak;clear ak ab;go_wp2_with fail
     refine b _ _ ⟨⟨w9,a3.o⟩,rfl⟩ _ (fun _ h=>h) ⟨⟨w9,a3.o⟩,rfl⟩ ?_;repeat (go_big_quiet_step (fail))
     refine Aj ?_;go_wp2_with fail
     go_roundw
     case rel=>exact⟨acc++[d],m3.dropWhile Y.isRef,f,ap.o.1,ap.o.2.1,bi.o,ao.o,bh.o,ap.o.2.2⟩
     case measure=>have:=aw.o;simp[zdl];omega
   focus
    refine⟨?_,?_⟩
    focus
     intro KK b;rw[Ap (by rfl)];go_wp2_with fail
     obtain⟨w5,Z⟩:∃x,x=(w4.alloc (.cells #[.string (K.str n.t),.complex .f64 (Fl.fl (Pl.pos (L.take n.o)).1) (Fl.fl (Pl.pos (L.take n.o)).2)] 153)).drew:=⟨_,rfl⟩
     rw[<-Z];have i:w4.grownBy w5 .none:=by rw[Z];exact(aG (AI _ _) _).trans (zad _ _)
     have a0:bO L w5 w4.heap.size (.slice (some ⟨w4.heap.size,0,none⟩) 1 1) [n]:=by rw[Z];exact zc1 L w4 _ n (Ad _)
     have g:=z.o.row i;clear Z;refine b _ _ ⟨⟨w5,HM.o _ (i.row _)⟩,rfl⟩ _ (fun _ h=>h) ⟨⟨w5,HM.o _ (i.row _)⟩,rfl⟩ ?_;refine Aj ?_;intro KK b;try rw[Ap (by rfl)]
     go_wp2_with fail
     refine(a6.o _ g).mono ?_;rintro _ w6 ⟨ae,v6,rfl,E,F⟩;have l:Hid (w4.grownBy w6 (some R)):=aA ((i.row _).trans ae);have af:=a0.grown ae g.other;have H:=aA F;obtain⟨A6,c6,rfl,_,_,I⟩:=E.rd;have J:=aA (I.less i.size);clear i a0 g ae E F I;go_wp2_with fail
     refine b _ _ ⟨⟨w6,HM.o _ l.o⟩,rfl⟩ _ (fun _ h=>h) ⟨⟨w6,HM.o _ l.o⟩,rfl⟩ ?_;have SV:Hid ((Value.slice (some ⟨w4.heap.size,0,none⟩) 1 1:Value)=.slice (some ⟨w4.heap.size,0,none⟩) 1 1):=aA rfl
    rotate_left
    focus
     intro KK b;rw[Ap (by rfl)];go_wp2_with fail
     refine(a6.o _ z.o.drew).mono ?_;rintro _ w5 ⟨M,v5,rfl,E,g⟩;have i:w4.grownBy w5 (some R):=bd.trans M;obtain⟨A6,c6,rfl,_,_,N⟩:=E.rd;go_wp2_with fail
     refine b _ _ ⟨⟨w5,HM.o _ i⟩,rfl⟩ _ (fun _ h=>h) ⟨⟨w5,HM.o _ i⟩,rfl⟩ ?_;refine Aj ?_;intro KK b;try rw[Ap (by rfl)]
     go_wp2_with fail
     obtain⟨w6,C⟩:∃x,x=w5.alloc (.cells #[.string (K.str n.t),.complex .f64 (Fl.fl (Pl.pos (L.take n.o)).1) (Fl.fl (Pl.pos (L.take n.o)).2)] 153):=⟨_,rfl⟩
     rw[<-C];have l:Hid (w4.grownBy w6 (some R)):=aA (by rw[C];exact aG i _);have af:bO L w6 w4.heap.size (.slice (some ⟨w5.heap.size,0,none⟩) 1 1) [n]:=by rw[C];exact zc1 L w5 _ n i.size
     have H:Hid (Rd8 L B R px py w6 (m3.dropWhile Y.isRef)):=aA (by rw[C];exact g.alloc _);have J:Hid (RdR L w6 w4.heap.size A6 (m3.takeWhile Y.isRef)):=aA (by rw[C];exact(N.less (Ad _)).grown (aG (AI _ _) _) (a8.none _));clear C i M E N g;refine b _ _ ⟨⟨w6,HM.o _ l.o⟩,rfl⟩ _ (fun _ h=>h) ⟨⟨w6,HM.o _ l.o⟩,rfl⟩ ?_
    all_goals
     refine Aj ?_;intro KK b;try rw[Ap (by rfl)]
     have ag:=aA af;clear af;refine zib (.tmp 65) (.tmp 67) _ rfl Tryz.underlying159 L w4.heap.size w4.heap.size _ [n] rfl ag.o A6 _ c6 _ rfl rfl J.o (by have:=bq.o;rw[BQ];omega) (by have:=l.o.size;omega) ?_;intro v7 w7 a1 ah;have p:w4.grownBy w7 (some R):=zaA l.o ag.o ah;have O:=H.o.own ag.o ah (by omega);have U:=az.o.grown p ⟨z.o.other,a5.o⟩;obtain⟨A7,c7,a2,_,_,s⟩:=a1.rd;rw[show([n]++m3.takeWhile Y.isRef).length=(m3.takeWhile Y.isRef).length+1 by rw[AU,BQ];omega]at a2;subst a2;have bf:=aA s;have ai:=aA O;have aa:=aA p;have V:=aA U;have aj:Hid (RdR L w7 w.heap.size A7 d.ns):=aA (by rw[<-br.o];exact s.less bz);clear a1 ah p s O U;go_wp2_with fail
     refine b _ _ ⟨⟨w7,HM.o _ aa.o⟩,rfl⟩ _ (fun _ h=>h) ⟨⟨w7,HM.o _ aa.o⟩,rfl⟩ ?_;repeat (go_big_quiet_step (fail))
     refine Aj ?_;intro KK b;try rw[Ap (by rfl)]
     go_wp2_with fail
     have D:=aA (aG aa.o (.cells #[.int .i64 5,.slice A7 ((m3.takeWhile Y.isRef).length+1) c7] 209));have bg:=aA (fun j u (hj:(zbc d A7 c7)[j]?=some u)=>(zah w7 [.int .i64 5,.slice A7 ((m3.takeWhile Y.isRef).length+1) c7] 209 j).trans (bs.o A7 c7▸hj));refine b _ _ ⟨⟨_,HM.o _ D.o⟩,rfl⟩ _ (fun _ h=>h) ⟨⟨_,HM.o _ D.o⟩,rfl⟩ ?_;refine Aj ?_;intro KK b;try rw[Ap (by rfl)]
     refine zj1 (.tmp 62) (.tmp 70) _ rfl Tryz.underlying111 L w.heap.size (.slice Aa acc.length ca) acc rfl (V.o.alloc5 _) w7.heap.size 1 d A7 c7 rfl bg.o (aj.o.grown (aG (AI _ _) _) (a8.none _)) (by have:=aw.o;omega) (by have:=aa.o.size;simp;omega) ?_;intro v9 w9 ak ab;obtain⟨z9,al⟩:=(V.o.alloc5 (.cells #[.int .i64 5,.slice A7 ((m3.takeWhile Y.isRef).length+1) c7] 209)).own;have bh:=aA (zaA (bc.o.trans D.o) al ab);have am:=aA (World.grownBy.block ab w3.heap.size (by have h1:=(Ac.1 ad.o).1;have h2:=D.o.size;omega) (by rcases aN al ((HM.o _ D.o).trans ad.o) (fun cur e=>by injection e with _ e;exact absurd e (by decide)) with q|q;rw[q];simp;exact fun e=>q e.symm));have a3:=aA (am.o.trans (HM.o _ D.o));have ao:=aA ((ai.o.alloc (.cells #[.int .i64 5,.slice A7 ((m3.takeWhile Y.isRef).length+1) c7] 209)).own al ab ac);obtain⟨A9,c9,a4,_,_⟩:=ak.form;rw[show(acc++[d]).length=acc.length+1 by simp]at a4;subst a4;have bi:=aA ak;clear ak ab;go_wp2_with fail
     refine b _ _ ⟨⟨w9,a3.o⟩,rfl⟩ _ (fun _ h=>h) ⟨⟨w9,a3.o⟩,rfl⟩ ?_;repeat (go_big_quiet_step (fail))
     refine Aj ?_;go_wp2_with fail
     go_roundw
     case rel=>exact⟨acc++[d],m3.dropWhile Y.isRef,f,ap.o.1,ap.o.2.1,bi.o,ao.o,bh.o,ap.o.2.2⟩
     case measure=>have:=aw.o;simp[zdl];omega
namespace T
theorem pre_two (l:List Int) (a b:Int) (hl:K.Bytes l) (ab:K.Bytes [a,b]) (h:pre l [a,b]=true):l.getD 0 0=a/\l.getD 1 0=b:=by
 have aa:=zb2 l _ h;rw[pre_take l [a,b],BH,str_list,str_list]at h;have h2:=K.bytes_inj (hl.take 2) ab h
 match l,aa with
 | x::y::r,_ =>
  simp at h2;exact⟨h2.1,h2.2⟩
theorem piece_blank (l:List Int) (h:l.getD 0 0=32\/l.getD 0 0=9\/l.getD 0 0=10\/l.getD 0 0=13):piece l=(0,1,0):=by
 unfold piece;simp only;rw[Ap h]
theorem piece_47 (l:List Int) (h:l.getD 0 0=47):piece l=comment l:=by
 unfold piece;simp only[h];rfl
theorem piece_60 (l:List Int) (h:l.getD 0 0=60):piece l=skip (line l) 1 [62]:=by
 unfold piece;simp only[h];rfl
theorem piece_123 (l:List Int) (h:l.getD 0 0=123):piece l=action l:=by
 unfold piece;simp only[h];rfl
theorem piece_37 (l:List Int) (h:l.getD 0 0=37):piece l=percent l:=by
 unfold piece;simp only[h];rfl
theorem piece_else (l:List Int) (hb:¬(l.getD 0 0=32\/l.getD 0 0=9\/l.getD 0 0=10\/l.getD 0 0=13)) (h1:pre l [47,42]=false) (h2:pre l [47,47]=false) (h3:pre l [37,123]=false) (h4:¬l.getD 0 0=60) (h5:¬l.getD 0 0=123) (he:(piece l).2.2=0):(piece l).1≠0:=by
 revert he
 unfold piece;simp only;rw[AB hb,AB h4,AB h5];split
 ·unfold comment;rw[h1,h2];simp
 split
 ·unfold percent;rw[h3];have hw:=wkind_bd (List.drop 1 (List.take (psize l) l));split
  ·simp
  split
  ·rename_i h;simp at h
  split
  ·simp
  ·rename_i hh;intro _;exact hh
 split
 ·unfold literal;split
  ·simp
  split
  ·simp
  split <;> simp
 split
 ·simp
 split
 ·simp
 split
 ·simp
 ·unfold name;split
  ·simp
  split <;> simp
end T
def zci (k:Nat) (x:T.P3):Value:=.tuple #[.int .i64 (if x.1=0 then((k+x.2.1:Nat):Int) else k),.bool (x.1==0)]
theorem zgK (w:World) (A:Option Addr) (c n k:Nat) (hk:k<=c):(Instr.sliceAt 72 (.slice A n c) none (some (.int .i64 k)) none).run Tryz.prog w=.ok (.slice A k c) w:=ziy w A c n k hk
theorem zaY {x:T.P3} {P:Int} (h:x.1=0) (hp:P=((k+x.2.1:Nat):Int)):zci k x=.tuple #[.int .i64 P,.bool true]:=by
 unfold zci;rw[Ap h,h,hp];rfl
theorem zeL {x:T.P3} (h:x.1≠0):zci k x=.tuple #[.int .i64 k,.bool false]:=by
 unfold zci;rw[AB h,show(x.1==0)=false by simpa using h]
theorem zb4 (k:Nat) (m:List Int) (f:Nat) (s:List Int) (P:Int) (hP:T.pastV m s (k+f)=P) (l:List Int) (hl:m.drop (k+f)=l.drop f) (he:(T.skip l f s).2.2=0):P=((k+(T.skip l f s).2.1:Nat):Int)/\(T.skip l f s).1=0:=by
 unfold T.pastV at hP;rw[hl]at hP;unfold T.skip at he ⊢;by_cases h:T.ix (l.drop f) s<0
 ·rw[Ap h]at he;simp at he
 ·rw[AB h]at he ⊢;rw[AB h]at hP;refine⟨?_,rfl⟩;simp only;omega
theorem zgT (A:Option Addr) (c B:Nat) (L:List Int) (k:Nat) (w:World) (hr:RdB w B A L) (hl:K.Bytes L) (hc:L.length<=c) (hn:L.length<=5000) (hk:k<L.length) (he:(T.piece (L.drop k)).2.2=0) :
  Calls Tryz.prog 121 #[.slice A L.length c,.int .i64 k] w fun e w'=>e=.returned (zci k (T.piece (L.drop k)))/\w=w':=by
 obtain⟨g,o,rfl,_,ae⟩:=hr (by omega);have af:=ae k hk;have hz:(L.drop k).getD 0 0=L.getD k 0:=by rw[Go.Proofs.YtjjbaehamplnaaaGreat.L.cons_drop L k hk];rfl
 have H1:=aA (zaT _ c B L [47,42] k w hr hl hc hn (by omega) (by decide));have H2:=aA (zaT _ c B L [47,47] k w hr hl hc hn (by omega) (by decide));have H3:=aA (zaT _ c B L [37,123] k w hr hl hc hn (by omega) (by decide));rw[show K.str [47,42]=⟨#[47,42]⟩ from rfl]at H1;rw[show K.str [47,47]=⟨#[47,47]⟩ from rfl]at H2;rw[show K.str [37,123]=⟨#[37,123]⟩ from rfl]at H3;have r:=aA (T.piece_blank (L.drop k));have s:=aA (T.piece_else (L.drop k));rw[hz]at r s;have HR:=aA hr;have HL:=aA hl;have HE:=aA he;have HZ:=aA hz;have i:=hl.drop k;clear ae hr hl he hz;by_cases hb:L.getD k 0=32\/L.getD k 0=9\/L.getD k 0=10\/L.getD k 0=13
 ·have hp:=r.o hb;rw[hp];unfold zci;clear H1 H2 H3 r s hp HE i;generalize L.getD k 0=z at *;rcases hb with rfl|rfl|rfl|rfl
  all_goals
   go_enter Tryz.func121,Tryz.ntmps121
   go_wp2
   go_ret2
   exact⟨rfl,rfl⟩
 ·have n1:(L.getD k 0==32)=false:=by simpa using fun e=>hb (.inl e)
  have n2:(L.getD k 0==9)=false:=by simpa using fun e=>hb (.inr (.inl e))
  have n3:(L.getD k 0==10)=false:=by simpa using fun e=>hb (.inr (.inr (.inl e)))
  have n4:(L.getD k 0==13)=false:=by simpa using fun e=>hb (.inr (.inr (.inr e)))
  rcases j:T.pre (L.drop k) [47,42] with _|_
  ·rw[j]at H1;rcases l:T.pre (L.drop k) [47,47] with _|_
   ·rw[l]at H2;rcases p:T.pre (L.drop k) [37,123] with _|_
    ·rw[p]at H3;by_cases t:L.getD k 0=60
     ·have f:(L.drop k).getD 0 0=60:=HZ.o.trans t;have b:T.piece (L.drop k)=T.skip (T.line (L.drop k)) 1 [62]:=T.piece_60 _ f;have ag:=T.line_le (L.drop k);rw[Bl]at ag
      have ah:T.line (L.drop k)=(L.drop k).take (T.line (L.drop k)).length:=by
       unfold T.line;have hx:=T.ix_room (L.drop k) [10];split
       ·rw[Bc,DB (by have:=hx (by assumption);omega)]
       ·rw[Bo]
      have ai:(L.take (k+(T.line (L.drop k)).length)).drop (k+1)=(T.line (L.drop k)).drop 1:=by
       have e:∀ll,(L.take (k+ll)).drop (k+1)=((L.drop k).take ll).drop 1:=fun ll=>by
        rw[List.drop_take,List.drop_take,Dx]
        congr 1
        omega
       exact(e _).trans (congrArg (List.drop 1) ah.symm)
      have hq:=zb4 k (L.take (k+(T.line (L.drop k)).length)) 1 [62] _ rfl (T.line (L.drop k)) ai (by rw[<-b];exact HE.o);have hv:=zaY (k:=k) hq.2 hq.1;rw[<-b]at hv;rw[hv];have aj:=aA (zdr _ c B L k w HR.o HL.o hn (by omega));have ad:(L.take (k+(T.line (L.drop k)).length)).length=k+(T.line (L.drop k)).length:=by rw[Bc];omega
      have HP:=aA (zbW _ c B (L.take (k+(T.line (L.drop k)).length)) [62] (k+1) w (HR.o.take _) (HL.o.take _) (by rw[ad];omega) (by rw[ad];omega) (by omega) (by decide) (by decide));rw[ad,show K.str [62]=⟨#[62]⟩ from rfl,show((k+1:Nat):Int)=(k:Int)+1 by omega]at HP;have S1:=fun w=>zgK w (some ⟨g,o,none⟩) c L.length (k+(T.line (L.drop k)).length) (by omega);have q60:(L.getD k 0==60)=true:=by rw[t];rfl
      generalize T.pastV (L.take (k+(T.line (L.drop k)).length)) [62] (k+1)=P at *;generalize k+(T.line (L.drop k)).length=m at *;clear hb r s i b hq HE f hv ag ah ai ad j l p t HZ;generalize L.getD k 0=z at *
      go_enter Tryz.func121,Tryz.ntmps121
      go_wp2_with fail
      refine H1.o.mono ?_;rintro _ w' ⟨rfl,rfl⟩;go_wp2_with fail
      refine H2.o.mono ?_;rintro _ w' ⟨rfl,rfl⟩;go_wp2_with fail
      refine H3.o.mono ?_;rintro _ w' ⟨rfl,rfl⟩;go_wp2_with fail
      refine aj.o.mono ?_;rintro _ w' ⟨rfl,rfl⟩;go_wp2_with fail
      refine HP.o.mono ?_;rintro _ w' ⟨rfl,rfl⟩;go_wp2
      go_ret2
      exact⟨rfl,rfl⟩
     ·have q60:(L.getD k 0==60)=false:=by simpa using t
      by_cases d:L.getD k 0=123
      ·have f:(L.drop k).getD 0 0=123:=HZ.o.trans d;have b:T.piece (L.drop k)=T.action (L.drop k):=T.piece_123 _ f;rcases aa:T.act ((L.drop k).length+1) (L.drop k) 0 with _|n
       ·exfalso
        have:=HE.o
        rw[b]at this;unfold T.action at this;rw[aa]at this;simp at this
       ·have ab:T.piece (L.drop k)=(0,n,0):=by rw[b];unfold T.action;rw[aa]
        have hv:zci k (T.piece (L.drop k))=.tuple #[.int .i64 ((k+n:Nat):Int),.bool true]:=zaY (by rw[ab]) (by rw[ab]);rw[hv];have HP:=aA (zeg _ c B L k n _ w HR.o hn hk d aa);have q123:(L.getD k 0==123)=true:=by rw[d];rfl
        generalize k+n=P at *;clear hb r s i b ab aa HE f hv j l p t d HZ;generalize L.getD k 0=z at *
        go_enter Tryz.func121,Tryz.ntmps121
        go_wp2_with fail
        refine H1.o.mono ?_;rintro _ w' ⟨rfl,rfl⟩;go_wp2_with fail
        refine H2.o.mono ?_;rintro _ w' ⟨rfl,rfl⟩;go_wp2_with fail
        refine H3.o.mono ?_;rintro _ w' ⟨rfl,rfl⟩;go_wp2_with fail
        refine HP.o.mono ?_;rintro _ w' ⟨rfl,rfl⟩;go_wp2
        go_ret2
        exact⟨rfl,rfl⟩
      ·have q123:(L.getD k 0==123)=false:=by simpa using d
       have hv:=zeL (k:=k) (s.o hb j l p t d HE.o);rw[hv];clear hb r s i HE hv j l p t d HZ;generalize L.getD k 0=z at *
       go_enter Tryz.func121,Tryz.ntmps121
       go_wp2_with fail
       refine H1.o.mono ?_;rintro _ w' ⟨rfl,rfl⟩;go_wp2_with fail
       refine H2.o.mono ?_;rintro _ w' ⟨rfl,rfl⟩;go_wp2_with fail
       refine H3.o.mono ?_;rintro _ w' ⟨rfl,rfl⟩;go_wp2
       go_ret2
       exact⟨rfl,rfl⟩
    ·rw[p]at H3
     have ac:T.pre (L.drop k) [37,37]=false:=by
      rcases hh:T.pre (L.drop k) [37,37] with _|_
      ·rfl
      ·have e1:=(T.pre_two _ _ _ i (by intro x hx;simp at hx;omega) hh).2;have e2:=(T.pre_two _ _ _ i (by intro x hx;simp at hx;omega) p).2;omega
     have f:=(T.pre_two _ _ _ i (by intro x hx;simp at hx;omega) p).1;have b:T.piece (L.drop k)=T.skip (L.drop k) 2 [37,125]:=by rw[T.piece_37 _ f];unfold T.percent;rw[AB (by rw[ac];simp),Ap p]
     have hq:=zb4 k L 2 [37,125] _ rfl (L.drop k) (by rw[Dx]) (by rw[<-b];exact HE.o);have hv:=zaY (k:=k) hq.2 hq.1;rw[<-b]at hv;rw[hv];have HP:=aA (zbW _ c B L [37,125] (k+2) w HR.o HL.o hc hn (by omega) (by decide) (by decide));rw[show K.str [37,125]=⟨#[37,125]⟩ from rfl,show((k+2:Nat):Int)=(k:Int)+2 by omega]at HP;clear hb r s i b hq HE f hv j l p ac HZ;generalize T.pastV L [37,125] (k+2)=P at *;generalize L.getD k 0=z at *
     go_enter Tryz.func121,Tryz.ntmps121
     go_wp2_with fail
     refine H1.o.mono ?_;rintro _ w' ⟨rfl,rfl⟩;go_wp2_with fail
     refine H2.o.mono ?_;rintro _ w' ⟨rfl,rfl⟩;go_wp2_with fail
     refine H3.o.mono ?_;rintro _ w' ⟨rfl,rfl⟩;go_wp2_with fail
     refine HP.o.mono ?_;rintro _ w' ⟨rfl,rfl⟩;go_wp2
     go_ret2
     exact⟨rfl,rfl⟩
   ·rw[l]at H2;have f:=(T.pre_two _ _ _ i (by intro x hx;simp at hx;omega) l).1;have b:T.piece (L.drop k)=(0,(T.line (L.drop k)).length,0):=by rw[T.piece_47 _ f];unfold T.comment;rw[AB (by rw[j];simp),Ap l]
    have hv:zci k (T.piece (L.drop k))=.tuple #[.int .i64 ((k+(T.line (L.drop k)).length:Nat):Int),.bool true]:=zaY (by rw[b]) (by rw[b]);rw[hv];have HP:=aA (zdr _ c B L k w HR.o HL.o hn (by omega));generalize k+(T.line (L.drop k)).length=P at *;clear hb r s i b HE f hv j l HZ;generalize L.getD k 0=z at *
    go_enter Tryz.func121,Tryz.ntmps121
    go_wp2_with fail
    refine H1.o.mono ?_;rintro _ w' ⟨rfl,rfl⟩;go_wp2_with fail
    refine H2.o.mono ?_;rintro _ w' ⟨rfl,rfl⟩;go_wp2_with fail
    refine HP.o.mono ?_;rintro _ w' ⟨rfl,rfl⟩;go_wp2
    go_ret2
    exact⟨rfl,rfl⟩
  ·rw[j]at H1;have f:=(T.pre_two _ _ _ i (by intro x hx;simp at hx;omega) j).1;have b:T.piece (L.drop k)=T.skip (L.drop k) 2 [42,47]:=by rw[T.piece_47 _ f];unfold T.comment;rw[Ap j]
   have hq:=zb4 k L 2 [42,47] _ rfl (L.drop k) (by rw[Dx]) (by rw[<-b];exact HE.o);have hv:=zaY (k:=k) hq.2 hq.1;rw[<-b]at hv;rw[hv];have HP:=aA (zbW _ c B L [42,47] (k+2) w HR.o HL.o hc hn (by omega) (by decide) (by decide));rw[show K.str [42,47]=⟨#[42,47]⟩ from rfl,show((k+2:Nat):Int)=(k:Int)+2 by omega]at HP;clear hb r s i b hq HE f hv j HZ;generalize T.pastV L [42,47] (k+2)=P at *;generalize L.getD k 0=z at *
   go_enter Tryz.func121,Tryz.ntmps121
   go_wp2_with fail
   refine H1.o.mono ?_;rintro _ w' ⟨rfl,rfl⟩;go_wp2_with fail
   refine HP.o.mono ?_;rintro _ w' ⟨rfl,rfl⟩;go_wp2
   go_ret2
   exact⟨rfl,rfl⟩
theorem zgY (z:Int) (w:World):Calls Tryz.prog 169 #[.int .u8 z] w fun e w'=>e=.returned (.int .i64 (if z=58 then 10 else if z=124 then 11 else if z=59 then 12 else 0))/\w=w':=by
 by_cases h1:z=58
 ·subst h1
  go_enter Tryz.func169,Tryz.ntmps169
  go_wp2;go_ret
  exact⟨rfl,rfl⟩
 ·by_cases h2:z=124
  ·subst h2
   go_enter Tryz.func169,Tryz.ntmps169
   go_wp2;go_ret
   exact⟨rfl,rfl⟩
  ·by_cases h3:z=59
   ·subst h3
    go_enter Tryz.func169,Tryz.ntmps169
    go_wp2;go_ret
    exact⟨rfl,rfl⟩
   ·rw[AB h1,AB h2,AB h3];have q1:(z==58)=false:=by simpa using h1
    have q2:(z==124)=false:=by simpa using h2
    have q3:(z==59)=false:=by simpa using h3
    clear h1 h2 h3
    go_enter Tryz.func169,Tryz.ntmps169
    go_wp2;go_ret
    exact⟨rfl,rfl⟩
theorem zfG (l m:List Int) (hl:K.Bytes l) (hm:K.Bytes m):((K.str l).toList==(K.str m).toList)=decide (l=m):=by
 rw[T.str_list,T.str_list,Bn,BH,Ca];exact⟨fun h=>K.bytes_inj hl hm h,fun h=>by rw[h]⟩
theorem zdp (l:List Int) (hl:K.Bytes l) (w:World):Calls Tryz.prog 168 #[.string (K.str l)] w fun e w'=>e=.returned (.int .i64 (T.wkind l))/\w=w':=by
 have b1:=zfG l [116,111,107,101,110] hl (by intro x hx;simp at hx;omega);have b2:=zfG l [108,101,102,116] hl (by intro x hx;simp at hx;omega);have b3:=zfG l [114,105,103,104,116] hl (by intro x hx;simp at hx;omega);have b4:=zfG l [110,111,110,97,115,115,111,99] hl (by intro x hx;simp at hx;omega);have b5:=zfG l [115,116,97,114,116] hl (by intro x hx;simp at hx;omega);have b6:=zfG l [112,114,101,99] hl (by intro x hx;simp at hx;omega);rw[show(K.str [116,111,107,101,110]).toList=[116,111,107,101,110] by rw[CH];rfl]at b1;rw[show(K.str [108,101,102,116]).toList=[108,101,102,116] by rw[CH];rfl]at b2;rw[show(K.str [114,105,103,104,116]).toList=[114,105,103,104,116] by rw[CH];rfl]at b3;rw[show(K.str [110,111,110,97,115,115,111,99]).toList=[110,111,110,97,115,115,111,99] by rw[CH];rfl]at b4;rw[show(K.str [115,116,97,114,116]).toList=[115,116,97,114,116] by rw[CH];rfl]at b5;rw[show(K.str [112,114,101,99]).toList=[112,114,101,99] by rw[CH];rfl]at b6;unfold T.wkind;clear hl;generalize hs:K.str l=st at *;clear hs
 go_enter Tryz.func168,Tryz.ntmps168
 go_wp2;all_goals go_ret
 all_goals exact⟨rfl,rfl⟩
namespace T
theorem skip_kind (l:List Int) (f:Nat) (s:List Int):(skip l f s).1=0:=by unfold skip;split <;> rfl
theorem zmu (h:head z=true):(97<=z/\z<=122)\/(65<=z/\z<=90)\/z=95:=by
 unfold head small at h;simp only[CI,AQ,AV,BH]at h;omega
theorem piece_name (l:List Int) (h:head (l.getD 0 0)=true):piece l=name l:=by
 have hz:=zmu h;unfold piece;simp only;rw[AB (by omega),AB (by omega),AB (by omega),AB (by omega),AB (by omega),AB (by omega),AB (by omega),AB (by omega),AB (by omega)]
theorem piece_39 (l:List Int) (h:l.getD 0 0=39):piece l=literal l:=by
 unfold piece;simp only[h];rfl
theorem piece_sign (l:List Int) (h1:head (l.getD 0 0)=false) (h2:¬l.getD 0 0=39) (h3:¬l.getD 0 0=37) (he:(piece l).2.2=0) (hk:(piece l).1≠0):piece l=((if l.getD 0 0=58 then 10 else if l.getD 0 0=124 then 11 else if l.getD 0 0=59 then 12 else 0),1,0)/\(if l.getD 0 0=58 then(10:Int) else if l.getD 0 0=124 then 11 else if l.getD 0 0=59 then 12 else 0)≠0:=by
 have aa:nsize l=0:=by
  cases l with
  | nil=>rfl
  | cons z r=>rw[nsize_cons,AB];simpa using h1
 revert he hk
 unfold piece;simp only;split
 ·intro _ h;exact absurd rfl h
 split
 ·intro _ h;unfold comment at h;split at h
  ·exact absurd (skip_kind _ _ _) h
  split at h <;> exact absurd rfl h
 split
 ·intro _ h;exact absurd (skip_kind _ _ _) h
 split
 ·intro _ h;unfold action at h;split at h <;> exact absurd rfl h
 split
 ·exact fun _ _=>⟨rfl,by decide⟩
 split
 ·exact fun _ _=>⟨rfl,by decide⟩
 split
 ·exact fun _ _=>⟨rfl,by decide⟩
 ·intro h;unfold name at h;rw[Ap aa]at h;simp at h
end T
def zd0 (L:List Int) (k:Nat) (x:T.P3):Value:=.tuple #[.agg #[.int .i64 x.1,.string (K.str (aZ x.1 ((L.drop k).take x.2.1))),.complex .f64 (Fl.fl (Pl.pos (L.take k)).1) (Fl.fl (Pl.pos (L.take k)).2)],.int .i64 ((k+x.2.1:Nat):Int),.int .i64 0]
theorem ziZ (A:Option Addr) (c:Nat) (L:List Int) (k:Nat) (w:World) (hr:RdB w w.heap.size A L) (hl:K.Bytes L) (hc:L.length<=c) (hn:L.length<=2000) (hk:k<L.length) (he:(T.piece (L.drop k)).2.2=0) (hx:(T.piece (L.drop k)).1≠0) (h1:T.head (L.getD k 0)=false) (h2:¬L.getD k 0=39) (h3:¬L.getD k 0=37) :
  Calls Tryz.prog 123 #[.slice A L.length c,.int .i64 k] w fun e w'=>e=.returned (zd0 L k (T.piece (L.drop k)))/\Below w.heap.size w w':=by
 have hz:(L.drop k).getD 0 0=L.getD k 0:=by rw[Go.Proofs.YtjjbaehamplnaaaGreat.L.cons_drop L k hk];rfl
 obtain⟨g,o,rfl,ai,ac⟩:=hr (by omega);have ad:=ac k hk;have ae:=T.piece_sign (L.drop k) (by rw[hz];exact h1) (by rw[hz];exact h2) (by rw[hz];exact h3) he hx;rw[hz]at ae;obtain⟨af,ag⟩:=ae
 have aa:T.pre (L.drop k) [37,37]=false:=by
  rcases hh:T.pre (L.drop k) [37,37] with _|_
  ·rfl
  ·exact absurd ((T.pre_two _ _ _ (hl.drop k) (by intro x hx;simp at hx;omega) hh).1) (by rw[hz];exact h3)
 have ah:=aA (fun(w1:World) (h:Below w.heap.size w w1)=>zcA (some ⟨g,o,none⟩) c w.heap.size L k w1 (hr.below h (Ad _)) hn (by omega));have H1:=aA (fun(w1:World) (h:Below w.heap.size w w1)=>zaT (some ⟨g,o,none⟩) c w.heap.size L [37,37] k w1 (hr.below h (Ad _)) hl hc (by omega) (by omega) (by decide));rw[aa,show K.str [37,37]=⟨#[37,37]⟩ from rfl]at H1;have HF:=aA (zaB (L.getD k 0));rw[h1]at HF;have HM:=aA (zgY (L.getD k 0));have ab:=aA (fun o=>((Aq w.heap.size w).alloc (Ad _) o));have SC:=fun a w m X Y=>show(store a (.complex .f64 X Y) m).run Tryz.prog w=stored Tryz.prog w a (.complex .f64 X Y) m from run_store _ w a _ m rfl;have q39:(L.getD k 0==39)=false:=by simpa using h2
 have q37:(L.getD k 0==37)=false:=by simpa using h3
 rw[af];unfold zd0
 have ht:aZ (if L.getD k 0=58 then 10 else if L.getD k 0=124 then 11 else if L.getD k 0=59 then 12 else 0) ((L.drop k).take 1)=[]:=by
  unfold aZ;rw[AB];split
  ·omega
  split
  ·omega
  split <;> omega
 simp only;rw[ht,show K.str []=⟨#[]⟩ from rfl];have qk:((if L.getD k 0=58 then(10:Int) else if L.getD k 0=124 then 11 else if L.getD k 0=59 then 12 else 0)==0)=false:=by simpa using ag
 clear ht af ag aa ac hr hz h1 h2 h3 he hx;generalize (if L.getD k 0=58 then(10:Int) else if L.getD k 0=124 then 11 else if L.getD k 0=59 then 12 else 0)=xk at *;generalize L.getD k 0=z at *;generalize Fl.fl (Pl.pos (L.take k)).1=X at *;generalize Fl.fl (Pl.pos (L.take k)).2=Y at *
 go_enter Tryz.func123,Tryz.ntmps123
 go_wp2_with fail
 refine(ah.o _ (ab.o _)).mono ?_;rintro _ w' ⟨rfl,rfl⟩;go_wp2_with fail
 refine(HF.o _).mono ?_;rintro _ w' ⟨rfl,rfl⟩;go_wp2_with fail
 refine(H1.o _ ((ab.o _).alloc (by simp) _)).mono ?_;rintro _ w' ⟨rfl,rfl⟩;go_wp2_with fail
 refine(HM.o _).mono ?_;rintro _ w' ⟨rfl,rfl⟩;go_wp2;refine BM (v:=.tuple #[.agg #[.int .i64 xk,.string ⟨#[]⟩,.complex .f64 X Y],.int .i64 ((k:Int)+1),.int .i64 0]) (by simp[results,Tryz.results123,go_sem]) rfl ⟨by rw[Int.natCast_add];rfl,?_⟩;exact(ab.o _).alloc (by simp) _
theorem zi1 (A:Option Addr) (c:Nat) (L:List Int) (k:Nat) (w:World) (hr:RdB w w.heap.size A L) (hl:K.Bytes L) (hc:L.length<=c) (hn:L.length<=2000) (hk:k<L.length) (hp:T.pre (L.drop k) [37,37]=true) :
  Calls Tryz.prog 123 #[.slice A L.length c,.int .i64 k] w fun e w'=>e=.returned (zd0 L k (T.piece (L.drop k)))/\Below w.heap.size w w':=by
 have hz:(L.drop k).getD 0 0=L.getD k 0:=by rw[Go.Proofs.YtjjbaehamplnaaaGreat.L.cons_drop L k hk];rfl
 have ab:=(T.pre_two _ _ _ (hl.drop k) (by intro x hx;simp at hx;omega) hp).1;have ad:T.piece (L.drop k)=(9,2,0):=by rw[T.piece_37 _ ab];unfold T.percent;rw[Ap hp]
 rw[hz]at ab;obtain⟨g,o,rfl,ag,ae⟩:=hr (by omega);have aa:=ae k hk;rw[ab]at aa;have af:=aA (fun(w1:World) (h:Below w.heap.size w w1)=>zcA (some ⟨g,o,none⟩) c w.heap.size L k w1 (hr.below h (Ad _)) hn (by omega));have H1:=aA (fun(w1:World) (h:Below w.heap.size w w1)=>zaT (some ⟨g,o,none⟩) c w.heap.size L [37,37] k w1 (hr.below h (Ad _)) hl hc (by omega) (by omega) (by decide));rw[hp,show K.str [37,37]=⟨#[37,37]⟩ from rfl]at H1;have HF:=aA (zaB 37);rw[show T.head 37=false from rfl]at HF;have ac:=aA (fun o=>((Aq w.heap.size w).alloc (Ad _) o));have SC:=fun a w m X Y=>show(store a (.complex .f64 X Y) m).run Tryz.prog w=stored Tryz.prog w a (.complex .f64 X Y) m from run_store _ w a _ m rfl;rw[ad];unfold zd0;simp only;rw[show aZ 9 ((L.drop k).take 2)=[] from rfl,show K.str []=⟨#[]⟩ from rfl];clear ad hp ae hr hz ab;generalize Fl.fl (Pl.pos (L.take k)).1=X at *;generalize Fl.fl (Pl.pos (L.take k)).2=Y at *
 go_enter Tryz.func123,Tryz.ntmps123
 go_wp2_with fail
 refine(af.o _ (ac.o _)).mono ?_;rintro _ w' ⟨rfl,rfl⟩;go_wp2_with fail
 refine(HF.o _).mono ?_;rintro _ w' ⟨rfl,rfl⟩;go_wp2_with fail
 refine(H1.o _ ((ac.o _).alloc (by simp) _)).mono ?_;rintro _ w' ⟨rfl,rfl⟩;go_wp2;refine BM (v:=.tuple #[.agg #[.int .i64 9,.string ⟨#[]⟩,.complex .f64 X Y],.int .i64 ((k:Int)+2),.int .i64 0]) (by simp[results,Tryz.results123,go_sem]) rfl ⟨by rw[Int.natCast_add];rfl,?_⟩;exact(ac.o _).alloc (by simp) _
theorem ziY (A:Option Addr) (c:Nat) (L:List Int) (k:Nat) (w:World) (hr:RdB w w.heap.size A L) (hl:K.Bytes L) (hc:L.length<=c) (hn:L.length<=2000) (hk:k<L.length) (he:(T.piece (L.drop k)).2.2=0) (hx:(T.piece (L.drop k)).1≠0) (ag:L.getD k 0=37) (hp:T.pre (L.drop k) [37,37]=false) :
  Calls Tryz.prog 123 #[.slice A L.length c,.int .i64 k] w fun e w'=>e=.returned (zd0 L k (T.piece (L.drop k)))/\Below w.heap.size w w':=by
 have hz:(L.drop k).getD 0 0=L.getD k 0:=by rw[Go.Proofs.YtjjbaehamplnaaaGreat.L.cons_drop L k hk];rfl
 have ah:T.psize (L.drop k)=1+T.run T.small (L.drop (k+1)):=by unfold T.psize;rw[Dx]
 have ab:((L.drop k).take (T.psize (L.drop k))).drop 1=(L.drop (k+1)).take (T.run T.small (L.drop (k+1))):=by
  rw[ah,List.drop_take,Dx]
  congr 1
  omega
 have ae:T.piece (L.drop k)=(T.wkind ((L.drop (k+1)).take (T.run T.small (L.drop (k+1)))),1+T.run T.small (L.drop (k+1)),0)/\T.wkind ((L.drop (k+1)).take (T.run T.small (L.drop (k+1))))≠0:=by
  rw[T.piece_37 _ (hz.trans ag)]at he hx ⊢;unfold T.percent at he hx ⊢;rw[AB (by rw[hp];simp)]at he hx ⊢;by_cases h3:T.pre (L.drop k) [37,123]=true
  ·rw[Ap h3]at hx;exact absurd (T.skip_kind _ _ _) hx
  ·rw[AB h3]at he hx ⊢;rw[ab,ah]at he ⊢;by_cases h4:T.wkind ((L.drop (k+1)).take (T.run T.small (L.drop (k+1))))=0
   ·exfalso;simp[h4]at he
   ·exact⟨by simp[h4],h4⟩
 obtain⟨ae,ai⟩:=ae;obtain⟨g,o,rfl,ax,aj⟩:=hr (by omega);have aa:=aj k hk;rw[ag]at aa;have HC:=aA aj;have ap:=T.run_le T.small (L.drop (k+1));rw[Bl]at ap;have aq:=aA (fun(w1:World) (h:Below w.heap.size w w1)=>zcA (some ⟨g,o,none⟩) c w.heap.size L k w1 (hr.below h (Ad _)) hn (by omega));have H1:=aA (fun(w1:World) (h:Below w.heap.size w w1)=>zaT (some ⟨g,o,none⟩) c w.heap.size L [37,37] k w1 (hr.below h (Ad _)) hl hc (by omega) (by omega) (by decide));rw[hp,show K.str [37,37]=⟨#[37,37]⟩ from rfl]at H1;have HF:=aA (zaB 37);rw[show T.head 37=false from rfl]at HF;have f:=aA (fun(o1 o2:Obj)=>zbl ((((hr.alloc (Ad _) o1).alloc (by simp) o2).dropA hc (k+1)).take (T.run T.small (L.drop (k+1)))) ((hl.drop (k+1)).take _) (c-(k+1)));have HK:=aA (fun w=>zdp ((L.drop (k+1)).take (T.run T.small (L.drop (k+1)))) ((hl.drop _).take _) w);have HS:=aA (fun w=>za3 w (some ⟨g,o,none⟩) c L.length (k+1) (k+1+T.run T.small (L.drop (k+1))) (by omega) (by omega));rw[show k+1+T.run T.small (L.drop (k+1))-(k+1)=T.run T.small (L.drop (k+1)) by omega]at HS;have ac:((L.drop (k+1)).take (T.run T.small (L.drop (k+1)))).length=T.run T.small (L.drop (k+1)):=by rw[Bc,Bl];omega
 rw[ac]at f;have af:=aA (fun o=>((Aq w.heap.size w).alloc (Ad _) o));have SC:=fun a w m X Y=>show(store a (.complex .f64 X Y) m).run Tryz.prog w=stored Tryz.prog w a (.complex .f64 X Y) m from run_store _ w a _ m rfl;rw[ae];unfold zd0;have al:=T.wkind_bd ((L.drop (k+1)).take (T.run T.small (L.drop (k+1))))
 have ht:aZ (T.wkind ((L.drop (k+1)).take (T.run T.small (L.drop (k+1))))) ((L.drop k).take (1+T.run T.small (L.drop (k+1))))=[]:=by
  have:=al.2.2 ai
  unfold aZ;rw[AB (by omega)]
 simp only;rw[ht,show K.str []=⟨#[]⟩ from rfl];have qk:(T.wkind ((L.drop (k+1)).take (T.run T.small (L.drop (k+1))))==0)=false:=by simpa using ai
 have ar:=aA (T.run_next T.small L);have au:=aA (T.run_end T.small L);clear ae hp aj hr hz ag ht ai al ab ah ac he hx hl;generalize T.wkind ((L.drop (k+1)).take (T.run T.small (L.drop (k+1))))=xk at *;generalize K.str ((L.drop (k+1)).take (T.run T.small (L.drop (k+1))))=st at *;generalize ad:T.run T.small (L.drop (k+1))=rn at *;have ak:=aA ad;clear ad;generalize Fl.fl (Pl.pos (L.take k)).1=X at *;generalize Fl.fl (Pl.pos (L.take k)).2=Y at *
 go_enter Tryz.func123,Tryz.ntmps123
 go_wp2_with fail
 refine(aq.o _ (af.o _)).mono ?_;rintro _ w' ⟨rfl,rfl⟩;go_wp2_with fail
 refine(HF.o _).mono ?_;rintro _ w' ⟨rfl,rfl⟩;go_wp2_with fail
 refine(H1.o _ ((af.o _).alloc (by simp) _)).mono ?_;rintro _ w' ⟨rfl,rfl⟩;go_wp2_with fail
 go_loop [9] (fun vi=>∃(j:Nat),j<=L.length/\k+1<=j/\vi=.int .i64 j/\j+T.run T.small (L.drop j)=k+1+rn) (fun vi=>L.length-(intOf vi).toNat)
 case atStart=>exact⟨k+1,by omega,by omega,by go_num,by rw[ak.o]⟩
 case round =>
  obtain⟨j,hj,ay,rfl,hrel⟩:=hrel;have HV:=aA hrel;clear hrel;by_cases am:j<L.length
  ·have az:=HC.o j am;have d:=ar.o j am;by_cases hs:97<=L.getD j 0/\L.getD j 0<=122
   ·have i:T.small (L.getD j 0)=true:=by unfold T.small;simp;exact hs
    rw[i,Ap rfl]at d;have HN:=aA d;obtain⟨a0,a1⟩:=hs;clear i d aa;generalize L.getD j 0=z at *;go_wp2
    go_round
    case rel=>exact⟨j+1,by omega,by omega,by go_num,by have:=HV.o;have:=HN.o;omega⟩
    case measure=>simp[intOf];omega
   ·have i:T.small (L.getD j 0)=false:=by
     rcases hq:T.small (L.getD j 0) with _|_
     ·rfl
     ·exfalso;apply hs;unfold T.small at hq;simp at hq;exact hq
    rw[i]at d;have b:k+1+rn=j:=by have:=HV.o;rw[d]at this;simp at this;omega
    have S1:∀w,(Instr.sliceAt 72 (.slice (some ⟨g,o,none⟩) L.length c) (some (.int .i64 ((k:Int)+1))) (some (.int .i64 j)) none).run Tryz.prog w=.ok (.slice (dropA (some ⟨g,o,none⟩) c (k+1)) rn (c-(k+1))) w:=fun w=>by
     have h:=HS.o w;rw[b,show((k+1:Nat):Int)=(k:Int)+1 by omega]at h;exact h
    have C1:=f.o bR (.cells #[.int .i64 0,.string ⟨#[]⟩,.complex .f64 X Y] 198);unfold bR at C1;have HJ:=aA b;clear i d b aa HS f;generalize dropA (some ⟨g,o,none⟩) c (k+1)=D at *;generalize c-(k+1)=c2 at *;generalize L.getD j 0=z at *;by_cases av:97<=z
    focus
     have aw:¬z<=122:=fun h=>hs ⟨av,h⟩
    rotate_left
    all_goals
     clear hs;go_wp2_with fail
     refine(HK.o _).mono ?_;rintro _ w' ⟨rfl,rfl⟩;go_wp2;refine BM (v:=.tuple #[.agg #[.int .i64 xk,.string ⟨#[]⟩,.complex .f64 X Y],.int .i64 j,.int .i64 0]) (by simp[results,Tryz.results123,go_sem]) rfl ⟨by rw[<-HJ.o,show k+(1+rn)=k+1+rn by omega],?_⟩;exact(af.o _).alloc (by simp) _
  ·have ao:=au.o j (by omega);have b:k+1+rn=j:=by have:=HV.o;rw[ao]at this;omega
   have S1:∀w,(Instr.sliceAt 72 (.slice (some ⟨g,o,none⟩) L.length c) (some (.int .i64 ((k:Int)+1))) (some (.int .i64 j)) none).run Tryz.prog w=.ok (.slice (dropA (some ⟨g,o,none⟩) c (k+1)) rn (c-(k+1))) w:=fun w=>by
    have h:=HS.o w;rw[b,show((k+1:Nat):Int)=(k:Int)+1 by omega]at h;exact h
   have C1:=f.o bR (.cells #[.int .i64 0,.string ⟨#[]⟩,.complex .f64 X Y] 198);unfold bR at C1;have HJ:=aA b;clear ao b aa HS f;generalize dropA (some ⟨g,o,none⟩) c (k+1)=D at *;generalize c-(k+1)=c2 at *;go_wp2_with fail
   refine(HK.o _).mono ?_;rintro _ w' ⟨rfl,rfl⟩;go_wp2;refine BM (v:=.tuple #[.agg #[.int .i64 xk,.string ⟨#[]⟩,.complex .f64 X Y],.int .i64 j,.int .i64 0]) (by simp[results,Tryz.results123,go_sem]) rfl ⟨by rw[<-HJ.o,show k+(1+rn)=k+1+rn by omega],?_⟩;exact(af.o _).alloc (by simp) _
theorem zi0 (A:Option Addr) (c:Nat) (L:List Int) (k:Nat) (w:World) (hr:RdB w w.heap.size A L) (hl:K.Bytes L) (hc:L.length<=c) (hn:L.length<=2000) (hk:k<L.length) (he:(T.piece (L.drop k)).2.2=0) (hh:T.head (L.getD k 0)=true) :
  Calls Tryz.prog 123 #[.slice A L.length c,.int .i64 k] w fun e w'=>e=.returned (zd0 L k (T.piece (L.drop k)))/\Below w.heap.size w w':=by
 have hz:(L.drop k).getD 0 0=L.getD k 0:=by rw[Go.Proofs.YtjjbaehamplnaaaGreat.L.cons_drop L k hk];rfl
 have ai:T.nsize (L.drop k)=1+T.run T.inName (L.drop (k+1)):=by
  rw[Go.Proofs.YtjjbaehamplnaaaGreat.L.cons_drop L k hk,T.nsize_cons,Ap hh];omega
 have ad:T.piece (L.drop k)=(1,1+T.run T.inName (L.drop (k+1)),0)/\1+T.run T.inName (L.drop (k+1))<=20:=by
  rw[T.piece_name _ (by rw[hz];exact hh)]at he ⊢;unfold T.name at he ⊢;rw[ai]at he ⊢;rw[AB (by omega)]at he ⊢;by_cases h4:20<1+T.run T.inName (L.drop (k+1))
  ·exfalso;simp[h4]at he
  ·exact⟨by simp[h4],by omega⟩
 obtain⟨ad,av⟩:=ad;obtain⟨g,o,rfl,aw,ag⟩:=hr (by omega);have aa:=ag k hk;have HC:=aA ag;have al:=T.run_le T.inName (L.drop (k+1));rw[Bl]at al;have am:=aA (fun(w1:World) (h:Below w.heap.size w w1)=>zcA (some ⟨g,o,none⟩) c w.heap.size L k w1 (hr.below h (Ad _)) hn (by omega));have HF:=aA (zaB (L.getD k 0));rw[hh]at HF;have ao:=aA (fun j=>zdL (L.getD j 0));have n:=aA (fun(w1:World) (h:Below w.heap.size w w1)=>zbl (((hr.below h (Ad _)).dropA hc k).take (1+T.run T.inName (L.drop (k+1)))) ((hl.drop k).take _) (c-k));have HS:=aA (fun w=>za3 w (some ⟨g,o,none⟩) c L.length k (k+(1+T.run T.inName (L.drop (k+1)))) (by omega) (by omega));rw[show k+(1+T.run T.inName (L.drop (k+1)))-k=1+T.run T.inName (L.drop (k+1)) by omega]at HS;have ab:((L.drop k).take (1+T.run T.inName (L.drop (k+1)))).length=1+T.run T.inName (L.drop (k+1)):=by rw[Bc,Bl];omega
 rw[ab]at n;have p:=aA (fun o=>((Aq w.heap.size w).alloc (Ad _) o));have SC:=fun a w m X Y=>show(store a (.complex .f64 X Y) m).run Tryz.prog w=stored Tryz.prog w a (.complex .f64 X Y) m from run_store _ w a _ m rfl;rw[ad];unfold zd0;have ht:aZ 1 ((L.drop k).take (1+T.run T.inName (L.drop (k+1))))=(L.drop k).take (1+T.run T.inName (L.drop (k+1))):=by unfold aZ;rw[Ap (.inl rfl)]
 simp only;rw[ht];have ap:=aA (T.run_next T.inName L);have aq:=aA (T.run_end T.inName L);clear ad ag hr hz ht ai ab he hl hh;generalize K.str ((L.drop k).take (1+T.run T.inName (L.drop (k+1))))=st at *;generalize ac:T.run T.inName (L.drop (k+1))=rn at *;have ah:=aA ac;clear ac;generalize Fl.fl (Pl.pos (L.take k)).1=X at *;generalize Fl.fl (Pl.pos (L.take k)).2=Y at *;generalize ar:L.getD k 0=z at *;clear ar
 go_enter Tryz.func123,Tryz.ntmps123
 go_wp2_with fail
 refine(am.o _ (p.o _)).mono ?_;rintro _ w' ⟨rfl,rfl⟩;go_wp2_with fail
 refine(HF.o _).mono ?_;rintro _ w' ⟨rfl,rfl⟩;go_wp2_with fail
 go_loop [9] (fun vi=>∃(j:Nat),j<=L.length/\k+1<=j/\vi=.int .i64 j/\j+T.run T.inName (L.drop j)=k+1+rn) (fun vi=>L.length-(intOf vi).toNat)
 case atStart=>exact⟨k+1,by omega,by omega,by go_num,by rw[ah.o]⟩
 case round =>
  obtain⟨j,hj,ax,rfl,hrel⟩:=hrel;have HV:=aA hrel;clear hrel aa;by_cases aj:j<L.length
  ·have ay:=HC.o j aj;have l:=ap.o j aj;have ae:=aA (ao.o j);rcases r:T.inName (L.getD j 0) with _|_
   ·rw[r]at l ae;have af:k+(1+rn)=j:=by have:=HV.o;rw[l]at this;simp at this;omega
    have HJ:=aA af;clear r l;generalize L.getD j 0=z2 at *;go_wp2_with fail
    refine(ae.o _).mono ?_;rintro _ w' ⟨rfl,rfl⟩;have au:¬(j:Int)-(k:Int) > 20:=by have:=HJ.o;omega
    go_upto_region 10 with fail
    have f:Below w.heap.size w ((((w.alloc bR).alloc (.cells #[.int .i64 0,.string ⟨#[]⟩,.complex .f64 X Y] 198))).drew):=aB ((p.o bR).alloc (by simp) _) 1;unfold bR at f
    have S1:∀w,(Instr.sliceAt 72 (.slice (some ⟨g,o,none⟩) L.length c) (some (.int .i64 k)) (some (.int .i64 j)) none).run Tryz.prog w=.ok (.slice (dropA (some ⟨g,o,none⟩) c k) (1+rn) (c-k)) w:=fun w=>by
     have h:=HS.o w;rw[HJ.o]at h;exact h
    have CC:=fun y:Calm.On w.heap.size w=>n.o y.1 y.2;refine Calm.region_tree (fun x=>∃y:Calm.On w.heap.size w,x=y.1) (.one [0,1,2,3,4,5] 6 (.one [7] 8 (.fin []))) (by kernel_rfl) (by kernel_rfl) (fun _ _ d _ _ h=>by cases d <;> exact h) ⟨⟨_,f⟩,rfl⟩ ?_;simp only[Calm.wpT,Calm.wpSt,Calm.pickOps,Am,Af,Ah];repeat (go_big_quiet_step (fail))
    refine Aj ?_;clear CC n HS S1 f;have b:=aA (fun o1 o2=>aB ((p.o o1).alloc (by simp) o2) 1);intro KK i;try rw[Ap (by rfl)]
    go_wp2_with fail
    refine i _ _ ⟨⟨_,b.o _ _⟩,rfl⟩ _ (fun _ h=>h) ⟨⟨_,b.o _ _⟩,rfl⟩ ?_;repeat (go_big_quiet_step (fail))
    refine Aj ?_;intro KK i;try rw[Ap (by rfl)]
    go_wp2_with fail
    refine i _ _ ⟨⟨_,b.o _ _⟩,rfl⟩ _ (fun _ h=>h) ⟨⟨_,b.o _ _⟩,rfl⟩ ?_;refine Aj ?_;go_wp2;exact BM (v:=.tuple #[.agg #[.int .i64 1,.string st,.complex .f64 X Y],.int .i64 j,.int .i64 0]) (by simp[results,Tryz.results123,go_sem]) rfl ⟨by rw[HJ.o],b.o _ _⟩
   ·rw[r,Ap rfl]at l;rw[r]at ae;have HN:=aA l;clear r l;generalize L.getD j 0=z2 at *;go_wp2_with fail
    refine(ae.o _).mono ?_;rintro _ w' ⟨rfl,rfl⟩;go_wp2
    go_round
    case rel=>exact⟨j+1,by omega,by omega,by go_num,by have:=HV.o;have:=HN.o;omega⟩
    case measure=>simp[intOf];omega
  ·have ak:=aq.o j (by omega);have af:k+(1+rn)=j:=by have:=HV.o;rw[ak]at this;omega
   have HJ:=aA af;have au:¬(j:Int)-(k:Int) > 20:=by omega
   clear ak af;go_upto_region 10 with fail
   have f:Below w.heap.size w ((((w.alloc bR).alloc (.cells #[.int .i64 0,.string ⟨#[]⟩,.complex .f64 X Y] 198))).drew):=aB ((p.o bR).alloc (by simp) _) 1;unfold bR at f
   have S1:∀w,(Instr.sliceAt 72 (.slice (some ⟨g,o,none⟩) L.length c) (some (.int .i64 k)) (some (.int .i64 j)) none).run Tryz.prog w=.ok (.slice (dropA (some ⟨g,o,none⟩) c k) (1+rn) (c-k)) w:=fun w=>by
    have h:=HS.o w;rw[HJ.o]at h;exact h
   have CC:=fun y:Calm.On w.heap.size w=>n.o y.1 y.2;refine Calm.region_tree (fun x=>∃y:Calm.On w.heap.size w,x=y.1) (.one [0,1,2,3,4,5] 6 (.one [7] 8 (.fin []))) (by kernel_rfl) (by kernel_rfl) (fun _ _ d _ _ h=>by cases d <;> exact h) ⟨⟨_,f⟩,rfl⟩ ?_;simp only[Calm.wpT,Calm.wpSt,Calm.pickOps,Am,Af,Ah];repeat (go_big_quiet_step (fail))
   refine Aj ?_;clear CC n HS S1 f;have b:=aA (fun o1 o2=>aB ((p.o o1).alloc (by simp) o2) 1);intro KK i;try rw[Ap (by rfl)]
   go_wp2_with fail
   refine i _ _ ⟨⟨_,b.o _ _⟩,rfl⟩ _ (fun _ h=>h) ⟨⟨_,b.o _ _⟩,rfl⟩ ?_;repeat (go_big_quiet_step (fail))
   refine Aj ?_;intro KK i;try rw[Ap (by rfl)]
   go_wp2_with fail
   refine i _ _ ⟨⟨_,b.o _ _⟩,rfl⟩ _ (fun _ h=>h) ⟨⟨_,b.o _ _⟩,rfl⟩ ?_;refine Aj ?_;go_wp2;exact BM (v:=.tuple #[.agg #[.int .i64 1,.string st,.complex .f64 X Y],.int .i64 j,.int .i64 0]) (by simp[results,Tryz.results123,go_sem]) rfl ⟨by rw[HJ.o],b.o _ _⟩
theorem zkw (A:Option Addr) (c:Nat) (L:List Int) (k:Nat) (w:World) (hr:RdB w w.heap.size A L) (hl:K.Bytes L) (hc:L.length<=c) (hn:L.length<=2000) (hk:k<L.length) (he:(T.piece (L.drop k)).2.2=0) (ae:L.getD k 0=39) :
  Calls Tryz.prog 123 #[.slice A L.length c,.int .i64 k] w fun e w'=>e=.returned (zd0 L k (T.piece (L.drop k)))/\Below w.heap.size w w':=by
 have hz:(L.drop k).getD 0 0=L.getD k 0:=by rw[Go.Proofs.YtjjbaehamplnaaaGreat.L.cons_drop L k hk];rfl
 have ac:(T.isLit ((L.drop k).take 3)=true/\T.piece (L.drop k)=(2,3,0))\/(T.isLit ((L.drop k).take 3)=false/\T.isLit ((L.drop k).take 4)=true/\T.piece (L.drop k)=(2,4,0)):=by
  rw[T.piece_39 _ (hz.trans ae)]at he ⊢;unfold T.literal at he ⊢;rcases h3:T.isLit ((L.drop k).take 3) with _|_
  ·rcases h4:T.isLit ((L.drop k).take 4) with _|_
   ·exfalso
    rw[h3,h4]at he;simp only[Di,if_false]at he;split at he <;> simp at he
   ·right;refine⟨rfl,rfl,?_⟩;simp
  ·left;refine⟨rfl,?_⟩;simp
 obtain⟨g,o,rfl,ap,ai⟩:=hr (by omega);have aa:=ai k hk;rw[ae]at aa;have ak:=aA (fun(w1:World) (h:Below w.heap.size w w1)=>zcA (some ⟨g,o,none⟩) c w.heap.size L k w1 (hr.below h (Ad _)) hn (by omega));have HF:=aA (zaB 39);rw[show T.head 39=false from rfl]at HF;have af:=aA (fun n=>zcW ((L.drop k).take n) ((hl.drop k).take n))
 have l:=aA (fun(n:Nat) (al:k+n<=L.length) (w1:World) (h:Below w.heap.size w w1)=>(by
  have h1:=zbl (((hr.below h (Ad _)).dropA hc k).take n) ((hl.drop k).take _) (c-k);rw[show((L.drop k).take n).length=n by rw[Bc,Bl];omega]at h1;exact h1:(convert 72 9 (.slice (dropA (some ⟨g,o,none⟩) c k) n (c-k))).run Tryz.prog w1=.ok (.string (K.str ((L.drop k).take n))) w1))
 have HS:=aA (fun(n:Nat) (al:k+n<=L.length) (w1:World)=>(by
  have h1:=za3 w1 (some ⟨g,o,none⟩) c L.length k (k+n) (by omega) (by omega);rw[show k+n-k=n by omega,Int.natCast_add]at h1;exact h1:(Instr.sliceAt 72 (.slice (some ⟨g,o,none⟩) L.length c) (some (.int .i64 k)) (some (.int .i64 ((k:Int)+(n:Int)))) none).run Tryz.prog w1=.ok (.slice (dropA (some ⟨g,o,none⟩) c k) n (c-k)) w1))
 have i:=aA (fun o=>((Aq w.heap.size w).alloc (Ad _) o));have SC:=fun a w m X Y=>show(store a (.complex .f64 X Y) m).run Tryz.prog w=stored Tryz.prog w a (.complex .f64 X Y) m from run_store _ w a _ m rfl
 have ag:∀n,zd0 L k (2,n,0)=.tuple #[.agg #[.int .i64 2,.string (K.str ((L.drop k).take n)),.complex .f64 (Fl.fl (Pl.pos (L.take k)).1) (Fl.fl (Pl.pos (L.take k)).2)],.int .i64 ((k:Int)+n),.int .i64 0]:=fun n=>by
  unfold zd0 aZ;simp
 have ah:Hid ((T.isLit ((L.drop k).take 3)=true->zd0 L k (T.piece (L.drop k))=.tuple #[.agg #[.int .i64 2,.string (K.str ((L.drop k).take 3)),.complex .f64 (Fl.fl (Pl.pos (L.take k)).1) (Fl.fl (Pl.pos (L.take k)).2)],.int .i64 ((k:Int)+3),.int .i64 0])/\(T.isLit ((L.drop k).take 3)=false->T.isLit ((L.drop k).take 4)=true->zd0 L k (T.piece (L.drop k))=.tuple #[.agg #[.int .i64 2,.string (K.str ((L.drop k).take 4)),.complex .f64 (Fl.fl (Pl.pos (L.take k)).1) (Fl.fl (Pl.pos (L.take k)).2)],.int .i64 ((k:Int)+4),.int .i64 0])):=aA (by
  refine⟨fun h=>?_,fun h h'=>?_⟩
  ·rcases ac with⟨_,e⟩|⟨e1,_,_⟩
   ·rw[e];exact ag 3
   ·rw[h]at e1;cases e1
  ·rcases ac with⟨e1,_⟩|⟨_,_,e⟩
   ·rw[h]at e1;cases e1
   ·rw[e];exact ag 4)
 have ad:Hid (T.isLit ((L.drop k).take 3)=false->T.isLit ((L.drop k).take 4)=true):=aA (fun h=>by
  rcases ac with⟨e1,_⟩|⟨_,e,_⟩
  ·rw[h]at e1;cases e1
  ·exact e)
 clear ac ai hr hz he hl ae ag;generalize zd0 L k (T.piece (L.drop k))=V at *;generalize Fl.fl (Pl.pos (L.take k)).1=X at *;generalize Fl.fl (Pl.pos (L.take k)).2=Y at *
 go_enter Tryz.func123,Tryz.ntmps123
 go_wp2_with fail
 refine(ak.o _ (i.o _)).mono ?_;rintro _ w' ⟨rfl,rfl⟩;go_wp2_with fail
 refine(HF.o _).mono ?_;rintro _ w' ⟨rfl,rfl⟩;go_wp2_with fail
 go_loop [10] (fun vi=>∃(n:Nat),(n=3\/(n=4/\T.isLit ((L.drop k).take 3)=false))/\vi=.int .i64 n) (fun vi=>5-(intOf vi).toNat)
 case atStart=>exact⟨3,.inl rfl,rfl⟩
 case round =>
  clear aa;obtain⟨n,am,rfl⟩:=hrel;rcases am with rfl|⟨rfl,h3⟩
  ·rcases h3:T.isLit ((L.drop k).take 3) with _|_
   ·clear ah
    have ab:k+3<=L.length:=by
     have h1:=T.isLit_len (ad.o h3);rw[Bc,Bl]at h1;omega
    have C1:=l.o 3 ab (((w.alloc bR).alloc (.cells #[.int .i64 0,.string ⟨#[]⟩,.complex .f64 X Y] 198))) ((i.o bR).alloc (by simp) _);unfold bR at C1;have S1:∀w,(Instr.sliceAt 72 (.slice (some ⟨g,o,none⟩) L.length c) (some (.int .i64 k)) (some (.int .i64 ((k:Int)+3))) none).run Tryz.prog w=.ok (.slice (dropA (some ⟨g,o,none⟩) c k) 3 (c-k)) w:=HS.o 3 ab;have j:=aA (af.o 3);rw[h3]at j;have H3:=aA h3;have aj:¬(k:Int)+3 > (L.length:Int):=by omega
    clear h3;generalize ao:K.str ((L.drop k).take 3)=st at *;clear ao;go_wp2_with fail
    refine(j.o _).mono ?_;rintro _ w' ⟨rfl,rfl⟩;go_wp2
    go_round
    case rel=>exact⟨4,by simp,by go_num⟩
    case measure=>simp[intOf]
   ·have hA:=h3;clear h3 ad
    have b:k+3<=L.length:=by
     have h1:=T.isLit_len hA;rw[Bc,Bl]at h1;omega
    have hV:=ah.o.1 hA;have C1:=l.o 3 b (((w.alloc bR).alloc (.cells #[.int .i64 0,.string ⟨#[]⟩,.complex .f64 X Y] 198))) ((i.o bR).alloc (by simp) _);unfold bR at C1;have S1:∀w,(Instr.sliceAt 72 (.slice (some ⟨g,o,none⟩) L.length c) (some (.int .i64 k)) (some (.int .i64 ((k:Int)+3))) none).run Tryz.prog w=.ok (.slice (dropA (some ⟨g,o,none⟩) c k) 3 (c-k)) w:=HS.o 3 b;have j:=aA (af.o 3);rw[hA]at j;have HV:=aA hV;have aj:¬(k:Int)+3 > (L.length:Int):=by omega
    clear hA hV;go_wp2_with fail
    refine(j.o _).mono ?_;rintro _ w' ⟨rfl,rfl⟩;go_upto_region 17 with fail
    have p:Below w.heap.size w ((((w.alloc bR).alloc (.cells #[.int .i64 0,.string ⟨#[]⟩,.complex .f64 X Y] 198))).drew):=aB ((i.o bR).alloc (by simp) _) 1;unfold bR at p;have CC:=fun y:Calm.On w.heap.size w=>l.o 3 b y.1 y.2;refine Calm.region_tree (fun x=>∃y:Calm.On w.heap.size w,x=y.1) (.one [0,1,2,3,4,5,6,7] 8 (.one [9] 10 (.fin []))) (by kernel_rfl) (by kernel_rfl) (fun _ _ d _ _ h=>by cases d <;> exact h) ⟨⟨_,p⟩,rfl⟩ ?_;simp only[Calm.wpT,Calm.wpSt,Calm.pickOps,Am,Af,Ah];repeat (go_big_quiet_step (fail))
    refine Aj ?_;clear CC l HS S1 p C1;have f:=aA (fun o1 o2=>aB ((i.o o1).alloc (by simp) o2) 1);intro KK r;try rw[Ap (by rfl)]
    go_wp2_with fail
    refine r _ _ ⟨⟨_,f.o _ _⟩,rfl⟩ _ (fun _ h=>h) ⟨⟨_,f.o _ _⟩,rfl⟩ ?_;repeat (go_big_quiet_step (fail))
    refine Aj ?_;intro KK r;try rw[Ap (by rfl)]
    go_wp2_with fail
    refine r _ _ ⟨⟨_,f.o _ _⟩,rfl⟩ _ (fun _ h=>h) ⟨⟨_,f.o _ _⟩,rfl⟩ ?_;refine Aj ?_;go_wp2;exact BM (v:=.tuple #[.agg #[.int .i64 2,.string (K.str ((L.drop k).take 3)),.complex .f64 X Y],.int .i64 ((k:Int)+3),.int .i64 0]) (by simp[results,Tryz.results123,go_sem]) rfl ⟨by rw[HV.o],f.o _ _⟩
  ·have hA:=ad.o h3;clear ad
   have b:k+4<=L.length:=by
    have h1:=T.isLit_len hA;rw[Bc,Bl]at h1;rcases h1 with h1|h1
    ·exfalso
     have e3:(L.drop k).take 3=L.drop k:=Cb (by rw[Bl];omega);have e4:(L.drop k).take 4=L.drop k:=Cb (by rw[Bl];omega);rw[e3]at h3;rw[e4]at hA;rw[h3]at hA;cases hA
    ·omega
   have hV:=ah.o.2 h3 hA;have C1:=l.o 4 b (((w.alloc bR).alloc (.cells #[.int .i64 0,.string ⟨#[]⟩,.complex .f64 X Y] 198))) ((i.o bR).alloc (by simp) _);unfold bR at C1;have S1:∀w,(Instr.sliceAt 72 (.slice (some ⟨g,o,none⟩) L.length c) (some (.int .i64 k)) (some (.int .i64 ((k:Int)+4))) none).run Tryz.prog w=.ok (.slice (dropA (some ⟨g,o,none⟩) c k) 4 (c-k)) w:=HS.o 4 b;have j:=aA (af.o 4);rw[hA]at j;have HV:=aA hV;have aj:¬(k:Int)+4 > (L.length:Int):=by omega
   clear hA hV h3;go_wp2_with fail
   refine(j.o _).mono ?_;rintro _ w' ⟨rfl,rfl⟩;go_upto_region 17 with fail
   have p:Below w.heap.size w ((((w.alloc bR).alloc (.cells #[.int .i64 0,.string ⟨#[]⟩,.complex .f64 X Y] 198))).drew):=aB ((i.o bR).alloc (by simp) _) 1;unfold bR at p;have CC:=fun y:Calm.On w.heap.size w=>l.o 4 b y.1 y.2;refine Calm.region_tree (fun x=>∃y:Calm.On w.heap.size w,x=y.1) (.one [0,1,2,3,4,5,6,7] 8 (.one [9] 10 (.fin []))) (by kernel_rfl) (by kernel_rfl) (fun _ _ d _ _ h=>by cases d <;> exact h) ⟨⟨_,p⟩,rfl⟩ ?_;simp only[Calm.wpT,Calm.wpSt,Calm.pickOps,Am,Af,Ah];repeat (go_big_quiet_step (fail))
   refine Aj ?_;clear CC l HS S1 p C1;have f:=aA (fun o1 o2=>aB ((i.o o1).alloc (by simp) o2) 1);intro KK r;try rw[Ap (by rfl)]
   go_wp2_with fail
   refine r _ _ ⟨⟨_,f.o _ _⟩,rfl⟩ _ (fun _ h=>h) ⟨⟨_,f.o _ _⟩,rfl⟩ ?_;repeat (go_big_quiet_step (fail))
   refine Aj ?_;intro KK r;try rw[Ap (by rfl)]
   go_wp2_with fail
   refine r _ _ ⟨⟨_,f.o _ _⟩,rfl⟩ _ (fun _ h=>h) ⟨⟨_,f.o _ _⟩,rfl⟩ ?_;refine Aj ?_;go_wp2;exact BM (v:=.tuple #[.agg #[.int .i64 2,.string (K.str ((L.drop k).take 4)),.complex .f64 X Y],.int .i64 ((k:Int)+4),.int .i64 0]) (by simp[results,Tryz.results123,go_sem]) rfl ⟨by rw[HV.o],f.o _ _⟩
theorem ziI (A:Option Addr) (c:Nat) (L:List Int) (k:Nat) (w:World) (hr:RdB w w.heap.size A L) (hl:K.Bytes L) (hc:L.length<=c) (hn:L.length<=2000) (hk:k<L.length) (he:(T.piece (L.drop k)).2.2=0) (hx:(T.piece (L.drop k)).1≠0) :
  Calls Tryz.prog 123 #[.slice A L.length c,.int .i64 k] w fun e w'=>e=.returned (zd0 L k (T.piece (L.drop k)))/\Below w.heap.size w w':=by
 rcases hh:T.head (L.getD k 0) with _|_
 ·by_cases aa:L.getD k 0=39
  ·exact zkw A c L k w hr hl hc hn hk he aa
  ·by_cases ab:L.getD k 0=37
   ·rcases hp:T.pre (L.drop k) [37,37] with _|_
    ·exact ziY A c L k w hr hl hc hn hk he hx ab hp
    ·exact zi1 A c L k w hr hl hc hn hk hp
   ·exact ziZ A c L k w hr hl hc hn hk he hx hh aa ab
 ·exact zi0 A c L k w hr hl hc hn hk he hh
theorem zgS (A:Option Addr) (c:Nat) (L:List Int) (xs:List Tok) (w:World) (hr:RdB w w.heap.size A L) (hl:K.Bytes L) (hc:L.length<=c) (hn:L.length<=2000) (hx:zkb L=.ok xs) :
  Calls Tryz.prog 84 #[.slice A L.length c] w (zld L (.ok xs) w):=by
 have ah:=aA (fun(w1:World) (h:Below w.heap.size w w1) (k:Nat) (hk:k<L.length) (he:(T.piece (L.drop k)).2.2=0)=>zgT A c w.heap.size L k w1 (hr.below h (Ad _)) hl hc (by omega) hk he);have ai:=aA (fun(w1:World) (h:Below w.heap.size w w1) (k:Nat) (hk:k<L.length) (he:(T.piece (L.drop k)).2.2=0) (hx:(T.piece (L.drop k)).1≠0)=>ziI A c L k w1 (hr.up h) hl hc hn hk he hx);have aj:=aA (fun(w1:World) (h:Below w.heap.size w w1)=>zcA A c w.heap.size L L.length w1 (hr.below h (Ad _)) hn (Ad _));have ak:=aA (fun(k:Nat) (hk:k<L.length)=>T.piece_fine (L.drop k) (by rw[Bl];omega) (hl.drop k));have HX:=aA hx;have ar:Hid (Below w.heap.size w w):=aA (Aq _ _);have SC:=fun a w m X Y=>show(store a (.complex .f64 X Y) m).run Tryz.prog w=stored Tryz.prog w a (.complex .f64 X Y) m from run_store _ w a _ m rfl;clear hr hl hx
 go_enter Tryz.func84,Tryz.ntmps84
 go_wp2;go_loopw [5,6,7] (fun v vk vm wr=>∃(f k m:Nat) (acc:List Tok),vk=.int .i64 k/\vm=.int .i64 m/\k<=L.length/\m<=2/\L.length<k+f/\acc.length<=k/\bS L wr w.heap.size v acc/\Below w.heap.size w wr/\zfL f (L.drop k) k m acc=.ok xs) (fun _ vk _ _=>L.length-(intOf vk).toNat)
 case atStart=>exact⟨L.length+1,0,0,[],rfl,rfl,by omega,by omega,by omega,by simp,bS.nil _ _ _,ar.o,by have:=HX.o;unfold zkb at this;simpa using this⟩
 case round =>
  clear HX ar;obtain⟨f,k,m,acc,rfl,rfl,hk,au,hf,a3,ho,hb,av⟩:=hrel;have HO:=aA ho;have HB:=aA hb;have g:=aA av;have af:=aA au;obtain⟨A0,c0,rfl,a4,a5⟩:=ho.form;clear ho hb av au a4 a5;by_cases ab:L.length<=k\/2<=m
  ·have bf:=af.o
   have a6:xs=acc:=by
    have:=g.o
    rw[zeM _ _ _ _ _ (by rw[Bl];omega)]at this;injection this with this;exact this.symm
   subst a6;have ac:=aA (aj.o wr HB.o);rw[Bo]at ac;clear aj ah ai ak g;by_cases ag:k<L.length
   ·have a9:¬(m:Int)<2:=by omega
    clear ab;go_wp2_with fail
    refine(ac.o).mono ?_;rintro _ w' ⟨rfl,rfl⟩;go_wp2
    go_ret3
    exact⟨_,rfl,HO.o,HB.o⟩
   ·have ba:¬(k:Int)<(L.length:Int):=by omega
    clear ab;go_wp2_with fail
    refine(ac.o).mono ?_;rintro _ w' ⟨rfl,rfl⟩;go_wp2
    go_ret3
    exact⟨_,rfl,HO.o,HB.o⟩
  ·have ag:k<L.length:=by omega
   have a9:(m:Int)<2:=by omega
   obtain⟨f,rfl⟩:∃f',f=f'+1:=⟨f-1,by omega⟩
   have al:¬((L.drop k).length=0\/m=2):=by rw[Bl];omega
   have he:(T.piece (L.drop k)).2.2=0:=by
    by_cases h:(T.piece (L.drop k)).2.2=0
    ·exact h
    ·have:=g.o
     rw[zeN _ _ _ _ _ al h]at this;cases this
   have am:=g.o;rw[zgN _ _ _ _ _ al he,Dx]at am;have ad:=ak.o k ag;obtain⟨h1,h2,h3,_,_,_⟩:=ad;obtain⟨h4,h5,_,_⟩:=h1 he;rw[Bl]at h5;have b:=aA (ah.o wr HB.o k ag he);have aa:=aA (ai.o wr HB.o k ag he);clear ah ai ak aj g h1 al ab;unfold zd0 at aa;generalize T.piece (L.drop k)=x at *;obtain⟨xk,xn,xe⟩:=x;simp only at he h2 h3 h4 h5;subst he;have d:=aA am;clear am;by_cases i:xk=0
   ·subst i;have hv:zci k (0,xn,0)=.tuple #[.int .i64 ((k+xn:Nat):Int),.bool true]:=rfl;rw[hv]at b;have bb:Hid (zfL f (L.drop (k+xn)) (k+xn) m acc=.ok xs):=aA d.o;have ao:¬((k+xn:Nat):Int)<0:=by omega
    clear hv d aa;generalize hj:k+xn=j at *;have HJ:=aA hj;clear hj;go_wp2_with fail
    refine b.o.mono ?_;rintro _ w' ⟨rfl,rfl⟩;go_wp2;go_roundw
    case rel=>exact⟨f,j,m,acc,rfl,rfl,by have:=HJ.o;omega,af.o,by have:=HJ.o;omega,by have:=HJ.o;omega,HO.o,HB.o,bb.o⟩
    case measure=>have:=HJ.o;simp[intOf];omega
   ·have hv:zci k (xk,xn,0)=.tuple #[.int .i64 k,.bool false]:=zeL i;rw[hv]at b;have ap:=aA (aa.o i);simp only at ap;have aw:Hid (more acc k (xk,xn,0) (L.drop k)=acc++[⟨xk,aZ xk ((L.drop k).take xn),k⟩]):=aA (by unfold more;rw[AB i]);rw[aw.o]at d;have ao:¬((k:Nat):Int)<0:=by omega
    clear hv aa aw i;go_wp2_with fail
    refine b.o.mono ?_;rintro _ w' ⟨rfl,rfl⟩;go_wp2_with fail
    refine ap.o.mono ?_;rintro _ w2 ⟨rfl,aq⟩;have l:=aA (HB.o.trans (aq.mono HB.o.size));have ax:=aA (HO.o.below aq (Ad _));clear aq ap b HO HB
    have bc:Hid (∀o j u,(zaK L ⟨xk,aZ xk ((L.drop k).take xn),k⟩)[j]?=some u->((w2.alloc o).alloc (.cells #[.int .i64 xk,.string (K.str (aZ xk ((L.drop k).take xn))),.complex .f64 (Fl.fl (Pl.pos (L.take k)).1) (Fl.fl (Pl.pos (L.take k)).2)] 198)).cell? ⟨w2.heap.size+1,j,none⟩=some u):=aA (by
     intro o j u hu;have e:w2.heap.size+1=(w2.alloc o).heap.size:=by simp
     rw[e,Dz]
     simpa[zaK] using hu)
    have bd:=aA (fun o1 o2=>(l.o.alloc l.o.size o1).alloc (by have:=l.o.size;simp;omega) o2);rcases ay:(xk==9) with _|_
    focus
     have ae:Hid (zbw m (xk,xn,0)=m):=aA (by unfold zbw;rw[AB (by simpa using ay)])
    rotate_left
    focus
     have ae:Hid (zbw m (xk,xn,0)=m+1):=aA (by unfold zbw;rw[Ap (by simpa using ay)])
    rotate_left
    all_goals
     rw[ae.o]at d;go_wp2_with (at_builtin;refine zk8 rfl (.tmp 54) (.tmp 56) _ rfl Tryz.underlying147 L w.heap.size _ acc rfl ((ax.o.alloc _).alloc _) _ 1 ⟨xk,aZ xk ((L.drop k).take xn),k⟩ rfl (bc.o _) (by omega) (by have:=l.o.size;simp;omega) ?_;intro v3 w3 az a0)
     have a1:=aA (zdU (bd.o _ _) ((ax.o.alloc _).alloc _) a0 (by have:=l.o.size;simp;omega));have a2:=aA az;clear az a0
    focus
     go_roundw
     case rel=>exact⟨f,k+xn,m,acc++[⟨xk,aZ xk ((L.drop k).take xn),k⟩],by go_num,rfl,by omega,by have:=af.o;omega,by omega,by simp;omega,a2.o,a1.o,d.o⟩
     case measure=>simp[intOf];omega
    focus
     go_roundw
     case rel=>exact⟨f,k+xn,m+1,acc++[⟨xk,aZ xk ((L.drop k).take xn),k⟩],by go_num,by go_num,by omega,by have:=af.o;omega,by omega,by simp;omega,a2.o,a1.o,d.o⟩
     case measure=>simp[intOf];omega
theorem bI.less5 {L:List Int} (h:bI L w base v ds) (hb:base'<=base):bI L w base' v ds:=by
 obtain⟨qs,h1,h2,h3⟩:=h;refine⟨qs,h1,⟨h2.1,?_⟩,fun q hq=>(h3 q hq).less hb⟩;rcases h2.2 with h0|⟨g,cap,cur,e,aa,hr⟩
 ·exact .inl h0
 ·exact .inr ⟨g,cap,cur,e,by omega,hr⟩
theorem bH.less5 {L:List Int} {ps:List Y.Prd} (h:bH L w base v ps) (hb:base'<=base):bH L w base' v ps:=by
 obtain⟨qs,h1,h2,h3⟩:=h;refine⟨qs,h1,⟨h2.1,?_⟩,fun q hq=>(h3 q hq).less hb⟩;rcases h2.2 with h0|⟨g,cap,cur,e,aa,hr⟩
 ·exact .inl h0
 ·exact .inr ⟨g,cap,cur,e,by omega,hr⟩
theorem zaM (h:w.heap[g]?=some (.cells cs 114 (0,0))):a8 w (some g):=zbK h (by decide)
theorem zgs (ts:List Gm.Tm) (n:Nat) (h:n<ts.length) (a b:Int):((zd8 ts).set (n*3+1) (.int .i64 a)).set (n*3+2) (.int .i64 b)=zd8 (ts.modify n fun t=>⟨t.nm,a,b⟩):=by
 induction ts generalizing n with
 | nil=>simp at h
 | cons t r ih =>
  have e:zd8 (t::r)=tmC t++zd8 r:=by unfold zd8;rw[BD]
  cases n with
  | zero =>
   rw[e];simp[tmC,zd8,List.modify]
  | succ n =>
   have hl:(tmC t).length=3:=rfl;rw[e,CY _ _ (by omega),CY _ _ (by omega),hl,show(n+1)*3+1-3=n*3+1 by omega,show(n+1)*3+2-3=n*3+2 by omega,ih n (by simpa using h)];rw[List.modify_succ_cons];unfold zd8;rw[BD]
theorem zbI (h:aX w base v ts) (n:Nat) (hn:n<ts.length):∃g c,v=.slice (some ⟨g,0,none⟩) ts.length c/\ts.length<=c/\w.cell? ⟨g,n*3+1,none⟩=some (.int .i64 ts[n].lv)/\w.cell? ⟨g,n*3+2,none⟩=some (.int .i64 ts[n].wy)/\(∀j,w.frozen? ⟨g,j,none⟩=false)/\base<=g/\g<w.heap.size/\∃cur,w.heap[g]?=some (.cells cur 85 (0,0)):=by
 rcases h.2 with⟨_,h0⟩|⟨g,cap,cur,rfl,hb,hg,aa,hm,hs,ht⟩
 ·omega
 ·refine⟨g,cap,rfl,aa,?_,?_,fun j=>AD w g j _ _ hg,hb,(Ac.1 hg).1,cur,hg⟩
  ·rw[Eg h (n*3+1) (by omega)];exact zbj tmC (fun _=>rfl) ts n 1 hn (by omega)
  ·rw[Eg h (n*3+2) (by omega)];exact zbj tmC (fun _=>rfl) ts n 2 hn (by omega)
def rfX (L:List Int) (x:Tok):Nat:=Fl.fl (Pl.pos (L.take x.o)).1
def rfY (L:List Int) (x:Tok):Nat:=Fl.fl (Pl.pos (L.take x.o)).2
def setSt (S:St) (x:Tok):St:={S with s:={S.s with st:=some x} }
def zlg (L:List Int) (w:World) (B:Nat) (A:Option Addr) (xs:List Tok):Prop :=
 xs.length≠0->∃g o,A=some ⟨g,o,none⟩/\g<B/\∀i (h:i<xs.length),w.cell? ⟨g,o+i*2,none⟩=some (.string (K.str xs[i].t))/\w.cell? ⟨g,o+i*2+1,none⟩=some (.complex .f64 (rfX L xs[i]) (rfY L xs[i]))
def zli (L:List Int) (w:World) (B:Nat) (A:Option Addr) (ds:List Y.Dcl):Prop :=
 ds.length≠0->∃g o,A=some ⟨g,o,none⟩/\g<B/\∀i (h:i<ds.length),w.cell? ⟨g,o+i*2,none⟩=some (.int .i64 ds[i].k)/\∃A' c',w.cell? ⟨g,o+i*2+1,none⟩=some (.slice A' ds[i].ns.length c')/\zlg L w B A' ds[i].ns
theorem zlg.keep {L:List Int} {xs:List Tok} (h:zlg L w B A xs) (hb:Below B w w'):zlg L w' B A xs:=fun hn=>by
 obtain⟨g,o,e,hg,hc⟩:=h hn;exact⟨g,o,e,hg,fun i hi=>⟨(hb.cell (p:=⟨g,o+i*2,none⟩) hg).trans (hc i hi).1,(hb.cell (p:=⟨g,o+i*2+1,none⟩) hg).trans (hc i hi).2⟩⟩
theorem zli.keep {L:List Int} {w w':World} {B:Nat} {A:Option Addr} {xs:List Y.Dcl} (h:zli L w B A xs) (hb:Below B w w'):zli L w' B A xs:=fun hn=>by
 obtain⟨g,o,e,hg,hc⟩:=h hn;refine⟨g,o,e,hg,fun i hi=>?_⟩;obtain⟨h1,A',c',h2,h3⟩:=hc i hi;exact⟨(hb.cell (p:=⟨g,o+i*2,none⟩) hg).trans h1,A',c',(hb.cell (p:=⟨g,o+i*2+1,none⟩) hg).trans h2,h3.keep hb⟩
theorem zjn {k:Int} {s s':Gm.S1} (h:Gm.decl1 k s x=.ok s'):s'.lv=s.lv:=by
 unfold Gm.decl1 at h;split at h
 ·split at h
  ·cases h
  ·injection h with h;subst h;rfl
 ·split at h
  ·split at h
   ·cases h
   ·obtain⟨p,_,h⟩:=Gm.R.bind_eq h;injection h with h;subst h;rfl
  ·split at h
   ·cases h
   ·obtain⟨p,_,h⟩:=Gm.R.bind_eq h;injection h with h;subst h;rfl
theorem zfl {k:Int}:∀(xs:List Tok) {s s':Gm.S1},Gm.declN k s xs=.ok s'->s'.lv=s.lv
 | [],s,s',h=>by rw[Gm.declN]at h;injection h with h;subst h;rfl
 | x::r,s,s',h=>by
  rw[Gm.declN]at h;obtain⟨s1,h1,h2⟩:=Gm.R.bind_eq h;rw[zfl r h2,zjn h1]
theorem zgb {s:Gm.S1} (h:i<ds.length):Gm.decls s (ds.drop i)=(Gm.declN ds[i].k (Gm.up ds[i].k s) ds[i].ns).bind fun s=>Gm.decls s (ds.drop (i+1)):=by
 rw[Bx h,Gm.decls]
def zlh (L:List Int) (w:World) (B:Nat) (A:Option Addr) (ps:List Y.Prd):Prop :=
 ps.length≠0->∃g o,A=some ⟨g,o,none⟩/\g<B/\∀i (h:i<ps.length),w.cell? ⟨g,o+i*5,none⟩=some (.string (K.str ps[i].l.t))/\w.cell? ⟨g,o+i*5+1,none⟩=some (.complex .f64 (rfX L ps[i].l) (rfY L ps[i].l))/\(∃A' c',w.cell? ⟨g,o+i*5+2,none⟩=some (.slice A' ps[i].r.length c')/\zlg L w B A' ps[i].r)/\w.cell? ⟨g,o+i*5+3,none⟩=some (.string (soS ps[i].p))/\w.cell? ⟨g,o+i*5+4,none⟩=some (.complex .f64 (soX L ps[i].p) (soY L ps[i].p))
theorem zlh.keep {L:List Int} {w w':World} {B:Nat} {A:Option Addr} {xs:List Y.Prd} (h:zlh L w B A xs) (hb:Below B w w'):zlh L w' B A xs:=fun hn=>by
 obtain⟨g,o,e,hg,hc⟩:=h hn;refine⟨g,o,e,hg,fun i hi=>?_⟩;obtain⟨h1,h2,⟨A',c',h3,h4⟩,h5,h6⟩:=hc i hi;exact⟨(hb.cell (p:=⟨g,o+i*5,none⟩) hg).trans h1,(hb.cell (p:=⟨g,o+i*5+1,none⟩) hg).trans h2,⟨A',c',(hb.cell (p:=⟨g,o+i*5+2,none⟩) hg).trans h3,h4.keep hb⟩,(hb.cell (p:=⟨g,o+i*5+3,none⟩) hg).trans h5,(hb.cell (p:=⟨g,o+i*5+4,none⟩) hg).trans h6⟩
theorem zhv (h:Gm.left1 ts ns x=.ok ns') (hl:ns.length<=16):ns'.length<=16:=by
 rcases Gm.left1_ok h with⟨rfl,_⟩|⟨rfl,_,_,h4⟩
 ·exact hl
 ·rw[AU,BQ];omega
theorem zfW {ps:List Y.Prd} (h:i<ps.length):Gm.lefts ts ns (ps.drop i)=(Gm.left1 ts ns ps[i].l).bind fun ns=>Gm.lefts ts ns (ps.drop (i+1)):=by
 rw[Bx h,Gm.lefts]
theorem zhu {ps:List Y.Prd} (h:ps.length<=i):Gm.lefts ts ns (ps.drop i)=.ok ns:=by
 rw[BV h,Gm.lefts]
def zb3 (L:List Int) (p:Y.Prd) (A:Option Addr) (c:Nat):Array Value:=#[.string (K.str p.l.t),.complex .f64 (rfX L p.l) (rfY L p.l),.slice A p.r.length c,.string (soS p.p),.complex .f64 (soX L p.p) (soY L p.p)]
theorem zeC {o:Oper} {a:Act} {Q:Exit->Act->World->Prop} {K:Act->World->Prop} (s x:Operand) (t:TypeId) (ho:o.op=.call {callee:=.builtin .append,args:=#[s,x],argTypes:=#[t,t]}) (ht:Tryz.prog.underlying t=some (.slice 74)) (base N:Nat) (v:Value) (rs:List Gm.Rl) (hs:a.eval s=v) (ab:bB w base N v rs) (g c:Nat) (q:RA) (hx:a.eval x=.slice (some ⟨g,0,none⟩) 1 c) (hz:∀j u,(rlC q)[j]?=some u->w.cell? ⟨g,j,none⟩=some u) (hr:q.1.r.length<=q.2.2/\q.2.2<=9223372036854775807/\zgj w base w.heap.size q.2.1 q.1.r) (af:rs.length<=1000000) (aa:base<=w.heap.size) (hN:N<=w.heap.size) (hK:∀v' w',bB w' base w'.heap.size v' (rs++[q.1])->w.grownBy w' v.ownBlock->K (a.put o.dst v') w') :
  o.wp Tryz.prog a w K Q:=by
 obtain⟨i,hi,ag,ah,ai⟩:=CD zmo;obtain⟨qs,ac,ad,ak,aj⟩:=ab;have al:qs.length=rs.length:=by rw[<-ac,Bb]
 refine D5 w s x t ho base 74 i _ 3 40 ht hi ag ah ai rfl (by decide) v rs.length (zm3 qs) hs ad ⟨g,0,none⟩ 1 c (rlC q) hx rfl ?_ ?_ (by unfold maxLen;omega) (by omega) aa fun v' w' h1 h2 _=>hK v' w' ?_ h2
 ·intro j u hj;rw[zd1,Bu];exact hz j u hj
 ·intro u hu;simp[rlC]at hu;rcases hu with rfl|rfl|rfl <;> rfl
 ·have ae:∀g',v.ownBlock=some g'->(∀cur,w.heap[g']? ≠ some (.cells cur 3 (0,0)))\/w.heap.size<=g':=fun g' e=>by
   obtain⟨_,cur,hc⟩:=zac ad e;exact .inl (aO hc (by decide))
  refine⟨qs++[q],by rw[AW,ac];rfl,?_,fun k hk=>?_,fun p hp=>?_⟩
  ·rw[AU];unfold zm3;rw[BX,Cc];exact h1
  ·obtain⟨_,cur,hc⟩:=zac h1 hk;exact(Ac.1 hc).1
  ·rcases Bj.1 hp with h|h
   ·obtain⟨a1,a2,a3⟩:=aj p h;exact⟨a1,a2,((a3.more hN).grown h2 ae).more h2.size⟩
   ·rw[AF]at h;subst h;exact⟨hr.1,hr.2.1,(hr.2.2.grown h2 ae).more h2.size⟩
theorem aS.row {xs:List Int} (h:aS w base v xs) (hB:B<=base):∃A c,v=.slice A xs.length c/\xs.length<=c/\c<=9223372036854775807/\zgj w B w.heap.size A xs:=by
 rcases h.2 with⟨rfl,h0⟩|⟨g,cap,cur,rfl,hb,hg,hn,hm,hs,ht⟩
 ·exact⟨none,0,by rw[h0],by omega,by omega,fun hc=>absurd h0 hc⟩
 ·refine⟨some ⟨g,0,none⟩,cap,rfl,hn,by unfold maxLen at hm;omega,fun _=>⟨g,cur,rfl,by omega,(Ac.1 hg).1,hg,fun j hj=>?_⟩⟩;have hq:(cur.toList.take (xs.length*1))[j]?=(xs.map (Value.int .i64))[j]?:=by rw[ht]
  rw[CP (by omega),BC,Ar hj]at hq
  simpa using hq
theorem zee {acc:List Int} {p:Int} {xs:List Tok} (h:i<xs.length):Gm.rights ns ts acc p (xs.drop i)=if acc.length=6 then .bad xs[i] 5 else(Gm.symR ns ts xs[i]).bind fun q=>Gm.rights ns q.1 (acc++[q.2]) (if 0<=q.2 then q.2 else p) (xs.drop (i+1)):=by
 rw[Bx h,Gm.rights]
theorem zfP {acc:List Int} {p:Int} {xs:List Tok} (h:xs.length<=i):Gm.rights ns ts acc p (xs.drop i)=.ok (ts,acc,p):=by
 rw[BV h,Gm.rights]
theorem zjq (z:Int) (w:World):(Instr.build 74 #[(0,.int .i64 z),(2,.int .i64 (-1))]).run Tryz.prog w=.ok (.agg #[.int .i64 z,.slice none 0 0,.int .i64 (-1)]) w:=D6 w 74 _ _ (by kernel_rfl)
theorem zaN (h:bB w base N v rs):∃A c,v=.slice A rs.length c/\rs.length<=c/\c<=maxLen:=by
 obtain⟨qs,_,h2,_⟩:=h;exact aL h2
theorem aS.set_away {xs:List Int} (h:aS w base v xs) (hg:w.heap[g]?=some (.cells cs 74 (0,0))) (j:Nat) (u:Value):aS (w.setCell ⟨g,j,none⟩ u) base v xs :=
 AZ h (aF (AI _ _) j u) (aN h hg (fun cur e=>by injection e with _ e;cases e))
theorem zbD (w:World) (base:Nat):aS w base (.slice none 0 0) []:=aS.nil w base
theorem zds {L:List Int} {xs:List Tok} (h:RdR L w base A xs):zlg L w w.heap.size A xs:=fun hn=>by
 obtain⟨g,cur,e,_,hh,_⟩:=h hn;obtain⟨g',e',_,hc⟩:=h.cell hn;rw[e]at e';injection e' with e';injection e' with e';subst e';refine⟨g,0,e,(Ac.1 hh).1,fun i hi=>⟨?_,?_⟩⟩
 ·have:=hc i 0 _ hi (by omega) rfl
  rw[Bu];exact this
 ·have:=hc i 1 _ hi (by omega) rfl
  rw[Bu];exact this
theorem zhX {L:List Int} (h:bI L w base v ds):∃A c,v=.slice A ds.length c/\zli L w w.heap.size A ds:=by
 have h':=h;obtain⟨qs,_,h2,_⟩:=h';rcases h2.2 with⟨hv,h0⟩|⟨g,cap,cur,hv,_,hg,_⟩
 ·exact⟨none,0,by rw[hv,h0],fun hn=>absurd h0 hn⟩
 ·refine⟨some ⟨g,0,none⟩,cap,hv,fun hn=>⟨g,0,rfl,(Ac.1 hg).1,fun i hi=>?_⟩⟩;obtain⟨D,c,A,c',aa,k1,k2,k3⟩:=h.at i hi;rw[hv]at aa;injection aa with e1 e2 e3;injection e1 with e1;injection e1 with e1;subst e1;rw[Bu];exact⟨k1,A,c',k2,zds k3⟩
theorem zhb {L:List Int} {ps:List Y.Prd} (h:bH L w base v ps):∃A c,v=.slice A ps.length c/\zlh L w w.heap.size A ps:=by
 have h':=h;obtain⟨qs,_,h2,_⟩:=h';rcases h2.2 with⟨hv,h0⟩|⟨g,cap,cur,hv,_,hg,_⟩
 ·exact⟨none,0,by rw[hv,h0],fun hn=>absurd h0 hn⟩
 ·refine⟨some ⟨g,0,none⟩,cap,hv,fun hn=>⟨g,0,rfl,(Ac.1 hg).1,fun i hi=>?_⟩⟩;obtain⟨D,c,A,c',aa,k,k3⟩:=h.at i hi;rw[hv]at aa;injection aa with e1 e2 e3;injection e1 with e1;injection e1 with e1;subst e1;rw[Bu];refine⟨k 0 _ (by omega) rfl,k 1 _ (by omega) rfl,⟨A,c',k 2 _ (by omega) rfl,zds k3⟩,?_,?_⟩
  ·refine k 3 _ (by omega) ?_;unfold aU za6;rcases ps[i].p with _|x <;> rfl
  ·refine k 4 _ (by omega) ?_;unfold aU za6;rcases ps[i].p with _|x <;> rfl
theorem zfR (h:zgj w base N A zs) (hN:N<=w.heap.size):RdI w w.heap.size A zs:=fun hn=>by
 obtain⟨g,cur,e,_,hg,hh,hc⟩:=h hn;refine⟨g,0,e,by omega,fun j hj=>?_⟩;rw[Bu,Aw w g _ _ _ _ hh];rw[hc j hj];simp[List.getD,hj]
theorem zbh (h:aX w base v ts):∃A c,v=.slice A ts.length c/\(ts.length<=c/\c<=9223372036854775807)/\zeE w w.heap.size A ts:=by
 have h0:=h;unfold aX at h0;rcases h0.2 with⟨hv,h1⟩|⟨g,cap,cur,hv,_,hg,hn,hm,_⟩
 ·exact⟨none,0,by rw[hv,h1],by omega,fun hn=>absurd h1 hn⟩
 ·refine⟨some ⟨g,0,none⟩,cap,hv,⟨hn,by unfold maxLen at hm;omega⟩,fun _=>⟨g,0,rfl,(Ac.1 hg).1,fun i hi=>?_⟩⟩;subst hv;have k:=fun(j:Nat) (u:Value) (hj:j<3) (hu:(tmC ts[i])[j]?=some u)=>Cw h0 (g:=g) rfl (i*3+j) u (by unfold zd8;rw[zbj tmC (fun _=>rfl) ts i j hi hj];exact hu);have k0:=k 0 _ (by omega) rfl;have k1:=k 1 _ (by omega) rfl;have k2:=k 2 _ (by omega) rfl;rw[zd1,Bu]at k0 k1 k2;rw[Bu];exact⟨k0,k1,k2⟩
theorem zbM (h:bJ w base v ns):∃A c,v=.slice A ns.length c/\(ns.length<=c/\c<=9223372036854775807)/\RdN w w.heap.size A ns:=by
 have h0:=h;unfold bJ at h0;rcases h0.2 with⟨hv,h1⟩|⟨g,cap,cur,hv,_,hg,hn,hm,_⟩
 ·exact⟨none,0,by rw[hv,h1],by omega,fun hn=>absurd h1 hn⟩
 ·refine⟨some ⟨g,0,none⟩,cap,hv,⟨hn,by unfold maxLen at hm;omega⟩,fun _=>⟨g,0,rfl,(Ac.1 hg).1,fun i hi=>?_⟩⟩;subst hv;have k:=Cw h0 (g:=g) rfl i (.string (K.str ns[i])) (by unfold zlm;simp[hi]);rw[zd1,Bu]at k;rw[Bu];exact k
theorem zbm (h:bB w base N v rs) (hN:N<=w.heap.size):∃A c,v=.slice A rs.length c/\(rs.length<=c/\c<=9223372036854775807)/\zd3 w w.heap.size A rs:=by
 obtain⟨qs,rfl,h0,_,hq⟩:=h;rcases h0.2 with⟨hv,h1⟩|⟨g,cap,cur,hv,_,hg,hn,hm,_⟩
 ·exact⟨none,0,by rw[hv,h1],by omega,fun hn=>absurd h1 hn⟩
 ·refine⟨some ⟨g,0,none⟩,cap,hv,⟨hn,by unfold maxLen at hm;omega⟩,fun _=>⟨g,0,rfl,(Ac.1 hg).1,fun i hi=>?_⟩⟩;subst hv;have aa:i<qs.length:=by simpa using hi
  have k:=fun(j:Nat) (u:Value) (hj:j<3) (hu:(rlC qs[i])[j]?=some u)=>Cw h0 (g:=g) rfl (i*3+j) u (by unfold zm3;rw[zbj rlC (fun _=>rfl) qs i j aa hj];exact hu);have k0:=k 0 _ (by omega) rfl;have k1:=k 1 _ (by omega) rfl;have k2:=k 2 _ (by omega) rfl;rw[zd1,Bu]at k0 k1 k2;rw[Bu];obtain⟨q1,q2,q3⟩:=hq qs[i] (Ay aa);simp only[C3];exact⟨k0,⟨_,_,k1,q1,q2,zfR q3 hN⟩,k2⟩
def wC (vT vN vR:Value) (lv:Int):Array Value:=#[vT,vN,vR,.int .i64 0,.slice none 0 0,.string ⟨#[]⟩,.complex .f64 0 0,.bool false,.int .i64 lv,.complex .f64 0 0,.int .i64 0]
structure WRaw (w:World) (B N R:Nat) (cs:Array Value) (vT vN vR:Value) (ts:List Gm.Tm) (ns:List (List Int)) (rs:List Gm.Rl):Prop where
 b:w.heap[R]?=some (.cells cs 155 (0,0))
 t:aX w B vT ts
 n:bJ w B vN ns
 r:bB w B N vR rs
 hR:B<=R
structure Off9 (w:World) (N:Nat) (row:Option Nat):Prop where
 h:∀g,row=some g->∃cs T,w.heap[g]?=some (.cells cs T (0,0))/\T≠155/\T≠85/\T≠9/\((T≠74/\T≠3)\/N<=g)
theorem Off9.none (w:World) (N:Nat):Off9 w N .none:=⟨fun _ h=>by cases h⟩
section
variable {w w':World} {B N R:Nat} {cs:Array Value} {vT vN vR:Value} {ts:List Gm.Tm} {ns:List (List Int)} {rs:List Gm.Rl} {row:Option Nat}
theorem WRaw.grown (h:WRaw w B N R cs vT vN vR ts ns rs) (hg:w.grownBy w' row) (ho:Off9 w N row):WRaw w' B N R cs vT vN vR ts ns rs:=by
 have hb:some R≠row:=fun e=>by
  obtain⟨cs,T,h1,h2,_⟩:=ho.h R e.symm;exact aO h1 h2 _ h.b
 refine⟨(hg.block R (Ac.1 h.b).1 hb).trans h.b,AZ h.t hg ?_,AZ h.n hg ?_,h.r.grown hg ?_,h.hR⟩
 ·rcases row with _|g
  ·exact zax _
  ·obtain⟨cs,T,h1,_,h2,_⟩:=ho.h g rfl;exact aN h.t h1 (fun cur e=>by injection e with _ e;exact h2 e)
 ·rcases row with _|g
  ·exact zax _
  ·obtain⟨cs,T,h1,_,_,h2,_⟩:=ho.h g rfl;exact aN h.n h1 (fun cur e=>by injection e with _ e;exact h2 e)
 ·intro g e;obtain⟨cs,T,h1,_,_,_,h2⟩:=ho.h g e;rcases h2 with q|q
  ·exact .inl ⟨aO h1 q.2,aO h1 q.1⟩
  ·exact .inr q
theorem WRaw.below (h:WRaw w B N R cs vT vN vR ts ns rs) (hb:Below w.heap.size w w'):WRaw w' B N R cs vT vN vR ts ns rs:=h.grown (zab hb .none) (Off9.none _ _)
theorem WRaw.alloc (h:WRaw w B N R cs vT vN vR ts ns rs) (o:Obj):WRaw (w.alloc o) B N R cs vT vN vR ts ns rs:=h.grown (DP w o .none) (Off9.none _ _)
theorem WRaw.tm_put (h:WRaw w B N R cs vT vN vR ts ns rs) (ht:aX w' B v' ts') (hg:w.grownBy w' vT.ownBlock):WRaw w' B N R cs v' vN vR ts' ns rs:=by
 refine⟨zak h.b h.t (by decide) hg,ht,AZ h.n hg (zav h.n h.t (by decide)),h.r.grown hg (fun g e=>.inl ?_),h.hR⟩;obtain⟨_,cur,hc⟩:=zac h.t e;exact⟨aO hc (by decide),aO hc (by decide)⟩
theorem WRaw.n_put (h:WRaw w B N R cs vT vN vR ts ns rs) (ht:bJ w' B v' ns') (hg:w.grownBy w' vN.ownBlock):WRaw w' B N R cs vT v' vR ts ns' rs:=by
 refine⟨zak h.b h.n (by decide) hg,AZ h.t hg (zav h.t h.n (by decide)),ht,h.r.grown hg (fun g e=>.inl ?_),h.hR⟩;obtain⟨_,cur,hc⟩:=zac h.n e;exact⟨aO hc (by decide),aO hc (by decide)⟩
theorem WRaw.r_put (h:WRaw w B N R cs vT vN vR ts ns rs) {rs':List Gm.Rl} (ht:bB w' B N' v' rs') (hg:w.grownBy w' vR.ownBlock):WRaw w' B N' R cs vT vN v' ts ns rs':=by
 obtain⟨qs,_,h2,_⟩:=id h.r;exact⟨zak h.b h2 (by decide) hg,AZ h.t hg (zav h.t h2 (by decide)),AZ h.n hg (zav h.n h2 (by decide)),ht,h.hR⟩
theorem WRaw.set (h:WRaw w B N R cs vT vN vR ts ns rs) (j:Nat) (u:Value):WRaw (w.setCell ⟨R,j,none⟩ u) B N R (cs.setIfInBounds j u) vT vN vR ts ns rs:=by
 have hg:w.grownBy (w.setCell ⟨R,j,none⟩ u) (some R):=aF (AI _ _) j u;refine⟨AP w R j _ _ u h.b,AZ h.t hg (aN h.t h.b (fun cur e=>by injection e with _ e;cases e)),AZ h.n hg (aN h.n h.b (fun cur e=>by injection e with _ e;cases e)),h.r.grown hg (fun g e=>.inl ?_),h.hR⟩;injection e with e;subst e;exact⟨aO h.b (by decide),aO h.b (by decide)⟩
theorem WRaw.more {N':Nat} (h:WRaw w B N R cs vT vN vR ts ns rs) (hN:N<=N'):WRaw w B N' R cs vT vN vR ts ns rs:=⟨h.b,h.t,h.n,h.r.more hN,h.hR⟩
theorem WRaw.at (h:WRaw w B N R cs vT vN vR ts ns rs) (j:Nat):w.cell? ⟨R,j,none⟩=cs[j]?/\w.frozen? ⟨R,j,none⟩=false/\R<w.heap.size :=
 ⟨Aw w R j _ _ _ h.b,AD w R j _ _ h.b,(Ac.1 h.b).1⟩
theorem WRaw.lt (h:WRaw w B N R cs vT vN vR ts ns rs):R<w.heap.size:=(Ac.1 h.b).1
theorem WRaw.rd (h:WRaw w B N R cs vT vN vR ts ns rs) (hN:N<=w.heap.size) (z:Int):aQ w w.heap.size (.agg #[vT,vN,vR,.int .i64 z]) ⟨ts,ns,rs,z⟩:=by
 obtain⟨AT,cT,rfl,h1,h2⟩:=zbh h.t;obtain⟨AN,cN,rfl,h3,h4⟩:=zbM h.n;obtain⟨AR,cR,rfl,h5,h6⟩:=zbm h.r hN;exact⟨AT,cT,AN,cN,AR,cR,rfl,h1,h3,h5,h2,h4,h6⟩
end
def KpT (w w':World):Prop:=∀(g:Nat) (cs:Array Value) (T:TypeId),w.heap[g]?=some (.cells cs T (0,0))->T≠155->T≠85->w'.heap[g]?=some (.cells cs T (0,0))
def KpA (w w':World):Prop:=∀(g:Nat) (cs:Array Value) (T:TypeId),w.heap[g]?=some (.cells cs T (0,0))->T≠155->T≠85->T≠9->T≠74->w'.heap[g]?=some (.cells cs T (0,0))
theorem KpT.refl (w:World):KpT w w:=fun _ _ _ h _ _=>h
theorem KpA.refl (w:World):KpA w w:=fun _ _ _ h _ _ _ _=>h
theorem KpT.trans {a b c:World} (h:KpT a b) (k:KpT b c):KpT a c:=fun g cs T h1 h2 h3=>k g cs T (h g cs T h1 h2 h3) h2 h3
theorem KpA.trans {a b c:World} (h:KpA a b) (k:KpA b c):KpA a c:=fun g cs T h1 h2 h3 h4 h5=>k g cs T (h g cs T h1 h2 h3 h4 h5) h2 h3 h4 h5
theorem KpT.a (h:KpT w w'):KpA w w':=fun g cs T h1 h2 h3 _ _=>h g cs T h1 h2 h3
theorem KpT.below (h:Below w.heap.size w w'):KpT w w':=fun g _ _ h1 _ _=>(h.block g (Ac.1 h1).1).trans h1
theorem KpA.below {w w':World} (h:Below w.heap.size w w'):KpA w w':=(KpT.below h).a
theorem KpT.cells (h:w.grownBy w' (some g)) {T:TypeId} (hg:w.heap[g]?=some (.cells cs T (0,0))) (hT:T=155\/T=85):KpT w w':=fun k cs' T' h1 h2 h3=>by
 refine(h.block k (Ac.1 h1).1 (fun e=>?_)).trans h1;injection e with e;subst e;rw[hg]at h1;injection h1 with h1;injection h1 with _ h1;rcases hT with q|q
 ·exact h2 (h1.symm.trans q)
 ·exact h3 (h1.symm.trans q)
theorem KpA.cells (h:w.grownBy w' (some g)) {T:TypeId} (hg:w.heap[g]?=some (.cells cs T (0,0))) (hT:T=155\/T=85\/T=9\/T=74):KpA w w':=fun k cs' T' h1 h2 h3 h4 h5=>by
 refine(h.block k (Ac.1 h1).1 (fun e=>?_)).trans h1;injection e with e;subst e;rw[hg]at h1;injection h1 with h1;injection h1 with _ h1;rcases hT with q|q|q|q
 ·exact h2 (h1.symm.trans q)
 ·exact h3 (h1.symm.trans q)
 ·exact h4 (h1.symm.trans q)
 ·exact h5 (h1.symm.trans q)
theorem KpT.own {size:Nat} (ho:w.ownsRow base 85 size v n xs) (h:w.grownBy w' v.ownBlock):KpT w w':=by
 rcases hv:v.ownBlock with _|k
 ·rw[hv]at h;exact fun g _ _ h1 _ _=>(h.block g (Ac.1 h1).1 (by simp)).trans h1
 ·rw[hv]at h;obtain⟨_,cur,hc⟩:=zac ho hv;exact KpT.cells h hc (.inr rfl)
theorem KpA.own {size:Nat} {e:TypeId} (ho:w.ownsRow base e size v n xs) (h:w.grownBy w' v.ownBlock) (he:e=85\/e=9\/e=74):KpA w w':=by
 rcases hv:v.ownBlock with _|k
 ·rw[hv]at h;exact fun g _ _ h1 _ _ _ _=>(h.block g (Ac.1 h1).1 (by simp)).trans h1
 ·rw[hv]at h;obtain⟨_,cur,hc⟩:=zac ho hv;exact KpA.cells h hc (.inr he)
theorem KpT.set {R:Nat} (h:WRaw w B N R cs vT vN vR ts ns rs) (j:Nat) (u:Value):KpT w (w.setCell ⟨R,j,none⟩ u):=KpT.cells (aF (AI w (some R)) j u) h.b (.inl rfl)
def Wk (w:World) (B N R:Nat) (ts:List Gm.Tm) (ns:List (List Int)) (rs:List Gm.Rl) (lv:Int):Prop:=∃vT vN vR,WRaw w B N R (wC vT vN vR lv) vT vN vR ts ns rs
theorem Wk.below {w w':World} {B N R:Nat} {ts:List Gm.Tm} {ns:List (List Int)} {rs:List Gm.Rl} {lv:Int} (h:Wk w B N R ts ns rs lv) (hb:Below w.heap.size w w'):Wk w' B N R ts ns rs lv:=by
 obtain⟨vT,vN,vR,h⟩:=h;exact⟨vT,vN,vR,h.below hb⟩
theorem Wk.alloc {w:World} {B N R:Nat} {ts:List Gm.Tm} {ns:List (List Int)} {rs:List Gm.Rl} {lv:Int} (h:Wk w B N R ts ns rs lv) (o:Obj):Wk (w.alloc o) B N R ts ns rs lv:=by
 obtain⟨vT,vN,vR,h⟩:=h;exact⟨vT,vN,vR,h.alloc o⟩
theorem Wk.more {w:World} {B N N' R:Nat} {ts:List Gm.Tm} {ns:List (List Int)} {rs:List Gm.Rl} {lv:Int} (h:Wk w B N R ts ns rs lv) (hN:N<=N'):Wk w B N' R ts ns rs lv:=by
 obtain⟨vT,vN,vR,h⟩:=h;exact⟨vT,vN,vR,h.more hN⟩
theorem Wk.lt {w:World} {B N R:Nat} {ts:List Gm.Tm} {ns:List (List Int)} {rs:List Gm.Rl} {lv:Int} (h:Wk w B N R ts ns rs lv):R<w.heap.size/\B<=R:=by
 obtain⟨vT,vN,vR,h⟩:=h;exact⟨h.lt,h.hR⟩
end Go.Proofs.YtjjbaehamplnaaaGreat
