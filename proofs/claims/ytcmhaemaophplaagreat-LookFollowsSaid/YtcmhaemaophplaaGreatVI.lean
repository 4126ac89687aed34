/- Part of the proofs over this program: Sym9, Prj9, Prod9, BldY, Build9, Rcopy, Rcopy2. -/
import Derived.Test.YtcmhaemaophplaaGreatVH
namespace Go.Proofs.YtcmhaemaophplaaGreat
set_option maxRecDepth 100000
set_option maxHeartbeats 40000000
open Go.RowKit
theorem zgr {ts ts':List Gm.Tm} {x:Tok} {n:Int} (h:Gm.sym ts x=.ok (ts',n)) (he:x.t≠[101,114,114,111,114]):Gm.put ts x=.ok (ts',n)/\(0<=Gm.find (Gm.names ts) x.t\/(Gm.find (Gm.names ts) x.t<0/\T.isLit x.t=true)):=by
 unfold Gm.sym at h;split at h
 ·rename_i q
  refine⟨h,?_⟩;rcases q with q|q|q
  ·exact .inl q
  ·by_cases h0:0<=Gm.find (Gm.names ts) x.t
   ·exact .inl h0
   ·exact .inr ⟨by omega,q⟩
  ·exact absurd q he
 ·cases h
theorem zcP (L:List Int) (B N R:Nat) (ts ts':List Gm.Tm) (ns:List (List Int)) (rs:List Gm.Rl) (lv n:Int) (x:Tok) (may:Bool) (w:World) (hw:Wk w B N R ts ns rs lv) (hf:Gm.Fit ⟨ts,ns,rs,0⟩) (hx:K.Tx x.t) (he:x.t≠[101,114,114,111,114]) (hN:N<=w.heap.size) (hB:B<=w.heap.size) (hlo:(0<=Gm.find ns x.t/\may=true/\ts'=ts/\n = -1-Gm.find ns x.t)\/(Gm.find ns x.t<0/\Gm.sym ts x=.ok (ts',n))) (h24:ts.length<=24) (h16:ns.length<=16) :
  Calls Tryz.prog 95 #[.pointer (some ⟨R,0,none⟩),bO L x,.bool may] w fun e w'=>e=.returned (.int .i64 n)/\Wk w' B N R ts' ns rs lv/\Below B w w'/\KpT w w':=by
 have HW:=aA hw;obtain⟨vT,vN,vR,hwr⟩:=HW.o;obtain⟨⟨AT,cT,rfl⟩,⟨AN,cN,rfl⟩,⟨AR,cR,rfl⟩⟩:=zag hwr;have HRW:=aA hwr;have HF:=aA hf;have HX:=aA hx;have hRw:=hwr.lt;clear hwr;have HTM:=aA (fun(y:World) (lv':Int) (h:WRaw y B N R (wC (.slice AT ts.length cT) (.slice AN ns.length cN) (.slice AR rs.length cR) lv') (.slice AT ts.length cT) (.slice AN ns.length cN) (.slice AR rs.length cR) ts ns rs) (hy:N<=y.heap.size)=>zcA hf hx h hy);have HNO:=aA (fun(y:World) (lv':Int) (h:WRaw y B N R (wC (.slice AT ts.length cT) (.slice AN ns.length cN) (.slice AR rs.length cR) lv') (.slice AT ts.length cT) (.slice AN ns.length cN) (.slice AR rs.length cR) ts ns rs) (hy:N<=y.heap.size)=>zca hf hx h hy);have HLT:=aA (fun(y:World)=>zcS x.t hx.1 y);have HTE:=aA (fun(hp:Gm.put ts x=.ok (ts',n)) (y:World) (h:Wk y B N R ts ns rs lv) (hy:N<=y.heap.size) (hz:B<=y.heap.size)=>zdo L B N R ts ts' ns rs lv n x y h hf hx hy hz hp h24);have HSY:=aA (fun h=>zgr (ts:=ts) (ts':=ts') (x:=x) (n:=n) h he);unfold bO at HTE ⊢;have hBr:=hB;generalize Fl.fl (Pl.pos (L.take x.o)).1=X at *;generalize Fl.fl (Pl.pos (L.take x.o)).2=Y at *;obtain⟨w1,hw1⟩:∃y,y=w.alloc (.cells #[.string (K.str x.t),.complex .f64 X Y] 127):=⟨_,rfl⟩
 have HB01:Hid (Below w.heap.size w w1):=aA (by rw[hw1];exact(Below.refl _ _).alloc (Nat.le_refl _) _);have HDw1:Hid (w1.heap[w.heap.size]?=some (.cells #[.string (K.str x.t),.complex .f64 X Y] 127 (0,0))):=aA (by rw[hw1];exact heap_alloc_new w _);have HQw1:=aA (HRW.o.below HB01.o);have HNw1:Hid (N<=w1.heap.size):=aA (by have:=HB01.o.size;omega);generalize K.str x.t=sx at *;have HLO:=aA hlo;clear hlo hf hx hw
 go_enter Tryz.func95,Tryz.ntmps95
 go_wp2_with fail
 try rw[<-hw1]
 clear hw1;obtain⟨p0,_,hRs⟩:=HQw1.o.at 0;have p1:=(HQw1.o.at 1).1;have p2:=(HQw1.o.at 2).1;have p3:=(HQw1.o.at 3).1;simp only[wC,List.getElem?_toArray,List.getElem?_cons_zero,List.getElem?_cons_succ]at p0 p1 p2 p3;have hDs:w.heap.size<w1.heap.size:=(Array.getElem?_eq_some_iff.1 HDw1.o).1;have t0:w1.cell? ⟨w.heap.size,0,none⟩=some (.string sx):=by rw[cell_of_row w1 _ 0 _ _ _ HDw1.o];rfl
 have Q0:=fun y:Calm.On w1.heap.size w1=>(y.2.cell (p:=⟨R,0,none⟩) hRs).trans p0;have Q1:=fun y:Calm.On w1.heap.size w1=>(y.2.cell (p:=⟨R,1,none⟩) hRs).trans p1;have Q2:=fun y:Calm.On w1.heap.size w1=>(y.2.cell (p:=⟨R,2,none⟩) hRs).trans p2;have Q3:=fun y:Calm.On w1.heap.size w1=>(y.2.cell (p:=⟨R,3,none⟩) hRs).trans p3;have Q4:=fun y:Calm.On w1.heap.size w1=>(y.2.cell (p:=⟨w.heap.size,0,none⟩) hDs).trans t0;refine CalmN.region_tree (fun x=>∃y:Calm.On w1.heap.size w1,x=y.1) (.one [0,1,2,3,4,5] 6 (.fin [7])) (by kernel_rfl) (by kernel_rfl) (fun _ _ d _ _ h=>by cases d <;> exact h) ⟨⟨w1.drew,aB (Below.refl _ _) 1⟩,rfl⟩ ?_;simp only[CalmN.wpT,CalmN.wpSt,CalmN.pickOps,List.getElem?_toArray,List.getElem?_cons_zero,List.getElem?_cons_succ];repeat (go_big_quiet_step (fail))
 refine wpQuiet_nil ?_;clear Q0 Q1 Q2 Q3 Q4 p0 p1 p2 p3 t0;intro KK hKK;rw[if_pos (by rfl)];go_wp2_with fail
 refine(HNO.o w1.drew _ HQw1.o.drew9 HNw1.o).mono ?_;rintro _ w2 ⟨rfl,hb2⟩;have hb12:Below w1.heap.size w1 w2:=(aB (Below.refl w1.heap.size w1) 1).trans hb2;have HBw2:=aA hb12;have HQw2:=aA (HQw1.o.below hb12);have HDw2:=aA ((hb12.block _ hDs).trans HDw1.o);have HNw2:=aA (Nat.le_trans HNw1.o hb12.size);clear hb2 hb12;go_wp2_with fail
 refine hKK _ _ ⟨⟨w2,HBw2.o⟩,rfl⟩ (fun x=>∃y:Calm.On w1.heap.size w1,x=y.1) (fun _ h=>h) ⟨⟨w2,HBw2.o⟩,rfl⟩ ?_;repeat (go_big_quiet_step (fail))
 refine wpQuiet_nil ?_;clear hKK hDs hRs;have HB2:=aA (HB01.o.trans (HBw2.o.mono HB01.o.size));rcases HLO.o with⟨h0,h1,h2,h3⟩|⟨h0,hsy⟩
 ·subst h1;have HEQ:=aA (And.intro h2 h3);clear h2 h3;have hzl:=Gm.find_lt ns x.t;generalize Gm.find ns x.t=z at *;have hwr:wrap64 (-1-z) = -1-z:=by unfold wrap64;omega
  go_wp2;go_ret
  exact⟨by rw[HEQ.o.2];simp,by rw[HEQ.o.1];exact⟨_,_,_,HQw2.o⟩,HB2.o.mono hB,KpT.below HB2.o⟩
 ·obtain⟨hput,hc⟩:=HSY.o hsy;have h0':¬(0:Int)<=Gm.find ns x.t:=by omega
  have HTP:=aA (HTE.o hput);clear hsy hput HTE HLO HSY;generalize Gm.find ns x.t=z at *;have hmz:(decide (0<=z)&&may)=false:=by simp[h0']
  go_wp2_with fail
  obtain⟨p0,_,hRs⟩:=HQw2.o.at 0;have p1:=(HQw2.o.at 1).1;have p2:=(HQw2.o.at 2).1;have p3:=(HQw2.o.at 3).1;simp only[wC,List.getElem?_toArray,List.getElem?_cons_zero,List.getElem?_cons_succ]at p0 p1 p2 p3;have hDs:w.heap.size<w2.heap.size:=(Array.getElem?_eq_some_iff.1 HDw2.o).1;have u0:w2.cell? ⟨w.heap.size,0,none⟩=some (.string sx):=by rw[cell_of_row w2 _ 0 _ _ _ HDw2.o];rfl
  have Q0:=fun y:Calm.On w2.heap.size w2=>(y.2.cell (p:=⟨R,0,none⟩) hRs).trans p0;have Q1:=fun y:Calm.On w2.heap.size w2=>(y.2.cell (p:=⟨R,1,none⟩) hRs).trans p1;have Q2:=fun y:Calm.On w2.heap.size w2=>(y.2.cell (p:=⟨R,2,none⟩) hRs).trans p2;have Q3:=fun y:Calm.On w2.heap.size w2=>(y.2.cell (p:=⟨R,3,none⟩) hRs).trans p3;have Q4:=fun y:Calm.On w2.heap.size w2=>(y.2.cell (p:=⟨w.heap.size,0,none⟩) hDs).trans u0;clear u0;refine CalmN.region_tree (fun x=>∃y:Calm.On w2.heap.size w2,x=y.1) (.one [0,1,2,3,4,5] 6 (.one [7,8,9,10] 11 (.fin [12,13,14,15,16,17,18]))) (by kernel_rfl) (by kernel_rfl) (fun _ _ d _ _ h=>by cases d <;> exact h) ⟨⟨w2.drew,aB (Below.refl _ _) 1⟩,rfl⟩ ?_;simp only[CalmN.wpT,CalmN.wpSt,CalmN.pickOps,List.getElem?_toArray,List.getElem?_cons_zero,List.getElem?_cons_succ];repeat (go_big_quiet_step (fail))
  refine wpQuiet_nil ?_;intro KK hKK;rw[if_pos (by rfl)];go_wp2_with fail
  refine(HTM.o w2.drew _ HQw2.o.drew9 HNw2.o).mono ?_;rintro _ w3 ⟨rfl,hb2⟩;have hb12:Below w2.heap.size w2 w3:=(aB (Below.refl w2.heap.size w2) 1).trans hb2;have HBw3:=aA hb12;have HQw3:=aA (HQw2.o.below hb12);have HDw3:=aA ((hb12.block _ hDs).trans HDw2.o);have HNw3:=aA (Nat.le_trans HNw2.o hb12.size);clear hb2 hb12;go_wp2_with fail
  refine hKK _ _ ⟨⟨w3,HBw3.o⟩,rfl⟩ (fun x=>∃y:Calm.On w2.heap.size w2,x=y.1) (fun _ h=>h) ⟨⟨w3,HBw3.o⟩,rfl⟩ ?_;have HB3:=aA (HB2.o.trans (HBw3.o.mono HB2.o.size));rcases hc with hc|⟨hc,hlit⟩
  ·have hcT:decide (0<=Gm.find (Gm.names ts) x.t)=true:=decide_eq_true hc;generalize Gm.find (Gm.names ts) x.t=z2 at *;repeat (go_big_quiet_step (fail))
   refine wpQuiet_nil ?_;intro KK2 hKK2;rw[if_neg (by exact(fun h=>absurd (show false=true from h) (by decide)))];refine hKK2 _ _ ⟨⟨w3,HBw3.o⟩,rfl⟩ (fun x=>∃y:Calm.On w2.heap.size w2,x=y.1) (fun _ h=>h) ⟨⟨w3,HBw3.o⟩,rfl⟩ ?_;simp only[Act.put,List.setIfInBounds_toArray,List.set_cons_succ,List.set_cons_zero];repeat (go_big_quiet_step (fail))
   refine wpQuiet_nil ?_;have hDs3:w.heap.size<w3.heap.size:=(Array.getElem?_eq_some_iff.1 HDw3.o).1;have t0:w3.cell? ⟨w.heap.size,0,none⟩=some (.string sx):=by rw[cell_of_row w3 _ 0 _ _ _ HDw3.o];rfl
   have t1:w3.cell? ⟨w.heap.size,1,none⟩=some (.complex .f64 X Y):=by rw[cell_of_row w3 _ 1 _ _ _ HDw3.o];rfl
   have HC:=aA (HTP.o w3 ⟨_,_,_,HQw3.o⟩ HNw3.o (Nat.le_trans hB HB3.o.size));clear Q0 Q1 Q2 Q3 Q4 p0 p1 p2 p3;go_wp2_with fail
   refine HC.o.mono ?_;rintro _ w4 ⟨rfl,hw4,hb4,hk4⟩;have HFI:=aA (And.intro hw4 (And.intro ((HB3.o.mono hB).trans hb4) ((KpT.below HB3.o).trans hk4)));clear hw4 hb4 hk4 t0 t1;go_wp2;go_ret
   exact⟨rfl,HFI.o⟩
  ·have hcF:decide (0<=Gm.find (Gm.names ts) x.t)=false:=decide_eq_false (by omega);rw[hlit]at HLT;generalize Gm.find (Gm.names ts) x.t=z2 at *;repeat (go_big_quiet_step (fail))
   refine wpQuiet_nil ?_;intro KK2 hKK2;rw[if_pos (by rfl)];go_wp2_with fail
   refine(HLT.o _).mono ?_;rintro _ _ ⟨rfl,rfl⟩;go_wp2_with fail
   refine hKK2 _ _ ⟨⟨w3,HBw3.o⟩,rfl⟩ (fun x=>∃y:Calm.On w2.heap.size w2,x=y.1) (fun _ h=>h) ⟨⟨w3,HBw3.o⟩,rfl⟩ ?_;repeat (go_big_quiet_step (fail))
   refine wpQuiet_nil ?_;have hDs3:w.heap.size<w3.heap.size:=(Array.getElem?_eq_some_iff.1 HDw3.o).1;have t0:w3.cell? ⟨w.heap.size,0,none⟩=some (.string sx):=by rw[cell_of_row w3 _ 0 _ _ _ HDw3.o];rfl
   have t1:w3.cell? ⟨w.heap.size,1,none⟩=some (.complex .f64 X Y):=by rw[cell_of_row w3 _ 1 _ _ _ HDw3.o];rfl
   have HC:=aA (HTP.o w3 ⟨_,_,_,HQw3.o⟩ HNw3.o (Nat.le_trans hB HB3.o.size));clear Q0 Q1 Q2 Q3 Q4 p0 p1 p2 p3;go_wp2_with fail
   refine HC.o.mono ?_;rintro _ w4 ⟨rfl,hw4,hb4,hk4⟩;have HFI:=aA (And.intro hw4 (And.intro ((HB3.o.mono hB).trans hb4) ((KpT.below HB3.o).trans hk4)));clear hw4 hb4 hk4 t0 t1;go_wp2;go_ret
   exact⟨rfl,HFI.o⟩
theorem KpT.beyond {w wr w':World} {row:Option Nat} (h:KpT w wr) (hg:wr.grownBy w' row) (hr:∀k,row=some k->w.heap.size<=k):KpT w w':=fun g cs T h1 h2 h3=>by
 have hk:=h g cs T h1 h2 h3;refine(hg.block g (Array.getElem?_eq_some_iff.1 hk).1 (fun e=>?_)).trans hk
 have:=hr g e.symm
 have:=(Array.getElem?_eq_some_iff.1 h1).1
 omega
theorem aU.kpT {w w':World} {base:Nat} {v:Value} {xs:List Int} (h:aU w base v xs) (hk:KpT w w'):aU w' base v xs:=by
 refine⟨h.1,?_⟩;rcases h.2 with h0|⟨g,cap,cur,e,hb,hg,hr⟩
 ·exact .inl h0
 ·exact .inr ⟨g,cap,cur,e,hb,hk g cur _ hg (by decide) (by decide),hr⟩
theorem aU.off9 {w:World} {N:Nat} {v:Value} {xs:List Int} (h:aU w N v xs):Off9 w N v.ownBlock:=⟨fun g e=>by
 obtain⟨h1,cur,h2⟩:=aI h e;exact⟨_,_,h2,by decide,by decide,by decide,.inr h1⟩⟩
theorem Wk.grown {w w':World} {B N R:Nat} {ts:List Gm.Tm} {ns:List (List Int)} {rs:List Gm.Rl} {lv:Int} {row:Option Nat} (h:Wk w B N R ts ns rs lv) (hg:w.grownBy w' row) (ho:Off9 w N row):Wk w' B N R ts ns rs lv:=by
 obtain⟨vT,vN,vR,h⟩:=h;exact⟨vT,vN,vR,h.grown hg ho⟩
structure PrJ (w0 wr:World) (B R Q:Nat) (ns:List (List Int)) (rs:List Gm.Rl) (lv:Int) (ts:List Gm.Tm) (PC:Array Value) (lf:Int) (v:Value) (acc:List Int) (p:Int):Prop where
 b:Wk wr B w0.heap.size R ts ns rs lv
 f:Gm.Fit ⟨ts,ns,rs,0⟩
 t:ts.length<=24
 w:Below B w0 wr
 k:KpT w0 wr
 q:w0.heap.size<Q
 pb:wr.heap[w0.heap.size]?=some (.cells PC 135 (0,0))
 qb:wr.heap[Q]?=some (.cells #[.int .i64 lf,v,.int .i64 p] 48 (0,0))
 o:aU wr w0.heap.size v acc
section
variable {w0 wr w':World} {B R Q:Nat} {ns:List (List Int)} {rs:List Gm.Rl} {lv:Int} {ts:List Gm.Tm} {PC:Array Value} {lf p p':Int} {v v':Value} {acc acc':List Int}
theorem PrJ.alloc (h:PrJ w0 wr B R Q ns rs lv ts PC lf v acc p) (o:Obj) (hB:B<=w0.heap.size):PrJ w0 (wr.alloc o) B R Q ns rs lv ts PC lf v acc p :=
 ⟨h.b.alloc o,h.f,h.t,h.w.alloc (Nat.le_trans hB h.w.size) o,h.k.trans (KpT.below ((Below.refl _ _).alloc (Nat.le_refl _) o)),h.q,(Below.heap_alloc wr o _ (Array.getElem?_eq_some_iff.1 h.pb).1).trans h.pb,(Below.heap_alloc wr o _ (Array.getElem?_eq_some_iff.1 h.qb).1).trans h.qb,h.o.alloc o⟩
theorem PrJ.call (h:PrJ w0 wr B R Q ns rs lv ts PC lf v acc p) {ts':List Gm.Tm} (hb:Wk w' B w0.heap.size R ts' ns rs lv) (hw:Below B wr w') (hk:KpT wr w') (hf:Gm.Fit ⟨ts',ns,rs,0⟩) (ht:ts'.length<=24):PrJ w0 w' B R Q ns rs lv ts' PC lf v acc p :=
 ⟨hb,hf,ht,h.w.trans hw,h.k.trans hk,h.q,hk _ _ _ h.pb (by decide) (by decide),hk _ _ _ h.qb (by decide) (by decide),h.o.kpT hk⟩
theorem PrJ.off (hq:w0.heap.size<Q) (qb:wr.heap[Q]?=some (.cells #[.int .i64 lf,v,.int .i64 p] 48 (0,0))):Off9 wr w0.heap.size (some Q):=⟨fun g e=>by
 injection e with e;subst e;exact⟨_,_,qb,by decide,by decide,by decide,.inr (by omega)⟩⟩
theorem PrJ.setQ (h:PrJ w0 wr B R Q ns rs lv ts PC lf v acc p) (j:Nat) (u:Value) (hu:(#[.int .i64 lf,v,.int .i64 p]:Array Value).setIfInBounds j u=#[.int .i64 lf,v',.int .i64 p']) (ho:aU (wr.setCell ⟨Q,j,none⟩ u) w0.heap.size v' acc) (hB:B<=w0.heap.size):PrJ w0 (wr.setCell ⟨Q,j,none⟩ u) B R Q ns rs lv ts PC lf v' acc p':=by
 have hg:wr.grownBy (wr.setCell ⟨Q,j,none⟩ u) (some Q):=aF (World.grownBy.refl _ _) j u;have hq:=h.q;refine⟨h.b.grown hg (PrJ.off h.q h.qb),h.f,h.t,h.w.setCell (by simp only;omega) u,h.k.beyond hg (fun k e=>by injection e with e;omega),h.q,(Below.heap_setCell wr ⟨Q,j,none⟩ u w0.heap.size (by simp only;omega)).trans h.pb,?_,ho⟩;rw[<-hu];exact heap_setCell_same wr _ j _ _ u h.qb
theorem PrJ.app (h:PrJ w0 wr B R Q ns rs lv ts PC lf v acc p) (ho:aU w' w0.heap.size v' acc') (hg:wr.grownBy w' v.ownBlock) (hB:B<=w0.heap.size) :
  (w'.heap[Q]?=some (.cells #[.int .i64 lf,v,.int .i64 p] 48 (0,0)))/\PrJ w0 (w'.setCell ⟨Q,1,none⟩ v') B R Q ns rs lv ts PC lf v' acc' p:=by
 have hb':=h.b.grown hg h.o.off9;have pb':=zai h.pb h.o (by decide) hg;have qb':=zai h.qb h.o (by decide) hg;have hN:∀k,v.ownBlock=some k->w0.heap.size<=k:=fun k e=>(aI h.o e).1;have hw':=h.w.grown hg (Nat.le_trans hB h.w.size) (fun k e=>Nat.le_trans hB (hN k e));have hk':=h.k.beyond hg hN;have hq:=h.q;have hg2:w'.grownBy (w'.setCell ⟨Q,1,none⟩ v') (some Q):=aF (World.grownBy.refl _ _) 1 v';exact⟨qb',hb'.grown hg2 (PrJ.off h.q qb'),h.f,h.t,hw'.setCell (by simp only;omega) v',hk'.beyond hg2 (fun k e=>by injection e with e;omega),h.q,(Below.heap_setCell w' ⟨Q,1,none⟩ v' w0.heap.size (by simp only;omega)).trans pb',heap_setCell_same w' _ 1 _ _ v' qb',ho.set_away qb' 1 v'⟩
end
theorem zdq {ns:List (List Int)} {rs:List Gm.Rl} {ts ts':List Gm.Tm} {x:Tok} {z:Int} (h:Gm.symR ns ts x=.ok (ts',z)) (hx:K.Tx x.t) (hf:Gm.Fit ⟨ts,ns,rs,0⟩):((0<=Gm.find ns x.t/\true=true/\ts'=ts/\z = -1-Gm.find ns x.t)\/(Gm.find ns x.t<0/\Gm.sym ts x=.ok (ts',z)))/\Gm.Fit ⟨ts',ns,rs,0⟩:=by
 unfold Gm.symR at h;split at h
 ·rename_i h0
  injection h with h;injection h with h1 h2;subst h1;exact⟨.inl ⟨h0,rfl,rfl,h2.symm⟩,hf⟩
 ·rename_i h0
  refine⟨.inr ⟨by omega,h⟩,?_⟩;unfold Gm.sym at h;split at h
  ·exact Fit.put hf hx h
  ·cases h
theorem zdr {ns:List (List Int)} {rs:List Gm.Rl} {ts ts':List Gm.Tm} {x:Tok} {z:Int} (h:Gm.symP ns ts x=.ok (ts',z)) (hx:K.Tx x.t) (hf:Gm.Fit ⟨ts,ns,rs,0⟩):((0<=Gm.find ns x.t/\false=true/\ts'=ts/\z = -1-Gm.find ns x.t)\/(Gm.find ns x.t<0/\Gm.sym ts x=.ok (ts',z)))/\Gm.Fit ⟨ts',ns,rs,0⟩:=by
 unfold Gm.symP at h;split at h
 ·cases h
 ·rename_i h0
  refine⟨.inr ⟨by omega,h⟩,?_⟩;unfold Gm.sym at h;split at h
  ·exact Fit.put hf hx h
  ·cases h
end Go.Proofs.YtcmhaemaophplaaGreat
namespace Go.Proofs.YtcmhaemaophplaaGreat
set_option maxRecDepth 100000
set_option maxHeartbeats 40000000
open Go.RowKit
theorem zja {ts ts':List Gm.Tm} {x:Tok} {z:Int} (h:Gm.sym ts x=.ok (ts',z)) (h24:ts.length<=24):Gm.In z/\ts'.length<=24:=by
 unfold Gm.sym at h;split at h
 ·refine⟨?_,zjg h24 h⟩;unfold Gm.In;rcases Gm.put_ok h with⟨j,_,_,hj,hl,_⟩|⟨_,_,hj,_⟩ <;> omega
 ·cases h
theorem zgs {ns:List (List Int)} {ts ts':List Gm.Tm} {x:Tok} {z:Int} (h:Gm.symR ns ts x=.ok (ts',z)) (h24:ts.length<=24) (h16:ns.length<=16):Gm.In z/\ts'.length<=24:=by
 unfold Gm.symR at h;split at h
 ·rename_i h0
  injection h with h;injection h with h1 h2
  have:=Gm.find_lt ns x.t
  subst h1;refine⟨?_,h24⟩;unfold Gm.In;omega
 ·exact zja h h24
theorem zgt {ns:List (List Int)} {ts ts':List Gm.Tm} {x:Tok} {z:Int} (h:Gm.symP ns ts x=.ok (ts',z)) (h24:ts.length<=24):Gm.In z/\ts'.length<=24:=by
 unfold Gm.symP at h;split at h
 ·cases h
 ·exact zja h h24
theorem Fit.more {ts:List Gm.Tm} {ns:List (List Int)} {rs:List Gm.Rl} {r:Gm.Rl} (h:Gm.Fit ⟨ts,ns,rs,0⟩) (hr:Gm.In r.l/\Gm.In r.p/\∀z∈r.r,Gm.In z):Gm.Fit ⟨ts,ns,rs++[r],0⟩:=by
 refine⟨h.t,h.n,fun x hx=>?_,h.s⟩;rcases List.mem_append.1 hx with q|q
 ·exact h.r x q
 ·simp at q;subst q;exact hr
theorem find_in (ns:List (List Int)) (s:List Int) (h:ns.length<=16):Gm.In (Gm.find ns s):=by
 have h1:=Gm.find_lt ns s;have h2:=Gm.find_ge ns s;unfold Gm.In;omega
theorem zb4 {ns:List (List Int)} {ts ts':List Gm.Tm} {rs rs':List Gm.Rl} {pr:Y.Prd} (h:Gm.prod1 ns ts rs pr=.ok (ts',rs')):rs.length≠40/\∃tz az pz,Gm.rights ns ts [] (-1) pr.r=.ok (tz,az,pz)/\((pr.p=none/\ts'=tz/\rs'=rs++[⟨Gm.find ns pr.l.t,az,pz⟩]) \/ ∃x z,pr.p=some x/\Gm.symP ns tz x=.ok (ts',z)/\rs'=rs++[⟨Gm.find ns pr.l.t,az,z⟩]):=by
 unfold Gm.prod1 at h;split at h
 ·cases h
 ·rename_i h40
  obtain⟨⟨tz,az,pz⟩,h1,h2⟩:=Gm.R.bind_eq h;refine⟨h40,tz,az,pz,h1,?_⟩;cases hp:pr.p with
  | none =>
   rw[hp]at h2;injection h2 with h2;injection h2 with a b;exact .inl ⟨rfl,a.symm,b.symm⟩
  | some x =>
   rw[hp]at h2;obtain⟨⟨t2,z⟩,h3,h4⟩:=Gm.R.bind_eq h2;injection h4 with h4;injection h4 with a b;simp only at a b;subst a;exact .inr ⟨x,z,rfl,h3,b.symm⟩
theorem zdK {s:List Int} (h:Gm.named s=true):(K.str s).toList.isEmpty=false:=by
 have hne:s≠[]:=fun e=>by rw[e]at h;simp[Gm.named,T.isName,T.isLit]at h
 have hsn:¬(K.str s).toList=[]:=by rw[K.str_list];intro e;exact hne (by simpa[K.bytes] using e)
 simpa using hsn
theorem zmJ (L:List Int) (B R:Nat) (ts ts':List Gm.Tm) (ns:List (List Int)) (rs rs':List Gm.Rl) (lv:Int) (pr:Y.Prd) (A:Option Addr) (c:Nat) (w:World) (hw:Wk w B w.heap.size R ts ns rs lv) (hf:Gm.Fit ⟨ts,ns,rs,0⟩) (hr:zkF L w B A pr.r) (hx:K.Tx pr.l.t) (hxr:∀x∈pr.r,K.Tx x.t/\Gm.named x.t=true/\x.t≠[101,114,114,111,114]) (hxp:∀x,pr.p=some x->K.Tx x.t/\Gm.named x.t=true/\x.t≠[101,114,114,111,114])
  (hB:B<=w.heap.size) (h24:ts.length<=24) (h16:ns.length<=16) (hrs:rs.length<=40) (hrl:pr.r.length<=1000) (hp:Gm.prod1 ns ts rs pr=.ok (ts',rs')) :
  Calls Tryz.prog 66 #[.pointer (some ⟨R,0,none⟩),.agg (zb6 L pr A c)] w fun e w'=>e=.returned (.tuple #[])/\(Wk w' B w'.heap.size R ts' ns rs' lv/\Gm.Fit ⟨ts',ns,rs',0⟩/\ts'.length<=24)/\Below B w w'/\KpA w w':=by
 have SC:=fun a w m X Y=>show(store a (.complex .f64 X Y) m).run Tryz.prog w=stored Tryz.prog w a (.complex .f64 X Y) m from run_store _ w a _ m rfl;obtain⟨h40,tz,az,pz,hrt,hlast⟩:=zb4 hp;have HRT:=aA hrt;have HLAST:=aA hlast;have HXP:=aA hxp;have HR:=aA hr;have HDX:=aA (fun(i:Nat) (hi:i<pr.r.length)=>hxr _ (List.getElem_mem hi));have HF:=aA hf;obtain⟨vT,vN,vR,hwr⟩:=id hw;obtain⟨⟨AT,cT,rfl⟩,⟨AN,cN,rfl⟩,⟨AR,cR,rfl⟩⟩:=zag hwr;have HRW:=aA hwr;have hR0:=hwr.lt;have HNO:=aA (fun(y:World) (lv':Int) (h:WRaw y B w.heap.size R (wC (.slice AT ts.length cT) (.slice AN ns.length cN) (.slice AR rs.length cR) lv') (.slice AT ts.length cT) (.slice AN ns.length cN) (.slice AR rs.length cR) ts ns rs) (hy:w.heap.size<=y.heap.size)=>zca hf hx h hy);obtain⟨lf,hlf⟩:∃lf,lf=Gm.find ns pr.l.t:=⟨_,rfl⟩
 have HLI:Hid (Gm.In lf):=aA (by rw[hlf];exact find_in ns _ h16);rw[<-hlf]at HNO HLAST;clear hlf;obtain⟨w1,hw1⟩:∃w1,w1=w.alloc (.cells (zb6 L pr A c) 135):=⟨_,rfl⟩
 have HQw1:Hid (WRaw w1 B w.heap.size R (wC (.slice AT ts.length cT) (.slice AN ns.length cN) (.slice AR rs.length cR) lv) (.slice AT ts.length cT) (.slice AN ns.length cN) (.slice AR rs.length cR) ts ns rs):=aA (by rw[hw1];exact hwr.alloc _);have HP1:Hid (w1.heap[w.heap.size]?=some (.cells (zb6 L pr A c) 135 (0,0))):=aA (by rw[hw1];exact heap_alloc_new w _);have hs1:w1.heap.size=w.heap.size+1:=by rw[hw1];simp
 have HW1:Hid (Below w.heap.size w w1):=aA (by rw[hw1];exact(Below.refl _ w).alloc (Nat.le_refl _) _);have hR1:R<w1.heap.size:=by omega
 have hd1:w.heap.size<w1.heap.size:=by omega
 have q0:∀y:Calm.On w1.heap.size w1,y.1.cell? ⟨R,0,none⟩=some (.slice AT ts.length cT):=fun y=>((HQw1.o.below y.2).at 0).1;have q1:∀y:Calm.On w1.heap.size w1,y.1.cell? ⟨R,1,none⟩=some (.slice AN ns.length cN):=fun y=>((HQw1.o.below y.2).at 1).1;have q2:∀y:Calm.On w1.heap.size w1,y.1.cell? ⟨R,2,none⟩=some (.slice AR rs.length cR):=fun y=>((HQw1.o.below y.2).at 2).1;have q3:∀y:Calm.On w1.heap.size w1,y.1.cell? ⟨R,3,none⟩=some (.int .i64 0):=fun y=>((HQw1.o.below y.2).at 3).1;have D0:∀y:Calm.On w1.heap.size w1,y.1.cell? ⟨w.heap.size,0,none⟩=some (.string (K.str pr.l.t)):=fun y=>cell_of_row y.1 _ 0 _ _ _ ((y.2.block w.heap.size hd1).trans HP1.o);have HRB:=aA (fun y=>zi0 lf y);unfold zb6 at HP1 hw1 ⊢;clear hwr hw hf hr hx hxr hxp hp hrt hlast;generalize rfX L pr.l=X0 at *;generalize rfY L pr.l=Y0 at *;generalize K.str pr.l.t=s0 at *
 go_enter Tryz.func66,Tryz.ntmps66
 go_upto_region 1 with fail
 rw[<-hw1];clear hw1;have HDa:=aA (aB (Below.refl w1.heap.size w1) 1);have HDb:=aA (fun o=>(aB (Below.refl w1.heap.size w1) 1).alloc (Nat.le_refl _) o);have RB:=HRB.o;refine CalmN.region_tree (fun x=>∃y:Calm.On w1.heap.size w1,x=y.1) (.two [0,1,2,3,4,5,6] 7 (.one [8] 9 (.one [] 10 (.fin []))) 9 (.one [] 7 (.one [8] 10 (.fin [])))) (by kernel_rfl) (by kernel_rfl) (fun _ _ d _ _ h=>by cases d <;> exact h) ⟨⟨w1.drew,HDa.o⟩,rfl⟩ ?_;simp only[CalmN.wpT,CalmN.wpSt,CalmN.pickOps,List.getElem?_toArray,List.getElem?_cons_zero,List.getElem?_cons_succ];repeat (go_big_quiet_step (fail))
 refine wpQuiet_nil ?_;clear q0 q1 q2 q3 D0;refine⟨?_,?_⟩
 ·intro KK hKK;rw[if_pos (by rfl)];go_wp2_with fail
  refine(HNO.o w1.drew _ HQw1.o.drew9 (by show w.heap.size<=w1.heap.size;omega)).mono ?_;rintro _ w2 ⟨rfl,hb2⟩;have HB2:=aA ((aB (Below.refl w1.heap.size w1) 1).trans hb2);have hz2:w1.heap.size<=w2.heap.size:=HB2.o.size;have HB3:=aA (fun o=>HB2.o.alloc hz2 o);clear hb2;go_wp2_with fail
  refine hKK _ _ ⟨⟨w2,HB2.o⟩,rfl⟩ (fun x=>∃y:Calm.On w1.heap.size w1,x=y.1) (fun _ h=>h) ⟨⟨w2,HB2.o⟩,rfl⟩ ?_;repeat (go_big_quiet_step (fail))
  refine wpQuiet_nil ?_;intro KK hKK;rw[if_pos (by rfl)];go_wp2_with fail
  refine hKK _ _ ⟨⟨_,HB3.o _⟩,rfl⟩ (fun x=>∃y:Calm.On w1.heap.size w1,x=y.1) (fun _ h=>h) ⟨⟨_,HB3.o _⟩,rfl⟩ ?_;refine wpQuiet_nil ?_;intro KK hKK;rw[if_pos (by rfl)];go_wp2_with fail
  refine hKK _ _ ⟨⟨_,HB3.o _⟩,rfl⟩ (fun x=>∃y:Calm.On w1.heap.size w1,x=y.1) (fun _ h=>h) ⟨⟨_,HB3.o _⟩,rfl⟩ ?_;refine wpQuiet_nil ?_;clear hKK RB;obtain⟨wq,hwq⟩:∃x,x=w2.alloc (.cells #[.int .i64 lf,.slice none 0 0,.int .i64 (-1)] 48):=⟨_,rfl⟩
  rw[<-hwq];obtain⟨Q,hQ⟩:∃x,x=w2.heap.size:=⟨_,rfl⟩
  rw[<-hQ]
  have HPX:Hid (PrJ w wq B R Q ns rs lv ts #[.string s0,.complex .f64 X0 Y0,.slice A pr.r.length c,.string (soS pr.p),.complex .f64 (soX L pr.p) (soY L pr.p)] lf (.slice none 0 0) [] (-1)):=aA (by
   have hbw:Below w.heap.size w wq:=by rw[hwq];exact(HW1.o.trans (HB2.o.mono HW1.o.size)).alloc (Nat.le_trans HW1.o.size hz2) _
   have hb1:Below w1.heap.size w1 wq:=by rw[hwq];exact HB3.o _
   exact⟨⟨_,_,_,HQw1.o.below hb1⟩,HF.o,h24,hbw.mono hB,KpT.below hbw,by omega,(hb1.block w.heap.size hd1).trans HP1.o,by rw[hwq,hQ];exact heap_alloc_new w2 _,zbz _ _⟩)
  clear hwq hQ HB2 HB3 hz2 HNO HQw1 HP1 HW1 HRB HDa HDb hs1 hR1 hd1 HRW;have HEX:=aA (Array.getElem?_eq_some_iff.1 HPX.o.pb).1;obtain⟨vTq,vNq,vRq,hwq⟩:=HPX.o.b;obtain⟨_,_,⟨ARq,cRq,rfl⟩⟩:=zag hwq;obtain⟨k2,_,hRq⟩:=hwq.at 2;simp only[wC,List.getElem?_toArray,List.getElem?_cons_zero,List.getElem?_cons_succ]at k2;have e40:((rs.length:Int)==40)=false:=beq_eq_false_iff_ne.2 (by omega);clear hwq;go_wp2;clear k2 hRq e40;go_loopw [5] (fun vi wr=>∃(i:Nat) (tk:List Gm.Tm) (acc:List Int) (p:Int) (v:Value),i<=pr.r.length/\vi=.int .i64 i/\acc.length=i/\Hid (Gm.rights ns tk acc p (pr.r.drop i)=.ok (tz,az,pz))/\Hid ((∀z∈acc,Gm.In z)/\Gm.In p)/\Hid (PrJ w wr B R Q ns rs lv tk #[.string s0,.complex .f64 X0 Y0,.slice A pr.r.length c,.string (soS pr.p),.complex .f64 (soX L pr.p) (soY L pr.p)] lf v acc p)) (fun vi _=>pr.r.length-(intOf vi).toNat)
  case atStart=>exact⟨0,ts,[],-1,.slice none 0 0,Nat.zero_le _,rfl,rfl,HRT,aA ⟨by simp,by unfold Gm.In;omega⟩,HPX⟩
  case round =>
   clear HPX HEX;obtain⟨i,tk,acc,p,v,hi,rfl,hai,HE,HIN,HP⟩:=hrel;have HAI:=aA hai;have p2:wr.cell? ⟨w.heap.size,2,none⟩=some (.slice A pr.r.length c):=cell_of_row wr _ 2 _ _ _ HP.o.pb;have hPs:=(Array.getElem?_eq_some_iff.1 HP.o.pb).1;obtain⟨vTr,vNr,vRr,hwr⟩:=HP.o.b;have f10:=(hwr.at 10).1;have hRr:=hwr.lt;simp only[wC,List.getElem?_toArray,List.getElem?_cons_zero,List.getElem?_cons_succ]at f10;clear hwr hai;by_cases hlt:i<pr.r.length
   ·obtain⟨g,o,rfl,hgB,hc⟩:=HR.o (by omega);have k0:=(HP.o.w.cell (p:=⟨g,o+i*2,none⟩) hgB).trans (hc i hlt).1;have k1:=(HP.o.w.cell (p:=⟨g,o+i*2+1,none⟩) hgB).trans (hc i hlt).2;have hBs:=HP.o.w.size;have hgs:g<wr.heap.size:=by omega
    obtain⟨hx1,hx2,hx3⟩:=HDX.o i hlt;have hE:=HE.o;rw[zb1 hlt]at hE;have h6:acc.length≠6:=fun q=>by rw[if_pos q]at hE;cases hE
    rw[if_neg h6]at hE;obtain⟨⟨t2,zz⟩,hs,hE2⟩:=Gm.R.bind_eq hE;simp only at hE2;have HE2:=aA hE2;obtain⟨hstep,hfit2⟩:=zdq hs hx1 HP.o.f;obtain⟨hzin,ht2⟩:=zgs hs HP.o.t h16;have HF2:=aA (And.intro hfit2 (And.intro ht2 hzin));have e6:((i:Int)==6)=false:=beq_eq_false_iff_ne.2 (by have:=HAI.o;omega);have HNM:=aA (fun(y:World)=>zas pr.r[i].t hx1 y);rw[hx2]at HNM;have HSY:=aA (fun(y:World) (h:Wk y B w.heap.size R tk ns rs lv) (hy:w.heap.size<=y.heap.size)=>zcP L B w.heap.size R tk t2 ns rs lv zz pr.r[i] true y h HP.o.f hx1 hx3 hy (Nat.le_trans hB hy) hstep HP.o.t h16);unfold bO at HSY;clear hc hE hE2 hs hstep hfit2 hzin ht2 hx1 hx2 hx3 h6;unfold rfX rfY at k1;generalize K.str pr.r[i].t=sx at *;generalize Fl.fl (Pl.pos (L.take pr.r[i].o)).1=X at *;generalize Fl.fl (Pl.pos (L.take pr.r[i].o)).2=Y at *;have HPA:=aA (HP.o.alloc (.cells #[.string sx,.complex .f64 X Y] 127) hB);have HCR:=aA (heap_alloc_new wr (.cells #[.string sx,.complex .f64 X Y] 127));have HC:=aA (HSY.o _ HPA.o.b HPA.o.w.size);go_wp2_with fail
    refine(HNM.o _).mono ?_;rintro _ _ ⟨rfl,rfl⟩;go_wp2_with fail
    refine HC.o.mono ?_;rintro _ w2 ⟨rfl,hb2,hw2,hk2⟩;have HP2:=aA (HPA.o.call hb2 hw2 hk2 HF2.o.1 HF2.o.2.1);obtain⟨Av,nv,cv,hvv⟩:=zaJ HP2.o.o;subst hvv;have q1:w2.cell? ⟨Q,1,none⟩=some (.slice Av nv cv):=cell_of_row w2 _ 1 _ _ _ HP2.o.qb;have hQs:=(Array.getElem?_eq_some_iff.1 HP2.o.qb).1;have HP3:=aA (HP2.o.alloc (.cells #[.int .i64 zz] 3) hB);have HS2:Hid (w.heap.size<=w2.heap.size):=aA HP2.o.w.size;have hil:acc.length<=1000000000000:=by have:=HAI.o;omega
    clear hb2 hw2 hk2 p2 f10 k0 k1 HC HSY HNM;by_cases hzp:0<=zz
    ·have HX:Hid (Gm.rights ns t2 (acc++[zz]) zz (pr.r.drop (i+1))=.ok (tz,az,pz)):=aA (by have h:=HE2.o;rw[if_pos hzp]at h;exact h);have e:decide (0<=zz)=true:=decide_eq_true hzp;go_wp2_with (refine zaT rfl (.tmp 63) (.tmp 65) _ rfl Tryz.underlying38 w.heap.size _ acc rfl HP3.o.o _ _ zz rfl (aL w2 [.int .i64 zz] 3 0) hil (by have:=HS2.o;simp;omega) ?_;intro v4 w4 ho4 hg4;obtain⟨A4,n4,c4,rfl⟩:=zaJ ho4;have happ:=aA (HP3.o.app ho4 hg4 hB);have q41:w4.cell? ⟨Q,1,none⟩=some (.slice Av nv cv):=cell_of_row w4 _ 1 _ _ _ happ.o.1;have q42:w4.cell? ⟨Q,2,none⟩=some (.int .i64 p):=cell_of_row w4 _ 2 _ _ _ happ.o.1;have f41:=frozen_of_row w4 _ 1 _ _ happ.o.1;have f42:=frozen_of_row w4 _ 2 _ _ happ.o.1;have hQ4:=(Array.getElem?_eq_some_iff.1 happ.o.1).1;clear ho4 hg4)
     go_roundw
     case rel=>exact⟨i+1,t2,acc++[zz],zz,.slice A4 n4 c4,hlt,by go_num,by rw[List.length_append,List.length_singleton,HAI.o],HX,aA ⟨fun z hz=>by rcases List.mem_append.1 hz with q|q;exact HIN.o.1 z q;rw[List.mem_singleton.1 q];exact HF2.o.2.2,HF2.o.2.2⟩,aA (happ.o.2.setQ 2 (.int .i64 zz) rfl (happ.o.2.o.set_away happ.o.2.qb 2 _) hB)⟩
     case measure=>simp[intOf];omega
    ·have HX:Hid (Gm.rights ns t2 (acc++[zz]) p (pr.r.drop (i+1))=.ok (tz,az,pz)):=aA (by have h:=HE2.o;rw[if_neg hzp]at h;exact h);have e:decide (0<=zz)=false:=decide_eq_false hzp;go_wp2_with (refine zaT rfl (.tmp 63) (.tmp 65) _ rfl Tryz.underlying38 w.heap.size _ acc rfl HP3.o.o _ _ zz rfl (aL w2 [.int .i64 zz] 3 0) hil (by have:=HS2.o;simp;omega) ?_;intro v4 w4 ho4 hg4;obtain⟨A4,n4,c4,rfl⟩:=zaJ ho4;have happ:=aA (HP3.o.app ho4 hg4 hB);have q41:w4.cell? ⟨Q,1,none⟩=some (.slice Av nv cv):=cell_of_row w4 _ 1 _ _ _ happ.o.1;have q42:w4.cell? ⟨Q,2,none⟩=some (.int .i64 p):=cell_of_row w4 _ 2 _ _ _ happ.o.1;have f41:=frozen_of_row w4 _ 1 _ _ happ.o.1;have f42:=frozen_of_row w4 _ 2 _ _ happ.o.1;have hQ4:=(Array.getElem?_eq_some_iff.1 happ.o.1).1;clear ho4 hg4)
     go_roundw
     case rel=>exact⟨i+1,t2,acc++[zz],p,.slice A4 n4 c4,hlt,by go_num,by rw[List.length_append,List.length_singleton,HAI.o],HX,aA ⟨fun z hz=>by rcases List.mem_append.1 hz with q|q;exact HIN.o.1 z q;rw[List.mem_singleton.1 q];exact HF2.o.2.2,HIN.o.2⟩,aA happ.o.2⟩
     case measure=>simp[intOf];omega
   ·obtain rfl:i=pr.r.length:=by omega
    have hE:=HE.o;rw[zct (Nat.le_refl _)]at hE;injection hE with hE;injection hE with e1 hE;injection hE with e2 e3;subst e1;subst e2;subst e3;have p3:wr.cell? ⟨w.heap.size,3,none⟩=some (.string (soS pr.p)):=cell_of_row wr _ 3 _ _ _ HP.o.pb;have p4:wr.cell? ⟨w.heap.size,4,none⟩=some (.complex .f64 (soX L pr.p) (soY L pr.p)):=cell_of_row wr _ 4 _ _ _ HP.o.pb;rcases HLAST.o with⟨hpn,e1,e2⟩|⟨x,z2,hps,hsp,e2⟩
    ·subst e1;subst e2
     replace p3:wr.cell? ⟨w.heap.size,3,none⟩=some (.string ⟨#[]⟩):=by rw[p3,hpn];rfl
     clear p4;go_wp2_with fail
     obtain⟨wz,hwz⟩:∃x,x=wr:=⟨_,rfl⟩
     rw[<-hwz];have HPZ:Hid (PrJ w wz B R Q ns rs lv ts' #[.string s0,.complex .f64 X0 Y0,.slice A pr.r.length c,.string (soS pr.p),.complex .f64 (soX L pr.p) (soY L pr.p)] lf v acc p):=aA (by rw[hwz];exact HP.o);clear hwz p3;obtain⟨vT',vN',vR',hfin⟩:=HPZ.o.b;have HFB:=aA hfin;obtain⟨_,_,⟨AR2,cR2,hvR⟩⟩:=zag hfin;subst hvR;obtain⟨Av,cv,hvv,hv1,hv2,hrow⟩:=HPZ.o.o.row hB;subst hvv;have c2:wz.cell? ⟨R,2,none⟩=some (.slice AR2 rs.length cR2):=(hfin.at 2).1;have hRs:=(hfin.at 2).2.2;have hQs:=(Array.getElem?_eq_some_iff.1 HPZ.o.qb).1;have HROW:=aA (And.intro hv1 (And.intro hv2 hrow));clear hfin hrow hv1 hv2;have E0:∀y:Calm.OnB Q wz,y.1.cell? ⟨Q,0,none⟩=some (.int .i64 lf):=fun y=>cell_of_row y.1 _ 0 _ _ _ (y.2.trans HPZ.o.qb);have E1:∀y:Calm.OnB Q wz,y.1.cell? ⟨Q,1,none⟩=some (.slice Av acc.length cv):=fun y=>cell_of_row y.1 _ 1 _ _ _ (y.2.trans HPZ.o.qb);have E2:∀y:Calm.OnB Q wz,y.1.cell? ⟨Q,2,none⟩=some (.int .i64 p):=fun y=>cell_of_row y.1 _ 2 _ _ _ (y.2.trans HPZ.o.qb);refine CalmN.region_tree (fun x=>∃y:Calm.OnB Q wz,x=y.1) (.two [0,1,2,3,4,6] 5 (.one [] 7 (.one [] 8 (.one [9,10,11] 12 (.fin [])))) 7 (.one [] 5 (.one [] 8 (.one [9,10,11] 12 (.fin []))))) (by kernel_rfl) (by kernel_rfl) (fun _ _ d _ _ h=>by cases d <;> exact h) ⟨⟨wz.drew,rfl⟩,rfl⟩ ?_;simp only[CalmN.wpT,CalmN.wpSt,CalmN.pickOps,List.getElem?_toArray,List.getElem?_cons_zero,List.getElem?_cons_succ];repeat (go_big_quiet_step (fail))
     refine wpQuiet_nil ?_;clear E0 E1 E2;have HQ1:=aA (fun o=>(Below.heap_alloc wz o Q hQs));refine⟨?_,?_⟩
     ·intro KK hKK;rw[if_pos (by rfl)];go_wp2_with fail
      refine hKK _ _ ⟨⟨wz.drew,rfl⟩,rfl⟩ (fun x=>∃y:Calm.OnB Q wz,x=y.1) (fun _ h=>h) ⟨⟨wz.drew,rfl⟩,rfl⟩ ?_;refine wpQuiet_nil ?_;intro KK hKK;rw[if_pos (by rfl)];go_wp2_with fail
      refine hKK _ _ ⟨⟨(wz.alloc _).drew,HQ1.o _⟩,rfl⟩ (fun x=>∃y:Calm.OnB Q wz,x=y.1) (fun _ h=>h) ⟨⟨(wz.alloc _).drew,HQ1.o _⟩,rfl⟩ ?_;refine wpQuiet_nil ?_;intro KK hKK;rw[if_pos (by rfl)];obtain⟨wy,hwy⟩:∃x,x=(wz.alloc (.cells #[.int .i64 lf,.slice Av acc.length cv,.int .i64 p] 48)).drew:=⟨_,rfl⟩
      rw[<-hwy];have A0:Hid (WRaw wy B w.heap.size R (wC vT' vN' (.slice AR2 rs.length cR2) lv) vT' vN' (.slice AR2 rs.length cR2) ts' ns rs):=aA (by rw[hwy];exact(HFB.o.alloc (.cells #[.int .i64 lf,.slice Av acc.length cv,.int .i64 p] 48)).drew9);have HWY:Hid (Below B w wy):=aA (by rw[hwy];exact aB (HPZ.o.w.alloc (Nat.le_trans hB HPZ.o.w.size) _) 1);have HKY:Hid (KpT w wy):=aA (by rw[hwy];exact HPZ.o.k.trans (KpT.below (aB ((Below.refl _ _).alloc (Nat.le_refl _) _) 1)));have HQY:Hid (wy.heap[Q]?=wz.heap[Q]?):=aA (by rw[hwy];exact HQ1.o _);have HZC:Hid (∀j u,(rlC (⟨lf,acc,p⟩,Av,cv))[j]?=some u->wy.cell? ⟨wz.heap.size,j,none⟩=some u):=aA (fun j u hj=>by rw[hwy];exact(aL wz (rlC (⟨lf,acc,p⟩,Av,cv)) 48 j).trans hj)
      have HRW2:Hid (zdj wy B wy.heap.size Av acc):=aA (by
       rw[hwy];exact(HROW.o.2.2.grown (w':=(wz.alloc (.cells #[.int .i64 lf,.slice Av acc.length cv,.int .i64 p] 48)).drew) (row:=none) ((World.grownBy_alloc wz (.cells #[.int .i64 lf,.slice Av acc.length cv,.int .i64 p] 48) none).trans (aH _ none)) (fun g e=>by cases e)).more (by show wz.heap.size<=(wz.alloc _).heap.size;simp))
      have HSW:Hid (w.heap.size<=wy.heap.size):=aA HWY.o.size;clear hwy;refine zaC (.tmp 102) (.tmp 104) _ rfl Tryz.underlying24 B w.heap.size _ rs rfl A0.o.r _ _ (⟨lf,acc,p⟩,Av,cv) rfl HZC.o ⟨HROW.o.1,HROW.o.2.1,HRW2.o⟩ (by omega) (Nat.le_trans hB HSW.o) HSW.o ?_;intro v8 w8 ho8 hg8;have A1:=aA ((A0.o.more (Nat.le_trans HSW.o hg8.size)).r_put ho8 hg8);obtain⟨A8,c8,rfl,_,_⟩:=zab ho8
      have HQ8:Hid (w8.heap[Q]?=wz.heap[Q]?):=aA ((hg8.block Q (by have:=(Array.getElem?_eq_some_iff.1 (HQY.o.trans HPZ.o.qb)).1;exact this) (fun e=>by
       obtain⟨_,_,_,h3,_⟩:=A0.o.r
       have:=h3 _ e.symm
       have:=HPZ.o.q
       omega)).trans HQY.o)
      have HK8:Hid (KpA w w8):=aA (HKY.o.a.trans (by obtain⟨_,_,h2,_⟩:=A0.o.r;exact KpA.own h2 hg8 (.inr (.inr rfl))));have HW8:Hid (Below B w w8):=aA (HWY.o.grown hg8 (Nat.le_trans hB HSW.o) (fun k e=>by obtain⟨_,_,h2,_⟩:=A0.o.r;exact(aI h2 e).1));obtain⟨n8,hn8⟩:∃n,n=(rs++[(⟨lf,acc,p⟩:Gm.Rl)]).length:=⟨_,rfl⟩
      have c28:w8.cell? ⟨R,2,none⟩=some (.slice AR2 rs.length cR2):=(A1.o.at 2).1;have f28:=(A1.o.at 2).2.1;have hR8:=(A1.o.at 2).2.2;rw[<-hn8]at A1 ⊢;clear ho8 hg8 A0 hn8;refine hKK _ _ ⟨⟨w8,HQ8.o⟩,rfl⟩ (fun x=>∃y:Calm.OnB Q wz,x=y.1) (fun _ h=>h) ⟨⟨w8,HQ8.o⟩,rfl⟩ ?_
      go_frame
      repeat (go_big_quiet_step (fail))
      refine wpQuiet_nil ?_;intro KK hKK;rw[if_pos (by rfl)];go_wp2_with fail
      have HQ9:=aA (fun u=>(Below.heap_setCell w8 ⟨R,2,none⟩ u Q (by simp only;have:=HPZ.o.q;omega)).trans HQ8.o);refine hKK _ _ ⟨⟨w8.setCell ⟨R,2,none⟩ _,HQ9.o _⟩,rfl⟩ (fun x=>∃y:Calm.OnB Q wz,x=y.1) (fun _ h=>h) ⟨⟨w8.setCell ⟨R,2,none⟩ _,HQ9.o _⟩,rfl⟩ ?_;refine wpQuiet_nil ?_;clear hKK;go_wp2;go_end0
      refine⟨rfl,⟨?_,Fit.more HP.o.f ⟨HLI.o,HIN.o.2,HIN.o.1⟩,HPZ.o.t⟩,HW8.o.setCell A1.o.hR _,HK8.o.trans (KpT.set A1.o 2 _).a⟩;rw[zaF];exact⟨vT',vN',_,A1.o.set 2 _⟩
     ·intro KK hKK;rw[if_pos (by rfl)];go_wp2_with fail
      refine hKK _ _ ⟨⟨(wz.alloc _).drew,HQ1.o _⟩,rfl⟩ (fun x=>∃y:Calm.OnB Q wz,x=y.1) (fun _ h=>h) ⟨⟨(wz.alloc _).drew,HQ1.o _⟩,rfl⟩ ?_;refine wpQuiet_nil ?_;intro KK hKK;rw[if_pos (by rfl)];go_wp2_with fail
      refine hKK _ _ ⟨⟨(wz.alloc _).drew,HQ1.o _⟩,rfl⟩ (fun x=>∃y:Calm.OnB Q wz,x=y.1) (fun _ h=>h) ⟨⟨(wz.alloc _).drew,HQ1.o _⟩,rfl⟩ ?_;refine wpQuiet_nil ?_;intro KK hKK;rw[if_pos (by rfl)];obtain⟨wy,hwy⟩:∃x,x=(wz.alloc (.cells #[.int .i64 lf,.slice Av acc.length cv,.int .i64 p] 48)).drew:=⟨_,rfl⟩
      rw[<-hwy];have A0:Hid (WRaw wy B w.heap.size R (wC vT' vN' (.slice AR2 rs.length cR2) lv) vT' vN' (.slice AR2 rs.length cR2) ts' ns rs):=aA (by rw[hwy];exact(HFB.o.alloc (.cells #[.int .i64 lf,.slice Av acc.length cv,.int .i64 p] 48)).drew9);have HWY:Hid (Below B w wy):=aA (by rw[hwy];exact aB (HPZ.o.w.alloc (Nat.le_trans hB HPZ.o.w.size) _) 1);have HKY:Hid (KpT w wy):=aA (by rw[hwy];exact HPZ.o.k.trans (KpT.below (aB ((Below.refl _ _).alloc (Nat.le_refl _) _) 1)));have HQY:Hid (wy.heap[Q]?=wz.heap[Q]?):=aA (by rw[hwy];exact HQ1.o _);have HZC:Hid (∀j u,(rlC (⟨lf,acc,p⟩,Av,cv))[j]?=some u->wy.cell? ⟨wz.heap.size,j,none⟩=some u):=aA (fun j u hj=>by rw[hwy];exact(aL wz (rlC (⟨lf,acc,p⟩,Av,cv)) 48 j).trans hj)
      have HRW2:Hid (zdj wy B wy.heap.size Av acc):=aA (by
       rw[hwy];exact(HROW.o.2.2.grown (w':=(wz.alloc (.cells #[.int .i64 lf,.slice Av acc.length cv,.int .i64 p] 48)).drew) (row:=none) ((World.grownBy_alloc wz (.cells #[.int .i64 lf,.slice Av acc.length cv,.int .i64 p] 48) none).trans (aH _ none)) (fun g e=>by cases e)).more (by show wz.heap.size<=(wz.alloc _).heap.size;simp))
      have HSW:Hid (w.heap.size<=wy.heap.size):=aA HWY.o.size;clear hwy;refine zaC (.tmp 102) (.tmp 104) _ rfl Tryz.underlying24 B w.heap.size _ rs rfl A0.o.r _ _ (⟨lf,acc,p⟩,Av,cv) rfl HZC.o ⟨HROW.o.1,HROW.o.2.1,HRW2.o⟩ (by omega) (Nat.le_trans hB HSW.o) HSW.o ?_;intro v8 w8 ho8 hg8;have A1:=aA ((A0.o.more (Nat.le_trans HSW.o hg8.size)).r_put ho8 hg8);obtain⟨A8,c8,rfl,_,_⟩:=zab ho8
      have HQ8:Hid (w8.heap[Q]?=wz.heap[Q]?):=aA ((hg8.block Q (by have:=(Array.getElem?_eq_some_iff.1 (HQY.o.trans HPZ.o.qb)).1;exact this) (fun e=>by
       obtain⟨_,_,_,h3,_⟩:=A0.o.r
       have:=h3 _ e.symm
       have:=HPZ.o.q
       omega)).trans HQY.o)
      have HK8:Hid (KpA w w8):=aA (HKY.o.a.trans (by obtain⟨_,_,h2,_⟩:=A0.o.r;exact KpA.own h2 hg8 (.inr (.inr rfl))));have HW8:Hid (Below B w w8):=aA (HWY.o.grown hg8 (Nat.le_trans hB HSW.o) (fun k e=>by obtain⟨_,_,h2,_⟩:=A0.o.r;exact(aI h2 e).1));obtain⟨n8,hn8⟩:∃n,n=(rs++[(⟨lf,acc,p⟩:Gm.Rl)]).length:=⟨_,rfl⟩
      have c28:w8.cell? ⟨R,2,none⟩=some (.slice AR2 rs.length cR2):=(A1.o.at 2).1;have f28:=(A1.o.at 2).2.1;have hR8:=(A1.o.at 2).2.2;rw[<-hn8]at A1 ⊢;clear ho8 hg8 A0 hn8;refine hKK _ _ ⟨⟨w8,HQ8.o⟩,rfl⟩ (fun x=>∃y:Calm.OnB Q wz,x=y.1) (fun _ h=>h) ⟨⟨w8,HQ8.o⟩,rfl⟩ ?_
      go_frame
      repeat (go_big_quiet_step (fail))
      refine wpQuiet_nil ?_;intro KK hKK;rw[if_pos (by rfl)];go_wp2_with fail
      have HQ9:=aA (fun u=>(Below.heap_setCell w8 ⟨R,2,none⟩ u Q (by simp only;have:=HPZ.o.q;omega)).trans HQ8.o);refine hKK _ _ ⟨⟨w8.setCell ⟨R,2,none⟩ _,HQ9.o _⟩,rfl⟩ (fun x=>∃y:Calm.OnB Q wz,x=y.1) (fun _ h=>h) ⟨⟨w8.setCell ⟨R,2,none⟩ _,HQ9.o _⟩,rfl⟩ ?_;refine wpQuiet_nil ?_;clear hKK;go_wp2;go_end0
      refine⟨rfl,⟨?_,Fit.more HP.o.f ⟨HLI.o,HIN.o.2,HIN.o.1⟩,HPZ.o.t⟩,HW8.o.setCell A1.o.hR _,HK8.o.trans (KpT.set A1.o 2 _).a⟩;rw[zaF];exact⟨vT',vN',_,A1.o.set 2 _⟩
    ·subst e2;obtain⟨hx1,hx2,hx3⟩:=HXP.o x hps;obtain⟨hstep,hfit2⟩:=zdr hsp hx1 HP.o.f;obtain⟨hzin,ht2⟩:=zgt hsp HP.o.t;have HZ2:=aA hzin;have HF2:=aA (And.intro hfit2 ht2);have HNM:=aA (fun(y:World)=>zas x.t hx1 y);rw[hx2]at HNM;have HSY:=aA (fun(y:World) (h:Wk y B w.heap.size R tk ns rs lv) (hy:w.heap.size<=y.heap.size)=>zcP L B w.heap.size R tk ts' ns rs lv z2 x false y h HP.o.f hx1 hx3 hy (Nat.le_trans hB hy) hstep HP.o.t h16);unfold bO at HSY;have hne:(K.str x.t).toList.isEmpty=false:=zdK hx2
     replace p3:wr.cell? ⟨w.heap.size,3,none⟩=some (.string (K.str x.t)):=by rw[p3,hps];rfl
     replace p4:wr.cell? ⟨w.heap.size,4,none⟩=some (.complex .f64 (Fl.fl (Pl.pos (L.take x.o)).1) (Fl.fl (Pl.pos (L.take x.o)).2)):=by rw[p4,hps];rfl
     have HC:=aA (HSY.o _ HP.o.b HP.o.w.size);clear hx1 hx2 hx3 hstep hfit2 hzin ht2 hsp HSY;generalize K.str x.t=sx at *;generalize Fl.fl (Pl.pos (L.take x.o)).1=X at *;generalize Fl.fl (Pl.pos (L.take x.o)).2=Y at *;go_wp2_with fail
     refine(HNM.o _).mono ?_;rintro _ _ ⟨rfl,rfl⟩;go_wp2_with fail
     refine HC.o.mono ?_;rintro _ w2 ⟨rfl,hb2,hw2,hk2⟩;have HP2:=aA (HP.o.call hb2 hw2 hk2 HF2.o.1 HF2.o.2);have q2:w2.cell? ⟨Q,2,none⟩=some (.int .i64 p):=cell_of_row w2 _ 2 _ _ _ HP2.o.qb;have f2:=frozen_of_row w2 _ 2 _ _ HP2.o.qb;have hQ2:=(Array.getElem?_eq_some_iff.1 HP2.o.qb).1;clear hb2 hw2 hk2 p3 p4;go_upto_region 20 with fail
     obtain⟨wz,hwz⟩:∃x,x=w2.setCell ⟨Q,2,none⟩ (.int .i64 z2):=⟨_,rfl⟩
     rw[<-hwz];have HPZ:Hid (PrJ w wz B R Q ns rs lv ts' #[.string s0,.complex .f64 X0 Y0,.slice A pr.r.length c,.string (soS pr.p),.complex .f64 (soX L pr.p) (soY L pr.p)] lf v acc z2):=aA (by rw[hwz];exact HP2.o.setQ 2 (.int .i64 z2) rfl (HP2.o.o.set_away HP2.o.qb 2 _) hB);clear hwz q2 f2 hQ2;obtain⟨vT',vN',vR',hfin⟩:=HPZ.o.b;have HFB:=aA hfin;obtain⟨_,_,⟨AR2,cR2,hvR⟩⟩:=zag hfin;subst hvR;obtain⟨Av,cv,hvv,hv1,hv2,hrow⟩:=HPZ.o.o.row hB;subst hvv;have c2:wz.cell? ⟨R,2,none⟩=some (.slice AR2 rs.length cR2):=(hfin.at 2).1;have hRs:=(hfin.at 2).2.2;have hQs:=(Array.getElem?_eq_some_iff.1 HPZ.o.qb).1;have HROW:=aA (And.intro hv1 (And.intro hv2 hrow));clear hfin hrow hv1 hv2;have E0:∀y:Calm.OnB Q wz,y.1.cell? ⟨Q,0,none⟩=some (.int .i64 lf):=fun y=>cell_of_row y.1 _ 0 _ _ _ (y.2.trans HPZ.o.qb);have E1:∀y:Calm.OnB Q wz,y.1.cell? ⟨Q,1,none⟩=some (.slice Av acc.length cv):=fun y=>cell_of_row y.1 _ 1 _ _ _ (y.2.trans HPZ.o.qb);have E2:∀y:Calm.OnB Q wz,y.1.cell? ⟨Q,2,none⟩=some (.int .i64 z2):=fun y=>cell_of_row y.1 _ 2 _ _ _ (y.2.trans HPZ.o.qb);refine CalmN.region_tree (fun x=>∃y:Calm.OnB Q wz,x=y.1) (.two [0,1,2,3,4,6] 5 (.one [] 7 (.one [] 8 (.one [9,10,11] 12 (.fin [])))) 7 (.one [] 5 (.one [] 8 (.one [9,10,11] 12 (.fin []))))) (by kernel_rfl) (by kernel_rfl) (fun _ _ d _ _ h=>by cases d <;> exact h) ⟨⟨wz.drew,rfl⟩,rfl⟩ ?_;simp only[CalmN.wpT,CalmN.wpSt,CalmN.pickOps,List.getElem?_toArray,List.getElem?_cons_zero,List.getElem?_cons_succ];repeat (go_big_quiet_step (fail))
     refine wpQuiet_nil ?_;clear E0 E1 E2;have HQ1:=aA (fun o=>(Below.heap_alloc wz o Q hQs));refine⟨?_,?_⟩
     ·intro KK hKK;rw[if_pos (by rfl)];go_wp2_with fail
      refine hKK _ _ ⟨⟨wz.drew,rfl⟩,rfl⟩ (fun x=>∃y:Calm.OnB Q wz,x=y.1) (fun _ h=>h) ⟨⟨wz.drew,rfl⟩,rfl⟩ ?_;refine wpQuiet_nil ?_;intro KK hKK;rw[if_pos (by rfl)];go_wp2_with fail
      refine hKK _ _ ⟨⟨(wz.alloc _).drew,HQ1.o _⟩,rfl⟩ (fun x=>∃y:Calm.OnB Q wz,x=y.1) (fun _ h=>h) ⟨⟨(wz.alloc _).drew,HQ1.o _⟩,rfl⟩ ?_;refine wpQuiet_nil ?_;intro KK hKK;rw[if_pos (by rfl)];obtain⟨wy,hwy⟩:∃x,x=(wz.alloc (.cells #[.int .i64 lf,.slice Av acc.length cv,.int .i64 z2] 48)).drew:=⟨_,rfl⟩
      rw[<-hwy];have A0:Hid (WRaw wy B w.heap.size R (wC vT' vN' (.slice AR2 rs.length cR2) lv) vT' vN' (.slice AR2 rs.length cR2) ts' ns rs):=aA (by rw[hwy];exact(HFB.o.alloc (.cells #[.int .i64 lf,.slice Av acc.length cv,.int .i64 z2] 48)).drew9);have HWY:Hid (Below B w wy):=aA (by rw[hwy];exact aB (HPZ.o.w.alloc (Nat.le_trans hB HPZ.o.w.size) _) 1);have HKY:Hid (KpT w wy):=aA (by rw[hwy];exact HPZ.o.k.trans (KpT.below (aB ((Below.refl _ _).alloc (Nat.le_refl _) _) 1)));have HQY:Hid (wy.heap[Q]?=wz.heap[Q]?):=aA (by rw[hwy];exact HQ1.o _);have HZC:Hid (∀j u,(rlC (⟨lf,acc,z2⟩,Av,cv))[j]?=some u->wy.cell? ⟨wz.heap.size,j,none⟩=some u):=aA (fun j u hj=>by rw[hwy];exact(aL wz (rlC (⟨lf,acc,z2⟩,Av,cv)) 48 j).trans hj)
      have HRW2:Hid (zdj wy B wy.heap.size Av acc):=aA (by
       rw[hwy];exact(HROW.o.2.2.grown (w':=(wz.alloc (.cells #[.int .i64 lf,.slice Av acc.length cv,.int .i64 z2] 48)).drew) (row:=none) ((World.grownBy_alloc wz (.cells #[.int .i64 lf,.slice Av acc.length cv,.int .i64 z2] 48) none).trans (aH _ none)) (fun g e=>by cases e)).more (by show wz.heap.size<=(wz.alloc _).heap.size;simp))
      have HSW:Hid (w.heap.size<=wy.heap.size):=aA HWY.o.size;clear hwy;refine zaC (.tmp 102) (.tmp 104) _ rfl Tryz.underlying24 B w.heap.size _ rs rfl A0.o.r _ _ (⟨lf,acc,z2⟩,Av,cv) rfl HZC.o ⟨HROW.o.1,HROW.o.2.1,HRW2.o⟩ (by omega) (Nat.le_trans hB HSW.o) HSW.o ?_;intro v8 w8 ho8 hg8;have A1:=aA ((A0.o.more (Nat.le_trans HSW.o hg8.size)).r_put ho8 hg8);obtain⟨A8,c8,rfl,_,_⟩:=zab ho8
      have HQ8:Hid (w8.heap[Q]?=wz.heap[Q]?):=aA ((hg8.block Q (by have:=(Array.getElem?_eq_some_iff.1 (HQY.o.trans HPZ.o.qb)).1;exact this) (fun e=>by
       obtain⟨_,_,_,h3,_⟩:=A0.o.r
       have:=h3 _ e.symm
       have:=HPZ.o.q
       omega)).trans HQY.o)
      have HK8:Hid (KpA w w8):=aA (HKY.o.a.trans (by obtain⟨_,_,h2,_⟩:=A0.o.r;exact KpA.own h2 hg8 (.inr (.inr rfl))));have HW8:Hid (Below B w w8):=aA (HWY.o.grown hg8 (Nat.le_trans hB HSW.o) (fun k e=>by obtain⟨_,_,h2,_⟩:=A0.o.r;exact(aI h2 e).1));obtain⟨n8,hn8⟩:∃n,n=(rs++[(⟨lf,acc,z2⟩:Gm.Rl)]).length:=⟨_,rfl⟩
      have c28:w8.cell? ⟨R,2,none⟩=some (.slice AR2 rs.length cR2):=(A1.o.at 2).1;have f28:=(A1.o.at 2).2.1;have hR8:=(A1.o.at 2).2.2;rw[<-hn8]at A1 ⊢;clear ho8 hg8 A0 hn8;refine hKK _ _ ⟨⟨w8,HQ8.o⟩,rfl⟩ (fun x=>∃y:Calm.OnB Q wz,x=y.1) (fun _ h=>h) ⟨⟨w8,HQ8.o⟩,rfl⟩ ?_
      go_frame
      repeat (go_big_quiet_step (fail))
      refine wpQuiet_nil ?_;intro KK hKK;rw[if_pos (by rfl)];go_wp2_with fail
      have HQ9:=aA (fun u=>(Below.heap_setCell w8 ⟨R,2,none⟩ u Q (by simp only;have:=HPZ.o.q;omega)).trans HQ8.o);refine hKK _ _ ⟨⟨w8.setCell ⟨R,2,none⟩ _,HQ9.o _⟩,rfl⟩ (fun x=>∃y:Calm.OnB Q wz,x=y.1) (fun _ h=>h) ⟨⟨w8.setCell ⟨R,2,none⟩ _,HQ9.o _⟩,rfl⟩ ?_;refine wpQuiet_nil ?_;clear hKK;go_wp2;go_end0
      refine⟨rfl,⟨?_,Fit.more HP2.o.f ⟨HLI.o,HZ2.o,HIN.o.1⟩,HPZ.o.t⟩,HW8.o.setCell A1.o.hR _,HK8.o.trans (KpT.set A1.o 2 _).a⟩;rw[zaF];exact⟨vT',vN',_,A1.o.set 2 _⟩
     ·intro KK hKK;rw[if_pos (by rfl)];go_wp2_with fail
      refine hKK _ _ ⟨⟨(wz.alloc _).drew,HQ1.o _⟩,rfl⟩ (fun x=>∃y:Calm.OnB Q wz,x=y.1) (fun _ h=>h) ⟨⟨(wz.alloc _).drew,HQ1.o _⟩,rfl⟩ ?_;refine wpQuiet_nil ?_;intro KK hKK;rw[if_pos (by rfl)];go_wp2_with fail
      refine hKK _ _ ⟨⟨(wz.alloc _).drew,HQ1.o _⟩,rfl⟩ (fun x=>∃y:Calm.OnB Q wz,x=y.1) (fun _ h=>h) ⟨⟨(wz.alloc _).drew,HQ1.o _⟩,rfl⟩ ?_;refine wpQuiet_nil ?_;intro KK hKK;rw[if_pos (by rfl)];obtain⟨wy,hwy⟩:∃x,x=(wz.alloc (.cells #[.int .i64 lf,.slice Av acc.length cv,.int .i64 z2] 48)).drew:=⟨_,rfl⟩
      rw[<-hwy];have A0:Hid (WRaw wy B w.heap.size R (wC vT' vN' (.slice AR2 rs.length cR2) lv) vT' vN' (.slice AR2 rs.length cR2) ts' ns rs):=aA (by rw[hwy];exact(HFB.o.alloc (.cells #[.int .i64 lf,.slice Av acc.length cv,.int .i64 z2] 48)).drew9);have HWY:Hid (Below B w wy):=aA (by rw[hwy];exact aB (HPZ.o.w.alloc (Nat.le_trans hB HPZ.o.w.size) _) 1);have HKY:Hid (KpT w wy):=aA (by rw[hwy];exact HPZ.o.k.trans (KpT.below (aB ((Below.refl _ _).alloc (Nat.le_refl _) _) 1)));have HQY:Hid (wy.heap[Q]?=wz.heap[Q]?):=aA (by rw[hwy];exact HQ1.o _);have HZC:Hid (∀j u,(rlC (⟨lf,acc,z2⟩,Av,cv))[j]?=some u->wy.cell? ⟨wz.heap.size,j,none⟩=some u):=aA (fun j u hj=>by rw[hwy];exact(aL wz (rlC (⟨lf,acc,z2⟩,Av,cv)) 48 j).trans hj)
      have HRW2:Hid (zdj wy B wy.heap.size Av acc):=aA (by
       rw[hwy];exact(HROW.o.2.2.grown (w':=(wz.alloc (.cells #[.int .i64 lf,.slice Av acc.length cv,.int .i64 z2] 48)).drew) (row:=none) ((World.grownBy_alloc wz (.cells #[.int .i64 lf,.slice Av acc.length cv,.int .i64 z2] 48) none).trans (aH _ none)) (fun g e=>by cases e)).more (by show wz.heap.size<=(wz.alloc _).heap.size;simp))
      have HSW:Hid (w.heap.size<=wy.heap.size):=aA HWY.o.size;clear hwy;refine zaC (.tmp 102) (.tmp 104) _ rfl Tryz.underlying24 B w.heap.size _ rs rfl A0.o.r _ _ (⟨lf,acc,z2⟩,Av,cv) rfl HZC.o ⟨HROW.o.1,HROW.o.2.1,HRW2.o⟩ (by omega) (Nat.le_trans hB HSW.o) HSW.o ?_;intro v8 w8 ho8 hg8;have A1:=aA ((A0.o.more (Nat.le_trans HSW.o hg8.size)).r_put ho8 hg8);obtain⟨A8,c8,rfl,_,_⟩:=zab ho8
      have HQ8:Hid (w8.heap[Q]?=wz.heap[Q]?):=aA ((hg8.block Q (by have:=(Array.getElem?_eq_some_iff.1 (HQY.o.trans HPZ.o.qb)).1;exact this) (fun e=>by
       obtain⟨_,_,_,h3,_⟩:=A0.o.r
       have:=h3 _ e.symm
       have:=HPZ.o.q
       omega)).trans HQY.o)
      have HK8:Hid (KpA w w8):=aA (HKY.o.a.trans (by obtain⟨_,_,h2,_⟩:=A0.o.r;exact KpA.own h2 hg8 (.inr (.inr rfl))));have HW8:Hid (Below B w w8):=aA (HWY.o.grown hg8 (Nat.le_trans hB HSW.o) (fun k e=>by obtain⟨_,_,h2,_⟩:=A0.o.r;exact(aI h2 e).1));obtain⟨n8,hn8⟩:∃n,n=(rs++[(⟨lf,acc,z2⟩:Gm.Rl)]).length:=⟨_,rfl⟩
      have c28:w8.cell? ⟨R,2,none⟩=some (.slice AR2 rs.length cR2):=(A1.o.at 2).1;have f28:=(A1.o.at 2).2.1;have hR8:=(A1.o.at 2).2.2;rw[<-hn8]at A1 ⊢;clear ho8 hg8 A0 hn8;refine hKK _ _ ⟨⟨w8,HQ8.o⟩,rfl⟩ (fun x=>∃y:Calm.OnB Q wz,x=y.1) (fun _ h=>h) ⟨⟨w8,HQ8.o⟩,rfl⟩ ?_
      go_frame
      repeat (go_big_quiet_step (fail))
      refine wpQuiet_nil ?_;intro KK hKK;rw[if_pos (by rfl)];go_wp2_with fail
      have HQ9:=aA (fun u=>(Below.heap_setCell w8 ⟨R,2,none⟩ u Q (by simp only;have:=HPZ.o.q;omega)).trans HQ8.o);refine hKK _ _ ⟨⟨w8.setCell ⟨R,2,none⟩ _,HQ9.o _⟩,rfl⟩ (fun x=>∃y:Calm.OnB Q wz,x=y.1) (fun _ h=>h) ⟨⟨w8.setCell ⟨R,2,none⟩ _,HQ9.o _⟩,rfl⟩ ?_;refine wpQuiet_nil ?_;clear hKK;go_wp2;go_end0
      refine⟨rfl,⟨?_,Fit.more HP2.o.f ⟨HLI.o,HZ2.o,HIN.o.1⟩,HPZ.o.t⟩,HW8.o.setCell A1.o.hR _,HK8.o.trans (KpT.set A1.o 2 _).a⟩;rw[zaF];exact⟨vT',vN',_,A1.o.set 2 _⟩
 ·intro KK hKK;rw[if_pos (by rfl)];go_wp2_with fail
  refine hKK _ _ ⟨⟨_,HDb.o _⟩,rfl⟩ (fun x=>∃y:Calm.On w1.heap.size w1,x=y.1) (fun _ h=>h) ⟨⟨_,HDb.o _⟩,rfl⟩ ?_;refine wpQuiet_nil ?_;intro KK hKK;rw[if_pos (by rfl)];go_wp2_with fail
  have HBz:Hid (Below w1.heap.size w1 (w1.alloc (.cells #[.int .i64 0,.slice none 0 0,.int .i64 0] 48)).drew):=aA (aB ((Below.refl _ w1).alloc (Nat.le_refl _) _) 1);refine(HNO.o _ _ (HQw1.o.below HBz.o) (by have:=HBz.o.size;omega)).mono ?_;rintro _ w2 ⟨rfl,hb2⟩;have HB2:=aA (HBz.o.trans (hb2.mono HBz.o.size));have HZ2:Hid (w2.heap[w1.heap.size]?=some (.cells #[.int .i64 0,.slice none 0 0,.int .i64 0] 48 (0,0))):=aA ((hb2.block w1.heap.size (by show w1.heap.size<(w1.alloc _).heap.size;simp)).trans (heap_alloc_new w1 _));have hz2:w1.heap.size<w2.heap.size:=(Array.getElem?_eq_some_iff.1 HZ2.o).1;clear hb2;go_wp2_with fail
  refine hKK _ _ ⟨⟨w2,HB2.o⟩,rfl⟩ (fun x=>∃y:Calm.On w1.heap.size w1,x=y.1) (fun _ h=>h) ⟨⟨w2,HB2.o⟩,rfl⟩ ?_;repeat (go_big_quiet_step (fail))
  refine wpQuiet_nil ?_;intro KK hKK;rw[if_pos (by rfl)];obtain⟨Q,hQ⟩:∃x,x=w.heap.size+1:=⟨_,rfl⟩
  rw[<-hQ];have hQ1:w1.heap.size=Q:=by omega
  rw[hQ1]at HZ2 HB2;have HB3:=aA (fun u0 u1 u2=>((HB2.o.setCell (p:=⟨Q,0,none⟩) (Nat.le_refl _) u0).setCell (p:=⟨Q,1,none⟩) (Nat.le_refl _) u1).setCell (p:=⟨Q,2,none⟩) (Nat.le_refl _) u2);have HQS:Hid (w.heap.size<Q/\w1.heap.size=Q):=aA (by omega);have z0:=frozen_of_row w2 _ 0 _ _ HZ2.o;have z1:=frozen_of_row w2 _ 1 _ _ HZ2.o;have z2:=frozen_of_row w2 _ 2 _ _ HZ2.o;have y0:w2.cell? ⟨Q,0,none⟩=some (.int .i64 0):=by rw[cell_of_row w2 _ 0 _ _ _ HZ2.o];rfl
  have y1:w2.cell? ⟨Q,1,none⟩=some (.slice none 0 0):=by rw[cell_of_row w2 _ 1 _ _ _ HZ2.o];rfl
  have y2:w2.cell? ⟨Q,2,none⟩=some (.int .i64 0):=by rw[cell_of_row w2 _ 2 _ _ _ HZ2.o];rfl
  have hz2:Q<w2.heap.size:=(Array.getElem?_eq_some_iff.1 HZ2.o).1;clear hQ hQ1 hs1 hd1;go_wp2_with fail
  refine hKK _ _ ⟨⟨_,by rw[HQS.o.2];exact HB3.o _ _ _⟩,rfl⟩ (fun x=>∃y:Calm.On w1.heap.size w1,x=y.1) (fun _ h=>h) ⟨⟨_,by rw[HQS.o.2];exact HB3.o _ _ _⟩,rfl⟩ ?_;refine wpQuiet_nil ?_;clear hKK RB;obtain⟨wq,hwq⟩:∃x,x=((w2.setCell ⟨Q,0,none⟩ (.int .i64 lf)).setCell ⟨Q,1,none⟩ (.slice none 0 0)).setCell ⟨Q,2,none⟩ (.int .i64 (-1)):=⟨_,rfl⟩
  rw[<-hwq]
  have HPX:Hid (PrJ w wq B R Q ns rs lv ts #[.string s0,.complex .f64 X0 Y0,.slice A pr.r.length c,.string (soS pr.p),.complex .f64 (soX L pr.p) (soY L pr.p)] lf (.slice none 0 0) [] (-1)):=aA (by
   have hb1:Below w1.heap.size w1 wq:=by rw[hwq,HQS.o.2];exact HB3.o _ _ _
   have hbw:Below w.heap.size w wq:=HW1.o.trans (hb1.mono HW1.o.size);have hd1:w.heap.size<w1.heap.size:=by have:=HQS.o;omega
   exact⟨⟨_,_,_,HQw1.o.below hb1⟩,HF.o,h24,hbw.mono hB,KpT.below hbw,HQS.o.1,(hb1.block w.heap.size hd1).trans HP1.o,by rw[hwq];exact heap_setCell_same _ _ 2 _ _ _ (heap_setCell_same _ _ 1 _ _ _ (heap_setCell_same _ _ 0 _ _ _ HZ2.o)),zbz _ _⟩)
  clear hwq HB2 HB3 hz2 HNO HQw1 HP1 HW1 HRB HDa HDb hR1 HRW z0 z1 z2 y0 y1 y2 HZ2 HQS HBz;have HEX:=aA (Array.getElem?_eq_some_iff.1 HPX.o.pb).1;obtain⟨vTq,vNq,vRq,hwq⟩:=HPX.o.b;obtain⟨_,_,⟨ARq,cRq,rfl⟩⟩:=zag hwq;obtain⟨k2,_,hRq⟩:=hwq.at 2;simp only[wC,List.getElem?_toArray,List.getElem?_cons_zero,List.getElem?_cons_succ]at k2;have e40:((rs.length:Int)==40)=false:=beq_eq_false_iff_ne.2 (by omega);clear hwq;go_wp2;clear k2 hRq e40;go_loopw [5] (fun vi wr=>∃(i:Nat) (tk:List Gm.Tm) (acc:List Int) (p:Int) (v:Value),i<=pr.r.length/\vi=.int .i64 i/\acc.length=i/\Hid (Gm.rights ns tk acc p (pr.r.drop i)=.ok (tz,az,pz))/\Hid ((∀z∈acc,Gm.In z)/\Gm.In p)/\Hid (PrJ w wr B R Q ns rs lv tk #[.string s0,.complex .f64 X0 Y0,.slice A pr.r.length c,.string (soS pr.p),.complex .f64 (soX L pr.p) (soY L pr.p)] lf v acc p)) (fun vi _=>pr.r.length-(intOf vi).toNat)
  case atStart=>exact⟨0,ts,[],-1,.slice none 0 0,Nat.zero_le _,rfl,rfl,HRT,aA ⟨by simp,by unfold Gm.In;omega⟩,HPX⟩
  case round =>
   clear HPX HEX;obtain⟨i,tk,acc,p,v,hi,rfl,hai,HE,HIN,HP⟩:=hrel;have HAI:=aA hai;have p2:wr.cell? ⟨w.heap.size,2,none⟩=some (.slice A pr.r.length c):=cell_of_row wr _ 2 _ _ _ HP.o.pb;have hPs:=(Array.getElem?_eq_some_iff.1 HP.o.pb).1;obtain⟨vTr,vNr,vRr,hwr⟩:=HP.o.b;have f10:=(hwr.at 10).1;have hRr:=hwr.lt;simp only[wC,List.getElem?_toArray,List.getElem?_cons_zero,List.getElem?_cons_succ]at f10;clear hwr hai;by_cases hlt:i<pr.r.length
   ·obtain⟨g,o,rfl,hgB,hc⟩:=HR.o (by omega);have k0:=(HP.o.w.cell (p:=⟨g,o+i*2,none⟩) hgB).trans (hc i hlt).1;have k1:=(HP.o.w.cell (p:=⟨g,o+i*2+1,none⟩) hgB).trans (hc i hlt).2;have hBs:=HP.o.w.size;have hgs:g<wr.heap.size:=by omega
    obtain⟨hx1,hx2,hx3⟩:=HDX.o i hlt;have hE:=HE.o;rw[zb1 hlt]at hE;have h6:acc.length≠6:=fun q=>by rw[if_pos q]at hE;cases hE
    rw[if_neg h6]at hE;obtain⟨⟨t2,zz⟩,hs,hE2⟩:=Gm.R.bind_eq hE;simp only at hE2;have HE2:=aA hE2;obtain⟨hstep,hfit2⟩:=zdq hs hx1 HP.o.f;obtain⟨hzin,ht2⟩:=zgs hs HP.o.t h16;have HF2:=aA (And.intro hfit2 (And.intro ht2 hzin));have e6:((i:Int)==6)=false:=beq_eq_false_iff_ne.2 (by have:=HAI.o;omega);have HNM:=aA (fun(y:World)=>zas pr.r[i].t hx1 y);rw[hx2]at HNM;have HSY:=aA (fun(y:World) (h:Wk y B w.heap.size R tk ns rs lv) (hy:w.heap.size<=y.heap.size)=>zcP L B w.heap.size R tk t2 ns rs lv zz pr.r[i] true y h HP.o.f hx1 hx3 hy (Nat.le_trans hB hy) hstep HP.o.t h16);unfold bO at HSY;clear hc hE hE2 hs hstep hfit2 hzin ht2 hx1 hx2 hx3 h6;unfold rfX rfY at k1;generalize K.str pr.r[i].t=sx at *;generalize Fl.fl (Pl.pos (L.take pr.r[i].o)).1=X at *;generalize Fl.fl (Pl.pos (L.take pr.r[i].o)).2=Y at *;have HPA:=aA (HP.o.alloc (.cells #[.string sx,.complex .f64 X Y] 127) hB);have HCR:=aA (heap_alloc_new wr (.cells #[.string sx,.complex .f64 X Y] 127));have HC:=aA (HSY.o _ HPA.o.b HPA.o.w.size);go_wp2_with fail
    refine(HNM.o _).mono ?_;rintro _ _ ⟨rfl,rfl⟩;go_wp2_with fail
    refine HC.o.mono ?_;rintro _ w2 ⟨rfl,hb2,hw2,hk2⟩;have HP2:=aA (HPA.o.call hb2 hw2 hk2 HF2.o.1 HF2.o.2.1);obtain⟨Av,nv,cv,hvv⟩:=zaJ HP2.o.o;subst hvv;have q1:w2.cell? ⟨Q,1,none⟩=some (.slice Av nv cv):=cell_of_row w2 _ 1 _ _ _ HP2.o.qb;have hQs:=(Array.getElem?_eq_some_iff.1 HP2.o.qb).1;have HP3:=aA (HP2.o.alloc (.cells #[.int .i64 zz] 3) hB);have HS2:Hid (w.heap.size<=w2.heap.size):=aA HP2.o.w.size;have hil:acc.length<=1000000000000:=by have:=HAI.o;omega
    clear hb2 hw2 hk2 p2 f10 k0 k1 HC HSY HNM;by_cases hzp:0<=zz
    ·have HX:Hid (Gm.rights ns t2 (acc++[zz]) zz (pr.r.drop (i+1))=.ok (tz,az,pz)):=aA (by have h:=HE2.o;rw[if_pos hzp]at h;exact h);have e:decide (0<=zz)=true:=decide_eq_true hzp;go_wp2_with (refine zaT rfl (.tmp 63) (.tmp 65) _ rfl Tryz.underlying38 w.heap.size _ acc rfl HP3.o.o _ _ zz rfl (aL w2 [.int .i64 zz] 3 0) hil (by have:=HS2.o;simp;omega) ?_;intro v4 w4 ho4 hg4;obtain⟨A4,n4,c4,rfl⟩:=zaJ ho4;have happ:=aA (HP3.o.app ho4 hg4 hB);have q41:w4.cell? ⟨Q,1,none⟩=some (.slice Av nv cv):=cell_of_row w4 _ 1 _ _ _ happ.o.1;have q42:w4.cell? ⟨Q,2,none⟩=some (.int .i64 p):=cell_of_row w4 _ 2 _ _ _ happ.o.1;have f41:=frozen_of_row w4 _ 1 _ _ happ.o.1;have f42:=frozen_of_row w4 _ 2 _ _ happ.o.1;have hQ4:=(Array.getElem?_eq_some_iff.1 happ.o.1).1;clear ho4 hg4)
     go_roundw
     case rel=>exact⟨i+1,t2,acc++[zz],zz,.slice A4 n4 c4,hlt,by go_num,by rw[List.length_append,List.length_singleton,HAI.o],HX,aA ⟨fun z hz=>by rcases List.mem_append.1 hz with q|q;exact HIN.o.1 z q;rw[List.mem_singleton.1 q];exact HF2.o.2.2,HF2.o.2.2⟩,aA (happ.o.2.setQ 2 (.int .i64 zz) rfl (happ.o.2.o.set_away happ.o.2.qb 2 _) hB)⟩
     case measure=>simp[intOf];omega
    ·have HX:Hid (Gm.rights ns t2 (acc++[zz]) p (pr.r.drop (i+1))=.ok (tz,az,pz)):=aA (by have h:=HE2.o;rw[if_neg hzp]at h;exact h);have e:decide (0<=zz)=false:=decide_eq_false hzp;go_wp2_with (refine zaT rfl (.tmp 63) (.tmp 65) _ rfl Tryz.underlying38 w.heap.size _ acc rfl HP3.o.o _ _ zz rfl (aL w2 [.int .i64 zz] 3 0) hil (by have:=HS2.o;simp;omega) ?_;intro v4 w4 ho4 hg4;obtain⟨A4,n4,c4,rfl⟩:=zaJ ho4;have happ:=aA (HP3.o.app ho4 hg4 hB);have q41:w4.cell? ⟨Q,1,none⟩=some (.slice Av nv cv):=cell_of_row w4 _ 1 _ _ _ happ.o.1;have q42:w4.cell? ⟨Q,2,none⟩=some (.int .i64 p):=cell_of_row w4 _ 2 _ _ _ happ.o.1;have f41:=frozen_of_row w4 _ 1 _ _ happ.o.1;have f42:=frozen_of_row w4 _ 2 _ _ happ.o.1;have hQ4:=(Array.getElem?_eq_some_iff.1 happ.o.1).1;clear ho4 hg4)
     go_roundw
     case rel=>exact⟨i+1,t2,acc++[zz],p,.slice A4 n4 c4,hlt,by go_num,by rw[List.length_append,List.length_singleton,HAI.o],HX,aA ⟨fun z hz=>by rcases List.mem_append.1 hz with q|q;exact HIN.o.1 z q;rw[List.mem_singleton.1 q];exact HF2.o.2.2,HIN.o.2⟩,aA happ.o.2⟩
     case measure=>simp[intOf];omega
   ·obtain rfl:i=pr.r.length:=by omega
    have hE:=HE.o;rw[zct (Nat.le_refl _)]at hE;injection hE with hE;injection hE with e1 hE;injection hE with e2 e3;subst e1;subst e2;subst e3;have p3:wr.cell? ⟨w.heap.size,3,none⟩=some (.string (soS pr.p)):=cell_of_row wr _ 3 _ _ _ HP.o.pb;have p4:wr.cell? ⟨w.heap.size,4,none⟩=some (.complex .f64 (soX L pr.p) (soY L pr.p)):=cell_of_row wr _ 4 _ _ _ HP.o.pb;rcases HLAST.o with⟨hpn,e1,e2⟩|⟨x,z2,hps,hsp,e2⟩
    ·subst e1;subst e2
     replace p3:wr.cell? ⟨w.heap.size,3,none⟩=some (.string ⟨#[]⟩):=by rw[p3,hpn];rfl
     clear p4;go_wp2_with fail
     obtain⟨wz,hwz⟩:∃x,x=wr:=⟨_,rfl⟩
     rw[<-hwz];have HPZ:Hid (PrJ w wz B R Q ns rs lv ts' #[.string s0,.complex .f64 X0 Y0,.slice A pr.r.length c,.string (soS pr.p),.complex .f64 (soX L pr.p) (soY L pr.p)] lf v acc p):=aA (by rw[hwz];exact HP.o);clear hwz p3;obtain⟨vT',vN',vR',hfin⟩:=HPZ.o.b;have HFB:=aA hfin;obtain⟨_,_,⟨AR2,cR2,hvR⟩⟩:=zag hfin;subst hvR;obtain⟨Av,cv,hvv,hv1,hv2,hrow⟩:=HPZ.o.o.row hB;subst hvv;have c2:wz.cell? ⟨R,2,none⟩=some (.slice AR2 rs.length cR2):=(hfin.at 2).1;have hRs:=(hfin.at 2).2.2;have hQs:=(Array.getElem?_eq_some_iff.1 HPZ.o.qb).1;have HROW:=aA (And.intro hv1 (And.intro hv2 hrow));clear hfin hrow hv1 hv2;have E0:∀y:Calm.OnB Q wz,y.1.cell? ⟨Q,0,none⟩=some (.int .i64 lf):=fun y=>cell_of_row y.1 _ 0 _ _ _ (y.2.trans HPZ.o.qb);have E1:∀y:Calm.OnB Q wz,y.1.cell? ⟨Q,1,none⟩=some (.slice Av acc.length cv):=fun y=>cell_of_row y.1 _ 1 _ _ _ (y.2.trans HPZ.o.qb);have E2:∀y:Calm.OnB Q wz,y.1.cell? ⟨Q,2,none⟩=some (.int .i64 p):=fun y=>cell_of_row y.1 _ 2 _ _ _ (y.2.trans HPZ.o.qb);refine CalmN.region_tree (fun x=>∃y:Calm.OnB Q wz,x=y.1) (.two [0,1,2,3,4,6] 5 (.one [] 7 (.one [] 8 (.one [9,10,11] 12 (.fin [])))) 7 (.one [] 5 (.one [] 8 (.one [9,10,11] 12 (.fin []))))) (by kernel_rfl) (by kernel_rfl) (fun _ _ d _ _ h=>by cases d <;> exact h) ⟨⟨wz.drew,rfl⟩,rfl⟩ ?_;simp only[CalmN.wpT,CalmN.wpSt,CalmN.pickOps,List.getElem?_toArray,List.getElem?_cons_zero,List.getElem?_cons_succ];repeat (go_big_quiet_step (fail))
     refine wpQuiet_nil ?_;clear E0 E1 E2;have HQ1:=aA (fun o=>(Below.heap_alloc wz o Q hQs));refine⟨?_,?_⟩
     ·intro KK hKK;rw[if_pos (by rfl)];go_wp2_with fail
      refine hKK _ _ ⟨⟨wz.drew,rfl⟩,rfl⟩ (fun x=>∃y:Calm.OnB Q wz,x=y.1) (fun _ h=>h) ⟨⟨wz.drew,rfl⟩,rfl⟩ ?_;refine wpQuiet_nil ?_;intro KK hKK;rw[if_pos (by rfl)];go_wp2_with fail
      refine hKK _ _ ⟨⟨(wz.alloc _).drew,HQ1.o _⟩,rfl⟩ (fun x=>∃y:Calm.OnB Q wz,x=y.1) (fun _ h=>h) ⟨⟨(wz.alloc _).drew,HQ1.o _⟩,rfl⟩ ?_;refine wpQuiet_nil ?_;intro KK hKK;rw[if_pos (by rfl)];obtain⟨wy,hwy⟩:∃x,x=(wz.alloc (.cells #[.int .i64 lf,.slice Av acc.length cv,.int .i64 p] 48)).drew:=⟨_,rfl⟩
      rw[<-hwy];have A0:Hid (WRaw wy B w.heap.size R (wC vT' vN' (.slice AR2 rs.length cR2) lv) vT' vN' (.slice AR2 rs.length cR2) ts' ns rs):=aA (by rw[hwy];exact(HFB.o.alloc (.cells #[.int .i64 lf,.slice Av acc.length cv,.int .i64 p] 48)).drew9);have HWY:Hid (Below B w wy):=aA (by rw[hwy];exact aB (HPZ.o.w.alloc (Nat.le_trans hB HPZ.o.w.size) _) 1);have HKY:Hid (KpT w wy):=aA (by rw[hwy];exact HPZ.o.k.trans (KpT.below (aB ((Below.refl _ _).alloc (Nat.le_refl _) _) 1)));have HQY:Hid (wy.heap[Q]?=wz.heap[Q]?):=aA (by rw[hwy];exact HQ1.o _);have HZC:Hid (∀j u,(rlC (⟨lf,acc,p⟩,Av,cv))[j]?=some u->wy.cell? ⟨wz.heap.size,j,none⟩=some u):=aA (fun j u hj=>by rw[hwy];exact(aL wz (rlC (⟨lf,acc,p⟩,Av,cv)) 48 j).trans hj)
      have HRW2:Hid (zdj wy B wy.heap.size Av acc):=aA (by
       rw[hwy];exact(HROW.o.2.2.grown (w':=(wz.alloc (.cells #[.int .i64 lf,.slice Av acc.length cv,.int .i64 p] 48)).drew) (row:=none) ((World.grownBy_alloc wz (.cells #[.int .i64 lf,.slice Av acc.length cv,.int .i64 p] 48) none).trans (aH _ none)) (fun g e=>by cases e)).more (by show wz.heap.size<=(wz.alloc _).heap.size;simp))
      have HSW:Hid (w.heap.size<=wy.heap.size):=aA HWY.o.size;clear hwy;refine zaC (.tmp 102) (.tmp 104) _ rfl Tryz.underlying24 B w.heap.size _ rs rfl A0.o.r _ _ (⟨lf,acc,p⟩,Av,cv) rfl HZC.o ⟨HROW.o.1,HROW.o.2.1,HRW2.o⟩ (by omega) (Nat.le_trans hB HSW.o) HSW.o ?_;intro v8 w8 ho8 hg8;have A1:=aA ((A0.o.more (Nat.le_trans HSW.o hg8.size)).r_put ho8 hg8);obtain⟨A8,c8,rfl,_,_⟩:=zab ho8
      have HQ8:Hid (w8.heap[Q]?=wz.heap[Q]?):=aA ((hg8.block Q (by have:=(Array.getElem?_eq_some_iff.1 (HQY.o.trans HPZ.o.qb)).1;exact this) (fun e=>by
       obtain⟨_,_,_,h3,_⟩:=A0.o.r
       have:=h3 _ e.symm
       have:=HPZ.o.q
       omega)).trans HQY.o)
      have HK8:Hid (KpA w w8):=aA (HKY.o.a.trans (by obtain⟨_,_,h2,_⟩:=A0.o.r;exact KpA.own h2 hg8 (.inr (.inr rfl))));have HW8:Hid (Below B w w8):=aA (HWY.o.grown hg8 (Nat.le_trans hB HSW.o) (fun k e=>by obtain⟨_,_,h2,_⟩:=A0.o.r;exact(aI h2 e).1));obtain⟨n8,hn8⟩:∃n,n=(rs++[(⟨lf,acc,p⟩:Gm.Rl)]).length:=⟨_,rfl⟩
      have c28:w8.cell? ⟨R,2,none⟩=some (.slice AR2 rs.length cR2):=(A1.o.at 2).1;have f28:=(A1.o.at 2).2.1;have hR8:=(A1.o.at 2).2.2;rw[<-hn8]at A1 ⊢;clear ho8 hg8 A0 hn8;refine hKK _ _ ⟨⟨w8,HQ8.o⟩,rfl⟩ (fun x=>∃y:Calm.OnB Q wz,x=y.1) (fun _ h=>h) ⟨⟨w8,HQ8.o⟩,rfl⟩ ?_
      go_frame
      repeat (go_big_quiet_step (fail))
      refine wpQuiet_nil ?_;intro KK hKK;rw[if_pos (by rfl)];go_wp2_with fail
      have HQ9:=aA (fun u=>(Below.heap_setCell w8 ⟨R,2,none⟩ u Q (by simp only;have:=HPZ.o.q;omega)).trans HQ8.o);refine hKK _ _ ⟨⟨w8.setCell ⟨R,2,none⟩ _,HQ9.o _⟩,rfl⟩ (fun x=>∃y:Calm.OnB Q wz,x=y.1) (fun _ h=>h) ⟨⟨w8.setCell ⟨R,2,none⟩ _,HQ9.o _⟩,rfl⟩ ?_;refine wpQuiet_nil ?_;clear hKK;go_wp2;go_end0
      refine⟨rfl,⟨?_,Fit.more HP.o.f ⟨HLI.o,HIN.o.2,HIN.o.1⟩,HPZ.o.t⟩,HW8.o.setCell A1.o.hR _,HK8.o.trans (KpT.set A1.o 2 _).a⟩;rw[zaF];exact⟨vT',vN',_,A1.o.set 2 _⟩
     ·intro KK hKK;rw[if_pos (by rfl)];go_wp2_with fail
      refine hKK _ _ ⟨⟨(wz.alloc _).drew,HQ1.o _⟩,rfl⟩ (fun x=>∃y:Calm.OnB Q wz,x=y.1) (fun _ h=>h) ⟨⟨(wz.alloc _).drew,HQ1.o _⟩,rfl⟩ ?_;refine wpQuiet_nil ?_;intro KK hKK;rw[if_pos (by rfl)];go_wp2_with fail
      refine hKK _ _ ⟨⟨(wz.alloc _).drew,HQ1.o _⟩,rfl⟩ (fun x=>∃y:Calm.OnB Q wz,x=y.1) (fun _ h=>h) ⟨⟨(wz.alloc _).drew,HQ1.o _⟩,rfl⟩ ?_;refine wpQuiet_nil ?_;intro KK hKK;rw[if_pos (by rfl)];obtain⟨wy,hwy⟩:∃x,x=(wz.alloc (.cells #[.int .i64 lf,.slice Av acc.length cv,.int .i64 p] 48)).drew:=⟨_,rfl⟩
      rw[<-hwy];have A0:Hid (WRaw wy B w.heap.size R (wC vT' vN' (.slice AR2 rs.length cR2) lv) vT' vN' (.slice AR2 rs.length cR2) ts' ns rs):=aA (by rw[hwy];exact(HFB.o.alloc (.cells #[.int .i64 lf,.slice Av acc.length cv,.int .i64 p] 48)).drew9);have HWY:Hid (Below B w wy):=aA (by rw[hwy];exact aB (HPZ.o.w.alloc (Nat.le_trans hB HPZ.o.w.size) _) 1);have HKY:Hid (KpT w wy):=aA (by rw[hwy];exact HPZ.o.k.trans (KpT.below (aB ((Below.refl _ _).alloc (Nat.le_refl _) _) 1)));have HQY:Hid (wy.heap[Q]?=wz.heap[Q]?):=aA (by rw[hwy];exact HQ1.o _);have HZC:Hid (∀j u,(rlC (⟨lf,acc,p⟩,Av,cv))[j]?=some u->wy.cell? ⟨wz.heap.size,j,none⟩=some u):=aA (fun j u hj=>by rw[hwy];exact(aL wz (rlC (⟨lf,acc,p⟩,Av,cv)) 48 j).trans hj)
      have HRW2:Hid (zdj wy B wy.heap.size Av acc):=aA (by
       rw[hwy];exact(HROW.o.2.2.grown (w':=(wz.alloc (.cells #[.int .i64 lf,.slice Av acc.length cv,.int .i64 p] 48)).drew) (row:=none) ((World.grownBy_alloc wz (.cells #[.int .i64 lf,.slice Av acc.length cv,.int .i64 p] 48) none).trans (aH _ none)) (fun g e=>by cases e)).more (by show wz.heap.size<=(wz.alloc _).heap.size;simp))
      have HSW:Hid (w.heap.size<=wy.heap.size):=aA HWY.o.size;clear hwy;refine zaC (.tmp 102) (.tmp 104) _ rfl Tryz.underlying24 B w.heap.size _ rs rfl A0.o.r _ _ (⟨lf,acc,p⟩,Av,cv) rfl HZC.o ⟨HROW.o.1,HROW.o.2.1,HRW2.o⟩ (by omega) (Nat.le_trans hB HSW.o) HSW.o ?_;intro v8 w8 ho8 hg8;have A1:=aA ((A0.o.more (Nat.le_trans HSW.o hg8.size)).r_put ho8 hg8);obtain⟨A8,c8,rfl,_,_⟩:=zab ho8
      have HQ8:Hid (w8.heap[Q]?=wz.heap[Q]?):=aA ((hg8.block Q (by have:=(Array.getElem?_eq_some_iff.1 (HQY.o.trans HPZ.o.qb)).1;exact this) (fun e=>by
       obtain⟨_,_,_,h3,_⟩:=A0.o.r
       have:=h3 _ e.symm
       have:=HPZ.o.q
       omega)).trans HQY.o)
      have HK8:Hid (KpA w w8):=aA (HKY.o.a.trans (by obtain⟨_,_,h2,_⟩:=A0.o.r;exact KpA.own h2 hg8 (.inr (.inr rfl))));have HW8:Hid (Below B w w8):=aA (HWY.o.grown hg8 (Nat.le_trans hB HSW.o) (fun k e=>by obtain⟨_,_,h2,_⟩:=A0.o.r;exact(aI h2 e).1));obtain⟨n8,hn8⟩:∃n,n=(rs++[(⟨lf,acc,p⟩:Gm.Rl)]).length:=⟨_,rfl⟩
      have c28:w8.cell? ⟨R,2,none⟩=some (.slice AR2 rs.length cR2):=(A1.o.at 2).1;have f28:=(A1.o.at 2).2.1;have hR8:=(A1.o.at 2).2.2;rw[<-hn8]at A1 ⊢;clear ho8 hg8 A0 hn8;refine hKK _ _ ⟨⟨w8,HQ8.o⟩,rfl⟩ (fun x=>∃y:Calm.OnB Q wz,x=y.1) (fun _ h=>h) ⟨⟨w8,HQ8.o⟩,rfl⟩ ?_
      go_frame
      repeat (go_big_quiet_step (fail))
      refine wpQuiet_nil ?_;intro KK hKK;rw[if_pos (by rfl)];go_wp2_with fail
      have HQ9:=aA (fun u=>(Below.heap_setCell w8 ⟨R,2,none⟩ u Q (by simp only;have:=HPZ.o.q;omega)).trans HQ8.o);refine hKK _ _ ⟨⟨w8.setCell ⟨R,2,none⟩ _,HQ9.o _⟩,rfl⟩ (fun x=>∃y:Calm.OnB Q wz,x=y.1) (fun _ h=>h) ⟨⟨w8.setCell ⟨R,2,none⟩ _,HQ9.o _⟩,rfl⟩ ?_;refine wpQuiet_nil ?_;clear hKK;go_wp2;go_end0
      refine⟨rfl,⟨?_,Fit.more HP.o.f ⟨HLI.o,HIN.o.2,HIN.o.1⟩,HPZ.o.t⟩,HW8.o.setCell A1.o.hR _,HK8.o.trans (KpT.set A1.o 2 _).a⟩;rw[zaF];exact⟨vT',vN',_,A1.o.set 2 _⟩
    ·subst e2;obtain⟨hx1,hx2,hx3⟩:=HXP.o x hps;obtain⟨hstep,hfit2⟩:=zdr hsp hx1 HP.o.f;obtain⟨hzin,ht2⟩:=zgt hsp HP.o.t;have HZ2:=aA hzin;have HF2:=aA (And.intro hfit2 ht2);have HNM:=aA (fun(y:World)=>zas x.t hx1 y);rw[hx2]at HNM;have HSY:=aA (fun(y:World) (h:Wk y B w.heap.size R tk ns rs lv) (hy:w.heap.size<=y.heap.size)=>zcP L B w.heap.size R tk ts' ns rs lv z2 x false y h HP.o.f hx1 hx3 hy (Nat.le_trans hB hy) hstep HP.o.t h16);unfold bO at HSY;have hne:(K.str x.t).toList.isEmpty=false:=zdK hx2
     replace p3:wr.cell? ⟨w.heap.size,3,none⟩=some (.string (K.str x.t)):=by rw[p3,hps];rfl
     replace p4:wr.cell? ⟨w.heap.size,4,none⟩=some (.complex .f64 (Fl.fl (Pl.pos (L.take x.o)).1) (Fl.fl (Pl.pos (L.take x.o)).2)):=by rw[p4,hps];rfl
     have HC:=aA (HSY.o _ HP.o.b HP.o.w.size);clear hx1 hx2 hx3 hstep hfit2 hzin ht2 hsp HSY;generalize K.str x.t=sx at *;generalize Fl.fl (Pl.pos (L.take x.o)).1=X at *;generalize Fl.fl (Pl.pos (L.take x.o)).2=Y at *;go_wp2_with fail
     refine(HNM.o _).mono ?_;rintro _ _ ⟨rfl,rfl⟩;go_wp2_with fail
     refine HC.o.mono ?_;rintro _ w2 ⟨rfl,hb2,hw2,hk2⟩;have HP2:=aA (HP.o.call hb2 hw2 hk2 HF2.o.1 HF2.o.2);have q2:w2.cell? ⟨Q,2,none⟩=some (.int .i64 p):=cell_of_row w2 _ 2 _ _ _ HP2.o.qb;have f2:=frozen_of_row w2 _ 2 _ _ HP2.o.qb;have hQ2:=(Array.getElem?_eq_some_iff.1 HP2.o.qb).1;clear hb2 hw2 hk2 p3 p4;go_upto_region 20 with fail
     obtain⟨wz,hwz⟩:∃x,x=w2.setCell ⟨Q,2,none⟩ (.int .i64 z2):=⟨_,rfl⟩
     rw[<-hwz];have HPZ:Hid (PrJ w wz B R Q ns rs lv ts' #[.string s0,.complex .f64 X0 Y0,.slice A pr.r.length c,.string (soS pr.p),.complex .f64 (soX L pr.p) (soY L pr.p)] lf v acc z2):=aA (by rw[hwz];exact HP2.o.setQ 2 (.int .i64 z2) rfl (HP2.o.o.set_away HP2.o.qb 2 _) hB);clear hwz q2 f2 hQ2;obtain⟨vT',vN',vR',hfin⟩:=HPZ.o.b;have HFB:=aA hfin;obtain⟨_,_,⟨AR2,cR2,hvR⟩⟩:=zag hfin;subst hvR;obtain⟨Av,cv,hvv,hv1,hv2,hrow⟩:=HPZ.o.o.row hB;subst hvv;have c2:wz.cell? ⟨R,2,none⟩=some (.slice AR2 rs.length cR2):=(hfin.at 2).1;have hRs:=(hfin.at 2).2.2;have hQs:=(Array.getElem?_eq_some_iff.1 HPZ.o.qb).1;have HROW:=aA (And.intro hv1 (And.intro hv2 hrow));clear hfin hrow hv1 hv2;have E0:∀y:Calm.OnB Q wz,y.1.cell? ⟨Q,0,none⟩=some (.int .i64 lf):=fun y=>cell_of_row y.1 _ 0 _ _ _ (y.2.trans HPZ.o.qb);have E1:∀y:Calm.OnB Q wz,y.1.cell? ⟨Q,1,none⟩=some (.slice Av acc.length cv):=fun y=>cell_of_row y.1 _ 1 _ _ _ (y.2.trans HPZ.o.qb);have E2:∀y:Calm.OnB Q wz,y.1.cell? ⟨Q,2,none⟩=some (.int .i64 z2):=fun y=>cell_of_row y.1 _ 2 _ _ _ (y.2.trans HPZ.o.qb);refine CalmN.region_tree (fun x=>∃y:Calm.OnB Q wz,x=y.1) (.two [0,1,2,3,4,6] 5 (.one [] 7 (.one [] 8 (.one [9,10,11] 12 (.fin [])))) 7 (.one [] 5 (.one [] 8 (.one [9,10,11] 12 (.fin []))))) (by kernel_rfl) (by kernel_rfl) (fun _ _ d _ _ h=>by cases d <;> exact h) ⟨⟨wz.drew,rfl⟩,rfl⟩ ?_;simp only[CalmN.wpT,CalmN.wpSt,CalmN.pickOps,List.getElem?_toArray,List.getElem?_cons_zero,List.getElem?_cons_succ];repeat (go_big_quiet_step (fail))
     refine wpQuiet_nil ?_;clear E0 E1 E2;have HQ1:=aA (fun o=>(Below.heap_alloc wz o Q hQs));refine⟨?_,?_⟩
     ·intro KK hKK;rw[if_pos (by rfl)];go_wp2_with fail
      refine hKK _ _ ⟨⟨wz.drew,rfl⟩,rfl⟩ (fun x=>∃y:Calm.OnB Q wz,x=y.1) (fun _ h=>h) ⟨⟨wz.drew,rfl⟩,rfl⟩ ?_;refine wpQuiet_nil ?_;intro KK hKK;rw[if_pos (by rfl)];go_wp2_with fail
      refine hKK _ _ ⟨⟨(wz.alloc _).drew,HQ1.o _⟩,rfl⟩ (fun x=>∃y:Calm.OnB Q wz,x=y.1) (fun _ h=>h) ⟨⟨(wz.alloc _).drew,HQ1.o _⟩,rfl⟩ ?_;refine wpQuiet_nil ?_;intro KK hKK;rw[if_pos (by rfl)];obtain⟨wy,hwy⟩:∃x,x=(wz.alloc (.cells #[.int .i64 lf,.slice Av acc.length cv,.int .i64 z2] 48)).drew:=⟨_,rfl⟩
      rw[<-hwy];have A0:Hid (WRaw wy B w.heap.size R (wC vT' vN' (.slice AR2 rs.length cR2) lv) vT' vN' (.slice AR2 rs.length cR2) ts' ns rs):=aA (by rw[hwy];exact(HFB.o.alloc (.cells #[.int .i64 lf,.slice Av acc.length cv,.int .i64 z2] 48)).drew9);have HWY:Hid (Below B w wy):=aA (by rw[hwy];exact aB (HPZ.o.w.alloc (Nat.le_trans hB HPZ.o.w.size) _) 1);have HKY:Hid (KpT w wy):=aA (by rw[hwy];exact HPZ.o.k.trans (KpT.below (aB ((Below.refl _ _).alloc (Nat.le_refl _) _) 1)));have HQY:Hid (wy.heap[Q]?=wz.heap[Q]?):=aA (by rw[hwy];exact HQ1.o _);have HZC:Hid (∀j u,(rlC (⟨lf,acc,z2⟩,Av,cv))[j]?=some u->wy.cell? ⟨wz.heap.size,j,none⟩=some u):=aA (fun j u hj=>by rw[hwy];exact(aL wz (rlC (⟨lf,acc,z2⟩,Av,cv)) 48 j).trans hj)
      have HRW2:Hid (zdj wy B wy.heap.size Av acc):=aA (by
       rw[hwy];exact(HROW.o.2.2.grown (w':=(wz.alloc (.cells #[.int .i64 lf,.slice Av acc.length cv,.int .i64 z2] 48)).drew) (row:=none) ((World.grownBy_alloc wz (.cells #[.int .i64 lf,.slice Av acc.length cv,.int .i64 z2] 48) none).trans (aH _ none)) (fun g e=>by cases e)).more (by show wz.heap.size<=(wz.alloc _).heap.size;simp))
      have HSW:Hid (w.heap.size<=wy.heap.size):=aA HWY.o.size;clear hwy;refine zaC (.tmp 102) (.tmp 104) _ rfl Tryz.underlying24 B w.heap.size _ rs rfl A0.o.r _ _ (⟨lf,acc,z2⟩,Av,cv) rfl HZC.o ⟨HROW.o.1,HROW.o.2.1,HRW2.o⟩ (by omega) (Nat.le_trans hB HSW.o) HSW.o ?_;intro v8 w8 ho8 hg8;have A1:=aA ((A0.o.more (Nat.le_trans HSW.o hg8.size)).r_put ho8 hg8);obtain⟨A8,c8,rfl,_,_⟩:=zab ho8
      have HQ8:Hid (w8.heap[Q]?=wz.heap[Q]?):=aA ((hg8.block Q (by have:=(Array.getElem?_eq_some_iff.1 (HQY.o.trans HPZ.o.qb)).1;exact this) (fun e=>by
       obtain⟨_,_,_,h3,_⟩:=A0.o.r
       have:=h3 _ e.symm
       have:=HPZ.o.q
       omega)).trans HQY.o)
      have HK8:Hid (KpA w w8):=aA (HKY.o.a.trans (by obtain⟨_,_,h2,_⟩:=A0.o.r;exact KpA.own h2 hg8 (.inr (.inr rfl))));have HW8:Hid (Below B w w8):=aA (HWY.o.grown hg8 (Nat.le_trans hB HSW.o) (fun k e=>by obtain⟨_,_,h2,_⟩:=A0.o.r;exact(aI h2 e).1));obtain⟨n8,hn8⟩:∃n,n=(rs++[(⟨lf,acc,z2⟩:Gm.Rl)]).length:=⟨_,rfl⟩
      have c28:w8.cell? ⟨R,2,none⟩=some (.slice AR2 rs.length cR2):=(A1.o.at 2).1;have f28:=(A1.o.at 2).2.1;have hR8:=(A1.o.at 2).2.2;rw[<-hn8]at A1 ⊢;clear ho8 hg8 A0 hn8;refine hKK _ _ ⟨⟨w8,HQ8.o⟩,rfl⟩ (fun x=>∃y:Calm.OnB Q wz,x=y.1) (fun _ h=>h) ⟨⟨w8,HQ8.o⟩,rfl⟩ ?_
      go_frame
      repeat (go_big_quiet_step (fail))
      refine wpQuiet_nil ?_;intro KK hKK;rw[if_pos (by rfl)];go_wp2_with fail
      have HQ9:=aA (fun u=>(Below.heap_setCell w8 ⟨R,2,none⟩ u Q (by simp only;have:=HPZ.o.q;omega)).trans HQ8.o);refine hKK _ _ ⟨⟨w8.setCell ⟨R,2,none⟩ _,HQ9.o _⟩,rfl⟩ (fun x=>∃y:Calm.OnB Q wz,x=y.1) (fun _ h=>h) ⟨⟨w8.setCell ⟨R,2,none⟩ _,HQ9.o _⟩,rfl⟩ ?_;refine wpQuiet_nil ?_;clear hKK;go_wp2;go_end0
      refine⟨rfl,⟨?_,Fit.more HP2.o.f ⟨HLI.o,HZ2.o,HIN.o.1⟩,HPZ.o.t⟩,HW8.o.setCell A1.o.hR _,HK8.o.trans (KpT.set A1.o 2 _).a⟩;rw[zaF];exact⟨vT',vN',_,A1.o.set 2 _⟩
     ·intro KK hKK;rw[if_pos (by rfl)];go_wp2_with fail
      refine hKK _ _ ⟨⟨(wz.alloc _).drew,HQ1.o _⟩,rfl⟩ (fun x=>∃y:Calm.OnB Q wz,x=y.1) (fun _ h=>h) ⟨⟨(wz.alloc _).drew,HQ1.o _⟩,rfl⟩ ?_;refine wpQuiet_nil ?_;intro KK hKK;rw[if_pos (by rfl)];go_wp2_with fail
      refine hKK _ _ ⟨⟨(wz.alloc _).drew,HQ1.o _⟩,rfl⟩ (fun x=>∃y:Calm.OnB Q wz,x=y.1) (fun _ h=>h) ⟨⟨(wz.alloc _).drew,HQ1.o _⟩,rfl⟩ ?_;refine wpQuiet_nil ?_;intro KK hKK;rw[if_pos (by rfl)];obtain⟨wy,hwy⟩:∃x,x=(wz.alloc (.cells #[.int .i64 lf,.slice Av acc.length cv,.int .i64 z2] 48)).drew:=⟨_,rfl⟩
      rw[<-hwy];have A0:Hid (WRaw wy B w.heap.size R (wC vT' vN' (.slice AR2 rs.length cR2) lv) vT' vN' (.slice AR2 rs.length cR2) ts' ns rs):=aA (by rw[hwy];exact(HFB.o.alloc (.cells #[.int .i64 lf,.slice Av acc.length cv,.int .i64 z2] 48)).drew9);have HWY:Hid (Below B w wy):=aA (by rw[hwy];exact aB (HPZ.o.w.alloc (Nat.le_trans hB HPZ.o.w.size) _) 1);have HKY:Hid (KpT w wy):=aA (by rw[hwy];exact HPZ.o.k.trans (KpT.below (aB ((Below.refl _ _).alloc (Nat.le_refl _) _) 1)));have HQY:Hid (wy.heap[Q]?=wz.heap[Q]?):=aA (by rw[hwy];exact HQ1.o _);have HZC:Hid (∀j u,(rlC (⟨lf,acc,z2⟩,Av,cv))[j]?=some u->wy.cell? ⟨wz.heap.size,j,none⟩=some u):=aA (fun j u hj=>by rw[hwy];exact(aL wz (rlC (⟨lf,acc,z2⟩,Av,cv)) 48 j).trans hj)
      have HRW2:Hid (zdj wy B wy.heap.size Av acc):=aA (by
       rw[hwy];exact(HROW.o.2.2.grown (w':=(wz.alloc (.cells #[.int .i64 lf,.slice Av acc.length cv,.int .i64 z2] 48)).drew) (row:=none) ((World.grownBy_alloc wz (.cells #[.int .i64 lf,.slice Av acc.length cv,.int .i64 z2] 48) none).trans (aH _ none)) (fun g e=>by cases e)).more (by show wz.heap.size<=(wz.alloc _).heap.size;simp))
      have HSW:Hid (w.heap.size<=wy.heap.size):=aA HWY.o.size;clear hwy;refine zaC (.tmp 102) (.tmp 104) _ rfl Tryz.underlying24 B w.heap.size _ rs rfl A0.o.r _ _ (⟨lf,acc,z2⟩,Av,cv) rfl HZC.o ⟨HROW.o.1,HROW.o.2.1,HRW2.o⟩ (by omega) (Nat.le_trans hB HSW.o) HSW.o ?_;intro v8 w8 ho8 hg8;have A1:=aA ((A0.o.more (Nat.le_trans HSW.o hg8.size)).r_put ho8 hg8);obtain⟨A8,c8,rfl,_,_⟩:=zab ho8
      have HQ8:Hid (w8.heap[Q]?=wz.heap[Q]?):=aA ((hg8.block Q (by have:=(Array.getElem?_eq_some_iff.1 (HQY.o.trans HPZ.o.qb)).1;exact this) (fun e=>by
       obtain⟨_,_,_,h3,_⟩:=A0.o.r
       have:=h3 _ e.symm
       have:=HPZ.o.q
       omega)).trans HQY.o)
      have HK8:Hid (KpA w w8):=aA (HKY.o.a.trans (by obtain⟨_,_,h2,_⟩:=A0.o.r;exact KpA.own h2 hg8 (.inr (.inr rfl))));have HW8:Hid (Below B w w8):=aA (HWY.o.grown hg8 (Nat.le_trans hB HSW.o) (fun k e=>by obtain⟨_,_,h2,_⟩:=A0.o.r;exact(aI h2 e).1));obtain⟨n8,hn8⟩:∃n,n=(rs++[(⟨lf,acc,z2⟩:Gm.Rl)]).length:=⟨_,rfl⟩
      have c28:w8.cell? ⟨R,2,none⟩=some (.slice AR2 rs.length cR2):=(A1.o.at 2).1;have f28:=(A1.o.at 2).2.1;have hR8:=(A1.o.at 2).2.2;rw[<-hn8]at A1 ⊢;clear ho8 hg8 A0 hn8;refine hKK _ _ ⟨⟨w8,HQ8.o⟩,rfl⟩ (fun x=>∃y:Calm.OnB Q wz,x=y.1) (fun _ h=>h) ⟨⟨w8,HQ8.o⟩,rfl⟩ ?_
      go_frame
      repeat (go_big_quiet_step (fail))
      refine wpQuiet_nil ?_;intro KK hKK;rw[if_pos (by rfl)];go_wp2_with fail
      have HQ9:=aA (fun u=>(Below.heap_setCell w8 ⟨R,2,none⟩ u Q (by simp only;have:=HPZ.o.q;omega)).trans HQ8.o);refine hKK _ _ ⟨⟨w8.setCell ⟨R,2,none⟩ _,HQ9.o _⟩,rfl⟩ (fun x=>∃y:Calm.OnB Q wz,x=y.1) (fun _ h=>h) ⟨⟨w8.setCell ⟨R,2,none⟩ _,HQ9.o _⟩,rfl⟩ ?_;refine wpQuiet_nil ?_;clear hKK;go_wp2;go_end0
      refine⟨rfl,⟨?_,Fit.more HP2.o.f ⟨HLI.o,HZ2.o,HIN.o.1⟩,HPZ.o.t⟩,HW8.o.setCell A1.o.hR _,HK8.o.trans (KpT.set A1.o 2 _).a⟩;rw[zaF];exact⟨vT',vN',_,A1.o.set 2 _⟩
def grC:Array Value:=#[.slice none 0 0,.slice none 0 0,.slice none 0 0,.int .i64 0]
def zm7 (x:Tok):Prop:=K.Tx x.t/\Gm.named x.t=true/\x.t≠[101,114,114,111,114]
structure Ez (ds:List Y.Dcl) (ps:List Y.Prd):Prop where
 k:∀d∈ds,d.k=4\/d.k=5
 d:∀d∈ds,(∀x∈d.ns,K.Tx x.t/\Gm.named x.t=true)/\d.ns.length<=1000000
 l:∀p∈ps,K.Tx p.l.t/\T.isName p.l.t=true
 r:∀p∈ps,(∀x∈p.r,zm7 x)/\(∀x,p.p=some x->zm7 x)/\p.r.length<=1000
 dl:ds.length<=1000
 pl:ps.length<=1000
 pn:0<ps.length
theorem zcG {k:Int} (hk:k=4\/k=5):∀(xs:List Tok) {s s':Gm.S1},Gm.declN k s xs=.ok s'->s'.st=s.st
 | [],s,s',h=>by rw[Gm.declN]at h;injection h with h;subst h;rfl
 | x::r,s,s',h=>by
  rw[Gm.declN]at h;obtain⟨s1,h1,h2⟩:=Gm.R.bind_eq h;rw[zcG hk r h2];unfold Gm.decl1 at h1;rw[if_neg (by omega),if_neg (by omega)]at h1;split at h1
  ·cases h1
  ·obtain⟨p,_,h1⟩:=Gm.R.bind_eq h1;injection h1 with h1;subst h1;rfl
theorem zcF:∀(ds:List Y.Dcl) {S S':Gm.S1},(∀d∈ds,d.k=4\/d.k=5)->Gm.decls S ds=.ok S'->S'.st=S.st
 | [],S,S',_,h=>by rw[Gm.decls]at h;injection h with h;subst h;rfl
 | d::r,S,S',hk,h=>by
  rw[Gm.decls]at h;obtain⟨s1,h1,h2⟩:=Gm.R.bind_eq h;rw[zcF r (fun d hd=>hk d (List.mem_cons_of_mem _ hd)) h2,zcG (hk d (List.mem_cons_self ..)) d.ns h1];unfold Gm.up;split <;> rfl
theorem zeB {ds:List Y.Dcl} {ps:List Y.Prd} {G:Gm.Gr} (hk:∀d∈ds,d.k=4\/d.k=5) (h:Gm.build ds ps=.ok G):∃S ns q,Gm.decls ⟨[],[],none,0⟩ ds=.ok S/\Gm.lefts S.ts [] ps=.ok ns/\Gm.prods ns S.ts [] ps=.ok q/\G=⟨q.1,ns,q.2,0⟩:=by
 unfold Gm.build at h;obtain⟨S,h1,h⟩:=Gm.R.bind_eq h;obtain⟨ns,h2,h⟩:=Gm.R.bind_eq h;obtain⟨q,h3,h⟩:=Gm.R.bind_eq h;have hs:S.st=none:=zcF ds hk h1;rw[hs]at h;injection h with h;exact⟨S,ns,q,h1,h2,h3,h.symm⟩
theorem zej {ns:List (List Int)} {ts:List Gm.Tm} {rs:List Gm.Rl} {ps:List Y.Prd} {i:Nat} (h:i<ps.length):Gm.prods ns ts rs (ps.drop i)=(Gm.prod1 ns ts rs ps[i]).bind fun q=>Gm.prods ns q.1 q.2 (ps.drop (i+1)):=by
 rw[List.drop_eq_getElem_cons h,Gm.prods]
theorem zhN (w:World):(Instr.build 129 #[]).run Tryz.prog w=.ok (.agg (wC (.slice none 0 0) (.slice none 0 0) (.slice none 0 0) 0)) w:=run_build w 129 _ _ (by kernel_rfl)
theorem zgR {ns:List (List Int)} {ts ts':List Gm.Tm} {rs rs':List Gm.Rl} {pr:Y.Prd} (h:Gm.prod1 ns ts rs pr=.ok (ts',rs')) (hl:rs.length<=40):rs'.length<=40:=by
 obtain⟨h40,tz,az,pz,_,q⟩:=zb4 h;rcases q with⟨_,_,rfl⟩|⟨x,z,_,_,rfl⟩ <;> simp <;> omega
def GrW (w:World) (v:Value) (G:Gm.Gr):Prop:=∃B N R cs vT vN vR,v=.agg #[vT,vN,vR,.int .i64 G.st]/\WRaw w B N R cs vT vN vR G.ts G.ns G.rs/\N<=w.heap.size
theorem GrW.rd {w:World} {v:Value} {G:Gm.Gr} (h:GrW w v G):aT w w.heap.size v G:=by
 obtain⟨B,N,R,cs,vT,vN,vR,rfl,h,hN⟩:=h;exact h.rd hN G.st
theorem zky (w:World) (A1 A2:Option Addr) (n1 n2 c1 c2:Nat) (wb:World) (h:wb=((w.alloc (.cells #[.slice A1 n1 c1,.slice A2 n2 c2] 96)).alloc (.cells #[.slice none 0 0,.slice none 0 0,.slice none 0 0,.int .i64 0] 26)).alloc (.cells (wC (.slice none 0 0) (.slice none 0 0) (.slice none 0 0) 0) 129)) :
  Below w.heap.size w wb/\wb.heap.size=w.heap.size+3/\wb.heap[w.heap.size]?=some (.cells #[.slice A1 n1 c1,.slice A2 n2 c2] 96 (0,0))/\wb.heap[w.heap.size+1]?=some (.cells #[.slice none 0 0,.slice none 0 0,.slice none 0 0,.int .i64 0] 26 (0,0))/\Wk wb w.heap.size (w.heap.size+3) (w.heap.size+1+1) [] [] [] 0:=by
 obtain⟨o0,h0⟩:∃o,o=Obj.cells #[.slice A1 n1 c1,.slice A2 n2 c2] 96:=⟨_,rfl⟩
 obtain⟨o1,h1⟩:∃o,o=Obj.cells #[.slice none 0 0,.slice none 0 0,.slice none 0 0,.int .i64 0] 26:=⟨_,rfl⟩
 obtain⟨o2,h2⟩:∃o,o=Obj.cells (wC (.slice none 0 0) (.slice none 0 0) (.slice none 0 0) 0) 129:=⟨_,rfl⟩
 rw[<-h0,<-h1,<-h2]at h;subst h;have s1:(w.alloc o0).heap.size=w.heap.size+1:=by simp
 have s2:((w.alloc o0).alloc o1).heap.size=w.heap.size+1+1:=by simp
 refine⟨(((Below.refl _ w).alloc (Nat.le_refl _) o0).alloc (by omega) o1).alloc (by omega) o2,by simp,?_,?_,.slice none 0 0,.slice none 0 0,.slice none 0 0,?_,aX.nil _ _,bH.nil _ _,bA.nil _ _ _,by omega⟩
 ·rw[Below.heap_alloc _ _ _ (by omega),Below.heap_alloc _ _ _ (by omega),h0];exact heap_alloc_new w _
 ·rw[Below.heap_alloc _ _ _ (by omega),<-s1,h1];exact heap_alloc_new _ _
 ·rw[<-s2,h2];exact heap_alloc_new _ _
theorem zmd (L:List Int) (ds:List Y.Dcl) (ps:List Y.Prd) (A1 A2:Option Addr) (c1 c2:Nat) (G:Gm.Gr) (w:World) (hd:zkH L w w.heap.size A1 ds) (hp:zkG L w w.heap.size A2 ps) (hz:Ez ds ps) (hb:Gm.build ds ps=.ok G) :
  Calls Tryz.prog 44 #[.agg #[.slice A1 ds.length c1,.slice A2 ps.length c2]] w fun e w'=>(∃g,e=.returned (.tuple #[g,.complex .f64 0 0,.int .i64 0])/\GrW w' g G/\Gm.Fit G)/\Below w.heap.size w w':=by
 obtain⟨S,ns,⟨tz,rz⟩,h1,h2,h3,hG⟩:=zeB hz.k hb;have hbg:=fun w=>zhN w;unfold wC at hbg;have HDD:=aA hd;have HPP:=aA hp;have HZ:=aA hz;have H1:=aA h1;have H2:=aA h2;have H3:=aA h3;have HG:=aA hG;have HPN:Hid (0<ps.length):=aA hz.pn;clear hd hp hz hb h1 h2 h3 hG
 go_enter Tryz.func44,Tryz.ntmps44
 go_wp2_with fail
 obtain⟨wb,hwb⟩:∃x,x=((w.alloc (.cells #[.slice A1 ds.length c1,.slice A2 ps.length c2] 96)).alloc (.cells #[.slice none 0 0,.slice none 0 0,.slice none 0 0,.int .i64 0] 26)).alloc (.cells (wC (.slice none 0 0) (.slice none 0 0) (.slice none 0 0) 0) 129):=⟨_,rfl⟩
 have hbe:=zky w A1 A2 ds.length ps.length c1 c2 wb hwb;unfold wC at hwb;rw[<-hwb];obtain⟨b1,b2,b3,b4,b5⟩:=hbe;have HBW:=aA b1;have HSB:=aA b3;have HGB:=aA b4;have HWK:=aA b5;have HSZ:Hid (w.heap.size<=wb.heap.size/\w.heap.size+3<=wb.heap.size):=aA (by omega);clear hwb b1 b2 b3 b4 b5 hbg;obtain⟨n,hn⟩:∃n,n=w.heap.size:=⟨_,rfl⟩
 have HNN:=aA hn;rw[<-hn]at HDD HPP HBW HSB HGB HWK HSZ ⊢;clear hn;obtain⟨R,hR⟩:∃R,R=n+1+1:=⟨_,rfl⟩
 rw[<-hR]at HWK ⊢;have HRN:=aA hR;clear hR;have HFN:Hid (Gm.Fit ⟨[],[],[],0⟩):=aA ⟨by simp,by simp,by simp,by unfold Gm.In;simp⟩;have HC:=aA (zl8 L n (n+3) R [] [] ds ⟨[],[],none,0⟩ S A1 c1 wb HWK.o ⟨HFN.o,by simp,by simp⟩ HZ.o.k HZ.o.d (HDD.o.keep HBW.o) HSZ.o.2 HSZ.o.1 rfl HZ.o.dl H1.o);refine HC.o.mono ?_;rintro _ w2 ⟨rfl,⟨hw2,hj2⟩,hb2,hk2⟩;have HW2:=aA hw2;have HJ2:=aA hj2;have HB2:=aA hb2;have HK2:=aA (KpT.a hk2);have HSB2:=aA (hk2 _ _ _ HSB.o (by decide) (by decide));have s1:w2.cell? ⟨n,1,none⟩=some (.slice A2 ps.length c2):=cell_of_row w2 _ 1 _ _ _ HSB2.o;have hns2:=(Array.getElem?_eq_some_iff.1 HSB2.o).1;have HC3:=aA (zly L n (n+3) R S.ts [] ps [] ns S.lv A2 c2 w2 HW2.o HJ2.o.f HZ.o.l ((HPP.o.keep HBW.o).keep HB2.o) (Nat.le_trans HSZ.o.2 HB2.o.size) (Nat.le_trans HSZ.o.1 HB2.o.size) (by simp) HZ.o.pl H2.o);clear hw2 hj2 hb2 hk2 HC;go_wp2_with fail
 refine HC3.o.mono ?_;rintro _ w3 ⟨rfl,⟨hw3,hf3,hl3⟩,hb3,hk3⟩;have HW3:Hid (Wk w3 n w3.heap.size R S.ts ns [] S.lv):=aA (hw3.more (Nat.le_trans HSZ.o.2 (Nat.le_trans HB2.o.size hb3.size)));have HF3:=aA hf3;have HB3:=aA (HB2.o.trans hb3);have HK3:=aA (HK2.o.trans hk3);have HL3:=aA hl3;have HT3:=aA HJ2.o.h;clear hw3 hf3 hb3 hk3 HC3 s1 hl3 hns2 HW2 HB2 HK2 HSB2 HJ2;go_wp2;go_loopw [6] (fun vi wr=>∃(i:Nat) (ts:List Gm.Tm) (rs:List Gm.Rl),i<=ps.length/\vi=.int .i64 i/\Hid (Gm.prods ns ts rs (ps.drop i)=.ok (tz,rz))/\Hid (Wk wr n wr.heap.size R ts ns rs S.lv)/\Hid (Gm.Fit ⟨ts,ns,rs,0⟩)/\Hid (ts.length<=24)/\Hid (rs.length<=40)/\Hid (Below n wb wr)/\Hid (KpA wb wr)) (fun vi _=>ps.length-(intOf vi).toNat)
 case atStart=>exact⟨0,S.ts,[],Nat.zero_le _,rfl,H3,HW3,HF3,HT3,aA (by simp),HB3,HK3⟩
 case round =>
  obtain⟨i,ts,rs,hi,rfl,HE,HW,HF,HT,HRS,HBQ,HKQ⟩:=hrel;have HSQ:=aA (HKQ.o _ _ _ HSB.o (by decide) (by decide) (by decide) (by decide));have s1:wr.cell? ⟨n,1,none⟩=some (.slice A2 ps.length c2):=cell_of_row wr _ 1 _ _ _ HSQ.o;have hns2:=(Array.getElem?_eq_some_iff.1 HSQ.o).1;obtain⟨vTr,vNr,vRr,hwr⟩:=HW.o;have f10:=(hwr.at 10).1;have hRr:=hwr.lt;simp only[wC,List.getElem?_toArray,List.getElem?_cons_zero,List.getElem?_cons_succ]at f10;clear hwr;have hBs:=HBQ.o.size;have hpl:=HZ.o.pl;have hBs':n<=wr.heap.size:=by have:=HSZ.o;omega
  by_cases hlt:i<ps.length
  ·have HPQ:=aA ((HPP.o.keep HBW.o).keep HBQ.o);obtain⟨g,o,rfl,hgB,hc⟩:=HPQ.o (by omega);obtain⟨k0,k1,⟨A',c',k2,hrf⟩,k3,k4⟩:=hc i hlt;have hgs:g<wr.heap.size:=by have:=HSZ.o;omega
   have hE:=HE.o;rw[zej hlt]at hE;obtain⟨⟨t2,r2⟩,hp1,hE2⟩:=Gm.R.bind_eq hE;simp only at hE2;have HE2:=aA hE2;obtain⟨z1,z2,z3⟩:=HZ.o.r _ (List.getElem_mem hlt);have HC:=aA (zmJ L n R ts t2 ns rs r2 S.lv ps[i] A' c' wr HW.o HF.o hrf (HZ.o.l _ (List.getElem_mem hlt)).1 z1 z2 (by have:=HSZ.o;omega) HT.o HL3.o HRS.o z3 hp1);have HR2:=aA (zgR hp1 HRS.o);unfold zb6 at HC;clear hc hrf hE hE2 hp1 z1 z2 z3;generalize ps[i]=p at *;generalize rfX L p.l=X0 at *;generalize rfY L p.l=Y0 at *;generalize K.str p.l.t=s0 at *;generalize soX L p.p=X1 at *;generalize soY L p.p=Y1 at *;generalize soS p.p=s1 at *;go_wp2_with fail
   refine HC.o.mono ?_;rintro _ w4 ⟨rfl,⟨hw4,hf4,ht4⟩,hb4,hk4⟩;have H4:=aA (And.intro hw4 (And.intro hf4 (And.intro ht4 (And.intro (HBQ.o.trans hb4) (HKQ.o.trans hk4)))));clear hw4 hf4 ht4 hb4 hk4 HC;go_wp2;go_roundw
   case rel=>exact⟨i+1,t2,r2,hlt,by go_num,HE2,aA H4.o.1,aA H4.o.2.1,aA H4.o.2.2.1,HR2,aA H4.o.2.2.2.1,aA H4.o.2.2.2.2⟩
   case measure=>simp[intOf];omega
  ·obtain rfl:i=ps.length:=by omega
   have hE:=HE.o;rw[List.drop_length,Gm.prods]at hE;injection hE with hE;injection hE with e1 e2;subst e1;subst e2;have e0:((ps.length:Int)==0)=false:=beq_eq_false_iff_ne.2 (by have:=HPN.o;omega);go_wp2_with fail
   have f7:=fun y:Calm.On wr.heap.size wr=>(show y.1.cell? ⟨R,7,none⟩=some (.bool false) by obtain⟨a,b,c,h⟩:=HW.o.below y.2;exact(h.at 7).1)
   refine CalmN.region_tree (fun x=>∃y:Calm.On wr.heap.size wr,x=y.1) (.one [0,1,2,3,4,5,6,7,8,9,10,11,12,13] 14 (.fin [15,16])) (by kernel_rfl) (by kernel_rfl) (fun _ _ d _ _ h=>by cases d <;> exact h) ⟨⟨wr.drew,aB (Below.refl _ _) 1⟩,rfl⟩ ?_;simp only[CalmN.wpT,CalmN.wpSt,CalmN.pickOps,List.getElem?_toArray,List.getElem?_cons_zero,List.getElem?_cons_succ];repeat (go_big_quiet_step (fail))
   refine wpQuiet_nil ?_;intro KK2 hKK2;rw[if_neg (by exact(fun h=>absurd (show false=true from h) (by decide)))];refine hKK2 _ _ ⟨⟨wr.drew,aB (Below.refl _ _) 1⟩,rfl⟩ (fun x=>∃y:Calm.On wr.heap.size wr,x=y.1) (fun _ h=>h) ⟨⟨wr.drew,aB (Below.refl _ _) 1⟩,rfl⟩ ?_;simp only[Act.put,List.setIfInBounds_toArray,List.set_cons_succ,List.set_cons_zero];repeat (go_big_quiet_step (fail))
   refine wpQuiet_nil ?_;clear f7 s1 hns2 f10 hRr hKK2;obtain⟨wz,hwz⟩:∃x,x=wr.drew:=⟨_,rfl⟩
   rw[<-hwz];have hbz:Below wr.heap.size wr wz:=by rw[hwz];exact aB (Below.refl _ _) 1
   have HWZ:=aA (HW.o.below hbz);have hzs:wz.heap.size=wr.heap.size:=by rw[hwz];rfl
   have HWB:=aA ((HBW.o.trans HBQ.o).trans (hbz.mono hBs'));have HSZ2:=aA ((hbz.block _ (Array.getElem?_eq_some_iff.1 HSQ.o).1).trans HSQ.o);have HGQ:=HKQ.o _ _ _ HGB.o (by decide) (by decide) (by decide) (by decide);have HGZ:=aA ((hbz.block _ (Array.getElem?_eq_some_iff.1 HGQ).1).trans HGQ);clear hwz HGQ hbz;have s1:wz.cell? ⟨n,1,none⟩=some (.slice A2 ps.length c2):=cell_of_row wz _ 1 _ _ _ HSZ2.o;have hns2:=(Array.getElem?_eq_some_iff.1 HSZ2.o).1;obtain⟨vTz,vNz,vRz,hzw⟩:=HWZ.o;obtain⟨⟨AT,cT,rfl⟩,⟨AN,cN,rfl⟩,⟨AR,cR,rfl⟩⟩:=zag hzw;have HZW:=aA hzw;have b0:=(hzw.at 0).1;have b1:=(hzw.at 1).1;have b2:=(hzw.at 2).1;have b3:=(hzw.at 3).1;have b7:=(hzw.at 7).1;have b10:=(hzw.at 10).1;have hRz:=hzw.lt;simp only[wC,List.getElem?_toArray,List.getElem?_cons_zero,List.getElem?_cons_succ]at b0 b1 b2 b3 b7 b10;have g0:wz.cell? ⟨n+1,0,none⟩=some (.slice none 0 0):=cell_of_row wz _ 0 _ _ _ HGZ.o;have g1:wz.cell? ⟨n+1,1,none⟩=some (.slice none 0 0):=cell_of_row wz _ 1 _ _ _ HGZ.o;have g2:wz.cell? ⟨n+1,2,none⟩=some (.slice none 0 0):=cell_of_row wz _ 2 _ _ _ HGZ.o;have g3:wz.cell? ⟨n+1,3,none⟩=some (.int .i64 0):=cell_of_row wz _ 3 _ _ _ HGZ.o;have f0:=frozen_of_row wz _ 0 _ _ HGZ.o;have f1:=frozen_of_row wz _ 1 _ _ HGZ.o;have f2:=frozen_of_row wz _ 2 _ _ HGZ.o;have f3:=frozen_of_row wz _ 3 _ _ HGZ.o;have hgz:=(Array.getElem?_eq_some_iff.1 HGZ.o).1;have HOF:Hid (Off9 wz wz.heap.size (some (n+1))):=aA ⟨fun g e=>by injection e with e;subst e;exact⟨_,_,HGZ.o,by decide,by decide,by decide,.inl ⟨by decide,by decide⟩⟩⟩;have HGR:=aA (fun u0 u1 u2 u3=>(HZW.o.more (N':=wz.heap.size) (by rw[hzs];exact Nat.le_refl _)).grown (aF (aF (aF (aF (World.grownBy.refl wz (some (n+1))) 0 u0) 1 u1) 2 u2) 3 u3) HOF.o);clear hzw hzs;go_wp2;refine bodyPost_ret (v:=.tuple #[.agg #[.slice AT ts.length cT,.slice AN ns.length cN,.slice AR rs.length cR,.int .i64 0],.complex .f64 0 0,.int .i64 0]) (by simp[results,Tryz.results44,go_sem,g0,g1,g2,g3]) rfl ?_;rw[HG.o];refine⟨⟨_,rfl,⟨_,_,_,_,_,_,_,rfl,HGR.o _ _ _ _,by simp⟩,HF.o⟩,?_⟩;rw[<-HNN.o];exact(((HWB.o.setCell (by simp only;omega) _).setCell (by simp only;omega) _).setCell (by simp only;omega) _).setCell (by simp only;omega) _
theorem zi2 {w:World} {ops:Array Oper} {rest:List Oper} {o:Oper} {a:Act} {Q:Exit->Act->World->Prop}
  (hgd:o.guard=none) (s x:Operand) (t:TypeId) (ho:o.op=.call {callee:=.builtin .append,args:=#[s,x],argTypes:=#[t,t]}) (ht:Tryz.prog.underlying t=some (.slice 81))
  (base:Nat) (v:Value) (xs:List Gm.Tm) (hs:a.eval s=v) (hown:aX w base v xs) (B m c:Nat) (A:Option Addr) (zs:List Gm.Tm) (hx:a.eval x=.slice A m c) (hm:m=zs.length) (hr:zeG w B A zs)
  (hlen:xs.length+zs.length<=1000000) (hbase:base<=w.heap.size)
  (hK:∀v' w',aX w' base v' (xs++zs)->w.grownBy w' v.ownBlock->wpList Tryz.prog ops Q rest (a.put o.dst v') w') :
  wpList Tryz.prog ops Q (o::rest) a w:=by
 obtain⟨i,hi,hz0,hz1,hz2⟩:=info_parts zjk;subst hm;rcases A with _|ad
 ·have hz:zs=[]:=by
   rcases Nat.eq_zero_or_pos zs.length with h0|h0
   ·exact List.eq_nil_of_length_eq_zero h0
   ·obtain⟨g,o',h,_⟩:=hr (by omega);cases h
  subst hz;have hrun:=zao (P:=Tryz.prog) w base t o.type 81 i 3 ht hi v xs.length _ hown c;refine wpList_plain hgd fun K hK'=>?_;unfold Oper.wp;simp[execOp,ho,resolve,invoke,builtin,hs,hx,hrun,Result.andThen];exact hK' _ _ (hK v w (by simpa using hown) (World.grownBy.refl _ _))
 ·refine wpList_append_own w hgd s x t ho base 81 i _ 3 32 ht hi hz0 hz1 hz2 rfl (by decide) v xs.length (zec xs) hs hown ad zs.length c (zec zs) hx (zdn tmC (fun _=>rfl) zs) ?_ ?_ (by unfold maxLen;omega) (by omega) hbase fun v' w' h1 h2 _=>hK v' w' ?_ h2
  ·intro j u hj;have hjl:j<zs.length*3:=by have:=(List.getElem?_eq_some_iff.1 hj).1;rw[<-zdn tmC (fun _=>rfl) zs];exact this
   obtain⟨g,o',h,_,hc⟩:=hr (by omega)
   replace h:=Option.some.inj h
   subst h;have e:((⟨g,o',none⟩:Addr).add j)=⟨g,o'+j,none⟩:=by unfold Addr.add;by_cases h0:j=0 <;> simp[h0]
   rw[e];have hi3:j / 3<zs.length:=by omega
   have hm3:j % 3<3:=Nat.mod_lt _ (by decide);have hj2:j=j / 3*3+j % 3:=by omega
   have hk:=zbg tmC (fun _=>rfl) zs (j / 3) (j % 3) hi3 hm3;rw[<-hj2]at hk;have hj':(tmC zs[j / 3])[j % 3]?=some u:=hk.symm.trans hj;obtain⟨k0,k1,k2⟩:=hc (j / 3) hi3;rw[hj2];generalize j % 3=q at *
   match q,hm3 with
   | 0,_=>rw[Nat.add_zero,k0];exact hj'
   | 1,_=>rw[<-Nat.add_assoc,k1];exact hj'
   | 2,_=>rw[<-Nat.add_assoc,k2];exact hj'
  ·intro u hu;unfold zec at hu;obtain⟨y,_,hy⟩:=List.mem_flatMap.1 hu;simp[tmC]at hy;rcases hy with rfl|rfl|rfl <;> rfl
  ·unfold aX zec;rw[List.length_append,List.flatMap_append];exact h1
theorem zb8 (w:World):aX (w.alloc (.cells #[] 81)) w.heap.size (.slice (some ⟨w.heap.size,0,none⟩) 0 0) []:=by
 have:=World.ownsRow_made (base:=w.heap.size) (e:=81) (size:=3) w #[] 0 (Nat.le_refl _) (by unfold maxLen;omega) rfl
 exact this
section
variable {w0 wr w':World} {n:Nat} {cs:Array Value} {vT vN v:Value} {ts:List Gm.Tm} {ns:List (List Int)} {rs:List Gm.Rl}
end
theorem za5 {w:World} {base base':Nat} {e:TypeId} {size n:Nat} {v:Value} {xs:List Value} (h:w.ownsRow base e size v n xs) (hb:base'<=base):w.ownsRow base' e size v n xs:=by
 refine⟨h.1,?_⟩;rcases h.2 with h0|⟨g,cap,cur,e,hb1,hr⟩
 ·exact .inl h0
 ·exact .inr ⟨g,cap,cur,e,by omega,hr⟩
structure Gx (w:World) (n:Nat) (vT vN v:Value) (ts:List Gm.Tm) (ns:List (List Int)) (rs:List Gm.Rl):Prop where
 a:∃cs,w.heap[n]?=some (.cells cs 26 (0,0))
 b:∃cs,w.heap[n+1]?=some (.cells cs 26 (0,0))
 t:aX w n vT ts
 nn:bH w n vN ns
 r:bA w n w.heap.size v rs
theorem Gx.set {w:World} {n:Nat} {vT vN v:Value} {ts:List Gm.Tm} {ns:List (List Int)} {rs:List Gm.Rl} (h:Gx w n vT vN v ts ns rs) (g j:Nat) (u:Value) (hg:g=n\/g=n+1):Gx (w.setCell ⟨g,j,none⟩ u) n vT vN v ts ns rs:=by
 have hc:∃cs,w.heap[g]?=some (.cells cs 26 (0,0)):=by rcases hg with rfl|rfl;exact h.a;exact h.b
 obtain⟨cs,hc⟩:=hc;have hs:w.grownBy (w.setCell ⟨g,j,none⟩ u) (some g):=aF (World.grownBy.refl _ _) j u
 have key:∀m:Nat,(∃cs,w.heap[m]?=some (.cells cs 26 (0,0)))->∃cs,(w.setCell ⟨g,j,none⟩ u).heap[m]?=some (.cells cs 26 (0,0)):=fun m ⟨c2,h2⟩=>by
  by_cases e:m=g
  ·subst e;exact⟨_,heap_setCell_same w m j _ _ u h2⟩
  ·exact⟨c2,(Below.heap_setCell w ⟨g,j,none⟩ u m (by simp only;omega)).trans h2⟩
 refine⟨key n h.a,key (n+1) h.b,World.ownsRow.kept h.t hs (aP h.t hc (fun cur e=>by injection e with _ e;cases e)),World.ownsRow.kept h.nn hs (aP h.nn hc (fun cur e=>by injection e with _ e;cases e)),(h.r.grown hs (fun g' e=>?_)).more hs.size⟩;injection e with e;subst e;exact .inl ⟨aR hc (by decide),aR hc (by decide)⟩
theorem Gx.rd {w:World} {n:Nat} {vT vN v:Value} {ts:List Gm.Tm} {ns:List (List Int)} {rs:List Gm.Rl} (h:Gx w n vT vN v ts ns rs) (z:Int):aT w w.heap.size (.agg #[vT,vN,v,.int .i64 z]) ⟨ts,ns,rs,z⟩:=by
 obtain⟨AT,cT,rfl,h1,h2⟩:=zbe h.t;obtain⟨AN,cN,rfl,h3,h4⟩:=zbM h.nn;obtain⟨AR,cR,rfl,h5,h6⟩:=zbk h.r (Nat.le_refl _);exact⟨AT,cT,AN,cN,AR,cR,rfl,h1,h3,h5,h2,h4,h6⟩
end Go.Proofs.YtcmhaemaophplaaGreat
