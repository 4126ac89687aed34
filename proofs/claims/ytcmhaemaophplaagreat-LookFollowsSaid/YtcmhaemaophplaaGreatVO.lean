/- Part of the proofs over this program: Ref8M, Read9, Src9, Alive15T, Alive16T, SetW2, LkRules, RfEq, Alive16, LkFol, FstRef, FstFollow, FstFol2. -/
import Derived.Lib.Tables
import Derived.Lib.BitFns
import Derived.Lib.TrailingZeros
import Derived.Lib.LaidTab
import Derived.Test.YtcmhaemaophplaaGreatVN
namespace Go.Proofs.YtcmhaemaophplaaGreat
set_option maxRecDepth 100000
set_option maxHeartbeats 40000000
open Go.RowKit
def Y.more:Nat->List Prd->List Tok->Res (List Prd)
 | 0,acc,ts=>.ok acc ts
 | _+1,acc,[]=>.ok acc []
 | f+1,acc,t::ts=>(group [] (t::ts)).bind fun ps r=>Y.more f (acc++ps) r
theorem Y.group_kind {t:Tok} {ts r:List Tok} {ps:List Y.Prd} (h:Y.group [] (t::ts)=.ok ps r):t.k=1:=by
 unfold Y.group at h;obtain⟨left,m,h1,h⟩:=Y.bind_eq_ok h;obtain⟨e,hk⟩:=Y.take_ok h1;injection e with e _;subst e
 simpa using hk
theorem zjC {w:World} {o:Oper} {a:Act} {K:Act->World->Prop} {Q:Exit->Act->World->Prop}
  (s x:Operand) (t:TypeId) (ho:o.op=.call {callee:=.builtin .append,args:=#[s,x],argTypes:=#[t,t]}) (ht:Tryz.prog.underlying t=some (.slice 135))
  (L:List Int) (base bu:Nat) (v u:Value) (xs ys:List Y.Prd) (hs:a.eval s=v) (hown:bF L w base v xs) (hx:a.eval x=u) (hsrc:bF L w bu u ys) (hbu:base<=bu)
  (hlen:xs.length+ys.length<=1000000) (hbase:base<=w.heap.size)
  (hK:∀v' w',bF L w' base v' (xs++ys)->w.grownBy w' v.ownBlock->K (a.put o.dst v') w') :
  o.wp Tryz.prog a w K Q:=by
 obtain⟨i,hi,hz0,hz1,hz2⟩:=info_parts zlP;have hown0:=hown;obtain⟨qs,hq1,hq2,hq3⟩:=hown;obtain⟨qy,hy1,hy2,hy3⟩:=hsrc;have hlq:qs.length=xs.length:=by rw[<-hq1,List.length_map]
 have hly:qy.length=ys.length:=by rw[<-hy1,List.length_map]
 have hpl:(zin L qy).length=ys.length*5:=hy2.1;rcases hy2.2 with⟨rfl,h0⟩|⟨g,cap,cur,rfl,hb,hg,hn,hm,hc,htk⟩
 ·have hz:ys=[]:=List.eq_nil_of_length_eq_zero h0;subst hz;have hrun:=zao (P:=Tryz.prog) w base t o.type 135 i 5 ht hi v xs.length _ hq2 0;unfold Oper.wp;simp[execOp,ho,resolve,invoke,builtin,hs,hx,hrun,Result.andThen];exact hK v w (by simpa using hown0) (World.grownBy.refl _ _)
 ·refine wp_append_own w s x t ho base 135 i _ 5 88 ht hi hz0 hz1 hz2 rfl (by decide) v xs.length (zin L qs) hs hq2 ⟨g,0,none⟩ ys.length cap (zin L qy) hx hpl ?_ ?_ (by unfold maxLen;omega) (by omega) hbase fun v' w' h1 h2 _=>hK v' w' ?_ h2
  ·intro j z hj;have hjl:j<ys.length*5:=by have:=(List.getElem?_eq_some_iff.1 hj).1;omega
   rw[zd6,Nat.zero_add,cell_of_row w g _ _ _ _ hg];rw[<-htk,List.getElem?_take_of_lt hjl]at hj
   simpa using hj
  ·intro z hz;obtain⟨q,_,hz⟩:=List.mem_flatMap.1 hz;exact zcx L q.1 q.2.1 q.2.2 z hz
  ·have hoo:=zaq hq2 (by decide);refine⟨qs++qy,by rw[List.map_append,hq1,hy1],?_,fun q hq=>?_⟩
   ·rw[List.length_append];unfold zin at h1 ⊢;rw[List.flatMap_append];exact h1
   ·rcases List.mem_append.1 hq with h|h
    ·exact(hq3 q h).grown h2 hoo
    ·exact((hy3 q h).less hbu).grown h2 hoo
theorem Rd8.dlen {L:List Int} {B R px py:Nat} {w:World} {ts:List Tok} (h:Rd8 L B R px py w ts):zda R w=ts.length:=by
 obtain⟨A,c,h0,_⟩:=h.cell0;unfold zda;rw[h0]
theorem zdG {w:World} {base base':Nat} {v v':Value} {n n' size size':Nat} {e e':TypeId} {xs xs':List Value} (h:w.ownsRow base e size v n xs) (h':w.ownsRow base' e' size' v' n' xs') (he:e≠e'):v.ownBlock=none\/v.ownBlock≠v'.ownBlock:=by
 rcases h'.2 with⟨rfl,_⟩|⟨g,cap,cur,rfl,_,hg,_⟩
 ·rcases hv:v.ownBlock with _|k
  ·exact .inl rfl
  ·exact .inr (by simp[Value.ownBlock])
 ·exact .inr (zeV h hg he)
theorem of8m (L:List Int) (A:Option Addr) (c px py:Nat) (ts:List Tok) (ds:List Y.Dcl) (p1 ps:List Y.Prd) (f1:Nat) (m m2 r1:List Tok) (t9:Tok) (w:World) (hr:RdT L w w.heap.size A ts) (hc:ts.length<=c) (h4:ts.length<=4000)
  (hd:Y.decls (ts.length+1) [] ts=.ok ds m) (hk:∀d∈ds,d.k=4\/d.k=5) (h9:Y.take [9] m=.ok t9 m2) (hg:Y.group [] m2=.ok p1 r1) (hmo:Y.more f1 p1 r1=.ok ps []) :
  Calls Tryz.prog 63 #[.slice A ts.length c,.complex .f64 px py] w fun e w'=>∃dv pv,e=.returned (.tuple #[.agg #[dv,pv],.complex .f64 0 0,.int .i64 0])/\bG L w' w.heap.size dv ds/\bF L w' w.heap.size pv ps/\Below w.heap.size w w':=by
 have SC:=fun a w m X Y=>show(store a (.complex .f64 X Y) m).run Tryz.prog w=stored Tryz.prog w a (.complex .f64 X Y) m from run_store _ w a _ m rfl;have BR:=fun A (n c:Nat) X Y w=>(run_build w 162 _ _ (by kernel_rfl):(Instr.build 162 #[(0,.slice A n c),(1,.complex .f64 X Y)]).run Tryz.prog w=.ok (.agg #[.slice A n c,.complex .f64 X Y,.complex .f64 0 0,.int .i64 0]) w)
 have BS:=fun A (n c:Nat) w=>(run_build w 96 _ _ (by kernel_rfl):(Instr.build 96 #[(0,.slice A n c)]).run Tryz.prog w=.ok (.agg #[.slice A n c,.slice none 0 0]) w)
 have HB0:=aA (((Below.refl w.heap.size w).alloc (Nat.le_refl _) (.cells #[.slice none 0 0,.slice none 0 0] 96)).alloc (by simp) (.cells #[.slice A ts.length c,.complex .f64 px py,.complex .f64 0 0,.int .i64 0] 162));have HR1:Hid (Rd8 L w.heap.size (w.heap.size+1) px py ((w.alloc (.cells #[.slice none 0 0,.slice none 0 0] 96)).alloc (.cells #[.slice A ts.length c,.complex .f64 px py,.complex .f64 0 0,.int .i64 0] 162)) ts):=aA ⟨A,c,by have:=heap_alloc_new (w.alloc (.cells #[.slice none 0 0,.slice none 0 0] 96)) (.cells #[.slice A ts.length c,.complex .f64 px py,.complex .f64 0 0,.int .i64 0] 162);rwa [show(w.alloc (.cells #[.slice none 0 0,.slice none 0 0] 96)).heap.size=w.heap.size+1 by simp]at this,hc,h4,hr.below HB0.o (Nat.le_refl _),by omega⟩;have HD:=aA (fun(x:World) (B R:Nat) (h:Rd8 L B R px py x ts)=>zl9 L B R px py (ts.length+1) ts ds m x h hd (by omega) hk);have H9:=aA (fun(x:World) (B R:Nat) (h:Rd8 L B R px py x m)=>zcq L B R px py m 9 9 x h t9 m2 ((zbH 9 m).trans h9));have HG:=aA (fun(x:World) (B R:Nat) (h:Rd8 L B R px py x m2)=>zjo L B R px py m2 p1 r1 x h hg);have HMO:=aA hmo;have HGL:=aA (Y.group_len hg);unfold bO at H9;clear hr hc h4 hd hk h9 hg hmo
 go_enter Tryz.func63,Tryz.ntmps63
 go_wp2_with fail
 refine(HD.o _ _ _ HR1.o).mono ?_;rintro _ w2 ⟨hg2,v2,rfl,ho2,hr2⟩;have hz0:=zad hg2 ((Below.block (B:=w.heap.size+1) ((Below.refl _ (w.alloc (.cells #[.slice none 0 0,.slice none 0 0] 96))).alloc (by simp) (.cells #[.slice A ts.length c,.complex .f64 px py,.complex .f64 0 0,.int .i64 0] 162)) w.heap.size (by omega)).trans (heap_alloc_new w _)) (by omega);obtain⟨A2,c2,rfl,_,_⟩:=ho2.form;have HG2:=aA hg2;have hs2:w.heap.size+2<=w2.heap.size:=by have:=hg2.size;simpa using this
 have HO2:=aA ho2;have HRO:=aA hr2.other;have HR2:=aA (hr2.alloc (.cells #[.slice A2 ds.length c2,.slice none 0 0] 96));have HZ2:=aA ((Below.heap_alloc w2 (.cells #[.slice A2 ds.length c2,.slice none 0 0] 96) w.heap.size (by omega)).trans hz0);clear hg2 ho2 hr2 hz0;go_wp2_with fail
 refine(H9.o _ _ _ HR2.o).mono ?_;rintro _ w3 ⟨rfl,hg3,hr3⟩;have HG3:=aA hg3;have HR3:=aA hr3;have HZ3:=aA (zad hg3 HZ2.o (by omega));have HB3:=aA (zcH hg3 (by omega:w.heap.size+1<w2.heap.size));clear hg3 hr3;go_wp2_with fail
 have HL1:Hid (p1.length+r1.length<=4000):=aA (by have h1:=HGL.o;have h2:=HR3.o.len;simp at h1;omega);refine(HG.o _ _ _ HR3.o).mono ?_;rintro _ w4 ⟨hg4,v4,rfl,ho4,hr4⟩;obtain⟨A4,c4,rfl,_,_⟩:=ho4.form;have hs3:w2.heap.size+1<=w3.heap.size:=by have:=HG3.o.size;simpa using this
 have hs4:w3.heap.size<=w4.heap.size:=hg4.size;have hb4:=zad hg4 HB3.o (by omega);have hz4:=zad hg4 HZ3.o (by omega);have HGA:=aA ((aG HG2.o (.cells #[.slice A2 ds.length c2,.slice none 0 0] 96)).trans (HG3.o.trans hg4));have b0:=cell_of_row w4 _ 0 _ _ _ hb4;have b1:=cell_of_row w4 _ 1 _ _ _ hb4;have fb1:=frozen_of_row w4 _ 1 _ _ hb4;have z0:=cell_of_row w4 _ 0 _ _ _ hz4;have z1:=cell_of_row w4 _ 1 _ _ _ hz4;have fz0:=frozen_of_row w4 _ 0 _ _ hz4;have fz1:=frozen_of_row w4 _ 1 _ _ hz4;have hRl:=hr4.lt;have HO4:=aA ho4;have HOD4:=aA (HO2.o.grown ((aG (World.grownBy.refl w2 (some (w.heap.size+1))) (.cells #[.slice A2 ds.length c2,.slice none 0 0] 96)).trans (HG3.o.trans hg4)) ⟨HRO.o,by obtain⟨z,hz⟩:=HO2.o.own;simp at hz;exact zan hz (by omega)⟩);have HW5:∃w5:World,w5=w4.setCell ⟨w2.heap.size,1,none⟩ (.slice A4 p1.length c4):=⟨_,rfl⟩
 obtain⟨w5,hw5⟩:=HW5;have hb5:w5.heap[w2.heap.size]?=some (.cells #[.slice A2 ds.length c2,.slice A4 p1.length c4] 96 (0,0)):=by rw[hw5,heap_setCell_same w4 _ 1 _ _ _ hb4];rfl
 have hz5:w5.heap[w.heap.size]?=some (.cells #[.slice none 0 0,.slice none 0 0] 96 (0,0)):=by rw[hw5,Below.heap_setCell _ _ _ _ (by simp only;omega)];exact hz4
 have HR5:Hid (Rd8 L w.heap.size (w.heap.size+1) px py w5 r1):=aA (by rw[hw5];exact hr4.far _ _ _ (by omega));have HOD5:Hid (bG L w5 (w.heap.size+2) (.slice A2 ds.length c2) ds):=aA (by rw[hw5];have h:=HOD4.o.grown (aF (World.grownBy.refl w4 (some w2.heap.size)) 1 (.slice A4 p1.length c4)) ⟨zap hb4,by obtain⟨z,hz⟩:=HOD4.o.own;exact aP hz hb4 (fun cur e=>by injection e with _ e;exact absurd e (by decide))⟩;simpa using h);have HOP5:Hid (bF L w5 w3.heap.size (.slice A4 p1.length c4) p1):=aA (by rw[hw5];exact ho4.grown (aF (World.grownBy.refl w4 (some w2.heap.size)) 1 (.slice A4 p1.length c4)) ⟨zap hb4,by obtain⟨z,hz⟩:=ho4.own;exact aP hz hb4 (fun cur e=>by injection e with _ e;exact absurd e (by decide))⟩)
 have HBW:Hid (Below w.heap.size w w5):=aA (by
  rw[hw5];refine Below.setCell ?_ (p:=⟨w2.heap.size,1,none⟩) (by simp only;omega) _;exact HB0.o.grown HGA.o (by simp;omega) (fun k e=>by injection e with e;omega))
 clear hg4 ho4 hr4;go_wp2_with fail
 rw[<-hw5];have HB5:=aA hb5;have HZ5:=aA hz5;have hpb5:w3.heap.size<=w5.heap.size:=by rw[hw5];simp;omega
 clear hw5 hb5 hz5 b0 b1 fb1 z0 z1 fz0 fz1 hb4 hz4 HO4 HOD4;go_loopw [] (fun wt=>∃(f:Nat) (acc:List Y.Prd) (rest:List Tok) (A:Option Addr) (c:Nat),Hid (Y.more f acc rest=.ok ps [])/\acc.length+rest.length<=4000/\wt.heap[w2.heap.size]?=some (.cells #[.slice A2 ds.length c2,.slice A acc.length c] 96 (0,0))/\wt.heap[w.heap.size]?=some (.cells #[.slice none 0 0,.slice none 0 0] 96 (0,0))/\Rd8 L w.heap.size (w.heap.size+1) px py wt rest/\bG L wt (w.heap.size+2) (.slice A2 ds.length c2) ds/\bF L wt w3.heap.size (.slice A acc.length c) acc/\Below w.heap.size w wt/\w3.heap.size<=wt.heap.size) (fun wt=>zda (w.heap.size+1) wt)
 case atStart=>exact⟨f1,p1,r1,A4,c4,HMO,HL1.o,HB5.o,HZ5.o,HR5.o,HOD5.o,HOP5.o,HBW.o,hpb5⟩
 case round =>
  clear HMO HL1 HB5 HZ5 HR5 HOD5 HOP5 HBW hpb5;obtain⟨f,acc,rest,A,c,HM,hle,hsb,hzz,hrd,hod,hop,hbw,hpb⟩:=hrel;obtain⟨Ax,cx,r0,r3,_⟩:=hrd.cell0;have HSB:=aA hsb;have HZZ:=aA hzz;have HRD:=aA hrd;have HOD:=aA hod;have HOP:=aA hop;have HBW:=aA hbw;have HPB:=aA hpb;have HLE:=aA hle;have hsz:w.heap.size<wr.heap.size:=(Array.getElem?_eq_some_iff.1 hzz).1;have hsbl:w2.heap.size<wr.heap.size:=(Array.getElem?_eq_some_iff.1 hsb).1;rcases rest with _|⟨t,m1⟩
  ·have HFIN:Hid (acc=ps):=aA (by
    have h:=HM.o;cases f with
    | zero=>injection h
    | succ f=>injection h)
   have p0:=cell_of_row wr _ 0 _ _ _ hsb;have p1':=cell_of_row wr _ 1 _ _ _ hsb;have y0:=cell_of_row wr _ 0 _ _ _ hzz;have y1:=cell_of_row wr _ 1 _ _ _ hzz;have gz0:=frozen_of_row wr _ 0 _ _ hzz;have gz1:=frozen_of_row wr _ 1 _ _ hzz;clear hsb hzz hrd hod hop hbw hpb hle HM;go_wp2;have hgf:=aF (aF (World.grownBy.refl wr (some w.heap.size)) 0 (.slice A2 ds.length c2)) 1 (.slice A acc.length c);refine bodyPost_ret (v:=.tuple #[.agg #[.slice A2 ds.length c2,.slice A acc.length c],.complex .f64 0 0,.int .i64 0]) (by simp[results,Tryz.results63,go_sem,y0,y1]) rfl ⟨_,_,rfl,?_,?_,?_⟩
   ·exact(HOD.o.grown hgf ⟨zap HZZ.o,by obtain⟨z,hz⟩:=HOD.o.own;exact zan hz (by omega)⟩).less5 (by omega)
   ·rw[<-HFIN.o];exact(HOP.o.grown hgf ⟨zap HZZ.o,by obtain⟨z,hz⟩:=HOP.o.own;exact zan hz (by omega)⟩).less5 (by omega)
   ·exact HBW.o.grown hgf HBW.o.size (fun k e=>by injection e with e;omega)
  ·obtain⟨f,rfl⟩:∃f',f=f'+1:=by
    cases f with
    | zero=>have h:=HM.o;injection h with _ h;cases h
    | succ f=>exact⟨f,rfl⟩
   have hY:=HM.o;rw[Y.more]at hY;obtain⟨p2,r2,hgp,hmo2⟩:=Y.bind_eq_ok hY;have HMO2:=aA hmo2;have HGL2:=aA (Y.group_len hgp);have HKD:=aA (fun(x:World) (h:Rd8 L w.heap.size (w.heap.size+1) px py x (t::m1))=>zkm L w.heap.size (w.heap.size+1) px py (t::m1) x h);have HGR:=aA (fun(x:World) (h:Rd8 L w.heap.size (w.heap.size+1) px py x (t::m1))=>zjo L w.heap.size (w.heap.size+1) px py (t::m1) p2 r2 x h hgp);rw[show kd (t::m1)=1 from Y.group_kind hgp]at HKD;have hlen:0<((t::m1).length:Int):=by simp
   have HLN:Hid ((t::m1).length=m1.length+1):=aA rfl;clear hY hgp hmo2 HM hsb hzz hrd hod hop hbw hpb hle;have HRL:Hid ((t::m1).length=zda (w.heap.size+1) wr):=aA HRD.o.dlen.symm;generalize hrr:t::m1=rst at *;clear hrr;go_wp2_with fail
   refine(HKD.o _ HRD.o).mono ?_;rintro _ _ ⟨rfl,rfl⟩;go_upto_region 6 with fail
   refine Calm.region_tree (fun _=>True) (.two [0,2] 1 (.one [] 3 (.one [] 4 (.one [5] 6 (.fin [])))) 3 (.one [] 1 (.one [] 4 (.one [5] 6 (.fin []))))) (by kernel_rfl) (by kernel_rfl) (fun _ _ d _ _ h=>by cases d <;> exact h) trivial ?_;obtain⟨x2,hx2⟩:∃x,x=wr.drew:=⟨_,rfl⟩
   rw[<-hx2];have hgd:wr.grownBy x2 .none:=by rw[hx2];exact aH _ _
   have hbx:Below w.heap.size w x2:=by rw[hx2];exact aB HBW.o 1
   have HSB2:=aA ((hgd.block w2.heap.size hsbl (by simp)).trans HSB.o);have HZZ2:=aA ((hgd.block w.heap.size hsz (by simp)).trans HZZ.o);have HRD2:=aA (HRD.o.row hgd);have HOD2:=aA (HOD.o.grown hgd (zjH.none _ _));have HOP2:=aA (HOP.o.grown hgd (zjH.none _ _));have HBW2:=aA hbx;have HPB2:Hid (w3.heap.size<=x2.heap.size):=aA (Nat.le_trans HPB.o hgd.size);clear hx2 hgd hbx HSB HZZ HRD HOD HOP HBW HPB;simp only[Calm.wpT,Calm.wpSt,Calm.pickOps,List.getElem?_toArray,List.getElem?_cons_zero,List.getElem?_cons_succ];repeat (go_big_quiet_step (fail))
   refine wpQuiet_nil ?_;refine⟨?_,?_⟩
   ·intro KK hKK;try rw[if_pos (by rfl)]
    have c1:=cell_of_row x2 _ 1 _ _ _ HSB2.o;go_wp2_with fail
    clear c1;refine hKK _ _ trivial (fun _=>True) (fun _ _=>trivial) trivial ?_;repeat (go_big_quiet_step (fail))
    refine wpQuiet_nil ?_;intro KK hKK;try rw[if_pos (by rfl)]
    go_wp2_with fail
    refine(HGR.o _ HRD2.o).mono ?_;rintro _ x3 ⟨hg3,v3,rfl,ho3,hr3⟩;have HSB3:=aA (zad hg3 HSB2.o (by omega));have HZZ3:=aA (zad hg3 HZZ2.o (by omega));have HRD3:=aA hr3;have HOD3:=aA (HOD2.o.grown hg3 ⟨HRD2.o.other,by obtain⟨z,hz⟩:=HOD2.o.own;exact zan hz (by omega)⟩);have HOP3:=aA (HOP2.o.grown hg3 ⟨HRD2.o.other,by obtain⟨z,hz⟩:=HOP2.o.own;exact zan hz (by omega)⟩);have HBW3:=aA (HBW2.o.grown hg3 HBW2.o.size (fun k e=>by injection e with e;omega));have HPB3:=aA (Nat.le_trans HPB2.o hg3.size);have HO3:=aA (ho3.less5 HPB2.o);have hs23:x2.heap.size<=x3.heap.size:=hg3.size;clear hg3 ho3 hr3;go_wp2_with fail
    refine hKK _ _ trivial (fun _=>True) (fun _ _=>trivial) trivial ?_;repeat (go_big_quiet_step (fail))
    refine wpQuiet_nil ?_;intro KK hKK;try rw[if_pos (by rfl)]
    refine zjC (.tmp 40) (.tmp 42) _ rfl Tryz.underlying94 L w3.heap.size w3.heap.size _ v3 acc p2 rfl HOP3.o rfl HO3.o (Nat.le_refl _) (by have h1:=HLE.o;have h2:=HGL2.o;simp at h2;omega) HPB3.o ?_;intro v4 x4 ho4 hg4;obtain⟨zo,hown⟩:=HOP3.o.own;have HSB4:=aA (zbJ hown HSB3.o (by decide) hg4);have HZZ4:=aA (zbJ hown HZZ3.o (by decide) hg4);have HRD4:=aA (HRD3.o.own hown hg4 (by omega));have HOD4:=aA (HOD3.o.grown hg4 ⟨zaq hown (by decide),by obtain⟨z,hz⟩:=HOD3.o.own;exact zdG hz hown (by decide)⟩);have HBW4:=aA (HBW3.o.grown hg4 HBW3.o.size (fun k e=>by have:=(World.ownsRow.lt hown k e).1;omega));have HPB4:=aA (Nat.le_trans HPB3.o hg4.size);have hs34:x3.heap.size<=x4.heap.size:=hg4.size;have HO4:=aA ho4;clear ho4 hg4 hown;obtain⟨A4',c4',hv4,_,_⟩:=HO4.o.form;rw[List.length_append]at hv4;subst hv4;go_wp2_with fail
    refine hKK _ _ trivial (fun _=>True) (fun _ _=>trivial) trivial ?_;repeat (go_big_quiet_step (fail))
    refine wpQuiet_nil ?_;intro KK hKK;try rw[if_pos (by rfl)]
    have c1:=cell_of_row x4 _ 1 _ _ _ HSB4.o;have f1':=frozen_of_row x4 _ 1 _ _ HSB4.o;go_wp2_with fail
    refine hKK _ _ trivial (fun _=>True) (fun _ _=>trivial) trivial ?_;refine wpQuiet_nil ?_;go_wp2_with fail
    have hst:=aF (World.grownBy.refl x4 (some w2.heap.size)) 1 (.slice A4' (acc.length+p2.length) c4');have HRD5:=aA (HRD4.o.far w2.heap.size 1 (.slice A4' (acc.length+p2.length) c4') (by omega));go_roundw
    case rel =>
     refine⟨f,acc++p2,r2,A4',c4',HMO2,by have h1:=HLE.o;have h2:=HGL2.o;simp at h2 ⊢;omega,?_,?_,HRD5.o,?_,?_,?_,?_⟩
     ·rw[List.length_append,heap_setCell_same x4 _ 1 _ _ _ HSB4.o];rfl
     ·rw[Below.heap_setCell _ _ _ _ (by simp only;omega)];exact HZZ4.o
     ·exact HOD4.o.grown hst ⟨zap HSB4.o,by obtain⟨z,hz⟩:=HOD4.o.own;exact aP hz HSB4.o (fun cur e=>by injection e with _ e;exact absurd e (by decide))⟩
     ·rw[List.length_append];exact HO4.o.grown hst ⟨zap HSB4.o,by obtain⟨z,hz⟩:=HO4.o.own;exact aP hz HSB4.o (fun cur e=>by injection e with _ e;exact absurd e (by decide))⟩
     ·exact Below.setCell HBW4.o (p:=⟨w2.heap.size,1,none⟩) (by simp only;omega) _
     ·simpa using HPB4.o
    case measure =>
     rw[HRD5.o.dlen,<-HRL.o];have h2:=HGL2.o;have h3:=HLN.o;simp at h2;omega
   ·intro KK hKK;try rw[if_pos (by rfl)]
    go_wp2_with fail
    refine(HGR.o _ HRD2.o).mono ?_;rintro _ x3 ⟨hg3,v3,rfl,ho3,hr3⟩;have HSB3:=aA (zad hg3 HSB2.o (by omega));have HZZ3:=aA (zad hg3 HZZ2.o (by omega));have HRD3:=aA hr3;have HOD3:=aA (HOD2.o.grown hg3 ⟨HRD2.o.other,by obtain⟨z,hz⟩:=HOD2.o.own;exact zan hz (by omega)⟩);have HOP3:=aA (HOP2.o.grown hg3 ⟨HRD2.o.other,by obtain⟨z,hz⟩:=HOP2.o.own;exact zan hz (by omega)⟩);have HBW3:=aA (HBW2.o.grown hg3 HBW2.o.size (fun k e=>by injection e with e;omega));have HPB3:=aA (Nat.le_trans HPB2.o hg3.size);have HO3:=aA (ho3.less5 HPB2.o);have hs23:x2.heap.size<=x3.heap.size:=hg3.size;clear hg3 ho3 hr3;go_wp2_with fail
    refine hKK _ _ trivial (fun _=>True) (fun _ _=>trivial) trivial ?_;repeat (go_big_quiet_step (fail))
    refine wpQuiet_nil ?_;intro KK hKK;try rw[if_pos (by rfl)]
    have c1:=cell_of_row x3 _ 1 _ _ _ HSB3.o;go_wp2_with fail
    clear c1;refine hKK _ _ trivial (fun _=>True) (fun _ _=>trivial) trivial ?_;repeat (go_big_quiet_step (fail))
    refine wpQuiet_nil ?_;intro KK hKK;try rw[if_pos (by rfl)]
    refine zjC (.tmp 40) (.tmp 42) _ rfl Tryz.underlying94 L w3.heap.size w3.heap.size _ v3 acc p2 rfl HOP3.o rfl HO3.o (Nat.le_refl _) (by have h1:=HLE.o;have h2:=HGL2.o;simp at h2;omega) HPB3.o ?_;intro v4 x4 ho4 hg4;obtain⟨zo,hown⟩:=HOP3.o.own;have HSB4:=aA (zbJ hown HSB3.o (by decide) hg4);have HZZ4:=aA (zbJ hown HZZ3.o (by decide) hg4);have HRD4:=aA (HRD3.o.own hown hg4 (by omega));have HOD4:=aA (HOD3.o.grown hg4 ⟨zaq hown (by decide),by obtain⟨z,hz⟩:=HOD3.o.own;exact zdG hz hown (by decide)⟩);have HBW4:=aA (HBW3.o.grown hg4 HBW3.o.size (fun k e=>by have:=(World.ownsRow.lt hown k e).1;omega));have HPB4:=aA (Nat.le_trans HPB3.o hg4.size);have hs34:x3.heap.size<=x4.heap.size:=hg4.size;have HO4:=aA ho4;clear ho4 hg4 hown;obtain⟨A4',c4',hv4,_,_⟩:=HO4.o.form;rw[List.length_append]at hv4;subst hv4;go_wp2_with fail
    refine hKK _ _ trivial (fun _=>True) (fun _ _=>trivial) trivial ?_;repeat (go_big_quiet_step (fail))
    refine wpQuiet_nil ?_;intro KK hKK;try rw[if_pos (by rfl)]
    have c1:=cell_of_row x4 _ 1 _ _ _ HSB4.o;have f1':=frozen_of_row x4 _ 1 _ _ HSB4.o;go_wp2_with fail
    refine hKK _ _ trivial (fun _=>True) (fun _ _=>trivial) trivial ?_;refine wpQuiet_nil ?_;go_wp2_with fail
    have hst:=aF (World.grownBy.refl x4 (some w2.heap.size)) 1 (.slice A4' (acc.length+p2.length) c4');have HRD5:=aA (HRD4.o.far w2.heap.size 1 (.slice A4' (acc.length+p2.length) c4') (by omega));go_roundw
    case rel =>
     refine⟨f,acc++p2,r2,A4',c4',HMO2,by have h1:=HLE.o;have h2:=HGL2.o;simp at h2 ⊢;omega,?_,?_,HRD5.o,?_,?_,?_,?_⟩
     ·rw[List.length_append,heap_setCell_same x4 _ 1 _ _ _ HSB4.o];rfl
     ·rw[Below.heap_setCell _ _ _ _ (by simp only;omega)];exact HZZ4.o
     ·exact HOD4.o.grown hst ⟨zap HSB4.o,by obtain⟨z,hz⟩:=HOD4.o.own;exact aP hz HSB4.o (fun cur e=>by injection e with _ e;exact absurd e (by decide))⟩
     ·rw[List.length_append];exact HO4.o.grown hst ⟨zap HSB4.o,by obtain⟨z,hz⟩:=HO4.o.own;exact aP hz HSB4.o (fun cur e=>by injection e with _ e;exact absurd e (by decide))⟩
     ·exact Below.setCell HBW4.o (p:=⟨w2.heap.size,1,none⟩) (by simp only;omega) _
     ·simpa using HPB4.o
    case measure =>
     rw[HRD5.o.dlen,<-HRL.o];have h2:=HGL2.o;have h3:=HLN.o;simp at h2;omega
structure Sr9 (L:List Int) (xs:List Tok) (ds:List Y.Dcl) (ps:List Y.Prd) (G:Gm.Gr):Prop where
 b:K.Bytes L
 n:L.length<=2000
 t:zjN L=.ok xs
 s:∃m t9 m2 p1 r1 f1,Y.decls (xs.length+1) [] xs=.ok ds m/\Y.take [9] m=.ok t9 m2/\Y.group [] m2=.ok p1 r1/\Y.more f1 p1 r1=.ok ps []
 z:Ez ds ps
 g:Gm.build ds ps=.ok G
theorem zlc (A:Option Addr) (c:Nat) (L:List Int) (xs:List Tok) (ds:List Y.Dcl) (ps:List Y.Prd) (G:Gm.Gr) (w:World) (hr:RdB w w.heap.size A L) (hc:L.length<=c) (hs:Sr9 L xs ds ps G) :
  Calls Tryz.prog 43 #[.slice A L.length c] w fun e w'=>∃dv pv,e=.returned (.tuple #[.agg #[dv,pv],.complex .f64 0 0,.int .i64 0])/\bG L w' w.heap.size dv ds/\bF L w' w.heap.size pv ps/\Below w.heap.size w w':=by
 have SC:=fun a w m X Y=>show(store a (.complex .f64 X Y) m).run Tryz.prog w=stored Tryz.prog w a (.complex .f64 X Y) m from run_store _ w a _ m rfl;have HT:=aA (fun(w1:World) (h1:Below w.heap.size w w1)=>zgE A c L xs w1 (hr.up h1) hs.b hc hs.n hs.t);have HB0:=aA (fun o=>((Below.refl w.heap.size w).alloc (Nat.le_refl _) o));obtain⟨m,t9,m2,p1,r1,f1,s1,s2,s3,s4⟩:=hs.s;have hxs:xs.length<=4000:=by have:=(zgo L hs.b xs hs.t).count;have:=hs.n;omega
 have HOF:=aA (fun(w1:World) (A':Option Addr) (c':Nat) (h1:RdT L w1 w1.heap.size A' xs) (h2:xs.length<=c')=>of8m L A' c' (Fl.fl (Pl.pos L).1) (Fl.fl (Pl.pos L).2) xs ds p1 ps f1 m m2 r1 t9 w1 h1 h2 hxs s1 hs.z.k s2 s3 s4);clear hr hc hs s1 s2 s3 s4
 go_enter Tryz.func43,Tryz.ntmps43
 go_wp2_with fail
 refine(HT.o _ (HB0.o _)).mono ?_;rintro _ w2 ⟨v,rfl,ho,hb⟩;obtain⟨A',c',rfl,hxc,_,hrd⟩:=ho.rd;have h2:w2.heap[w.heap.size]?=some (.cells #[.slice none 0 0,.slice none 0 0] 96 (0,0)):=(hb.block w.heap.size (by simp)).trans (heap_alloc_new w _);have HB2:=aA ((HB0.o (.cells #[.slice none 0 0,.slice none 0 0] 96)).trans (hb.mono (HB0.o _).size));have HO2:=aA (HOF.o w2 A' c' hrd hxc);clear ho hb HT HB0 HOF hrd hxc;go_wp2_with fail
 refine HO2.o.mono ?_;rintro _ w3 ⟨dv,pv,rfl,hod,hop,hb3⟩;have h3:=(hb3.block w.heap.size (Array.getElem?_eq_some_iff.1 h2).1).trans h2;have c0:=cell_of_row w3 _ 0 _ _ _ h3;have c1:=cell_of_row w3 _ 1 _ _ _ h3;have f0:=frozen_of_row w3 _ 0 _ _ h3;have f1:=frozen_of_row w3 _ 1 _ _ h3;have HB3:=aA (HB2.o.trans (hb3.mono HB2.o.size));have HX:=aA (zbK h3 (by decide));obtain⟨DA,DC,rfl,_,_⟩:=hod.form;obtain⟨PA',PC,rfl,_,_⟩:=hop.form
 have HWD:Hid (bG L ((w3.setCell ⟨w.heap.size,0,none⟩ (.slice DA ds.length DC)).setCell ⟨w.heap.size,1,none⟩ (.slice PA' ps.length PC)) w.heap.size (.slice DA ds.length DC) ds):=aA (by
  obtain⟨zs,hz⟩:=hod.own;exact(hod.less HB2.o.size).grown (aF (aF (World.grownBy.refl _ _) _ _) _ _) ⟨HX.o,.inr (zeV hz h3 (by decide))⟩)
 have HWP:Hid (bF L ((w3.setCell ⟨w.heap.size,0,none⟩ (.slice DA ds.length DC)).setCell ⟨w.heap.size,1,none⟩ (.slice PA' ps.length PC)) w.heap.size (.slice PA' ps.length PC) ps):=aA (by
  obtain⟨zs,hz⟩:=hop.own;exact(hop.less HB2.o.size).grown (aF (aF (World.grownBy.refl _ _) _ _) _ _) ⟨HX.o,.inr (zeV hz h3 (by decide))⟩)
 clear hod hop hb3 HO2 h2 h3;go_wp2;refine bodyPost_ret (v:=.tuple #[.agg #[.slice DA ds.length DC,.slice PA' ps.length PC],.complex .f64 0 0,.int .i64 0]) (by simp[results,Tryz.results43,go_sem,c0,c1]) rfl ?_;exact⟨_,_,rfl,HWD.o,HWP.o,zaN (zaN HB3.o _ (Nat.le_refl _)) _ (Nat.le_refl _)⟩
theorem zlV (A:Option Addr) (c:Nat) (L:List Int) (xs:List Tok) (ds:List Y.Dcl) (ps:List Y.Prd) (G:Gm.Gr) (w:World) (hr:RdB w w.heap.size A L) (hc:L.length<=c) (hs:Sr9 L xs ds ps G) :
  Calls Tryz.prog 23 #[.slice A L.length c] w fun e w'=>(∃g,e=.returned (.tuple #[g,.complex .f64 0 0,.int .i64 0])/\aT w' w'.heap.size g G/\Gm.Fit G)/\Below w.heap.size w w':=by
 have SC:=fun a w m X Y=>show(store a (.complex .f64 X Y) m).run Tryz.prog w=stored Tryz.prog w a (.complex .f64 X Y) m from run_store _ w a _ m rfl;have hb1:Below w.heap.size w (w.alloc (.cells grC 26)):=(Below.refl w.heap.size w).alloc (Nat.le_refl _) _;have HP:=aA (zlc A c L xs ds ps G _ (hr.up hb1) hc hs);have HB1:=aA hb1;have HG1:=aA (heap_alloc_new w (.cells grC 26));have HBA:=aA (fun(x:World) (A1 A2:Option Addr) (c1 c2:Nat) (h1:zkH L x x.heap.size A1 ds) (h2:zkG L x x.heap.size A2 ps)=>zmd L ds ps A1 A2 c1 c2 G x h1 h2 hs.z hs.g);unfold grC at HP HB1;clear hr hc hs hb1
 go_enter Tryz.func23,Tryz.ntmps23
 go_wp2_with fail
 refine HP.o.mono ?_;rintro _ w2 ⟨dv,pv,rfl,hod,hop,hb2⟩;obtain⟨A1,c1,rfl,hrd⟩:=zhE hod;obtain⟨A2,c2,rfl,hrp⟩:=zgU hop;have hgb:=(hb2.block w.heap.size (by simp)).trans HG1.o;have HGB:=aA hgb;have HB2:=aA (HB1.o.trans (hb2.mono HB1.o.size));have hgz:=(Array.getElem?_eq_some_iff.1 hgb).1;obtain⟨w3,hw3⟩:∃x,x=w2.alloc (.cells #[.slice A1 ds.length c1,.slice A2 ps.length c2] 96):=⟨_,rfl⟩
 have HB3:Hid (Below w.heap.size w w3):=aA (by rw[hw3];exact HB2.o.alloc HB2.o.size _);have hb23:Below w2.heap.size w2 w3:=by rw[hw3];exact(Below.refl _ _).alloc (Nat.le_refl _) _
 have HG3:Hid (w3.heap[w.heap.size]?=some (.cells grC 26 (0,0))):=aA ((hb23.block _ hgz).trans hgb);have hs3:w2.heap.size<=w3.heap.size:=hb23.size
 have HC:=aA (HBA.o w3 A1 A2 c1 c2 (fun hn=>by
   obtain⟨g,o,e,h1,h2⟩:=(hrd.keep hb23) hn;refine⟨g,o,e,by omega,fun i hi=>?_⟩;obtain⟨k1,A',c',k2,k3⟩:=h2 i hi;exact⟨k1,A',c',k2,fun hn=>by obtain⟨g,o,e,q1,q2⟩:=k3 hn;exact⟨g,o,e,by omega,q2⟩⟩) (fun hn=>by
   obtain⟨g,o,e,h1,h2⟩:=(hrp.keep hb23) hn;refine⟨g,o,e,by omega,fun i hi=>?_⟩;obtain⟨k1,k2,⟨A',c',k3,k4⟩,k5⟩:=h2 i hi;exact⟨k1,k2,⟨A',c',k3,fun hn=>by obtain⟨g,o,e,q1,q2⟩:=k4 hn;exact⟨g,o,e,by omega,q2⟩⟩,k5⟩))
 rw[hw3]at HC HB3 HG3;clear hb2 hgb hod hop hrd hrp hw3 hb23 hs3 HBA;go_wp2_with fail
 refine HC.o.mono ?_;rintro _ w4 ⟨⟨g,rfl,hgw,hfit⟩,hb4⟩;have hgb:=(hb4.block w.heap.size (by simp;omega)).trans HG3.o;have g0:w4.cell? ⟨w.heap.size,0,none⟩=some (.slice none 0 0):=cell_of_row w4 _ 0 _ _ _ hgb;have g1:w4.cell? ⟨w.heap.size,1,none⟩=some (.slice none 0 0):=cell_of_row w4 _ 1 _ _ _ hgb;have g2:w4.cell? ⟨w.heap.size,2,none⟩=some (.slice none 0 0):=cell_of_row w4 _ 2 _ _ _ hgb;have g3:w4.cell? ⟨w.heap.size,3,none⟩=some (.int .i64 0):=cell_of_row w4 _ 3 _ _ _ hgb;have f0:=frozen_of_row w4 _ 0 _ _ hgb;have f1:=frozen_of_row w4 _ 1 _ _ hgb;have f2:=frozen_of_row w4 _ 2 _ _ hgb;have f3:=frozen_of_row w4 _ 3 _ _ hgb;have hgz4:=(Array.getElem?_eq_some_iff.1 hgb).1;have HB4:=aA (HB3.o.trans (hb4.mono HB3.o.size));obtain⟨B,N,R,cs,vT,vN,vR,rfl,h,hN⟩:=hgw;obtain⟨⟨AT,cT,rfl⟩,⟨AN,cN,rfl⟩,⟨AR,cR,rfl⟩⟩:=zag h;have HGR:=aA (fun u0 u1 u2 u3=>(h.more hN).grown (aF (aF (aF (aF (World.grownBy.refl w4 (some w.heap.size)) 0 u0) 1 u1) 2 u2) 3 u3) (⟨fun g e=>by injection e with e;subst e;exact⟨_,_,hgb,by decide,by decide,by decide,.inl ⟨by decide,by decide⟩⟩⟩));have HFI:=aA hfit;clear hb4 hgb h hN hfit;go_wp2;refine bodyPost_ret (v:=.tuple #[.agg #[.slice AT G.ts.length cT,.slice AN G.ns.length cN,.slice AR G.rs.length cR,.int .i64 G.st],.complex .f64 0 0,.int .i64 0]) (by simp[results,Tryz.results23,go_sem,g0,g1,g2,g3]) rfl ?_;exact⟨⟨_,rfl,(HGR.o _ _ _ _).rd (by simp) G.st,HFI.o⟩,zaN (zaN (zaN (zaN HB4.o _ (Nat.le_refl _)) _ (Nat.le_refl _)) _ (Nat.le_refl _)) _ (Nat.le_refl _)⟩
def txB (s:List Int):Bool:=(s.all fun z=>decide (0<=z)&&decide (z<256))&&decide (s.length<=100)
def zms (x:Tok):Bool:=txB x.t&&Gm.named x.t && !(x.t==[101,114,114,111,114])
def dcB (d:Y.Dcl):Bool:=(d.k==4||d.k==5)&&(d.ns.all fun x=>txB x.t&&Gm.named x.t)&&decide (d.ns.length<=1000)
def pdB (p:Y.Prd):Bool:=txB p.l.t&&T.isName p.l.t&&(p.r.all zms)&&(match p.p with|none=>true|some x=>zms x)&&decide (p.r.length<=1000)
def ezB (ds:List Y.Dcl) (ps:List Y.Prd):Bool:=ds.all dcB&&ps.all pdB&&decide (ds.length<=1000)&&decide (ps.length<=1000)&&decide (0<ps.length)
theorem zgm {s:List Int} (h:txB s=true):K.Tx s:=by
 unfold txB at h;rw[Bool.and_eq_true,decide_eq_true_eq]at h;exact⟨zam _ h.1,by omega⟩
theorem zgP {x:Tok} (h:zms x=true):zm7 x:=by
 unfold zms at h;simp only[Bool.and_eq_true]at h;exact⟨zgm h.1.1,h.1.2,by simpa using h.2⟩
theorem zl2 {ds:List Y.Dcl} {ps:List Y.Prd} (h:ezB ds ps=true):Ez ds ps:=by
 unfold ezB at h;simp only[Bool.and_eq_true,decide_eq_true_eq,List.all_eq_true]at h;obtain⟨⟨⟨⟨h1,h2⟩,h3⟩,h4⟩,h5⟩:=h;refine⟨fun d hd=>?_,fun d hd=>?_,fun p hp=>?_,fun p hp=>?_,h3,h4,h5⟩
 ·have:=h1 d hd
  unfold dcB at this;simp only[Bool.and_eq_true,Bool.or_eq_true,beq_iff_eq]at this;exact this.1.1
 ·have:=h1 d hd
  unfold dcB at this;simp only[Bool.and_eq_true,List.all_eq_true,decide_eq_true_eq]at this;exact⟨fun x hx=>⟨zgm (this.1.2 x hx).1,(this.1.2 x hx).2⟩,by omega⟩
 ·have:=h2 p hp
  unfold pdB at this;simp only[Bool.and_eq_true]at this;exact⟨zgm this.1.1.1.1,this.1.1.1.2⟩
 ·have:=h2 p hp
  unfold pdB at this;simp only[Bool.and_eq_true,List.all_eq_true,decide_eq_true_eq]at this;refine⟨fun x hx=>zgP (this.1.1.2 x hx),fun x hx=>?_,this.2⟩;have h6:=this.1.2;rw[hx]at h6;exact zgP h6
def gr9 (L:List Int):Option Gm.Gr :=
 match zjN L with
 | .ok xs=>match Y.decls (xs.length+1) [] xs with
  | .ok ds m=>match Y.take [9] m with
   | .ok _ m2=>match Y.group [] m2 with
    | .ok p1 r1=>match Y.more (r1.length+1) p1 r1 with
     | .ok ps []=>match ezB ds ps,Gm.build ds ps with
      | true,.ok G=>some G
      | _,_=>none
     | _=>none
    | _=>none
   | _=>none
  | _=>none
 | _=>none
theorem zlW {L:List Int} {G:Gm.Gr} (hb:(L.all fun z=>decide (0<=z)&&decide (z<256))=true) (hn:L.length<=2000) (h:gr9 L=some G):∃xs ds ps,Sr9 L xs ds ps G:=by
 unfold gr9 at h;split at h
 ·rename_i xs h1
  split at h
  ·rename_i ds m h2
   split at h
   ·rename_i t9 m2 h3
    split at h
    ·rename_i p1 r1 h4
     split at h
     ·rename_i ps h7
      split at h
      ·rename_i h5 h6
       injection h with h;subst h;exact⟨xs,ds,ps,zam _ hb,hn,h1,⟨m,t9,m2,p1,r1,_,h2,h3,h4,h7⟩,zl2 h5,h6⟩
      ·cases h
     ·cases h
    ·cases h
   ·cases h
  ·cases h
 ·cases h
theorem zce (L:List Int) (G:Gm.Gr) (hb:(L.all fun z=>decide (0<=z)&&decide (z<256))=true) (hl:L.length<=2000) (hg:gr9 L=some G) (w:World) (n:Nat) (hw:n=w.heap.size) :
  Calls Tryz.prog 23 #[.slice (some ⟨n,0,none⟩) L.length L.length] (w.alloc (zbn L)) fun e w'=>(∃g,e=.returned (.tuple #[g,.complex .f64 0 0,.int .i64 0])/\aT w' w'.heap.size g G/\Gm.Fit G)/\Below w.heap.size w w':=by
 subst hw;obtain⟨xs,ds,ps,hs⟩:=zlW hb hl hg;obtain⟨r1,r2⟩:=litM w L;exact(zlV _ L.length L xs ds ps G _ r1 (Nat.le_refl _) hs).mono fun e w' h=>⟨h.1,r2.trans (h.2.mono r2.size)⟩
def zl4:List Int:=[37,37,32,115,32,58,32,39,97,39,32,115,32,124,32,59]
def a8:Gm.Gr:=⟨[⟨[39,97,39],0,0⟩],[[115]],[⟨0,[0,-1],0⟩,⟨0,[],-1⟩],0⟩
theorem zmX:gr9 zl4=some a8:=by kernel_rfl
theorem zbc:Gm.right a8=true:=by decide +kernel
theorem zj4:Gm.gn true a8.rs a8.ns.length=[true]:=by
 rw[<-Gm.grow_gn (Gm.right_ok.1 zbc).lin];decide +kernel
theorem zmD:Gm.rc a8=[true]:=by
 have h:=Gm.right_ok.1 zbc;rw[<-Gm.reach_rc h.lin h.sin h.s0 h.s1,zj4];decide +kernel
theorem zk7:Gm.rdE a8=0:=Gm.rdE_ok zbc (by
 have hok:=Gm.right_ok.1 zbc;have h0:=hok.s0;have h1:=hok.s1
 have e:Gm.tr (Gm.Gn true a8.rs a8.st)=(Gm.gn true a8.rs a8.ns.length).getD a8.st.toNat false:=by
  rw[Gm.gn_at _ _ _ _ (by omega),Int.toNat_of_nonneg h0]
 rw[e,zj4];decide)
theorem zmw {x:Gm.Rl} (hx:x∈a8.rs):Gm.use a8 x=Gm.rcB [true] [true] x:=by
 rw[<-Gm.use_rcB (Gm.right_ok.1 zbc) hx,zj4,zmD]
theorem zlF:Gm.krs a8=[⟨0,[0,-1],0⟩,⟨0,[],-1⟩]:=by
 have e:Gm.krs a8=a8.rs.filter (Gm.rcB [true] [true]):=List.filter_congr fun x hx=>zmw hx;exact e.trans (by kernel_rfl)
theorem zlf:Gm.olds a8=[0]:=by unfold Gm.olds;rw[zlF];decide +kernel
theorem zmB:Gm.reduce a8=a8:=by unfold Gm.reduce;rw[zlF,zlf];rfl
theorem zlI:Gm.isB a8=true:=by
 unfold Gm.isB Gm.rdG;rw[if_pos zk7,zmB,zk7,Gm.same_self];rfl
def zmS:List (List Au.It):=[[(-1,0)],[(0,1)],[(-1,1)],[(0,2)]]
def es15:List (List (Int×Int)):=[[(0,1),(-1,2)],[(0,1),(-1,3)],[],[]]
theorem zmi:Au.bld a8=some (zmS,es15):=Au.bld_c (by decide +kernel)
theorem zmg:Au.bldE a8=0:=(Au.bld_ok zlI zmi).1
theorem zk5:Gm.right Gm.gr0=false:=by decide +kernel
theorem isB0:Gm.isB Gm.gr0=false:=by
 cases h:Gm.isB Gm.gr0
 ·rfl
 ·have:=Gm.isB_right h
  rw[zk5]at this;cases this
theorem zm4:Au.bldE Gm.gr0=1:=(Au.bld_no isB0).1
theorem nu15:Gm.gn false a8.rs a8.ns.length=[true]:=by
 rw[<-Gm.grow_gn (Gm.right_ok.1 zbc).lin];decide +kernel
theorem zm0:Gm.fst a8=[1]:=by
 unfold Gm.fst;rw[nu15];decide +kernel
def ls15:List (List Au.It):=[[(-1,0),(0,0),(1,0)],[(0,0),(0,1),(1,0)],[(-1,1)],[(0,2)]]
theorem zk1:Lk.rowsL a8 zmS=ls15:=by
 unfold Lk.rowsL zmS ls15;rw[List.map_cons,List.map_cons,List.map_cons,List.map_cons,List.map_nil];rw[(Au.clo_c (G:=a8) (l:=[(-1,0)]) (by decide +kernel) (by decide +kernel)),(Au.clo_c (G:=a8) (l:=[(0,1)]) (by decide +kernel) (by decide +kernel)),(Au.clo_c (G:=a8) (l:=[(-1,1)]) (by decide +kernel) (by decide +kernel)),(Au.clo_c (G:=a8) (l:=[(0,2)]) (by decide +kernel) (by decide +kernel))];decide +kernel
def lk15:List (List (Int×Int)):=[[(1,2)],[(1,2)],[],[(0,2)]]
theorem zlv:Lk.lkS a8=lk15 :=
 (Lk.lkS_c2 zlI zmi (Gm.right_ok.1 zbc) zk1 nu15 zm0 1 (S:=[[2,2,2],[2,2,2],[2],[2]]) (by decide +kernel) (by decide +kernel)).trans (by decide +kernel)
def zl3:List Int:=[37,37,32,115,32,58,32,108,32,39,61,39,32,114,32,124,32,114,32,59,32,108,32,58,32,39,42,39,32,114,32,124,32,39,105,39,32,59,32,114,32,58,32,108,32,59]
def aZ:Gm.Gr:=⟨[⟨[39,61,39],0,0⟩,⟨[39,42,39],0,0⟩,⟨[39,105,39],0,0⟩],[[115],[108],[114]],[⟨0,[-2,0,-3],0⟩,⟨0,[-3],-1⟩,⟨1,[1,-3],1⟩,⟨1,[2],2⟩,⟨2,[-2],-1⟩],0⟩
theorem zmW:gr9 zl3=some aZ:=by kernel_rfl
theorem zbb:Gm.right aZ=true:=by decide +kernel
theorem zj3:Gm.gn true aZ.rs aZ.ns.length=[true,true,true]:=by
 rw[<-Gm.grow_gn (Gm.right_ok.1 zbb).lin];decide +kernel
theorem zmC:Gm.rc aZ=[true,true,true]:=by
 have h:=Gm.right_ok.1 zbb;rw[<-Gm.reach_rc h.lin h.sin h.s0 h.s1,zj3];decide +kernel
theorem zk6:Gm.rdE aZ=0:=Gm.rdE_ok zbb (by
 have hok:=Gm.right_ok.1 zbb;have h0:=hok.s0;have h1:=hok.s1
 have e:Gm.tr (Gm.Gn true aZ.rs aZ.st)=(Gm.gn true aZ.rs aZ.ns.length).getD aZ.st.toNat false:=by
  rw[Gm.gn_at _ _ _ _ (by omega),Int.toNat_of_nonneg h0]
 rw[e,zj3];decide)
theorem zmv {x:Gm.Rl} (hx:x∈aZ.rs):Gm.use aZ x=Gm.rcB [true,true,true] [true,true,true] x:=by
 rw[<-Gm.use_rcB (Gm.right_ok.1 zbb) hx,zj3,zmC]
theorem zlE:Gm.krs aZ=aZ.rs:=by
 have e:Gm.krs aZ=aZ.rs.filter (Gm.rcB [true,true,true] [true,true,true]):=List.filter_congr fun x hx=>zmv hx;exact e.trans (by kernel_rfl)
theorem zle:Gm.olds aZ=[0,1,2]:=by unfold Gm.olds;rw[zlE];decide +kernel
theorem zmA:Gm.reduce aZ=aZ:=by unfold Gm.reduce;rw[zlE,zle];rfl
theorem zlH:Gm.isB aZ=true:=by
 unfold Gm.isB Gm.rdG;rw[if_pos zk6,zmA,zk6,Gm.same_self];rfl
def zlD:List (List Au.It):=[[(-1,0)],[(2,1)],[(3,1)],[(-1,1)],[(0,1),(4,1)],[(1,1)],[(4,1)],[(2,2)],[(0,2)],[(0,3)]]
def es16:List (List (Int×Int)):=[[(1,1),(2,2),(-1,3),(-2,4),(-3,5)],[(1,1),(2,2),(-2,6),(-3,7)],[],[],[(0,8)],[],[],[],[(1,1),(2,2),(-2,6),(-3,9)],[]]
theorem zmh:Au.bld aZ=some (zlD,es16):=Au.bld_c (by decide +kernel)
theorem zmf:Au.bldE aZ=0:=(Au.bld_ok zlH zmh).1
theorem nu16:Gm.gn false aZ.rs aZ.ns.length=[false,false,false]:=by
 rw[<-Gm.grow_gn (Gm.right_ok.1 zbb).lin];decide +kernel
theorem zmZ:Gm.fst aZ=[6,6,6]:=by
 unfold Gm.fst;rw[nu16];decide +kernel
def ls16:List (List Au.It):=[[(-1,0),(0,0),(1,0),(2,0),(3,0),(4,0)],[(2,0),(2,1),(3,0),(4,0)],[(3,1)],[(-1,1)],[(0,1),(4,1)],[(1,1)],[(4,1)],[(2,2)],[(0,2),(2,0),(3,0),(4,0)],[(0,3)]]
theorem zk0:Lk.rowsL aZ zlD=ls16:=by
 have key:∀l∈zlD,Au.clo aZ l=Au.cloC aZ l:=fun l hl=>Au.clo_c (by
  have h:(zlD.all fun l=>l.all (Au.isI aZ))=true:=by decide +kernel
  exact fun x hx=>List.all_eq_true.1 (List.all_eq_true.1 h l hl) x hx) (by
  have h:(zlD.all fun l=>Au.addA aZ (Au.cloC aZ l)==Au.cloC aZ l)=true:=by decide +kernel
  exact eq_of_beq (List.all_eq_true.1 h l hl))
 unfold Lk.rowsL;rw[List.map_congr_left key];decide +kernel
def zh0:List (List (Int×Int)):=[[],[],[(3,9)],[],[(4,8)],[(1,8)],[(4,9)],[(2,9)],[],[(0,8)]]
theorem zlu:Lk.lkS aZ=zh0 :=
 (Lk.lkS_c2 zlH zmh (Gm.right_ok.1 zbb) zk0 nu16 zmZ 2 (S:=[[8,8,8,9,9,8],[9,9,9,9],[9],[8],[8,8],[8],[9],[9],[8,8,8,8],[8]]) (by decide +kernel) (by decide +kernel)).trans (by decide +kernel)
theorem lkS0:Lk.lkS Gm.gr0=[]:=Lk.lk_no isB0
namespace S
def has (s:Nat) (n:Int):Bool:=decide (0<=n/\n<=31)&&s.testBit n.toNat
theorem and_bit (s:Nat) (n:Int):(s &&& bit n != 0)=has s n:=by
 unfold has bit;split
 ·rename_i h
  cases hb:s.testBit n.toNat
  ·have e:s &&& 2 ^ n.toNat=0:=by
    apply Nat.eq_of_testBit_eq;intro i;rw[Nat.testBit_and,Nat.testBit_two_pow,Nat.zero_testBit];by_cases hi:n.toNat=i
    ·rw[<-hi,hb];rfl
    ·simp[hi]
   rw[e];simp
  ·have e:s &&& 2 ^ n.toNat≠0:=by
    intro e
    have:=congrArg (fun z=>Nat.testBit z n.toNat) e
    simp only[Nat.testBit_and,Nat.testBit_two_pow,hb,Nat.zero_testBit]at this;simp at this
   simp[h,e]
 ·rename_i h;simp[h]
end S
namespace Lk
def rl (l:List (Int×Int)) (n:Int):List Int:=(l.filter fun x=>S.has x.2.toNat n).map (·.1)
theorem rl_step {l:List (Int×Int)} {n:Int} {i:Nat} (h:i<l.length):rl (l.take (i+1)) n=rl (l.take i) n++if S.has (l[i]).2.toNat n=true then [(l[i]).1] else []:=by
 unfold rl;rw[List.take_succ_eq_append_getElem h,List.filter_append,List.map_append]
 congr 1
 rw[List.filter_cons];split <;> rfl
theorem rl_len (l:List (Int×Int)) (n:Int):(rl l n).length<=l.length:=by
 unfold rl;rw[List.length_map];exact List.length_filter_le _ _
end Lk
def zm9 (x:Int×Int):Prop:=Gm.In x.1/\0<=x.2/\x.2<4294967296
theorem zfQ (l:List (Int×Int)) (n:Int) (A:Option Addr) (c B:Nat) (w:World) (hr:RdQ 2 lkF w B A l) (hB:B<=w.heap.size) (hin:∀x∈l,zm9 x) (hlen:l.length<=100000) :
  Calls Tryz.prog 15 #[.slice A l.length c,.int .i64 n] w fun e w'=>∃u,e=.returned u/\aU w' w.heap.size u (Lk.rl l n)/\Below w.heap.size w w':=by
 have HR:=aA hr;have HB:=aA hB;have HIN:=aA hin;have HLEN:=aA hlen;have hlI:(l.length:Int)<=100000:=by omega
 have HO0:Hid (aU w w.heap.size (.slice none 0 0) (Lk.rl (l.take 0) n)):=aA (aU.nil _ _);clear hr hB hin hlen
 go_enter Tryz.func15,Tryz.ntmps15
 go_wp2;go_loopw [10,5] (fun vi vu wr=>∃i:Nat,i<=l.length/\vi=.int .i64 i/\Hid (aU wr w.heap.size vu (Lk.rl (l.take i) n))/\Hid (Below w.heap.size w wr)) (fun vi _ _=>l.length-(intOf vi).toNat)
 case atStart=>exact⟨0,Nat.zero_le _,rfl,HO0,aA (Below.refl _ _)⟩
 case round =>
  obtain⟨i,hi,rfl,HO,HW⟩:=hrel;rename World=>wr;obtain⟨Au,cu,rfl,_,_,_⟩:=aU.form HO.o;by_cases hlt:i<l.length
  ·obtain⟨g,o,rfl,hgB,hc⟩:=HR.o (by omega);have hgb:g<w.heap.size:=Nat.lt_of_lt_of_le hgB HB.o;have k0:=(HW.o.cell (p:=⟨g,o+i*2+0,none⟩) hgb).trans (hc i hlt 0 (.int .i64 (l[i]).1) rfl);have k1:=(HW.o.cell (p:=⟨g,o+i*2+1,none⟩) hgb).trans (hc i hlt 1 (.int .u32 (l[i]).2) rfl);rw[Nat.add_zero]at k0;have hx:=HIN.o _ (List.getElem_mem hlt);have HST:=aA (Lk.rl_step (n:=n) hlt);have HRLN:=aA (Nat.le_trans (Lk.rl_len (l.take i) n) (by rw[List.length_take];omega:(l.take i).length<=l.length));have HLT:=aA hlt;have hiI:((i:Nat):Int)<((l.length:Nat):Int):=by omega
   have hx1:0<=(l[i]).2/\(l[i]).2<4294967296:=hx.2;clear hx;clear hc;generalize (l[i]).2=zi at *;obtain⟨z,rfl⟩:∃z:Nat,zi=(z:Int):=⟨zi.toNat,by have:=hx1.1;omega⟩
   have hzl:z<4294967296:=by have:=hx1.2;omega
   rw[Int.toNat_natCast]at HST;clear hx1;generalize (l[i]).1=r at *;obtain⟨wi,hwi⟩:∃y,y=wr.alloc (.cells #[.int .i64 r,.int .u32 (z:Int)] 46):=⟨_,rfl⟩
   have HBI:Hid (Below wr.heap.size wr wi):=aA (by rw[hwi];exact(Below.refl _ _).alloc (Nat.le_refl _) _);have HBX:Hid (wi.heap[wr.heap.size]?=some (.cells #[.int .i64 r,.int .u32 (z:Int)] 46 (0,0))):=aA (by rw[hwi];exact heap_alloc_new wr _);have y1:wi.cell? ⟨wr.heap.size,1,none⟩=some (.int .u32 (z:Int)):=cell_of_row wi _ 1 _ _ _ HBX.o;have HWI:=aA (HW.o.trans (HBI.o.mono HW.o.size));have HOI:=aA (HO.o.below HBI.o (Nat.le_refl _));have e:=u32_and_nat z (S.bit n) hzl (S.bit_lt n)
   have hne:(((z &&& S.bit n:Nat):Int) != 0)=S.has z n:=by
    rw[<-S.and_bit,Bool.eq_iff_iff,bne_iff_ne,bne_iff_ne];omega
   go_upto_region 5 with fail
   rw[<-hwi];clear hwi k0 k1;go_quiet ((go_at_call 30;exact Calls.quiet_of_same (zcc _ _)))
   obtain⟨wq,hwq⟩:∃y,y=wi.drewN nq:=⟨_,rfl⟩
   rw[<-hwq];have HBQ:Hid (Below wi.heap.size wi wq):=aA (by rw[hwq];exact aB (Below.refl _ _) _);clear hwq y1;have HWQ:=aA (HWI.o.trans (HBQ.o.mono HWI.o.size));have HOQ:=aA (HOI.o.below HBQ.o (Nat.le_refl _));cases hh:S.has z n
   ·rw[hh]at HST;have HSN:Hid (Lk.rl (l.take (i+1)) n=Lk.rl (l.take i) n):=aA (by rw[HST.o];simp);rw[hh]at hne;clear hh HST;go_wp2;go_roundw
    case rel=>exact⟨i+1,HLT.o,by go_num,by rw[HSN.o];exact HOQ,HWQ⟩
    case measure=>simp[intOf];omega
   ·rw[hh]at HST;have HSN:Hid (Lk.rl (l.take (i+1)) n=Lk.rl (l.take i) n++[r]):=aA (by rw[HST.o];simp);rw[hh]at hne;clear hh HST;have y0:wq.cell? ⟨wr.heap.size,0,none⟩=some (.int .i64 r):=cell_of_row wq _ 0 _ _ _ (aC HBQ.o HBX.o);have HLA:Hid (Below wq.heap.size wq (wq.alloc (.cells #[.int .i64 r] 3))):=aA ((Below.refl _ _).alloc (Nat.le_refl _) _);have HOA:=aA (HOQ.o.alloc (.cells #[.int .i64 r] 3));have HNW:Hid ((wq.alloc (.cells #[.int .i64 r] 3)).cell? ⟨wq.heap.size,0,none⟩=some (.int .i64 r)):=aA (cell_of_row _ _ 0 _ _ _ (heap_alloc_new wq _));have HWA:=aA (HWQ.o.trans (HLA.o.mono HWQ.o.size));generalize Lk.rl (l.take i) n=xs at *;go_wp2_with (at_builtin;refine zaT rfl (.tmp 20) (.tmp 23) _ rfl Tryz.underlying38 w.heap.size _ xs rfl HOA.o _ _ r rfl HNW.o (by have:=HRLN.o;have:=HLEN.o;omega) HWA.o.size ?_;intro v5 w5 ho5 hg5;have HO5:=aA ho5;have HW5:=aA (HWA.o.grown hg5 HWA.o.size (fun k e=>(World.ownsRow.lt HOA.o k e).1));clear ho5 hg5)
    go_roundw
    case rel=>exact⟨i+1,HLT.o,by go_num,by rw[HSN.o];exact HO5,HW5⟩
    case measure=>simp[intOf];omega
  ·obtain rfl:i=l.length:=by omega
   rw[List.take_length]at HO ⊢;go_wp2;go_ret
   refine⟨_,?_,HO.o,HW.o⟩;rfl
theorem zj7 {y x:Int×Int} (he:y≠x):(∃b,((y.1==x.1)=false/\(y.2==x.2)=b))\/((y.1==x.1)=true/\(y.2==x.2)=false):=by
 by_cases e1:y.1=x.1
 ·refine .inr ⟨by rw[beq_iff_eq];exact e1,?_⟩;rw[beq_eq_false_iff_ne];exact fun e2=>he (Prod.ext e1 e2)
 ·exact .inl ⟨_,by rw[beq_eq_false_iff_ne];exact e1,rfl⟩
theorem zlj (g:Value) (B:Nat) (x:World) (hg:aT x B g a8) (hf:Gm.Fit a8) (hB:B<=x.heap.size) :
  Calls Tryz.prog 10 #[g] x fun e w'=>∃A c,e=.returned (.tuple #[.slice A 4 c,.int .i64 0])/\RdM 2 lkF w' w'.heap.size A lk15/\Below x.heap.size x w' :=
 (zc6 g a8 B x hg hf hB).mono fun e w' k=>by
  obtain⟨A,c,k1,_,_,k4,k5⟩:=k;rw[zmg,zlv]at k1;rw[zlv]at k4;exact⟨A,c,k1,k4,k5⟩
theorem zli (g:Value) (B:Nat) (x:World) (hg:aT x B g aZ) (hf:Gm.Fit aZ) (hB:B<=x.heap.size) :
  Calls Tryz.prog 10 #[g] x fun e w'=>∃A c,e=.returned (.tuple #[.slice A 10 c,.int .i64 0])/\RdM 2 lkF w' w'.heap.size A zh0/\Below x.heap.size x w' :=
 (zc6 g aZ B x hg hf hB).mono fun e w' k=>by
  obtain⟨A,c,k1,_,_,k4,k5⟩:=k;rw[zmf,zlu]at k1;rw[zlu]at k4;exact⟨A,c,k1,k4,k5⟩
theorem zhv:Gm.Fit Gm.gr0:=⟨by simp[Gm.gr0],by simp[Gm.gr0],by simp[Gm.gr0],by unfold Gm.In;simp[Gm.gr0]⟩
theorem zlk (x:World):Calls Tryz.prog 10 #[.agg #[.slice none 0 0,.slice none 0 0,.slice none 0 0,.int .i64 0]] x fun e w'=>∃A c,e=.returned (.tuple #[.slice A 0 c,.int .i64 1])/\Below x.heap.size x w' :=
 (zc6 _ Gm.gr0 x.heap.size x (zjp x _) zhv (Nat.le_refl _)).mono fun e w' k=>by
  obtain⟨A,c,k1,_,_,_,k5⟩:=k;rw[zm4,lkS0]at k1;exact⟨A,c,k1,k5⟩
theorem zf7 (w:World):(Instr.build 26 #[]).run Tryz.prog w=.ok (.agg #[.slice none 0 0,.slice none 0 0,.slice none 0 0,.int .i64 0]) w:=run_build w 26 _ _ (by kernel_rfl)
theorem zfT (A A':Option Addr) (ca cb:Nat) (w:World) (hra:RdI w w.heap.size A [1]) (hrb:RdI w w.heap.size A' [1]) :
  Calls Tryz.prog 14 #[.slice A 1 ca,.slice A' 1 cb] w fun e w'=>e=.returned (.bool true)/\∃n,w'=w.drewN n :=
 (ziM A A' ca cb [1] [1] w hra hrb (by decide) (by decide)).mono fun e w' h=>⟨by rw[h.1,decide_eq_true rfl],h.2⟩
def zbm (i:Nat):Nat:=((zh0.take i).filter fun r=>r==[(4,8)]).length
theorem zf6 {i:Nat} (h:i<zh0.length):zbm (i+1)=zbm i+if zh0[i]=[(4,8)] then 1 else 0:=by
 unfold zbm;rw[List.take_succ_eq_append_getElem h,List.filter_append,List.length_append,List.filter_cons];by_cases e:zh0[i]=[(4,8)]
 ·rw[if_pos e,if_pos (by rw[e];decide)];rfl
 ·rw[if_neg e,if_neg (by rw[beq_iff_eq];exact e)];rfl
theorem zhK:zbm 10=1:=by decide
theorem ziZ (i:Nat):zbm i<=10:=by
 unfold zbm;refine Nat.le_trans (List.length_filter_le _ _) ?_;rw[List.length_take];exact Nat.le_trans (Nat.min_le_right _ _) (by decide)
theorem zhb:∀r∈zh0,r.length<=1:=by decide
theorem zeE (w:World):Calls Tryz.prog 7 #[] w fun e w'=>e=.returned (.bool true)/\Below w.heap.size w w':=by
 have T1:=aA (zce zl4 a8 (by decide) (by decide) zmX w w.heap.size rfl);have T2:=aA (fun(w1:World)=>zce zl3 aZ (by decide) (by decide) zmW w1 w1.heap.size rfl);have U1:=(show(convert 65 65 (.slice (some ⟨w.heap.size,0,none⟩) 16 16)).run Tryz.prog (w.alloc (.cells #[.int .u8 37,.int .u8 37,.int .u8 32,.int .u8 115,.int .u8 32,.int .u8 58,.int .u8 32,.int .u8 39,.int .u8 97,.int .u8 39,.int .u8 32,.int .u8 115,.int .u8 32,.int .u8 124,.int .u8 32,.int .u8 59] 5))=.ok (.slice (some ⟨w.heap.size,0,none⟩) 16 16) (w.alloc (zbn zl4)) from ze5 w zl4 16 16)
 have V2:=aA (fun w:World=>show(convert 65 65 (.slice (some ⟨w.heap.size,0,none⟩) 46 46)).run Tryz.prog (w.alloc (.cells #[.int .u8 37,.int .u8 37,.int .u8 32,.int .u8 115,.int .u8 32,.int .u8 58,.int .u8 32,.int .u8 108,.int .u8 32,.int .u8 39,.int .u8 61,.int .u8 39,.int .u8 32,.int .u8 114,.int .u8 32,.int .u8 124,.int .u8 32,.int .u8 114,.int .u8 32,.int .u8 59,.int .u8 32,.int .u8 108,.int .u8 32,.int .u8 58,.int .u8 32,.int .u8 39,.int .u8 42,.int .u8 39,.int .u8 32,.int .u8 114,.int .u8 32,.int .u8 124,.int .u8 32,.int .u8 39,.int .u8 105,.int .u8 39,.int .u8 32,.int .u8 59,.int .u8 32,.int .u8 114,.int .u8 32,.int .u8 58,.int .u8 32,.int .u8 108,.int .u8 32,.int .u8 59] 5))=.ok (.slice (some ⟨w.heap.size,0,none⟩) 46 46) (w.alloc (zbn zl3)) from ze5 w zl3 46 46);have hl1:zl4.length=16:=rfl;have hl2:zl3.length=46:=rfl;rw[hl1]at T1;rw[hl2]at T2;clear hl1 hl2;have HOZ:=aA (fun(x:World)=>zlk x);have hbg:=fun w=>zf7 w
 go_enter Tryz.func7,Tryz.ntmps7
 go_wp2_with fail
 refine T1.o.mono ?_;rintro _ w1 ⟨⟨g,rfl,hg1,hft1⟩,hb1⟩;have HOA:=aA (fun(x:World) (h:Below w1.heap.size w1 x)=>zlj g w1.heap.size x (hg1.below h (Nat.le_refl _)) hft1 h.size);obtain⟨AT,cT,AN,cN,AR,cR,rfl,_,_,_,_,_,_⟩:=hg1;have HB1:=aA hb1;have HQ1:=aA (One.start w1 #[.slice AT a8.ts.length cT,.slice AN a8.ns.length cN,.slice AR a8.rs.length cR,.int .i64 a8.st]);have HY1:=aA (fun(x:World) (h:One w1 #[.slice AT a8.ts.length cT,.slice AN a8.ns.length cN,.slice AR a8.rs.length cR,.int .i64 a8.st] x)=>And.intro (h.c 0 _ rfl) (And.intro (h.c 1 _ rfl) (And.intro (h.c 2 _ rfl) (h.c 3 _ rfl))));clear hb1 U1 T1 hft1;obtain⟨wa,hwa⟩:∃y,y=w1.alloc (.cells #[.slice AT a8.ts.length cT,.slice AN a8.ns.length cN,.slice AR a8.rs.length cR,.int .i64 a8.st] 26):=⟨_,rfl⟩
 rw[<-hwa]at HQ1;go_upto_region 2 with fail
 rw[<-hwa];clear hwa;obtain⟨x0,x1,x2,x3⟩:=HY1.o wa HQ1.o;have l1:w1.heap.size<wa.heap.size:=HQ1.o.size;go_wp2_with fail
 refine(HOA.o wa HQ1.o.below).mono ?_;rintro _ w2 ⟨A2,c2,rfl,hr2,hb2⟩;have HB2:=aA (HB1.o.trans ((HQ1.o.on hb2).below.mono HB1.o.size));have HR2:=aA hr2;clear x0 x1 x2 x3 l1 hr2 hb2 HOA HQ1 HY1;have U2:=V2.o w2;have T3:=aA (T2.o w2);clear V2 T2;go_wp2_with fail
 refine T3.o.mono ?_;rintro _ w3 ⟨⟨g2,rfl,hg2,hft2⟩,hb3⟩;have HB3:=aA (HB2.o.trans (hb3.mono HB2.o.size));have HR3:=aA (HR2.o.below hb3 (Nat.le_refl _));have HS3:=aA hb3.size;clear hb3 U2 T3 HR2;have HOB:=aA (fun(x:World) (h:Below w3.heap.size w3 x)=>zli g2 w3.heap.size x (hg2.below h (Nat.le_refl _)) hft2 h.size);obtain⟨AT2,cT2,AN2,cN2,AR2,cR2,rfl,_,_,_,_,_,_⟩:=hg2;have HQ3:=aA (One.start w3 #[.slice AT2 aZ.ts.length cT2,.slice AN2 aZ.ns.length cN2,.slice AR2 aZ.rs.length cR2,.int .i64 aZ.st]);have HY3:=aA (fun(x:World) (h:One w3 #[.slice AT2 aZ.ts.length cT2,.slice AN2 aZ.ns.length cN2,.slice AR2 aZ.rs.length cR2,.int .i64 aZ.st] x)=>And.intro (h.c 0 _ rfl) (And.intro (h.c 1 _ rfl) (And.intro (h.c 2 _ rfl) (h.c 3 _ rfl))));clear hft2;obtain⟨wb,hwb⟩:∃y,y=w3.alloc (.cells #[.slice AT2 aZ.ts.length cT2,.slice AN2 aZ.ns.length cN2,.slice AR2 aZ.rs.length cR2,.int .i64 aZ.st] 26):=⟨_,rfl⟩
 rw[<-hwb]at HQ3;go_upto_region 4 with fail
 rw[<-hwb];clear hwb;obtain⟨x0,x1,x2,x3⟩:=HY3.o wb HQ3.o;have l1:w3.heap.size<wb.heap.size:=HQ3.o.size;go_wp2_with fail
 refine(HOB.o wb HQ3.o.below).mono ?_;rintro _ w4 ⟨A4,c4,rfl,hr4,hb4⟩;have HB34:=aA ((HQ3.o.on hb4).below);have HB4:=aA (HB3.o.trans (HB34.o.mono HB3.o.size));have HR4:=aA (HR3.o.below HB34.o HS3.o);have HS4:=aA (Nat.le_trans HS3.o HB34.o.size);have HM4:=aA hr4;clear x0 x1 x2 x3 l1 hr4 hb4 HOB HQ3 HY3 HB34 HR3 HS3;go_wp2_with fail
 refine(HOZ.o w4).mono ?_;rintro _ w5 ⟨A5,c5,rfl,hb5⟩;have HB5:=aA (HB4.o.trans (hb5.mono HB4.o.size));have HR5:=aA (HR4.o.below hb5 HS4.o);have HM5:=aA (HM4.o.below hb5 (Nat.le_refl _));have HS5:=aA (Nat.le_trans HS4.o hb5.size);have HZ5:=aA hb5.size;clear hb5 HOZ hbg HR4 HM4;obtain⟨gA,oA,rfl,hgA,hcA⟩:=HR5.o (by decide);obtain⟨Ar,cr,k0,_,_,hr0⟩:=hcA 0 (by decide);obtain⟨gr,or,rfl,hgr,hcr⟩:=hr0 (by decide);have k0:w5.cell? ⟨gA,oA,none⟩=some (.slice (some ⟨gr,or,none⟩) 1 cr):=k0;have k1:w5.cell? ⟨gr,or,none⟩=some (.int .i64 1):=hcr 0 (by decide) 0 _ rfl;have k2:w5.cell? ⟨gr,or+1,none⟩=some (.int .u32 2):=hcr 0 (by decide) 1 _ rfl;have l0:gA<w5.heap.size:=Nat.lt_of_lt_of_le hgA HS5.o;have lr0:gr<w5.heap.size:=Nat.lt_of_lt_of_le hgr HS5.o;have HRR:Hid (RdQ 2 lkF w5 w2.heap.size (some ⟨gr,or,none⟩) [(1,2)]):=aA hr0;clear hcA hcr hr0 hgA hgr HR5;go_wp2;go_loopw [13,14] (fun vc vi wr=>∃i:Nat,i<=10/\vi=.int .i64 i/\vc=.int .i64 (zbm i)/\Hid (wr=w5)) (fun _ vi _=>10-(intOf vi).toNat)
 case atStart=>exact⟨0,Nat.zero_le _,rfl,rfl,aA rfl⟩
 case round =>
  obtain⟨i,hi,rfl,rfl,HW⟩:=hrel;obtain rfl:=HW.o;rename World=>wr;have hcl:(zbm i:Int)<=10:=by have:=ziZ i;omega
  by_cases hlt:i<10
  ·have hll:zh0.length=10:=rfl;have hl16:i<zh0.length:=by omega
   obtain⟨gM,oM,rfl,hgM,hcM⟩:=HM5.o (by decide);obtain⟨Ai,ci,m0,_,_,hri⟩:=hcM i hl16;have lM:gM<wr.heap.size:=Nat.lt_of_lt_of_le hgM HZ5.o;have HST:=aA (zf6 hl16);have hle1:=zhb _ (List.getElem_mem hl16);have hiI:((i:Nat):Int)<10:=by omega
   have HRI:=aA hri;have HLT:=aA hlt;clear hcM hgM hri hll;generalize zh0[i]=row at *;clear hl16 hlt
   match row,hle1 with
   | [],_ =>
    have HC:Hid (zbm (i+1)=zbm i):=aA (by rw[HST.o,if_neg (by decide)];rfl);have m0:wr.cell? ⟨gM,oM+i,none⟩=some (.slice Ai 0 ci):=m0;clear HST;go_wp2;go_roundw
    case rel=>exact⟨i+1,HLT.o,by go_num,by rw[HC.o],aA trivial⟩
    case measure=>simp[intOf];have:=HLT.o;omega
   | [x],_ =>
    obtain⟨gx,ox,rfl,hgx,hcx⟩:=HRI.o (by simp);have m0:wr.cell? ⟨gM,oM+i,none⟩=some (.slice (some ⟨gx,ox,none⟩) 1 ci):=m0;have lx:gx<wr.heap.size:=Nat.lt_of_lt_of_le hgx HZ5.o;have m1:wr.cell? ⟨gx,ox,none⟩=some (.int .i64 x.1):=hcx 0 (by simp) 0 _ rfl;have m2:wr.cell? ⟨gx,ox+1,none⟩=some (.int .u32 x.2):=hcx 0 (by simp) 1 _ rfl;clear hcx hgx;by_cases he:x=(4,8)
    ·subst he;have HC:Hid (zbm (i+1)=zbm i+1):=aA (by rw[HST.o,if_pos rfl]);clear HST;go_wp2;go_roundw
     case rel=>exact⟨i+1,HLT.o,by go_num,by rw[HC.o];go_num,aA trivial⟩
     case measure=>simp[intOf];have:=HLT.o;omega
    ·have HC:Hid (zbm (i+1)=zbm i):=aA (by rw[HST.o,if_neg (fun e=>he (by injection e))];rfl);have hpn:=zj7 he;clear HST he;rcases hpn with⟨b0,hq1,hq2⟩|⟨hq1,hq2⟩
     all_goals
      go_wp2;go_roundw
      case rel=>exact⟨i+1,HLT.o,by go_num,by rw[HC.o],aA trivial⟩
      case measure=>simp[intOf];have:=HLT.o;omega
  ·obtain rfl:i=10:=by omega
   rw[zhK];clear hlt hi hcl;have HD16:=aA (show Lk.rl [(1,2)] 1=[1] by decide);have HE16:=aA (show Lk.rl [(1,2)] 0=[] by decide);have HIN:Hid (∀x∈[((1:Int),(2:Int))],zm9 x):=aA (by unfold zm9 Gm.In;simp);have HRU:=aA (fun(n:Int) (x:World) (h:Below wr.heap.size wr x)=>zfQ [(1,2)] n (some ⟨gr,or,none⟩) cr w2.heap.size x (HRR.o.below h HS5.o) (Nat.le_trans HS5.o h.size) HIN.o (by decide));have HRA:=aA (show Calls Tryz.prog 15 #[.slice (some ⟨gr,or,none⟩) 1 cr,.int .i64 1] wr _ from HRU.o 1 wr (Below.refl _ _));go_wp2_with fail
   refine HRA.o.mono ?_;rintro _ w6 ⟨u6,rfl,ho6,hb6⟩;rw[HD16.o]at ho6;obtain⟨A6,c6,rfl,_,_,hr6⟩:=aU.form ho6;have HIX:=aA (show Calls Tryz.prog 14 #[.slice A6 1 c6,.slice (some ⟨w6.heap.size,0,none⟩) 1 1] (w6.alloc (.cells #[.int .i64 1] 3)) _ from zfT A6 (some ⟨w6.heap.size,0,none⟩) c6 1 (w6.alloc (zbA [1])) ((hr6.below ((Below.refl _ _).alloc (Nat.le_refl _) (zbA [1])) (Nat.le_refl _)).more (by simp)) (ziG w6 [1]).1);have HB6:=aA hb6;have HK0:=aA k0;have HG0:=aA l0;clear hb6 ho6 hr6 k0 k1 k2 l0 lr0 HRA;have HB6A:Hid (Below wr.heap.size wr (w6.alloc (.cells #[.int .i64 1] 3))):=aA (HB6.o.alloc HB6.o.size _);have e1:([1]:List Int).length=1:=rfl;rw[e1];clear e1;go_wp2_with fail
   refine HIX.o.mono ?_;rintro _ w7 ⟨rfl,n7,hw7⟩;have HB7:Hid (Below wr.heap.size wr w7):=aA (by rw[hw7];exact aB HB6A.o _);clear hw7 HIX HB6A HB6;have k0:=(HB7.o.cell (p:=⟨gA,oA,none⟩) HG0.o).trans HK0.o;have l0:=Nat.lt_of_lt_of_le HG0.o HB7.o.size;have HRA:=aA (show Calls Tryz.prog 15 #[.slice (some ⟨gr,or,none⟩) 1 cr,.int .i64 0] w7 _ from HRU.o 0 w7 HB7.o);go_wp2_with fail
   refine HRA.o.mono ?_;rintro _ w8 ⟨u8,rfl,ho8,hb8⟩;rw[HE16.o]at ho8;obtain⟨A8,c8,rfl,_,_,hr8⟩:=aU.form ho8;have HB8:=aA (HB5.o.trans ((HB7.o.trans (hb8.mono HB7.o.size)).mono HB5.o.size));have e0:([]:List Int).length=0:=rfl;rw[e0];clear ho8 hr8 hb8 k0 l0 HRA HRU e0;go_wp2;go_ret
   exact⟨rfl,HB8.o⟩
namespace Lk
open Au Gm Go.Mw
theorem lk_cases (G:Gr):(bldE G≠0/\lkS G=[])\/(bldE G=0/\isB G=true/\∃K E,bld G=some (K,E)):=by
 cases hb:isB G with
 | false=>exact .inl ⟨by rw[(bld_no hb).1];decide,lk_no hb⟩
 | true =>
  cases hk:bld G with
  | none=>exact .inl ⟨by rw[(bld_many hb hk).1];decide,lk_many hb hk⟩
  | some p =>
   obtain⟨K,E⟩:=p;exact .inr ⟨(bld_ok hb hk).1,rfl,K,E,rfl⟩
section
variable {G:Gr} {K:List (List It)} {E:List (List (Int×Int))}
theorem zha {q k v:Nat} (h:lkAt G K E q k=some v):en G k∈clo G (K.getD q [])/\v=laN G E q (en G k):=by
 unfold lkAt at h;split at h
 ·rename_i c
  injection h with h;exact⟨tr_iff.1 c,h.symm⟩
 ·cases h
theorem zdP {q:Nat} {x:Int×Int}:x∈lkRow G K E q ↔ ∃k:Nat,k<G.rs.length/\en G k∈clo G (K.getD q [])/\x=((k:Int),(laN G E q (en G k):Int)):=by
 unfold lkRow;rw[List.mem_filterMap]
 constructor
 ·rintro⟨k,hk,h⟩;cases e:lkAt G K E q k with
  | none=>rw[e]at h;cases h
  | some v =>
   rw[e]at h;injection h with h;obtain⟨h1,rfl⟩:=zha e;exact⟨k,List.mem_range.1 hk,h1,h.symm⟩
 ·rintro⟨k,hk,h1,rfl⟩;refine⟨k,List.mem_range.2 hk,?_⟩;unfold lkAt;rw[if_pos (tr_iff.2 h1)];rfl
theorem ziF (q:Nat):(lkRow G K E q).Pairwise fun a b=>a.1<b.1:=by
 unfold lkRow;refine List.Pairwise.filterMap _ (fun a b hab c hc d hd=>?_) (za1 _);cases e1:lkAt G K E q a with
 | none=>rw[e1]at hc;cases hc
 | some v =>
  cases e2:lkAt G K E q b with
  | none=>rw[e2]at hd;cases hd
  | some u =>
   rw[e1]at hc;rw[e2]at hd;cases hc
   cases hd
   show(a:Int)<(b:Int)
   omega
theorem zg9 (q:Nat):(lkRow G K E q).length<=G.rs.length:=by
 unfold lkRow
 have:=List.length_filterMap_le (fun k=>(lkAt G K E q k).map fun v=>((k:Int),(v:Int))) (List.range G.rs.length)
 simpa using this
structure FolS (G:Gr) (ls:List (List (Int×Int))) (W:List Nat):Prop where
 le:ls.length<=300
 ne:ls.length≠0
 lr:∀r∈ls,r.length<=40
 et:∀q (hq:q<ls.length) k (hk:k<ls[q].length),∃(n v:Nat) (hn:n<G.rs.length),ls[q][k]=((n:Int),(v:Int))/\v≠0/\v<4294967296/\W.getD (G.rs[n]).l.toNat 0 ||| v=W.getD (G.rs[n]).l.toNat 0
 up:∀q (hq:q<ls.length) k (hk:k+1<ls[q].length),ls[q][k].1<ls[q][k+1].1
 al:∀n:Nat,n<G.rs.length->∃q,∃hq:q<ls.length,∃x∈ls[q],x.1=(n:Int)
theorem lk_fol (hb:isB G=true) (hk:bld G=some (K,E)):FolS G (lkS G) (flw G):=by
 obtain⟨hi,hE,h3⟩:=bld_inv hk;have hr:=isB_right hb;have hok:=right_ok.1 hr;have hu:=isB_use hb;have hrl:G.rs.length<=40:=hok.r40;have ht:G.ts.length<=24:=((terms_iff G.ts).1 hok.t).1;have hp:∀x∈G.rs,Al true G.rs x.r:=fun x hx=>(hu x hx).2;have hs:=lk_ok hb hk
 have hrow:∀q (hq:q<(lkS G).length),q<K.length/\(lkS G)[q]=lkRow G K E q:=fun q hq=>by
  have h1:q<K.length:=by rw[hs,List.length_map,List.length_range]at hq;exact hq
  refine⟨h1,?_⟩;rw[List.getElem_of_eq hs,List.getElem_map,List.getElem_range]
 have hlen:(lkS G).length=K.length:=by rw[hs,List.length_map,List.length_range]
 refine⟨by omega,?_,fun r h=>?_,fun q hq k hk2=>?_,fun q hq k hk2=>?_,fun n hn=>?_⟩
 ·have:=(List.getElem?_eq_some_iff.1 hi.h0).1
  omega
 ·obtain⟨q,hq,rfl⟩:=List.getElem_of_mem h;rw[(hrow q hq).2];exact Nat.le_trans (zg9 q) hrl
 ·have hm:(lkS G)[q][k]∈lkRow G K E q:=by
   have:=List.getElem_mem hk2
   rw[<-(hrow q hq).2];exact this
  obtain⟨n,hn,h1,h2⟩:=zdP.1 hm;have hq1:=(hrow q hq).1;refine⟨n,laN G E q (en G n),hn,h2,?_,laN_lt ht q _,Nat.eq_of_testBit_eq fun t=>Bool.eq_iff_iff.2 ?_⟩
  ·obtain⟨t,ht2⟩:=zjj hi hE hp q hq1 _ h1;have h0:=(ziK hok ht2).1;exact zbo (t:=t.toNat) ((zc5 hok q _ _).2 (by rw[Int.toNat_of_nonneg h0];exact ht2))
  ·rw[Nat.testBit_or,Bool.or_eq_true];refine⟨fun h=>h.elim id fun h=>?_,.inl⟩;have h3:=(zc5 hok q _ t).1 h;have h4:=(zmR hi h3).2 n hn rfl;rw[flw_bit hok,Int.toNat_of_nonneg (hok.lin _ (List.getElem_mem hn)).1];exact h4
 ·have hp2:=List.pairwise_iff_getElem.1 (ziF (G:=G) (K:=K) (E:=E) q);have e:=(hrow q hq).2;have l1:k<(lkRow G K E q).length:=by rw[<-e];omega
  have l2:k+1<(lkRow G K E q).length:=by rw[<-e];omega
  have:=hp2 k (k+1) l1 l2 (by omega)
  rw[List.getElem_of_eq e,List.getElem_of_eq e];exact this
 ·obtain⟨i,t,h1⟩:=zkl hi hE hok (hu _ (List.getElem_mem hn)).1 n hn rfl;obtain⟨j,h2⟩:=zes hi hE hok hn h1 (G.rs[n]).r.length (Nat.le_refl _);have h4:=la_in hi h2;rw[<-zl7 hn]at h4;refine⟨j,by rw[hlen];exact h4.1,((n:Int),(laN G E j (en G n):Int)),?_,rfl⟩;rw[(hrow j (by rw[hlen];exact h4.1)).2];exact zdP.2 ⟨n,hn,h4.2,rfl⟩
end
structure SeenR (ls:List (List (Int×Int))) (n i k:Nat) (S:List Bool):Prop where
 l:S.length=n
 s:∀q (hq:q<ls.length),q<i->∀x∈ls[q],S.getD x.1.toNat false=true
 c:∀(hi:i<ls.length) j (hj:j<ls[i].length),j<k->S.getD (ls[i][j]).1.toNat false=true
theorem zeM {S:List Bool} {j t:Nat} (h:S.getD j false=true):(S.set t true).getD j false=true:=by
 rw[List.getD_eq_getElem?_getD]at h ⊢;rw[List.getElem?_set];by_cases e:t=j
 ·subst e;rw[if_pos rfl];split
  ·rfl
  ·rename_i hn
   rw[List.getElem?_eq_none (by omega)]at h;exact h
 ·rw[if_neg e];exact h
theorem zib {S:List Bool} {t:Nat} (h:t<S.length):(S.set t true).getD t false=true:=by
 rw[List.getD_eq_getElem?_getD,List.getElem?_set_self h];rfl
theorem SeenR.start (ls:List (List (Int×Int))) (n:Nat):SeenR ls n 0 0 (List.replicate n false):=⟨by simp,fun _ _ h=>absurd h (Nat.not_lt_zero _),fun _ _ _ h=>absurd h (Nat.not_lt_zero _)⟩
theorem SeenR.step {ls:List (List (Int×Int))} {n i k:Nat} {S:List Bool} (h:SeenR ls n i k S) (hi:i<ls.length) (hk:k<ls[i].length) {t:Nat} (ht:(ls[i][k]).1=(t:Int)) (htn:t<n):SeenR ls n i (k+1) (S.set t true):=by
 refine⟨by rw[List.length_set];exact h.l,fun q hq hqi x hx=>zeM (h.s q hq hqi x hx),fun hi2 j hj hjk=>?_⟩;by_cases e:j=k
 ·subst e;rw[ht,Int.toNat_natCast];exact zib (by rw[h.l];exact htn)
 ·exact zeM (h.c hi2 j hj (by omega))
theorem SeenR.next {ls:List (List (Int×Int))} {n i:Nat} {S:List Bool} (hi:i<ls.length) (h:SeenR ls n i ls[i].length S):SeenR ls n (i+1) 0 S:=by
 refine⟨h.l,fun q hq hqi x hx=>?_,fun _ _ _ h=>absurd h (Nat.not_lt_zero _)⟩;by_cases e:q=i
 ·subst e;obtain⟨j,hj,rfl⟩:=List.getElem_of_mem hx;exact h.c hi j hj hj
 ·exact h.s q hq (by omega) x hx
theorem SeenR.all {G:Gr} {ls:List (List (Int×Int))} {W:List Nat} {S:List Bool} (h:SeenR ls G.rs.length ls.length 0 S) (hf:FolS G ls W) {k:Nat} (hk:k<G.rs.length):S.getD k false=true:=by
 obtain⟨q,hq,x,hx,e⟩:=hf.al k hk
 have:=h.s q hq hq x hx
 rwa [e,Int.toNat_natCast]at this
end Lk
theorem Lk.flw_lt {G:Gm.Gr} (hok:Gm.Ok G):Gm.U32 (Gm.flw G):=fun i=>by
 have h24:=((Gm.terms_iff G.ts).1 hok.t).1;refine Nat.lt_pow_two_of_testBit (n:=32) _ fun t ht=>?_;cases hb:((Gm.flw G).getD i 0).testBit t
 ·rfl
 ·have:=Gm.fw_le hok ((Gm.flw_bit hok i t).1 hb)
  omega
end Go.Proofs.YtcmhaemaophplaaGreat
namespace Go.Proofs.YtcmhaemaophplaaGreat
set_option maxRecDepth 100000
set_option maxHeartbeats 40000000
open Go.RowKit
theorem zdx (l:List Int) (rest:Nat) (nu:List Bool) (fs:List Nat) (A A1 A2:Option Addr) (c c1 c2 B B1 B2:Nat) (w:World) (hr:RdI w B A l) (h1:RdO w B1 A1 nu) (h2:RdZ w B2 A2 fs)
  (hin:∀z∈l,Gm.In z) (h31:∀z∈l,z<=31) (hs:∀z∈l,z<0->-1-z<(fs.length:Int)) (hn:nu.length=fs.length) (hf:Gm.U32 fs) (hrest:rest<4294967296) (hl:l.length<=9223372036854775807) :
  Calls Tryz.prog 35 #[.slice A l.length c,.slice A1 nu.length c1,.slice A2 fs.length c2,.int .u32 rest] w fun e w'=>e=.returned (.int .u32 (Gm.ofN nu fs rest l))/\∃q,w'=w.drewN q:=by
 have HR:=aA hr;have H1:=aA h1;have H2:=aA h2;have HIN:=aA hin;have H31:=aA h31;have HS:=aA hs;have HN:=aA hn;have HF:=aA hf;have HRE:=aA hrest;have HST:=aA (Gm.ofN_step nu fs rest l);have h0:(l.length:Int)<=9223372036854775807:=by omega
 obtain⟨r,hr0⟩:∃r,r=Gm.ofN nu fs rest l:=⟨_,rfl⟩
 have HR0:=aA hr0;rw[<-hr0];clear hr h1 h2 hin h31 hs hn hf hl hr0 hrest
 go_enter Tryz.func35,Tryz.ntmps35
 go_wp2
 go_loop [10,9] (fun vi vs=>∃(k s:Nat),k<=l.length/\vi=.int .i64 k/\vs=.int .u32 s/\Hid (s<4294967296)/\Hid (r=s ||| Gm.ofN nu fs rest (l.drop k))) (fun vi _=>l.length-(intOf vi).toNat)
 case atStart=>exact⟨0,0,Nat.zero_le _,rfl,rfl,aA (by decide),aA (by rw[HR0.o];simp)⟩
 case round =>
  obtain⟨k,s,hk,rfl,rfl,HL,HE⟩:=hrel;by_cases hlt:k<l.length
  ·obtain⟨g,o,rfl,hgb,hc⟩:=HR.o (by omega);have k0:=hc k hlt;rw[L.gd_lt hlt]at k0;have hzi:=HIN.o _ (List.getElem_mem hlt);have hz3:=H31.o _ (List.getElem_mem hlt);have hzs:=HS.o _ (List.getElem_mem hlt);have HSz:=aA (HE.o.trans (HST.o k hlt s));clear hc;generalize l[k]=z at *;unfold Gm.In at hzi;by_cases hz0:0<=z
   ·have hb:Gm.bgN fs z=S.bit z:=by unfold Gm.bgN S.bit;rw[if_pos hz0,if_pos (by omega)]
    have hm:Gm.mbN nu z=false:=by unfold Gm.mbN;rw[decide_eq_false (by omega)];rfl
    rw[hb,hm]at HSz;have ho:=aA (u32_or_nat s (S.bit z) HL.o (S.bit_lt z));have HBI:=aA (fun w=>zeR z w (by omega));have d0:decide (0<=z)=true:=decide_eq_true hz0;generalize S.bit z=b at *;clear hzi hz3 hzs hz0 hb hm;go_wp2_with fail
    refine(HBI.o _).mono ?_;rintro _ w2 ⟨rfl,q,rfl⟩;go_wp2_with fail
    go_ret
    exact⟨aS (by rw[ho.o,HSz.o];simp),q,rfl⟩
   ·have hz1:=hzs (by omega);obtain⟨m,he⟩:∃m:Nat,-1-z=(m:Int):=⟨(-1-z).toNat,by omega⟩
    rw[he]at hz1;have hb:Gm.bgN fs z=fs.getD m 0:=by unfold Gm.bgN;rw[if_neg hz0,he];simp
    have hm:Gm.mbN nu z=nu.getD m false:=by unfold Gm.mbN;rw[decide_eq_true (by omega),he];simp
    rw[hb,hm]at HSz;have hm1:m<fs.length:=by omega
    have hm2:m<nu.length:=by have:=HN.o;omega
    have hm3:(m:Int)<(nu.length:Int):=by omega
    obtain⟨g1,o1,rfl,_,hc1⟩:=H1.o (by omega);obtain⟨g2,o2,rfl,_,hc2⟩:=H2.o.addr (by omega);have k1:=hc1 m hm2;have k2:=hc2 m hm1;have ho:=aA (u32_or_nat s (fs.getD m 0) HL.o (HF.o m));have HL2:=aA (Gm.or32 HL.o (HF.o m));have d0:decide (0<=z)=false:=decide_eq_false hz0;have d2:IntKind.i64.wrap (-1-z)=(m:Int):=by rw[IntWalk.i64_in _ (by omega)];exact he
    generalize fs.getD m 0=b at *;obtain⟨s2,hs2⟩:∃s2,s2=s ||| b:=⟨_,rfl⟩
    rw[<-hs2]at ho HL2 HSz;generalize nu.getD m false=bn at *;clear hzi hz3 hzs hz0 hb hm hs2 hc1 hc2 he;cases bn
    ·go_wp2_with fail
     go_ret
     exact⟨aS (by rw[ho.o,HSz.o];simp),0,rfl⟩
    ·go_wp2_with fail
     go_round
     case rel=>exact⟨k+1,s2,hlt,by go_num,by rw[ho.o],HL2,aA (by rw[HSz.o];simp)⟩
     case measure=>simp[intOf];omega
  ·obtain rfl:k=l.length:=by omega
   have ho:=aA (u32_or_nat s rest HL.o HRE.o);have HX:Hid (r=s ||| rest):=aA (by rw[HE.o,List.drop_length];rfl);go_wp2_with fail
   go_ret
   exact⟨aS (by rw[ho.o,HX.o]),0,rfl⟩
theorem Gm.fold_take {f:List Nat->Gm.Rl->List Nat} {rs:List Gm.Rl} {k:Nat} (h:k<rs.length) (s:List Nat):(rs.take (k+1)).foldl f s=f ((rs.take k).foldl f s) rs[k]:=by
 rw[List.take_succ_eq_append_getElem h,List.foldl_append];rfl
theorem FsP.fold {G:Gm.Gr} (hf:Gm.Fit G) (hok:Gm.Ok G):∀(xs:List Gm.Rl) (s:List Nat),(∀x∈xs,x∈G.rs)->FsP G s->FsP G (xs.foldl (Gm.firstN1 (Gm.gn false G.rs G.ns.length)) s)
 | [],_,_,h=>h
 | x::xs,_,hx,h=>FsP.fold hf hok xs _ (fun y hy=>hx y (List.mem_cons_of_mem _ hy)) (h.step hf hok (hx x (List.mem_cons_self ..)))
theorem FsP.times {G:Gm.Gr} (hf:Gm.Fit G) (hok:Gm.Ok G) (n:Nat):FsP G (Gm.timesN (fun s=>G.rs.foldl (Gm.firstN1 (Gm.gn false G.rs G.ns.length)) s) n (List.replicate G.ns.length 0)):=by
 induction n with
 | zero=>exact FsP.start G
 | succ n ih=>exact ih.fold hf hok _ _ (fun _ h=>h)
theorem zdz (v:Value) (G:Gm.Gr) (B:Nat) (w:World) (hg:aT w B v G) (hf:Gm.Fit G) (hB:B<=w.heap.size) :
  Calls Tryz.prog 34 #[v] w (zi6 (Gm.right G) (Gm.fst G) w):=by
 have H1:=aA (fun(x:World) (h:Below w.heap.size w x)=>zbr v G B x (hg.below h hB) hf (Nat.le_trans hB h.size));have HNU:=aA (fun(q:Gm.right G=true) (x:World) (h:Below w.heap.size w x)=>(show Calls _ _ _ _ (zh1 _ _) from(zbj v G B x (hg.below h hB) hf (Nat.le_trans hB h.size)).mono fun e w' k=>k.1 q));obtain⟨AT,cT,AN,cN,AR,cR,rfl,_,⟨hlN,hmN⟩,⟨hlR,hmR⟩,_,_,hR⟩:=hg;have HS0:=aA (One.start w #[.slice AT G.ts.length cT,.slice AN G.ns.length cN,.slice AR G.rs.length cR,.int .i64 G.st]);have HRl:=aA hR;have HB:=aA hB;have HFT:=aA hf;clear hf hR hB;cases q:Gm.right G
 ·rw[q]at H1;clear q
  go_enter Tryz.func34,Tryz.ntmps34
  go_wp2_with fail
  refine(H1.o _ HS0.o.below).mono ?_;rintro _ w2 ⟨rfl,hb⟩;have HB2:=aA (HS0.o.on hb);clear hb;go_wp2;go_ret
  exact⟨fun h=>by simp at h,fun _=>⟨rfl,HB2.o.below⟩⟩
 ·have HOK:=aA (Gm.right_ok.1 q);have HN:Hid (G.ns.length<=40):=aA (by have:=(Gm.nons_iff G).1 HOK.o.n;omega);have HR40:Hid (G.rs.length<=40):=aA HOK.o.r40;have HNU:=aA (HNU.o q);rw[q]at H1;clear q;have hnn:=HN.o;have hlen:(G.ns.length:Int)<=9223372036854775807:=by omega
  have hlen2:(G.rs.length:Int)<=9223372036854775807:=by omega
  obtain⟨T,hT⟩:∃x,x=Gm.gn false G.rs G.ns.length:=⟨_,rfl⟩
  have HTl:Hid (T.length=G.ns.length):=aA (by rw[hT,Gm.gn_len]);have HT:=aA hT;rw[<-hT]at HNU;clear hT
  go_enter Tryz.func34,Tryz.ntmps34
  go_wp2_with fail
  refine(H1.o _ HS0.o.below).mono ?_;rintro _ w2 ⟨rfl,hb⟩;have HB2:=aA (HS0.o.on hb);have q0:=HB2.o.c 0 _ rfl;have q1:=HB2.o.c 1 _ rfl;have q2:=HB2.o.c 2 _ rfl;have q3:=HB2.o.c 3 _ rfl;have hd1:w.heap.size<w2.heap.size:=HB2.o.size;clear hb;go_upto_region 4 with fail
  refine(HNU.o _ HB2.o.below).mono ?_;rintro _ w3 ⟨g1,rfl,hg1,hu1,hb3⟩;have HB3:=aA (HB2.o.on hb3);have HU1:=aA hu1;have HL1:=aA hu1.lt;have q1:=HB3.o.c 1 _ rfl;have hd3:w.heap.size<w3.heap.size:=HB3.o.size;rw[HTl.o];clear hb3 q0 q2 q3 hu1 hg1 hd1 H1 HNU HS0;go_upto_region 5 with(at_make;refine zg5 rfl (.tmp 15) (.tmp 15) _ rfl Tryz.underlying41 G.ns.length _ _ rfl rfl rfl rfl (by omega) ?_;intro w4 hu4 hb4 hlt4)
  have HB4:=aA (HB3.o.on hb4);have HU4:Hid (UBZ w4 w3.heap.size (List.replicate G.ns.length 0)):=aA (by unfold UBZ;rw[zgh];exact hu4);have HW4:=aA (Nat.lt_of_lt_of_le HL1.o hb4.size);have HU14:Hid (UBO w4 g1 T):=aA (HU1.o.below hb4 HL1.o);have HG1:Hid (g1<w3.heap.size):=HL1;have HGK:Hid (w.heap.size<w3.heap.size):=aA hd3;clear hu4 hb4 hlt4 q1 hd3 HU1 HL1;obtain⟨f,hfd⟩:∃f,f=Gm.firstN1 T:=⟨_,rfl⟩
  have HFD:=aA hfd;have HPT:Hid (∀n,FsP G (Gm.timesN (fun s=>G.rs.foldl f s) n (List.replicate G.ns.length 0))):=aA (fun n=>by rw[hfd,HT.o];exact FsP.times HFT.o HOK.o n);have HFST:Hid (Gm.timesN (fun s=>G.rs.foldl f s) G.ns.length (List.replicate G.ns.length 0)=Gm.fst G):=aA (by rw[hfd,HT.o];rfl);have HFF:Hid (∀(xs:List Gm.Rl) (s:List Nat),(∀x∈xs,x∈G.rs)->FsP G s->FsP G (xs.foldl f s)):=aA (fun xs s hx h=>by rw[hfd,HT.o];exact h.fold HFT.o HOK.o xs s hx);clear hfd;go_wp2;go_loopw [5] (fun vn wr=>∃n:Nat,n<=G.ns.length/\vn=.int .i64 n/\Hid (UBZ wr w3.heap.size (Gm.timesN (fun s=>G.rs.foldl f s) n (List.replicate G.ns.length 0)))/\Hid (UBO wr g1 T)/\Hid (One w #[.slice AT G.ts.length cT,.slice AN G.ns.length cN,.slice AR G.rs.length cR,.int .i64 G.st] wr)) (fun vn _=>G.ns.length-(intOf vn).toNat)
  case atStart=>exact⟨0,Nat.zero_le _,rfl,HU4,HU14,HB4⟩
  case round =>
   obtain⟨n,hn,rfl,HU,HV,HW⟩:=hrel;obtain⟨wo,hwo⟩:∃wo:World,wo=wr:=⟨_,rfl⟩
   subst hwo;have q1:=HW.o.c 1 _ rfl;have ld:w.heap.size<wo.heap.size:=HW.o.size;clear HU4 HB4 HU14;by_cases hlt:n<G.ns.length
   ·have HP:=aA (HPT.o n);have HNX:Hid (Gm.timesN (fun s=>G.rs.foldl f s) (n+1) (List.replicate G.ns.length 0)=G.rs.foldl f (Gm.timesN (fun s=>G.rs.foldl f s) n (List.replicate G.ns.length 0))):=aA rfl;generalize Gm.timesN (fun s=>G.rs.foldl f s) n (List.replicate G.ns.length 0)=s at *;go_wp2;go_loopw [6] (fun vi wr=>∃i:Nat,i<=G.rs.length/\vi=.int .i64 i/\Hid (UBZ wr w3.heap.size ((G.rs.take i).foldl f s))/\Hid (UBO wr g1 T)/\Hid (One w #[.slice AT G.ts.length cT,.slice AN G.ns.length cN,.slice AR G.rs.length cR,.int .i64 G.st] wr)) (fun vi _=>G.rs.length-(intOf vi).toNat)
    case atStart=>exact⟨0,Nat.zero_le _,rfl,HU,HV,HW⟩
    case round =>
     clear HU HV HW q1 ld;obtain⟨i,hi,rfl,HU,HV,HW⟩:=hrel;have q2:=HW.o.c 2 _ rfl;have ld:w.heap.size<wr.heap.size:=HW.o.size;by_cases hlt2:i<G.rs.length
     ·obtain⟨g,o,rfl,hgB,hc⟩:=HRl.o (by omega);obtain⟨k0,⟨A',c',k1,hlc,_,hri⟩,k2⟩:=hc i hlt2;have k0:=(HW.o.below.cell (p:=⟨g,o+i*3,none⟩) (Nat.lt_of_lt_of_le hgB HB.o)).trans k0;have k1:=(HW.o.below.cell (p:=⟨g,o+i*3+1,none⟩) (Nat.lt_of_lt_of_le hgB HB.o)).trans k1;have k2:=(HW.o.below.cell (p:=⟨g,o+i*3+2,none⟩) (Nat.lt_of_lt_of_le hgB HB.o)).trans k2;have hgs:g<wr.heap.size:=by have:=HB.o;omega
      have hxm:G.rs[i]∈G.rs:=List.getElem_mem hlt2;have HXI:=aA (zk4 HFT.o HOK.o hxm);have HTK:=aA (Gm.fold_take (f:=f) hlt2 s);have HPC:=aA (HFF.o (G.rs.take i) s (fun x hx=>List.mem_of_mem_take hx) HP.o);have HRI:=aA (hri.keep fun g o hg=>HW.o.below.cell (p:=⟨g,o,none⟩) (Nat.lt_of_lt_of_le hg HB.o));generalize (G.rs.take i).foldl f s=cur at *;generalize G.rs[i]=x at *;obtain⟨l,r,p⟩:=x;obtain⟨m,rfl⟩:∃m:Nat,l=(m:Int):=⟨l.toNat,by have:=HXI.o.l0;simp only at this;omega⟩
      simp only at k0 k1 k2 HRI hlc;have hmn:m<G.ns.length:=by have:=HXI.o.l1;simp only at this;omega
      have hmi:(m:Int)<(G.ns.length:Int):=by omega
      obtain⟨wb,hwb⟩:∃y,y=wr.alloc (.cells #[.int .i64 m,.slice A' r.length c',.int .i64 p] 48):=⟨_,rfl⟩
      have HBX:Hid (wb.heap[wr.heap.size]?=some (.cells #[.int .i64 m,.slice A' r.length c',.int .i64 p] 48 (0,0))):=aA (by rw[hwb];exact heap_alloc_new wr _);have HUB:Hid (UBZ wb w3.heap.size cur):=aA (by rw[hwb];exact HU.o.alloc _);have HVB:Hid (UBO wb g1 T):=aA (by rw[hwb];exact HV.o.alloc _);have HWB:Hid (One w #[.slice AT G.ts.length cT,.slice AN G.ns.length cN,.slice (some ⟨g,o,none⟩) G.rs.length cR,.int .i64 G.st] wb):=aA (by rw[hwb];exact HW.o.alloc _);have HRB:Hid (RdI wb B A' r):=aA (by rw[hwb];exact HRI.o.alloc (by have:=HB.o;omega) _);have HOF:=zdx r 0 T cur A' (some ⟨g1,0,none⟩) (some ⟨w3.heap.size,0,none⟩) c' G.ns.length G.ns.length B wb.heap.size wb.heap.size wb.drew (HRB.o.drewN 1) ((HVB.o.drewN 1).rd0 HVB.o.lt) ((HUB.o.drewN 1).rd HUB.o.lt) HXI.o.i HXI.o.t (fun z hz h=>by rw[HPC.o.1];exact HXI.o.n z hz h) (by rw[HPC.o.1,HTl.o]) HPC.o.2.1 (by decide) (by have:=HXI.o.c;simp only at this;omega);rw[HPC.o.1,HTl.o]at HOF;have HVL:Hid (Gm.ofN T cur 0 r<4294967296):=aA (Gm.U32.ofN HPC.o.2.1 (by decide) HXI.o.t);have HX:Hid ((G.rs.take (i+1)).foldl f s=cur.set m (cur.getD m 0 ||| Gm.ofN T cur 0 r)):=aA (by rw[HTK.o,HFD.o];unfold Gm.firstN1 Gm.addN;simp);have HOF:=aA HOF;generalize Gm.ofN T cur 0 r=vv at *;have ho:=u32_or_nat (cur.getD m 0) vv (HPC.o.2.1 m) HVL.o;have hcm:m<cur.length:=by rw[HPC.o.1];exact hmn
      have HCM:=aA hcm;have km:=HUB.o.cell m hcm;have fm:=HUB.o.frozen m;have lu:=HUB.o.lt;have HKS:=aA (fun(z:World) (hz:UBZ z w3.heap.size cur)=>hz.set_ m (cur.getD m 0 ||| vv));generalize cur.getD m 0 ||| vv=v2 at *;generalize hv1:cur.getD m 0=v1 at *;have HV1:=aA hv1;clear hv1;have hd5:wr.heap.size<wb.heap.size:=(Array.getElem?_eq_some_iff.1 HBX.o).1;have q5:=fun z:Calm.OnB wr.heap.size wb=>cell_of_row z.1 _ 0 _ _ _ (z.2.trans HBX.o);have q6:=fun z:Calm.OnB wr.heap.size wb=>cell_of_row z.1 _ 1 _ _ _ (z.2.trans HBX.o);have HNE:Hid (w3.heap.size≠wr.heap.size):=aA (by have:=HU.o.lt;omega);clear hc hri hlc hxm hmn hcm HRI HXI HTK;go_upto_region 12 with fail
      rw[<-hwb];clear hwb q2 k0 k1 k2 ld;refine CalmN.region_tree (fun x=>∃z:Calm.OnB wr.heap.size wb,x=z.1) (.two [0,1,2,3,4,5,6,8,9,10,11] 7 (.one [] 12 (.one [13,14] 15 (.fin []))) 12 (.one [] 7 (.one [13,14] 15 (.fin [])))) (by kernel_rfl) (by kernel_rfl) (fun _ _ d _ _ h=>by cases d <;> exact h) ⟨⟨wb.drew,rfl⟩,rfl⟩ ?_;rw[CalmN.wpT];simp only[CalmN.pickOps,List.getElem?_toArray,List.getElem?_cons_zero,List.getElem?_cons_succ];repeat (go_big_quiet_step (fail))
      have hS:∃z:Calm.OnB wr.heap.size wb,wb.drew=z.1:=⟨⟨wb.drew,rfl⟩,rfl⟩
      have kmd:wb.drew.cell? ⟨w3.heap.size,m,none⟩=some (.int .u32 (v1:Int)):=km;have HUD:Hid (UBZ wb.drew w3.heap.size cur):=aA (HUB.o.drewN 1);have HVD:Hid (UBO wb.drew g1 T):=aA (HVB.o.drewN 1);have HWD:Hid (One w #[.slice AT G.ts.length cT,.slice AN G.ns.length cN,.slice (some ⟨g,o,none⟩) G.rs.length cR,.int .i64 G.st] wb.drew):=aA (HWB.o.drewN 1);have HBD:Hid (wb.drew.heap[wr.heap.size]?=wb.heap[wr.heap.size]?):=aA rfl;generalize wb.drew=wd at *;clear q5 q6 km fm lu;refine wpQuiet_nil ⟨?_,?_⟩
      case' refine_1 =>
       simp only[CalmN.wpT,CalmN.wpSt,CalmN.pickOps,List.getElem?_toArray,List.getElem?_cons_zero,List.getElem?_cons_succ];intro KK hKK;rw[if_pos (by rfl)];go_wp2_with fail
       refine hKK _ _ hS (fun x=>∃z:Calm.OnB wr.heap.size wb,x=z.1) (fun _ h=>h) hS ?_;clear hKK;refine wpQuiet_nil ?_;intro KK hKK;rw[if_pos (by rfl)];go_wp2_with fail
       refine HOF.o.mono ?_;rintro _ we ⟨rfl,q,hq⟩;have HUE:Hid (UBZ we w3.heap.size cur):=aA (by rw[hq];exact HUD.o.drewN q);have HVE:Hid (UBO we g1 T):=aA (by rw[hq];exact HVD.o.drewN q);have HWE:Hid (One w #[.slice AT G.ts.length cT,.slice AN G.ns.length cN,.slice (some ⟨g,o,none⟩) G.rs.length cR,.int .i64 G.st] we):=aA (by rw[hq];exact HWD.o.drewN q);have hbe:we.heap[wr.heap.size]?=wb.heap[wr.heap.size]?:=by rw[hq];exact HBD.o
       have HBE:=aA hbe;have hS:∃z:Calm.OnB wr.heap.size wb,we=z.1:=⟨⟨we,hbe⟩,rfl⟩
       have km:=HUE.o.cell m HCM.o;rw[HV1.o]at km;have fm:=HUE.o.frozen m;have lu:=HUE.o.lt;clear hq hbe;go_wp2_with fail
       refine hKK _ _ hS (fun x=>∃z:Calm.OnB wr.heap.size wb,x=z.1) (fun _ h=>h) hS ?_;clear hKK
      case' refine_2 =>
       simp only[CalmN.wpT,CalmN.wpSt,CalmN.pickOps,List.getElem?_toArray,List.getElem?_cons_zero,List.getElem?_cons_succ];intro KK hKK;rw[if_pos (by rfl)];go_wp2_with fail
       refine HOF.o.mono ?_;rintro _ we ⟨rfl,q,hq⟩;have HUE:Hid (UBZ we w3.heap.size cur):=aA (by rw[hq];exact HUD.o.drewN q);have HVE:Hid (UBO we g1 T):=aA (by rw[hq];exact HVD.o.drewN q);have HWE:Hid (One w #[.slice AT G.ts.length cT,.slice AN G.ns.length cN,.slice (some ⟨g,o,none⟩) G.rs.length cR,.int .i64 G.st] we):=aA (by rw[hq];exact HWD.o.drewN q);have hbe:we.heap[wr.heap.size]?=wb.heap[wr.heap.size]?:=by rw[hq];exact HBD.o
       have HBE:=aA hbe;have hS:∃z:Calm.OnB wr.heap.size wb,we=z.1:=⟨⟨we,hbe⟩,rfl⟩
       have km:=HUE.o.cell m HCM.o;rw[HV1.o]at km;have fm:=HUE.o.frozen m;have lu:=HUE.o.lt;clear hq hbe;go_wp2_with fail
       refine hKK _ _ hS (fun x=>∃z:Calm.OnB wr.heap.size wb,x=z.1) (fun _ h=>h) hS ?_;clear hKK;refine wpQuiet_nil ?_;intro KK hKK;rw[if_pos (by rfl)];go_wp2_with fail
       refine hKK _ _ hS (fun x=>∃z:Calm.OnB wr.heap.size wb,x=z.1) (fun _ h=>h) hS ?_;clear hKK
      all_goals
       repeat (go_big_quiet_step (fail))
       refine wpQuiet_nil ?_;obtain⟨wf,hwf⟩:∃y,y=we.setCell ⟨w3.heap.size,m,none⟩ (.int .u32 (v2:Int)):=⟨_,rfl⟩
       have HUF:Hid (UBZ wf w3.heap.size ((G.rs.take (i+1)).foldl f s)):=aA (by rw[hwf,HX.o];exact HKS.o we HUE.o);have HVF:Hid (UBO wf g1 T):=aA (by rw[hwf];exact HVE.o.far (by have:=HG1.o;simp only;omega) _);have HWF:Hid (One w #[.slice AT G.ts.length cT,.slice AN G.ns.length cN,.slice (some ⟨g,o,none⟩) G.rs.length cR,.int .i64 G.st] wf):=aA (by rw[hwf];exact Below.setCell (p:=⟨w3.heap.size,m,none⟩) HWE.o (by have:=HGK.o;simp only;omega) _);have hS2:∃z:Calm.OnB wr.heap.size wb,wf=z.1:=⟨⟨wf,by rw[hwf];exact(Below.heap_setCell we ⟨w3.heap.size,m,none⟩ _ _ (fun e=>HNE.o e.symm)).trans HBE.o⟩,rfl⟩
       intro KK hKK;rw[if_pos (by rfl)];go_wp2_with fail
       rw[<-hwf];refine hKK _ _ hS2 (fun x=>∃z:Calm.OnB wr.heap.size wb,x=z.1) (fun _ h=>h) hS2 ?_;clear hKK hwf hS2;refine wpQuiet_nil ?_;go_wp2;go_roundw
       case rel=>exact⟨i+1,hlt2,by go_num,HUF,HVF,HWF⟩
       case measure=>simp[intOf];omega
     ·obtain rfl:i=G.rs.length:=by omega
      rw[List.take_length]at HU;go_wp2;go_roundw
      case rel=>exact⟨n+1,hlt,by go_num,by rw[HNX.o];exact HU,HV,HW⟩
      case measure=>simp[intOf];omega
   ·obtain rfl:n=G.ns.length:=by omega
    rw[HFST.o]at HU;go_wp2;go_ret
    exact⟨fun _=>⟨w3.heap.size,by rw[Gm.fst_len];rfl,Nat.le_of_lt HGK.o,HU.o,HW.o.below⟩,fun h=>by simp at h⟩
theorem Gm.sufs_len:∀r:List Int,(Gm.sufs r).length=r.length
 | []=>rfl
 | z::r=>by rw[Gm.sufs,List.length_cons,Gm.sufs_len r,List.length_cons]
theorem Gm.sufs_get:∀(r:List Int) (i:Nat) (h:i<r.length),(Gm.sufs r)[i]'(by rw[Gm.sufs_len];exact h)=(r[i],r.drop (i+1))
 | z::r,0,_=>rfl
 | z::r,i+1,h=>by
  simp only[Gm.sufs,List.getElem_cons_succ,List.drop_succ_cons];exact Gm.sufs_get r i (by simpa using h)
theorem Gm.sufs_take {r:List Int} {i:Nat} (h:i<r.length) (f:List Nat->Int×List Int->List Nat) (s:List Nat):((Gm.sufs r).take (i+1)).foldl f s=f (((Gm.sufs r).take i).foldl f s) (r[i],r.drop (i+1)):=by
 rw[List.take_succ_eq_append_getElem (by rw[Gm.sufs_len];exact h),List.foldl_append,Gm.sufs_get r i h];rfl
theorem Gm.U32.fw {nu:List Bool} {F s:List Nat} {nt nn:Nat} {x:Gm.Rl} (hF:Gm.U32 F) (hs:Gm.U32 s) (hx:RlIn nt nn x) {y:Int×List Int} (hy:y∈Gm.sufs x.r):Gm.U32 (Gm.fwN1 nu F x.l s y):=by
 unfold Gm.fwN1;split
 ·refine hs.addN _ (Gm.U32.ofN hF (hs _) fun z hz=>?_);obtain⟨p,e⟩:=Gm.mem_sufs.1 hy;exact hx.t z (by rw[e];simp[hz])
 ·exact hs
section
variable {w2 wx w':World} {n:Nat} {T:List Bool} {F:List Nat} {todo:List Nat} {x9 x13 x3 x4:Value} {g1 h5 g5 c6 c7:Nat}
end
structure FwP (G:Gm.Gr) (s:List Nat):Prop where
 l:s.length=G.ns.length
 u:Gm.U32 s
 sd:∀i t:Nat,(s.getD i 0).testBit t=true->Gm.Fw G t (i:Int)
 e:(s.getD G.st.toNat 0).testBit G.ts.length=true
theorem FwP.start {G:Gm.Gr} (hok:Gm.Ok G):FwP G (Gm.flw0 G):=by
 refine⟨by unfold Gm.flw0;simp,fun i=>?_,fun i t h=>Gm.flw0_snd hok i t h,Gm.flw0_st hok⟩;have h24:=((Gm.terms_iff G.ts).1 hok.t).1;refine Nat.lt_pow_two_of_testBit (n:=32) _ fun t ht=>?_;cases hb:((Gm.flw0 G).getD i 0).testBit t
 ·rfl
 ·have:=Gm.fw_le hok (Gm.flw0_snd hok i t hb)
  omega
theorem FwP.step {G:Gm.Gr} (hf:Gm.Fit G) (hok:Gm.Ok G) {x:Gm.Rl} (hx:x∈G.rs):∀(ys:List (Int×List Int)) (s:List Nat),(∀y∈ys,y∈Gm.sufs x.r)->FwP G s->FwP G (ys.foldl (Gm.fwN1 (Gm.gn false G.rs G.ns.length) (Gm.fst G) x.l) s)
 | [],_,_,h=>h
 | y::ys,s,hy,h=>by
  refine FwP.step hf hok hx ys _ (fun z hz=>hy z (List.mem_cons_of_mem _ hz)) ⟨?_,?_,fun i t hb=>Gm.flw_step hok h.sd hx (hy y (List.mem_cons_self ..)) i t hb,?_⟩
  ·rw[Gm.fwN1_len];exact h.l
  ·exact Gm.U32.fw (Gm.fst_u32 hok) h.u (zk4 hf hok hx) (hy y (List.mem_cons_self ..))
  ·unfold Gm.fwN1;split
   ·exact(Gm.addN_bit _ _ _ _ _).2 (.inl h.e)
   ·exact h.e
end Go.Proofs.YtcmhaemaophplaaGreat
