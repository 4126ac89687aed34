/- Part of the proofs over this program: Ref8M, Read9, Src9, Alive15T, Alive16T, SetW2, LkRules, RfEq, Alive16, LkOpen, WalkRules16, RowKit. -/
import Derived.Lib.Tables
import Derived.Lib.BitFns
import Derived.Lib.TrailingZeros
import Derived.Lib.LaidTab
import Derived.Test.YtcmhaemaophplaaGreatRows
import Derived.SizedLaws
import Derived.LaidMore
import Derived.Stop.Joined
import Derived.ShutString
import Derived.ChangeOld
import Derived.Test.YtcmhaemaophplaaGreatKM
namespace Go.Proofs.YtcmhaemaophplaaGreat
set_option maxRecDepth 100000
set_option maxHeartbeats 40000000
open Go.RowKit
def Y.more:Nat->List Prd->List Tok->Res (List Prd)
 | 0,acc,ts=>.ok acc ts
 | _+1,acc,[]=>.ok acc []
 | f+1,acc,t::ts=>(group [] (t::ts)).bind fun ps r=>Y.more f (acc++ps) r
theorem Y.group_kind {t:Tok} {ts r:List Tok} {ps:List Y.Prd} (h:Y.group [] (t::ts)=.ok ps r):t.k=1:=by
 unfold Y.group at h;obtain⟨left,m,h1,h⟩:=Y.bind_eq_ok h;obtain⟨e,hk⟩:=Y.take_ok h1;injection e with e _;subst e
 simpa using hk
theorem ziW {w:World} {o:Oper} {a:Act} {K:Act->World->Prop} {Q:Exit->Act->World->Prop}
  (s x:Operand) (t:TypeId) (ho:o.op=.call {callee:=.builtin .append,args:=#[s,x],argTypes:=#[t,t]}) (ht:Tryz.prog.underlying t=some (.slice 135))
  (L:List Int) (base bu:Nat) (v u:Value) (xs ys:List Y.Prd) (hs:a.eval s=v) (hown:bF L w base v xs) (hx:a.eval x=u) (hsrc:bF L w bu u ys) (hbu:base<=bu)
  (hlen:xs.length+ys.length<=1000000) (hbase:base<=w.heap.size)
  (hK:∀v' w',bF L w' base v' (xs++ys)->w.grownBy w' v.ownBlock->K (a.put o.dst v') w') :
  o.wp Tryz.prog a w K Q:=by
 obtain⟨i,hi,hz0,hz1,hz2⟩:=info_parts zk9;have hown0:=hown;obtain⟨qs,hq1,hq2,hq3⟩:=hown;obtain⟨qy,hy1,hy2,hy3⟩:=hsrc;have hlq:qs.length=xs.length:=by rw[<-hq1,List.length_map]
 have hly:qy.length=ys.length:=by rw[<-hy1,List.length_map]
 have hpl:(zhV L qy).length=ys.length*5:=hy2.1;rcases hy2.2 with⟨rfl,h0⟩|⟨g,cap,cur,rfl,hb,hg,hn,hm,hc,htk⟩
 ·have hz:ys=[]:=List.eq_nil_of_length_eq_zero h0;subst hz;have hrun:=zap (P:=Tryz.prog) w base t o.type 135 i 5 ht hi v xs.length _ hq2 0;unfold Oper.wp;simp[execOp,ho,resolve,invoke,builtin,hs,hx,hrun,Result.andThen];exact hK v w (by simpa using hown0) (World.grownBy.refl _ _)
 ·refine wp_append_own w s x t ho base 135 i _ 5 88 ht hi hz0 hz1 hz2 rfl (by decide) v xs.length (zhV L qs) hs hq2 ⟨g,0,none⟩ ys.length cap (zhV L qy) hx hpl ?_ ?_ (by unfold maxLen;omega) (by omega) hbase fun v' w' h1 h2 _=>hK v' w' ?_ h2
  ·intro j z hj;have hjl:j<ys.length*5:=by have:=(List.getElem?_eq_some_iff.1 hj).1;omega
   rw[zdS,Nat.zero_add,cell_of_row w g _ _ _ _ hg];rw[<-htk,List.getElem?_take_of_lt hjl]at hj
   simpa using hj
  ·intro z hz;obtain⟨q,_,hz⟩:=List.mem_flatMap.1 hz;exact zcs L q.1 q.2.1 q.2.2 z hz
  ·have hoo:=zar hq2 (by decide);refine⟨qs++qy,by rw[List.map_append,hq1,hy1],?_,fun q hq=>?_⟩
   ·rw[List.length_append];unfold zhV at h1 ⊢;rw[List.flatMap_append];exact h1
   ·rcases List.mem_append.1 hq with h|h
    ·exact(hq3 q h).grown h2 hoo
    ·exact((hy3 q h).less hbu).grown h2 hoo
theorem Rd8.dlen {L:List Int} {B R px py:Nat} {w:World} {ts:List Tok} (h:Rd8 L B R px py w ts):zc2 R w=ts.length:=by
 obtain⟨A,c,h0,_⟩:=h.cell0;unfold zc2;rw[h0]
theorem zdv {w:World} {base base':Nat} {v v':Value} {n n' size size':Nat} {e e':TypeId} {xs xs':List Value} (h:w.ownsRow base e size v n xs) (h':w.ownsRow base' e' size' v' n' xs') (he:e≠e'):v.ownBlock=none\/v.ownBlock≠v'.ownBlock:=by
 rcases h'.2 with⟨rfl,_⟩|⟨g,cap,cur,rfl,_,hg,_⟩
 ·rcases hv:v.ownBlock with _|k
  ·exact .inl rfl
  ·exact .inr (by simp[Value.ownBlock])
 ·exact .inr (zeA h hg he)
theorem of8m (L:List Int) (A:Option Addr) (c px py:Nat) (ts:List Tok) (ds:List Y.Dcl) (p1 ps:List Y.Prd) (f1:Nat) (m m2 r1:List Tok) (t9:Tok) (w:World) (hr:RdT L w w.heap.size A ts) (hc:ts.length<=c) (h4:ts.length<=4000)
  (hd:Y.decls (ts.length+1) [] ts=.ok ds m) (hk:∀d∈ds,d.k=4\/d.k=5) (h9:Y.take [9] m=.ok t9 m2) (hg:Y.group [] m2=.ok p1 r1) (hmo:Y.more f1 p1 r1=.ok ps []) :
  Calls Tryz.prog 63 #[.slice A ts.length c,.complex .f64 px py] w fun e w'=>∃dv pv,e=.returned (.tuple #[.agg #[dv,pv],.complex .f64 0 0,.int .i64 0])/\bG L w' w.heap.size dv ds/\bF L w' w.heap.size pv ps/\Below w.heap.size w w':=by
 have SC:=fun a w m X Y=>show(store a (.complex .f64 X Y) m).run Tryz.prog w=stored Tryz.prog w a (.complex .f64 X Y) m from run_store _ w a _ m rfl;have BR:=fun A (n c:Nat) X Y w=>(run_build w 162 _ _ (by kernel_rfl):(Instr.build 162 #[(0,.slice A n c),(1,.complex .f64 X Y)]).run Tryz.prog w=.ok (.agg #[.slice A n c,.complex .f64 X Y,.complex .f64 0 0,.int .i64 0]) w)
 have BS:=fun A (n c:Nat) w=>(run_build w 96 _ _ (by kernel_rfl):(Instr.build 96 #[(0,.slice A n c)]).run Tryz.prog w=.ok (.agg #[.slice A n c,.slice none 0 0]) w)
 have HB0:=aA (((Below.refl w.heap.size w).alloc (Nat.le_refl _) (.cells #[.slice none 0 0,.slice none 0 0] 96)).alloc (by simp) (.cells #[.slice A ts.length c,.complex .f64 px py,.complex .f64 0 0,.int .i64 0] 162));have HR1:Hid (Rd8 L w.heap.size (w.heap.size+1) px py ((w.alloc (.cells #[.slice none 0 0,.slice none 0 0] 96)).alloc (.cells #[.slice A ts.length c,.complex .f64 px py,.complex .f64 0 0,.int .i64 0] 162)) ts):=aA ⟨A,c,by have:=heap_alloc_new (w.alloc (.cells #[.slice none 0 0,.slice none 0 0] 96)) (.cells #[.slice A ts.length c,.complex .f64 px py,.complex .f64 0 0,.int .i64 0] 162);rwa [show(w.alloc (.cells #[.slice none 0 0,.slice none 0 0] 96)).heap.size=w.heap.size+1 by simp]at this,hc,h4,hr.below HB0.o (Nat.le_refl _),by omega⟩;have HD:=aA (fun(x:World) (B R:Nat) (h:Rd8 L B R px py x ts)=>zlr L B R px py (ts.length+1) ts ds m x h hd (by omega) hk);have H9:=aA (fun(x:World) (B R:Nat) (h:Rd8 L B R px py x m)=>zcl L B R px py m 9 9 x h t9 m2 ((zbC 9 m).trans h9));have HG:=aA (fun(x:World) (B R:Nat) (h:Rd8 L B R px py x m2)=>ziM L B R px py m2 p1 r1 x h hg);have HMO:=aA hmo;have HGL:=aA (Y.group_len hg);unfold bO at H9;clear hr hc h4 hd hk h9 hg hmo
 go_enter Tryz.func63,Tryz.ntmps63
 go_wp2_with fail
 refine(HD.o _ _ _ HR1.o).mono ?_;rintro _ w2 ⟨hg2,v2,rfl,ho2,hr2⟩;have hz0:=zad hg2 ((Below.block (B:=w.heap.size+1) ((Below.refl _ (w.alloc (.cells #[.slice none 0 0,.slice none 0 0] 96))).alloc (by simp) (.cells #[.slice A ts.length c,.complex .f64 px py,.complex .f64 0 0,.int .i64 0] 162)) w.heap.size (by omega)).trans (heap_alloc_new w _)) (by omega);obtain⟨A2,c2,rfl,_,_⟩:=ho2.form;have HG2:=aA hg2;have hs2:w.heap.size+2<=w2.heap.size:=by have:=hg2.size;simpa using this
 have HO2:=aA ho2;have HRO:=aA hr2.other;have HR2:=aA (hr2.alloc (.cells #[.slice A2 ds.length c2,.slice none 0 0] 96));have HZ2:=aA ((Below.heap_alloc w2 (.cells #[.slice A2 ds.length c2,.slice none 0 0] 96) w.heap.size (by omega)).trans hz0);clear hg2 ho2 hr2 hz0;go_wp2_with fail
 refine(H9.o _ _ _ HR2.o).mono ?_;rintro _ w3 ⟨rfl,hg3,hr3⟩;have HG3:=aA hg3;have HR3:=aA hr3;have HZ3:=aA (zad hg3 HZ2.o (by omega));have HB3:=aA (zcD hg3 (by omega:w.heap.size+1<w2.heap.size));clear hg3 hr3;go_wp2_with fail
 have HL1:Hid (p1.length+r1.length<=4000):=aA (by have h1:=HGL.o;have h2:=HR3.o.len;simp at h1;omega);refine(HG.o _ _ _ HR3.o).mono ?_;rintro _ w4 ⟨hg4,v4,rfl,ho4,hr4⟩;obtain⟨A4,c4,rfl,_,_⟩:=ho4.form;have hs3:w2.heap.size+1<=w3.heap.size:=by have:=HG3.o.size;simpa using this
 have hs4:w3.heap.size<=w4.heap.size:=hg4.size;have hb4:=zad hg4 HB3.o (by omega);have hz4:=zad hg4 HZ3.o (by omega);have HGA:=aA ((aF HG2.o (.cells #[.slice A2 ds.length c2,.slice none 0 0] 96)).trans (HG3.o.trans hg4));have b0:=cell_of_row w4 _ 0 _ _ _ hb4;have b1:=cell_of_row w4 _ 1 _ _ _ hb4;have fb1:=frozen_of_row w4 _ 1 _ _ hb4;have z0:=cell_of_row w4 _ 0 _ _ _ hz4;have z1:=cell_of_row w4 _ 1 _ _ _ hz4;have fz0:=frozen_of_row w4 _ 0 _ _ hz4;have fz1:=frozen_of_row w4 _ 1 _ _ hz4;have hRl:=hr4.lt;have HO4:=aA ho4;have HOD4:=aA (HO2.o.grown ((aF (World.grownBy.refl w2 (some (w.heap.size+1))) (.cells #[.slice A2 ds.length c2,.slice none 0 0] 96)).trans (HG3.o.trans hg4)) ⟨HRO.o,by obtain⟨z,hz⟩:=HO2.o.own;simp at hz;exact zao hz (by omega)⟩);have HW5:∃w5:World,w5=w4.setCell ⟨w2.heap.size,1,none⟩ (.slice A4 p1.length c4):=⟨_,rfl⟩
 obtain⟨w5,hw5⟩:=HW5;have hb5:w5.heap[w2.heap.size]?=some (.cells #[.slice A2 ds.length c2,.slice A4 p1.length c4] 96 (0,0)):=by rw[hw5,heap_setCell_same w4 _ 1 _ _ _ hb4];rfl
 have hz5:w5.heap[w.heap.size]?=some (.cells #[.slice none 0 0,.slice none 0 0] 96 (0,0)):=by rw[hw5,Below.heap_setCell _ _ _ _ (by simp only;omega)];exact hz4
 have HR5:Hid (Rd8 L w.heap.size (w.heap.size+1) px py w5 r1):=aA (by rw[hw5];exact hr4.far _ _ _ (by omega));have HOD5:Hid (bG L w5 (w.heap.size+2) (.slice A2 ds.length c2) ds):=aA (by rw[hw5];have h:=HOD4.o.grown (aE (World.grownBy.refl w4 (some w2.heap.size)) 1 (.slice A4 p1.length c4)) ⟨zaq hb4,by obtain⟨z,hz⟩:=HOD4.o.own;exact aP hz hb4 (fun cur e=>by injection e with _ e;exact absurd e (by decide))⟩;simpa using h);have HOP5:Hid (bF L w5 w3.heap.size (.slice A4 p1.length c4) p1):=aA (by rw[hw5];exact ho4.grown (aE (World.grownBy.refl w4 (some w2.heap.size)) 1 (.slice A4 p1.length c4)) ⟨zaq hb4,by obtain⟨z,hz⟩:=ho4.own;exact aP hz hb4 (fun cur e=>by injection e with _ e;exact absurd e (by decide))⟩)
 have HBW:Hid (Below w.heap.size w w5):=aA (by
  rw[hw5];refine Below.setCell ?_ (p:=⟨w2.heap.size,1,none⟩) (by simp only;omega) _;exact HB0.o.grown HGA.o (by simp;omega) (fun k e=>by injection e with e;omega))
 clear hg4 ho4 hr4;go_wp2_with fail
 rw[<-hw5];have HB5:=aA hb5;have HZ5:=aA hz5;have hpb5:w3.heap.size<=w5.heap.size:=by rw[hw5];simp;omega
 clear hw5 hb5 hz5 b0 b1 fb1 z0 z1 fz0 fz1 hb4 hz4 HO4 HOD4;go_loopw [] (fun wt=>∃(f:Nat) (acc:List Y.Prd) (rest:List Tok) (A:Option Addr) (c:Nat),Hid (Y.more f acc rest=.ok ps [])/\acc.length+rest.length<=4000/\wt.heap[w2.heap.size]?=some (.cells #[.slice A2 ds.length c2,.slice A acc.length c] 96 (0,0))/\wt.heap[w.heap.size]?=some (.cells #[.slice none 0 0,.slice none 0 0] 96 (0,0))/\Rd8 L w.heap.size (w.heap.size+1) px py wt rest/\bG L wt (w.heap.size+2) (.slice A2 ds.length c2) ds/\bF L wt w3.heap.size (.slice A acc.length c) acc/\Below w.heap.size w wt/\w3.heap.size<=wt.heap.size) (fun wt=>zc2 (w.heap.size+1) wt)
 case atStart=>exact⟨f1,p1,r1,A4,c4,HMO,HL1.o,HB5.o,HZ5.o,HR5.o,HOD5.o,HOP5.o,HBW.o,hpb5⟩
 case round =>
  clear HMO HL1 HB5 HZ5 HR5 HOD5 HOP5 HBW hpb5;obtain⟨f,acc,rest,A,c,HM,hle,hsb,hzz,hrd,hod,hop,hbw,hpb⟩:=hrel;obtain⟨Ax,cx,r0,r3,_⟩:=hrd.cell0;have HSB:=aA hsb;have HZZ:=aA hzz;have HRD:=aA hrd;have HOD:=aA hod;have HOP:=aA hop;have HBW:=aA hbw;have HPB:=aA hpb;have HLE:=aA hle;have hsz:w.heap.size<wr.heap.size:=(Array.getElem?_eq_some_iff.1 hzz).1;have hsbl:w2.heap.size<wr.heap.size:=(Array.getElem?_eq_some_iff.1 hsb).1;rcases rest with _|⟨t,m1⟩
  ·have HFIN:Hid (acc=ps):=aA (by
    have h:=HM.o;cases f with
    | zero=>injection h
    | succ f=>injection h)
   have p0:=cell_of_row wr _ 0 _ _ _ hsb;have p1':=cell_of_row wr _ 1 _ _ _ hsb;have y0:=cell_of_row wr _ 0 _ _ _ hzz;have y1:=cell_of_row wr _ 1 _ _ _ hzz;have gz0:=frozen_of_row wr _ 0 _ _ hzz;have gz1:=frozen_of_row wr _ 1 _ _ hzz;clear hsb hzz hrd hod hop hbw hpb hle HM;go_wp2;have hgf:=aE (aE (World.grownBy.refl wr (some w.heap.size)) 0 (.slice A2 ds.length c2)) 1 (.slice A acc.length c);refine bodyPost_ret (v:=.tuple #[.agg #[.slice A2 ds.length c2,.slice A acc.length c],.complex .f64 0 0,.int .i64 0]) (by simp[results,Tryz.results63,go_sem,y0,y1]) rfl ⟨_,_,rfl,?_,?_,?_⟩
   ·exact(HOD.o.grown hgf ⟨zaq HZZ.o,by obtain⟨z,hz⟩:=HOD.o.own;exact zao hz (by omega)⟩).less5 (by omega)
   ·rw[<-HFIN.o];exact(HOP.o.grown hgf ⟨zaq HZZ.o,by obtain⟨z,hz⟩:=HOP.o.own;exact zao hz (by omega)⟩).less5 (by omega)
   ·exact HBW.o.grown hgf HBW.o.size (fun k e=>by injection e with e;omega)
  ·obtain⟨f,rfl⟩:∃f',f=f'+1:=by
    cases f with
    | zero=>have h:=HM.o;injection h with _ h;cases h
    | succ f=>exact⟨f,rfl⟩
   have hY:=HM.o;rw[Y.more]at hY;obtain⟨p2,r2,hgp,hmo2⟩:=Y.bind_eq_ok hY;have HMO2:=aA hmo2;have HGL2:=aA (Y.group_len hgp);have HKD:=aA (fun(x:World) (h:Rd8 L w.heap.size (w.heap.size+1) px py x (t::m1))=>zjH L w.heap.size (w.heap.size+1) px py (t::m1) x h);have HGR:=aA (fun(x:World) (h:Rd8 L w.heap.size (w.heap.size+1) px py x (t::m1))=>ziM L w.heap.size (w.heap.size+1) px py (t::m1) p2 r2 x h hgp);rw[show kd (t::m1)=1 from Y.group_kind hgp]at HKD;have hlen:0<((t::m1).length:Int):=by simp
   have HLN:Hid ((t::m1).length=m1.length+1):=aA rfl;clear hY hgp hmo2 HM hsb hzz hrd hod hop hbw hpb hle;have HRL:Hid ((t::m1).length=zc2 (w.heap.size+1) wr):=aA HRD.o.dlen.symm;generalize hrr:t::m1=rst at *;clear hrr;go_wp2_with fail
   refine(HKD.o _ HRD.o).mono ?_;rintro _ _ ⟨rfl,rfl⟩;go_upto_region 6 with fail
   refine Calm.region_tree (fun _=>True) (.two [0,2] 1 (.one [] 3 (.one [] 4 (.one [5] 6 (.fin [])))) 3 (.one [] 1 (.one [] 4 (.one [5] 6 (.fin []))))) (by kernel_rfl) (by kernel_rfl) (fun _ _ d _ _ h=>by cases d <;> exact h) trivial ?_;obtain⟨x2,hx2⟩:∃x,x=wr.drew:=⟨_,rfl⟩
   rw[<-hx2];have hgd:wr.grownBy x2 .none:=by rw[hx2];exact aH _ _
   have hbx:Below w.heap.size w x2:=by rw[hx2];exact aB HBW.o 1
   have HSB2:=aA ((hgd.block w2.heap.size hsbl (by simp)).trans HSB.o);have HZZ2:=aA ((hgd.block w.heap.size hsz (by simp)).trans HZZ.o);have HRD2:=aA (HRD.o.row hgd);have HOD2:=aA (HOD.o.grown hgd (zi2.none _ _));have HOP2:=aA (HOP.o.grown hgd (zi2.none _ _));have HBW2:=aA hbx;have HPB2:Hid (w3.heap.size<=x2.heap.size):=aA (Nat.le_trans HPB.o hgd.size);clear hx2 hgd hbx HSB HZZ HRD HOD HOP HBW HPB;simp only[Calm.wpT,Calm.wpSt,Calm.pickOps,List.getElem?_toArray,List.getElem?_cons_zero,List.getElem?_cons_succ];repeat (go_big_quiet_step (fail))
   refine wpQuiet_nil ?_;refine⟨?_,?_⟩
   ·intro KK hKK;try rw[if_pos (by rfl)]
    have c1:=cell_of_row x2 _ 1 _ _ _ HSB2.o;go_wp2_with fail
    clear c1;refine hKK _ _ trivial (fun _=>True) (fun _ _=>trivial) trivial ?_;repeat (go_big_quiet_step (fail))
    refine wpQuiet_nil ?_;intro KK hKK;try rw[if_pos (by rfl)]
    go_wp2_with fail
    refine(HGR.o _ HRD2.o).mono ?_;rintro _ x3 ⟨hg3,v3,rfl,ho3,hr3⟩;have HSB3:=aA (zad hg3 HSB2.o (by omega));have HZZ3:=aA (zad hg3 HZZ2.o (by omega));have HRD3:=aA hr3;have HOD3:=aA (HOD2.o.grown hg3 ⟨HRD2.o.other,by obtain⟨z,hz⟩:=HOD2.o.own;exact zao hz (by omega)⟩);have HOP3:=aA (HOP2.o.grown hg3 ⟨HRD2.o.other,by obtain⟨z,hz⟩:=HOP2.o.own;exact zao hz (by omega)⟩);have HBW3:=aA (HBW2.o.grown hg3 HBW2.o.size (fun k e=>by injection e with e;omega));have HPB3:=aA (Nat.le_trans HPB2.o hg3.size);have HO3:=aA (ho3.less5 HPB2.o);have hs23:x2.heap.size<=x3.heap.size:=hg3.size;clear hg3 ho3 hr3;go_wp2_with fail
    refine hKK _ _ trivial (fun _=>True) (fun _ _=>trivial) trivial ?_;repeat (go_big_quiet_step (fail))
    refine wpQuiet_nil ?_;intro KK hKK;try rw[if_pos (by rfl)]
    refine ziW (.tmp 40) (.tmp 42) _ rfl Tryz.underlying94 L w3.heap.size w3.heap.size _ v3 acc p2 rfl HOP3.o rfl HO3.o (Nat.le_refl _) (by have h1:=HLE.o;have h2:=HGL2.o;simp at h2;omega) HPB3.o ?_;intro v4 x4 ho4 hg4;obtain⟨zo,hown⟩:=HOP3.o.own;have HSB4:=aA (zbE hown HSB3.o (by decide) hg4);have HZZ4:=aA (zbE hown HZZ3.o (by decide) hg4);have HRD4:=aA (HRD3.o.own hown hg4 (by omega));have HOD4:=aA (HOD3.o.grown hg4 ⟨zar hown (by decide),by obtain⟨z,hz⟩:=HOD3.o.own;exact zdv hz hown (by decide)⟩);have HBW4:=aA (HBW3.o.grown hg4 HBW3.o.size (fun k e=>by have:=(World.ownsRow.lt hown k e).1;omega));have HPB4:=aA (Nat.le_trans HPB3.o hg4.size);have hs34:x3.heap.size<=x4.heap.size:=hg4.size;have HO4:=aA ho4;clear ho4 hg4 hown;obtain⟨A4',c4',hv4,_,_⟩:=HO4.o.form;rw[List.length_append]at hv4;subst hv4;go_wp2_with fail
    refine hKK _ _ trivial (fun _=>True) (fun _ _=>trivial) trivial ?_;repeat (go_big_quiet_step (fail))
    refine wpQuiet_nil ?_;intro KK hKK;try rw[if_pos (by rfl)]
    have c1:=cell_of_row x4 _ 1 _ _ _ HSB4.o;have f1':=frozen_of_row x4 _ 1 _ _ HSB4.o;go_wp2_with fail
    refine hKK _ _ trivial (fun _=>True) (fun _ _=>trivial) trivial ?_;refine wpQuiet_nil ?_;go_wp2_with fail
    have hst:=aE (World.grownBy.refl x4 (some w2.heap.size)) 1 (.slice A4' (acc.length+p2.length) c4');have HRD5:=aA (HRD4.o.far w2.heap.size 1 (.slice A4' (acc.length+p2.length) c4') (by omega));go_roundw
    case rel =>
     refine⟨f,acc++p2,r2,A4',c4',HMO2,by have h1:=HLE.o;have h2:=HGL2.o;simp at h2 ⊢;omega,?_,?_,HRD5.o,?_,?_,?_,?_⟩
     ·rw[List.length_append,heap_setCell_same x4 _ 1 _ _ _ HSB4.o];rfl
     ·rw[Below.heap_setCell _ _ _ _ (by simp only;omega)];exact HZZ4.o
     ·exact HOD4.o.grown hst ⟨zaq HSB4.o,by obtain⟨z,hz⟩:=HOD4.o.own;exact aP hz HSB4.o (fun cur e=>by injection e with _ e;exact absurd e (by decide))⟩
     ·rw[List.length_append];exact HO4.o.grown hst ⟨zaq HSB4.o,by obtain⟨z,hz⟩:=HO4.o.own;exact aP hz HSB4.o (fun cur e=>by injection e with _ e;exact absurd e (by decide))⟩
     ·exact Below.setCell HBW4.o (p:=⟨w2.heap.size,1,none⟩) (by simp only;omega) _
     ·simpa using HPB4.o
    case measure =>
     rw[HRD5.o.dlen,<-HRL.o];have h2:=HGL2.o;have h3:=HLN.o;simp at h2;omega
   ·intro KK hKK;try rw[if_pos (by rfl)]
    go_wp2_with fail
    refine(HGR.o _ HRD2.o).mono ?_;rintro _ x3 ⟨hg3,v3,rfl,ho3,hr3⟩;have HSB3:=aA (zad hg3 HSB2.o (by omega));have HZZ3:=aA (zad hg3 HZZ2.o (by omega));have HRD3:=aA hr3;have HOD3:=aA (HOD2.o.grown hg3 ⟨HRD2.o.other,by obtain⟨z,hz⟩:=HOD2.o.own;exact zao hz (by omega)⟩);have HOP3:=aA (HOP2.o.grown hg3 ⟨HRD2.o.other,by obtain⟨z,hz⟩:=HOP2.o.own;exact zao hz (by omega)⟩);have HBW3:=aA (HBW2.o.grown hg3 HBW2.o.size (fun k e=>by injection e with e;omega));have HPB3:=aA (Nat.le_trans HPB2.o hg3.size);have HO3:=aA (ho3.less5 HPB2.o);have hs23:x2.heap.size<=x3.heap.size:=hg3.size;clear hg3 ho3 hr3;go_wp2_with fail
    refine hKK _ _ trivial (fun _=>True) (fun _ _=>trivial) trivial ?_;repeat (go_big_quiet_step (fail))
    refine wpQuiet_nil ?_;intro KK hKK;try rw[if_pos (by rfl)]
    have c1:=cell_of_row x3 _ 1 _ _ _ HSB3.o;go_wp2_with fail
    clear c1;refine hKK _ _ trivial (fun _=>True) (fun _ _=>trivial) trivial ?_;repeat (go_big_quiet_step (fail))
    refine wpQuiet_nil ?_;intro KK hKK;try rw[if_pos (by rfl)]
    refine ziW (.tmp 40) (.tmp 42) _ rfl Tryz.underlying94 L w3.heap.size w3.heap.size _ v3 acc p2 rfl HOP3.o rfl HO3.o (Nat.le_refl _) (by have h1:=HLE.o;have h2:=HGL2.o;simp at h2;omega) HPB3.o ?_;intro v4 x4 ho4 hg4;obtain⟨zo,hown⟩:=HOP3.o.own;have HSB4:=aA (zbE hown HSB3.o (by decide) hg4);have HZZ4:=aA (zbE hown HZZ3.o (by decide) hg4);have HRD4:=aA (HRD3.o.own hown hg4 (by omega));have HOD4:=aA (HOD3.o.grown hg4 ⟨zar hown (by decide),by obtain⟨z,hz⟩:=HOD3.o.own;exact zdv hz hown (by decide)⟩);have HBW4:=aA (HBW3.o.grown hg4 HBW3.o.size (fun k e=>by have:=(World.ownsRow.lt hown k e).1;omega));have HPB4:=aA (Nat.le_trans HPB3.o hg4.size);have hs34:x3.heap.size<=x4.heap.size:=hg4.size;have HO4:=aA ho4;clear ho4 hg4 hown;obtain⟨A4',c4',hv4,_,_⟩:=HO4.o.form;rw[List.length_append]at hv4;subst hv4;go_wp2_with fail
    refine hKK _ _ trivial (fun _=>True) (fun _ _=>trivial) trivial ?_;repeat (go_big_quiet_step (fail))
    refine wpQuiet_nil ?_;intro KK hKK;try rw[if_pos (by rfl)]
    have c1:=cell_of_row x4 _ 1 _ _ _ HSB4.o;have f1':=frozen_of_row x4 _ 1 _ _ HSB4.o;go_wp2_with fail
    refine hKK _ _ trivial (fun _=>True) (fun _ _=>trivial) trivial ?_;refine wpQuiet_nil ?_;go_wp2_with fail
    have hst:=aE (World.grownBy.refl x4 (some w2.heap.size)) 1 (.slice A4' (acc.length+p2.length) c4');have HRD5:=aA (HRD4.o.far w2.heap.size 1 (.slice A4' (acc.length+p2.length) c4') (by omega));go_roundw
    case rel =>
     refine⟨f,acc++p2,r2,A4',c4',HMO2,by have h1:=HLE.o;have h2:=HGL2.o;simp at h2 ⊢;omega,?_,?_,HRD5.o,?_,?_,?_,?_⟩
     ·rw[List.length_append,heap_setCell_same x4 _ 1 _ _ _ HSB4.o];rfl
     ·rw[Below.heap_setCell _ _ _ _ (by simp only;omega)];exact HZZ4.o
     ·exact HOD4.o.grown hst ⟨zaq HSB4.o,by obtain⟨z,hz⟩:=HOD4.o.own;exact aP hz HSB4.o (fun cur e=>by injection e with _ e;exact absurd e (by decide))⟩
     ·rw[List.length_append];exact HO4.o.grown hst ⟨zaq HSB4.o,by obtain⟨z,hz⟩:=HO4.o.own;exact aP hz HSB4.o (fun cur e=>by injection e with _ e;exact absurd e (by decide))⟩
     ·exact Below.setCell HBW4.o (p:=⟨w2.heap.size,1,none⟩) (by simp only;omega) _
     ·simpa using HPB4.o
    case measure =>
     rw[HRD5.o.dlen,<-HRL.o];have h2:=HGL2.o;have h3:=HLN.o;simp at h2;omega
structure Sr9 (L:List Int) (xs:List Tok) (ds:List Y.Dcl) (ps:List Y.Prd) (G:Gm.Gr):Prop where
 b:K.Bytes L
 n:L.length<=2000
 t:zi8 L=.ok xs
 s:∃m t9 m2 p1 r1 f1,Y.decls (xs.length+1) [] xs=.ok ds m/\Y.take [9] m=.ok t9 m2/\Y.group [] m2=.ok p1 r1/\Y.more f1 p1 r1=.ok ps []
 z:Ez ds ps
 g:Gm.build ds ps=.ok G
theorem zku (A:Option Addr) (c:Nat) (L:List Int) (xs:List Tok) (ds:List Y.Dcl) (ps:List Y.Prd) (G:Gm.Gr) (w:World) (hr:RdB w w.heap.size A L) (hc:L.length<=c) (hs:Sr9 L xs ds ps G) :
  Calls Tryz.prog 43 #[.slice A L.length c] w fun e w'=>∃dv pv,e=.returned (.tuple #[.agg #[dv,pv],.complex .f64 0 0,.int .i64 0])/\bG L w' w.heap.size dv ds/\bF L w' w.heap.size pv ps/\Below w.heap.size w w':=by
 have SC:=fun a w m X Y=>show(store a (.complex .f64 X Y) m).run Tryz.prog w=stored Tryz.prog w a (.complex .f64 X Y) m from run_store _ w a _ m rfl;have HT:=aA (fun(w1:World) (h1:Below w.heap.size w w1)=>zge A c L xs w1 (hr.up h1) hs.b hc hs.n hs.t);have HB0:=aA (fun o=>((Below.refl w.heap.size w).alloc (Nat.le_refl _) o));obtain⟨m,t9,m2,p1,r1,f1,s1,s2,s3,s4⟩:=hs.s;have hxs:xs.length<=4000:=by have:=(zfY L hs.b xs hs.t).count;have:=hs.n;omega
 have HOF:=aA (fun(w1:World) (A':Option Addr) (c':Nat) (h1:RdT L w1 w1.heap.size A' xs) (h2:xs.length<=c')=>of8m L A' c' (Fl.fl (Pl.pos L).1) (Fl.fl (Pl.pos L).2) xs ds p1 ps f1 m m2 r1 t9 w1 h1 h2 hxs s1 hs.z.k s2 s3 s4);clear hr hc hs s1 s2 s3 s4
 go_enter Tryz.func43,Tryz.ntmps43
 go_wp2_with fail
 refine(HT.o _ (HB0.o _)).mono ?_;rintro _ w2 ⟨v,rfl,ho,hb⟩;obtain⟨A',c',rfl,hxc,_,hrd⟩:=ho.rd;have h2:w2.heap[w.heap.size]?=some (.cells #[.slice none 0 0,.slice none 0 0] 96 (0,0)):=(hb.block w.heap.size (by simp)).trans (heap_alloc_new w _);have HB2:=aA ((HB0.o (.cells #[.slice none 0 0,.slice none 0 0] 96)).trans (hb.mono (HB0.o _).size));have HO2:=aA (HOF.o w2 A' c' hrd hxc);clear ho hb HT HB0 HOF hrd hxc;go_wp2_with fail
 refine HO2.o.mono ?_;rintro _ w3 ⟨dv,pv,rfl,hod,hop,hb3⟩;have h3:=(hb3.block w.heap.size (Array.getElem?_eq_some_iff.1 h2).1).trans h2;have c0:=cell_of_row w3 _ 0 _ _ _ h3;have c1:=cell_of_row w3 _ 1 _ _ _ h3;have f0:=frozen_of_row w3 _ 0 _ _ h3;have f1:=frozen_of_row w3 _ 1 _ _ h3;have HB3:=aA (HB2.o.trans (hb3.mono HB2.o.size));have HX:=aA (zbF h3 (by decide));obtain⟨DA,DC,rfl,_,_⟩:=hod.form;obtain⟨PA',PC,rfl,_,_⟩:=hop.form
 have HWD:Hid (bG L ((w3.setCell ⟨w.heap.size,0,none⟩ (.slice DA ds.length DC)).setCell ⟨w.heap.size,1,none⟩ (.slice PA' ps.length PC)) w.heap.size (.slice DA ds.length DC) ds):=aA (by
  obtain⟨zs,hz⟩:=hod.own;exact(hod.less HB2.o.size).grown (aE (aE (World.grownBy.refl _ _) _ _) _ _) ⟨HX.o,.inr (zeA hz h3 (by decide))⟩)
 have HWP:Hid (bF L ((w3.setCell ⟨w.heap.size,0,none⟩ (.slice DA ds.length DC)).setCell ⟨w.heap.size,1,none⟩ (.slice PA' ps.length PC)) w.heap.size (.slice PA' ps.length PC) ps):=aA (by
  obtain⟨zs,hz⟩:=hop.own;exact(hop.less HB2.o.size).grown (aE (aE (World.grownBy.refl _ _) _ _) _ _) ⟨HX.o,.inr (zeA hz h3 (by decide))⟩)
 clear hod hop hb3 HO2 h2 h3;go_wp2;refine bodyPost_ret (v:=.tuple #[.agg #[.slice DA ds.length DC,.slice PA' ps.length PC],.complex .f64 0 0,.int .i64 0]) (by simp[results,Tryz.results43,go_sem,c0,c1]) rfl ?_;exact⟨_,_,rfl,HWD.o,HWP.o,zaM (zaM HB3.o _ (Nat.le_refl _)) _ (Nat.le_refl _)⟩
theorem zlf (A:Option Addr) (c:Nat) (L:List Int) (xs:List Tok) (ds:List Y.Dcl) (ps:List Y.Prd) (G:Gm.Gr) (w:World) (hr:RdB w w.heap.size A L) (hc:L.length<=c) (hs:Sr9 L xs ds ps G) :
  Calls Tryz.prog 23 #[.slice A L.length c] w fun e w'=>(∃g,e=.returned (.tuple #[g,.complex .f64 0 0,.int .i64 0])/\aU w' w'.heap.size g G/\Gm.Fit G)/\Below w.heap.size w w':=by
 have SC:=fun a w m X Y=>show(store a (.complex .f64 X Y) m).run Tryz.prog w=stored Tryz.prog w a (.complex .f64 X Y) m from run_store _ w a _ m rfl;have hb1:Below w.heap.size w (w.alloc (.cells grC 26)):=(Below.refl w.heap.size w).alloc (Nat.le_refl _) _;have HP:=aA (zku A c L xs ds ps G _ (hr.up hb1) hc hs);have HB1:=aA hb1;have HG1:=aA (heap_alloc_new w (.cells grC 26));have HBA:=aA (fun(x:World) (A1 A2:Option Addr) (c1 c2:Nat) (h1:zj2 L x x.heap.size A1 ds) (h2:zj1 L x x.heap.size A2 ps)=>zlv L ds ps A1 A2 c1 c2 G x h1 h2 hs.z hs.g);unfold grC at HP HB1;clear hr hc hs hb1
 go_enter Tryz.func23,Tryz.ntmps23
 go_wp2_with fail
 refine HP.o.mono ?_;rintro _ w2 ⟨dv,pv,rfl,hod,hop,hb2⟩;obtain⟨A1,c1,rfl,hrd⟩:=zha hod;obtain⟨A2,c2,rfl,hrp⟩:=zgr hop;have hgb:=(hb2.block w.heap.size (by simp)).trans HG1.o;have HGB:=aA hgb;have HB2:=aA (HB1.o.trans (hb2.mono HB1.o.size));have hgz:=(Array.getElem?_eq_some_iff.1 hgb).1;obtain⟨w3,hw3⟩:∃x,x=w2.alloc (.cells #[.slice A1 ds.length c1,.slice A2 ps.length c2] 96):=⟨_,rfl⟩
 have HB3:Hid (Below w.heap.size w w3):=aA (by rw[hw3];exact HB2.o.alloc HB2.o.size _);have hb23:Below w2.heap.size w2 w3:=by rw[hw3];exact(Below.refl _ _).alloc (Nat.le_refl _) _
 have HG3:Hid (w3.heap[w.heap.size]?=some (.cells grC 26 (0,0))):=aA ((hb23.block _ hgz).trans hgb);have hs3:w2.heap.size<=w3.heap.size:=hb23.size
 have HC:=aA (HBA.o w3 A1 A2 c1 c2 (fun hn=>by
   obtain⟨g,o,e,h1,h2⟩:=(hrd.keep hb23) hn;refine⟨g,o,e,by omega,fun i hi=>?_⟩;obtain⟨k1,A',c',k2,k3⟩:=h2 i hi;exact⟨k1,A',c',k2,fun hn=>by obtain⟨g,o,e,q1,q2⟩:=k3 hn;exact⟨g,o,e,by omega,q2⟩⟩) (fun hn=>by
   obtain⟨g,o,e,h1,h2⟩:=(hrp.keep hb23) hn;refine⟨g,o,e,by omega,fun i hi=>?_⟩;obtain⟨k1,k2,⟨A',c',k3,k4⟩,k5⟩:=h2 i hi;exact⟨k1,k2,⟨A',c',k3,fun hn=>by obtain⟨g,o,e,q1,q2⟩:=k4 hn;exact⟨g,o,e,by omega,q2⟩⟩,k5⟩))
 rw[hw3]at HC HB3 HG3;clear hb2 hgb hod hop hrd hrp hw3 hb23 hs3 HBA;go_wp2_with fail
 refine HC.o.mono ?_;rintro _ w4 ⟨⟨g,rfl,hgw,hfit⟩,hb4⟩;have hgb:=(hb4.block w.heap.size (by simp;omega)).trans HG3.o;have g0:w4.cell? ⟨w.heap.size,0,none⟩=some (.slice none 0 0):=cell_of_row w4 _ 0 _ _ _ hgb;have g1:w4.cell? ⟨w.heap.size,1,none⟩=some (.slice none 0 0):=cell_of_row w4 _ 1 _ _ _ hgb;have g2:w4.cell? ⟨w.heap.size,2,none⟩=some (.slice none 0 0):=cell_of_row w4 _ 2 _ _ _ hgb;have g3:w4.cell? ⟨w.heap.size,3,none⟩=some (.int .i64 0):=cell_of_row w4 _ 3 _ _ _ hgb;have f0:=frozen_of_row w4 _ 0 _ _ hgb;have f1:=frozen_of_row w4 _ 1 _ _ hgb;have f2:=frozen_of_row w4 _ 2 _ _ hgb;have f3:=frozen_of_row w4 _ 3 _ _ hgb;have hgz4:=(Array.getElem?_eq_some_iff.1 hgb).1;have HB4:=aA (HB3.o.trans (hb4.mono HB3.o.size));obtain⟨B,N,R,cs,vT,vN,vR,rfl,h,hN⟩:=hgw;obtain⟨⟨AT,cT,rfl⟩,⟨AN,cN,rfl⟩,⟨AR,cR,rfl⟩⟩:=zah h;have HGR:=aA (fun u0 u1 u2 u3=>(h.more hN).grown (aE (aE (aE (aE (World.grownBy.refl w4 (some w.heap.size)) 0 u0) 1 u1) 2 u2) 3 u3) (⟨fun g e=>by injection e with e;subst e;exact⟨_,_,hgb,by decide,by decide,by decide,.inl ⟨by decide,by decide⟩⟩⟩));have HFI:=aA hfit;clear hb4 hgb h hN hfit;go_wp2;refine bodyPost_ret (v:=.tuple #[.agg #[.slice AT G.ts.length cT,.slice AN G.ns.length cN,.slice AR G.rs.length cR,.int .i64 G.st],.complex .f64 0 0,.int .i64 0]) (by simp[results,Tryz.results23,go_sem,g0,g1,g2,g3]) rfl ?_;exact⟨⟨_,rfl,(HGR.o _ _ _ _).rd (by simp) G.st,HFI.o⟩,zaM (zaM (zaM (zaM HB4.o _ (Nat.le_refl _)) _ (Nat.le_refl _)) _ (Nat.le_refl _)) _ (Nat.le_refl _)⟩
def txB (s:List Int):Bool:=(s.all fun z=>decide (0<=z)&&decide (z<256))&&decide (s.length<=100)
def zlM (x:Tok):Bool:=txB x.t&&Gm.named x.t && !(x.t==[101,114,114,111,114])
def dcB (d:Y.Dcl):Bool:=(d.k==4||d.k==5)&&(d.ns.all fun x=>txB x.t&&Gm.named x.t)&&decide (d.ns.length<=1000)
def pdB (p:Y.Prd):Bool:=txB p.l.t&&T.isName p.l.t&&(p.r.all zlM)&&(match p.p with|none=>true|some x=>zlM x)&&decide (p.r.length<=1000)
def ezB (ds:List Y.Dcl) (ps:List Y.Prd):Bool:=ds.all dcB&&ps.all pdB&&decide (ds.length<=1000)&&decide (ps.length<=1000)&&decide (0<ps.length)
theorem zfW {s:List Int} (h:txB s=true):K.Tx s:=by
 unfold txB at h;rw[Bool.and_eq_true,decide_eq_true_eq]at h;exact⟨zan _ h.1,by omega⟩
theorem zgm {x:Tok} (h:zlM x=true):zmu x:=by
 unfold zlM at h;simp only[Bool.and_eq_true]at h;exact⟨zfW h.1.1,h.1.2,by simpa using h.2⟩
theorem zll {ds:List Y.Dcl} {ps:List Y.Prd} (h:ezB ds ps=true):Ez ds ps:=by
 unfold ezB at h;simp only[Bool.and_eq_true,decide_eq_true_eq,List.all_eq_true]at h;obtain⟨⟨⟨⟨h1,h2⟩,h3⟩,h4⟩,h5⟩:=h;refine⟨fun d hd=>?_,fun d hd=>?_,fun p hp=>?_,fun p hp=>?_,h3,h4,h5⟩
 ·have:=h1 d hd
  unfold dcB at this;simp only[Bool.and_eq_true,Bool.or_eq_true,beq_iff_eq]at this;exact this.1.1
 ·have:=h1 d hd
  unfold dcB at this;simp only[Bool.and_eq_true,List.all_eq_true,decide_eq_true_eq]at this;exact⟨fun x hx=>⟨zfW (this.1.2 x hx).1,(this.1.2 x hx).2⟩,by omega⟩
 ·have:=h2 p hp
  unfold pdB at this;simp only[Bool.and_eq_true]at this;exact⟨zfW this.1.1.1.1,this.1.1.1.2⟩
 ·have:=h2 p hp
  unfold pdB at this;simp only[Bool.and_eq_true,List.all_eq_true,decide_eq_true_eq]at this;refine⟨fun x hx=>zgm (this.1.1.2 x hx),fun x hx=>?_,this.2⟩;have h6:=this.1.2;rw[hx]at h6;exact zgm h6
def gr9 (L:List Int):Option Gm.Gr :=
 match zi8 L with
 | .ok xs=>match Y.decls (xs.length+1) [] xs with
  | .ok ds m=>match Y.take [9] m with
   | .ok _ m2=>match Y.group [] m2 with
    | .ok p1 r1=>match Y.more (r1.length+1) p1 r1 with
     | .ok ps []=>match ezB ds ps,Gm.build ds ps with
      | true,.ok G=>some G
      | _,_=>none
     | _=>none
    | _=>none
   | _=>none
  | _=>none
 | _=>none
theorem zlg {L:List Int} {G:Gm.Gr} (hb:(L.all fun z=>decide (0<=z)&&decide (z<256))=true) (hn:L.length<=2000) (h:gr9 L=some G):∃xs ds ps,Sr9 L xs ds ps G:=by
 unfold gr9 at h;split at h
 ·rename_i xs h1
  split at h
  ·rename_i ds m h2
   split at h
   ·rename_i t9 m2 h3
    split at h
    ·rename_i p1 r1 h4
     split at h
     ·rename_i ps h7
      split at h
      ·rename_i h5 h6
       injection h with h;subst h;exact⟨xs,ds,ps,zan _ hb,hn,h1,⟨m,t9,m2,p1,r1,_,h2,h3,h4,h7⟩,zll h5,h6⟩
      ·cases h
     ·cases h
    ·cases h
   ·cases h
  ·cases h
 ·cases h
theorem zb6 (L:List Int) (G:Gm.Gr) (hb:(L.all fun z=>decide (0<=z)&&decide (z<256))=true) (hl:L.length<=2000) (hg:gr9 L=some G) (w:World) (n:Nat) (hw:n=w.heap.size) :
  Calls Tryz.prog 23 #[.slice (some ⟨n,0,none⟩) L.length L.length] (w.alloc (zbj L)) fun e w'=>(∃g,e=.returned (.tuple #[g,.complex .f64 0 0,.int .i64 0])/\aU w' w'.heap.size g G/\Gm.Fit G)/\Below w.heap.size w w':=by
 subst hw;obtain⟨xs,ds,ps,hs⟩:=zlg hb hl hg;obtain⟨r1,r2⟩:=litM w L;exact(zlf _ L.length L xs ds ps G _ r1 (Nat.le_refl _) hs).mono fun e w' h=>⟨h.1,r2.trans (h.2.mono r2.size)⟩
def zln:List Int:=[37,37,32,115,32,58,32,39,97,39,32,115,32,124,32,59]
def a8:Gm.Gr:=⟨[⟨[39,97,39],0,0⟩],[[115]],[⟨0,[0,-1],0⟩,⟨0,[],-1⟩],0⟩
theorem zmj:gr9 zln=some a8:=by kernel_rfl
theorem za8:Gm.right a8=true:=by decide +kernel
theorem zjq:Gm.gn true a8.rs a8.ns.length=[true]:=by
 rw[<-Gm.grow_gn (Gm.right_ok.1 za8).lin];decide +kernel
theorem zlZ:Gm.rc a8=[true]:=by
 have h:=Gm.right_ok.1 za8;rw[<-Gm.reach_rc h.lin h.sin h.s0 h.s1,zjq];decide +kernel
theorem zkp:Gm.rdE a8=0:=Gm.rdE_ok za8 (by
 have hok:=Gm.right_ok.1 za8;have h0:=hok.s0;have h1:=hok.s1
 have e:Gm.tr (Gm.Gn true a8.rs a8.st)=(Gm.gn true a8.rs a8.ns.length).getD a8.st.toNat false:=by
  rw[Gm.gn_at _ _ _ _ (by omega),Int.toNat_of_nonneg h0]
 rw[e,zjq];decide)
theorem zlR {x:Gm.Rl} (hx:x∈a8.rs):Gm.use a8 x=Gm.rcB [true] [true] x:=by
 rw[<-Gm.use_rcB (Gm.right_ok.1 za8) hx,zjq,zlZ]
theorem zk0:Gm.krs a8=[⟨0,[0,-1],0⟩,⟨0,[],-1⟩]:=by
 have e:Gm.krs a8=a8.rs.filter (Gm.rcB [true] [true]):=List.filter_congr fun x hx=>zlR hx;exact e.trans (by kernel_rfl)
theorem zkx:Gm.olds a8=[0]:=by unfold Gm.olds;rw[zk0];decide +kernel
theorem zlX:Gm.reduce a8=a8:=by unfold Gm.reduce;rw[zk0,zkx];rfl
theorem zk3:Gm.isB a8=true:=by
 unfold Gm.isB Gm.rdG;rw[if_pos zkp,zlX,zkp,Gm.same_self];rfl
def zmd:List (List Au.It):=[[(-1,0)],[(0,1)],[(-1,1)],[(0,2)]]
def es15:List (List (Int×Int)):=[[(0,1),(-1,2)],[(0,1),(-1,3)],[],[]]
theorem zlC:Au.bld a8=some (zmd,es15):=Au.bld_c (by decide +kernel)
theorem zlA:Au.bldE a8=0:=(Au.bld_ok zk3 zlC).1
theorem zkn:Gm.right Gm.gr0=false:=by decide +kernel
theorem isB0:Gm.isB Gm.gr0=false:=by
 cases h:Gm.isB Gm.gr0
 ·rfl
 ·have:=Gm.isB_right h
  rw[zkn]at this;cases this
theorem zmr:Au.bldE Gm.gr0=1:=(Au.bld_no isB0).1
theorem nu15:Gm.gn false a8.rs a8.ns.length=[true]:=by
 rw[<-Gm.grow_gn (Gm.right_ok.1 za8).lin];decide +kernel
theorem zmm:Gm.fst a8=[1]:=by
 unfold Gm.fst;rw[nu15];decide +kernel
def ls15:List (List Au.It):=[[(-1,0),(0,0),(1,0)],[(0,0),(0,1),(1,0)],[(-1,1)],[(0,2)]]
theorem zkk:Lk.rowsL a8 zmd=ls15:=by
 unfold Lk.rowsL zmd ls15;rw[List.map_cons,List.map_cons,List.map_cons,List.map_cons,List.map_nil];rw[(Au.clo_c (G:=a8) (l:=[(-1,0)]) (by decide +kernel) (by decide +kernel)),(Au.clo_c (G:=a8) (l:=[(0,1)]) (by decide +kernel) (by decide +kernel)),(Au.clo_c (G:=a8) (l:=[(-1,1)]) (by decide +kernel) (by decide +kernel)),(Au.clo_c (G:=a8) (l:=[(0,2)]) (by decide +kernel) (by decide +kernel))];decide +kernel
def lk15:List (List (Int×Int)):=[[(1,2)],[(1,2)],[],[(0,2)]]
theorem zkO:Lk.lkS a8=lk15 :=
 (Lk.lkS_c2 zk3 zlC (Gm.right_ok.1 za8) zkk nu15 zmm 1 (S:=[[2,2,2],[2,2,2],[2],[2]]) (by decide +kernel) (by decide +kernel)).trans (by decide +kernel)
def zlm:List Int:=[37,37,32,115,32,58,32,108,32,39,61,39,32,114,32,124,32,114,32,59,32,108,32,58,32,39,42,39,32,114,32,124,32,39,105,39,32,59,32,114,32,58,32,108,32,59]
def aZ:Gm.Gr:=⟨[⟨[39,61,39],0,0⟩,⟨[39,42,39],0,0⟩,⟨[39,105,39],0,0⟩],[[115],[108],[114]],[⟨0,[-2,0,-3],0⟩,⟨0,[-3],-1⟩,⟨1,[1,-3],1⟩,⟨1,[2],2⟩,⟨2,[-2],-1⟩],0⟩
theorem zmi:gr9 zlm=some aZ:=by kernel_rfl
theorem za7:Gm.right aZ=true:=by decide +kernel
theorem zjp:Gm.gn true aZ.rs aZ.ns.length=[true,true,true]:=by
 rw[<-Gm.grow_gn (Gm.right_ok.1 za7).lin];decide +kernel
theorem zlY:Gm.rc aZ=[true,true,true]:=by
 have h:=Gm.right_ok.1 za7;rw[<-Gm.reach_rc h.lin h.sin h.s0 h.s1,zjp];decide +kernel
theorem zko:Gm.rdE aZ=0:=Gm.rdE_ok za7 (by
 have hok:=Gm.right_ok.1 za7;have h0:=hok.s0;have h1:=hok.s1
 have e:Gm.tr (Gm.Gn true aZ.rs aZ.st)=(Gm.gn true aZ.rs aZ.ns.length).getD aZ.st.toNat false:=by
  rw[Gm.gn_at _ _ _ _ (by omega),Int.toNat_of_nonneg h0]
 rw[e,zjp];decide)
theorem zlQ {x:Gm.Rl} (hx:x∈aZ.rs):Gm.use aZ x=Gm.rcB [true,true,true] [true,true,true] x:=by
 rw[<-Gm.use_rcB (Gm.right_ok.1 za7) hx,zjp,zlY]
theorem zkZ:Gm.krs aZ=aZ.rs:=by
 have e:Gm.krs aZ=aZ.rs.filter (Gm.rcB [true,true,true] [true,true,true]):=List.filter_congr fun x hx=>zlQ hx;exact e.trans (by kernel_rfl)
theorem zkw:Gm.olds aZ=[0,1,2]:=by unfold Gm.olds;rw[zkZ];decide +kernel
theorem zlW:Gm.reduce aZ=aZ:=by unfold Gm.reduce;rw[zkZ,zkw];rfl
theorem zk2:Gm.isB aZ=true:=by
 unfold Gm.isB Gm.rdG;rw[if_pos zko,zlW,zko,Gm.same_self];rfl
def zkY:List (List Au.It):=[[(-1,0)],[(2,1)],[(3,1)],[(-1,1)],[(0,1),(4,1)],[(1,1)],[(4,1)],[(2,2)],[(0,2)],[(0,3)]]
def es16:List (List (Int×Int)):=[[(1,1),(2,2),(-1,3),(-2,4),(-3,5)],[(1,1),(2,2),(-2,6),(-3,7)],[],[],[(0,8)],[],[],[],[(1,1),(2,2),(-2,6),(-3,9)],[]]
theorem zlB:Au.bld aZ=some (zkY,es16):=Au.bld_c (by decide +kernel)
theorem zlz:Au.bldE aZ=0:=(Au.bld_ok zk2 zlB).1
theorem nu16:Gm.gn false aZ.rs aZ.ns.length=[false,false,false]:=by
 rw[<-Gm.grow_gn (Gm.right_ok.1 za7).lin];decide +kernel
theorem zml:Gm.fst aZ=[6,6,6]:=by
 unfold Gm.fst;rw[nu16];decide +kernel
def ls16:List (List Au.It):=[[(-1,0),(0,0),(1,0),(2,0),(3,0),(4,0)],[(2,0),(2,1),(3,0),(4,0)],[(3,1)],[(-1,1)],[(0,1),(4,1)],[(1,1)],[(4,1)],[(2,2)],[(0,2),(2,0),(3,0),(4,0)],[(0,3)]]
theorem zkj:Lk.rowsL aZ zkY=ls16:=by
 have key:∀l∈zkY,Au.clo aZ l=Au.cloC aZ l:=fun l hl=>Au.clo_c (by
  have h:(zkY.all fun l=>l.all (Au.isI aZ))=true:=by decide +kernel
  exact fun x hx=>List.all_eq_true.1 (List.all_eq_true.1 h l hl) x hx) (by
  have h:(zkY.all fun l=>Au.addA aZ (Au.cloC aZ l)==Au.cloC aZ l)=true:=by decide +kernel
  exact eq_of_beq (List.all_eq_true.1 h l hl))
 unfold Lk.rowsL;rw[List.map_congr_left key];decide +kernel
def zhy:List (List (Int×Int)):=[[],[],[(3,9)],[],[(4,8)],[(1,8)],[(4,9)],[(2,9)],[],[(0,8)]]
theorem zkN:Lk.lkS aZ=zhy :=
 (Lk.lkS_c2 zk2 zlB (Gm.right_ok.1 za7) zkj nu16 zml 2 (S:=[[8,8,8,9,9,8],[9,9,9,9],[9],[8],[8,8],[8],[9],[9],[8,8,8,8],[8]]) (by decide +kernel) (by decide +kernel)).trans (by decide +kernel)
theorem lkS0:Lk.lkS Gm.gr0=[]:=Lk.lk_no isB0
namespace S
def has (s:Nat) (n:Int):Bool:=decide (0<=n/\n<=31)&&s.testBit n.toNat
theorem and_bit (s:Nat) (n:Int):(s &&& bit n != 0)=has s n:=by
 unfold has bit;split
 ·rename_i h
  cases hb:s.testBit n.toNat
  ·have e:s &&& 2 ^ n.toNat=0:=by
    apply Nat.eq_of_testBit_eq;intro i;rw[Nat.testBit_and,Nat.testBit_two_pow,Nat.zero_testBit];by_cases hi:n.toNat=i
    ·rw[<-hi,hb];rfl
    ·simp[hi]
   rw[e];simp
  ·have e:s &&& 2 ^ n.toNat≠0:=by
    intro e
    have:=congrArg (fun z=>Nat.testBit z n.toNat) e
    simp only[Nat.testBit_and,Nat.testBit_two_pow,hb,Nat.zero_testBit]at this;simp at this
   simp[h,e]
 ·rename_i h;simp[h]
end S
theorem zf7 (s:Nat) (n:Int) (w:World) (hs:s<4294967296) (hn:n<=9223372036854775807) :
  Calls Tryz.prog 31 #[.int .u32 s,.int .i64 n] w fun e w'=>e=.returned (.bool (S.has s n))/\∃q,w'=w.drewN q:=by
 have e:=aA (u32_and_nat s (S.bit n) hs (S.bit_lt n));have H:=aA (zhS n w hn)
 go_enter Tryz.func31,Tryz.ntmps31
 go_wp2_with fail
 refine H.o.mono ?_;rintro _ _ ⟨rfl,q,rfl⟩;go_wp2_with fail
 go_ret
 refine⟨aG ?_,_,rfl⟩;rw[e.o,<-S.and_bit];generalize s &&& S.bit n=a;rw[Bool.eq_iff_iff,bne_iff_ne,bne_iff_ne];omega
namespace Lk
def rl (l:List (Int×Int)) (n:Int):List Int:=(l.filter fun x=>S.has x.2.toNat n).map (·.1)
theorem rl_step {l:List (Int×Int)} {n:Int} {i:Nat} (h:i<l.length):rl (l.take (i+1)) n=rl (l.take i) n++if S.has (l[i]).2.toNat n=true then [(l[i]).1] else []:=by
 unfold rl;rw[List.take_succ_eq_append_getElem h,List.filter_append,List.map_append]
 congr 1
 rw[List.filter_cons];split <;> rfl
theorem rl_len (l:List (Int×Int)) (n:Int):(rl l n).length<=l.length:=by
 unfold rl;rw[List.length_map];exact List.length_filter_le _ _
end Lk
def zi1 (x:Int×Int):Prop:=Gm.In x.1/\0<=x.2/\x.2<4294967296
theorem zcx (l:List (Int×Int)) (n:Int) (A:Option Addr) (c B:Nat) (w:World) (hr:RdQ 2 lkF w B A l) (hB:B<=w.heap.size) (hin:∀x∈l,zi1 x) (hlen:l.length<=100000) :
  Calls Tryz.prog 15 #[.slice A l.length c,.int .i64 n] w fun e w'=>∃u,e=.returned u/\aS w' w.heap.size u (Lk.rl l n)/\Below w.heap.size w w':=by
 have HR:=aA hr;have HB:=aA hB;have HIN:=aA hin;have HLEN:=aA hlen;have hlI:(l.length:Int)<=100000:=by omega
 have HO0:Hid (aS w w.heap.size (.slice none 0 0) (Lk.rl (l.take 0) n)):=aA (aS.nil _ _);clear hr hB hin hlen
 go_enter Tryz.func15,Tryz.ntmps15
 go_wp2;go_loopw [10,5] (fun vi vu wr=>∃i:Nat,i<=l.length/\vi=.int .i64 i/\Hid (aS wr w.heap.size vu (Lk.rl (l.take i) n))/\Hid (Below w.heap.size w wr)) (fun vi _ _=>l.length-(intOf vi).toNat)
 case atStart=>exact⟨0,Nat.zero_le _,rfl,HO0,aA (Below.refl _ _)⟩
 case round =>
  obtain⟨i,hi,rfl,HO,HW⟩:=hrel;rename World=>wr;obtain⟨Au,cu,rfl,_,_,_⟩:=aS.form HO.o;by_cases hlt:i<l.length
  ·obtain⟨g,o,rfl,hgB,hc⟩:=HR.o (by omega);have hgb:g<w.heap.size:=Nat.lt_of_lt_of_le hgB HB.o;have k0:=(HW.o.cell (p:=⟨g,o+i*2+0,none⟩) hgb).trans (hc i hlt 0 (.int .i64 (l[i]).1) rfl);have k1:=(HW.o.cell (p:=⟨g,o+i*2+1,none⟩) hgb).trans (hc i hlt 1 (.int .u32 (l[i]).2) rfl);rw[Nat.add_zero]at k0;have hx:=HIN.o _ (List.getElem_mem hlt);have HST:=aA (Lk.rl_step (n:=n) hlt);have HRLN:=aA (Nat.le_trans (Lk.rl_len (l.take i) n) (by rw[List.length_take];omega:(l.take i).length<=l.length));have HLT:=aA hlt;have hiI:((i:Nat):Int)<((l.length:Nat):Int):=by omega
   have hx1:0<=(l[i]).2/\(l[i]).2<4294967296:=hx.2;clear hx;clear hc;generalize (l[i]).2=zi at *;obtain⟨z,rfl⟩:∃z:Nat,zi=(z:Int):=⟨zi.toNat,by have:=hx1.1;omega⟩
   have hzl:z<4294967296:=by have:=hx1.2;omega
   rw[Int.toNat_natCast]at HST;clear hx1;generalize (l[i]).1=r at *;obtain⟨wi,hwi⟩:∃y,y=wr.alloc (.cells #[.int .i64 r,.int .u32 (z:Int)] 46):=⟨_,rfl⟩
   have HBI:Hid (Below wr.heap.size wr wi):=aA (by rw[hwi];exact(Below.refl _ _).alloc (Nat.le_refl _) _);have HBX:Hid (wi.heap[wr.heap.size]?=some (.cells #[.int .i64 r,.int .u32 (z:Int)] 46 (0,0))):=aA (by rw[hwi];exact heap_alloc_new wr _);have y1:wi.cell? ⟨wr.heap.size,1,none⟩=some (.int .u32 (z:Int)):=cell_of_row wi _ 1 _ _ _ HBX.o;have HWI:=aA (HW.o.trans (HBI.o.mono HW.o.size));have HOI:=aA (HO.o.below HBI.o (Nat.le_refl _));have e:=u32_and_nat z (S.bit n) hzl (S.bit_lt n)
   have hne:(((z &&& S.bit n:Nat):Int) != 0)=S.has z n:=by
    rw[<-S.and_bit,Bool.eq_iff_iff,bne_iff_ne,bne_iff_ne];omega
   go_upto_region 5 with fail
   rw[<-hwi];clear hwi k0 k1;go_quiet ((go_at_call 30;exact Calls.quiet_of_same (zb4 _ _)))
   obtain⟨wq,hwq⟩:∃y,y=wi.drewN nq:=⟨_,rfl⟩
   rw[<-hwq];have HBQ:Hid (Below wi.heap.size wi wq):=aA (by rw[hwq];exact aB (Below.refl _ _) _);clear hwq y1;have HWQ:=aA (HWI.o.trans (HBQ.o.mono HWI.o.size));have HOQ:=aA (HOI.o.below HBQ.o (Nat.le_refl _));cases hh:S.has z n
   ·rw[hh]at HST;have HSN:Hid (Lk.rl (l.take (i+1)) n=Lk.rl (l.take i) n):=aA (by rw[HST.o];simp);rw[hh]at hne;clear hh HST;go_wp2;go_roundw
    case rel=>exact⟨i+1,HLT.o,by go_num,by rw[HSN.o];exact HOQ,HWQ⟩
    case measure=>simp[intOf];omega
   ·rw[hh]at HST;have HSN:Hid (Lk.rl (l.take (i+1)) n=Lk.rl (l.take i) n++[r]):=aA (by rw[HST.o];simp);rw[hh]at hne;clear hh HST;have y0:wq.cell? ⟨wr.heap.size,0,none⟩=some (.int .i64 r):=cell_of_row wq _ 0 _ _ _ (aC HBQ.o HBX.o);have HLA:Hid (Below wq.heap.size wq (wq.alloc (.cells #[.int .i64 r] 3))):=aA ((Below.refl _ _).alloc (Nat.le_refl _) _);have HOA:=aA (HOQ.o.alloc (.cells #[.int .i64 r] 3));have HNW:Hid ((wq.alloc (.cells #[.int .i64 r] 3)).cell? ⟨wq.heap.size,0,none⟩=some (.int .i64 r)):=aA (cell_of_row _ _ 0 _ _ _ (heap_alloc_new wq _));have HWA:=aA (HWQ.o.trans (HLA.o.mono HWQ.o.size));generalize Lk.rl (l.take i) n=xs at *;go_wp2_with (at_builtin;refine zaG rfl (.tmp 20) (.tmp 23) _ rfl Tryz.underlying38 w.heap.size _ xs rfl HOA.o _ _ r rfl HNW.o (by have:=HRLN.o;have:=HLEN.o;omega) HWA.o.size ?_;intro v5 w5 ho5 hg5;have HO5:=aA ho5;have HW5:=aA (HWA.o.grown hg5 HWA.o.size (fun k e=>(World.ownsRow.lt HOA.o k e).1));clear ho5 hg5)
    go_roundw
    case rel=>exact⟨i+1,HLT.o,by go_num,by rw[HSN.o];exact HO5,HW5⟩
    case measure=>simp[intOf];omega
  ·obtain rfl:i=l.length:=by omega
   rw[List.take_length]at HO ⊢;go_wp2;go_ret
   refine⟨_,?_,HO.o,HW.o⟩;rfl
theorem zdr (l:List (Int×Int)) (n:Int) (hn:Gm.In n) (A:Option Addr) (c B:Nat) (w:World) (hr:RdQ 2 lkF w B A l) (hB:B<=w.heap.size) (hin:∀x∈l,zi1 x) (hlen:l.length<=100000) :
  Calls Tryz.prog 16 #[.slice A l.length c,.int .i64 n] w fun e w'=>∃u,e=.returned u/\aS w' w.heap.size u (Lk.rl l n)/\Below w.heap.size w w':=by
 have HR:=aA hr;have HB:=aA hB;have HIN:=aA hin;have HLEN:=aA hlen;have HN:=aA hn;have hlI:(l.length:Int)<=100000:=by omega
 have HO0:Hid (aS w w.heap.size (.slice none 0 0) (Lk.rl (l.take 0) n)):=aA (aS.nil _ _);clear hr hB hin hlen hn
 go_enter Tryz.func16,Tryz.ntmps16
 go_wp2;go_loopw [6,5] (fun vi vu wr=>∃i:Nat,i<=l.length/\vi=.int .i64 i/\Hid (aS wr w.heap.size vu (Lk.rl (l.take i) n))/\Hid (Below w.heap.size w wr)) (fun vi _ _=>l.length-(intOf vi).toNat)
 case atStart=>exact⟨0,Nat.zero_le _,rfl,HO0,aA (Below.refl _ _)⟩
 case round =>
  obtain⟨i,hi,rfl,HO,HW⟩:=hrel;rename World=>wr;obtain⟨Au,cu,rfl,_,_,_⟩:=aS.form HO.o;by_cases hlt:i<l.length
  ·obtain⟨g,o,rfl,hgB,hc⟩:=HR.o (by omega);have hgb:g<w.heap.size:=Nat.lt_of_lt_of_le hgB HB.o;have k0:=(HW.o.cell (p:=⟨g,o+i*2+0,none⟩) hgb).trans (hc i hlt 0 (.int .i64 (l[i]).1) rfl);have k1:=(HW.o.cell (p:=⟨g,o+i*2+1,none⟩) hgb).trans (hc i hlt 1 (.int .u32 (l[i]).2) rfl);rw[Nat.add_zero]at k0;have hx:=HIN.o _ (List.getElem_mem hlt);have HST:=aA (Lk.rl_step (n:=n) hlt);have HRLN:=aA (Nat.le_trans (Lk.rl_len (l.take i) n) (by rw[List.length_take];omega:(l.take i).length<=l.length));have HLT:=aA hlt;have hiI:((i:Nat):Int)<((l.length:Nat):Int):=by omega
   have hx1:0<=(l[i]).2/\(l[i]).2<4294967296:=hx.2;clear hx;clear hc;generalize (l[i]).2=zi at *;obtain⟨z,rfl⟩:∃z:Nat,zi=(z:Int):=⟨zi.toNat,by have:=hx1.1;omega⟩
   have hzl:z<4294967296:=by have:=hx1.2;omega
   rw[Int.toNat_natCast]at HST;clear hx1;have HH:=aA (fun w=>zf7 z n w hzl (by have:=HN.o;unfold Gm.In at this;omega));have HK0:=aA k0;have HGW:Hid (g<w.heap.size):=aA hgb;clear k0 hgb;generalize (l[i]).1=r at *;go_wp2_with fail
   refine(HH.o _).mono ?_;rintro _ _ ⟨rfl,q,hwq⟩;rename World=>wq;have HBQ:Hid (Below wr.heap.size wr wq):=aA (by rw[hwq];exact aB (Below.refl _ _) _);have k0:wq.cell? ⟨g,o+i*2,none⟩=some (.int .i64 r):=by rw[hwq];exact HK0.o
   clear hwq k1;have HWQ:=aA (HW.o.trans (HBQ.o.mono HW.o.size));have HOQ:=aA (HO.o.below HBQ.o (Nat.le_refl _));cases hh:S.has z n
   ·rw[hh]at HST;have HSN:Hid (Lk.rl (l.take (i+1)) n=Lk.rl (l.take i) n):=aA (by rw[HST.o];simp);clear hh HST;go_wp2;go_roundw
    case rel=>exact⟨i+1,HLT.o,by go_num,by rw[HSN.o];exact HOQ,HWQ⟩
    case measure=>simp[intOf];omega
   ·rw[hh]at HST;have HSN:Hid (Lk.rl (l.take (i+1)) n=Lk.rl (l.take i) n++[r]):=aA (by rw[HST.o];simp);clear hh HST;have HLA:Hid (Below wq.heap.size wq (wq.alloc (.cells #[.int .i64 r] 3))):=aA ((Below.refl _ _).alloc (Nat.le_refl _) _);have HOA:=aA (HOQ.o.alloc (.cells #[.int .i64 r] 3));have HNW:Hid ((wq.alloc (.cells #[.int .i64 r] 3)).cell? ⟨wq.heap.size,0,none⟩=some (.int .i64 r)):=aA (cell_of_row _ _ 0 _ _ _ (heap_alloc_new wq _));have HWA:=aA (HWQ.o.trans (HLA.o.mono HWQ.o.size));generalize Lk.rl (l.take i) n=xs at *;go_wp2_with (at_builtin;refine zaG rfl (.tmp 20) (.tmp 26) _ rfl Tryz.underlying38 w.heap.size _ xs rfl HOA.o _ _ r rfl HNW.o (by have:=HRLN.o;have:=HLEN.o;omega) HWA.o.size ?_;intro v5 w5 ho5 hg5;have HO5:=aA ho5;have HW5:=aA (HWA.o.grown hg5 HWA.o.size (fun k e=>(World.ownsRow.lt HOA.o k e).1));clear ho5 hg5)
    go_roundw
    case rel=>exact⟨i+1,HLT.o,by go_num,by rw[HSN.o];exact HO5,HW5⟩
    case measure=>simp[intOf];omega
  ·obtain rfl:i=l.length:=by omega
   rw[List.take_length]at HO ⊢;go_wp2;go_ret
   refine⟨_,?_,HO.o,HW.o⟩;rfl
theorem zjt {y x:Int×Int} (he:y≠x):(∃b,((y.1==x.1)=false/\(y.2==x.2)=b))\/((y.1==x.1)=true/\(y.2==x.2)=false):=by
 by_cases e1:y.1=x.1
 ·refine .inr ⟨by rw[beq_iff_eq];exact e1,?_⟩;rw[beq_eq_false_iff_ne];exact fun e2=>he (Prod.ext e1 e2)
 ·exact .inl ⟨_,by rw[beq_eq_false_iff_ne];exact e1,rfl⟩
theorem zkB (g:Value) (B:Nat) (x:World) (hg:aU x B g a8) (hf:Gm.Fit a8) (hB:B<=x.heap.size) :
  Calls Tryz.prog 10 #[g] x fun e w'=>∃A c,e=.returned (.tuple #[.slice A 4 c,.int .i64 0])/\RdM 2 lkF w' w'.heap.size A lk15/\Below x.heap.size x w' :=
 (zec g a8 B x hg hf hB).mono fun e w' k=>by
  obtain⟨A,c,k1,_,_,k4,k5⟩:=k;rw[zlA,zkO]at k1;rw[zkO]at k4;exact⟨A,c,k1,k4,k5⟩
theorem zkA (g:Value) (B:Nat) (x:World) (hg:aU x B g aZ) (hf:Gm.Fit aZ) (hB:B<=x.heap.size) :
  Calls Tryz.prog 10 #[g] x fun e w'=>∃A c,e=.returned (.tuple #[.slice A 10 c,.int .i64 0])/\RdM 2 lkF w' w'.heap.size A zhy/\Below x.heap.size x w' :=
 (zec g aZ B x hg hf hB).mono fun e w' k=>by
  obtain⟨A,c,k1,_,_,k4,k5⟩:=k;rw[zlz,zkN]at k1;rw[zkN]at k4;exact⟨A,c,k1,k4,k5⟩
theorem zg1:Gm.Fit Gm.gr0:=⟨by simp[Gm.gr0],by simp[Gm.gr0],by simp[Gm.gr0],by unfold Gm.In;simp[Gm.gr0]⟩
theorem zkC (x:World):Calls Tryz.prog 10 #[.agg #[.slice none 0 0,.slice none 0 0,.slice none 0 0,.int .i64 0]] x fun e w'=>∃A c,e=.returned (.tuple #[.slice A 0 c,.int .i64 1])/\Below x.heap.size x w' :=
 (zec _ Gm.gr0 x.heap.size x (ziN x _) zg1 (Nat.le_refl _)).mono fun e w' k=>by
  obtain⟨A,c,k1,_,_,_,k5⟩:=k;rw[zmr,lkS0]at k1;exact⟨A,c,k1,k5⟩
theorem zfK (w:World):(Instr.build 26 #[]).run Tryz.prog w=.ok (.agg #[.slice none 0 0,.slice none 0 0,.slice none 0 0,.int .i64 0]) w:=run_build w 26 _ _ (by kernel_rfl)
theorem zfy (A A':Option Addr) (ca cb:Nat) (w:World) (hra:RdI w w.heap.size A [1]) (hrb:RdI w w.heap.size A' [1]) :
  Calls Tryz.prog 14 #[.slice A 1 ca,.slice A' 1 cb] w fun e w'=>e=.returned (.bool true)/\∃n,w'=w.drewN n :=
 (zeN A A' ca cb [1] [1] w hra hrb (by decide) (by decide)).mono fun e w' h=>⟨by rw[h.1,decide_eq_true rfl],h.2⟩
def zbi (i:Nat):Nat:=((zhy.take i).filter fun r=>r==[(4,8)]).length
theorem zfJ {i:Nat} (h:i<zhy.length):zbi (i+1)=zbi i+if zhy[i]=[(4,8)] then 1 else 0:=by
 unfold zbi;rw[List.take_succ_eq_append_getElem h,List.filter_append,List.length_append,List.filter_cons];by_cases e:zhy[i]=[(4,8)]
 ·rw[if_pos e,if_pos (by rw[e];decide)];rfl
 ·rw[if_neg e,if_neg (by rw[beq_iff_eq];exact e)];rfl
theorem zhg:zbi 10=1:=by decide
theorem zin (i:Nat):zbi i<=10:=by
 unfold zbi;refine Nat.le_trans (List.length_filter_le _ _) ?_;rw[List.length_take];exact Nat.le_trans (Nat.min_le_right _ _) (by decide)
theorem zgH:∀r∈zhy,r.length<=1:=by decide
theorem zen (w:World):Calls Tryz.prog 7 #[] w fun e w'=>e=.returned (.bool true)/\Below w.heap.size w w':=by
 have T1:=aA (zb6 zln a8 (by decide) (by decide) zmj w w.heap.size rfl);have T2:=aA (fun(w1:World)=>zb6 zlm aZ (by decide) (by decide) zmi w1 w1.heap.size rfl);have U1:=(show(convert 65 65 (.slice (some ⟨w.heap.size,0,none⟩) 16 16)).run Tryz.prog (w.alloc (.cells #[.int .u8 37,.int .u8 37,.int .u8 32,.int .u8 115,.int .u8 32,.int .u8 58,.int .u8 32,.int .u8 39,.int .u8 97,.int .u8 39,.int .u8 32,.int .u8 115,.int .u8 32,.int .u8 124,.int .u8 32,.int .u8 59] 5))=.ok (.slice (some ⟨w.heap.size,0,none⟩) 16 16) (w.alloc (zbj zln)) from zeK w zln 16 16)
 have V2:=aA (fun w:World=>show(convert 65 65 (.slice (some ⟨w.heap.size,0,none⟩) 46 46)).run Tryz.prog (w.alloc (.cells #[.int .u8 37,.int .u8 37,.int .u8 32,.int .u8 115,.int .u8 32,.int .u8 58,.int .u8 32,.int .u8 108,.int .u8 32,.int .u8 39,.int .u8 61,.int .u8 39,.int .u8 32,.int .u8 114,.int .u8 32,.int .u8 124,.int .u8 32,.int .u8 114,.int .u8 32,.int .u8 59,.int .u8 32,.int .u8 108,.int .u8 32,.int .u8 58,.int .u8 32,.int .u8 39,.int .u8 42,.int .u8 39,.int .u8 32,.int .u8 114,.int .u8 32,.int .u8 124,.int .u8 32,.int .u8 39,.int .u8 105,.int .u8 39,.int .u8 32,.int .u8 59,.int .u8 32,.int .u8 114,.int .u8 32,.int .u8 58,.int .u8 32,.int .u8 108,.int .u8 32,.int .u8 59] 5))=.ok (.slice (some ⟨w.heap.size,0,none⟩) 46 46) (w.alloc (zbj zlm)) from zeK w zlm 46 46);have hl1:zln.length=16:=rfl;have hl2:zlm.length=46:=rfl;rw[hl1]at T1;rw[hl2]at T2;clear hl1 hl2;have HOZ:=aA (fun(x:World)=>zkC x);have hbg:=fun w=>zfK w
 go_enter Tryz.func7,Tryz.ntmps7
 go_wp2_with fail
 refine T1.o.mono ?_;rintro _ w1 ⟨⟨g,rfl,hg1,hft1⟩,hb1⟩;have HOA:=aA (fun(x:World) (h:Below w1.heap.size w1 x)=>zkB g w1.heap.size x (hg1.below h (Nat.le_refl _)) hft1 h.size);obtain⟨AT,cT,AN,cN,AR,cR,rfl,_,_,_,_,_,_⟩:=hg1;have HB1:=aA hb1;have HQ1:=aA (One.start w1 #[.slice AT a8.ts.length cT,.slice AN a8.ns.length cN,.slice AR a8.rs.length cR,.int .i64 a8.st]);have HY1:=aA (fun(x:World) (h:One w1 #[.slice AT a8.ts.length cT,.slice AN a8.ns.length cN,.slice AR a8.rs.length cR,.int .i64 a8.st] x)=>And.intro (h.c 0 _ rfl) (And.intro (h.c 1 _ rfl) (And.intro (h.c 2 _ rfl) (h.c 3 _ rfl))));clear hb1 U1 T1 hft1;obtain⟨wa,hwa⟩:∃y,y=w1.alloc (.cells #[.slice AT a8.ts.length cT,.slice AN a8.ns.length cN,.slice AR a8.rs.length cR,.int .i64 a8.st] 26):=⟨_,rfl⟩
 rw[<-hwa]at HQ1;go_upto_region 2 with fail
 rw[<-hwa];clear hwa;obtain⟨x0,x1,x2,x3⟩:=HY1.o wa HQ1.o;have l1:w1.heap.size<wa.heap.size:=HQ1.o.size;go_wp2_with fail
 refine(HOA.o wa HQ1.o.below).mono ?_;rintro _ w2 ⟨A2,c2,rfl,hr2,hb2⟩;have HB2:=aA (HB1.o.trans ((HQ1.o.on hb2).below.mono HB1.o.size));have HR2:=aA hr2;clear x0 x1 x2 x3 l1 hr2 hb2 HOA HQ1 HY1;have U2:=V2.o w2;have T3:=aA (T2.o w2);clear V2 T2;go_wp2_with fail
 refine T3.o.mono ?_;rintro _ w3 ⟨⟨g2,rfl,hg2,hft2⟩,hb3⟩;have HB3:=aA (HB2.o.trans (hb3.mono HB2.o.size));have HR3:=aA (HR2.o.below hb3 (Nat.le_refl _));have HS3:=aA hb3.size;clear hb3 U2 T3 HR2;have HOB:=aA (fun(x:World) (h:Below w3.heap.size w3 x)=>zkA g2 w3.heap.size x (hg2.below h (Nat.le_refl _)) hft2 h.size);obtain⟨AT2,cT2,AN2,cN2,AR2,cR2,rfl,_,_,_,_,_,_⟩:=hg2;have HQ3:=aA (One.start w3 #[.slice AT2 aZ.ts.length cT2,.slice AN2 aZ.ns.length cN2,.slice AR2 aZ.rs.length cR2,.int .i64 aZ.st]);have HY3:=aA (fun(x:World) (h:One w3 #[.slice AT2 aZ.ts.length cT2,.slice AN2 aZ.ns.length cN2,.slice AR2 aZ.rs.length cR2,.int .i64 aZ.st] x)=>And.intro (h.c 0 _ rfl) (And.intro (h.c 1 _ rfl) (And.intro (h.c 2 _ rfl) (h.c 3 _ rfl))));clear hft2;obtain⟨wb,hwb⟩:∃y,y=w3.alloc (.cells #[.slice AT2 aZ.ts.length cT2,.slice AN2 aZ.ns.length cN2,.slice AR2 aZ.rs.length cR2,.int .i64 aZ.st] 26):=⟨_,rfl⟩
 rw[<-hwb]at HQ3;go_upto_region 4 with fail
 rw[<-hwb];clear hwb;obtain⟨x0,x1,x2,x3⟩:=HY3.o wb HQ3.o;have l1:w3.heap.size<wb.heap.size:=HQ3.o.size;go_wp2_with fail
 refine(HOB.o wb HQ3.o.below).mono ?_;rintro _ w4 ⟨A4,c4,rfl,hr4,hb4⟩;have HB34:=aA ((HQ3.o.on hb4).below);have HB4:=aA (HB3.o.trans (HB34.o.mono HB3.o.size));have HR4:=aA (HR3.o.below HB34.o HS3.o);have HS4:=aA (Nat.le_trans HS3.o HB34.o.size);have HM4:=aA hr4;clear x0 x1 x2 x3 l1 hr4 hb4 HOB HQ3 HY3 HB34 HR3 HS3;go_wp2_with fail
 refine(HOZ.o w4).mono ?_;rintro _ w5 ⟨A5,c5,rfl,hb5⟩;have HB5:=aA (HB4.o.trans (hb5.mono HB4.o.size));have HR5:=aA (HR4.o.below hb5 HS4.o);have HM5:=aA (HM4.o.below hb5 (Nat.le_refl _));have HS5:=aA (Nat.le_trans HS4.o hb5.size);have HZ5:=aA hb5.size;clear hb5 HOZ hbg HR4 HM4;obtain⟨gA,oA,rfl,hgA,hcA⟩:=HR5.o (by decide);obtain⟨Ar,cr,k0,_,_,hr0⟩:=hcA 0 (by decide);obtain⟨gr,or,rfl,hgr,hcr⟩:=hr0 (by decide);have k0:w5.cell? ⟨gA,oA,none⟩=some (.slice (some ⟨gr,or,none⟩) 1 cr):=k0;have k1:w5.cell? ⟨gr,or,none⟩=some (.int .i64 1):=hcr 0 (by decide) 0 _ rfl;have k2:w5.cell? ⟨gr,or+1,none⟩=some (.int .u32 2):=hcr 0 (by decide) 1 _ rfl;have l0:gA<w5.heap.size:=Nat.lt_of_lt_of_le hgA HS5.o;have lr0:gr<w5.heap.size:=Nat.lt_of_lt_of_le hgr HS5.o;have HRR:Hid (RdQ 2 lkF w5 w2.heap.size (some ⟨gr,or,none⟩) [(1,2)]):=aA hr0;clear hcA hcr hr0 hgA hgr HR5;go_wp2;go_loopw [13,14] (fun vc vi wr=>∃i:Nat,i<=10/\vi=.int .i64 i/\vc=.int .i64 (zbi i)/\Hid (wr=w5)) (fun _ vi _=>10-(intOf vi).toNat)
 case atStart=>exact⟨0,Nat.zero_le _,rfl,rfl,aA rfl⟩
 case round =>
  obtain⟨i,hi,rfl,rfl,HW⟩:=hrel;obtain rfl:=HW.o;rename World=>wr;have hcl:(zbi i:Int)<=10:=by have:=zin i;omega
  by_cases hlt:i<10
  ·have hll:zhy.length=10:=rfl;have hl16:i<zhy.length:=by omega
   obtain⟨gM,oM,rfl,hgM,hcM⟩:=HM5.o (by decide);obtain⟨Ai,ci,m0,_,_,hri⟩:=hcM i hl16;have lM:gM<wr.heap.size:=Nat.lt_of_lt_of_le hgM HZ5.o;have HST:=aA (zfJ hl16);have hle1:=zgH _ (List.getElem_mem hl16);have hiI:((i:Nat):Int)<10:=by omega
   have HRI:=aA hri;have HLT:=aA hlt;clear hcM hgM hri hll;generalize zhy[i]=row at *;clear hl16 hlt
   match row,hle1 with
   | [],_ =>
    have HC:Hid (zbi (i+1)=zbi i):=aA (by rw[HST.o,if_neg (by decide)];rfl);have m0:wr.cell? ⟨gM,oM+i,none⟩=some (.slice Ai 0 ci):=m0;clear HST;go_wp2;go_roundw
    case rel=>exact⟨i+1,HLT.o,by go_num,by rw[HC.o],aA trivial⟩
    case measure=>simp[intOf];have:=HLT.o;omega
   | [x],_ =>
    obtain⟨gx,ox,rfl,hgx,hcx⟩:=HRI.o (by simp);have m0:wr.cell? ⟨gM,oM+i,none⟩=some (.slice (some ⟨gx,ox,none⟩) 1 ci):=m0;have lx:gx<wr.heap.size:=Nat.lt_of_lt_of_le hgx HZ5.o;have m1:wr.cell? ⟨gx,ox,none⟩=some (.int .i64 x.1):=hcx 0 (by simp) 0 _ rfl;have m2:wr.cell? ⟨gx,ox+1,none⟩=some (.int .u32 x.2):=hcx 0 (by simp) 1 _ rfl;clear hcx hgx;by_cases he:x=(4,8)
    ·subst he;have HC:Hid (zbi (i+1)=zbi i+1):=aA (by rw[HST.o,if_pos rfl]);clear HST;go_wp2;go_roundw
     case rel=>exact⟨i+1,HLT.o,by go_num,by rw[HC.o];go_num,aA trivial⟩
     case measure=>simp[intOf];have:=HLT.o;omega
    ·have HC:Hid (zbi (i+1)=zbi i):=aA (by rw[HST.o,if_neg (fun e=>he (by injection e))];rfl);have hpn:=zjt he;clear HST he;rcases hpn with⟨b0,hq1,hq2⟩|⟨hq1,hq2⟩
     all_goals
      go_wp2;go_roundw
      case rel=>exact⟨i+1,HLT.o,by go_num,by rw[HC.o],aA trivial⟩
      case measure=>simp[intOf];have:=HLT.o;omega
  ·obtain rfl:i=10:=by omega
   rw[zhg];clear hlt hi hcl;have HD16:=aA (show Lk.rl [(1,2)] 1=[1] by decide);have HE16:=aA (show Lk.rl [(1,2)] 0=[] by decide);have HIN:Hid (∀x∈[((1:Int),(2:Int))],zi1 x):=aA (by unfold zi1 Gm.In;simp);have HRU:=aA (fun(n:Int) (x:World) (h:Below wr.heap.size wr x)=>zcx [(1,2)] n (some ⟨gr,or,none⟩) cr w2.heap.size x (HRR.o.below h HS5.o) (Nat.le_trans HS5.o h.size) HIN.o (by decide));have HRA:=aA (show Calls Tryz.prog 15 #[.slice (some ⟨gr,or,none⟩) 1 cr,.int .i64 1] wr _ from HRU.o 1 wr (Below.refl _ _));go_wp2_with fail
   refine HRA.o.mono ?_;rintro _ w6 ⟨u6,rfl,ho6,hb6⟩;rw[HD16.o]at ho6;obtain⟨A6,c6,rfl,_,_,hr6⟩:=aS.form ho6;have HIX:=aA (show Calls Tryz.prog 14 #[.slice A6 1 c6,.slice (some ⟨w6.heap.size,0,none⟩) 1 1] (w6.alloc (.cells #[.int .i64 1] 3)) _ from zfy A6 (some ⟨w6.heap.size,0,none⟩) c6 1 (w6.alloc (zbv [1])) ((hr6.below ((Below.refl _ _).alloc (Nat.le_refl _) (zbv [1])) (Nat.le_refl _)).more (by simp)) (zh9 w6 [1]).1);have HB6:=aA hb6;have HK0:=aA k0;have HG0:=aA l0;clear hb6 ho6 hr6 k0 k1 k2 l0 lr0 HRA;have HB6A:Hid (Below wr.heap.size wr (w6.alloc (.cells #[.int .i64 1] 3))):=aA (HB6.o.alloc HB6.o.size _);have e1:([1]:List Int).length=1:=rfl;rw[e1];clear e1;go_wp2_with fail
   refine HIX.o.mono ?_;rintro _ w7 ⟨rfl,n7,hw7⟩;have HB7:Hid (Below wr.heap.size wr w7):=aA (by rw[hw7];exact aB HB6A.o _);clear hw7 HIX HB6A HB6;have k0:=(HB7.o.cell (p:=⟨gA,oA,none⟩) HG0.o).trans HK0.o;have l0:=Nat.lt_of_lt_of_le HG0.o HB7.o.size;have HRA:=aA (show Calls Tryz.prog 15 #[.slice (some ⟨gr,or,none⟩) 1 cr,.int .i64 0] w7 _ from HRU.o 0 w7 HB7.o);go_wp2_with fail
   refine HRA.o.mono ?_;rintro _ w8 ⟨u8,rfl,ho8,hb8⟩;rw[HE16.o]at ho8;obtain⟨A8,c8,rfl,_,_,hr8⟩:=aS.form ho8;have HB8:=aA (HB5.o.trans ((HB7.o.trans (hb8.mono HB7.o.size)).mono HB5.o.size));have e0:([]:List Int).length=0:=rfl;rw[e0];clear ho8 hr8 hb8 k0 l0 HRA HRU e0;go_wp2;go_ret
   exact⟨rfl,HB8.o⟩
end Go.Proofs.YtcmhaemaophplaaGreat
namespace Go.Proofs.YtcmhaemaophplaaGreat
set_option maxRecDepth 100000
set_option maxHeartbeats 40000000
open Go.ChangeShapes Go.WideShapes Go.Deep Go.RowKit Go.Joins
section
variable {H:Type} {enc:TypeId×Value->H} {P:Program} {w:World} {base:Nat} {spare:Nat->Bool} {held:Bool}
theorem zhX {t e:TypeId} {f0 f1:Field} {fuel:Nat} {cs:List Value} {x:DataW H×List MemPlace} (ht:P.underlying t=some (.slice e)) (he:P.underlying e=some (.struct #[f0,f1]))
  (hone:oneCellFields P #[f0,f1]=true) (hC:P.cellsOf e=2) (h0:P.underlying f0.type=some (.int .i64)) (h1:P.underlying f1.type=some (.int .u32)) (h:DataW.trod enc P w base spare held fuel t cs=some x) :
  ∃A n c xs,cs=[.slice A n c]/\n=xs.length/\n<=c/\c<=9223372036854775807/\RdQ 2 lkF w w.heap.size A xs/\∀x∈xs,zi1 x:=by
 rcases zgv ht he hone hC h with rfl|⟨a,len,cap,rfl,hl,hm,hi⟩
 ·exact⟨none,0,0,[],rfl,rfl,Nat.le_refl _,by omega,fun h=>absurd rfl h,fun x hx=>by simp at hx⟩
 ·have hp:∀i,i<len->∃t:Int×Int,(w.cell? (a.add (i*2))=some (.int .i64 t.1)/\w.cell? (a.add (i*2+1))=some (.int .u32 t.2))/\zi1 t:=fun i hil=>by
   obtain⟨v0,y0,n0,c0,t0⟩:=hi i hil 0 f0 rfl;obtain⟨v1,y1,n1,c1,t1⟩:=hi i hil 1 f1 rfl;obtain⟨z0,e0,_,w0⟩:=DataW.trod_int h0 t0;obtain⟨z1,e1,_,w1⟩:=DataW.trod_int h1 t1;injection e0 with e0;injection e1 with e1;subst e0 e1;have b1:=bounds_u32 w1;exact⟨⟨z0,z1⟩,⟨c0,c1⟩,bounds_i64 w0,by simp only;omega,by simp only;omega⟩
  obtain⟨ts,htl,hts⟩:=zjG len _ hp;refine⟨some a,len,cap,ts,rfl,htl.symm,hl,by unfold maxLen at hm;omega,fun hn=>?_,fun x hx=>?_⟩
  ·have ha:=zfo (hts 0 (by omega)).1.1 (Nat.zero_mul 2);refine⟨a.block,a.off,congrArg some ha,?_,fun i hi j u hu=>?_⟩
   ·have:=block_lt_of_cell (hts 0 (by omega)).1.1
    simpa[Addr.add] using this
   ·have:=(hts i hi).1
    rw[ha,add_plain,add_plain]at this
    match j,hu with
    | 0,hu=>simp[lkF]at hu;subst hu;exact this.1
    | 1,hu=>simp[lkF]at hu;subst hu;exact this.2
    | j+2,hu=>simp[lkF]at hu
  ·obtain⟨i,hi,rfl⟩:=List.getElem_of_mem hx;exact(hts i hi).2
end
end Go.Proofs.YtcmhaemaophplaaGreat
namespace Go.Proofs.YtcmhaemaophplaaGreat
set_option maxRecDepth 100000
set_option maxHeartbeats 40000000
open Go.RowKit
theorem zci (l:List (Int×Int)) (n:Int) (A:Option Addr) (c:Nat) (w:World) (hn:Gm.In n) (hl:RdQ 2 lkF w w.heap.size A l) (hin:∀x∈l,zi1 x) (hlen:l.length<=9223372036854775807) :
  Calls Tryz.prog 4 #[.slice A l.length c,.int .i64 n] w fun e w'=>e=.returned (.bool true)/\Below w.heap.size w w':=by
 have HAL:=aA (fun(x:World)=>zen x);have HRA:=aA (fun(h1:l.length<=100000) (x:World) (h:Below w.heap.size w x)=>zcx l n A c w.heap.size x (hl.below h (Nat.le_refl _)) h.size hin h1);have HRB:=aA (fun(h1:l.length<=100000) (x:World) (h:Below w.heap.size w x)=>zdr l n hn A c w.heap.size x (hl.below h (Nat.le_refl _)) h.size hin h1);have HLN:=aA (Lk.rl_len l n);have hlI:(l.length:Int)<=9223372036854775807:=by omega
 clear hl hin
 go_enter Tryz.func4,Tryz.ntmps4
 go_wp2_with fail
 refine(HAL.o _).mono ?_;rintro _ w1 ⟨rfl,hb1⟩;by_cases h1:100<l.length
 ·have hI:(100:Int)<(l.length:Int):=by omega
  clear h1 HRA HRB HLN hlen;generalize l.length=m at *;go_wp2;go_ret
  exact⟨rfl,hb1⟩
 ·have hI:(l.length:Int)<=100:=by omega
  have HRA:=aA (HRA.o (by omega));have HRB:=aA (HRB.o (by omega));have HLL:Hid (l.length<=100):=aA (by omega);have HB1:=aA hb1;clear h1 hlen hb1;generalize Lk.rl l n=rs at *;generalize l.length=m at *;go_wp2_with fail
  refine(HRA.o w1 HB1.o).mono ?_;rintro _ w2 ⟨u2,rfl,ho2,hb2⟩;obtain⟨A2,c2,rfl,_,_,hr2⟩:=aS.form ho2;have HB2:=aA (HB1.o.trans (hb2.mono HB1.o.size));have HR2:=aA hr2;clear ho2 hr2 hb2;go_wp2_with fail
  refine(HRB.o w2 HB2.o).mono ?_;rintro _ w3 ⟨u3,rfl,ho3,hb3⟩;obtain⟨A3,c3,rfl,_,_,hr3⟩:=aS.form ho3;have HB3:=aA (HB2.o.trans (hb3.mono HB2.o.size));have HIX:=aA (zeN A2 A3 c2 c3 rs rs w3 ((HR2.o.below hb3 (Nat.le_refl _)).more hb3.size) hr3 (by have:=HLN.o;have:=HLL.o;omega) (by have:=HLN.o;have:=HLL.o;omega));rw[decide_eq_true (rfl:rs=rs)]at HIX;clear ho3 hr3 hb3;go_wp2_with fail
  refine HIX.o.mono ?_;rintro _ w4 ⟨rfl,n4,hw4⟩;have HB4:Hid (Below w.heap.size w w4):=aA (by rw[hw4];exact aB HB3.o _);clear hw4;go_wp2;go_ret
  exact⟨rfl,HB4.o⟩
end Go.Proofs.YtcmhaemaophplaaGreat
namespace Go.Proofs.YtcmhaemaophplaaGreat.RowKit
open Go.ChangeShapes Go.WideShapes Go.ChangeAt Go.RowKit
theorem own:ownKnob Tryz.prog.godebug=none:=by kernel_rfl
theorem laidOut:laidOutB Tryz.prog=true:=by kernel_rfl
end Go.Proofs.YtcmhaemaophplaaGreat.RowKit
